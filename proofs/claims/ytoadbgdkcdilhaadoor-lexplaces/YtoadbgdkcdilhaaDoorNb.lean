/- The second saying's number: what it answers. -/
import Derived.Test.YtoadbgdkcdilhaaDoorSk
namespace Go.Proofs.YtoadbgdkcdilhaaDoor
open Go.RowKit

/-- The loop of number: none: too great. -/
def numL (acc : Nat) : List UInt8 → Option Nat
  | [] => some acc
  | c :: r => if c.toNat = 45 then numL acc r else if (4611686018427387904 - (c.toNat - 48)) / 10 < acc then none else numL (10 * acc + (c.toNat - 48)) r

def Digs (l : List UInt8) : Prop := ∀ c ∈ l, 48 ≤ c.toNat ∧ c.toNat ≤ 57

theorem parse_ge (M : Nat) : ∀ (l : List UInt8) (acc : Nat), Digs l → Lib.parseUintM M acc l = .range ∨ ∃ u, Lib.parseUintM M acc l = .ok u ∧ acc ≤ u
  | [], acc, _ => by right; exact ⟨acc, rfl, Nat.le_refl _⟩
  | c :: r, acc, h => by
    have hc := h c (by simp)
    rw [Lib.parseUintM, if_pos hc]
    split
    · left; rfl
    · split
      · left; rfl
      · rcases parse_ge M r (acc * 10 + (c.toNat - 48)) (fun x hx => h x (by simp [hx])) with h1 | ⟨u, h1, h2⟩
        · left; exact h1
        · right; exact ⟨u, h1, by omega⟩

theorem num_parse : ∀ (l : List UInt8) (acc : Nat), Digs l → acc ≤ 4611686018427387904 →
    (∀ u, numL acc l = some u → Lib.parseUintM 18446744073709551615 acc l = .ok u ∧ u ≤ 4611686018427387904) ∧
    (numL acc l = none → Lib.parseUintM 18446744073709551615 acc l = .range ∨ ∃ u, Lib.parseUintM 18446744073709551615 acc l = .ok u ∧ 4611686018427387904 < u)
  | [], acc, _, ha => by
    refine ⟨fun u h => ?_, fun h => by cases h⟩
    cases h
    exact ⟨rfl, ha⟩
  | c :: r, acc, h, ha => by
    have hc := h c (by simp)
    have hr : Digs r := fun x hx => h x (by simp [hx])
    rw [numL, if_neg (by omega), Lib.parseUintM, if_pos hc]
    by_cases hg : (4611686018427387904 - (c.toNat - 48)) / 10 < acc
    · rw [if_pos hg]
      refine ⟨(fun u h => by cases h), fun _ => ?_⟩
      split
      · left; rfl
      · split
        · left; rfl
        · rcases parse_ge 18446744073709551615 r (acc * 10 + (c.toNat - 48)) hr with h1 | ⟨u, h1, h2⟩
          · left; exact h1
          · right; exact ⟨u, h1, by omega⟩
    · rw [if_neg hg, if_neg (by omega), if_neg (by omega), Nat.mul_comm acc 10]
      exact num_parse r (10 * acc + (c.toNat - 48)) hr (by omega)

/-- What number answers of digits, and of digits with a '-' ahead. -/
theorem num_plain {ds : List UInt8} (h : Digs ds) (hne : ds ≠ []) : valP ds = Option.map (fun u : Nat => (u : Int)) (numL 0 ds) := by
  obtain ⟨h1, h2⟩ := num_parse ds 0 h (by omega)
  cases hd : ds with
  | nil => exact absurd hd hne
  | cons c r =>
    rw [hd] at h1 h2 h
    have hc := h c (by simp)
    unfold valP Lib.parseIntB Lib.parseUintB
    simp only
    rw [if_neg (show ¬ (c.toNat = 43 ∨ c.toNat = 45) by omega), if_neg (by simp)]
    rw [show 2 ^ 64 - 1 = 18446744073709551615 by decide]
    cases hn : numL 0 (c :: r) with
    | some u =>
      obtain ⟨h3, h4⟩ := h1 u hn
      rw [h3]
      simp only
      have e63 : (2 : Nat) ^ (64 - 1) = 9223372036854775808 := by decide
      rw [if_neg (by rw [e63]; omega), if_neg (by omega), if_neg (by omega)]
      simp only [Option.map_some]
      rw [if_pos (by omega)]
    | none =>
      rcases h2 hn with h3 | ⟨u, h3, h4⟩
      · rw [h3]; rfl
      · rw [h3]
        simp only [Option.map_none]
        have e63 : (2 : Nat) ^ (64 - 1) = 9223372036854775808 := by decide
        by_cases h5 : 9223372036854775808 ≤ u
        · rw [if_pos (by rw [e63]; exact ⟨by omega, h5⟩)]
        · rw [if_neg (by rw [e63]; omega), if_neg (by omega), if_neg (by omega)]
          simp only
          rw [if_neg (by omega)]

theorem num_minus {ds : List UInt8} (h : Digs ds) (hne : ds ≠ []) : valP (45 :: ds) = Option.map (fun u : Nat => -(u : Int)) (numL 0 (45 :: ds)) := by
  obtain ⟨h1, h2⟩ := num_parse ds 0 h (by omega)
  unfold valP Lib.parseIntB Lib.parseUintB
  simp only
  rw [if_pos (show UInt8.toNat 45 = 43 ∨ UInt8.toNat 45 = 45 by decide), if_neg hne, numL, if_pos (by decide)]
  rw [show 2 ^ 64 - 1 = 18446744073709551615 by decide]
  have e63 : (2 : Nat) ^ (64 - 1) = 9223372036854775808 := by decide
  cases hn : numL 0 ds with
  | some u =>
    obtain ⟨h3, h4⟩ := h1 u hn
    rw [h3]
    simp only
    rw [if_neg (by simp), if_neg (by rw [e63]; omega), if_pos (by decide)]
    simp only [Option.map_some]
    rw [if_pos (by omega)]
  | none =>
    rcases h2 hn with h3 | ⟨u, h3, h4⟩
    · rw [h3]; rfl
    · rw [h3]
      simp only [Option.map_none]
      rw [if_neg (by simp)]
      by_cases h5 : 9223372036854775808 < u
      · rw [if_pos (by rw [e63]; exact ⟨by decide, h5⟩)]
      · rw [if_neg (by rw [e63]; omega), if_pos (by decide)]
        simp only
        rw [if_neg (by omega)]

/-- What number answers. -/
def NumOut (l : List UInt8) (w : World) (e : Ending) (w' : World) : Prop :=
  ((numL 0 l = none ∧ e = .returned (.tuple #[.int .i64 0, .bool false])) ∨ (∃ u, numL 0 l = some u ∧ e = .returned (.tuple #[.int .i64 (if byt l 0 = 45 then -(u : Int) else u), .bool true]))) ∧ Below w.heap.size w w'

theorem numL_drop {l : List UInt8} {k acc : Nat} (hk : k < l.length) : numL acc (l.drop k) = if (l[k]).toNat = 45 then numL acc (l.drop (k + 1)) else if (4611686018427387904 - ((l[k]).toNat - 48)) / 10 < acc then none else numL (10 * acc + ((l[k]).toNat - 48)) (l.drop (k + 1)) := by
  rw [List.drop_eq_getElem_cons hk, numL]

set_option linter.unusedSimpArgs false in
set_option maxHeartbeats 2000000 in
theorem number_any (s : ByteArray) (l : List UInt8) (w : World) (hl : s.data.toList = l) (hm : s.size ≤ 5000) (h0 : 0 < l.length) (hd : ∀ c ∈ l, c.toNat = 45 ∨ (48 ≤ c.toNat ∧ c.toNat ≤ 57)) :
    Calls Tryd.prog 21 #[.string s] w (NumOut l w) := by
  have HZ := hide (size_len s l hl)
  have HG : Hid (∀ (i : Nat) (h : i < s.size), ((s[i]'h).toNat : Int) = byt l i) := get_byt s l hl
  have HD := hide hd
  have hs0 : 0 < s.size := by have := HZ.out; omega
  have e0 := HG.out 0 hs0
  have m45 : (((s[0]'hs0).toNat : Int) == 45) = decide (byt l 0 = 45) := by rw [e0, Bool.eq_iff_iff]; simp
  clear e0 hd h0
  generalize hmn : decide (byt l 0 = 45) = mn at *
  have HMN := hide hmn
  clear hmn
  go_enter Tryd.func21, Tryd.ntmps21
  go_wp2_with fail
  go_quiet (fail)
  have HB0 : Hid (Below w.heap.size w (w.drewN nq)) := ⟨rfl, rfl, rfl, Nat.le_refl _, fun _ _ => rfl⟩
  generalize w.drewN nq = w1 at *
  go_wp2_with fail
  go_loopw [4, 6, 7] (fun a i _ wr => ∃ acc k : Nat, a = .int .u64 acc ∧ i = .int .i64 k ∧ k ≤ s.size ∧ acc ≤ 4611686018427387904 ∧ Hid (numL acc (l.drop k) = numL 0 l) ∧ wr = w1) (fun _ i _ _ => s.size - (intOf i).toNat)
  case atStart => exact ⟨0, 0, rfl, rfl, by omega, by omega, rfl, rfl⟩
  case round =>
    obtain ⟨acc, k, rfl, rfl, hk, hacc, HN, rfl⟩ := hrel
    by_cases hlt : k < s.size
    · have hkl : k < l.length := by have := HZ.out; omega
      have E := hide (HG.out k hlt)
      have hb : byt l k = ((l[k]).toNat : Int) := by unfold byt; rw [List.getD_eq_getElem?_getD, List.getElem?_eq_getElem hkl]; rfl
      have hstep := numL_drop (acc := acc) hkl
      have hdc := HD.out l[k] (List.getElem_mem hkl)
      rcases hdc with h45 | hdg
      · have e45 : (((s[k]'hlt).toNat : Int) == 45) = true := by rw [E.out, hb, h45]; rfl
        rw [if_pos h45] at hstep
        have HN2 : Hid (numL acc (l.drop (k + 1)) = numL 0 l) := hstep.symm.trans HN.out
        clear hstep hb h45
        go_wp2_with fail
        go_roundw
        case rel => exact ⟨acc, k + 1, rfl, by go_num, by omega, hacc, HN2.out, trivial⟩
        case measure => simp [intOf]; omega
      · obtain ⟨d, hd⟩ : ∃ d, (l[k]).toNat = 48 + d := ⟨(l[k]).toNat - 48, by omega⟩
        have hd9 : d ≤ 9 := by omega
        have hx : ((s[k]'hlt).toNat : Int) = 48 + (d : Int) := by rw [E.out, hb, hd]; omega
        have e45 : (((s[k]'hlt).toNat : Int) == 45) = false := by rw [hx, beq_eq_false_iff_ne]; omega
        rw [if_neg (by omega), hd, show 48 + d - 48 = d by omega] at hstep
        have q1 : IntKind.u8.wrap (((s[k]'hlt).toNat : Int) - 48) = (d : Int) := by rw [hx]; simp [IntKind.wrap, IntKind.bits, IntKind.signed]; omega
        have q2 : IntKind.u64.wrap (d : Int) = (d : Int) := by simp [IntKind.wrap, IntKind.bits, IntKind.signed]; omega
        have q3 : IntKind.u64.wrap (4611686018427387904 - (d : Int)) = ((4611686018427387904 - d : Nat) : Int) := by simp [IntKind.wrap, IntKind.bits, IntKind.signed]; omega
        have q4 : ((4611686018427387904 - d : Nat) : Int).tdiv 10 = (((4611686018427387904 - d) / 10 : Nat) : Int) := by rw [Int.tdiv_eq_ediv_of_nonneg (by omega)]; omega
        have HST := hide hstep
        clear hstep hb hd hdg hx
        by_cases hg : (4611686018427387904 - d) / 10 < acc
        · have HNO : Hid (numL 0 l = none) := by
            have h1 := HST.out
            rw [if_pos hg] at h1
            exact HN.out.symm.trans h1
          go_wp2_with fail
          go_ret2
          exact ⟨Or.inl ⟨HNO.out, rfl⟩, HB0.out⟩
        · have HNO : Hid (numL (10 * acc + d) (l.drop (k + 1)) = numL 0 l) := by
            have h1 := HST.out
            rw [if_neg hg] at h1
            exact h1.symm.trans HN.out
          have q5 : IntKind.u64.wrap (10 * (acc : Int)) = ((10 * acc : Nat) : Int) := by simp [IntKind.wrap, IntKind.bits, IntKind.signed]; omega
          have q6 : IntKind.u64.wrap (((10 * acc : Nat) : Int) + (d : Int)) = ((10 * acc + d : Nat) : Int) := by simp [IntKind.wrap, IntKind.bits, IntKind.signed]; omega
          have q7 : IntKind.u64.wrap (10 * (acc : Int) + (d : Int)) = ((10 * acc + d : Nat) : Int) := by simp [IntKind.wrap, IntKind.bits, IntKind.signed]; omega
          go_wp2_with fail
          go_roundw
          case rel =>
            refine ⟨10 * acc + d, k + 1, by go_num, by go_num, by omega, by omega, HNO.out, trivial⟩
          case measure => simp [intOf]; omega
    · have hke : k = s.size := by omega
      subst hke
      have HNO : Hid (numL 0 l = some acc) := by
        have h1 := HN.out
        rw [List.drop_eq_nil_of_le (by have := HZ.out; omega), numL] at h1
        exact h1.symm
      have q8 : IntKind.i64.wrap (acc : Int) = (acc : Int) := by rw [IntKind.wrap_i64]; omega
      have q9 : IntKind.i64.wrap (0 - (acc : Int)) = -(acc : Int) := by rw [IntKind.wrap_i64]; omega
      have q10 : IntKind.i64.wrap (-(acc : Int)) = -(acc : Int) := by rw [IntKind.wrap_i64]; omega
      cases mn
      · have hn45 : ¬ byt l 0 = 45 := of_decide_eq_false HMN.out
        go_wp2_with fail
        go_ret2
        exact ⟨Or.inr ⟨acc, HNO.out, by rw [if_neg hn45]; rfl⟩, HB0.out⟩
      · have hn45 : byt l 0 = 45 := of_decide_eq_true HMN.out
        go_wp2_with fail
        go_ret2
        exact ⟨Or.inr ⟨acc, HNO.out, by rw [if_pos hn45]; rfl⟩, HB0.out⟩
#print axioms num_minus
end Go.Proofs.YtoadbgdkcdilhaaDoor
