/- The second saying's skip: what it answers. -/
import Derived.Test.YtoadbgdkcdilhaaDoorSa
import Derived.Deep.CutBlock
namespace Go.Proofs.YtoadbgdkcdilhaaDoor
open Go.RowKit

theorem byt_drop0 (a : List UInt8) (k j : Nat) : byt (a.drop k) j = byt a (k + j) := by
  unfold byt; rw [List.getD_eq_getElem?_getD, List.getD_eq_getElem?_getD, List.getElem?_drop]

theorem cnt_cons (p : Int → Bool) (l : List UInt8) (h : l ≠ []) (h1 : p (byt l 0) = true) : cnt p l = 1 + cnt p (l.drop 1) := by
  match l, h with
  | c :: r, _ => rw [cnt, if_pos (show p (c.toNat : Int) = true from h1)]; rfl

theorem cnt_zero (p : Int → Bool) (l : List UInt8) (h1 : p (byt l 0) = false) : cnt p l = 0 := by
  match l with
  | [] => rfl
  | c :: r => rw [cnt, if_neg (nb (show p (c.toNat : Int) = false from h1))]

/-- One blank less is no other. -/
theorem lex_blank1 (l : List UInt8) (p : Nat) (hne : l ≠ []) (hb : blankB (byt l 0) = true) : lexP (l.length + 1) l p = lexP ((l.drop 1).length + 1) (l.drop 1) (p + 1) := by
  have hl : 0 < l.length := by cases l with | nil => exact absurd rfl hne | cons => simp
  have hc := cnt_cons blankB l hne hb
  have hcl := cnt_le blankB (l.drop 1)
  have e1 : lexP (l.length + 1) l p = lexP ((l.drop (1 + cnt blankB (l.drop 1))).length + 1) (l.drop (1 + cnt blankB (l.drop 1))) (p + (1 + cnt blankB (l.drop 1))) := by
    rw [lexP, if_neg hne, one_blank hb]
    simp only
    rw [hc]
    exact lexP_fuel _ _ _ (by rw [List.length_drop]; omega)
  rw [e1]
  by_cases hr : l.drop 1 = []
  · rw [hr]
    have : cnt blankB ([] : List UInt8) = 0 := rfl
    rw [this, Nat.add_zero, hr]
  · cases hb2 : blankB (byt (l.drop 1) 0)
    · rw [cnt_zero blankB _ hb2]
    · conv => rhs; rw [lexP, if_neg hr, one_blank hb2]
      simp only
      have hr1 : 0 < (l.drop 1).length := by cases hx : l.drop 1 with | nil => exact absurd hx hr | cons => simp
      have hcp := cnt_pos blankB _ hr hb2
      rw [lexP_fuel (l.drop 1).length ((l.drop 1).drop (cnt blankB (l.drop 1))) _ (by rw [List.length_drop]; omega), List.drop_drop]
      rw [show p + 1 + cnt blankB (l.drop 1) = p + (1 + cnt blankB (l.drop 1)) by omega]

theorem Left.blank1 {L : List UInt8} {ts : List Tok} {k : Nat} (h : Left L ts k) (hk : k < L.length) (hb : blankB (byt L k) = true) : Left L ts (k + 1) := by
  unfold Left at *
  have hne : L.drop k ≠ [] := fun h0 => by have := congrArg List.length h0; rw [List.length_drop] at this; simp at this; omega
  rw [lex_blank1 (L.drop k) k hne (by rw [byt_drop0, Nat.add_zero]; exact hb), List.drop_drop] at h
  exact h

theorem Left.line {L : List UInt8} {ts : List Tok} {k m : Nat} (h : Left L ts k) (hk : k < L.length) (h59 : byt L k = 59) (hm : k + cnt lineB (L.drop k) = m) : Left L ts m := by
  subst hm
  refine h.skip hk (one_line ?_ ?_)
  · rw [byt_drop0, Nat.add_zero, h59]; decide
  · rw [byt_drop0, Nat.add_zero]; exact h59

theorem line_stop {L : List UInt8} {k m : Nat} (hkm : k ≤ m) (hm : m < L.length) (h : ∀ j, k ≤ j → j < m → byt L j ≠ 10) (h10 : byt L m = 10) : k + cnt lineB (L.drop k) = m := by
  have hc := cnt_stop lineB (L.drop k) (m - k) (by rw [List.length_drop]; omega) (fun j hj => by rw [byt_drop0]; unfold lineB; simpa using h (k + j) (by omega) (by omega)) (by rw [byt_drop0, show k + (m - k) = m by omega, h10]; decide)
  omega

theorem line_all {L : List UInt8} {k : Nat} (hk : k ≤ L.length) (h : ∀ j, k ≤ j → j < L.length → byt L j ≠ 10) : k + cnt lineB (L.drop k) = L.length := by
  rw [cnt_all lineB (L.drop k) (fun j hj => ?_), List.length_drop]
  · omega
  · rw [List.length_drop] at hj
    rw [byt_drop0]; unfold lineB; simpa using h (k + j) (by omega) (by omega)

/-- What skip answers. -/
def SkipOut (L : List UInt8) (i : Nat) (w : World) (e : Ending) (w' : World) : Prop :=
  ∃ j : Nat, e = .returned (.int .i64 j) ∧ i ≤ j ∧ j ≤ L.length ∧ (j < L.length → blankB (byt L j) = false ∧ byt L j ≠ 59) ∧ (∀ ts, Left L ts i → Left L ts j) ∧ w' = w

set_option linter.unusedSimpArgs false in
set_option maxRecDepth 20000 in
set_option maxHeartbeats 4000000 in
theorem skip_any (s : ByteArray) (L : List UInt8) (w : World) (hL : s.data.toList = L) (hm : s.size ≤ 5000) (i : Nat) (hi : i ≤ s.size) : Calls Tryd.prog 17 #[.string s, .int .i64 i] w (SkipOut L i w) := by
  have HZ := hide (size_len s L hL)
  have HG : Hid (∀ (i : Nat) (h : i < s.size), ((s[i]'h).toNat : Int) = byt L i) := get_byt s L hL
  go_enter Tryd.func17, Tryd.ntmps17
  go_wp2_with fail
  go_loopw [1] (fun v wr => ∃ k : Nat, v = .int .i64 k ∧ i ≤ k ∧ k ≤ s.size ∧ Hid (∀ ts, Left L ts i → Left L ts k) ∧ wr = w) (fun v _ => s.size - (intOf v).toNat)
  case atStart => exact ⟨i, rfl, Nat.le_refl _, hi, fun ts h => h, rfl⟩
  case round =>
    obtain ⟨k, rfl, hik, hk, HLF, rfl⟩ := hrel
    by_cases hlt : k < s.size
    · have E := hide (HG.out k hlt)
      have hkL : k < L.length := by have := HZ.out; omega
      have HKL := hide hkL
      clear hkL
      have key : (byt L k = 32 ∨ byt L k = 9 ∨ byt L k = 10 ∨ byt L k = 13) ∨ (byt L k ≠ 32 ∧ byt L k ≠ 9 ∧ byt L k ≠ 10 ∧ byt L k ≠ 13) := by omega
      rcases key with key | ⟨n1, n2, n3, n4⟩
      · have HLB : Hid (∀ ts, Left L ts i → Left L ts (k + 1)) := fun ts h => (HLF.out ts h).blank1 HKL.out (by unfold blankB; simpa using (by omega : ((byt L k = 32 ∨ byt L k = 9) ∨ byt L k = 10) ∨ byt L k = 13))
        rcases key with hc | hc | hc | hc
        all_goals
          rw [← E.out] at hc
          go_wp2_with fail
          go_roundw
          case rel => exact ⟨k + 1, by go_num, by omega, by omega, HLB.out, trivial⟩
          case measure => simp [intOf]; omega
      · have HNB : Hid (blankB (byt L k) = false) := by
          show _ = _
          simp only [blankB, Bool.or_eq_false_iff, beq_eq_false_iff_ne]
          exact ⟨⟨⟨n1, n2⟩, n3⟩, n4⟩
        have N3 := hide n3
        have m1 : (((s[k]'hlt).toNat : Int) == 32) = false := by rw [E.out, beq_eq_false_iff_ne]; exact n1
        have m2 : (((s[k]'hlt).toNat : Int) == 9) = false := by rw [E.out, beq_eq_false_iff_ne]; exact n2
        have m3 : (((s[k]'hlt).toNat : Int) == 10) = false := by rw [E.out, beq_eq_false_iff_ne]; exact n3
        have m4 : (((s[k]'hlt).toNat : Int) == 13) = false := by rw [E.out, beq_eq_false_iff_ne]; exact n4
        clear n1 n2 n3 n4
        by_cases h59 : byt L k = 59
        · have H59 := hide h59
          have e59 : (((s[k]'hlt).toNat : Int) == 59) = true := by rw [E.out, h59]; rfl
          clear h59
          go_wp2_with fail
          clear m1 m2 m3 m4 e59
          go_loopw [1] (fun v wy => ∃ m : Nat, v = .int .i64 m ∧ k ≤ m ∧ m ≤ s.size ∧ Hid (∀ j, k ≤ j → j < m → byt L j ≠ 10) ∧ wy = wr) (fun v _ => s.size - (intOf v).toNat)
          case atStart => exact ⟨k, rfl, Nat.le_refl _, by omega, fun j h1 h2 => by omega, rfl⟩
          case round =>
            obtain ⟨m, rfl, hkm, hms, HNL, rfl⟩ := hrel
            have HCP := hide (cnt_pos lineB (L.drop k) (fun h0 => by have h1 := congrArg List.length h0; rw [List.length_drop] at h1; have := HKL.out; simp at h1; omega) (by rw [byt_drop0, Nat.add_zero, H59.out]; decide))
            by_cases hlt2 : m < s.size
            · have E2 := hide (HG.out m hlt2)
              by_cases h10 : byt L m = 10
              · have e10 : (((s[m]'hlt2).toNat : Int) != 10) = false := by rw [E2.out, h10]; rfl
                have HC := hide (line_stop hkm (by have := HZ.out; omega) HNL.out h10)
                have HLB : Hid (∀ ts, Left L ts i → Left L ts m) := fun ts h => (HLF.out ts h).line HKL.out H59.out HC.out
                have hkm2 : k < m := by have h1 := HC.out; have h2 := HCP.out; omega
                clear h10
                go_wp2_with fail
                go_roundw
                case rel => exact ⟨m, rfl, by omega, by omega, HLB.out, trivial⟩
                case measure => simp [intOf]; omega
              · have e10 : (((s[m]'hlt2).toNat : Int) != 10) = true := by rw [E2.out, bne_iff_ne]; exact h10
                have H10 := hide h10
                clear h10
                go_wp2_with fail
                go_roundw
                case rel =>
                  refine ⟨m + 1, by go_num, by omega, by omega, fun j h1 h2 => ?_, trivial⟩
                  rcases Nat.lt_or_ge j m with h | h
                  · exact HNL.out j h1 h
                  · rw [show j = m by omega]; exact H10.out
                case measure => simp [intOf]; omega
            · have hme : m = s.size := by omega
              subst hme
              have HC := hide (line_all (L := L) (k := k) (by have := HKL.out; omega) (fun j h1 h2 => HNL.out j h1 (by have := HZ.out; omega)))
              have HLB : Hid (∀ ts, Left L ts i → Left L ts s.size) := fun ts h => (HLF.out ts h).line HKL.out H59.out (by rw [HC.out]; exact HZ.out.symm)
              go_wp2_with fail
              go_roundw
              case rel => exact ⟨s.size, rfl, by omega, by omega, HLB.out, trivial⟩
              case measure => simp [intOf]; omega
        · have H59 := hide h59
          have e59 : (((s[k]'hlt).toNat : Int) == 59) = false := by rw [E.out, beq_eq_false_iff_ne]; exact h59
          clear h59
          go_wp2_with fail
          go_ret
          exact ⟨k, rfl, hik, by have := HZ.out; omega, fun _ => ⟨HNB.out, H59.out⟩, HLF.out, rfl⟩
    · have hke : k = s.size := by omega
      subst hke
      go_wp2_with fail
      go_ret
      exact ⟨s.size, rfl, hik, by have := HZ.out; omega, fun h => by have := HZ.out; omega, HLF.out, rfl⟩
#print axioms skip_any
end Go.Proofs.YtoadbgdkcdilhaaDoor
