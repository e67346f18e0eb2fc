/- LexLong: the walk. -/
import Derived.Test.YtoadbgdkcdilhaaDoorRt
import Derived.Test.YtoadbgdkcdilhaaDoorSa
namespace Go.Proofs.YtoadbgdkcdilhaaDoor
open Go.RowKit

theorem lexP_len : ∀ (f : Nat) (l : List UInt8) (p : Nat) (ts : List Tok), lexP f l p = .ok ts → ts.length ≤ l.length := by
  intro f
  induction f with
  | zero => intro l p ts h; rw [lexP] at h; cases h; simp
  | succ f ih =>
    intro l p ts h
    by_cases hl : l = []
    · rw [lexP, if_pos hl] at h; cases h; simp
    · rw [lexP, if_neg hl] at h
      cases h1 : oneP l p with
      | error e => rw [h1] at h; cases h
      | ok q =>
        obtain ⟨k, o⟩ := q
        obtain ⟨hk1, hk2⟩ := oneP_len hl h1
        have hd : (l.drop k).length = l.length - k := List.length_drop
        rw [h1] at h
        cases o with
        | none =>
          have := ih _ _ _ h
          omega
        | some t =>
          simp only at h
          cases h2 : lexP f (l.drop k) (p + k) with
          | error e => rw [h2] at h; cases h
          | ok us =>
            rw [h2] at h
            cases h
            have := ih _ _ _ h2
            rw [List.length_cons]
            omega

theorem tok_len {L : List UInt8} {ts : List Tok} (h : tokP L = .ok ts) : ts.length ≤ 4000 := by
  unfold tokP at h
  split at h
  · cases h
  · have := lexP_len _ _ _ _ h
    omega

def strSize : Value → Nat
  | .string s => s.size
  | _ => 0

theorem sz1 (x : UInt8) : (⟨#[x]⟩ : ByteArray).size = 1 := rfl
theorem sz2 (x y : UInt8) : (⟨#[x, y]⟩ : ByteArray).size = 2 := rfl

theorem TokRow.none (w : World) : TokRow w (.slice none 0 0) [] := ⟨_, _, rfl, Nat.le_refl _, fun h => absurd h (by simp)⟩

set_option linter.unusedSimpArgs false in
set_option maxRecDepth 20000 in
set_option maxHeartbeats 4000000 in
theorem lexlong_any (n0 c : Int) (w : World) (he : Errs w) : Calls Tryd.prog 8 #[.int .i64 n0, .int .i64 c] w fun e w' => e = .returned (.bool true) ∧ Below w.heap.size w w' := by
  go_enter Tryd.func8, Tryd.ntmps8
  go_wp2_with fail
  refine (known_any w he).mono ?_
  rintro e w1 ⟨rfl, hb1⟩
  have HB1 := hide hb1
  have HE := hide he
  clear hb1 he
  go_wp2_with fail
  refine (within_n n0 11 _ (by decide) (by decide)).mono ?_
  rintro e w2 ⟨rfl, h2⟩
  rw [h2]
  clear h2
  have hwi := wi_n n0 11 (by decide)
  obtain ⟨k, hk⟩ : ∃ k : Nat, wi n0 11 = k := ⟨(wi n0 11).toNat, by omega⟩
  have hk7 : k < 11 := by omega
  rw [hk]
  clear hwi hk
  have hwk : IntKind.i64.wrap (3995 + (k : Int)) = ((3995 + k : Nat) : Int) := by rw [IntKind.wrap_i64]; omega
  go_wp2_with fail
  go_loopw [5] (fun v wr => ∃ s : ByteArray, v = .string s ∧ s.size ≤ 3996 + k ∧ Below w.heap.size w wr) (fun v _ => 3997 + k - strSize v)
  case atStart => exact ⟨_, rfl, Nat.zero_le _, HB1.out⟩
  case round =>
    clear HB1
    obtain ⟨s, rfl, hs, hbl⟩ := hrel
    have HBL := hide hbl
    clear hbl
    by_cases hlt : s.size < 3995 + k
    · have hbig : ¬ 9223372036854775807 < s.size + 1 := by omega
      have hbig2 : ¬ 9223372036854775807 < s.size + 2 := by omega
      go_wp2_with fail
      refine (within_n _ 5 _ (by decide) (by decide)).mono ?_
      rintro e w2 ⟨rfl, h2⟩
      rw [h2]
      clear h2
      generalize hx : wi _ 5 = x
      have hwi : 0 ≤ x ∧ x < 5 := by rw [← hx]; exact wi_n _ 5 (by decide)
      clear hx
      have key : x = 0 ∨ x = 1 ∨ x = 2 ∨ x = 3 ∨ x = 4 := by omega
      rcases key with rfl | rfl | rfl | rfl | rfl
      all_goals
        clear hwi
        go_wp2_with fail
      all_goals
        go_roundw
        case rel => exact ⟨_, rfl, by simp only [ByteArray.size_append, sz1, sz2]; omega, HBL.out.alloc HBL.out.size _⟩
        case measure => simp only [strSize, ByteArray.size_append, sz1, sz2]; omega
    · have hge : 3995 + k ≤ s.size := by omega
      have hfl : ¬ (s.size : Int) < 3995 + (k : Int) := by omega
      go_wp2_with fail
      have hq : (s.extract 0 (3995 + k)).size = 3995 + k := by
        rw [ByteArray.size_extract]; omega
      have HQ := hide hq
      clear hq
      generalize s.extract 0 (3995 + k) = q at *
      have HZQ := hide (size_len q _ rfl)
      refine (tokens_any q _ wr rfl (by rw [HQ.out]; omega) (HE.out.keep HBL.out)).mono ?_
      rintro e w3 ⟨ho, hb3⟩
      have HB3 : Hid (Below w.heap.size w w3) := HBL.out.trans (hb3.mono HBL.out.size)
      clear hb3
      by_cases h4 : 4000 < 3995 + k
      · have hgt : decide ((4000 : Int) < 3995 + (k : Int)) = true := decide_eq_true (by omega)
        rw [show tokP q.data.toList = .error (4, 0) by unfold tokP; rw [if_pos (by have := HZQ.out; have := HQ.out; omega)]] at ho
        rcases ho with ⟨er, p, h1, rfl⟩ | ⟨ts, v, h1, _⟩
        · cases h1
          go_wp2_with fail
          go_ret
          exact ⟨rfl, HB3.out⟩
        · cases h1
      · have hgt : decide ((4000 : Int) < 3995 + (k : Int)) = false := decide_eq_false (by omega)
        have hc : ∃ (ts : List Tok) (v : Value) (p er : Nat), e = .returned (.tuple #[v, .int .i64 p, .int .i64 er]) ∧ TokRow w3 v ts ∧ ts.length ≤ 4000 ∧ ((tokP q.data.toList = .error (er, p) ∧ ts = []) ∨ (tokP q.data.toList = .ok ts ∧ p = 0 ∧ er = 0)) := by
          rcases ho with ⟨er, p, h1, rfl⟩ | ⟨ts, v, h1, rfl, h2⟩
          · exact ⟨[], _, p, er, rfl, TokRow.none _, by simp, Or.inl ⟨h1, rfl⟩⟩
          · exact ⟨ts, v, 0, 0, rfl, TokRow.of h2, tok_len h1, Or.inr ⟨h1, rfl, rfl⟩⟩
        obtain ⟨ts, v, p, er, rfl, htr, hts, hcs⟩ := hc
        have HTR := hide htr; have HCS := hide hcs
        clear ho htr hcs
        go_wp2_with fail
        refine (rtokens_any q _ _ rfl (by rw [HQ.out]; omega)).mono ?_
        rintro e w4 ⟨ho, hb4⟩
        have HT4 := hide (HTR.out.keep hb4)
        have HB4 : Hid (Below w.heap.size w w4) := HB3.out.trans (hb4.mono HB3.out.size)
        clear hb4
        have hc : ∃ v2 : Value, e = .returned (.tuple #[v2, .int .i64 p, .int .i64 er]) ∧ TokRow w4 v2 ts := by
          rcases HCS.out with ⟨h0, rfl⟩ | ⟨h0, rfl, rfl⟩
          · rw [h0] at ho
            rcases ho with ⟨er, p, h1, rfl⟩ | ⟨ts, v, h1, rfl, h2⟩
            · cases h1; exact ⟨_, rfl, TokRow.none _⟩
            · cases h1
          · rw [h0] at ho
            rcases ho with ⟨er, p, h1, rfl⟩ | ⟨ts, v, h1, rfl, h2⟩
            · cases h1
            · cases h1; exact ⟨_, rfl, TokRow.of h2⟩
        obtain ⟨v2, rfl, htr⟩ := hc
        have HT5 := hide htr
        clear ho htr
        go_wp2_with fail
        refine (same_true ts _ _ _ HT4.out HT5.out (by omega)).mono ?_
        rintro e w5 ⟨rfl, hb5⟩
        have HB5 : Hid (Below w.heap.size w w5) := HB4.out.trans (hb5.mono HB4.out.size)
        clear hb5
        go_wp2_with fail
        go_ret
        exact ⟨rfl, HB5.out⟩
#print axioms lexlong_any
end Go.Proofs.YtoadbgdkcdilhaaDoor
