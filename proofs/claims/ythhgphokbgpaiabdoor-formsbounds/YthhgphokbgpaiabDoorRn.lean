/- lex.run, strings.Clone, lex.value: what each answers. -/
import Derived.Test.YthhgphokbgpaiabDoorHe
import Derived.Deep.LoopGhost
namespace Go.Proofs.YthhgphokbgpaiabDoor
open Go.RowKit

/-- How many bytes there are at the front of which p says yes. -/
def cnt (p : Int → Bool) : List UInt8 → Nat
  | [] => 0
  | c :: r => if p (c.toNat : Int) = true then 1 + cnt p r else 0

theorem cnt_le (p : Int → Bool) (l : List UInt8) : cnt p l ≤ l.length := by
  induction l with
  | nil => exact Nat.le_refl _
  | cons c r ih => rw [cnt, List.length_cons]; split <;> omega

theorem cnt_stop (p : Int → Bool) : ∀ (l : List UInt8) (k : Nat), k < l.length → (∀ j, j < k → p (byt l j) = true) → p (byt l k) = false → cnt p l = k
  | c :: r, 0, _, _, h => by
    rw [cnt, if_neg (by rw [show p (c.toNat : Int) = false from h]; simp)]
  | c :: r, k + 1, hk, h1, h2 => by
    rw [cnt, if_pos (show p (c.toNat : Int) = true from h1 0 (by omega)), cnt_stop p r k (by simpa using hk) (fun j hj => h1 (j + 1) (by omega)) h2]
    omega

theorem cnt_all (p : Int → Bool) : ∀ (l : List UInt8), (∀ j, j < l.length → p (byt l j) = true) → cnt p l = l.length
  | [], _ => rfl
  | c :: r, h => by
    rw [cnt, if_pos (show p (c.toNat : Int) = true from h 0 (by simp)), cnt_all p r (fun j hj => h (j + 1) (by simpa using hj)), List.length_cons]
    omega

theorem run22_any (s : ByteArray) (l : List UInt8) (w : World) (hl : s.data.toList = l) (hm : s.size ≤ 5000) : Calls Tryd.prog 16 #[.string s, .func (.func 15) #[] #[]] w fun e w' => e = .returned (.int .i64 (cnt blankB l)) ∧ w' = w := by
  have HZ := hide (size_len s l hl)
  have HG : Hid (∀ (i : Nat) (h : i < s.size), ((s[i]'h).toNat : Int) = byt l i) := get_byt s l hl
  go_enter Tryd.func16, Tryd.ntmps16
  go_wp2_with fail
  go_loopw [5, 8] (fun _ i wr => ∃ k : Nat, k ≤ s.size ∧ i = .int .i64 k ∧ Hid (∀ j, j < k → blankB (byt l j) = true) ∧ wr = w) (fun _ i _ => s.size - (intOf i).toNat)
  case atStart => exact ⟨0, by omega, rfl, fun j hj => by omega, rfl⟩
  case round =>
    obtain ⟨k, hk, rfl, HP, rfl⟩ := hrel
    by_cases hlt : k < s.size
    · have E := hide (HG.out k hlt)
      go_wp2_with fail
      rw [E.out]
      refine (isBlank_any _ _).mono ?_
      rintro e w' ⟨rfl, rfl⟩
      cases h1 : blankB (byt l k)
      · go_wp2_with fail
        go_ret
        have h2 := HZ.out
        exact ⟨by rw [cnt_stop blankB l k (by omega) HP.out h1]; rfl, rfl⟩
      · have H1 := hide h1
        clear h1
        go_wp2_with fail
        go_roundw
        case rel =>
          refine ⟨k + 1, by omega, by go_num, fun j hj => ?_, trivial⟩
          rcases Nat.lt_or_ge j k with h | h
          · exact HP.out j h
          · rw [show j = k by omega]; exact H1.out
        case measure => simp [intOf]; omega
    · have hke : k = s.size := by omega
      subst hke
      go_wp2_with fail
      go_ret
      have h2 := HZ.out
      exact ⟨by rw [cnt_all blankB l (fun j hj => HP.out j (by omega)), ← h2]; rfl, rfl⟩

theorem run24_any (s : ByteArray) (l : List UInt8) (w : World) (hl : s.data.toList = l) (hm : s.size ≤ 5000) : Calls Tryd.prog 16 #[.string s, .func (.func 17) #[] #[]] w fun e w' => e = .returned (.int .i64 (cnt lineB l)) ∧ w' = w := by
  have HZ := hide (size_len s l hl)
  have HG : Hid (∀ (i : Nat) (h : i < s.size), ((s[i]'h).toNat : Int) = byt l i) := get_byt s l hl
  go_enter Tryd.func16, Tryd.ntmps16
  go_wp2_with fail
  go_loopw [5, 8] (fun _ i wr => ∃ k : Nat, k ≤ s.size ∧ i = .int .i64 k ∧ Hid (∀ j, j < k → lineB (byt l j) = true) ∧ wr = w) (fun _ i _ => s.size - (intOf i).toNat)
  case atStart => exact ⟨0, by omega, rfl, fun j hj => by omega, rfl⟩
  case round =>
    obtain ⟨k, hk, rfl, HP, rfl⟩ := hrel
    by_cases hlt : k < s.size
    · have E := hide (HG.out k hlt)
      go_wp2_with fail
      rw [E.out]
      refine (inLine_any _ _).mono ?_
      rintro e w' ⟨rfl, rfl⟩
      cases h1 : lineB (byt l k)
      · go_wp2_with fail
        go_ret
        have h2 := HZ.out
        exact ⟨by rw [cnt_stop lineB l k (by omega) HP.out h1]; rfl, rfl⟩
      · have H1 := hide h1
        clear h1
        go_wp2_with fail
        go_roundw
        case rel =>
          refine ⟨k + 1, by omega, by go_num, fun j hj => ?_, trivial⟩
          rcases Nat.lt_or_ge j k with h | h
          · exact HP.out j h
          · rw [show j = k by omega]; exact H1.out
        case measure => simp [intOf]; omega
    · have hke : k = s.size := by omega
      subst hke
      go_wp2_with fail
      go_ret
      have h2 := HZ.out
      exact ⟨by rw [cnt_all lineB l (fun j hj => HP.out j (by omega)), ← h2]; rfl, rfl⟩

theorem run27_any (s : ByteArray) (l : List UInt8) (w : World) (hl : s.data.toList = l) (hm : s.size ≤ 5000) : Calls Tryd.prog 16 #[.string s, .func (.func 20) #[] #[]] w fun e w' => e = .returned (.int .i64 (cnt nameB l)) ∧ w' = w := by
  have HZ := hide (size_len s l hl)
  have HG : Hid (∀ (i : Nat) (h : i < s.size), ((s[i]'h).toNat : Int) = byt l i) := get_byt s l hl
  go_enter Tryd.func16, Tryd.ntmps16
  go_wp2_with fail
  go_loopw [5, 8] (fun _ i wr => ∃ k : Nat, k ≤ s.size ∧ i = .int .i64 k ∧ Hid (∀ j, j < k → nameB (byt l j) = true) ∧ wr = w) (fun _ i _ => s.size - (intOf i).toNat)
  case atStart => exact ⟨0, by omega, rfl, fun j hj => by omega, rfl⟩
  case round =>
    obtain ⟨k, hk, rfl, HP, rfl⟩ := hrel
    by_cases hlt : k < s.size
    · have E := hide (HG.out k hlt)
      go_wp2_with fail
      rw [E.out]
      refine (inName_any _ _).mono ?_
      rintro e w' ⟨rfl, rfl⟩
      cases h1 : nameB (byt l k)
      · go_wp2_with fail
        go_ret
        have h2 := HZ.out
        exact ⟨by rw [cnt_stop nameB l k (by omega) HP.out h1]; rfl, rfl⟩
      · have H1 := hide h1
        clear h1
        go_wp2_with fail
        go_roundw
        case rel =>
          refine ⟨k + 1, by omega, by go_num, fun j hj => ?_, trivial⟩
          rcases Nat.lt_or_ge j k with h | h
          · exact HP.out j h
          · rw [show j = k by omega]; exact H1.out
        case measure => simp [intOf]; omega
    · have hke : k = s.size := by omega
      subst hke
      go_wp2_with fail
      go_ret
      have h2 := HZ.out
      exact ⟨by rw [cnt_all nameB l (fun j hj => HP.out j (by omega)), ← h2]; rfl, rfl⟩

theorem run30_any (s : ByteArray) (l : List UInt8) (w : World) (hl : s.data.toList = l) (hm : s.size ≤ 5000) : Calls Tryd.prog 16 #[.string s, .func (.func 23) #[] #[]] w fun e w' => e = .returned (.int .i64 (cnt digB l)) ∧ w' = w := by
  have HZ := hide (size_len s l hl)
  have HG : Hid (∀ (i : Nat) (h : i < s.size), ((s[i]'h).toNat : Int) = byt l i) := get_byt s l hl
  go_enter Tryd.func16, Tryd.ntmps16
  go_wp2_with fail
  go_loopw [5, 8] (fun _ i wr => ∃ k : Nat, k ≤ s.size ∧ i = .int .i64 k ∧ Hid (∀ j, j < k → digB (byt l j) = true) ∧ wr = w) (fun _ i _ => s.size - (intOf i).toNat)
  case atStart => exact ⟨0, by omega, rfl, fun j hj => by omega, rfl⟩
  case round =>
    obtain ⟨k, hk, rfl, HP, rfl⟩ := hrel
    by_cases hlt : k < s.size
    · have E := hide (HG.out k hlt)
      go_wp2_with fail
      rw [E.out]
      refine (isDigit_any _ _).mono ?_
      rintro e w' ⟨rfl, rfl⟩
      cases h1 : digB (byt l k)
      · go_wp2_with fail
        go_ret
        have h2 := HZ.out
        exact ⟨by rw [cnt_stop digB l k (by omega) HP.out h1]; rfl, rfl⟩
      · have H1 := hide h1
        clear h1
        go_wp2_with fail
        go_roundw
        case rel =>
          refine ⟨k + 1, by omega, by go_num, fun j hj => ?_, trivial⟩
          rcases Nat.lt_or_ge j k with h | h
          · exact HP.out j h
          · rw [show j = k by omega]; exact H1.out
        case measure => simp [intOf]; omega
    · have hke : k = s.size := by omega
      subst hke
      go_wp2_with fail
      go_ret
      have h2 := HZ.out
      exact ⟨by rw [cnt_all digB l (fun j hj => HP.out j (by omega)), ← h2]; rfl, rfl⟩

theorem clone_any (s : ByteArray) (w : World) (hm : s.size ≤ 5000) : Calls Tryd.prog 24 #[.string s] w fun e w' => e = .returned (.string s) ∧ Below w.heap.size w w' := by
  go_enter Tryd.func24, Tryd.ntmps24
  go_wp2_with fail
  refine (Tryd.stringslite_Clone s w (by omega)).mono ?_
  rintro e w' ⟨rfl, hb⟩
  go_wp2_with fail
  go_ret
  exact ⟨rfl, hb⟩
#print axioms clone_any
end Go.Proofs.YthhgphokbgpaiabDoor
