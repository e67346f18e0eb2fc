/- The small functions of package lex: what each answers. -/
import Derived.Test.YthhgphokbgpaiabDoorChecked
import Derived.Test.YthhgphokbgpaiabDoorBa
import Derived.Test.YthhgphokbgpaiabDoorShelf
namespace Go.Proofs.YthhgphokbgpaiabDoor
open Go.RowKit

def digB (c : Int) : Bool := decide (48 ≤ c) && decide (c ≤ 57)
def blankB (c : Int) : Bool := c == 32 || c == 9 || c == 10 || c == 13
def lineB (c : Int) : Bool := c != 10
def nameB (c : Int) : Bool := decide (97 ≤ c) && decide (c ≤ 122) || decide (65 ≤ c) && decide (c ≤ 90) || digB c || c == 95 || c == 39

theorem ret_bool {a b : Bool} (h : a = true ↔ b = true) : Ending.returned (.bool a) = .returned (.bool b) := by rw [Bool.eq_iff_iff.2 h]

theorem isDigit_any (c : Int) (w : World) : Calls Tryd.prog 23 #[.int .u8 c] w fun e w' => e = .returned (.bool (digB c)) ∧ w' = w := by
  by_cases h1 : 48 ≤ c
  · go_enter Tryd.func23, Tryd.ntmps23
    go_wp2_with fail
    go_ret
    exact ⟨by simp [digB, h1], rfl⟩
  · go_enter Tryd.func23, Tryd.ntmps23
    go_wp2_with fail
    go_ret
    exact ⟨ret_bool (by simp only [digB, Bool.and_eq_true, decide_eq_true_eq]; first | omega | (simp; omega)), rfl⟩

theorem inLine_any (c : Int) (w : World) : Calls Tryd.prog 17 #[.int .u8 c] w fun e w' => e = .returned (.bool (lineB c)) ∧ w' = w := by
  go_enter Tryd.func17, Tryd.ntmps17
  go_wp2_with fail
  go_ret
  exact ⟨rfl, rfl⟩

theorem isBlank_any (c : Int) (w : World) : Calls Tryd.prog 15 #[.int .u8 c] w fun e w' => e = .returned (.bool (blankB c)) ∧ w' = w := by
  have key : c = 32 ∨ c = 9 ∨ c = 10 ∨ (c ≠ 32 ∧ c ≠ 9 ∧ c ≠ 10) := by omega
  rcases key with rfl | rfl | rfl | ⟨h1, h2, h3⟩
  all_goals
    go_enter Tryd.func15, Tryd.ntmps15
    go_wp2_with fail
    go_ret
    exact ⟨by simp [blankB, *], rfl⟩

theorem bracket_any (c : Int) (w : World) : Calls Tryd.prog 18 #[.int .u8 c] w fun e w' => e = .returned (.int .i64 (if c = 40 then 1 else if c = 41 then 2 else 0)) ∧ w' = w := by
  have key : c = 40 ∨ c = 41 ∨ (c ≠ 40 ∧ c ≠ 41) := by omega
  rcases key with rfl | rfl | ⟨h1, h2⟩
  all_goals
    go_enter Tryd.func18, Tryd.ntmps18
    go_wp2_with fail
    go_ret
    exact ⟨by simp [*], rfl⟩

set_option linter.unusedSimpArgs false in
theorem inName_any (c : Int) (w : World) : Calls Tryd.prog 20 #[.int .u8 c] w fun e w' => e = .returned (.bool (nameB c)) ∧ w' = w := by
  by_cases h1 : 97 ≤ c
  · by_cases h2 : c ≤ 122
    · go_enter Tryd.func20, Tryd.ntmps20
      go_wp2_with fail
      go_ret
      exact ⟨ret_bool (by simp only [digB, Bool.and_eq_false_iff, decide_eq_false_iff_not, Bool.and_eq_true, decide_eq_true_eq] at *; simp only [nameB, digB, Bool.or_eq_true, Bool.and_eq_true, decide_eq_true_eq, beq_iff_eq, eq_self, true_iff]; omega), rfl⟩
    · have h3 : 65 ≤ c := by omega
      have h4 : ¬ c ≤ 90 := by omega
      have h5 : c ≠ 95 := by omega
      have h6 : c ≠ 39 := by omega
      have h7 : digB c = false := by simp [digB]; omega
      go_enter Tryd.func20, Tryd.ntmps20
      go_wp2_with fail
      refine (isDigit_any _ _).mono ?_
      rintro e w' ⟨rfl, rfl⟩
      rw [h7]
      go_wp2_with fail
      go_ret
      exact ⟨ret_bool (by simp only [digB, Bool.and_eq_false_iff, decide_eq_false_iff_not, Bool.and_eq_true, decide_eq_true_eq] at *; simp only [nameB, digB, Bool.or_eq_true, Bool.and_eq_true, decide_eq_true_eq, beq_iff_eq, eq_self, true_iff]; omega), rfl⟩
  · by_cases h3 : 65 ≤ c
    · by_cases h4 : c ≤ 90
      · go_enter Tryd.func20, Tryd.ntmps20
        go_wp2_with fail
        go_ret
        exact ⟨ret_bool (by simp only [digB, Bool.and_eq_false_iff, decide_eq_false_iff_not, Bool.and_eq_true, decide_eq_true_eq] at *; simp only [nameB, digB, Bool.or_eq_true, Bool.and_eq_true, decide_eq_true_eq, beq_iff_eq, eq_self, true_iff]; omega), rfl⟩
      · have h6 : c ≠ 39 := by omega
        have h7 : digB c = false := by simp [digB]; omega
        by_cases h5 : c = 95
        · subst h5
          go_enter Tryd.func20, Tryd.ntmps20
          go_wp2_with fail
          refine (isDigit_any _ _).mono ?_
          rintro e w' ⟨rfl, rfl⟩
          rw [h7]
          go_wp2_with fail
          go_ret
          exact ⟨by simp [nameB], rfl⟩
        · go_enter Tryd.func20, Tryd.ntmps20
          go_wp2_with fail
          refine (isDigit_any _ _).mono ?_
          rintro e w' ⟨rfl, rfl⟩
          rw [h7]
          go_wp2_with fail
          go_ret
          exact ⟨ret_bool (by simp only [digB, Bool.and_eq_false_iff, decide_eq_false_iff_not, Bool.and_eq_true, decide_eq_true_eq] at *; simp only [nameB, digB, Bool.or_eq_true, Bool.and_eq_true, decide_eq_true_eq, beq_iff_eq, eq_self, true_iff]; omega), rfl⟩
    · have h5 : c ≠ 95 := by omega
      go_enter Tryd.func20, Tryd.ntmps20
      go_wp2_with fail
      refine (isDigit_any _ _).mono ?_
      rintro e w' ⟨rfl, rfl⟩
      cases h7 : digB c
      · go_wp2_with fail
        go_ret
        exact ⟨ret_bool (by simp only [digB, Bool.and_eq_false_iff, decide_eq_false_iff_not, Bool.and_eq_true, decide_eq_true_eq] at *; simp only [nameB, digB, Bool.or_eq_true, Bool.and_eq_true, decide_eq_true_eq, beq_iff_eq, eq_self, true_iff]; omega), rfl⟩
      · go_wp2_with fail
        go_ret
        exact ⟨ret_bool (by simp only [digB, Bool.and_eq_false_iff, decide_eq_false_iff_not, Bool.and_eq_true, decide_eq_true_eq] at *; simp only [nameB, digB, Bool.or_eq_true, Bool.and_eq_true, decide_eq_true_eq, beq_iff_eq, eq_self, true_iff]; omega), rfl⟩
/-- A text's byte. -/
def byt (l : List UInt8) (i : Nat) : Int := ((l.getD i 0).toNat : Int)

theorem get_byt (s : ByteArray) (l : List UInt8) (hl : s.data.toList = l) (i : Nat) (h : i < s.size) : ((s[i]'h).toNat : Int) = byt l i := by
  subst hl
  unfold byt
  have h' : i < s.data.size := h
  have e : s[i]'h = s.data[i]'h' := rfl
  rw [e]
  simp only [List.getD_eq_getElem?_getD, Array.getElem?_toList, Array.getElem?_eq_getElem h']
  rfl

theorem size_len (s : ByteArray) (l : List UInt8) (hl : s.data.toList = l) : s.size = l.length := by
  subst hl
  exact Array.length_toList.symm

theorem beginsName_any (s : ByteArray) (l : List UInt8) (w : World) (hl : s.data.toList = l) (hs : 0 < s.size) : Calls Tryd.prog 19 #[.string s] w fun e w' => e = .returned (.bool (nameB (byt l 0) && !digB (byt l 0))) ∧ w' = w := by
  have e0 := get_byt s l hl 0 hs
  have E0 := hide e0
  clear e0
  go_enter Tryd.func19, Tryd.ntmps19
  go_wp2_with fail
  rw [E0.out]
  refine (inName_any _ _).mono ?_
  rintro e w' ⟨rfl, rfl⟩
  cases h1 : nameB (byt l 0)
  · go_wp2_with fail
    go_ret
    exact ⟨by simp [h1], rfl⟩
  · go_wp2_with fail
    rw [E0.out]
    refine (isDigit_any _ _).mono ?_
    rintro e w' ⟨rfl, rfl⟩
    go_wp2_with fail
    go_ret
    exact ⟨by simp [h1], rfl⟩

theorem beginsNumber_any (s : ByteArray) (l : List UInt8) (w : World) (hl : s.data.toList = l) (hs : 0 < s.size) : Calls Tryd.prog 22 #[.string s] w fun e w' => e = .returned (.bool (digB (byt l 0) || (byt l 0 == 45 && decide (1 < l.length) && digB (byt l 1)))) ∧ w' = w := by
  have hz := size_len s l hl
  have E0 := hide (get_byt s l hl 0 hs)
  have E1 : Hid (∀ h : 1 < s.size, ((s[1]'h).toNat : Int) = byt l 1) := fun h => get_byt s l hl 1 h
  go_enter Tryd.func22, Tryd.ntmps22
  go_wp2_with fail
  rw [E0.out]
  refine (isDigit_any _ _).mono ?_
  rintro e w' ⟨rfl, rfl⟩
  cases h1 : digB (byt l 0)
  · by_cases h2 : byt l 0 = 45
    · by_cases h3 : 1 < s.size
      · have E2 := hide (E1.out h3)
        have E3 := hide hz
        clear hz
        have e0 : (((s[0]'hs).toNat : Int) == 45) = true := by rw [E0.out, h2]; rfl
        go_wp2_with fail
        rw [E2.out]
        refine (isDigit_any _ _).mono ?_
        rintro e w' ⟨rfl, rfl⟩
        go_wp2_with fail
        go_ret
        have h4 : 1 < l.length := by have := E3.out; omega
        have h5 : digB 45 = false := by decide
        exact ⟨by simp [h2, h4, h5], rfl⟩
      · have E3 := hide hz
        clear hz
        have e0 : (((s[0]'hs).toNat : Int) == 45) = true := by rw [E0.out, h2]; rfl
        go_wp2_with fail
        go_ret
        have h4 : ¬ 1 < l.length := by have := E3.out; omega
        have h5 : digB 45 = false := by decide
        exact ⟨by simp [h4, h5], rfl⟩
    · have e0 : (((s[0]'hs).toNat : Int) == 45) = false := by rw [E0.out]; simpa using h2
      clear hz
      go_wp2_with fail
      go_ret
      exact ⟨by simp [h1, h2], rfl⟩
  · go_wp2_with fail
    go_ret
    exact ⟨by simp [h1], rfl⟩

/-- How long the sign is. -/
def signN (l : List UInt8) : Nat := if byt l 0 = 45 ∧ 1 < l.length ∧ byt l 1 = 62 then 2 else if byt l 0 = 42 then 1 else 0

theorem ext_list (s : ByteArray) (l : List UInt8) (hl : s.data.toList = l) (a b : Nat) : (s.extract a b).data.toList = (l.drop a).take (b - a) := by
  subst hl
  rw [ByteArray.data_extract]
  simp [List.take_drop]

theorem pre2 (s : ByteArray) (l : List UInt8) (hl : s.data.toList = l) (h2 : 2 ≤ l.length) : ((s.extract 0 2).toList == [45, 62]) = decide (byt l 0 = 45 ∧ byt l 1 = 62) := by
  rw [ByteArray.toList_eq, ext_list s l hl]
  match l, h2 with
  | x :: y :: r, _ =>
    rw [Bool.eq_iff_iff]
    simp only [List.drop_zero, Nat.sub_zero, List.take_succ_cons, List.take_zero, beq_iff_eq, List.cons.injEq, and_true, decide_eq_true_eq, byt, List.getD_cons_zero, List.getD_cons_succ]
    constructor
    · rintro ⟨rfl, rfl⟩; exact ⟨rfl, rfl⟩
    · rintro ⟨h1, h2⟩
      exact ⟨UInt8.toNat_inj.1 (by simpa using Int.ofNat.inj h1), UInt8.toNat_inj.1 (by simpa using Int.ofNat.inj h2)⟩

theorem sign_any (s : ByteArray) (l : List UInt8) (w : World) (hl : s.data.toList = l) (hs : 0 < s.size) : Calls Tryd.prog 21 #[.string s] w fun e w' => e = .returned (.int .i64 (signN l)) ∧ w' = w := by
  have hz := size_len s l hl
  have e0 := get_byt s l hl 0 hs
  have E0 := hide e0
  have HZ := hide hz
  clear hz
  have h42 : (((s[0]'hs).toNat : Int) == 42) = decide (byt l 0 = 42) := by rw [e0]; rw [Bool.eq_iff_iff]; simp
  clear e0
  by_cases h2 : 2 ≤ s.size
  · have hp := pre2 s l hl (by have := HZ.out; omega)
    by_cases hq : byt l 0 = 45 ∧ byt l 1 = 62
    · rw [decide_eq_true hq] at hp
      have hr : signN l = 2 := by unfold signN; rw [if_pos ⟨hq.1, by have := HZ.out; omega, hq.2⟩]
      rw [hr]
      clear hr hq
      go_enter Tryd.func21, Tryd.ntmps21
      go_wp2_with go_in
      go_ret
      exact ⟨rfl, rfl⟩
    · rw [decide_eq_false hq] at hp
      have hn : ¬ (byt l 0 = 45 ∧ 1 < l.length ∧ byt l 1 = 62) := fun h => hq ⟨h.1, h.2.2⟩
      by_cases h4 : byt l 0 = 42
      · rw [decide_eq_true h4] at h42
        have hr : signN l = 1 := by unfold signN; rw [if_neg hn, if_pos h4]
        rw [hr]
        clear hr hq hn h4
        go_enter Tryd.func21, Tryd.ntmps21
        go_wp2_with go_in
        go_ret
        exact ⟨rfl, rfl⟩
      · rw [decide_eq_false h4] at h42
        have hr : signN l = 0 := by unfold signN; rw [if_neg hn, if_neg h4]
        rw [hr]
        clear hr hq hn h4
        go_enter Tryd.func21, Tryd.ntmps21
        go_wp2_with go_in
        go_ret
        exact ⟨rfl, rfl⟩
  · have hn : ¬ (byt l 0 = 45 ∧ 1 < l.length ∧ byt l 1 = 62) := fun h => by have := h.2.1; have := HZ.out; omega
    by_cases h4 : byt l 0 = 42
    · rw [decide_eq_true h4] at h42
      have hr : signN l = 1 := by unfold signN; rw [if_neg hn, if_pos h4]
      rw [hr]
      clear hr hn h4
      go_enter Tryd.func21, Tryd.ntmps21
      go_wp2_with go_in
      go_ret
      exact ⟨rfl, rfl⟩
    · rw [decide_eq_false h4] at h42
      have hr : signN l = 0 := by unfold signN; rw [if_neg hn, if_neg h4]
      rw [hr]
      clear hr hn h4
      go_enter Tryd.func21, Tryd.ntmps21
      go_wp2_with go_in
      go_ret
      exact ⟨rfl, rfl⟩
#print axioms inName_any
end Go.Proofs.YthhgphokbgpaiabDoor
