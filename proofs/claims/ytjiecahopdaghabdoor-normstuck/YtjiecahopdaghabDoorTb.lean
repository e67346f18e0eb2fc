/- The program's own tables; Binders and isOp; the document's Binders and Arity, for every number. -/
import Derived.Test.YtjiecahopdaghabDoorKa
import Derived.Test.YtjiecahopdaghabDoorPu
import Derived.Test.YtjiecahopdaghabDoorMa
namespace Go.Proofs.YtjiecahopdaghabDoor
open Go.RowKit

/-- The bounds of a number. -/
def loN (op : Int) : Int := if op = 25 then -9223372036854775808 else 0
def hiN (op : Int) : Int := if op = 1 then 3000 else if op = 2 then 2 else if op = 25 then 9223372036854775807 else if op = 26 then 4 else 0
/-- The letter ahead of a number. -/
def letN (op : Int) : ByteArray := if op = 1 then ⟨#[118]⟩ else if op = 2 then ⟨#[85]⟩ else if op = 25 then ⟨#[105]⟩ else ⟨#[]⟩
/-- How many kids an Op has, 0 among them. -/
def arT (op : Int) : Nat := if op = 0 then 0 else ar op

/-- What the program's table of binders holds. -/
structure Tb (w : World) : Prop where
  size : 1 ≤ w.heap.size
  bnd : ∀ op k : Nat, op ≤ 30 → k < 4 → w.cell? ⟨0, op * 4 + k, none⟩ = some (.int .i8 (bnd op k : Nat))
/-- .. of letters. -/
structure Tl (w : World) : Prop where
  size : 4 ≤ w.heap.size
  lets : ∀ op : Nat, op ≤ 30 → w.cell? ⟨3, op, none⟩ = some (.string (letN op))
/-- .. of kids and of numbers. -/
structure Tk (w : World) : Prop where
  size : 4 ≤ w.heap.size
  kid : ∀ op : Nat, op ≤ 30 → w.cell? ⟨1, op, none⟩ = some (.int .i8 (arT op : Nat))
  low : ∀ op : Nat, op ≤ 30 → w.cell? ⟨2, op * 2, none⟩ = some (.int .i64 (loN op))
  high : ∀ op : Nat, op ≤ 30 → w.cell? ⟨2, op * 2 + 1, none⟩ = some (.int .i64 (hiN op))

theorem Tb.keep {B : Nat} {w w' : World} (h : Tb w) (hb : Below B w w') (hB : 1 ≤ B) : Tb w' :=
  ⟨Nat.le_trans h.size hb.size, fun op k h1 h2 => (hb.cell (show 0 < B by omega)).trans (h.bnd op k h1 h2)⟩
theorem Tl.keep {B : Nat} {w w' : World} (h : Tl w) (hb : Below B w w') (hB : 4 ≤ B) : Tl w' :=
  ⟨Nat.le_trans h.size hb.size, fun op h1 => (hb.cell (show 3 < B by omega)).trans (h.lets op h1)⟩
theorem Tk.keep {B : Nat} {w w' : World} (h : Tk w) (hb : Below B w w') (hB : 4 ≤ B) : Tk w' :=
  ⟨Nat.le_trans h.size hb.size, fun op h1 => (hb.cell (show 1 < B by omega)).trans (h.kid op h1),
    fun op h1 => (hb.cell (show 2 < B by omega)).trans (h.low op h1), fun op h1 => (hb.cell (show 2 < B by omega)).trans (h.high op h1)⟩

theorem Tb.later {w w' : World} (h : Tb w) (hb : Below w.heap.size w w') : Tb w' := h.keep hb h.size
theorem Tl.later {w w' : World} (h : Tl w) (hb : Below w.heap.size w w') : Tl w' := h.keep hb h.size
theorem Tk.later {w w' : World} (h : Tk w) (hb : Below w.heap.size w w') : Tk w' := h.keep hb h.size

set_option maxHeartbeats 1000000 in
theorem isop_any (op : Int) (w : World) : Calls Tryd.prog 83 #[.int .i64 op] w fun e w' => e = .returned (.bool (decide (1 ≤ op ∧ op ≤ 30))) ∧ w' = w := by
  by_cases h1 : 1 ≤ op
  · by_cases h2 : op ≤ 30
    · go_enter Tryd.func83, Tryd.ntmps83
      go_wp2
      go_ret
      exact ⟨ret_bool (by simp; omega), rfl⟩
    · go_enter Tryd.func83, Tryd.ntmps83
      go_wp2
      go_ret
      exact ⟨ret_bool (by simp; omega), rfl⟩
  · go_enter Tryd.func83, Tryd.ntmps83
    go_wp2
    go_ret
    exact ⟨ret_bool (by simp; omega), rfl⟩

theorem bnd_out {op k : Int} (h : ¬ (1 ≤ op ∧ op ≤ 30) ∨ k < 0 ∨ 4 ≤ k) : bnd op k = 0 := by
  unfold bnd; repeat' (first | omega | split)

set_option maxHeartbeats 1000000 in
theorem tbinders_any (op k : Int) (w : World) (ht : Tb w) : Calls Tryd.prog 82 #[.int .i64 op, .int .i64 k] w fun e w' => e = .returned (.int .i64 (bnd op k : Nat)) ∧ w' = w := by
  by_cases h1 : 1 ≤ op ∧ op ≤ 30
  · by_cases h2 : 0 ≤ k
    · by_cases h3 : k < 4
      · obtain ⟨o, rfl⟩ : ∃ o : Nat, op = o := ⟨op.toNat, by omega⟩
        obtain ⟨j, rfl⟩ : ∃ j : Nat, k = j := ⟨k.toNat, by omega⟩
        have c := ht.bnd o j (by omega) (by omega)
        have hb := bnd_le o j
        go_enter Tryd.func82, Tryd.ntmps82
        go_wp2_with fail
        refine (isop_any _ _).mono ?_
        rintro e w1 ⟨rfl, rfl⟩
        rw [decide_eq_true h1]
        go_wp2_with fail
        go_ret
        exact ⟨rfl, rfl⟩
      · rw [bnd_out (op := op) (k := k) (by omega)]
        go_enter Tryd.func82, Tryd.ntmps82
        go_wp2_with fail
        refine (isop_any _ _).mono ?_
        rintro e w1 ⟨rfl, rfl⟩
        rw [decide_eq_true h1]
        go_wp2_with fail
        go_ret
        exact ⟨rfl, rfl⟩
    · rw [bnd_out (op := op) (k := k) (by omega)]
      go_enter Tryd.func82, Tryd.ntmps82
      go_wp2_with fail
      refine (isop_any _ _).mono ?_
      rintro e w1 ⟨rfl, rfl⟩
      rw [decide_eq_true h1]
      go_wp2_with fail
      go_ret
      exact ⟨rfl, rfl⟩
  · rw [bnd_out (op := op) (k := k) (Or.inl h1)]
    go_enter Tryd.func82, Tryd.ntmps82
    go_wp2_with fail
    refine (isop_any _ _).mono ?_
    rintro e w1 ⟨rfl, rfl⟩
    rw [decide_eq_false h1]
    go_wp2_with fail
    go_ret
    exact ⟨rfl, rfl⟩

theorem ne_beq {a b : Int} (h : ¬ a = b) : (a == b) = false := beq_eq_false_iff_ne.2 h

set_option maxHeartbeats 4000000 in
theorem rbinders_any (op k : Int) (w : World) : Calls Tryd.prog 45 #[.int .i64 op, .int .i64 k] w fun e w' => e = .returned (.int .i64 (bnd op k : Nat)) ∧ w' = w := by
  by_cases h : op = 3 ∨ op = 4 ∨ op = 6 ∨ op = 20 ∨ op = 28 ∨ op = 29
  · by_cases hk : k = 1
    · subst hk
      rcases h with rfl | rfl | rfl | rfl | rfl | rfl
      all_goals
        go_enter Tryd.func45, Tryd.ntmps45
        go_wp2
        go_ret
        exact ⟨rfl, rfl⟩
    · have b1 := ne_beq hk
      have hz : bnd op k = 0 := by unfold bnd; rw [if_neg (by omega), if_neg (by omega)]
      rw [hz]
      clear hz
      rcases h with rfl | rfl | rfl | rfl | rfl | rfl
      all_goals
        go_enter Tryd.func45, Tryd.ntmps45
        go_wp2
        go_ret
        exact ⟨rfl, rfl⟩
  · by_cases h13 : op = 13
    · subst h13
      by_cases k0 : k = 0
      · subst k0
        go_enter Tryd.func45, Tryd.ntmps45
        go_wp2
        go_ret
        exact ⟨rfl, rfl⟩
      · by_cases k2 : k = 2
        · subst k2
          go_enter Tryd.func45, Tryd.ntmps45
          go_wp2
          go_ret
          exact ⟨rfl, rfl⟩
        · have b0 := ne_beq k0
          have b2 := ne_beq k2
          have hz : bnd 13 k = 0 := by unfold bnd; rw [if_pos rfl, if_neg k0, if_neg k2]
          rw [hz]
          go_enter Tryd.func45, Tryd.ntmps45
          go_wp2
          go_ret
          exact ⟨rfl, rfl⟩
    · have hz : bnd op k = 0 := by unfold bnd; rw [if_neg h13, if_neg (fun q => h q.1)]
      rw [hz]
      have b3 := ne_beq (show ¬ op = 3 by omega)
      have b4 := ne_beq (show ¬ op = 4 by omega)
      have b6 := ne_beq (show ¬ op = 6 by omega)
      have b20 := ne_beq (show ¬ op = 20 by omega)
      have b28 := ne_beq (show ¬ op = 28 by omega)
      have b29 := ne_beq (show ¬ op = 29 by omega)
      have b13 := ne_beq h13
      go_enter Tryd.func45, Tryd.ntmps45
      go_wp2
      go_ret
      exact ⟨rfl, rfl⟩

set_option maxHeartbeats 4000000 in
theorem arity_out (op : Int) (w : World) (h : ¬ (1 ≤ op ∧ op ≤ 30)) : Calls Tryd.prog 64 #[.int .i64 op] w fun e w' => e = .returned (.int .i64 (-1)) ∧ w' = w := by
  have b1 := ne_beq (show ¬ op = 1 by omega)
  have b2 := ne_beq (show ¬ op = 2 by omega)
  have b3 := ne_beq (show ¬ op = 3 by omega)
  have b4 := ne_beq (show ¬ op = 4 by omega)
  have b5 := ne_beq (show ¬ op = 5 by omega)
  have b6 := ne_beq (show ¬ op = 6 by omega)
  have b7 := ne_beq (show ¬ op = 7 by omega)
  have b8 := ne_beq (show ¬ op = 8 by omega)
  have b9 := ne_beq (show ¬ op = 9 by omega)
  have b10 := ne_beq (show ¬ op = 10 by omega)
  have b11 := ne_beq (show ¬ op = 11 by omega)
  have b12 := ne_beq (show ¬ op = 12 by omega)
  have b13 := ne_beq (show ¬ op = 13 by omega)
  have b14 := ne_beq (show ¬ op = 14 by omega)
  have b15 := ne_beq (show ¬ op = 15 by omega)
  have b16 := ne_beq (show ¬ op = 16 by omega)
  have b17 := ne_beq (show ¬ op = 17 by omega)
  have b18 := ne_beq (show ¬ op = 18 by omega)
  have b19 := ne_beq (show ¬ op = 19 by omega)
  have b20 := ne_beq (show ¬ op = 20 by omega)
  have b21 := ne_beq (show ¬ op = 21 by omega)
  have b22 := ne_beq (show ¬ op = 22 by omega)
  have b23 := ne_beq (show ¬ op = 23 by omega)
  have b24 := ne_beq (show ¬ op = 24 by omega)
  have b25 := ne_beq (show ¬ op = 25 by omega)
  have b26 := ne_beq (show ¬ op = 26 by omega)
  have b27 := ne_beq (show ¬ op = 27 by omega)
  have b28 := ne_beq (show ¬ op = 28 by omega)
  have b29 := ne_beq (show ¬ op = 29 by omega)
  have b30 := ne_beq (show ¬ op = 30 by omega)
  go_enter Tryd.func64, Tryd.ntmps64
  go_wp2
  go_ret
  exact ⟨rfl, rfl⟩
#print axioms tbinders_any
#print axioms rbinders_any
#print axioms arity_out
end Go.Proofs.YtjiecahopdaghabDoor
