/- forms.fault: a form's own error. -/
import Derived.Test.YthhgphokbgpaiabDoorPa
namespace Go.Proofs.YthhgphokbgpaiabDoor
open Go.RowKit

/-- Is it a name, a sign? -/
def nameOK (l : List UInt8) : Bool := match tokP l with
  | .ok [t] => t.s == l
  | _ => false

/-- .. as a number. -/
def nameE (l : List UInt8) : Int := if nameOK l = true then 0 else 7
def numE (n : Int) : Int := if -4611686018427387904 ≤ n ∧ n ≤ 4611686018427387904 then 0 else 7
def listE (d : Int) : Int := if 30 < d then 5 else 0

/-- A form's own error, so deep as a list would stand. -/
def faultP (f : Fm) (d : Nat) : Nat :=
  if f.kind = 1 then (if nameOK f.s = true then 0 else 7)
  else if f.kind = 2 then (if -4611686018427387904 ≤ f.n ∧ f.n ≤ 4611686018427387904 then 0 else 7)
  else if f.kind = 3 then (if 30 < d then 5 else 0)
  else 7

set_option maxRecDepth 20000 in
theorem faults_any (w : World) : Calls Tryd.prog 14 #[] w fun e w' => e = .returned (.agg #[.nilFunc, .func (.func 31) #[] #[], .func (.func 32) #[] #[], .func (.func 33) #[] #[]]) ∧ Below w.heap.size w w' := by
  go_enter Tryd.func14, Tryd.ntmps14
  go_wp2_with fail
  refine bodyPost_ret (v := .agg #[.nilFunc, .func (.func 31) #[] #[], .func (.func 32) #[] #[], .func (.func 33) #[] #[]]) (by simp [results, Tryd.results14, go_sem]) rfl ⟨rfl, (Below.refl _ _).alloc (Nat.le_refl _) _⟩

set_option maxRecDepth 20000 in
theorem plist_any (k n : Int) (ss : ByteArray) (la : Option Addr) (ll lc : Nat) (d : Int) (w : World) : Calls Tryd.prog 33 #[.agg #[.int .i64 k, .int .i64 n, .string ss, .slice la ll lc, .int .i64 d]] w fun e w' => e = .returned (.int .i64 (listE d)) ∧ Below w.heap.size w w' := by
  by_cases h : 30 < d
  · have e1 : listE d = 5 := if_pos h
    rw [e1]
    go_enter Tryd.func33, Tryd.ntmps33
    go_wp2_with fail
    go_ret
    exact ⟨rfl, (Below.refl _ _).alloc (Nat.le_refl _) _⟩
  · have e1 : listE d = 0 := if_neg h
    rw [e1]
    go_enter Tryd.func33, Tryd.ntmps33
    go_wp2_with fail
    go_ret
    exact ⟨rfl, (Below.refl _ _).alloc (Nat.le_refl _) _⟩

set_option maxRecDepth 20000 in
theorem pnumber_any (k n : Int) (ss : ByteArray) (la : Option Addr) (ll lc : Nat) (d : Int) (w : World) : Calls Tryd.prog 32 #[.agg #[.int .i64 k, .int .i64 n, .string ss, .slice la ll lc, .int .i64 d]] w fun e w' => e = .returned (.int .i64 (numE n)) ∧ Below w.heap.size w w' := by
  by_cases h1 : n < -4611686018427387904
  · have e1 : numE n = 7 := if_neg (by omega)
    rw [e1]
    go_enter Tryd.func32, Tryd.ntmps32
    go_wp2_with fail
    go_ret
    exact ⟨rfl, (Below.refl _ _).alloc (Nat.le_refl _) _⟩
  · by_cases h2 : 4611686018427387904 < n
    · have e1 : numE n = 7 := if_neg (by omega)
      rw [e1]
      go_enter Tryd.func32, Tryd.ntmps32
      go_wp2_with fail
      go_ret
      exact ⟨rfl, (Below.refl _ _).alloc (Nat.le_refl _) _⟩
    · have e1 : numE n = 0 := if_pos (by omega)
      rw [e1]
      go_enter Tryd.func32, Tryd.ntmps32
      go_wp2_with fail
      go_ret
      exact ⟨rfl, (Below.refl _ _).alloc (Nat.le_refl _) _⟩

theorem below_new {w w1 : World} {o : Obj} (h : Below (w.alloc o).heap.size (w.alloc o) w1) : Below w.heap.size w w1 :=
  ((Below.refl w.heap.size w).alloc (Nat.le_refl _) o).trans (h.mono (by rw [World.size_alloc]; omega))

theorem new_cell2 {w w1 : World} {a b c d e : Value} {T : TypeId} (h : Below (w.alloc (.cells #[a, b, c, d, e] T)).heap.size (w.alloc (.cells #[a, b, c, d, e] T)) w1) : w1.cell? ⟨w.heap.size, 2, none⟩ = some c := by
  have h1 : w1.heap[w.heap.size]? = some (.cells #[a, b, c, d, e] T (0, 0)) := (h.block w.heap.size (by rw [World.size_alloc]; omega)).trans (heap_alloc_new w _)
  exact (cell_of_block h1 2).trans rfl

set_option maxRecDepth 20000 in
set_option maxHeartbeats 1000000 in
theorem pname_any (k n : Int) (L : List UInt8) (hm : L.length ≤ 140737488355328) (la : Option Addr) (ll lc : Nat) (d : Int) (w : World) (he : Errs w) :
    Calls Tryd.prog 31 #[.agg #[.int .i64 k, .int .i64 n, .string ⟨⟨L⟩⟩, .slice la ll lc, .int .i64 d]] w fun e w' => e = .returned (.int .i64 (nameE L)) ∧ Below w.heap.size w w' := by
  have hsz : (⟨⟨L⟩⟩ : ByteArray).size = L.length := rfl
  have HSZ := hide hsz
  clear hsz
  go_enter Tryd.func31, Tryd.ntmps31
  go_wp2_with fail
  refine (tokens_any ⟨⟨L⟩⟩ L _ rfl (by rw [HSZ.out]; exact hm) (he.keep ((Below.refl _ _).alloc (Nat.le_refl _) _))).mono ?_
  rintro e w1 ⟨⟨er, p, hp, rfl⟩ | ⟨ts, v, hp, rfl, htk⟩, hbl⟩
  · have HBL := hide (below_new hbl)
    have c2 := new_cell2 hbl
    clear hbl
    have hr : nameE L = 7 := if_neg (by unfold nameOK; rw [hp]; simp)
    have HR := hide hr
    have hq : ((er : Int) != 0) = true := by have := tok_err0 hp; simp; omega
    clear hp hr
    go_wp2_with fail
    go_region
    all_goals
      go_wp2_with fail
      go_ret
      exact ⟨by rw [HR.out]; rfl, HBL.out.drew⟩
  · have HBL := hide (below_new hbl)
    have c2 := new_cell2 hbl
    clear hbl
    have hlen : ts.length = 0 ∨ ts.length = 1 ∨ 2 ≤ ts.length := by omega
    have hn4 := (tokP_ok hp).2
    by_cases h1 : ts.length = 1
    · match ts, h1 with
      | [t], _ =>
        obtain ⟨g, cap, rfl, hcap, hgs, hcells⟩ := toks_cells htk (by simp)
        obtain ⟨_, _, _, p3⟩ := hcells 0 (by simp)
        simp only [Nat.zero_mul, Nat.zero_add, List.getElem_cons_zero] at p3
        have hr : nameE L = if t.s = L then 0 else 7 := by unfold nameE nameOK; rw [hp]; simp
        have HR := hide hr
        clear hp hr hcells
        by_cases hs : t.s = L
        · subst hs
          have HR7 : Hid (nameE t.s = 0) := HR.out.trans (if_pos rfl)
          clear HR
          go_wp2_with fail
          go_region
          all_goals
            go_wp2_with fail
            go_ret
            exact ⟨by rw [HR7.out]; rfl, HBL.out.drew⟩
        · have hb1 : (t.s == L) = false := by simpa using hs
          have HR7 : Hid (nameE L = 7) := HR.out.trans (if_neg hs)
          clear HR hs
          go_wp2_with fail
          go_region
          all_goals
            go_wp2_with fail
            go_ret
            exact ⟨by rw [HR7.out]; rfl, HBL.out.drew⟩
    · have hr : nameE L = 7 := if_neg (by
        unfold nameOK; rw [hp]
        match ts, h1 with
        | [], _ => simp
        | [t], h => exact absurd rfl h
        | _ :: _ :: _, _ => simp)
      have HR := hide hr
      obtain ⟨a1, c1, rfl, _, _⟩ := owns_form htk
      have hq : ((ts.length : Int) != 1) = true := by simp; omega
      clear hp hr
      go_wp2_with fail
      go_region
      all_goals
        go_wp2_with fail
        go_ret
        exact ⟨by rw [HR.out]; rfl, HBL.out.drew⟩
theorem idx93_1 (w : World) (a b c d : Value) : (Instr.index 55 (.agg #[a, b, c, d]) (.int .i64 1)).run Tryd.prog w = .ok b w := by
  simp [Instr.index, go_sem, run_underlying Tryd.underlying55]
theorem idx93_2 (w : World) (a b c d : Value) : (Instr.index 55 (.agg #[a, b, c, d]) (.int .i64 2)).run Tryd.prog w = .ok c w := by
  simp [Instr.index, go_sem, run_underlying Tryd.underlying55]
theorem idx93_3 (w : World) (a b c d : Value) : (Instr.index 55 (.agg #[a, b, c, d]) (.int .i64 3)).run Tryd.prog w = .ok d w := by
  simp [Instr.index, go_sem, run_underlying Tryd.underlying55]
attribute [local go_sem] idx93_1 idx93_2 idx93_3

theorem Errs.drew {w : World} (h : Errs w) : Errs w.drew := h

theorem fault_name {f : Fm} {d : Nat} (h : f.kind = 1) : ((faultP f d : Nat) : Int) = nameE f.s := by
  unfold faultP nameE; rw [if_pos h]; split <;> rfl
theorem fault_num {f : Fm} {d : Nat} (h : f.kind = 2) : ((faultP f d : Nat) : Int) = numE f.n := by
  unfold faultP numE; rw [if_neg (by rw [h]; decide), if_pos h]; split <;> rfl
theorem fault_list {f : Fm} {d : Nat} (h : f.kind = 3) : ((faultP f d : Nat) : Int) = listE d := by
  unfold faultP listE; rw [if_neg (by rw [h]; decide), if_neg (by rw [h]; decide), if_pos h]
  by_cases h1 : 30 < d
  · rw [if_pos h1, if_pos (by omega)]; rfl
  · rw [if_neg h1, if_neg (by omega)]; rfl
theorem fault_none {f : Fm} {d : Nat} (h1 : f.kind ≠ 1) (h2 : f.kind ≠ 2) (h3 : f.kind ≠ 3) : faultP f d = 7 := by
  unfold faultP; rw [if_neg h1, if_neg h2, if_neg h3]

theorem four_new {w w1 : World} {a b c d : Value} {T : TypeId} (h : Below (w.alloc (.cells #[a, b, c, d] T)).drew.heap.size (w.alloc (.cells #[a, b, c, d] T)).drew w1) : w1.cell? ⟨w.heap.size, 0, none⟩ = some a ∧ w1.cell? ⟨w.heap.size, 1, none⟩ = some b ∧ w1.cell? ⟨w.heap.size, 2, none⟩ = some c ∧ w1.cell? ⟨w.heap.size, 3, none⟩ = some d := by
  have h1 : w1.heap[w.heap.size]? = some (.cells #[a, b, c, d] T (0, 0)) := (h.block w.heap.size (by rw [size_drew, World.size_alloc]; omega)).trans (new_block0 w _)
  exact blk4 h1

theorem below_two {w w1 w2 : World} {o : Obj} (h1 : Below (w.alloc o).drew.heap.size (w.alloc o).drew w1) (h2 : Below w1.heap.size w1 w2) : Below w.heap.size w w2 :=
  below_tok (Below.refl _ _) (h1.trans (h2.mono h1.size))

#print axioms below_two
end Go.Proofs.YthhgphokbgpaiabDoor
