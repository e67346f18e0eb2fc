/- newMachine. -/
import Derived.Test.YtjiecahopdaghabDoorNr
import Derived.Deep.MidRow
import Derived.Laws.Tables
import Derived.Laws.IdiomCopy
namespace Go.Proofs.YtjiecahopdaghabDoor
open Go.RowKit

/-- An operation whose value is known. -/
theorem wpList_run {P : Program} {ops : Array Oper} {rest : List Oper} {o : Oper} {a : Act} {w : World} {Q : Exit → Act → World → Prop} (hgd : o.guard = none) (v : Value) (hr : (execOp a.eval o).run P w = .ok (.value v) w)
    (h : wpList P ops Q rest (a.put o.dst v) w) : wpList P ops Q (o :: rest) a w :=
  wpList_plain hgd fun K hK => by
    unfold Oper.wp
    rw [hr]
    exact hK _ _ h

/-- The rules as they are built. -/
def ruleCells (N : Nat) : Array Value := #[.int .i64 0, .nilFunc, .int .i64 0, .nilFunc, .int .i64 0, .nilFunc, .int .i64 0, .nilFunc, .int .i64 0, .nilFunc, .int .i64 2, .func (.func 54) #[pt N] #[], .int .i64 0, .nilFunc, .int .i64 0, .nilFunc, .int .i64 1, .func (.func 56) #[.agg #[pt N, .int .i64 7, .int .i64 3, .int .i64 1]] #[], .int .i64 1, .func (.func 56) #[.agg #[pt N, .int .i64 7, .int .i64 3, .int .i64 2]] #[], .int .i64 0, .nilFunc, .int .i64 0, .nilFunc, .int .i64 0, .nilFunc, .int .i64 4, .func (.func 55) #[pt N] #[], .int .i64 0, .nilFunc, .int .i64 0, .nilFunc, .int .i64 0, .nilFunc, .int .i64 0, .nilFunc, .int .i64 0, .nilFunc, .int .i64 1, .func (.func 56) #[.agg #[pt N, .int .i64 30, .int .i64 1, .int .i64 0]] #[], .int .i64 0, .nilFunc, .int .i64 0, .nilFunc, .int .i64 0, .nilFunc, .int .i64 0, .nilFunc, .int .i64 0, .nilFunc, .int .i64 0, .nilFunc, .int .i64 0, .nilFunc, .int .i64 0, .nilFunc, .int .i64 0, .nilFunc, .int .i64 0, .nilFunc, .int .i64 1, .func (.func 56) #[.agg #[pt N, .int .i64 19, .int .i64 1, .int .i64 0]] #[]]

theorem ruleCells_size (N : Nat) : (ruleCells N).size = 62 := by kernel_rfl
theorem ruleCells_at (N : Nat) (op : Nat) (h : op ≤ 30) : (ruleCells N)[op * 2]? = some (.int .i64 (ruleKids op : Nat)) ∧ (ruleCells N)[op * 2 + 1]? = some (ruleFn N op) := by
  match op, h with
  | 0, _ => exact ⟨by kernel_rfl, by kernel_rfl⟩
  | 1, _ => exact ⟨by kernel_rfl, by kernel_rfl⟩
  | 2, _ => exact ⟨by kernel_rfl, by kernel_rfl⟩
  | 3, _ => exact ⟨by kernel_rfl, by kernel_rfl⟩
  | 4, _ => exact ⟨by kernel_rfl, by kernel_rfl⟩
  | 5, _ => exact ⟨by kernel_rfl, by kernel_rfl⟩
  | 6, _ => exact ⟨by kernel_rfl, by kernel_rfl⟩
  | 7, _ => exact ⟨by kernel_rfl, by kernel_rfl⟩
  | 8, _ => exact ⟨by kernel_rfl, by kernel_rfl⟩
  | 9, _ => exact ⟨by kernel_rfl, by kernel_rfl⟩
  | 10, _ => exact ⟨by kernel_rfl, by kernel_rfl⟩
  | 11, _ => exact ⟨by kernel_rfl, by kernel_rfl⟩
  | 12, _ => exact ⟨by kernel_rfl, by kernel_rfl⟩
  | 13, _ => exact ⟨by kernel_rfl, by kernel_rfl⟩
  | 14, _ => exact ⟨by kernel_rfl, by kernel_rfl⟩
  | 15, _ => exact ⟨by kernel_rfl, by kernel_rfl⟩
  | 16, _ => exact ⟨by kernel_rfl, by kernel_rfl⟩
  | 17, _ => exact ⟨by kernel_rfl, by kernel_rfl⟩
  | 18, _ => exact ⟨by kernel_rfl, by kernel_rfl⟩
  | 19, _ => exact ⟨by kernel_rfl, by kernel_rfl⟩
  | 20, _ => exact ⟨by kernel_rfl, by kernel_rfl⟩
  | 21, _ => exact ⟨by kernel_rfl, by kernel_rfl⟩
  | 22, _ => exact ⟨by kernel_rfl, by kernel_rfl⟩
  | 23, _ => exact ⟨by kernel_rfl, by kernel_rfl⟩
  | 24, _ => exact ⟨by kernel_rfl, by kernel_rfl⟩
  | 25, _ => exact ⟨by kernel_rfl, by kernel_rfl⟩
  | 26, _ => exact ⟨by kernel_rfl, by kernel_rfl⟩
  | 27, _ => exact ⟨by kernel_rfl, by kernel_rfl⟩
  | 28, _ => exact ⟨by kernel_rfl, by kernel_rfl⟩
  | 29, _ => exact ⟨by kernel_rfl, by kernel_rfl⟩
  | 30, _ => exact ⟨by kernel_rfl, by kernel_rfl⟩
  | i + 31, h => omega

theorem setCells_shape (g : Nat) (T : TypeId) : ∀ (vs : List Value) (o : Nat) (w : World) (cs : Array Value), w.heap[g]? = some (.cells cs T (0, 0)) → ∃ cs', (w.setCells g o vs).heap[g]? = some (.cells cs' T (0, 0)) ∧ cs'.size = cs.size
  | [], _, _, cs, h => ⟨cs, h, rfl⟩
  | v :: r, o, w, cs, h => by
    obtain ⟨cs', h1, h2⟩ := setCells_shape g T r (o + 1) _ _ (heap_setCell_same _ _ o _ _ v h)
    exact ⟨cs', h1, by rw [h2]; simp⟩

/-- A new machine. -/
def NewOut (w : World) (e : Ending) (w' : World) : Prop := e = .returned (pt w.heap.size) ∧ MachP w' w.heap.size 16777216 0 0 ∧ Below w.heap.size w w' ∧ w.heap.size < w'.heap.size

theorem new_mach (w : World) : MachP ((w.alloc (.cells (Tryd.zeroCells74.setIfInBounds 62 (.int .i64 16777216)) 74)).setCells w.heap.size 0 (ruleCells w.heap.size).toList) w.heap.size 16777216 0 0 := by
  have h0 := heap_alloc_new w (.cells (Tryd.zeroCells74.setIfInBounds 62 (.int .i64 16777216)) 74)
  generalize (w.alloc (.cells (Tryd.zeroCells74.setIfInBounds 62 (.int .i64 16777216)) 74)) = W at *
  have hz : (Tryd.zeroCells74.setIfInBounds 62 (.int .i64 16777216)).size = 65 := by kernel_rfl
  have hz62 : (Tryd.zeroCells74.setIfInBounds 62 (.int .i64 16777216))[62]? = some (.int .i64 16777216) := by kernel_rfl
  have hz63 : (Tryd.zeroCells74.setIfInBounds 62 (.int .i64 16777216))[63]? = some (.int .i64 0) := by kernel_rfl
  have hz64 : (Tryd.zeroCells74.setIfInBounds 62 (.int .i64 16777216))[64]? = some (.int .i64 0) := by kernel_rfl
  generalize (Tryd.zeroCells74.setIfInBounds 62 (.int .i64 16777216)) = Z at *
  generalize w.heap.size = N at *
  have hs := ruleCells_size N
  have hl : (ruleCells N).toList.length = 62 := by rw [Array.length_toList]; exact hs
  obtain ⟨cs', h1, h2⟩ := setCells_shape N 74 (ruleCells N).toList 0 W _ h0
  have hin : ∀ j, j < 62 → cs'[j]? = (ruleCells N)[j]? := fun j hj => by
    have h3 := World.cell?_setCells_in N (ruleCells N).toList 0 W (fun i hi => by rw [cell_of_block h0, Array.getElem?_eq_getElem (by omega)]; rfl) j (by omega)
    rw [Nat.zero_add] at h3
    rw [← cell_of_block h1 j, h3, Array.getElem?_eq_getElem (by omega)]
    simp
  have hout : ∀ j, 62 ≤ j → cs'[j]? = Z[j]? := fun j hj => by
    rw [← cell_of_block h1 j, World.cell?_setCells_out _ _ _ _ _ (fun _ _ => Or.inr (by simp only [hl]; omega)), cell_of_block h0]
  refine ⟨cs', h1, by omega, fun op ho => ?_, (hout 62 (by omega)).trans hz62, (hout 63 (by omega)).trans hz63, (hout 64 (by omega)).trans hz64⟩
  obtain ⟨g1, g2⟩ := ruleCells_at N op ho
  exact ⟨(hin _ (by omega)).trans g1, (hin _ (by omega)).trans g2⟩

attribute [local go_sem ↓] Go.wp_at_zero Go.wp_at_succ

set_option maxRecDepth 20000 in
set_option maxHeartbeats 2000000 in
theorem newm_any (w : World) : Calls Tryd.prog 35 #[] w (NewOut w) := by
  go_enter Tryd.func35, Tryd.ntmps35
  have hmf := mk_func
  go_upto_region 2 with fail
  refine wp_region_list ?_
  refine wpList_run rfl (pt w.heap.size) (by kernel_rfl) ?_
  refine wpList_run rfl (pt w.heap.size) (by kernel_rfl) ?_
  refine wpList_run rfl (.func (.func 54) #[pt w.heap.size] #[]) (by kernel_rfl) ?_
  refine wpList_run rfl (.agg #[.int .i64 2, (.func (.func 54) #[pt w.heap.size] #[])]) (by kernel_rfl) ?_
  refine wpList_run rfl (pt w.heap.size) (by kernel_rfl) ?_
  refine wpList_run rfl (.func (.func 55) #[pt w.heap.size] #[]) (by kernel_rfl) ?_
  refine wpList_run rfl (.agg #[.int .i64 4, (.func (.func 55) #[pt w.heap.size] #[])]) (by kernel_rfl) ?_
  refine wpList_run rfl (pt w.heap.size) (by kernel_rfl) ?_
  refine wpList_run rfl (.agg #[pt w.heap.size, .int .i64 7, .int .i64 3, .int .i64 1]) (by kernel_rfl) ?_
  refine wpList_run rfl (.func (.func 56) #[(.agg #[pt w.heap.size, .int .i64 7, .int .i64 3, .int .i64 1])] #[]) (by kernel_rfl) ?_
  refine wpList_run rfl (.agg #[.int .i64 1, (.func (.func 56) #[(.agg #[pt w.heap.size, .int .i64 7, .int .i64 3, .int .i64 1])] #[])]) (by kernel_rfl) ?_
  refine wpList_run rfl (pt w.heap.size) (by kernel_rfl) ?_
  refine wpList_run rfl (.agg #[pt w.heap.size, .int .i64 7, .int .i64 3, .int .i64 2]) (by kernel_rfl) ?_
  refine wpList_run rfl (.func (.func 56) #[(.agg #[pt w.heap.size, .int .i64 7, .int .i64 3, .int .i64 2])] #[]) (by kernel_rfl) ?_
  refine wpList_run rfl (.agg #[.int .i64 1, (.func (.func 56) #[(.agg #[pt w.heap.size, .int .i64 7, .int .i64 3, .int .i64 2])] #[])]) (by kernel_rfl) ?_
  refine wpList_run rfl (pt w.heap.size) (by kernel_rfl) ?_
  refine wpList_run rfl (.agg #[pt w.heap.size, .int .i64 19, .int .i64 1, .int .i64 0]) (by kernel_rfl) ?_
  refine wpList_run rfl (.func (.func 56) #[(.agg #[pt w.heap.size, .int .i64 19, .int .i64 1, .int .i64 0])] #[]) (by kernel_rfl) ?_
  refine wpList_run rfl (.agg #[.int .i64 1, (.func (.func 56) #[(.agg #[pt w.heap.size, .int .i64 19, .int .i64 1, .int .i64 0])] #[])]) (by kernel_rfl) ?_
  refine wpList_run rfl (pt w.heap.size) (by kernel_rfl) ?_
  refine wpList_run rfl (.agg #[pt w.heap.size, .int .i64 30, .int .i64 1, .int .i64 0]) (by kernel_rfl) ?_
  refine wpList_run rfl (.func (.func 56) #[(.agg #[pt w.heap.size, .int .i64 30, .int .i64 1, .int .i64 0])] #[]) (by kernel_rfl) ?_
  refine wpList_run rfl (.agg #[.int .i64 1, (.func (.func 56) #[(.agg #[pt w.heap.size, .int .i64 30, .int .i64 1, .int .i64 0])] #[])]) (by kernel_rfl) ?_
  refine wpList_build rfl 72 _ rfl (by kernel_rfl) ?_
  refine wpList_run rfl (pt w.heap.size) (by kernel_rfl) ?_
  refine wpList_run rfl (pt w.heap.size) (by kernel_rfl) ?_
  refine wpList_store_mid rfl 72 _ _ rfl w.heap.size 0 (ruleCells w.heap.size) (by kernel_rfl) (by kernel_rfl) ?_ (by kernel_rfl) (by kernel_rfl) ?_
  · intro j hj
    have h0 := heap_alloc_new w (.cells (Tryd.zeroCells74.setIfInBounds 62 (.int .i64 16777216)) 74)
    rw [ruleCells_size] at hj
    have hz : (Tryd.zeroCells74.setIfInBounds 62 (.int .i64 16777216)).size = 65 := by kernel_rfl
    refine ⟨?_, ?_⟩
    · rw [cell_of_block h0, Array.getElem?_eq_getElem (by rw [hz]; omega)]; rfl
    · exact frozen_of_block h0 _
  refine wpList_nil ?_
  have HM := hide (new_mach w)
  have HB : Hid (Below w.heap.size w ((w.alloc (.cells (Tryd.zeroCells74.setIfInBounds 62 (.int .i64 16777216)) 74)).setCells w.heap.size 0 (ruleCells w.heap.size).toList)) := hide (below_cells (Nat.le_refl _) _ _ _ (later_alloc w _))
  have hz : w.heap.size < ((w.alloc (.cells (Tryd.zeroCells74.setIfInBounds 62 (.int .i64 16777216)) 74)).setCells w.heap.size 0 (ruleCells w.heap.size).toList).heap.size := by rw [size_cells]; simp
  have HZ := hide hz
  clear hz
  generalize ((w.alloc (.cells (Tryd.zeroCells74.setIfInBounds 62 (.int .i64 16777216)) 74)).setCells w.heap.size 0 (ruleCells w.heap.size).toList) = W2 at *
  simp only [Act.put]
  go_wp2_with fail
  go_ret
  exact ⟨rfl, HM.out, HB.out, HZ.out⟩
#print axioms newm_any
end Go.Proofs.YtjiecahopdaghabDoor
