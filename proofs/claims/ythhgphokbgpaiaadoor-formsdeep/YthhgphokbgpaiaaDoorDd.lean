/- Forms that stand so many lists deep, and their texts. -/
import Derived.Test.YthhgphokbgpaiaaDoorKn
namespace Go.Proofs.YthhgphokbgpaiaaDoor
open Go.RowKit

/-- A name in so many lists. -/
def nest : Nat → Fm
  | 0 => ⟨1, 0, [97], []⟩
  | n + 1 => ⟨3, 0, [], [nest n]⟩

theorem nest_short : ∀ n, Short (nest n)
  | 0 => fun x hx => by
    rw [Fm.pre_eq] at hx
    simp [nest] at hx
    subst hx
    simp
  | n + 1 => fun x hx => by
    rw [Fm.pre_eq] at hx
    simp only [nest, List.map_cons, List.map_nil, List.flatten_cons, List.flatten_nil, List.append_nil, List.mem_cons] at hx
    rcases hx with rfl | hx
    · simp
    · exact nest_short n x hx

/-- Its text, alone or between two names. -/
def deepL (k : Nat) (bh : Bool) : List UInt8 := if bh = true then [98, 32] ++ (List.replicate k 40 ++ [97] ++ List.replicate k 41) ++ [32, 99] else List.replicate k 40 ++ [97] ++ List.replicate k 41

def okB (L : List UInt8) : Bool := match parP L with
  | .ok (_ :: _) => true
  | _ => false
def farB (L : List UInt8) : Bool := match parP L with
  | .error (5, p) => decide (p < L.length) && (L.getD p 0 == 40)
  | _ => false

theorem okB_ok {L : List UInt8} (h : okB L = true) : ∃ fs, parP L = .ok fs ∧ 0 < fs.length := by
  unfold okB at h
  split at h
  · rename_i t r h1; exact ⟨_, h1, by simp⟩
  · cases h
theorem farB_far {L : List UInt8} (h : farB L = true) : ∃ p, parP L = .error (5, p) ∧ p < L.length ∧ byt L p = 40 := by
  unfold farB at h
  split at h
  · rename_i p h1
    simp only [Bool.and_eq_true, decide_eq_true_eq, beq_iff_eq] at h
    exact ⟨p, h1, h.1, by unfold byt; rw [h.2]; rfl⟩
  · cases h

theorem deep_ok (m : Nat) (h : m < 3) (bh : Bool) : okB (deepL (28 + m) bh) = true := by
  rcases (show m = 0 ∨ m = 1 ∨ m = 2 by omega) with rfl | rfl | rfl <;> cases bh <;> kernel_rfl
theorem deep_far (m : Nat) (h : ¬ m < 3) (h6 : m < 6) (bh : Bool) : farB (deepL (28 + m) bh) = true := by
  rcases (show m = 3 ∨ m = 4 ∨ m = 5 by omega) with rfl | rfl | rfl <;> cases bh <;> kernel_rfl
theorem nest_ok (m : Nat) (h : m < 3) : chkP (nest (28 + m)) = 0 := by
  rcases (show m = 0 ∨ m = 1 ∨ m = 2 by omega) with rfl | rfl | rfl <;> kernel_rfl
theorem nest_far (m : Nat) (h : ¬ m < 3) (h6 : m < 6) : chkP (nest (28 + m)) = 5 := by
  rcases (show m = 3 ∨ m = 4 ∨ m = 5 by omega) with rfl | rfl | rfl <;> kernel_rfl

/-- The variable that holds it. -/
def NestAt (w : World) (fb : Nat) (wr : World) (k : Nat) : Prop :=
  ∃ la lc, wr.heap[fb]? = some (.cells #[.int .i64 (nest k).kind, .int .i64 (nest k).n, .string ⟨⟨(nest k).s⟩⟩, .slice la (nest k).l.length lc] 41 (0, 0)) ∧
    FmD wr (fun q => fb < q ∧ q < wr.heap.size) (k + 1) (nest k) (.agg #[.int .i64 (nest k).kind, .int .i64 (nest k).n, .string ⟨⟨(nest k).s⟩⟩, .slice la (nest k).l.length lc]) ∧ Below w.heap.size w wr ∧ w.heap.size ≤ fb

theorem set4_zero (w : World) (g : Nat) (y0 y1 y2 y3 : Value) : set4 w g 0 y0 y1 y2 y3 = (((w.setCell ⟨g, 0, none⟩ y0).setCell ⟨g, 1, none⟩ y1).setCell ⟨g, 2, none⟩ y2).setCell ⟨g, 3, none⟩ y3 := rfl

theorem NestAt.step {w wr : World} {fb k lc : Nat} {la : Option Addr} (hb : wr.heap[fb]? = some (.cells #[.int .i64 (nest k).kind, .int .i64 (nest k).n, .string ⟨⟨(nest k).s⟩⟩, .slice la (nest k).l.length lc] 41 (0, 0)))
    (hf : FmD wr (fun q => fb < q ∧ q < wr.heap.size) (k + 1) (nest k) (.agg #[.int .i64 (nest k).kind, .int .i64 (nest k).n, .string ⟨⟨(nest k).s⟩⟩, .slice la (nest k).l.length lc])) (hbl : Below w.heap.size w wr) (hw : w.heap.size ≤ fb) :
    NestAt w fb (((((wr.setCell ⟨fb, 0, none⟩ (.int .i64 3)).setCell ⟨fb, 1, none⟩ (.int .i64 0)).setCell ⟨fb, 2, none⟩ (.string ⟨#[]⟩)).setCell ⟨fb, 3, none⟩ (.slice (some ⟨wr.heap.size, 0, none⟩) 1 1)).alloc (.cells #[.int .i64 (nest k).kind, .int .i64 (nest k).n, .string ⟨⟨(nest k).s⟩⟩, .slice la (nest k).l.length lc] 41)) (k + 1) := by
  have hlt := size_of_block hb
  rw [← set4_zero]
  generalize hW4 : set4 wr fb 0 (.int .i64 3) (.int .i64 0) (.string ⟨#[]⟩) (.slice (some ⟨wr.heap.size, 0, none⟩) 1 1) = W4
  have hs4 : W4.heap.size = wr.heap.size := by rw [← hW4, set4_size]
  have ho4 : ∀ q, q ≠ fb → W4.heap[q]? = wr.heap[q]? := fun q h => by rw [← hW4]; exact set4_other _ _ _ _ _ _ _ _ h
  have hb4 : W4.heap[fb]? = some (.cells #[.int .i64 3, .int .i64 0, .string ⟨#[]⟩, .slice (some ⟨wr.heap.size, 0, none⟩) 1 1] 41 (0, 0)) := by
    rw [← hW4, heap_setCell_same _ _ _ _ _ _ (heap_setCell_same _ _ _ _ _ _ (heap_setCell_same _ _ _ _ _ _ (heap_setCell_same _ _ _ _ _ _ hb)))]
    rfl
  have e4 : W4.os = wr.os ∧ W4.tape = wr.tape ∧ W4.output = wr.output := by
    rw [← hW4]
    exact ⟨by rw [os_setCell, os_setCell, os_setCell, os_setCell], by rw [tape_setCell, tape_setCell, tape_setCell, tape_setCell], by rw [output_setCell, output_setCell, output_setCell, output_setCell]⟩
  clear hW4
  have hnew : (W4.alloc (.cells #[.int .i64 (nest k).kind, .int .i64 (nest k).n, .string ⟨⟨(nest k).s⟩⟩, .slice la (nest k).l.length lc] 41)).heap[wr.heap.size]? = some (.cells #[.int .i64 (nest k).kind, .int .i64 (nest k).n, .string ⟨⟨(nest k).s⟩⟩, .slice la (nest k).l.length lc] 41 (0, 0)) := by
    have := heap_alloc_new W4 (.cells #[.int .i64 (nest k).kind, .int .i64 (nest k).n, .string ⟨⟨(nest k).s⟩⟩, .slice la (nest k).l.length lc] 41)
    rwa [hs4] at this
  have hoth : ∀ q, q ≠ fb → q < wr.heap.size → (W4.alloc (.cells #[.int .i64 (nest k).kind, .int .i64 (nest k).n, .string ⟨⟨(nest k).s⟩⟩, .slice la (nest k).l.length lc] 41)).heap[q]? = wr.heap[q]? := fun q h1 h2 => (Below.heap_alloc W4 _ q (by omega)).trans (ho4 q h1)
  have hsz : (W4.alloc (.cells #[.int .i64 (nest k).kind, .int .i64 (nest k).n, .string ⟨⟨(nest k).s⟩⟩, .slice la (nest k).l.length lc] 41)).heap.size = wr.heap.size + 1 := by rw [World.size_alloc, hs4]
  refine ⟨some ⟨wr.heap.size, 0, none⟩, 1, (Below.heap_alloc W4 _ fb (by omega)).trans hb4, ?_, ?_, hw⟩
  · refine ⟨some ⟨wr.heap.size, 0, none⟩, 1, rfl, by unfold I64; simp only [nest]; omega, by unfold I64; simp only [nest]; omega, Nat.le_refl _, by unfold maxLen; omega, fun _ => ⟨wr.heap.size, 0, rfl, ⟨hlt, by rw [hsz]; omega⟩, fun i hi => ?_⟩⟩
    have hi0 : i = 0 := by simp [nest] at hi; omega
    subst hi0
    obtain ⟨d0, d1, d2, d3⟩ := blk4 hnew
    refine ⟨_, _, _, _, d0, d1, d2, d3, ?_⟩
    exact hf.keep (fun q hq => hoth q (by omega) hq.2) (fun q hq => ⟨hq.1, by rw [hsz]; omega⟩) _ _ _
  · refine hbl.trans ⟨e4.1, e4.2.1, e4.2.2, by rw [hsz]; omega, fun q hq => ?_⟩
    have := hbl.size
    exact hoth q (by omega) (by omega)
#print axioms NestAt.step
end Go.Proofs.YthhgphokbgpaiaaDoor
