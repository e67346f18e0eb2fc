/- Free variables: freeAt, the questions, count. -/
import Derived.Test.YtjiecahopdaghabDoorMe
import Derived.Deep.DeepCutAuto
import Derived.Deep.CutBlock
import Derived.Deep.RegionHeld3
namespace Go.Proofs.YtjiecahopdaghabDoor
open Go.RowKit

theorem Tb.drew {w : World} (h : Tb w) : Tb w.drew := ⟨h.size, h.bnd⟩

theorem held_box {w w5 : World} {x0 x1 x2 y : Value} {q : Nat} (hb : Below (w.alloc (.cells #[x0, x1, x2] 26)).drew.heap.size (w.alloc (.cells #[x0, x1, x2] 26)).drew w5) (hy : (w.alloc (.cells #[x0, x1, x2] 26)).cell? ⟨q, 0, none⟩ = some y) (hq : q < w.heap.size) :
    w5.cell? ⟨w.heap.size, 0, none⟩ = some x0 ∧ w5.cell? ⟨w.heap.size, 1, none⟩ = some x1 ∧ w5.cell? ⟨w.heap.size, 2, none⟩ = some x2 ∧ w5.cell? ⟨q, 0, none⟩ = some y := by
  have hc : ∀ p : Addr, p.block < w.heap.size + 1 → w5.cell? p = (w.alloc (.cells #[x0, x1, x2] 26)).cell? p := fun p hp => hb.cell (p := p) (by rw [size_drew, World.size_alloc]; exact hp)
  refine ⟨?_, ?_, ?_, ?_⟩
  · rw [hc _ (by simp)]; simp
  · rw [hc _ (by simp)]; simp
  · rw [hc _ (by simp)]; simp
  · rw [hc _ (by show q < _; omega)]; exact hy
theorem drew_below' {w w' : World} {B : Nat} (h : Below w.drew.heap.size w.drew w') (hB : B ≤ w.drew.heap.size) : Below B w w' := ⟨h.os, h.tape, h.output, h.size, fun k hk => h.block k (by omega)⟩

/-- What count has come to behind k kids. -/
def cntTo' (p : Int → Bool) (u : Int) (t : Tr) (k : Nat) : Nat := (if t.op = 1 ∧ u ≤ t.n ∧ p (t.n - u) = true then 1 else 0) + ((t.kids.mapIdx (fun j x => cnt p (u + (bnd t.op ((j : Nat) : Int) : Nat)) x)).take k).sum
theorem cntTo'_end (p : Int → Bool) (u : Int) (t : Tr) : cntTo' p u t t.kids.length = cnt p u t := by
  rw [cnt_eq, cntTo', List.take_of_length_le (by simp)]
theorem cntTo'_succ (p : Int → Bool) (u : Int) (t : Tr) (k : Nat) (hk : k < t.kids.length) : cntTo' p u t (k + 1) = cntTo' p u t k + cnt p (u + (bnd t.op ((k : Nat) : Int) : Nat)) t.kids[k] := by
  unfold cntTo'
  rw [List.take_succ_eq_append_getElem (by simpa using hk), List.sum_append, List.getElem_mapIdx]
  simp
  omega
theorem cntTo'_le (p : Int → Bool) (u : Int) (t : Tr) (k : Nat) : cntTo' p u t k ≤ cnt p u t := by
  rw [cnt_eq, cntTo']
  have := sum_take_le (t.kids.mapIdx (fun j x => cnt p (u + (bnd t.op ((j : Nat) : Int) : Nat)) x)) k
  omega
theorem cnt_size (p : Int → Bool) (t : Tr) : ∀ u, cnt p u t ≤ t.size := by
  induction t using Tr.ind with
  | h t ih =>
    intro u
    have key : ∀ k, k ≤ t.kids.length → cntTo' p u t k ≤ 1 + ((t.kids.take k).map Tr.size).sum := by
      intro k
      induction k with
      | zero => intro _; simp [cntTo']; split <;> omega
      | succ k ihk =>
        intro hk
        have h1 := ihk (by omega)
        have h2 := ih t.kids[k] (List.getElem_mem _) (u + (bnd t.op ((k : Nat) : Int) : Nat))
        rw [cntTo'_succ p u t k (by omega), List.take_succ_eq_append_getElem (by omega)]
        simp only [List.map_append, List.sum_append, List.map_cons, List.map_nil, List.sum_cons, List.sum_nil]
        omega
    have := key t.kids.length (Nat.le_refl _)
    rw [cntTo'_end, List.take_length] at this
    rw [Tr.size_eq]
    exact this

end Go.Proofs.YtjiecahopdaghabDoor
