/- ref.Num; is; known. -/
import Derived.Test.YtjiecahopdaghabDoorEb
namespace Go.Proofs.YtjiecahopdaghabDoor
open Go.RowKit

/-- While a number is made: the answer's box is the first new one; q the number's. -/
def NumS (D : Nat → Prop) (w : World) (q : Nat) (T : Tr) (wr : World) : Prop := Below w.heap.size w wr ∧ wr.heap[w.heap.size]? = some (.cells #[.int .i64 0, .int .i64 0, .slice none 0 0] 26 (0, 0)) ∧
  ∃ p0 p1 pa pl pc, wr.heap[q]? = some (.cells #[.int .i64 p0, .int .i64 p1, .slice pa pl pc] 26 (0, 0)) ∧ IsD (fun k => (D k ∧ k ≠ w.heap.size) ∧ k ≠ q) T (.agg #[.int .i64 p0, .int .i64 p1, .slice pa pl pc]) wr

theorem NumS.put {D : Nat → Prop} {w w9 : World} {q : Nat} {T : Tr} {p0 p1 : Int} {pa : Option Addr} {pl pc : Nat} {x y z : Value} (hq : w.heap.size < q) (hb : Below w.heap.size w w9) (h0 : w9.heap[w.heap.size]? = some (.cells #[.int .i64 0, .int .i64 0, .slice none 0 0] 26 (0, 0))) (h1 : w9.heap[q]? = some (.cells #[x, y, z] 26 (0, 0)))
    (h : IsD (fun k => (D k ∧ k ≠ w.heap.size) ∧ k ≠ q) T (.agg #[.int .i64 p0, .int .i64 p1, .slice pa pl pc]) w9) :
    NumS D w q T (((w9.setCell ⟨q, 0, none⟩ (.int .i64 p0)).setCell ⟨q, 1, none⟩ (.int .i64 p1)).setCell ⟨q, 2, none⟩ (.slice pa pl pc)) := by
  refine ⟨((hb.setCell (p := ⟨q, 0, none⟩) (by show w.heap.size ≤ q; omega) _).setCell (p := ⟨q, 1, none⟩) (by show w.heap.size ≤ q; omega) _).setCell (p := ⟨q, 2, none⟩) (by show w.heap.size ≤ q; omega) _, ?_, p0, p1, pa, pl, pc, ?_, ?_⟩
  · rw [heap_setCell_other _ _ _ _ (show w.heap.size ≠ q by omega), heap_setCell_other _ _ _ _ (show w.heap.size ≠ q by omega), heap_setCell_other _ _ _ _ (show w.heap.size ≠ q by omega)]; exact h0
  · rw [heap_setCell_same _ _ 2 _ _ _ (heap_setCell_same _ _ 1 _ _ _ (heap_setCell_same _ _ 0 _ _ _ h1))]; rfl
  · obtain ⟨q0, q1, qa, ql, qc, e, ht⟩ := h
    refine ⟨q0, q1, qa, ql, qc, e, ht.keep (fun k hk => ?_) (fun k hk => ⟨hk.1, ?_⟩) _ _ _⟩
    · rw [heap_setCell_other _ _ _ _ hk.1.2, heap_setCell_other _ _ _ _ hk.1.2, heap_setCell_other _ _ _ _ hk.1.2]
    · have : (((w9.setCell ⟨q, 0, none⟩ (.int .i64 p0)).setCell ⟨q, 1, none⟩ (.int .i64 p1)).setCell ⟨q, 2, none⟩ (.slice pa pl pc)).heap.size = w9.heap.size := by simp [World.setCell]
      rw [this]; exact hk.2

attribute [local go_sem ↓] Go.wp_at_zero Go.wp_at_succ

set_option maxRecDepth 20000 in
set_option maxHeartbeats 1000000 in
theorem e_num {D : Nat → Prop} {w : World} (hD : ∀ k, w.heap.size ≤ k → D k) {n : Nat} (hn : n ≤ 1000000) : Calls Tryd.prog 12 #[.int .i64 (n : Nat)] w (TmOut D w (numT n)) := by
  have HDD := hide hD
  clear hD
  go_enter Tryd.func12, Tryd.ntmps12
  go_wp2_with fail
  have HB1 := hide (later_alloc w (.cells #[.int .i64 0, .int .i64 0, .slice none 0 0] 26))
  have HQ := hide (heap_alloc_new w (.cells #[.int .i64 0, .int .i64 0, .slice none 0 0] 26))
  refine (t_any 11 none 0 0 _).mono ?_
  rintro e w2 ⟨rfl, hb2⟩
  have hs1 : (w.alloc (.cells #[.int .i64 0, .int .i64 0, .slice none 0 0] 26)).heap.size = w.heap.size + 1 := by simp
  have HB2 := hide (HB1.out.trans (hb2.mono (by omega)))
  have HQ2 := hide ((hb2.block w.heap.size (by omega)).trans HQ.out)
  have hs2 : w.heap.size < w2.heap.size := by have := hb2.size; omega
  have HS2 := hide hs2
  have HN0 : Hid (NumS D w w2.heap.size zeroT (w2.alloc (.cells #[.int .i64 11, .int .i64 0, .slice none 0 0] 26))) := hide
    ⟨HB2.out.trans ((later_alloc _ _).mono HB2.out.size), (Below.heap_alloc _ _ _ hs2).trans HQ2.out, _, _, _, _, _, heap_alloc_new _ _, IsD.of (tmd_leaf 0 ⟨by decide, by decide⟩ i64_zero)⟩
  clear hb2 hs1 HB1 HQ
  go_wp2_with fail
  obtain ⟨W, hW⟩ : ∃ W, W = w2.alloc (.cells #[.int .i64 11, .int .i64 0, .slice none 0 0] 26) := ⟨_, rfl⟩
  rw [← hW] at HN0 ⊢
  clear hW hs2
  go_loopw [4] (fun iv wr => ∃ k : Nat, iv = .int .i64 (k : Nat) ∧ k ≤ n ∧ Hid (NumS D w w2.heap.size (numT k) wr)) (fun iv _ => n - (intOf iv).toNat)
  case atStart => exact ⟨0, rfl, Nat.zero_le _, HN0⟩
  case round =>
    obtain ⟨k, rfl, hk, HN⟩ := hrel
    clear HN0
    obtain ⟨hb, h0, p0, p1, pa, pl, pc, h1, ht⟩ := HN.out
    obtain ⟨x0, x1, x2⟩ := blk3 h1
    have H0 := hide h0; have H1 := hide h1; have HT := hide ht; have HB := hide hb
    clear h0 h1 ht hb
    by_cases hlt : k < n
    · have hki : ((k : Nat) : Int) < (n : Int) := by omega
      have hR : Hid (IsR (fun k => (D k ∧ k ≠ w.heap.size) ∧ k ≠ w2.heap.size) [numT k] (.slice (some ⟨wr.heap.size, 0, none⟩) 1 1) (wr.alloc (.cells #[.int .i64 p0, .int .i64 p1, .slice pa pl pc] 26))) := hide (row1 (fun j hj => by
        have h1 := HB.out.size; have h2 := size_of_block H1.out; have h3 := HS2.out
        exact ⟨⟨HDD.out j (by omega), by omega⟩, by omega⟩) HT.out)
      have HC := hide (e_t (op := 12) ⟨by decide, by decide⟩ hR.out)
      go_wp2_with fail
      refine HC.out.mono ?_
      rintro e w5 ⟨u, rfl, hu, hb5⟩
      have hb6 : Below wr.heap.size wr w5 := (later_alloc wr _).trans (hb5.mono (by simp))
      have g0 := (hb6.block _ (size_of_block H0.out)).trans H0.out
      have g1 := (hb6.block _ (size_of_block H1.out)).trans H1.out
      obtain ⟨y0, y1, y2⟩ := blk3 g1
      obtain ⟨z0, z1, z2⟩ := frz3 g1
      have HU := hide hu
      obtain ⟨r0, r1, ra, rl, rc, rfl, _⟩ := hu
      have HN5 := hide (NumS.put HS2.out (HB.out.trans (hb6.mono HB.out.size)) g0 g1 HU.out)
      clear g0 g1 hb5 hb6
      go_wp2_with fail
      go_roundw
      case rel => exact ⟨k + 1, by go_num, by omega, HN5⟩
      case measure => simp [intOf]; omega
    · have hke : k = n := by omega
      subst hke
      obtain ⟨y0, y1, y2⟩ := blk3 H0.out
      obtain ⟨z0, z1, z2⟩ := frz3 H0.out
      have HO := hide (box_out (D := D) (w := w) (W := wr) (Nat.le_refl _) HB.out (Below.refl _ _) (HT.out.mono (fun k _ h => h.1)))
      go_wp2_with fail
      exact bodyPost_ret (v := .agg #[.int .i64 p0, .int .i64 p1, .slice pa pl pc]) (by simp [results, Tryd.results12, go_sem, y0, y1, y2]) rfl HO.out
#print axioms e_num
end Go.Proofs.YtjiecahopdaghabDoor
