/- term.Shift. -/
import Derived.Test.YtpmaagafcpaajaaDoorSh
namespace Go.Proofs.YtpmaagafcpaajaaDoor
open Go.RowKit

/-- A term in new memory. -/
def NewTm (w : World) (f : Nat) (t : Tr) (e : Ending) (w' : World) : Prop := ∃ p0 p1 pa pl pc, e = .returned (.agg #[.int .i64 p0, .int .i64 p1, .slice pa pl pc]) ∧ TmD w' (fun k => w.heap.size ≤ k ∧ k < w'.heap.size) f t (.agg #[.int .i64 p0, .int .i64 p1, .slice pa pl pc]) ∧ Below w.heap.size w w'

theorem box_two {w w1 : World} {x0 x1 : Array Value} {T0 T1 : TypeId} (hb : Below ((w.alloc (.cells x0 T0)).alloc (.cells x1 T1)).heap.size ((w.alloc (.cells x0 T0)).alloc (.cells x1 T1)) w1) :
    w1.heap[w.heap.size]? = some (.cells x0 T0) ∧ w1.heap[w.heap.size + 1]? = some (.cells x1 T1) ∧ Below w.heap.size w w1 ∧ w.heap.size + 2 ≤ w1.heap.size := by
  have hsz : ((w.alloc (.cells x0 T0)).alloc (.cells x1 T1)).heap.size = w.heap.size + 2 := by simp
  have h0 := heap_alloc_new w (.cells x0 T0)
  have h1 := heap_alloc_new (w.alloc (.cells x0 T0)) (.cells x1 T1)
  rw [World.size_alloc] at h1
  refine ⟨?_, ?_, ?_, ?_⟩
  · rw [hb.block _ (by omega), Below.heap_alloc _ _ _ (by simp)]; exact h0
  · rw [hb.block _ (by omega)]; exact h1
  · exact ((Below.refl w.heap.size w).alloc (Nat.le_refl _) _).alloc (by simp) _ |>.trans (hb.mono (by omega))
  · have := hb.size; omega
/-- A term in new memory, behind a store into the answer's own box. -/
theorem tm_put3 {w w2 : World} {M c f : Nat} {t : Tr} {v p0 p1 p2 : Value} (h : TmD w2 (fun q => M ≤ q ∧ q < w2.heap.size) f t v) (hM : w.heap.size ≤ M) (hc : c < M) :
    TmD (((w2.setCell ⟨c, 0, none⟩ p0).setCell ⟨c, 1, none⟩ p1).setCell ⟨c, 2, none⟩ p2) (fun q => w.heap.size ≤ q ∧ q < (((w2.setCell ⟨c, 0, none⟩ p0).setCell ⟨c, 1, none⟩ p1).setCell ⟨c, 2, none⟩ p2).heap.size) f t v := by
  have hsz : (((w2.setCell ⟨c, 0, none⟩ p0).setCell ⟨c, 1, none⟩ p1).setCell ⟨c, 2, none⟩ p2).heap.size = w2.heap.size := by simp [World.setCell]
  refine h.keep (fun q hq => ?_) (fun q hq => ⟨by omega, by rw [hsz]; exact hq.2⟩) f t v
  rw [heap_setCell_other _ _ _ _ (show q ≠ c by omega), heap_setCell_other _ _ _ _ (show q ≠ c by omega), heap_setCell_other _ _ _ _ (show q ≠ c by omega)]

set_option maxRecDepth 20000 in
set_option maxHeartbeats 1000000 in
theorem tshift_any (B f : Nat) (t : Tr) (v : Value) (b fr : Int) (w : World) (h : TmAt w B f t v) (hB : B ≤ w.heap.size) (ht : Tb w) (h4 : 4 ≤ B) (hs : t.size ≤ 8388608) (hf : f ≤ 200000) (hsd : Snd 1000000000 t) (hb : 0 ≤ b ∧ b ≤ 3000) (hfr : 0 ≤ fr ∧ fr ≤ 3000) :
    Calls Tryd.prog 26 #[v, .int .i64 b, .int .i64 fr] w (NewTm w f (shf b fr 0 t)) := by
  have HT := hide h
  obtain ⟨a, cap, rfl, _, _, hop, hn'⟩ := h.shape
  have HS := hide hs; have HF := hide hf; have HTB := hide ht; have HSD := hide hsd
  clear hs hf h ht hsd
  obtain ⟨hb0, hb1⟩ := hb
  obtain ⟨hf0, hf1⟩ := hfr
  go_enter Tryd.func26, Tryd.ntmps26
  go_wp2_with fail
  refine (fits_any B f t _ _ (TmAt.below HT.out (((Below.refl w.heap.size w).alloc (Nat.le_refl _) _).alloc (by simp) _) hB (Nat.le_refl _)) (by simp; omega) HS.out HF.out).mono ?_
  rintro e w1 ⟨rfl, hb1'⟩
  obtain ⟨k0, k1, hbl, hs1⟩ := box_two hb1'
  obtain ⟨c0, c1, c2⟩ := blk3 k0
  have HB1 := hide hbl; have HK1 := hide k1
  clear hb1' hbl k0 k1
  go_wp2_with fail
  refine (shift_any B f b fr t _ 0 w1 (TmAt.below HT.out HB1.out hB (Nat.le_refl _)) (by omega) (HTB.out.later HB1.out) h4 HS.out (by omega) (by have := HF.out; omega) HSD.out (by omega) (by omega)).mono ?_
  rintro e w2 ⟨p0, p1, pa, pl, pc, rfl, ht2, hb2⟩
  have k1 := (hb2.block _ (by omega)).trans HK1.out
  obtain ⟨y0, y1, y2⟩ := blk3 k1
  obtain ⟨z0, z1, z2⟩ := frz3 k1
  have HB2 : Hid (Below w.heap.size w w2) := HB1.out.trans (hb2.mono (by omega))
  have HT2 := hide ht2
  clear hb2 ht2 k1
  go_wp2_with fail
  refine bodyPost_ret (v := .agg #[.int .i64 p0, .int .i64 p1, .slice pa pl pc]) (by simp [results, Tryd.results26, go_sem, y0, y1, y2]) rfl ⟨_, _, _, _, _, rfl, tm_put3 HT2.out (by omega) (by omega), ?_⟩
  exact ((HB2.out.setCell (show w.heap.size ≤ w.heap.size + 1 by omega) _).setCell (show w.heap.size ≤ w.heap.size + 1 by omega) _).setCell (show w.heap.size ≤ w.heap.size + 1 by omega) _
#print axioms tshift_any
end Go.Proofs.YtpmaagafcpaajaaDoor
