/- Bytes: a term's bytes, whatever term it is. -/
import Derived.Test.YtafafeplciidhaaWe
namespace Go.Proofs.Ytafafeplciidhaa
open Go.RowKit

theorem Try.info5 : (Try.prog.info? 5).map (fun i => (i.zero, i.size, i.bytes)) = some (some (.int .u8 0), 1, 1) := by kernel_rfl

/-- A row of bytes of its own lies in a value. -/
def BytesAt (w : World) (base : Nat) (v : Value) (l : List Int) : Prop :=
  ∃ g, v = .slice (some ⟨g, 0, none⟩) l.length l.length ∧ base ≤ g ∧ w.heap[g]? = some (.cells (bys l).toArray 5 (0, 0))

set_option maxHeartbeats 400000 in
theorem bytes_any (B f : Nat) (t : Tr) (v : Value) (w : World) (h : TmAt w B f t v) (hB : B ≤ w.heap.size) (hsz : t.size ≤ 6000) (hG : ∀ x ∈ t.pre, x.kids.length ≤ 255) :
    Calls Try.prog 13 #[v] w fun e w' => ∃ r, e = .returned r ∧ BytesAt w' w.heap.size r (enc t) ∧ Below w.heap.size w w' := by
  have HT := hide h
  obtain ⟨g, rfl⟩ : ∃ g, f = g + 1 := by cases f with | zero => exact h.elim | succ g => exact ⟨g, rfl⟩
  obtain ⟨a, cap, rfl, hop, hn, hrow⟩ := h
  obtain ⟨i, hi, hz0, hz1, hz2⟩ := info_parts Try.info5
  have HG := hide hG; clear hG hrow hop hn
  go_enter Try.func13, Try.ntmps13
  go_wp2_with fail
  refine (walk_count (w.heap.size + 1) B (g + 1) t _ _ (TmAt.keep (fun k hk => by rw [Below.heap_alloc _ _ _ (by simp; omega), Below.heap_alloc _ _ _ (by omega)]) (Nat.le_refl _) _ _ _ HT.out) (by simp; omega) (by omega) ?_ hsz).mono ?_
  · have := heap_alloc_new (w.alloc (.cells #[.int .i64 t.op, .int .i64 t.n, .slice a t.kids.length cap] 29)) (.cells #[.int .i64 0, .slice none 0 0, .int .i64 0] 54)
    simpa [JC] using this
  rintro e w1 ⟨rfl, hf1, hj1⟩
  have HF1 := hide hf1; have HJ1 := hide hj1
  clear hf1 hj1
  have hsz1 := HF1.out.size
  simp at hsz1
  have hwb : w1.heap[w.heap.size + 1]? = some (.cells #[.int .i64 (t.size : Nat), .slice none 0 0, .int .i64 0] 54 (0, 0)) := by
    have := HJ1.out
    unfold JC at this
    rwa [Tr.pre_length] at this
  have hbox : w1.heap[w.heap.size]? = some (.cells #[.int .i64 t.op, .int .i64 t.n, .slice a t.kids.length cap] 29 (0, 0)) := by
    rw [HF1.out.block _ (by simp; omega) (by omega), Below.heap_alloc _ _ _ (by simp)]
    exact heap_alloc_new w _
  have c0 : w1.cell? ⟨w.heap.size + 1, 0, none⟩ = some (.int .i64 (t.size : Nat)) := by rw [cell_of_block hwb]; rfl
  have c1 : w1.cell? ⟨w.heap.size + 1, 1, none⟩ = some (.slice none 0 0) := by rw [cell_of_block hwb]; rfl
  have k1 : w1.frozen? ⟨w.heap.size + 1, 1, none⟩ = false := frozen_of_block hwb 1
  have HW := hide hwb; have HX := hide hbox
  clear hwb hbox
  go_wp2_with (at_make; refine wpList_make_full _ rfl _ _ 32 rfl (w.heap.size + 2) 5 i (.int .u8 0) 1 Try.underlying32 hi hz0 hz1 _ _ _ _ (t.size * 10) rfl rfl (by omega) (by omega) (by rw [hz2]; omega) (by unfold maxLen; omega) (by omega) ?_; intro w2 hown2 hgrow2; have d1 := (World.cell?_of_block (a := ⟨w.heap.size + 1, 1, none⟩) (hgrow2.block (w.heap.size + 1) (by omega) (by simp))).trans c1; have k2 := (World.frozen?_of_block (a := ⟨w.heap.size + 1, 1, none⟩) (hgrow2.block (w.heap.size + 1) (by omega) (by simp))).trans k1; have hbx := (hgrow2.block w.heap.size (by omega) (by simp)).trans HX.out; have x0 := (cell_of_block hbx 0).trans rfl; have x1 := (cell_of_block hbx 1).trans rfl; have x2 := (cell_of_block hbx 2).trans rfl; have HBX := hide hbx; have HO2 := hide hown2; have HG2 := hide hgrow2; clear hbx hown2 hgrow2 c0 c1 k1)
  have hs2 := HG2.out.size
  have hold : ∀ q, q < w.heap.size → (w2.setCell ⟨w.heap.size + 1, 1, none⟩ (.slice (some ⟨w1.heap.size, 0, none⟩) (t.size * 10) (t.size * 10))).heap[q]? = w.heap[q]? := fun q hq => by
    rw [heap_setCell_other _ _ _ _ (by show q ≠ w.heap.size + 1; omega), HG2.out.block q (by omega) (by simp), HF1.out.block q (by simp; omega) (by omega), Below.heap_alloc _ _ _ (by simp; omega), Below.heap_alloc _ _ _ hq]
  have hWb : (w2.setCell ⟨w.heap.size + 1, 1, none⟩ (.slice (some ⟨w1.heap.size, 0, none⟩) (t.size * 10) (t.size * 10))).heap[w.heap.size + 1]? = some (.cells #[.int .i64 (t.size : Nat), .slice (some ⟨w1.heap.size, 0, none⟩) (t.size * 10) (t.size * 10), .int .i64 0] 54 (0, 0)) := by
    rw [heap_setCell_same _ _ _ _ _ _ ((HG2.out.block _ (by omega) (by simp)).trans HW.out)]
    rfl
  have hWg : ∃ cur : List Value, (w2.setCell ⟨w.heap.size + 1, 1, none⟩ (.slice (some ⟨w1.heap.size, 0, none⟩) (t.size * 10) (t.size * 10))).heap[w1.heap.size]? = some (.cells cur.toArray 5 (0, 0)) ∧ cur.length = t.size * 10 := by
    rcases HO2.out.2 with ⟨h1, _⟩ | ⟨q, c, cur, h1, _, h2, _, _, h3, _⟩
    · cases h1
    · simp at h1
      obtain ⟨rfl, rfl⟩ := h1
      exact ⟨cur.toList, by rw [heap_setCell_other _ _ _ _ (by show w1.heap.size ≠ w.heap.size + 1; omega)]; simpa using h2, by simpa using h3⟩
  have hsW : w2.heap.size = (w2.setCell ⟨w.heap.size + 1, 1, none⟩ (.slice (some ⟨w1.heap.size, 0, none⟩) (t.size * 10) (t.size * 10))).heap.size := by simp [World.setCell]
  have hBl : Below w.heap.size w (w2.setCell ⟨w.heap.size + 1, 1, none⟩ (.slice (some ⟨w1.heap.size, 0, none⟩) (t.size * 10) (t.size * 10))) := by
    refine Below.trans (b := w2) ⟨HG2.out.os.trans HF1.out.os, HG2.out.tape.trans HF1.out.tape, HG2.out.output.trans HF1.out.output, by omega, fun q hq => ?_⟩ ((Below.refl _ _).setCell (by show w.heap.size ≤ w.heap.size + 1; omega) _)
    rw [HG2.out.block q (by omega) (by simp), HF1.out.block q (by simp; omega) (by omega), Below.heap_alloc _ _ _ (by simp; omega), Below.heap_alloc _ _ _ hq]
  generalize w2.setCell ⟨w.heap.size + 1, 1, none⟩ (.slice (some ⟨w1.heap.size, 0, none⟩) (t.size * 10) (t.size * 10)) = W at *
  refine (walk_put (w.heap.size + 1) w1.heap.size t.size B (g + 1) t _ W (TmAt.keep (fun k hk => hold k (by omega)) (Nat.le_refl _) _ _ _ HT.out) (by omega) (by omega) (by omega) ?_ rfl hsz HG.out).mono ?_
  · obtain ⟨cur, h1, h2⟩ := hWg
    exact ⟨hWb, cur, h1, h2, by simp [encL, bys]⟩
  rintro e w3 ⟨rfl, hf3, hj3, cur, hg3, hl3, ht3⟩
  have HF3 := hide hf3; have HG3 := hide hg3
  have z1 : w3.cell? ⟨w.heap.size + 1, 1, none⟩ = some (.slice (some ⟨w1.heap.size, 0, none⟩) (t.size * 10) (t.size * 10)) := by rw [cell_of_block hj3]; rfl
  have HT3 := hide ht3; have HBL := hide hBl; have HL3 := hide hl3
  clear hf3 hg3 hj3 hold hWb hWg ht3 hBl hl3
  go_wp2_with fail
  go_ret
  have hlen : (enc t).length = t.size * 10 := by rw [enc, encL_length, Tr.pre_length]
  refine ⟨.slice (some ⟨w1.heap.size, 0, none⟩) (t.size * 10) (t.size * 10), rfl, ⟨w1.heap.size, by rw [hlen], by omega, ?_⟩, HBL.out.trans (HF3.out.below (by omega) (fun k hk => by omega))⟩
  have h := HT3.out
  rw [Tr.pre_length, List.take_of_length_le (by rw [HL3.out]; omega)] at h
  rw [HG3.out, h]
  rfl
#print axioms bytes_any
end Go.Proofs.Ytafafeplciidhaa
