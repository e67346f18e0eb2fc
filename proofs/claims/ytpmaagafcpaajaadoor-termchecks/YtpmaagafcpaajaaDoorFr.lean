/- Free and Below. -/
import Derived.Test.YtpmaagafcpaajaaDoorCo
import Derived.Test.YtpmaagafcpaajaaDoorPv
namespace Go.Proofs.YtpmaagafcpaajaaDoor
open Go.RowKit

/-- A count of equals, of those that reach. -/
theorem cnt_fre (n u : Int) (t : Tr) {b : Int} (hs : Snd b t) (h0 : 0 ≤ n) : (0 < cnt (fun x => decide (x = n)) u t) ↔ fre n u t = true := by
  induction t using Tr.ind generalizing u with
  | h t ih =>
    rw [cnt_eq, fre_eq]
    by_cases ho : t.op = 1
    · have hk := (hs.top ho).1
      rw [if_pos ho, hk]
      simp only [List.mapIdx_nil, List.sum_nil, Nat.add_zero, decide_eq_true_eq]
      by_cases h : t.op = 1 ∧ u ≤ t.n ∧ t.n - u = n
      · rw [if_pos h]; simp only [Nat.zero_lt_one, true_iff]; omega
      · rw [if_neg h]; simp only [Nat.lt_irrefl, false_iff]; omega
    · rw [if_neg ho, if_neg (fun h => ho h.1), any_mapIdx, Nat.zero_add, Nat.pos_iff_ne_zero, Ne, List.sum_eq_zero_iff_forall_eq_nat]
      constructor
      · intro h
        by_cases hx : ∃ (i : Nat) (h : i < t.kids.length), fre n (u + (bnd t.op ((i : Nat) : Int) : Nat)) t.kids[i] = true
        · exact hx
        · exfalso
          apply h
          intro x hx'
          obtain ⟨i, hi, rfl⟩ := List.mem_mapIdx.1 hx'
          have := ih _ (List.getElem_mem hi) (u + (bnd t.op ((i : Nat) : Int) : Nat)) (hs.kid (List.getElem_mem hi))
          by_cases hz : cnt (fun x => decide (x = n)) (u + (bnd t.op ((i : Nat) : Int) : Nat)) t.kids[i] = 0
          · exact hz
          · exact absurd ⟨i, hi, this.1 (by omega)⟩ hx
      · rintro ⟨i, hi, h⟩ hz
        have h1 := (ih _ (List.getElem_mem hi) (u + (bnd t.op ((i : Nat) : Int) : Nat)) (hs.kid (List.getElem_mem hi))).2 h
        have h2 := hz _ (List.mem_mapIdx.2 ⟨i, hi, rfl⟩)
        omega
theorem cnt_bel (n u : Int) (t : Tr) {b : Int} (hs : Snd b t) (h0 : 0 ≤ n) : (cnt (fun x => decide (n ≤ x)) u t = 0) ↔ bel n u t = true := by
  induction t using Tr.ind generalizing u with
  | h t ih =>
    rw [cnt_eq, bel_eq]
    by_cases ho : t.op = 1
    · have hk := (hs.top ho).1
      rw [if_pos ho, hk]
      simp only [List.mapIdx_nil, List.sum_nil, Nat.add_zero, decide_eq_true_eq]
      by_cases h : t.op = 1 ∧ u ≤ t.n ∧ n ≤ t.n - u
      · rw [if_pos h]; simp only [Nat.one_ne_zero, false_iff]; omega
      · rw [if_neg h]; simp only [true_iff]; omega
    · rw [if_neg ho, if_neg (fun h => ho h.1), all_mapIdx, Nat.zero_add, List.sum_eq_zero_iff_forall_eq_nat]
      constructor
      · intro h i hi
        exact (ih _ (List.getElem_mem hi) _ (hs.kid (List.getElem_mem hi))).1 (h _ (List.mem_mapIdx.2 ⟨i, hi, rfl⟩))
      · intro h x hx
        obtain ⟨i, hi, rfl⟩ := List.mem_mapIdx.1 hx
        exact (ih _ (List.getElem_mem hi) _ (hs.kid (List.getElem_mem hi))).2 (h i hi)

set_option maxRecDepth 20000 in
set_option maxHeartbeats 1000000 in
theorem tfree_any (B f : Nat) (t : Tr) (v : Value) (n : Int) (w : World) (h : TmAt w B f t v) (hB : B ≤ w.heap.size) (ht : Tb w) (h4 : 4 ≤ B) (hs : t.size ≤ 8388608) (hf : f ≤ 200000) (hsd : Snd 1000000000 t) (hn : 0 ≤ n) :
    Calls Tryd.prog 21 #[v, .int .i64 n] w fun e w' => e = .returned (.bool (fre n 0 t)) ∧ Below w.heap.size w w' := by
  have HT := hide h
  obtain ⟨a, cap, rfl, _, _, hop, hn'⟩ := h.shape
  have HS := hide hs; have HF := hide hf; have HTB := hide ht; have HSD := hide hsd; have HN := hide hn
  clear hs hf h ht hsd hn
  have HE : Hid (fre n 0 t = decide (0 < cnt (fun x => decide (x = n)) 0 t)) := hide (Bool.eq_iff_iff.2 (by rw [decide_eq_true_iff]; exact (cnt_fre n 0 t HSD.out HN.out).symm))
  obtain ⟨q, hq⟩ : ∃ q, q = cnt (fun x => decide (x = n)) 0 t := ⟨_, rfl⟩
  rw [HE.out, ← hq]
  have HQ := hide hq
  clear hq
  go_enter Tryd.func21, Tryd.ntmps21
  go_wp2_with fail
  refine (fits_any B f t _ _ (TmAt.below HT.out (later_alloc w _) hB (Nat.le_refl _)) (by rw [World.size_alloc]; omega) HS.out HF.out).mono ?_
  rintro e w1 ⟨rfl, hb1⟩
  rw [World.size_alloc] at hb1
  obtain ⟨c0, c1, c2⟩ := box3 hb1
  have HB1 : Hid (Below w.heap.size w w1) := below_box hb1
  have hs1 : w.heap.size + 1 ≤ w1.heap.size := by have := hb1.size; rw [World.size_alloc] at this; exact this
  clear hb1
  go_wp2_with fail
  refine (count43_any B f n t _ 0 w1 (TmAt.below HT.out HB1.out hB (Nat.le_refl _)) (by omega) (HTB.out.later HB1.out) h4 HS.out (by omega) (by have := HF.out; omega) HSD.out).mono ?_
  rintro e w2 ⟨rfl, hb2⟩
  have HB2 : Hid (Below w.heap.size w w2) := HB1.out.trans (hb2.mono (by omega))
  clear hb2 HE
  rw [← HQ.out]
  go_wp2_with fail
  go_ret
  exact ⟨ret_bool (by simp), HB2.out⟩

set_option maxRecDepth 20000 in
set_option maxHeartbeats 1000000 in
theorem tbelow_any (B f : Nat) (t : Tr) (v : Value) (n : Int) (w : World) (h : TmAt w B f t v) (hB : B ≤ w.heap.size) (ht : Tb w) (h4 : 4 ≤ B) (hs : t.size ≤ 8388608) (hf : f ≤ 200000) (hsd : Snd 1000000000 t) (hn : 0 ≤ n) :
    Calls Tryd.prog 23 #[v, .int .i64 n] w fun e w' => e = .returned (.bool (bel n 0 t)) ∧ Below w.heap.size w w' := by
  have HT := hide h
  obtain ⟨a, cap, rfl, _, _, hop, hn'⟩ := h.shape
  have HS := hide hs; have HF := hide hf; have HTB := hide ht; have HSD := hide hsd; have HN := hide hn
  clear hs hf h ht hsd hn
  have HE : Hid (bel n 0 t = decide (cnt (fun x => decide (n ≤ x)) 0 t = 0)) := hide (Bool.eq_iff_iff.2 (by rw [decide_eq_true_iff]; exact (cnt_bel n 0 t HSD.out HN.out).symm))
  obtain ⟨q, hq⟩ : ∃ q, q = cnt (fun x => decide (n ≤ x)) 0 t := ⟨_, rfl⟩
  rw [HE.out, ← hq]
  have HQ := hide hq
  clear hq
  go_enter Tryd.func23, Tryd.ntmps23
  go_wp2_with fail
  refine (fits_any B f t _ _ (TmAt.below HT.out (later_alloc w _) hB (Nat.le_refl _)) (by rw [World.size_alloc]; omega) HS.out HF.out).mono ?_
  rintro e w1 ⟨rfl, hb1⟩
  rw [World.size_alloc] at hb1
  obtain ⟨c0, c1, c2⟩ := box3 hb1
  have HB1 : Hid (Below w.heap.size w w1) := below_box hb1
  have hs1 : w.heap.size + 1 ≤ w1.heap.size := by have := hb1.size; rw [World.size_alloc] at this; exact this
  clear hb1
  go_wp2_with fail
  refine (count44_any B f n t _ 0 w1 (TmAt.below HT.out HB1.out hB (Nat.le_refl _)) (by omega) (HTB.out.later HB1.out) h4 HS.out (by omega) (by have := HF.out; omega) HSD.out).mono ?_
  rintro e w2 ⟨rfl, hb2⟩
  have HB2 : Hid (Below w.heap.size w w2) := HB1.out.trans (hb2.mono (by omega))
  clear hb2 HE
  rw [← HQ.out]
  go_wp2_with fail
  go_ret
  exact ⟨ret_bool (by rw [Bool.eq_iff_iff, beq_iff_eq, decide_eq_true_iff]; omega), HB2.out⟩

#print axioms tfree_any
#print axioms tbelow_any
end Go.Proofs.YtpmaagafcpaajaaDoor
