/- The reader's methods shut and open: the walks. -/
import Derived.Test.YthhgphokbgpaiabDoorRs
namespace Go.Proofs.YthhgphokbgpaiabDoor
open Go.RowKit

set_option maxRecDepth 20000 in
set_option maxHeartbeats 2000000 in
theorem rshut_any (rb B : Nat) (vs1 : List Value) (uv cv ov : Value) (st1 : List (List Fm)) (up cur : List Fm) (k n p : Int) (ss : List UInt8) (w : World) (h : Rd w rb B (vs1 ++ [uv]) cv ov (st1 ++ [up]) cur) (hd : st1.length < 30) (hlu : up.length ≤ 5000) :
    Calls Tryd.prog 27 #[.pointer (some ⟨rb, 0, none⟩), .agg #[.int .i64 k, .int .i64 n, .int .i64 p, .string ⟨⟨ss⟩⟩]] w (RdOut w rb B st1 (up ++ [⟨3, 0, [], cur⟩])) := by
  obtain ⟨xs, ho, hk⟩ : ∃ xs, w.ownsRow B 25 4 uv up.length xs ∧ KidsAt w (Free w B ov ((vs1 ++ [uv]) ++ [cv])) (31 - st1.length) up xs := h.rows.front.last
  obtain ⟨ca, cc, rfl, _, _⟩ : ∃ a cap, cv = .slice a cur.length cap ∧ cur.length ≤ cap ∧ cap ≤ maxLen := by
    obtain ⟨_, h1, _⟩ := h.rows.last
    exact owns_form h1
  obtain ⟨ua, uc, rfl, _, _⟩ := owns_form ho
  obtain ⟨og, oc, rfl, _, _⟩ := h.own.form (by simp)
  obtain ⟨_, _, hoe, hoc1, hoc2⟩ := owns_form h.own
  simp only [Value.slice.injEq, true_and] at hoe
  obtain ⟨-, rfl⟩ := hoe
  have hB := h.lt
  have hBs := h.base
  have hvm : vs1.length = st1.length := by have := h.rows.1; simp at this; exact this
  have hln : (vs1 ++ [Value.slice ua up.length uc]).length = st1.length + 1 := by simp [hvm]
  have hown := h.own
  rw [hln] at hown h hoc1
  rw [hln] at hk
  have HD := hide h; have HK := hide hk; have HO := hide ho; have HB := hide h.blk; have HV := hide hown; have HVM := hide hvm
  clear h hk ho hown hvm hln
  generalize hm : st1.length = m at *
  generalize hul : up.length = l at *
  have HM := hide hm; have HU := hide hul
  clear hm hul
  have hb := size_of_block HB.out
  obtain ⟨h0, h1⟩ := blk2 HB.out
  have z0 := frozen_of_block HB.out 0
  have z1 := frozen_of_block HB.out 1
  have hoc : (m : Int) ≤ (oc : Int) := by omega
  clear hoc1 hoc2
  have hw : IntKind.i64.wrap ((m : Int) + 1 - 1) = (m : Int) := by rw [IntKind.wrap_i64]; omega
  have hog := HV.out.lt og rfl
  have h2 : w.cell? ⟨og, m, none⟩ = some (.slice ua l uc) := cut_own HV.out HVM.out rfl
  obtain ⟨i, hi, hz0, hz1, hz2⟩ := info_parts Tryd.info25
  have HOG := hide hog.1
  have hog2 := hog.2
  clear hog
  go_enter Tryd.func27, Tryd.ntmps27
  go_wp2_with fail
  go_region
  · obtain ⟨W5, hW5, HW1, HW2, HW3⟩ := three_new w _ _ _
    rw [hW5]
    clear hW5
    have g0 := (HW1.cell (p := ⟨rb, 0, none⟩) hb).trans h0
    have g1 := (HW1.cell (p := ⟨rb, 1, none⟩) hb).trans h1
    have g2 := (HW1.cell (p := ⟨og, m, none⟩) hog2).trans h2
    have g3 : W5.frozen? ⟨rb, 0, none⟩ = false := (World.frozen?_of_block (a := ⟨rb, 0, none⟩) (HW1.block rb hb)).trans z0
    have g4 : W5.frozen? ⟨rb, 1, none⟩ = false := (World.frozen?_of_block (a := ⟨rb, 1, none⟩) (HW1.block rb hb)).trans z1
    obtain ⟨l0, l1, l2, l3⟩ := blk4 HW3
    have im : (m : Int) < (m : Int) + 1 := by omega
    have im0 : (0 : Int) ≤ (m : Int) := by omega
    have hs1 : og < W5.heap.size := by omega
    have hs2 : rb < W5.heap.size := by omega
    have hs3 : w.heap.size + 1 < W5.heap.size := by omega
    have H1 := hide HW1; have H2 := hide HW2
    clear HW1 HW2 HW3 h0 h1 z0 z1 h2
    go_wp2_with fail
    go_region_law (refine step_append_lies _ (by rfl) (.tmp 44) (.tmp 46) 23 (by rfl) B 25 i (.agg #[.int .i64 0, .int .i64 0, .string ⟨#[]⟩, .slice none 0 0]) 4 56 Tryd.underlying23 hi hz0 hz1 hz2 rfl (by decide) (.slice ua l uc) l xs (by rfl) (ownsRow_drew ((owns_same HO.out (fun g hg => H1.out.block g (HO.out.lt g hg).2)).alloc _)) ⟨W5.heap.size, 0, none⟩ 1 1 [.int .i64 3, .int .i64 0, .string ⟨#[]⟩, .slice ca cur.length cc] (by rfl) (by rfl) (World.news_of_block (new_block0 W5 _)) (fun u hu => by simp at hu; rcases hu with rfl | rfl | rfl | rfl <;> rfl) (by omega) (by unfold maxLen; omega) (by omega) (by rw [size_drew, World.size_alloc]; have := H2.out; omega) (W5.heap.size + 1) (by rw [size_drew, World.size_alloc]) ?_; intro g6 cap6 w6 hown6 hgrow6 hat6 hlt6; obtain ⟨_, q0, q1, q2, q3⟩ := shut_facts hB HB.out HO.out H1.out hgrow6; have HO6 := hide hown6; have HG6 := hide hgrow6; have HA6 := hide hat6; clear hown6 hgrow6 hat6 hlt6)
    all_goals
      go_wp2_with fail
      go_ret
      with_reducible refine shut_8 ?_ HU.out HD.out (HVM.out) (by have := HM.out; omega) HO.out (HM.out ▸ HK.out) H1.out HG6.out HA6.out HO6.out
      rfl
  · obtain ⟨W5, hW5, HW1, HW2, HW3⟩ := three_new w _ _ _
    rw [hW5]
    clear hW5
    have g0 := (HW1.cell (p := ⟨rb, 0, none⟩) hb).trans h0
    have g1 := (HW1.cell (p := ⟨rb, 1, none⟩) hb).trans h1
    have g2 := (HW1.cell (p := ⟨og, m, none⟩) hog2).trans h2
    have g3 : W5.frozen? ⟨rb, 0, none⟩ = false := (World.frozen?_of_block (a := ⟨rb, 0, none⟩) (HW1.block rb hb)).trans z0
    have g4 : W5.frozen? ⟨rb, 1, none⟩ = false := (World.frozen?_of_block (a := ⟨rb, 1, none⟩) (HW1.block rb hb)).trans z1
    obtain ⟨l0, l1, l2, l3⟩ := blk4 HW3
    have im : (m : Int) < (m : Int) + 1 := by omega
    have im0 : (0 : Int) ≤ (m : Int) := by omega
    have hs1 : og < W5.heap.size := by omega
    have hs2 : rb < W5.heap.size := by omega
    have hs3 : w.heap.size + 1 < W5.heap.size := by omega
    have H1 := hide HW1; have H2 := hide HW2
    clear HW1 HW2 HW3 h0 h1 z0 z1 h2
    have i1 : (0 : Int) ≤ (l : Int) := by omega
    have i2 : (l : Int) < (l : Int) + 1 := by omega
    go_wp2_with fail
    go_region_law (refine step_append_lies _ (by rfl) (.tmp 29) (.tmp 32) 23 (by rfl) B 25 i (.agg #[.int .i64 0, .int .i64 0, .string ⟨#[]⟩, .slice none 0 0]) 4 56 Tryd.underlying23 hi hz0 hz1 hz2 rfl (by decide) (.slice ua l uc) l xs (by rfl) (ownsRow_drew ((owns_same HO.out (fun g hg => H1.out.block g (HO.out.lt g hg).2)).alloc _)) ⟨W5.heap.size, 0, none⟩ 1 1 [.int .i64 0, .int .i64 0, .string ⟨#[]⟩, .slice none 0 0] (by rfl) (by rfl) (World.news_of_block (new_block0 W5 _)) (fun u hu => by simp at hu; rcases hu with rfl | rfl | rfl | rfl <;> rfl) (by omega) (by unfold maxLen; omega) (by omega) (by rw [size_drew, World.size_alloc]; have := H2.out; omega) (W5.heap.size + 1) (by rw [size_drew, World.size_alloc]) ?_; intro g6 cap6 w6 hown6 hgrow6 hat6 hlt6; obtain ⟨_, q0, q1, q2, q3⟩ := shut_facts hB HB.out HO.out H1.out hgrow6; obtain ⟨e0, e1, e2, e3, u0, u1, u2, u3⟩ := elem_facts hown6 HO.out.1; have n0 := (hown6.lt g6 rfl).1; have n1 : rb ≠ g6 := (by omega); have n2 : g6 ≠ rb := (by omega); have HO6 := hide hown6; have HG6 := hide hgrow6; have HA6 := hide hat6; clear hown6 hgrow6 hat6 hlt6)
    all_goals
      go_wp2_with fail
      go_ret
      with_reducible refine shut_6 ?_ HU.out HD.out (HVM.out) (by have := HM.out; omega) HO.out (HM.out ▸ HK.out) H1.out HG6.out HA6.out HO6.out
      rfl
#print axioms rshut_any
end Go.Proofs.YthhgphokbgpaiabDoor
