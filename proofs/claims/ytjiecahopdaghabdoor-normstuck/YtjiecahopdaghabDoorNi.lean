/- The rules: apply, take. -/
import Derived.Test.YtjiecahopdaghabDoorNh
namespace Go.Proofs.YtjiecahopdaghabDoor
open Go.RowKit

/-- A part of a value, in memory. -/
theorem PRow.at {w : World} {X : Nat → Prop} {mb n cap : Nat} {A : Nat → Nat} {a : Option Addr} {ids : List Nat} (h : PRow w X mb A n a ids cap) {j p : Nat} (hj : ids[j]? = some p) : ∃ b, a = some ⟨b, 0, none⟩ ∧ b < w.heap.size ∧ ¬ MutX X mb A n b ∧ w.cell? ⟨b, j, none⟩ = some (pt (A p)) ∧ p < n ∧ j < ids.length := by
  obtain ⟨hl, he⟩ := List.getElem?_eq_some_iff.1 hj
  obtain ⟨b, e, hb, hm, hc⟩ := h.2.2.2 (fun e => by rw [e] at hl; simp at hl)
  exact ⟨b, e, hb, hm, by rw [hc j hl, he], by rw [← he]; exact h.2.2.1 _ (List.getElem_mem hl), hl⟩

attribute [local go_sem ↓] Go.wp_at_zero Go.wp_at_succ

/-- A row of one part, of two. -/
theorem prow_one {w : World} {X : Nat → Prop} {B mb p : Nat} {A : Nat → Nat} {s : St} (i : Inv w X B mb A s) (hp : p < s.size) : PRow (w.alloc (.cells #[pt (A p)] 66)) X mb A s.size (some ⟨w.heap.size, 0, none⟩) [p] 1 := by
  refine ⟨by simp, by decide, fun j hj => by simp at hj; omega, fun _ => ⟨w.heap.size, rfl, by simp, ?_, fun j hj => ?_⟩⟩
  · rintro ((h | ⟨j, hj, h⟩) | h)
    · have := i.hmb.2; omega
    · have := (i.lo j hj).2.1; omega
    · have := (i.xs _ h).2.1; omega
  · have : j = 0 := by simp at hj; omega
    subst this
    exact (cell_of_block (heap_alloc_new w _) 0).trans rfl
theorem prow_two {w : World} {X : Nat → Prop} {B mb p q : Nat} {A : Nat → Nat} {s : St} (i : Inv w X B mb A s) (hp : p < s.size) (hq : q < s.size) : PRow (w.alloc (.cells #[pt (A p), pt (A q)] 66)) X mb A s.size (some ⟨w.heap.size, 0, none⟩) [p, q] 2 := by
  refine ⟨by simp, by decide, fun j hj => by simp at hj; omega, fun _ => ⟨w.heap.size, rfl, by simp, ?_, fun j hj => ?_⟩⟩
  · rintro ((h | ⟨j, hj, h⟩) | h)
    · have := i.hmb.2; omega
    · have := (i.lo j hj).2.1; omega
    · have := (i.xs _ h).2.1; omega
  · match j, hj with
    | 0, _ => exact (cell_of_block (heap_alloc_new w _) 0).trans rfl
    | 1, _ => exact (cell_of_block (heap_alloc_new w _) 1).trans rfl
    | j + 2, h => simp at h; omega

theorem cf79 (args : Array Value) (w : World) : (callFunc 70 args).run Tryd.prog w = .ok (.enter 70 args) w := cf_of Tryd.func70 (by kernel_rfl) (by kernel_rfl) args w
theorem cf76 (args : Array Value) (w : World) : (callFunc 67 args).run Tryd.prog w = .ok (.enter 67 args) w := cf_of Tryd.func67 (by kernel_rfl) (by kernel_rfl) args w

set_option maxRecDepth 20000 in
set_option maxHeartbeats 1000000 in
theorem apply_any {go : Go1} (hg : ExC go) {w : World} {X : Nat → Prop} {B mb : Nat} {A : Nat → Nat} {s : St} (i : Inv w X B mb A s) {vq : Nat} {v : Val} {r : Val × St} (hv : ValP w X mb A s.size vq v) (he : mApply go v s = some r) :
    Calls Tryd.prog 54 #[pt mb, pt vq] w (ValOut w X B mb A s r) := by
  unfold mApply at he
  obtain ⟨p0, hp0, he⟩ := Option.bind_eq_some_iff.1 he
  obtain ⟨p1, hp1, he⟩ := Option.bind_eq_some_iff.1 he
  obtain ⟨r1, hr1, he⟩ := Option.bind_eq_some_iff.1 he
  have HV := hide hv
  obtain ⟨_, _, _, va, vc, hvb, hvr⟩ := hv
  obtain ⟨vb, rfl, hvb1, hvm, hvc, hpl, hj0⟩ := hvr.at hp0
  obtain ⟨c0, c1, c2⟩ := blk3 hvb
  have hlm : v.parts.length ≤ 100000000 := Nat.le_trans hvr.1 hvr.2.1
  have HC := hide (hg.force i hpl hr1)
  have HI := hide i; have HG := hide hg; have HP1 := hide hp1
  clear hg hvb hvr hr1 hvm
  by_cases h1 : r1.1.is 4 2 = true
  · rw [if_pos h1] at he
    have H1 := hide h1
    cases hb : (r1.2.spend 64).1 with
    | false =>
      simp only [hb, Bool.false_eq_true, if_false] at he
      have he' := Option.some.inj he
      subst he'
      have HB := hide hb
      clear he hb h1 hp1
      go_enter Tryd.func54, Tryd.ntmps54
      go_wp2_with fail
      refine HC.out.mono ?_
      rintro e w1 ⟨A1, fq, rfl, h1', hv1⟩
      have HS1 := hide h1'; have HV1 := hide hv1
      have HT := hide (vis_any hv1 4 2)
      have HSP := hide (step_any h1'.inv)
      clear h1' hv1
      go_wp2_with fail
      refine HT.out.mono ?_
      rintro e w2 ⟨rfl, h2⟩
      rw [h2, H1.out]
      clear h2 w2
      go_wp2_with fail
      refine HSP.out.mono ?_
      rintro e w2 ⟨rfl, h2⟩
      rw [HB.out]
      have HS2 := hide h2
      clear h2
      go_wp2_with fail
      go_ret
      exact ⟨A1, vq, rfl, Stp.trans HS1.out HS2.out, HV.out.keep (Stp.keeps HI.out (Stp.trans HS1.out HS2.out))⟩
    | true =>
      simp only [hb, if_true] at he
      obtain ⟨q, hq, he⟩ := Option.bind_eq_some_iff.1 he
      have HB := hide hb; have HE := hide he; have HQ := hide hq
      clear he hb h1 hp1 hq
      go_enter Tryd.func54, Tryd.ntmps54
      go_wp2_with fail
      refine HC.out.mono ?_
      rintro e w1 ⟨A1, fq, rfl, h1', hv1⟩
      have HS1 := hide h1'; have HV1 := hide hv1
      have HT := hide (vis_any hv1 4 2)
      have HSP := hide (step_any h1'.inv)
      clear h1' hv1
      go_wp2_with fail
      refine HT.out.mono ?_
      rintro e w2 ⟨rfl, h2⟩
      rw [h2, H1.out]
      clear h2 w2
      go_wp2_with fail
      refine HSP.out.mono ?_
      rintro e w2 ⟨rfl, h2⟩
      rw [HB.out]
      have HS2 := hide (Stp.trans HS1.out h2)
      have HV2 := hide (HV1.out.keep (Stp.keeps HS1.out.inv h2))
      have HW2 := hide (HV.out.keep (Stp.keeps HI.out HS2.out))
      clear h2 c0 c1 c2
      obtain ⟨_, _, _, fa, fc, hfb, hfr⟩ := HV2.out
      obtain ⟨fb, rfl, hfb1, hfm, hfc, hql, hj1⟩ := hfr.at HQ.out
      obtain ⟨_, _, _, ga, gc, hgb, hgr⟩ := HW2.out
      obtain ⟨gb, rfl, hgb1, hgm, hgc, hgl, hj2⟩ := hgr.at HP1.out
      obtain ⟨d0, d1, d2⟩ := blk3 hfb
      obtain ⟨e0, e1, e2⟩ := blk3 hgb
      have dd2 := (old_cell d2 (size_of_block hfb)).1
      have ee2 := (old_cell e2 (size_of_block hgb)).1
      have ff := (old_cell hfc hfb1).1
      have gg := (old_cell hgc hgb1).1
      have hlf : r1.1.parts.length ≤ 100000000 := Nat.le_trans hfr.1 hfr.2.1
      have i1 : (1 : Int) < (r1.1.parts.length : Int) := by omega
      have i2 : (1 : Int) < (v.parts.length : Int) := by omega
      have HS3 : Hid (Stp w X B mb A s (w2.alloc (.cells #[pt (A1 p1)] 66)).drew A1 (r1.2.spend 64).2) := hide (Stp.trans HS2.out (Stp.more HS2.out.inv (later_drew _ _)))
      have HPR : Hid (PRow (w2.alloc (.cells #[pt (A1 p1)] 66)).drew X mb A1 (r1.2.spend 64).2.size (some ⟨w2.heap.size, 0, none⟩) [p1] 1) := hide (by
        obtain ⟨q1, q2, q3, q4⟩ := prow_one HS2.out.inv hgl
        exact ⟨q1, q2, q3, q4⟩)
      have HO := hide (open_any HG.out HS3.out.inv hql HPR.out HE.out)
      clear hfr hgr hfm hgm hfb hgb
      go_wp2_with fail
      go_region_law (first
        | (refine step_call3 (by rfl) 70 (.tmp 22) (.tmp 28) (.tmp 35) #[61, 66, 99] (by rfl) cf79 (pt mb) (pt (A1 q)) (.slice (some ⟨w2.heap.size, 0, none⟩) 1 1) (by rfl) (by rfl) (by rfl) _ HO.out ?_
           rintro e w4 ⟨A4, uq, rfl, h4, hv4⟩
           refine ⟨_, rfl, ?_⟩
           have H4 := hide h4; have HV4 := hide hv4
           clear h4 hv4))
      all_goals
        go_wp2_with fail
        go_ret
        exact ⟨A4, uq, rfl, Stp.trans HS3.out H4.out, HV4.out⟩
  · rw [if_neg h1] at he
    have he' := Option.some.inj he
    subst he'
    have hf : r1.1.is 4 2 = false := by simpa using h1
    have H1 := hide hf
    clear he h1 hf hp1
    go_enter Tryd.func54, Tryd.ntmps54
    go_wp2_with fail
    refine HC.out.mono ?_
    rintro e w1 ⟨A1, fq, rfl, h1', hv1⟩
    have HS1 := hide h1'
    have HT := hide (vis_any hv1 4 2)
    clear h1' hv1
    go_wp2_with fail
    refine HT.out.mono ?_
    rintro e w2 ⟨rfl, h2⟩
    rw [h2, H1.out]
    clear h2 w2
    go_wp2_with fail
    go_ret
    exact ⟨A1, vq, rfl, HS1.out, HV.out.keep (Stp.keeps HI.out HS1.out)⟩
#print axioms apply_any
end Go.Proofs.YtjiecahopdaghabDoor
