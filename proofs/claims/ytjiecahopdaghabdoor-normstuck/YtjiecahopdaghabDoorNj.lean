/- The rules: take; again. -/
import Derived.Test.YtjiecahopdaghabDoorNi
namespace Go.Proofs.YtjiecahopdaghabDoor
open Go.RowKit

attribute [local go_sem ↓] Go.wp_at_zero Go.wp_at_succ

theorem cell4' {w : World} {b : Nat} {x y z u : Value} {T : TypeId} (h : w.heap[b]? = some (.cells #[x, y, z, u] T (0, 0))) : w.cell? ⟨b, 0, none⟩ = some x ∧ w.cell? ⟨b, 1, none⟩ = some y ∧ w.cell? ⟨b, 2, none⟩ = some z ∧ w.cell? ⟨b, 3, none⟩ = some u := cell4 h

set_option maxRecDepth 20000 in
set_option maxHeartbeats 1000000 in
theorem take_any {go : Go1} (hg : ExC go) {w : World} {X : Nat → Prop} {B mb : Nat} {A : Nat → Nat} {s : St} (i : Inv w X B mb A s) {vq : Nat} {v : Val} {r : Val × St} {op : Int} {kids part : Nat} (hpt : part ≤ 10) (hv : ValP w X mb A s.size vq v) (he : mTake go op kids part v s = some r) :
    Calls Tryd.prog 56 #[.agg #[pt mb, .int .i64 op, .int .i64 (kids : Nat), .int .i64 (part : Nat)], pt vq] w (ValOut w X B mb A s r) := by
  unfold mTake at he
  obtain ⟨p0, hp0, he⟩ := Option.bind_eq_some_iff.1 he
  obtain ⟨r1, hr1, he⟩ := Option.bind_eq_some_iff.1 he
  have HS0 : Hid (Stp w X B mb A s (w.alloc (.cells #[pt mb, .int .i64 op, .int .i64 (kids : Nat), .int .i64 (part : Nat)] 94)) A s) := hide (Stp.more i (later_alloc w _))
  obtain ⟨W, hW⟩ : ∃ W, W = w.alloc (.cells #[pt mb, .int .i64 op, .int .i64 (kids : Nat), .int .i64 (part : Nat)] 94) := ⟨_, rfl⟩
  have HBX : Hid (W.heap[w.heap.size]? = some (.cells #[pt mb, .int .i64 op, .int .i64 (kids : Nat), .int .i64 (part : Nat)] 94 (0, 0))) := hide (by rw [hW]; exact heap_alloc_new _ _)
  rw [← hW] at HS0
  have HI := hide HS0.out.inv
  have HVV := hide hv
  have hvW := hv.keep (Stp.keeps i HS0.out)
  have HV := hide hvW
  have nX : Hid (¬ Mut mb A s.size w.heap.size) := hide (by
    rintro (h | ⟨j, hj, h⟩)
    · have := i.hmb.2; omega
    · have := (i.lo j hj).2.1; omega)
  have HI0 := hide i
  obtain ⟨_, _, _, va, vc, hvb, hvr⟩ := hvW
  obtain ⟨vb, rfl, hvb1, hvm, hvc, hpl, hj0⟩ := hvr.at hp0
  obtain ⟨c0, c1, c2⟩ := blk3 hvb
  have hlm : v.parts.length ≤ 100000000 := Nat.le_trans hvr.1 hvr.2.1
  have HC := hide (hg.force HI.out hpl hr1)
  have HG := hide hg
  clear hg hvb hvr hr1 hvm hv i
  by_cases h1 : r1.1.is op kids = true
  · rw [if_pos h1] at he
    have H1 := hide h1
    cases hb : (r1.2.spend 64).1 with
    | false =>
      simp only [hb, Bool.false_eq_true, if_false] at he
      have he' := Option.some.inj he
      subst he'
      have HB := hide hb
      clear he hb h1
      go_enter Tryd.func56, Tryd.ntmps56
      go_upto_region 1 with fail
      rw [← hW]
      clear hW
      go_wp2_with fail
      refine HC.out.mono ?_
      rintro e w1 ⟨A1, fq, rfl, h1', hv1⟩
      have HS1 := hide h1'
      obtain ⟨k0, k1, k2, k3⟩ := cell4 ((h1'.fr.block _ (size_of_block HBX.out) nX.out).trans HBX.out)
      have HT := hide (vis_any hv1 op kids)
      have HSP := hide (step_any h1'.inv)
      clear h1' hv1
      go_wp2_with fail
      refine HT.out.mono ?_
      rintro e w2 ⟨rfl, h2⟩
      rw [h2, H1.out]
      clear h2 w2
      go_wp2_with fail
      refine HSP.out.mono ?_
      rintro e w2 ⟨rfl, h2⟩
      rw [HB.out]
      have HS2 := hide h2
      clear h2
      go_wp2_with fail
      go_ret
      exact ⟨A1, vq, rfl, Stp.trans HS0.out (Stp.trans HS1.out HS2.out), HV.out.keep (Stp.keeps HI.out (Stp.trans HS1.out HS2.out))⟩
    | true =>
      simp only [hb, if_true] at he
      obtain ⟨q, hq, he⟩ := Option.bind_eq_some_iff.1 he
      have HB := hide hb; have HE := hide he; have HQ := hide hq
      clear he hb h1 hq
      go_enter Tryd.func56, Tryd.ntmps56
      go_upto_region 1 with fail
      rw [← hW]
      clear hW
      go_wp2_with fail
      refine HC.out.mono ?_
      rintro e w1 ⟨A1, fq, rfl, h1', hv1⟩
      have HS1 := hide h1'; have HV1 := hide hv1
      have HBX1 := hide ((h1'.fr.block _ (size_of_block HBX.out) nX.out).trans HBX.out)
      obtain ⟨k0, k1, k2, k3⟩ := cell4 HBX1.out
      have HT := hide (vis_any hv1 op kids)
      have HSP := hide (step_any h1'.inv)
      have nX1 : Hid (¬ Mut mb A1 r1.2.size w.heap.size) := hide (by
        rintro (h | ⟨j, hj, h⟩)
        · exact nX.out (Or.inl h)
        · by_cases hn : j < s.size
          · exact nX.out (Or.inr ⟨j, hn, by rw [← h, h1'.same j hn]⟩)
          · have := h1'.new j (by omega) hj
            have := size_of_block HBX.out
            omega)
      clear h1' hv1
      go_wp2_with fail
      refine HT.out.mono ?_
      rintro e w2 ⟨rfl, h2⟩
      rw [h2, H1.out]
      clear h2 w2
      go_wp2_with fail
      refine HSP.out.mono ?_
      rintro e w2 ⟨rfl, h2⟩
      rw [HB.out]
      have HBX2 := hide ((h2.fr.block _ (size_of_block HBX1.out) nX1.out).trans HBX1.out)
      have HS2 := hide (Stp.trans HS1.out h2)
      have HV2 := hide (HV1.out.keep (Stp.keeps HS1.out.inv h2))
      clear h2 c0 c1 c2 k0 k1 k2 k3
      obtain ⟨k0, k1, k2, k3⟩ := cell4 HBX2.out
      obtain ⟨_, _, _, fa, fc, hfb, hfr⟩ := HV2.out
      obtain ⟨fb, rfl, hfb1, hfm, hfc, hql, hj1⟩ := hfr.at HQ.out
      obtain ⟨d0, d1, d2⟩ := blk3 hfb
      have hlf : r1.1.parts.length ≤ 100000000 := Nat.le_trans hfr.1 hfr.2.1
      have i0 : (0 : Int) ≤ ((part : Nat) : Int) := by omega
      have i1 : ((part : Nat) : Int) < (r1.1.parts.length : Int) := by omega
      have HD := hide (Inv.dr HS2.out.inv)
      have HF := hide (HG.out.force HD.out.inv hql HE.out)
      clear hfr hfm hfb
      go_wp2_with fail
      go_region_law (first
        | (refine step_call1 (by rfl) 67 (.tmp 34) #[66] (by rfl) cf76 (pt (A1 q)) (by rfl) _ HF.out ?_
           rintro e w4 ⟨A4, uq, rfl, h4, hv4⟩
           refine ⟨_, rfl, ?_⟩
           have H4 := hide h4; have HV4 := hide hv4
           clear h4 hv4))
      all_goals
        go_wp2_with fail
        go_ret
        exact ⟨A4, uq, rfl, Stp.trans HS0.out (Stp.trans HS2.out (Stp.trans HD.out H4.out)), HV4.out⟩
  · rw [if_neg h1] at he
    have he' := Option.some.inj he
    subst he'
    have hf : r1.1.is op kids = false := by simpa using h1
    have H1 := hide hf
    clear he h1 hf
    go_enter Tryd.func56, Tryd.ntmps56
    go_upto_region 1 with fail
    rw [← hW]
    clear hW
    go_wp2_with fail
    refine HC.out.mono ?_
    rintro e w1 ⟨A1, fq, rfl, h1', hv1⟩
    have HS1 := hide h1'
    obtain ⟨k0, k1, k2, k3⟩ := cell4 ((h1'.fr.block _ (size_of_block HBX.out) nX.out).trans HBX.out)
    have HT := hide (vis_any hv1 op kids)
    clear h1' hv1
    go_wp2_with fail
    refine HT.out.mono ?_
    rintro e w2 ⟨rfl, h2⟩
    rw [h2, H1.out]
    clear h2 w2
    go_wp2_with fail
    go_ret
    exact ⟨A1, vq, rfl, Stp.trans HS0.out HS1.out, HV.out.keep (Stp.keeps HI.out HS1.out)⟩

/-- A row of four parts. -/
theorem prow_four {w w' : World} {X : Nat → Prop} {B mb p q r t : Nat} {A : Nat → Nat} {s : St} (i : Inv w X B mb A s) (hp : p < s.size) (hq : q < s.size) (hr : r < s.size) (ht : t < s.size) (hb : w'.heap[w.heap.size]? = some (.cells #[pt (A p), pt (A q), pt (A r), pt (A t)] 66 (0, 0))) : PRow w' X mb A s.size (some ⟨w.heap.size, 0, none⟩) [p, q, r, t] 4 := by
  refine ⟨by simp, by decide, fun j hj => by simp at hj; omega, fun _ => ⟨w.heap.size, rfl, size_of_block hb, ?_, fun j hj => ?_⟩⟩
  · rintro ((h | ⟨j, hj, h⟩) | h)
    · have := i.hmb.2; omega
    · have := (i.lo j hj).2.1; omega
    · have := (i.xs _ h).2.1; omega
  · match j, hj with
    | 0, _ => exact (cell_of_block hb 0).trans rfl
    | 1, _ => exact (cell_of_block hb 1).trans rfl
    | 2, _ => exact (cell_of_block hb 2).trans rfl
    | 3, _ => exact (cell_of_block hb 3).trans rfl
    | j + 4, h => simp at h; omega

theorem again_fin {w w' : World} {X : Nat → Prop} {B mb : Nat} {A : Nat → Nat} {s : St} (i : Inv w X B mb A s) {p0 p1 p2 q : Nat} {o n : Int} (ho : I64 o) (hn : I64 n) (l0 : p0 < s.size) (l1 : p1 < s.size) (l2 : p2 < s.size) (hq : q < s.size) (hb : Below w.heap.size w w')
    (h0 : w'.heap[w.heap.size]? = some (.cells #[pt (A p0), pt (A p1), pt (A p2), pt (A q)] 66 (0, 0))) (h1 : w'.heap[w.heap.size + 1]? = some (.cells #[.int .i64 o, .int .i64 n, .slice (some ⟨w.heap.size, 0, none⟩) 4 4] 105 (0, 0)))
    (h2 : w'.heap[w.heap.size + 2]? = some (.cells #[.int .i64 0, .slice none 0 0, .func (.func 78) #[.agg #[pt mb, pt (w.heap.size + 1)]] #[], .pointer none] 103 (0, 0))) :
    PartOut w X B mb A s (s.push ⟨0, [], ⟨true, ⟨0, 0, []⟩, ⟨o, n, [p0, p1, p2, q]⟩⟩, none⟩) (.returned (pt (w.heap.size + 2))) w' ∧ Below w.heap.size w w' := by
  obtain ⟨A', hs, hA⟩ := Stp.push (th := ⟨0, [], ⟨true, ⟨0, 0, []⟩, ⟨o, n, [p0, p1, p2, q]⟩⟩, none⟩) (q := w.heap.size + 2) (w' := w') i hb (by omega) (size_of_block h2) (fun A' h1' h2' k => by
    have hA : ∀ j, j < s.size → A' j = A j := h1'
    have nm : ∀ x, w.heap.size ≤ x → x ≠ w.heap.size + 2 → ¬ MutX X mb A' (s.size + 1) x := by
      intro x hx hx2
      rintro ((h | ⟨j, hj, h⟩) | h)
      · have := i.hmb.2; omega
      · by_cases hjs : j = s.size
        · rw [hjs, h2'] at h; omega
        · rw [h1' j (by omega)] at h
          have := (i.lo j (by omega)).2.1
          omega
      · have := (i.xs _ h).2.1; omega
    refine ⟨Nat.zero_le _, fun _ => ⟨none, 0, _, h2, prow_nil max0, ?_⟩, fun v hv => by simp at hv⟩
    unfold RunP
    rw [if_pos rfl]
    refine ⟨w.heap.size + 1, rfl, ho, hn, nm _ (by omega) (by omega), some ⟨w.heap.size, 0, none⟩, 4, h1, by simp, by decide, fun j hj => by simp at hj; omega, fun _ => ⟨w.heap.size, rfl, size_of_block h0, nm _ (Nat.le_refl _) (by omega), fun j hj => ?_⟩⟩
    match j, hj with
    | 0, _ => exact (cell_of_block h0 0).trans (by simp [hA p0 l0])
    | 1, _ => exact (cell_of_block h0 1).trans (by simp [hA p1 l1])
    | 2, _ => exact (cell_of_block h0 2).trans (by simp [hA p2 l2])
    | 3, _ => exact (cell_of_block h0 3).trans (by simp [hA q hq])
    | j + 4, h => simp at h; omega)
  exact ⟨⟨A', (show Ending.returned (pt (w.heap.size + 2)) = Ending.returned (pt (A' s.size)) by rw [hA]), by unfold St.push; simp, hs⟩, hb⟩

theorem box3d (w : World) (x0 x1 x2 : Obj) : (((w.alloc x0).alloc x1).drew.alloc x2).heap[w.heap.size]? = some x0 ∧ (((w.alloc x0).alloc x1).drew.alloc x2).heap[w.heap.size + 1]? = some x1 ∧ (((w.alloc x0).alloc x1).drew.alloc x2).heap[w.heap.size + 2]? = some x2 ∧ Below w.heap.size w (((w.alloc x0).alloc x1).drew.alloc x2) := by
  have h0 := heap_alloc_new w x0
  have h1 := heap_alloc_new (w.alloc x0) x1
  have h2 := heap_alloc_new ((w.alloc x0).alloc x1).drew x2
  rw [World.size_alloc] at h1
  have e : ((w.alloc x0).alloc x1).drew.heap.size = w.heap.size + 2 := by show ((w.alloc x0).alloc x1).heap.size = _; simp
  rw [e] at h2
  refine ⟨?_, ?_, h2, ((((Below.refl _ _).alloc (Nat.le_refl _) _).alloc (by simp) _).drew).alloc (by rw [e]; omega) _⟩
  · rw [Below.heap_alloc _ _ _ (by rw [e]; omega)]
    show ((w.alloc x0).alloc x1).heap[w.heap.size]? = _
    rw [Below.heap_alloc _ _ _ (by simp)]; exact h0
  · rw [Below.heap_alloc _ _ _ (by rw [e]; omega)]; exact h1

set_option maxRecDepth 20000 in
set_option maxHeartbeats 1000000 in
theorem again_any {w : World} {X : Nat → Prop} {B mb : Nat} {A : Nat → Nat} {s : St} (i : Inv w X B mb A s) {vq p0 p1 p2 q : Nat} {v : Val} (hv : ValP w X mb A s.size vq v) (h0 : v.parts[0]? = some p0) (h1 : v.parts[1]? = some p1) (h2 : v.parts[2]? = some p2) (hq : q < s.size) :
    Calls Tryd.prog 71 #[pt mb, pt vq, pt (A q)] w (fun e w' => PartOut w X B mb A s (s.push ⟨0, [], ⟨true, ⟨0, 0, []⟩, ⟨v.op, v.n, [p0, p1, p2, q]⟩⟩, none⟩) e w' ∧ Below w.heap.size w w') := by
  have HI := hide i; have HV := hide hv
  obtain ⟨ho, hn, hm, va, vc, hvb, hvr⟩ := hv
  obtain ⟨vb, rfl, hvb1, _, g0, l0, j0⟩ := hvr.at h0
  obtain ⟨vb', e', _, _, g1, l1, j1⟩ := hvr.at h1
  simp only [Option.some.injEq, Addr.mk.injEq, and_true] at e'
  subst e'
  obtain ⟨vb', e', _, _, g2, l2, j2⟩ := hvr.at h2
  simp only [Option.some.injEq, Addr.mk.injEq, and_true] at e'
  subst e'
  obtain ⟨c0, c1, c2⟩ := blk3 hvb
  have hlm : v.parts.length ≤ 100000000 := Nat.le_trans hvr.1 hvr.2.1
  have cc0 := (old_cell c0 (size_of_block hvb)).1; have cc1 := (old_cell c1 (size_of_block hvb)).1; have cc2 := (old_cell c2 (size_of_block hvb)).1
  have gg0 := (old_cell g0 hvb1).1; have gg1 := (old_cell g1 hvb1).1; have gg2 := (old_cell g2 hvb1).1
  have i0 : (0 : Int) < (v.parts.length : Int) := by omega
  have i1 : (1 : Int) < (v.parts.length : Int) := by omega
  have i2 : (2 : Int) < (v.parts.length : Int) := by omega
  have hmf := mk_func
  have HO := hide ho; have HN := hide hn
  clear hvr hvb hm h0 h1 h2 i ho hn j0 j1 j2
  go_enter Tryd.func71, Tryd.ntmps71
  go_wp2_with fail
  go_region
  go_wp2_with fail
  go_ret
  first
    | exact (fun h => again_fin HI.out HO.out HN.out l0 l1 l2 hq h.2.2.2 h.1 h.2.1 h.2.2.1) (box3d w (.cells #[pt (A p0), pt (A p1), pt (A p2), pt (A q)] 66) (.cells #[.int .i64 v.op, .int .i64 v.n, .slice (some ⟨w.heap.size, 0, none⟩) 4 4] 105) (.cells #[.int .i64 0, .slice none 0 0, .func (.func 78) #[.agg #[pt mb, pt (w.heap.size + 1)]] #[], .pointer none] 103))
    | trace_state
#print axioms again_any
end Go.Proofs.YtjiecahopdaghabDoor
