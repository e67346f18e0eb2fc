/- open; value. -/
import Derived.Test.YtjiecahopdaghabDoorNg
import Derived.Laws.EntriesVeiled
namespace Go.Proofs.YtjiecahopdaghabDoor
open Go.RowKit

theorem cf87 (args : Array Value) (w : World) : (callFunc 77 args).run Tryd.prog w = .ok (.enter 77 args) w := cf_of Tryd.func77 (by kernel_rfl) (by kernel_rfl) args w
theorem cell4 {w : World} {b : Nat} {x y z u : Value} {T : TypeId} {fr : Nat × Nat} (h : w.heap[b]? = some (.cells #[x, y, z, u] T fr)) : w.cell? ⟨b, 0, none⟩ = some x ∧ w.cell? ⟨b, 1, none⟩ = some y ∧ w.cell? ⟨b, 2, none⟩ = some z ∧ w.cell? ⟨b, 3, none⟩ = some u := by
  refine ⟨?_, ?_, ?_, ?_⟩ <;> (rw [cell_of_block h]; rfl)

attribute [local go_sem ↓] Go.wp_at_zero Go.wp_at_succ

set_option maxRecDepth 20000 in
set_option maxHeartbeats 1000000 in
theorem open_any {go : Go1} (hg : ExC go) {w : World} {X : Nat → Prop} {B mb : Nat} {A : Nat → Nat} {s : St} (i : Inv w X B mb A s) {a : Option Addr} {cap p : Nat} {args : List Nat} {r : Val × St} (hp : p < s.size) (hr : PRow w X mb A s.size a args cap) (he : mOpen go p args s = some r) :
    Calls Tryd.prog 70 #[pt mb, pt (A p), .slice a args.length cap] w (ValOut w X B mb A s r) := by
  obtain ⟨th, hth, hb2, hw, hd⟩ := i.part p hp
  unfold mOpen at he
  rw [hth] at he
  simp only [Option.bind_some] at he
  have hal : args.length ≤ 100000000 := Nat.le_trans hr.1 hr.2.1
  cases hgot : th.got with
  | some v =>
    rw [hgot] at he
    simp at he
  | none =>
    obtain ⟨sa, sp, x, hblk, hrow, hx⟩ := hw hgot
    have hscl : th.scope.length ≤ 100000000 := Nat.le_trans hrow.1 hrow.2.1
    have hk : w64 (w64 (1 + (th.scope.length : Int)) + (args.length : Int)) = 1 + (th.scope.length : Int) + (args.length : Int) := by
      unfold w64; rw [IntKind.wrap_i64, IntKind.wrap_i64]; omega
    rw [hk, hgot] at he
    simp only [Option.isSome_none, Bool.false_eq_true, if_false] at he
    obtain ⟨r1, hr1⟩ : ∃ r1, r1 = s.spend (1 + (th.scope.length : Int) + (args.length : Int)) := ⟨_, rfl⟩
    rw [← hr1] at he
    obtain ⟨c0, c1, c2, c3⟩ := cell4 hblk
    have HI := hide i; have HR := hide hr; have HR1 := hide hr1
    have HSP := hide (spend_any i (1 + (th.scope.length : Int) + (args.length : Int)) ⟨by omega, by omega⟩)
    cases hb : r1.1 with
    | false =>
      rw [hb, if_neg (by simp)] at he
      have he' := Option.some.inj he
      subst he'
      have HBF := hide hb
      clear he hb hr1 hblk hrow hx hr i hk hth hw hd c0 c2 c3
      go_enter Tryd.func70, Tryd.ntmps70
      go_wp2_with fail
      refine HSP.out.mono ?_
      rintro e w1 ⟨rfl, h1⟩
      rw [← HR1.out] at h1 ⊢
      rw [HBF.out]
      have H1 := hide h1
      clear h1
      go_wp2_with fail
      go_ret
      obtain ⟨g1, g2⟩ := no_val H1.out.inv
      exact ⟨A, _, rfl, Stp.trans H1.out g1, g2⟩
    | true =>
      rw [hb, if_pos rfl] at he
      have hle := spend_le i (k := 1 + (th.scope.length : Int) + (args.length : Int)) ⟨by omega, by omega⟩ (by rw [← hr1]; exact hb)
      have hlen : th.scope.length + args.length ≤ 100000000 := by omega
      have HBF := hide hb
      have HE := hide he
      have HSG := hide (spend_get s (1 + (th.scope.length : Int) + (args.length : Int)) p)
      have HTH := hide hth; have HGT := hide hgot; have HG := hide hg
      clear he hb hr1 hblk hrow hx hr i hk hth hw hd hle hgot c0 c2 c3
      go_enter Tryd.func70, Tryd.ntmps70
      go_wp2_with fail
      refine HSP.out.mono ?_
      rintro e w1 ⟨rfl, h1⟩
      rw [← HR1.out] at h1 HSG ⊢
      rw [HBF.out]
      have HR2 := hide (HR.out.keep (Stp.keeps HI.out h1))
      have H1 := hide h1
      clear h1 c1
      have hp1 : p < r1.2.size := by rw [HSG.out.2]; exact hp
      obtain ⟨th1, ht1, _, hw1, _⟩ := H1.out.inv.part p hp1
      rw [HSG.out.1, HTH.out] at ht1
      have ht1' := Option.some.inj ht1
      subst ht1'
      obtain ⟨sa1, sp1, x1, hblk1, hrow1, hx1⟩ := hw1 HGT.out
      obtain ⟨d0, d1, d2, d3⟩ := cell4 hblk1
      obtain ⟨k, v0, rfl, hcf, hrun⟩ := run_any HG.out hx1
      have HRUN := hide hrun; have HCF := hide hcf
      have HD := hide (H1.out.inv.dr)
      have HKD := hide (Stp.keeps H1.out.inv HD.out)
      have HC := hide (with_any (hrow1.keep HKD.out) (HR2.out.keep HKD.out) HD.out.inv.hmb.2 (fun j hj => (HD.out.inv.lo j hj).2.1) (fun q hq => (HD.out.inv.xs q hq).2.1) hlen)
      have HX1 := hide hx1
      clear hrun hcf hx1 hrow1 hw1 ht1
      go_wp2_with fail
      go_region_law (first
        | (refine step_call2 (by rfl) 77 (.tmp 28) (.tmp 29) #[100, 99] (by rfl) cf87 (.slice sa1 th.scope.length sp1) (.slice a args.length cap) (by rfl) (by rfl) _ HC.out ?_
           rintro e w2 ⟨a2, rfl, hr2, hb2'⟩
           refine ⟨_, rfl, ?_⟩
           have HS2 : Hid (Stp w1 X B mb A r1.2 w2 A r1.2) := hide (Stp.trans HD.out (Stp.more HD.out.inv hb2'))
           have HRW := hide hr2
           have HC2 := hide (HRUN.out w2 A r1.2 a2 _ _ r HS2.out.inv (HX1.out.keep (Stp.keeps H1.out.inv HS2.out)) HRW.out HE.out)
           rw [List.length_append] at HC2
           have d1' : w2.cell? ⟨A p, 1, none⟩ = some (.slice sa1 th.scope.length sp1) := (hb2'.cell (p := ⟨A p, 1, none⟩) (H1.out.inv.lo p hp1).2.1).trans d1
           have d2' : w2.cell? ⟨A p, 2, none⟩ = some (.func (.func k) #[v0] #[]) := (hb2'.cell (p := ⟨A p, 2, none⟩) (H1.out.inv.lo p hp1).2.1).trans d2
           clear hb2' hr2)
        | (refine stepcv (by rfl) k (.tmp 24) (.tmp 30) #[100] (by rfl) HCF.out v0 (.slice a2 (th.scope.length + args.length) (th.scope.length + args.length)) (by rfl) (by rfl) _ HC2.out ?_
           rintro e w3 ⟨A3, vq, rfl, h3, hv3⟩
           refine ⟨_, rfl, ?_⟩
           have H3 := hide h3; have HV3 := hide hv3
           clear h3 hv3))
      all_goals
        go_wp2_with fail
        go_ret
        exact ⟨A3, vq, rfl, Stp.trans H1.out (Stp.trans HS2.out H3.out), HV3.out⟩

theorem fr_set3 (w : World) (q : Nat) (x y z : Value) : Fr (fun k => k = q) w (((w.setCell ⟨q, 3, none⟩ x).setCell ⟨q, 2, none⟩ y).setCell ⟨q, 1, none⟩ z) := ((fr_set w q 3 x).trans (fr_set _ q 2 y)).trans (fr_set _ q 1 z)
theorem part_shape {w : World} {X : Nat → Prop} {B mb n q : Nat} {A : Nat → Nat} {th : Th} (h : PartP w X B mb A n q th) : ∃ x y z, w.heap[q]? = some (.cells #[.int .i64 (th.binders : Nat), x, y, z] 103 (0, 0)) := by
  cases hg : th.got with
  | none => obtain ⟨a, cap, x, hb, _⟩ := h.2.1 hg; exact ⟨_, _, _, hb⟩
  | some v => obtain ⟨vq, hb, _⟩ := h.2.2 v hg; exact ⟨_, _, _, hb⟩

set_option maxRecDepth 20000 in
set_option maxHeartbeats 1000000 in
theorem value_any {go : Go1} (hg : ExC go) {w : World} {X : Nat → Prop} {B mb : Nat} {A : Nat → Nat} {s : St} (i : Inv w X B mb A s) {p : Nat} {r : Val × St} (hp : p < s.size) (he : mForce go p s = some r) :
    Calls Tryd.prog 67 #[pt (A p)] w (ValOut w X B mb A s r) := by
  obtain ⟨th, hth, hb2, hw, hd⟩ := i.part p hp
  unfold mForce at he
  rw [hth] at he
  simp only [Option.bind_some] at he
  cases hgot : th.got with
  | some v =>
    rw [hgot] at he
    have he' := Option.some.inj he
    subst he'
    obtain ⟨vq, hblk, hv⟩ := hd v hgot
    obtain ⟨c0, c1, c2, c3⟩ := cell4 hblk
    have HI := hide i; have HV := hide hv
    clear hblk hv hw hd he hth i hgot
    go_enter Tryd.func67, Tryd.ntmps67
    go_wp2_with fail
    go_ret
    exact ⟨A, vq, rfl, Stp.refl HI.out, HV.out⟩
  | none =>
    rw [hgot] at he
    obtain ⟨r5, hr5, he5⟩ := Option.bind_eq_some_iff.1 he
    obtain ⟨t5, ht5, rfl⟩ := Option.map_eq_some_iff.1 he5
    obtain ⟨sa, sp, x, hblk, hrow, hx⟩ := hw hgot
    obtain ⟨c0, c1, c2, c3⟩ := cell4 hblk
    obtain ⟨k, v0, rfl, hcf, hrun⟩ := run_any hg hx
    have HD := hide i.dr
    have HC := hide (hrun w.drew A s sa sp th.scope r5 HD.out.inv (hx.keep (Stp.keeps i HD.out)) (hrow.keep (Stp.keeps i HD.out)) hr5)
    have HI := hide i; have HT5 := hide ht5; have HCF := hide hcf
    clear he he5 hr5 ht5 hblk hrow hx hw hd hth i hgot hrun hcf hg
    go_enter Tryd.func67, Tryd.ntmps67
    go_wp2_with fail
    go_region_law (first
      | (refine stepcv (by rfl) k (.tmp 12) (.tmp 16) #[100] (by rfl) HCF.out v0 (.slice sa th.scope.length sp) (by rfl) (by rfl) _ HC.out ?_
         rintro e w5 ⟨A5, vq, rfl, h5, hv5⟩
         refine ⟨_, rfl, ?_⟩
         have H5 : Hid (Stp w X B mb A s w5 A5 r5.2) := hide (Stp.trans HD.out h5)
         have HV5 := hide hv5
         have hA5 : A5 p = A p := H5.out.same p hp
         have hp5 : p < r5.2.size := Nat.lt_of_lt_of_le hp H5.out.size
         obtain ⟨t5', e5, hpp5⟩ := H5.out.inv.part p hp5
         rw [HT5.out] at e5
         have e5' := Option.some.inj e5
         subst e5'
         rw [hA5] at hpp5
         have HB5 := hide hpp5.1
         obtain ⟨y1, y2, y3, hb5⟩ := part_shape hpp5
         obtain ⟨f0, f1, f2, f3⟩ := cell4 hb5
         have z1 : w5.frozen? ⟨A p, 1, none⟩ = false := frozen_of_block hb5 1
         have z2 : w5.frozen? ⟨A p, 2, none⟩ = false := frozen_of_block hb5 2
         have z3 : w5.frozen? ⟨A p, 3, none⟩ = false := frozen_of_block hb5 3
         have HBL5 := hide hb5; have HAP := hide hA5
         clear h5 hv5 hpp5 hb5 e5 hA5))
    all_goals
      go_wp2_with fail
      go_ret
      have HF := fr_set3 w5 (A p) (pt vq) .nilFunc (.slice none 0 0)
      have hs := Stp.put (th := ⟨t5.binders, [], noRun, some r5.1⟩) H5.out.inv hp5 (by rw [HAP.out]; exact HF) (fun k => by
        refine ⟨HB5.out, fun h => by simp at h, fun v hv => ?_⟩
        simp only [Option.some.injEq] at hv
        subst hv
        refine ⟨vq, ?_, HV5.out.keep k⟩
        rw [HAP.out, heap_setCell_same _ _ 1 _ _ _ (heap_setCell_same _ _ 2 _ _ _ (heap_setCell_same _ _ 3 _ _ _ HBL5.out))]
        rfl)
      exact ⟨A5, vq, rfl, Stp.trans H5.out hs, HV5.out.keep (Stp.keeps H5.out.inv hs)⟩
#print axioms value_any
#print axioms open_any
end Go.Proofs.YtjiecahopdaghabDoor
