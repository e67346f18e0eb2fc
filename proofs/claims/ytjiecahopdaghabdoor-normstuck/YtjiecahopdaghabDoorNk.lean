/- The rules: recur. -/
import Derived.Test.YtjiecahopdaghabDoorNj
import Derived.Test.YtjiecahopdaghabDoorRw
namespace Go.Proofs.YtjiecahopdaghabDoor
open Go.RowKit

attribute [local go_sem ↓] Go.wp_at_zero Go.wp_at_succ
attribute [local go_sem] put

theorem cf80 (args : Array Value) (w : World) : (callFunc 71 args).run Tryd.prog w = .ok (.enter 71 args) w := cf_of Tryd.func71 (by kernel_rfl) (by kernel_rfl) args w
theorem is_not {v : Val} {a b : Int} {j k : Nat} (h : v.is a j = true) (hn : a ≠ b) : v.is b k = false := by
  unfold Val.is at *
  simp only [Bool.and_eq_true, decide_eq_true_eq] at h
  simp [h.1, hn]

/-- What is known of each operation of the region that opens. -/
def ReF (w0 : World) (X : Nat → Prop) (B mb : Nat) (A1 : Nat → Nat) (st : St) (hh : Nat × St) (vq fq gb vl gc fb fl fc x2 x0 q : Nat) : Nat → Value → World → Prop
  | 0 => fun v _ => v = pt mb
  | 1 => fun v _ => v = pt vq
  | 2 => fun v _ => v = pt vq
  | 3 => fun v _ => v = .pointer (some ⟨vq, 2, none⟩)
  | 4 => fun v _ => v = .slice (some ⟨gb, 0, none⟩) vl gc
  | 5 => fun v _ => v = .pointer (some ⟨gb, 2, none⟩)
  | 6 => fun v _ => v = pt x2
  | 7 => fun v _ => v = pt fq
  | 8 => fun v _ => v = pt fq
  | 9 => fun v _ => v = .pointer (some ⟨fq, 2, none⟩)
  | 10 => fun v _ => v = .slice (some ⟨fb, 0, none⟩) fl fc
  | 11 => fun v _ => v = .pointer (some ⟨fb, 0, none⟩)
  | 12 => fun v _ => v = pt x0
  | 13 => fun v _ => v = pt mb
  | 14 => fun v _ => v = pt vq
  | 15 => fun v _ => v = pt fq
  | 16 => fun v _ => v = pt fq
  | 17 => fun v _ => v = .pointer (some ⟨fq, 2, none⟩)
  | 18 => fun v _ => v = .slice (some ⟨fb, 0, none⟩) fl fc
  | 19 => fun v _ => v = .pointer (some ⟨fb, 0, none⟩)
  | 20 => fun v _ => v = pt x0
  | 21 => fun v w => ∃ A3, v = pt (A3 hh.1) ∧ hh.1 < hh.2.size ∧ Stp w0 X B mb A1 st w A3 hh.2
  | 22 => fun v w => ∃ A3 b, v = .slice (some ⟨b, 0, none⟩) 2 2 ∧ Stp w0 X B mb A1 st w A3 hh.2 ∧ PRow w X mb A3 hh.2.size (some ⟨b, 0, none⟩) [q, hh.1] 2
  | _ => fun _ _ => True
theorem ReF.keep (w0 : World) (X : Nat → Prop) (B mb : Nat) (A1 : Nat → Nat) (st : St) (hh : Nat × St) (vq fq gb vl gc fb fl fc x2 x0 q : Nat) (k : Nat) (v : Value) (w w' : World) (h : ReF w0 X B mb A1 st hh vq fq gb vl gc fb fl fc x2 x0 q k v w) (hb : Below w.heap.size w w') : ReF w0 X B mb A1 st hh vq fq gb vl gc fb fl fc x2 x0 q k v w' := by
  unfold ReF at *
  split at h
  case h_22 =>
    obtain ⟨A3, e, hl, hs⟩ := h
    exact ⟨A3, e, hl, Stp.trans hs (Stp.more hs.inv hb)⟩
  case h_23 =>
    obtain ⟨A3, b, e, hs, hp⟩ := h
    have hm := Stp.more hs.inv hb
    exact ⟨A3, b, e, Stp.trans hs hm, hp.keep (Stp.keeps hs.inv hm)⟩
  all_goals exact h
def ReR (n : Nat) (w0 : World) (X : Nat → Prop) (B mb : Nat) (A1 : Nat → Nat) (st : St) (r : Val × St) (vs : Nat → Value) (w : World) : Prop := ∃ A4 uq, vs n = pt uq ∧ Stp w0 X B mb A1 st w A4 r.2 ∧ ValP w X mb A4 r.2.size uq r.1

set_option maxRecDepth 20000 in
set_option maxHeartbeats 4000000 in
theorem recur_any {go : Go1} (hg : ExC go) {w : World} {X : Nat → Prop} {B mb : Nat} {A : Nat → Nat} {s : St} (i : Inv w X B mb A s) {vq : Nat} {v : Val} {r : Val × St} (hv : ValP w X mb A s.size vq v) (he : mRecur go v s = some r) :
    Calls Tryd.prog 55 #[pt mb, pt vq] w (ValOut w X B mb A s r) := by
  unfold mRecur at he
  obtain ⟨p0, hp0, he⟩ := Option.bind_eq_some_iff.1 he
  obtain ⟨p1, hp1, he⟩ := Option.bind_eq_some_iff.1 he
  obtain ⟨p2, hp2, he⟩ := Option.bind_eq_some_iff.1 he
  obtain ⟨p3, hp3, he⟩ := Option.bind_eq_some_iff.1 he
  obtain ⟨r1, hr1, he⟩ := Option.bind_eq_some_iff.1 he
  have HV := hide hv
  obtain ⟨_, _, _, va, vc, hvb, hvr⟩ := hv
  obtain ⟨vb, rfl, hvb1, hvm, hvc, hpl, hj0⟩ := hvr.at hp3
  obtain ⟨c0, c1, c2⟩ := blk3 hvb
  have hlm : v.parts.length ≤ 100000000 := Nat.le_trans hvr.1 hvr.2.1
  have i3 : (3 : Int) < (v.parts.length : Int) := by omega
  have HC := hide (hg.force i hpl hr1)
  have HI := hide i; have HG := hide hg; have HP0 := hide hp0; have HP1 := hide hp1; have HP2 := hide hp2
  clear hg hvb hvr hr1 hvm hp0 hp1 hp2 hp3 i
  by_cases hz : r1.1.is 11 0 = true
  · rw [if_pos hz] at he
    have HZ := hide hz
    have HZ2 : Hid (r1.1.is 12 1 = false) := hide (is_not hz (by decide))
    cases hb : (r1.2.spend 64).1 with
    | false =>
      simp only [hb, Bool.false_eq_true, if_false] at he
      have he' := Option.some.inj he
      subst he'
      have HB := hide hb
      clear he hb hz
      go_enter Tryd.func55, Tryd.ntmps55
      go_wp2_with fail
      refine HC.out.mono ?_
      rintro e w1 ⟨A1, fq, rfl, h1', hv1⟩
      have HS1 := hide h1'
      have HT := hide (vis_any hv1 11 0); have HV1 := hide hv1
      have HSP := hide (step_any h1'.inv)
      clear h1' hv1
      go_wp2_with fail
      refine HT.out.mono ?_
      rintro e w2 ⟨rfl, h2⟩
      rw [h2, HZ.out]
      clear h2 w2
      go_wp2_with fail
      refine HSP.out.mono ?_
      rintro e w2 ⟨rfl, h2⟩
      rw [HB.out]
      have HS2 := hide h2
      have HT2 := hide (vis_any (HV1.out.keep (Stp.keeps HS1.out.inv h2)) 12 1)
      clear h2
      go_wp2_with fail
      refine HT2.out.mono ?_
      rintro e w3 ⟨rfl, h3⟩
      rw [h3, HZ2.out]
      clear h3 w3
      go_wp2_with fail
      go_ret
      exact ⟨A1, vq, rfl, Stp.trans HS1.out HS2.out, HV.out.keep (Stp.keeps HI.out (Stp.trans HS1.out HS2.out))⟩
    | true =>
      simp only [hb, if_true] at he
      have HB := hide hb; have HE := hide he
      clear he hb hz
      go_enter Tryd.func55, Tryd.ntmps55
      go_wp2_with fail
      refine HC.out.mono ?_
      rintro e w1 ⟨A1, fq, rfl, h1', hv1⟩
      have HS1 := hide h1'
      have HT := hide (vis_any hv1 11 0)
      have HSP := hide (step_any h1'.inv)
      clear h1' hv1
      go_wp2_with fail
      refine HT.out.mono ?_
      rintro e w2 ⟨rfl, h2⟩
      rw [h2, HZ.out]
      clear h2 w2
      go_wp2_with fail
      refine HSP.out.mono ?_
      rintro e w2 ⟨rfl, h2⟩
      rw [HB.out]
      have HS2 := hide (Stp.trans HS1.out h2)
      have HW2 := hide (HV.out.keep (Stp.keeps HI.out HS2.out))
      clear h2 c0 c1 c2
      obtain ⟨_, _, _, ga, gc, hgb, hgr⟩ := HW2.out
      obtain ⟨gb, rfl, hgb1, hgm, hgc, hgl, hj2⟩ := hgr.at HP1.out
      obtain ⟨e0, e1, e2⟩ := blk3 hgb
      have i1 : (1 : Int) < (v.parts.length : Int) := by omega
      have HF := hide (HG.out.force HS2.out.inv hgl HE.out)
      clear hgr hgm hgb
      go_wp2_with fail
      refine HF.out.mono ?_
      rintro e w4 ⟨A4, uq, rfl, h4, hv4⟩
      have H4 := hide h4; have HV4 := hide hv4
      clear h4 hv4
      go_wp2_with fail
      go_ret
      exact ⟨A4, uq, rfl, Stp.trans HS2.out H4.out, HV4.out⟩
  · rw [if_neg hz] at he
    have HZ : Hid (r1.1.is 11 0 = false) := hide (by simpa using hz)
    by_cases hu : r1.1.is 12 1 = true
    · rw [if_pos hu] at he
      have HU := hide hu
      cases hb : (r1.2.spend 64).1 with
      | false =>
        simp only [hb, Bool.false_eq_true, if_false] at he
        have he' := Option.some.inj he
        subst he'
        have HB := hide hb
        clear he hb hz hu
        go_enter Tryd.func55, Tryd.ntmps55
        go_wp2_with fail
        refine HC.out.mono ?_
        rintro e w1 ⟨A1, fq, rfl, h1', hv1⟩
        have HS1 := hide h1'
        have HT := hide (vis_any hv1 11 0); have HT2 := hide (vis_any hv1 12 1)
        have HSP := hide (step_any h1'.inv)
        clear h1' hv1
        go_wp2_with fail
        refine HT.out.mono ?_
        rintro e w2 ⟨rfl, h2⟩
        rw [h2, HZ.out]
        clear h2 w2
        go_wp2_with fail
        refine HT2.out.mono ?_
        rintro e w2 ⟨rfl, h2⟩
        rw [h2, HU.out]
        clear h2 w2
        go_wp2_with fail
        refine HSP.out.mono ?_
        rintro e w2 ⟨rfl, h2⟩
        rw [HB.out]
        have HS2 := hide h2
        clear h2
        go_wp2_with fail
        go_ret
        exact ⟨A1, vq, rfl, Stp.trans HS1.out HS2.out, HV.out.keep (Stp.keeps HI.out (Stp.trans HS1.out HS2.out))⟩
      | true =>
        simp only [hb, if_true] at he
        obtain ⟨q, hq, he⟩ := Option.bind_eq_some_iff.1 he
        have HB := hide hb; have HE := hide he; have HQ := hide hq
        clear he hb hz hu hq
        go_enter Tryd.func55, Tryd.ntmps55
        go_wp2_with fail
        refine HC.out.mono ?_
        rintro e w1 ⟨A1, fq, rfl, h1', hv1⟩
        have HS1 := hide h1'; have HV1 := hide hv1
        have HT := hide (vis_any hv1 11 0); have HT2 := hide (vis_any hv1 12 1)
        have HSP := hide (step_any h1'.inv)
        clear h1' hv1
        go_wp2_with fail
        refine HT.out.mono ?_
        rintro e w2 ⟨rfl, h2⟩
        rw [h2, HZ.out]
        clear h2 w2
        go_wp2_with fail
        refine HT2.out.mono ?_
        rintro e w2 ⟨rfl, h2⟩
        rw [h2, HU.out]
        clear h2 w2
        go_wp2_with fail
        refine HSP.out.mono ?_
        rintro e w2 ⟨rfl, h2⟩
        rw [HB.out]
        have HS2 := hide (Stp.trans HS1.out h2)
        have HV2 := hide (HV1.out.keep (Stp.keeps HS1.out.inv h2))
        have HW2 := hide (HV.out.keep (Stp.keeps HI.out HS2.out))
        clear h2 c0 c1 c2
        obtain ⟨st, hst⟩ : ∃ st, st = (r1.2.spend 64).2 := ⟨_, rfl⟩
        rw [← hst] at HS2 HV2 HW2 HE
        clear hst
        obtain ⟨_, _, nfq, fa, fc, hfb, hfr⟩ := HV2.out
        obtain ⟨fb, rfl, hfb1, hfm, hfc, hql, hj1⟩ := hfr.at HQ.out
        obtain ⟨_, _, ngq, ga, gc, hgb, hgr⟩ := HW2.out
        obtain ⟨gb, rfl, hgb1, hgm, hgc, hgl, hj2⟩ := hgr.at HP2.out
        obtain ⟨d0, d1, d2⟩ := blk3 hfb
        obtain ⟨e0, e1, e2⟩ := blk3 hgb
        have hlf : r1.1.parts.length ≤ 100000000 := Nat.le_trans hfr.1 hfr.2.1
        have i1 : (0 : Int) < (r1.1.parts.length : Int) := by omega
        have i2 : (2 : Int) < (v.parts.length : Int) := by omega
        have HD := hide (Inv.dr HS2.out.inv)
        have N1 := hide nfq; have N2 := hide ngq; have N3 := hide hfm; have N4 := hide hgm
        have HFB := hide hfb; have HGB := hide hgb
        clear hfr hgr nfq ngq hfm hgm hfb hgb
        go_wp2_with fail
        obtain ⟨hh, hhh⟩ : ∃ hh, hh = st.push ⟨0, [], ⟨true, ⟨0, 0, []⟩, ⟨v.op, v.n, [p0, p1, p2, q]⟩⟩, none⟩ := ⟨_, rfl⟩
        rw [← hhh] at HE
        have HHH := hide hhh
        clear hhh
        refine wp_region_then (by kernel_rfl) (by kernel_rfl) 23 (by kernel_rfl) (by kernel_rfl) (fun vs => { tmps := #[pt mb, pt vq, undef, undef, vs 24, pt fq, pt vq, Value.pointer (some ⟨vq, 0, none⟩), Value.pointer (some ⟨vq, 2, none⟩), Value.slice (some ⟨vb, 0, none⟩) v.parts.length vc, Value.pointer (some ⟨vb, 3, none⟩), pt (A p3), pt fq, Value.bool false, pt fq, Value.bool false, Value.bool false, undef, undef, Value.bool false, undef, undef, undef, undef, undef, undef, undef, Value.bool true, pt fq, Value.bool true, Value.bool true, pt mb, Value.bool true, Value.bool true, vs 0, vs 1, vs 2, vs 3, vs 4, vs 5, vs 6, vs 7, vs 8, vs 9, vs 10, vs 11, vs 12, vs 13, vs 14, vs 15, vs 16, vs 17, vs 18, vs 19, vs 20, vs 21, vs 22, vs 23, undef], defers := [] }) (fun i => [undef, undef, undef, undef, undef, undef, undef, undef, undef, undef, undef, undef, undef, undef, undef, undef, undef, undef, undef, undef, undef, undef, undef, undef, Value.pointer none].getD i undef) (ReF w2 X B mb A1 st hh vq fq gb v.parts.length gc fb r1.1.parts.length fc (A1 p2) (A1 q) q) (ReF.keep w2 X B mb A1 st hh vq fq gb v.parts.length gc fb r1.1.parts.length fc (A1 p2) (A1 q) q) (ReR 23 w2 X B mb A1 st r) (ReR 24 w2 X B mb A1 st r) ?_ ?_
        · refine ⟨ThenStep.early (by decide) ?_, ThenStep.early (by decide) ?_, ThenStep.early (by decide) ?_, ThenStep.early (by decide) ?_, ThenStep.early (by decide) ?_, ThenStep.early (by decide) ?_, ThenStep.early (by decide) ?_, ThenStep.early (by decide) ?_, ThenStep.early (by decide) ?_, ThenStep.early (by decide) ?_, ThenStep.early (by decide) ?_, ThenStep.early (by decide) ?_, ThenStep.early (by decide) ?_, ThenStep.early (by decide) ?_, ThenStep.early (by decide) ?_, ThenStep.early (by decide) ?_, ThenStep.early (by decide) ?_, ThenStep.early (by decide) ?_, ThenStep.early (by decide) ?_, ThenStep.early (by decide) ?_, ThenStep.early (by decide) ?_, ThenStep.early (by decide) ?_, ThenStep.early (by decide) ?_, ThenStep.call ?_, ThenStep.late ?_, trivial⟩
          · intro vs wx K hb hd hK
            clear hb hd
            go_simp
            exact hK _ _ (Below.refl _ _) rfl
          · intro vs wx K hb hd hK
            clear hb hd
            go_simp
            exact hK _ _ (Below.refl _ _) rfl
          · intro vs wx K hb hd hK
            obtain ⟨vs, rfl⟩ := put_of (show vs 1 = _ from hd ⟨1, .data⟩ (by simp) rfl)
            clear hb hd
            go_simp
            exact hK _ _ (Below.refl _ _) rfl
          · intro vs wx K hb hd hK
            obtain ⟨vs, rfl⟩ := put_of (show vs 2 = _ from hd ⟨2, .data⟩ (by simp) rfl)
            clear hb hd
            go_simp
            exact hK _ _ (Below.refl _ _) rfl
          · intro vs wx K hb hd hK
            obtain ⟨vs, rfl⟩ := put_of (show vs 3 = _ from hd ⟨3, .data⟩ (by simp) rfl)
            have ct := (hb.cell (p := ⟨vq, 2, none⟩) (size_of_block HGB.out)).trans e2
            clear hb hd
            go_simp
            exact hK _ _ (Below.refl _ _) rfl
          · intro vs wx K hb hd hK
            obtain ⟨vs, rfl⟩ := put_of (show vs 4 = _ from hd ⟨4, .data⟩ (by simp) rfl)
            clear hb hd
            go_simp
            exact hK _ _ (Below.refl _ _) rfl
          · intro vs wx K hb hd hK
            obtain ⟨vs, rfl⟩ := put_of (show vs 5 = _ from hd ⟨5, .data⟩ (by simp) rfl)
            have ct := (hb.cell (p := ⟨gb, 2, none⟩) hgb1).trans hgc
            clear hb hd
            go_simp
            exact hK _ _ (Below.refl _ _) rfl
          · intro vs wx K hb hd hK
            clear hb hd
            go_simp
            exact hK _ _ (Below.refl _ _) rfl
          · intro vs wx K hb hd hK
            obtain ⟨vs, rfl⟩ := put_of (show vs 7 = _ from hd ⟨7, .data⟩ (by simp) rfl)
            clear hb hd
            go_simp
            exact hK _ _ (Below.refl _ _) rfl
          · intro vs wx K hb hd hK
            obtain ⟨vs, rfl⟩ := put_of (show vs 8 = _ from hd ⟨8, .data⟩ (by simp) rfl)
            clear hb hd
            go_simp
            exact hK _ _ (Below.refl _ _) rfl
          · intro vs wx K hb hd hK
            obtain ⟨vs, rfl⟩ := put_of (show vs 9 = _ from hd ⟨9, .data⟩ (by simp) rfl)
            have ct := (hb.cell (p := ⟨fq, 2, none⟩) (size_of_block HFB.out)).trans d2
            clear hb hd
            go_simp
            exact hK _ _ (Below.refl _ _) rfl
          · intro vs wx K hb hd hK
            obtain ⟨vs, rfl⟩ := put_of (show vs 10 = _ from hd ⟨10, .data⟩ (by simp) rfl)
            clear hb hd
            go_simp
            exact hK _ _ (Below.refl _ _) rfl
          · intro vs wx K hb hd hK
            obtain ⟨vs, rfl⟩ := put_of (show vs 11 = _ from hd ⟨11, .data⟩ (by simp) rfl)
            have ct := (hb.cell (p := ⟨fb, 0, none⟩) hfb1).trans hfc
            clear hb hd
            go_simp
            exact hK _ _ (Below.refl _ _) rfl
          · intro vs wx K hb hd hK
            clear hb hd
            go_simp
            exact hK _ _ (Below.refl _ _) rfl
          · intro vs wx K hb hd hK
            clear hb hd
            go_simp
            exact hK _ _ (Below.refl _ _) rfl
          · intro vs wx K hb hd hK
            clear hb hd
            go_simp
            exact hK _ _ (Below.refl _ _) rfl
          · intro vs wx K hb hd hK
            obtain ⟨vs, rfl⟩ := put_of (show vs 15 = _ from hd ⟨15, .data⟩ (by simp) rfl)
            clear hb hd
            go_simp
            exact hK _ _ (Below.refl _ _) rfl
          · intro vs wx K hb hd hK
            obtain ⟨vs, rfl⟩ := put_of (show vs 16 = _ from hd ⟨16, .data⟩ (by simp) rfl)
            clear hb hd
            go_simp
            exact hK _ _ (Below.refl _ _) rfl
          · intro vs wx K hb hd hK
            obtain ⟨vs, rfl⟩ := put_of (show vs 17 = _ from hd ⟨17, .data⟩ (by simp) rfl)
            have ct := (hb.cell (p := ⟨fq, 2, none⟩) (size_of_block HFB.out)).trans d2
            clear hb hd
            go_simp
            exact hK _ _ (Below.refl _ _) rfl
          · intro vs wx K hb hd hK
            obtain ⟨vs, rfl⟩ := put_of (show vs 18 = _ from hd ⟨18, .data⟩ (by simp) rfl)
            clear hb hd
            go_simp
            exact hK _ _ (Below.refl _ _) rfl
          · intro vs wx K hb hd hK
            obtain ⟨vs, rfl⟩ := put_of (show vs 19 = _ from hd ⟨19, .data⟩ (by simp) rfl)
            have ct := (hb.cell (p := ⟨fb, 0, none⟩) hfb1).trans hfc
            clear hb hd
            go_simp
            exact hK _ _ (Below.refl _ _) rfl
          · intro vs wx K hb hd hK
            obtain ⟨vs, rfl⟩ := put_of (show vs 13 = _ from hd ⟨13, .data⟩ (by simp) rfl)
            obtain ⟨vs, rfl⟩ := put_of (show vs 14 = _ from hd ⟨14, .data⟩ (by simp) rfl)
            obtain ⟨vs, rfl⟩ := put_of (show vs 20 = _ from hd ⟨20, .data⟩ (by simp) rfl)
            have HSX := hide (Stp.more HS2.out.inv hb)
            have HBX := hide hb
            clear hb hd
            go_simp
            refine (again_any HSX.out.inv (HW2.out.keep (Stp.keeps HS2.out.inv HSX.out)) HP0.out HP1.out HP2.out hql).mono ?_
            rintro e w3 ⟨⟨A3, rfl, hl3, hs3⟩, hb3⟩
            rw [← HHH.out] at hl3 hs3 ⊢
            exact hK _ _ hb3 ⟨A3, rfl, hl3, Stp.trans HSX.out hs3⟩
          · intro vs wx K hb hd hK
            obtain ⟨vs, rfl⟩ := put_of (show vs 12 = _ from hd ⟨12, .data⟩ (by simp) rfl)
            obtain ⟨A3, e21, hl3, hs3⟩ := hd ⟨21, .data⟩ (by simp) rfl
            obtain ⟨vs, rfl⟩ := put_of (show vs 21 = _ from e21)
            clear e21 hb hd
            have HL3 := hide hl3; have HS3 := hide hs3
            clear hl3 hs3
            go_simp
            have hq3 : A3 q = A1 q := HS3.out.same q hql
            exact hK _ _ (later_alloc _ _) ⟨A3, _, rfl, Stp.trans HS3.out (Stp.more HS3.out.inv (later_alloc _ _)), by rw [← hq3]; exact prow_two HS3.out.inv (Nat.lt_of_lt_of_le hql HS3.out.size) HL3.out⟩
          · intro vs wx K hb hF hK
            obtain ⟨vs, rfl⟩ := put_of (show vs 0 = _ from hF 0 (by decide))
            obtain ⟨vs, rfl⟩ := put_of (show vs 6 = _ from hF 6 (by decide))
            obtain ⟨A3, b3, e22, hs3, hpr⟩ := hF 22 (by decide)
            obtain ⟨vs, rfl⟩ := put_of (show vs 22 = _ from e22)
            clear e22 hb hF
            have HS3 := hide hs3; have HPR := hide hpr
            clear hs3 hpr
            go_simp
            have h23 : A3 p2 = A1 p2 := HS3.out.same p2 hgl
            have HO := hide (open_any HG.out HS3.out.inv (Nat.lt_of_lt_of_le hgl HS3.out.size) HPR.out HE.out)
            rw [h23] at HO
            refine HO.out.mono ?_
            rintro e w4 ⟨A4, uq, rfl, h4, hv4⟩
            refine hK (put (put (put (put vs 0 (pt mb)) 6 (pt (A1 p2))) 22 (.slice (some ⟨b3, 0, none⟩) 2 2)) 23 (pt uq)) _ ⟨A4, uq, rfl, Stp.trans HS3.out h4, hv4⟩
          · intro vs wx K hR hK
            obtain ⟨A4, uq, e23, h4, hv4⟩ := hR
            obtain ⟨vs, rfl⟩ := put_of (show vs 23 = _ from e23)
            clear e23
            have H4 := hide h4; have HV4 := hide hv4
            clear h4 hv4
            go_simp
            exact hK (put (put vs 23 (pt uq)) 24 (pt uq)) _ ⟨A4, uq, rfl, H4.out, HV4.out⟩
        · intro vs wx hR
          obtain ⟨A4, uq, e24, h4, hv4⟩ := hR
          obtain ⟨vs, rfl⟩ := put_of (show vs 24 = _ from e24)
          clear e24
          have H4 := hide h4; have HV4 := hide hv4
          clear h4 hv4
          simp only [put, Nat.reduceEqDiff, reduceIte]
          go_wp2_with fail
          go_ret
          exact ⟨A4, uq, rfl, Stp.trans HS2.out H4.out, HV4.out⟩
    · rw [if_neg hu] at he
      have he' := Option.some.inj he
      subst he'
      have HU : Hid (r1.1.is 12 1 = false) := hide (by simpa using hu)
      clear he hz hu
      go_enter Tryd.func55, Tryd.ntmps55
      go_wp2_with fail
      refine HC.out.mono ?_
      rintro e w1 ⟨A1, fq, rfl, h1', hv1⟩
      have HS1 := hide h1'
      have HT := hide (vis_any hv1 11 0); have HT2 := hide (vis_any hv1 12 1)
      clear h1' hv1
      go_wp2_with fail
      refine HT.out.mono ?_
      rintro e w2 ⟨rfl, h2⟩
      rw [h2, HZ.out]
      clear h2 w2
      go_wp2_with fail
      refine HT2.out.mono ?_
      rintro e w2 ⟨rfl, h2⟩
      rw [h2, HU.out]
      clear h2 w2
      go_wp2_with fail
      go_ret
      exact ⟨A1, vq, rfl, HS1.out, HV.out.keep (Stp.keeps HI.out HS1.out)⟩
#print axioms recur_any
end Go.Proofs.YtjiecahopdaghabDoor
