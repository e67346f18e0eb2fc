/- forms.Parse: the walk. -/
import Derived.Test.YthhgphokbgpaiabDoorPa
import Derived.Test.YthhgphokbgpaiabDoorRo
import Derived.Test.YthhgphokbgpaiabDoorRt3
import Derived.Test.YthhgphokbgpaiabDoorRp3
namespace Go.Proofs.YthhgphokbgpaiabDoor
open Go.RowKit

set_option maxRecDepth 20000 in
set_option maxHeartbeats 1000000 in
theorem parse_any (s : ByteArray) (L : List UInt8) (w : World) (hL : s.data.toList = L) (hm : s.size ≤ 140737488355328) (he : Errs w) : Calls Tryd.prog 7 #[.string s] w (ParOut L w) := by
  have HZ := hide (size_len s L hL)
  go_enter Tryd.func7, Tryd.ntmps7
  go_wp2_with fail
  refine (tokens_any s L _ hL hm he).mono ?_
  rintro e w1 ⟨⟨er, p, hp, rfl⟩ | ⟨ts, v, hp, rfl, htk⟩, hbl⟩
  · have HP := hide hp; have HB := hide hbl
    clear hp hbl
    by_cases her : er = 0
    · exact absurd her (tok_err0 HP.out)
    · have hq : ((er : Int) != 0) = true := by simp; omega
      go_wp2_with fail
      go_ret3
      exact ⟨Or.inl ⟨er, p, par_lex HP.out, rfl⟩, HB.out⟩
  · have HP := hide hp; have HB := hide hbl; have HTK := hide htk; have HOK := hide (tokP_ok hp)
    have hn4 := HOK.out.2
    obtain ⟨la, lc, rfl, _, _⟩ := owns_form htk
    clear hp hbl htk
    go_wp2_with fail
    refine (takes_any _).mono ?_
    rintro e w2 ⟨rfl, hb2⟩
    have hs2 : w1.heap.size + 1 ≤ w2.heap.size := by have := hb2.size; simpa using this
    have HR0 : Hid (w2.heap[w1.heap.size]? = some (.cells #[.slice none 0 0, .slice none 0 0] 39 (0, 0))) := (hb2.block _ (by simp)).trans (heap_alloc_new w1 _)
    have HW2 : Hid (Below w1.heap.size w1 w2) := ((Below.refl _ _).alloc (Nat.le_refl _) _).trans (hb2.mono (by simp))
    clear hb2
    go_wp2_with fail
    have HI : Hid (Inv ts w1.heap.size (w2.heap.size + 1) (w2.alloc (.cells #[.nilFunc, .func (.func 26) #[] #[], .func (.func 27) #[] #[], .func (.func 28) #[] #[], .func (.func 29) #[] #[]] 41)) (w2.alloc (.cells #[.nilFunc, .func (.func 26) #[] #[], .func (.func 27) #[] #[], .func (.func 28) #[] #[], .func (.func 29) #[] #[]] 41)) 0 [] []) := by
      refine ⟨⟨[], .slice none 0 0, .slice none 0 0, by omega, by rw [World.size_alloc]; omega, (Below.heap_alloc _ _ _ (by omega)).trans HR0.out, World.ownsRow_nil _ _ _ _, Rows4.snoc ⟨rfl, fun i h => by simp at h⟩ (World.ownsRow_nil _ _ _ _) (KidsAt.nil _ _ _), ⟨fun v hv g hg => ?_, by simp⟩⟩, Fr.refl _ _, rfl, by simp, by simp, by simp⟩
      simp at hv; subst hv; cases hg
    have HTB : Hid ((w2.alloc (.cells #[.nilFunc, .func (.func 26) #[] #[], .func (.func 27) #[] #[], .func (.func 28) #[] #[], .func (.func 29) #[] #[]] 41)).heap[w2.heap.size]? = some (.cells #[.nilFunc, .func (.func 26) #[] #[], .func (.func 27) #[] #[], .func (.func 28) #[] #[], .func (.func 29) #[] #[]] 41 (0, 0))) := heap_alloc_new w2 _
    have HW3 : Hid (Below w1.heap.size w1 (w2.alloc (.cells #[.nilFunc, .func (.func 26) #[] #[], .func (.func 27) #[] #[], .func (.func 28) #[] #[], .func (.func 29) #[] #[]] 41))) := HW2.out.alloc HW2.out.size _
    generalize hW3 : w2.alloc (.cells #[.nilFunc, .func (.func 26) #[] #[], .func (.func 27) #[] #[], .func (.func 28) #[] #[], .func (.func 29) #[] #[]] 41) = W3 at *
    have hs3 : W3.heap.size = w2.heap.size + 1 := by rw [← hW3, World.size_alloc]
    clear hW3
    have HS3 := hide hs3
    clear hs3
    generalize w2.heap.size = tb at *
    go_loopw [9, 10, 24] (fun _ _ i wr => ∃ (k : Nat) (up : List (List Fm)) (cur : List Fm), k ≤ ts.length ∧ i = .int .i64 k ∧ Hid (Inv ts w1.heap.size (tb + 1) W3 wr k up cur)) (fun _ _ i _ => ts.length - (intOf i).toNat)
    case atStart => exact ⟨0, [], [], by omega, rfl, HI.out⟩
    case round =>
      obtain ⟨k, up, cur, hk, rfl, HV⟩ := hrel
      obtain ⟨⟨vs0, cv, ov, hrd⟩, hfr, hrun, hcl, hul, hud⟩ := HV.out
      have hws := hfr.size
      have HFB : Hid (Below w.heap.size w wr) := HB.out.trans ((HW3.out.mono HB.out.size).trans ((hfr.below (B := w1.heap.size) (by have := HS3.out; omega) (fun q hq => by omega)).mono HB.out.size))
      by_cases hlt : k < ts.length
      · obtain ⟨g, cap, hgv, hcap, hgs, hcells⟩ := toks_cells HTK.out (by omega)
        simp only [Value.slice.injEq, true_and] at hgv
        obtain ⟨rfl, rfl⟩ := hgv
        have hsg : wr.heap[g]? = w1.heap[g]? := (hfr.block g (by have := HW3.out.size; omega) (by omega)).trans (HW3.out.block g hgs)
        have hst : wr.heap[tb]? = some _ := (hfr.block tb (by have := HS3.out; omega) (by omega)).trans HTB.out
        obtain ⟨p0, p1, p2, p3⟩ := hcells k hlt
        have e0 := (World.cell?_of_block (a := ⟨g, k * 4, none⟩) hsg).trans p0
        have e1 := (World.cell?_of_block (a := ⟨g, k * 4 + 1, none⟩) hsg).trans p1
        have e2 := (World.cell?_of_block (a := ⟨g, k * 4 + 2, none⟩) hsg).trans p2
        have e3 := (World.cell?_of_block (a := ⟨g, k * 4 + 3, none⟩) hsg).trans p3
        obtain ⟨t1, t2, t3, t4⟩ := five_cells hst
        have hgw : g < wr.heap.size := by have := HW3.out.size; omega
        have htw : tb < wr.heap.size := by have := HS3.out; omega
        have htok := HOK.out.1 ts[k] (List.getElem_mem hlt)
        have HRD := hide hrd; have HCL := hide hcl; have HUL := hide hul; have HUD := hide hud; have HTO := hide htok; have HN4 := hide HOK.out.2
        clear hcells p0 p1 p2 p3 hst hsg hrd hcl hul hud hrun hfr htok
        have i1 : (0 : Int) ≤ (k : Int) := by omega
        have i2 : (k : Int) < (ts.length : Int) := by omega
        generalize hkind : ts[k].kind = kd at *
        have HKD := hide hkind
        clear hkind
        have hkk : kd = 1 ∨ kd = 2 ∨ kd = 3 ∨ kd = 4 := by have := HTO.out.1; rw [HKD.out] at this; exact this
        rcases hkk with rfl | rfl | rfl | rfl
        · by_cases h30 : up.length = 30
          · go_wp2_with fail
            go_region_with (go_at_call 26; refine (ropen_deep w1.heap.size (tb + 1) vs0 cv ov up.reverse cur _ _ _ _ _ (HRD.out.later (later_drew _ _)) (by rw [List.length_reverse]; exact h30)).mono ?_; rintro e w5 hout; have he5 := hout.1; have c2 := tok_cell hout.2; have HB5 := hide hout.2; clear hout; subst he5)
            all_goals
              go_wp2_with fail
              go_region
              all_goals
                go_wp2_with fail
                go_ret3
                exact ⟨Or.inl ⟨5, ts[k].at', par_bad HP.out (HV.out.bad hlt (by unfold takeF; rw [HKD.out]; simp [h30])), rfl⟩, (below_tok HFB.out HB5.out).drew⟩
          · go_wp2_with fail
            go_region_with (go_at_call 26; refine (ropen_any w1.heap.size (tb + 1) vs0 cv ov up.reverse cur _ _ _ _ _ (HRD.out.later (later_drew _ _)) (by rw [List.length_reverse]; have := HUD.out; omega)).mono ?_; rintro e w5 hout; have he5 := hout.1; have HOUT := hide hout; clear hout; subst he5)
            all_goals
              go_wp2_with fail
              go_roundw
              case rel => exact ⟨k + 1, cur :: up, [], by omega, by go_num, HV.out.next hlt (by unfold takeF; rw [HKD.out]; simp [h30]) (later_drew _ _) (by rw [List.reverse_cons]; exact HOUT.out)⟩
              case measure => simp [intOf]; omega
        · cases up with
          | nil =>
            have hv0 : vs0 = [] := by have := HRD.out.rows.1; simp at this; exact this
            subst hv0
            go_wp2_with fail
            go_region_with (go_at_call 27; refine (rshut_none w1.heap.size (tb + 1) cv ov cur _ _ _ _ _ (HRD.out.later (later_drew _ _))).mono ?_; rintro e w5 hout; have he5 := hout.1; have c2 := tok_cell hout.2; have HB5 := hide hout.2; clear hout; subst he5)
            all_goals
              go_wp2_with fail
              go_region
              all_goals
                go_wp2_with fail
                go_ret3
                exact ⟨Or.inl ⟨7, ts[k].at', par_bad HP.out (HV.out.bad hlt (by unfold takeF; rw [HKD.out]; rfl)), rfl⟩, (below_tok HFB.out HB5.out).drew⟩
          | cons u up =>
            obtain ⟨vs1, uv, rfl⟩ := snoc_of (n := up.length) (show vs0.length = up.length + 1 by have := HRD.out.rows.1; simp at this; exact this)
            have HRE : Hid (Rd wr w1.heap.size (tb + 1) (vs1 ++ [uv]) cv ov (up.reverse ++ [u]) cur) := by have := HRD.out; rwa [List.reverse_cons] at this
            go_wp2_with fail
            go_region_with (go_at_call 27; refine (rshut_any w1.heap.size (tb + 1) vs1 uv cv ov up.reverse u cur _ _ _ _ _ (HRE.out.later (later_drew _ _)) (by rw [List.length_reverse]; have := HUD.out; rw [List.length_cons] at this; omega) (by have := HUL.out u (by simp); have := HN4.out; omega)).mono ?_; rintro e w5 hout; have he5 := hout.1; have HOUT := hide hout; clear hout; subst he5)
            all_goals
              go_wp2_with fail
              go_roundw
              case rel => exact ⟨k + 1, up, u ++ [⟨3, 0, [], cur⟩], by omega, by go_num, HV.out.next hlt (by unfold takeF; rw [HKD.out]; rfl) (later_drew _ _) (HOUT.out)⟩
              case measure => simp [intOf]; omega
        · go_wp2_with fail
          go_region_with (go_at_call 28; refine (rname_any w1.heap.size (tb + 1) vs0 cv ov up.reverse cur _ _ _ _ _ (HRD.out.later (later_drew _ _)) (by rw [List.length_reverse]; exact HUD.out) (by have := HCL.out; have := HN4.out; omega)).mono ?_; rintro e w5 hout; have he5 := hout.1; have HOUT := hide hout; clear hout; subst he5)
          all_goals
            go_wp2_with fail
            go_roundw
            case rel => exact ⟨k + 1, up, cur ++ [⟨1, 0, ts[k].s, []⟩], by omega, by go_num, HV.out.next hlt (by unfold takeF; rw [HKD.out]; rfl) (later_drew _ _) (⟨HOUT.out.1, HOUT.out.2.1, by obtain ⟨cv', h⟩ := HOUT.out.2.2; exact ⟨_, _, _, h⟩⟩)⟩
            case measure => simp [intOf]; omega
        · go_wp2_with fail
          go_region_with (go_at_call 29; refine (rnumber_any w1.heap.size (tb + 1) vs0 cv ov up.reverse cur _ _ _ _ _ (HRD.out.later (later_drew _ _)) (by rw [List.length_reverse]; exact HUD.out) (by have := HCL.out; have := HN4.out; omega) HTO.out.2).mono ?_; rintro e w5 hout; have he5 := hout.1; have HOUT := hide hout; clear hout; subst he5)
          all_goals
            go_wp2_with fail
            go_roundw
            case rel => exact ⟨k + 1, up, cur ++ [⟨2, ts[k].n, [], []⟩], by omega, by go_num, HV.out.next hlt (by unfold takeF; rw [HKD.out]; rfl) (later_drew _ _) (⟨HOUT.out.1, HOUT.out.2.1, by obtain ⟨cv', h⟩ := HOUT.out.2.2; exact ⟨_, _, _, h⟩⟩)⟩
            case measure => simp [intOf]; omega
      · have hend := HV.out.end' hlt
        have hE := hide hend
        clear hend
        have hvl : vs0.length = up.length := by have := hrd.rows.1; simp at this; exact this
        obtain ⟨ca, cc, rfl, _, _⟩ : ∃ a cap, cv = .slice a cur.length cap ∧ cur.length ≤ cap ∧ cap ≤ maxLen := by
          obtain ⟨_, h1, _⟩ := hrd.rows.last
          exact owns_form h1
        obtain ⟨oa, oc, rfl, _, _⟩ := owns_form hrd.own
        rw [hvl] at hrd
        obtain ⟨r0, r1⟩ := blk2 hrd.blk
        have HRD := hide hrd; have HVL := hide hvl; have HCL := hide hcl; have HN4 := hide HOK.out.2
        clear hrd hvl hfr hrun hcl hul hud
        cases up with
        | nil =>
          simp only [List.length_nil] at r1
          go_wp2_with fail
          go_ret3
          have hv0 : vs0 = [] := List.eq_nil_of_length_eq_zero (by rw [HVL.out]; rfl)
          subst hv0
          exact ⟨Or.inr ⟨cur, ca, cc, par_ok HP.out hE.out, by have := HCL.out; have := HN4.out; omega, rfl, par_rows HRD.out rfl HB.out.size⟩, HFB.out⟩
        | cons u up =>
          have hpos : (0 : Int) < ((u :: up).length : Int) := by rw [List.length_cons]; omega
          go_wp2_with fail
          go_ret3
          exact ⟨Or.inl ⟨7, L.length, par_open HP.out hE.out, by rw [← HZ.out]; rfl⟩, HFB.out⟩
#print axioms parse_any
end Go.Proofs.YthhgphokbgpaiabDoor
