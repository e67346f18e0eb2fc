/- forms.Check: the walk. -/
import Derived.Test.YthhgphokbgpaiabDoorCk
import Derived.Test.YthhgphokbgpaiabDoorFe
import Derived.Deep.LoopGhost
namespace Go.Proofs.YthhgphokbgpaiabDoor
open Go.RowKit

theorem ck_start {w : World} {f : Fm} {F : Nat} {la : Option Addr} {lc : Nat} (hv : FmAt w w.heap.size F f (.agg #[.int .i64 f.kind, .int .i64 f.n, .string ⟨⟨f.s⟩⟩, .slice la f.l.length lc])) (hs : Short f) (o1 : Obj) :
    ∃ W, ((w.alloc o1).alloc (.cells #[.int .i64 f.kind, .int .i64 f.n, .string ⟨⟨f.s⟩⟩, .slice la f.l.length lc] 25)).alloc (.cells #[.slice (some ⟨w.heap.size + 1, 0, none⟩) 1 1] 23) = W ∧ Below w.heap.size w W ∧
      CkAt W W (w.heap.size + 2) F (.slice (some ⟨w.heap.size + 1 + 1, 0, none⟩) 1 1) (chkP f) [[f]] := by
  refine ⟨_, rfl, ?_, ?_⟩
  · exact ((((Below.refl w.heap.size w).alloc (Nat.le_refl _) o1).alloc (by simp) _).alloc (by simp; omega) _)
  · generalize hW2 : (w.alloc o1).alloc (.cells #[.int .i64 f.kind, .int .i64 f.n, .string ⟨⟨f.s⟩⟩, .slice la f.l.length lc] 25) = W2
    have hs2 : W2.heap.size = w.heap.size + 2 := by rw [← hW2, World.size_alloc, World.size_alloc]
    have hb2 : Below w.heap.size w W2 := by rw [← hW2]; exact (((Below.refl w.heap.size w).alloc (Nat.le_refl _) o1).alloc (by simp) _)
    have hn2 : W2.heap[w.heap.size + 1]? = some (.cells #[.int .i64 f.kind, .int .i64 f.n, .string ⟨⟨f.s⟩⟩, .slice la f.l.length lc] 25 (0, 0)) := by
      rw [← hW2]
      have := heap_alloc_new (w.alloc o1) (.cells #[.int .i64 f.kind, .int .i64 f.n, .string ⟨⟨f.s⟩⟩, .slice la f.l.length lc] 25)
      rwa [World.size_alloc] at this
    have hb3 : Below (w.heap.size + 2) W2 (W2.alloc (.cells #[.slice (some ⟨w.heap.size + 1, 0, none⟩) 1 1] 23)) := (Below.refl _ _).alloc (by omega) _
    have hn3 : (W2.alloc (.cells #[.slice (some ⟨w.heap.size + 1, 0, none⟩) 1 1] 23)).heap[w.heap.size + 1]? = some (.cells #[.int .i64 f.kind, .int .i64 f.n, .string ⟨⟨f.s⟩⟩, .slice la f.l.length lc] 25 (0, 0)) := (hb3.block _ (by omega)).trans hn2
    refine ⟨⟨[.slice (some ⟨w.heap.size + 1, 0, none⟩) 1 1], ?_, ⟨rfl, fun i h1 h2 => ?_⟩⟩, Below.refl _ _, by rw [World.size_alloc]; omega, chkS_one f, by simp, ?_⟩
    · have := World.ownsRow_lit (base := w.heap.size + 2) (e := 23) (size := 1) W2 #[.slice (some ⟨w.heap.size + 1, 0, none⟩) 1 1] 1 (by omega) (by unfold maxLen; omega) rfl
      rw [hs2] at this
      exact this
    · have hi : i = 0 := by simp at h1; omega
      subst hi
      refine ⟨some ⟨w.heap.size + 1, 0, none⟩, 1, rfl, Nat.le_refl _, by unfold maxLen; omega, fun _ => ⟨w.heap.size + 1, 0, rfl, by omega, fun j hj => ?_⟩⟩
      have hj0 : j = 0 := by simp at hj; omega
      subst hj0
      obtain ⟨d0, d1, d2, d3⟩ := blk4 hn3
      refine ⟨_, _, _, _, d0, d1, d2, d3, ?_⟩
      exact FmAt.below (FmAt.below hv hb2 (Nat.le_refl _) (show w.heap.size ≤ w.heap.size + 2 by omega)) hb3 (Nat.le_refl _) (Nat.le_refl _)
    · intro r hr t ht
      simp at hr; subst hr
      simp at ht; subst ht
      exact hs

theorem fault_at (f : Fm) (d : Nat) (dd : Int) (hd : dd = d) (la : Option Addr) (lc : Nat) (w : World) (hm : f.s.length ≤ 140737488355328) (he : Errs w) :
    Calls Tryd.prog 9 #[.agg #[.int .i64 f.kind, .int .i64 f.n, .string ⟨⟨f.s⟩⟩, .slice la f.l.length lc], .int .i64 dd] w fun e w' => e = .returned (.int .i64 (faultP f d : Nat)) ∧ Below w.heap.size w w' := by
  subst hd; exact fault_any f d la lc w hm he

set_option maxRecDepth 20000 in
set_option maxHeartbeats 1000000 in
theorem check_any (f : Fm) (F : Nat) (la : Option Addr) (lc : Nat) (w : World) (hv : FmAt w w.heap.size F f (.agg #[.int .i64 f.kind, .int .i64 f.n, .string ⟨⟨f.s⟩⟩, .slice la f.l.length lc])) (hs : Short f) (he : Errs w) :
    Calls Tryd.prog 6 #[.agg #[.int .i64 f.kind, .int .i64 f.n, .string ⟨⟨f.s⟩⟩, .slice la f.l.length lc]] w fun e w' => e = .returned (.int .i64 (chkP f : Nat)) ∧ Below w.heap.size w w' := by
  have HV := hide hv; have HS := hide hs; have HE := hide he
  clear hv hs he
  go_enter Tryd.func6, Tryd.ntmps6
  go_wp2_with fail
  go_step3
  go_wp2_with fail
  go_step3
  go_wp2_with fail
  obtain ⟨W, hW, hWb, hck⟩ := ck_start HV.out HS.out (.cells #[.int .i64 f.kind, .int .i64 f.n, .string ⟨⟨f.s⟩⟩, .slice la f.l.length lc] 25)
  rw [hW]
  have HWB := hide hWb; have HCK := hide hck
  clear hW hWb hck
  have hBw : w.heap.size ≤ w.heap.size + 2 := by omega
  generalize w.heap.size + 2 = B at *
  go_loopg [3] (left [[f]]) (fun gk rv wr => ∃ up, left up ≤ gk ∧ Hid (CkAt W wr B F rv (chkP f) up))
  case atStart => exact ⟨[[f]], Nat.le_refl _, HCK.out⟩
  case round =>
    obtain ⟨up, hleft, HC⟩ := hrel
    have HWR : Hid (Below w.heap.size w wr) := HWB.out.trans (HC.out.2.1.mono hBw)
    have hBr : B ≤ wr.heap.size := HC.out.2.2.1
    cases up with
    | nil =>
      obtain ⟨vs, h1, _⟩ := HC.out.1
      obtain ⟨oa, oc, rfl, _, _⟩ := owns_form h1
      clear h1
      go_wp2_with fail
      rw [Exit.noGoto_ret]
      go_ret
      have h0 : chkP f = 0 := HC.out.2.2.2.1.symm
      exact ⟨by rw [h0]; rfl, HWR.out⟩
    | cons r up =>
      obtain ⟨wo, hwo⟩ : ∃ x, x = wr := ⟨wr, rfl⟩
      subst hwo
      obtain ⟨og, oc, vs0, ra, rc, rfl, hoc, hog, hogs, hvs, hown, hcell, hrc, hrm, hrv⟩ := HC.out.see
      have hm30 : up.length ≤ 30 := by have := HC.out.2.2.2.2.1; rw [List.length_cons] at this; omega
      have HVS := hide hvs; have HOWN := hide hown; have HRV := hide hrv; have HUP := hide hm30; have HLF := hide hleft
      clear hvs hown hrv hleft
      unfold maxLen at hrm
      generalize hml : up.length = m at *
      have HML := hide hml
      clear hml
      have hw : IntKind.i64.wrap ((m : Int) + 1 - 1) = (m : Int) := by rw [IntKind.wrap_i64]; omega
      have im : (m : Int) < (m : Int) + 1 := by omega
      have im0 : (0 : Int) ≤ (m : Int) := by omega
      go_wp2_with fail
      go_loopw [3, 22] (fun rv i wx => ∃ k : Nat, rv = .slice (some ⟨og, 0, none⟩) (m + 1) oc ∧ k ≤ r.length ∧ i = .int .i64 k ∧ Hid (chkS (r.drop k :: up) = chkP f) ∧ Hid (Below wo.heap.size wo wx)) (fun _ i _ => r.length - (intOf i).toNat)
      case atStart => exact ⟨0, rfl, by omega, rfl, HC.out.2.2.2.1, Below.refl _ _⟩
      case round =>
        obtain ⟨k, rfl, hk, rfl, HE1, HBX⟩ := hrel
        by_cases hlt : k < r.length
        · obtain ⟨_, _, he, hrow⟩ := HRV.out.last
          simp only [Value.slice.injEq, true_and] at he
          obtain ⟨rfl, rfl⟩ := he
          have HROW := hide hrow
          obtain ⟨b, off, tla, tlc, rfl, hbB, f0, f1, f2, f3, hft⟩ := hrow.form hlt
          clear hrow
          have hbo : b < wo.heap.size := by omega
          have e0 := (HBX.out.cell (p := ⟨b, off + k * 4, none⟩) hbo).trans f0
          have e1 := (HBX.out.cell (p := ⟨b, off + k * 4 + 1, none⟩) hbo).trans f1
          have e2 := (HBX.out.cell (p := ⟨b, off + k * 4 + 2, none⟩) hbo).trans f2
          have e3 := (HBX.out.cell (p := ⟨b, off + k * 4 + 3, none⟩) hbo).trans f3
          have HDR : Hid (r.drop k = r[k] :: r.drop (k + 1)) := List.drop_eq_getElem_cons hlt
          have hsh : Short r[k] := HC.out.2.2.2.2.2 r (by simp) _ (List.getElem_mem hlt)
          have hsx := HBX.out.size
          have HFT := hide hft; have HSH := hide hsh
          clear f0 f1 f2 f3 hft hsh
          have HTK : Hid (∃ t, t = r[k]) := ⟨_, rfl⟩
          obtain ⟨t, ht⟩ := HTK.out
          rw [← ht] at e0 e1 e2 e3 HFT HSH HDR
          have HT := hide ht.symm
          clear ht HTK
          have i1 : (0 : Int) ≤ (k : Int) := by omega
          have i2 : (k : Int) < (r.length : Int) := by omega
          have HEX : Hid (Errs wr) := HE.out.keep (HWR.out.trans (HBX.out.mono HWR.out.size))
          have hmm : ((m : Int) + 1) = ((m + 1 : Nat) : Int) := by omega
          have HMM := hide hmm
          clear hmm
          go_wp2_with fail
          refine (fault_at t (m + 1) _ HMM.out tla tlc _ HSH.out.self (HEX.out.keep ((Below.refl _ _).alloc (Nat.le_refl _) _))).mono ?_
          rintro e w5 ⟨rfl, hb5⟩
          obtain ⟨c0, c1, c2, c3⟩ := four_old hb5
          have HB5 : Hid (Below wr.heap.size wr w5) := below_new hb5
          clear hb5
          generalize hq : faultP t (m + 1) = q
          have HQ := hide hq
          clear hq
          by_cases hq0 : q = 0
          · subst hq0
            by_cases hk3 : t.kind = 3
            · have hk3' : (t.kind == 3) = true := by simpa using hk3
              have HK3 := hide hk3
              clear hk3
              have hs5 := HB5.out.size
              have HB6 : Hid (Below wo.heap.size wo w5) := HBX.out.trans (HB5.out.mono hsx)
              have g2 : w5.cell? ⟨og, m, none⟩ = some (.slice (some ⟨b, off, none⟩) r.length rc) := (HB6.out.cell (p := ⟨og, m, none⟩) hogs).trans hcell
              have g3 : w5.frozen? ⟨og, m, none⟩ = false := (World.frozen?_of_block (a := ⟨og, m, none⟩) (HB6.out.block og hogs)).trans (HOWN.out.frozenAt m)
              have i3 : IntKind.i64.wrap ((k : Int) + 1) = (k : Int) + 1 := by rw [IntKind.wrap_i64]; omega
              have i4 : (k : Int) + 1 ≤ (r.length : Int) := by omega
              have i5 : (0 : Int) ≤ (k : Int) + 1 := by omega
              have HO5 : Hid (w5.ownsRow B 23 1 (.slice (some ⟨og, 0, none⟩) (m + 1) oc) (m + 1) (vs0 ++ [.slice (some ⟨b, off, none⟩) r.length rc])) := owns_same HOWN.out (fun g hg => HB6.out.block g (HOWN.out.lt g hg).2)
              obtain ⟨i, hi, hz0, hz1, hz2⟩ := info_parts Tryd.info23
              by_cases hcap : rc = k + 1
              · subst hcap
                have HOB : Hid (((w5.setCell ⟨og, m, none⟩ (.slice (some ⟨b, off, none⟩) 0 0)).alloc (.cells #[.slice tla t.l.length tlc] 23)).ownsRow B 23 1 (.slice (some ⟨og, 0, none⟩) (m + 1) oc) (m + 1) (vs0 ++ [.slice (some ⟨b, off, none⟩) 0 0])) := set_last HO5.out HVS.out _
                have HNB : Hid (∀ q u, ([.slice tla t.l.length tlc] : List Value)[q]? = some u → ((w5.setCell ⟨og, m, none⟩ (.slice (some ⟨b, off, none⟩) 0 0)).alloc (.cells #[.slice tla t.l.length tlc] 23)).cell? ((⟨w5.heap.size, 0, none⟩ : Addr).add q) = some u) := by
                  have := World.news_of_block (heap_alloc_new (w5.setCell ⟨og, m, none⟩ (.slice (some ⟨b, off, none⟩) 0 0)) (.cells #[.slice tla t.l.length tlc] 23))
                  rwa [size_setCell] at this
                go_wp2_with (at_builtin
                             refine wpList_append_lies _ rfl (.tmp 47) (.tmp 50) 33 rfl B 23 i (.slice none 0 0) 1 24 Tryd.underlying33 hi hz0 hz1 hz2 rfl (by decide) (.slice (some ⟨og, 0, none⟩) (m + 1) oc) (m + 1) (vs0 ++ [.slice (some ⟨b, off, none⟩) 0 0]) rfl HOB.out ⟨w5.heap.size, 0, none⟩ 1 1 [.slice tla t.l.length tlc] rfl rfl HNB.out (fun u hu => by simp at hu; subst hu; rfl) (by omega) (by unfold maxLen; omega) (by omega) (by rw [World.size_alloc, size_setCell]; omega) (w5.heap.size + 1) (by rw [World.size_alloc, size_setCell]) ?_
                             intro g6 cap6 w6 hown6 hgrow6 hat6 hlt6
                             have HO6 := hide hown6; have HG6 := hide hgrow6
                             clear hown6 hgrow6 hat6 hlt6)
                go_roundg (left (t.l :: r.drop (k + 1) :: up))
                case measure =>
                  have h1 := left_push t (r.drop (k + 1)) up
                  have h2 := left_drop r k up
                  have h3 := HLF.out
                  rw [HDR.out] at h2
                  omega
                case rel =>
                  have hml := HML.out
                  subst hml
                  refine ⟨_, Nat.le_refl _, CkAt.push (rc := k + 1) (by omega) (by omega) HC.out hlt HT.out (by have := faultP_deep HQ.out HK3.out; omega) ?_ HVS.out HRV.out HB6.out (fun b' off' he hne => ?_) (FmD.kids HFT.out) HG6.out HO6.out⟩
                  · have h1 := HE1.out
                    rwa [HDR.out, chkS_list HUP.out HQ.out HK3.out] at h1
                  · simp only [Option.some.injEq, Addr.mk.injEq, and_true] at he
                    obtain ⟨rfl, rfl⟩ := he
                    exact absurd (List.drop_eq_nil_of_le (by omega)) hne
              · have HOB : Hid (((w5.setCell ⟨og, m, none⟩ (.slice (some ⟨b, off + (k + 1) * 4, none⟩) (r.length - (k + 1)) (rc - (k + 1)))).alloc (.cells #[.slice tla t.l.length tlc] 23)).ownsRow B 23 1 (.slice (some ⟨og, 0, none⟩) (m + 1) oc) (m + 1) (vs0 ++ [.slice (some ⟨b, off + (k + 1) * 4, none⟩) (r.length - (k + 1)) (rc - (k + 1))])) := set_last HO5.out HVS.out _
                have HNB : Hid (∀ q u, ([.slice tla t.l.length tlc] : List Value)[q]? = some u → ((w5.setCell ⟨og, m, none⟩ (.slice (some ⟨b, off + (k + 1) * 4, none⟩) (r.length - (k + 1)) (rc - (k + 1)))).alloc (.cells #[.slice tla t.l.length tlc] 23)).cell? ((⟨w5.heap.size, 0, none⟩ : Addr).add q) = some u) := by
                  have := World.news_of_block (heap_alloc_new (w5.setCell ⟨og, m, none⟩ (.slice (some ⟨b, off + (k + 1) * 4, none⟩) (r.length - (k + 1)) (rc - (k + 1)))) (.cells #[.slice tla t.l.length tlc] 23))
                  rwa [size_setCell] at this
                go_wp2_with (at_builtin
                             refine wpList_append_lies _ rfl (.tmp 47) (.tmp 50) 33 rfl B 23 i (.slice none 0 0) 1 24 Tryd.underlying33 hi hz0 hz1 hz2 rfl (by decide) (.slice (some ⟨og, 0, none⟩) (m + 1) oc) (m + 1) (vs0 ++ [.slice (some ⟨b, off + (k + 1) * 4, none⟩) (r.length - (k + 1)) (rc - (k + 1))]) rfl HOB.out ⟨w5.heap.size, 0, none⟩ 1 1 [.slice tla t.l.length tlc] rfl rfl HNB.out (fun u hu => by simp at hu; subst hu; rfl) (by omega) (by unfold maxLen; omega) (by omega) (by rw [World.size_alloc, size_setCell]; omega) (w5.heap.size + 1) (by rw [World.size_alloc, size_setCell]) ?_
                             intro g6 cap6 w6 hown6 hgrow6 hat6 hlt6
                             have HO6 := hide hown6; have HG6 := hide hgrow6
                             clear hown6 hgrow6 hat6 hlt6)
                go_roundg (left (t.l :: r.drop (k + 1) :: up))
                case measure =>
                  have h1 := left_push t (r.drop (k + 1)) up
                  have h2 := left_drop r k up
                  have h3 := HLF.out
                  rw [HDR.out] at h2
                  omega
                case rel =>
                  have hml := HML.out
                  subst hml
                  refine ⟨_, Nat.le_refl _, CkAt.push (rc := rc) rfl (rfl) HC.out hlt HT.out (by have := faultP_deep HQ.out HK3.out; omega) ?_ HVS.out HRV.out HB6.out (fun b' off' he hne => ?_) (FmD.kids HFT.out) HG6.out HO6.out⟩
                  · have h1 := HE1.out
                    rwa [HDR.out, chkS_list HUP.out HQ.out HK3.out] at h1
                  · simp only [Option.some.injEq, Addr.mk.injEq, and_true] at he
                    obtain ⟨rfl, rfl⟩ := he
                    rfl
            · have hk3' : (t.kind == 3) = false := by simpa using hk3
              have HK3 := hide hk3
              clear hk3
              go_wp2_with fail
              go_roundw
              case rel =>
                refine ⟨k + 1, rfl, by omega, by go_num, ?_, HBX.out.trans (HB5.out.mono hsx)⟩
                have h1 := HE1.out
                rw [HDR.out, chkS_leaf (by rw [HML.out]; exact HUP.out) (by rw [HML.out]; exact HQ.out) HK3.out] at h1
                exact h1
              case measure => simp [intOf]; omega
          · have hqq : ((q : Int) != 0) = true := by simp; omega
            go_wp2_with fail
            rw [Exit.noGoto_ret]
            go_ret
            have h1 := HE1.out
            rw [HDR.out, chkS_fault (by rw [HML.out]; exact HUP.out) (by rw [HML.out, HQ.out]; exact hq0), HML.out, HQ.out] at h1
            exact ⟨by rw [← h1]; rfl, HWR.out.trans ((HBX.out.trans (HB5.out.mono hsx)).mono HWR.out.size)⟩
        · have hoc' : (m : Int) ≤ (oc : Int) := by omega
          go_wp2_with fail
          go_roundg (left up)
          case measure => exact Nat.lt_of_lt_of_le (left_pop r up) HLF.out
          case rel =>
            have hml := HML.out
            subst hml
            refine ⟨up, Nat.le_refl _, (HC.out.later HBX.out).pop ?_⟩
            have h1 := HE1.out
            rwa [List.drop_eq_nil_of_le (by omega), chkS_nil] at h1
#print axioms check_any
end Go.Proofs.YthhgphokbgpaiabDoor
