/- FormsBounds: the walk. -/
import Derived.Test.YthhgphokbgpaiabDoorBo
import Derived.Laws.BytesArg
namespace Go.Proofs.YthhgphokbgpaiabDoor
open Go.RowKit

theorem wrap_check {b : Fm} {w wr : World} {fb k lc : Nat} {la : Option Addr} (hf : FmD wr (fun q => fb < q ∧ q < wr.heap.size) (k + 1) (wrapF b k) (.agg #[.int .i64 (wrapF b k).kind, .int .i64 (wrapF b k).n, .string ⟨⟨(wrapF b k).s⟩⟩, .slice la (wrapF b k).l.length lc])) (hs : Short (wrapF b k)) (he : Errs w) (hw : Below w.heap.size w wr) :
    Calls Tryd.prog 6 #[.agg #[.int .i64 (wrapF b k).kind, .int .i64 (wrapF b k).n, .string ⟨⟨(wrapF b k).s⟩⟩, .slice la (wrapF b k).l.length lc]] wr fun e w'' => e = .returned (.int .i64 (chkP (wrapF b k) : Nat)) ∧ Below wr.heap.size wr w'' :=
  check_any (wrapF b k) (k + 1) la lc wr (hf.keep (fun _ _ => rfl) (fun _ hq => hq.2) _ _ _) hs (he.keep hw)

set_option maxRecDepth 20000 in
set_option maxHeartbeats 4000000 in
theorem bounds_any (n : Int) (ab : Bool) (dp : Int) (w : World) (he : Errs w) (ht : Tabs w.heap.size w) : Calls Tryd.prog 3 #[.int .i64 n, .bool ab, .int .i64 dp] w fun e w' => e = .returned (.bool true) ∧ Below w.heap.size w w' := by
  have HE := hide he; have HT := hide ht
  clear he ht
  go_enter Tryd.func3, Tryd.ntmps3
  go_wp2_with fail
  refine (known_any w HE.out HT.out).mono ?_
  rintro e w1 ⟨rfl, hb1⟩
  have HB1 := hide hb1
  clear hb1
  go_wp2_with fail
  refine (within_n n 6 _ (by decide) (by decide)).mono ?_
  rintro e w2 ⟨rfl, rfl⟩
  have hwi := wi_n n 6 (by decide)
  generalize hx : wi n 6 = x at *
  clear hx
  have hdw := wi_n dp 20 (by decide)
  obtain ⟨D, hD⟩ : ∃ D : Nat, wi dp 20 = (D : Int) := ⟨(wi dp 20).toNat, by omega⟩
  have hD20 : D < 20 := by omega
  have HD := hide hD
  clear hdw hD
  rcases (show x = 0 ∨ x = 1 ∨ x = 2 ∨ x = 3 ∨ x = 4 ∨ x = 5 by omega) with rfl | rfl | rfl | rfl | rfl | rfl
  all_goals clear hwi
  · cases ab with
    | false =>
      go_wp2_with fail
      go_loopw [8] (fun i wr => ∃ k : Nat, k ≤ D ∧ i = .int .i64 k ∧ Hid (WrapAt (baseF 0 false) w w1.heap.size wr k)) (fun i _ => D - (intOf i).toNat)
      case atStart => exact ⟨0, by omega, rfl, WrapAt.start (b := baseF 0 false) (by unfold I64; simp only [baseF]; omega) (by unfold I64; simp only [baseF]; omega) rfl HB1.out⟩
      case round =>
        obtain ⟨k, hk, rfl, HN⟩ := hrel
        obtain ⟨la, lc, hblk, hfm, hbl, hwf⟩ := HN.out
        obtain ⟨d0, d1, d2, d3⟩ := blk4 hblk
        have z0 := frozen_of_block hblk 0; have z1 := frozen_of_block hblk 1; have z2 := frozen_of_block hblk 2; have z3 := frozen_of_block hblk 3
        have hfb := size_of_block hblk
        have HBLK := hide hblk; have HFM := hide hfm; have HBL := hide hbl; have HWF := hide hwf
        clear hblk hfm hbl hwf
        have hshort := wrap_short 0 false k
        have hcp := wrap_chkP 0 k false (by decide) (by omega)
        have HSH := hide hshort; have HCP := hide hcp
        clear hshort hcp
        generalize hbase : baseF 0 false = bs at *
        go_wp2_with fail
        refine (within_n dp 20 _ (by decide) (by decide)).mono ?_
        rintro e w3 ⟨rfl, rfl⟩
        rw [HD.out]
        by_cases hlt : k < D
        · have hli : (k : Int) < (D : Int) := by omega
          go_wp2_with fail
          go_roundw
          case rel =>
            refine ⟨k + 1, by omega, by go_num, ?_⟩
            with_reducible exact hide (WrapAt.step HBLK.out HFM.out HBL.out HWF.out)
          case measure => simp [intOf]; omega
        · have hli : ¬ (k : Int) < (D : Int) := by omega
          go_wp2_with fail
          refine (wrap_check HFM.out HSH.out HE.out HBL.out).mono ?_
          rintro e w6 ⟨rfl, hb6⟩
          rw [HCP.out, show errB false = 0 from rfl]
          have HB6 := hide hb6
          clear hb6
          go_wp2_with fail
          go_ret
          exact ⟨rfl, HBL.out.trans (HB6.out.mono HBL.out.size)⟩
    | true =>
      go_wp2_with fail
      go_loopw [8] (fun i wr => ∃ k : Nat, k ≤ D ∧ i = .int .i64 k ∧ Hid (WrapAt (baseF 0 true) w w1.heap.size wr k)) (fun i _ => D - (intOf i).toNat)
      case atStart => exact ⟨0, by omega, rfl, WrapAt.start (b := baseF 0 true) (by unfold I64; simp only [baseF]; omega) (by unfold I64; simp only [baseF]; omega) rfl HB1.out⟩
      case round =>
        obtain ⟨k, hk, rfl, HN⟩ := hrel
        obtain ⟨la, lc, hblk, hfm, hbl, hwf⟩ := HN.out
        obtain ⟨d0, d1, d2, d3⟩ := blk4 hblk
        have z0 := frozen_of_block hblk 0; have z1 := frozen_of_block hblk 1; have z2 := frozen_of_block hblk 2; have z3 := frozen_of_block hblk 3
        have hfb := size_of_block hblk
        have HBLK := hide hblk; have HFM := hide hfm; have HBL := hide hbl; have HWF := hide hwf
        clear hblk hfm hbl hwf
        have hshort := wrap_short 0 true k
        have hcp := wrap_chkP 0 k true (by decide) (by omega)
        have HSH := hide hshort; have HCP := hide hcp
        clear hshort hcp
        generalize hbase : baseF 0 true = bs at *
        go_wp2_with fail
        refine (within_n dp 20 _ (by decide) (by decide)).mono ?_
        rintro e w3 ⟨rfl, rfl⟩
        rw [HD.out]
        by_cases hlt : k < D
        · have hli : (k : Int) < (D : Int) := by omega
          go_wp2_with fail
          go_roundw
          case rel =>
            refine ⟨k + 1, by omega, by go_num, ?_⟩
            with_reducible exact hide (WrapAt.step HBLK.out HFM.out HBL.out HWF.out)
          case measure => simp [intOf]; omega
        · have hli : ¬ (k : Int) < (D : Int) := by omega
          go_wp2_with fail
          refine (wrap_check HFM.out HSH.out HE.out HBL.out).mono ?_
          rintro e w6 ⟨rfl, hb6⟩
          rw [HCP.out, show errB true = 7 from rfl]
          have HB6 := hide hb6
          clear hb6
          go_wp2_with fail
          go_ret
          exact ⟨rfl, HBL.out.trans (HB6.out.mono HBL.out.size)⟩
  · cases ab with
    | false =>
      go_wp2_with fail
      go_loopw [8] (fun i wr => ∃ k : Nat, k ≤ D ∧ i = .int .i64 k ∧ Hid (WrapAt (baseF 1 false) w w1.heap.size wr k)) (fun i _ => D - (intOf i).toNat)
      case atStart => exact ⟨0, by omega, rfl, WrapAt.start (b := baseF 1 false) (by unfold I64; simp only [baseF]; omega) (by unfold I64; simp only [baseF]; omega) rfl HB1.out⟩
      case round =>
        obtain ⟨k, hk, rfl, HN⟩ := hrel
        obtain ⟨la, lc, hblk, hfm, hbl, hwf⟩ := HN.out
        obtain ⟨d0, d1, d2, d3⟩ := blk4 hblk
        have z0 := frozen_of_block hblk 0; have z1 := frozen_of_block hblk 1; have z2 := frozen_of_block hblk 2; have z3 := frozen_of_block hblk 3
        have hfb := size_of_block hblk
        have HBLK := hide hblk; have HFM := hide hfm; have HBL := hide hbl; have HWF := hide hwf
        clear hblk hfm hbl hwf
        have hshort := wrap_short 1 false k
        have hcp := wrap_chkP 1 k false (by decide) (by omega)
        have HSH := hide hshort; have HCP := hide hcp
        clear hshort hcp
        generalize hbase : baseF 1 false = bs at *
        go_wp2_with fail
        refine (within_n dp 20 _ (by decide) (by decide)).mono ?_
        rintro e w3 ⟨rfl, rfl⟩
        rw [HD.out]
        by_cases hlt : k < D
        · have hli : (k : Int) < (D : Int) := by omega
          go_wp2_with fail
          go_roundw
          case rel =>
            refine ⟨k + 1, by omega, by go_num, ?_⟩
            with_reducible exact hide (WrapAt.step HBLK.out HFM.out HBL.out HWF.out)
          case measure => simp [intOf]; omega
        · have hli : ¬ (k : Int) < (D : Int) := by omega
          go_wp2_with fail
          refine (wrap_check HFM.out HSH.out HE.out HBL.out).mono ?_
          rintro e w6 ⟨rfl, hb6⟩
          rw [HCP.out, show errB false = 0 from rfl]
          have HB6 := hide hb6
          clear hb6
          go_wp2_with fail
          go_ret
          exact ⟨rfl, HBL.out.trans (HB6.out.mono HBL.out.size)⟩
    | true =>
      go_wp2_with fail
      go_loopw [8] (fun i wr => ∃ k : Nat, k ≤ D ∧ i = .int .i64 k ∧ Hid (WrapAt (baseF 1 true) w w1.heap.size wr k)) (fun i _ => D - (intOf i).toNat)
      case atStart => exact ⟨0, by omega, rfl, WrapAt.start (b := baseF 1 true) (by unfold I64; simp only [baseF]; omega) (by unfold I64; simp only [baseF]; omega) rfl HB1.out⟩
      case round =>
        obtain ⟨k, hk, rfl, HN⟩ := hrel
        obtain ⟨la, lc, hblk, hfm, hbl, hwf⟩ := HN.out
        obtain ⟨d0, d1, d2, d3⟩ := blk4 hblk
        have z0 := frozen_of_block hblk 0; have z1 := frozen_of_block hblk 1; have z2 := frozen_of_block hblk 2; have z3 := frozen_of_block hblk 3
        have hfb := size_of_block hblk
        have HBLK := hide hblk; have HFM := hide hfm; have HBL := hide hbl; have HWF := hide hwf
        clear hblk hfm hbl hwf
        have hshort := wrap_short 1 true k
        have hcp := wrap_chkP 1 k true (by decide) (by omega)
        have HSH := hide hshort; have HCP := hide hcp
        clear hshort hcp
        generalize hbase : baseF 1 true = bs at *
        go_wp2_with fail
        refine (within_n dp 20 _ (by decide) (by decide)).mono ?_
        rintro e w3 ⟨rfl, rfl⟩
        rw [HD.out]
        by_cases hlt : k < D
        · have hli : (k : Int) < (D : Int) := by omega
          go_wp2_with fail
          go_roundw
          case rel =>
            refine ⟨k + 1, by omega, by go_num, ?_⟩
            with_reducible exact hide (WrapAt.step HBLK.out HFM.out HBL.out HWF.out)
          case measure => simp [intOf]; omega
        · have hli : ¬ (k : Int) < (D : Int) := by omega
          go_wp2_with fail
          refine (wrap_check HFM.out HSH.out HE.out HBL.out).mono ?_
          rintro e w6 ⟨rfl, hb6⟩
          rw [HCP.out, show errB true = 7 from rfl]
          have HB6 := hide hb6
          clear hb6
          go_wp2_with fail
          go_ret
          exact ⟨rfl, HBL.out.trans (HB6.out.mono HBL.out.size)⟩
  · cases ab with
    | false =>
      go_wp2_with fail
      go_loopw [8] (fun i wr => ∃ k : Nat, k ≤ D ∧ i = .int .i64 k ∧ Hid (WrapAt (baseF 2 false) w w1.heap.size wr k)) (fun i _ => D - (intOf i).toNat)
      case atStart => exact ⟨0, by omega, rfl, WrapAt.start (b := baseF 2 false) (by unfold I64; simp only [baseF]; omega) (by unfold I64; simp only [baseF]; omega) rfl HB1.out⟩
      case round =>
        obtain ⟨k, hk, rfl, HN⟩ := hrel
        obtain ⟨la, lc, hblk, hfm, hbl, hwf⟩ := HN.out
        obtain ⟨d0, d1, d2, d3⟩ := blk4 hblk
        have z0 := frozen_of_block hblk 0; have z1 := frozen_of_block hblk 1; have z2 := frozen_of_block hblk 2; have z3 := frozen_of_block hblk 3
        have hfb := size_of_block hblk
        have HBLK := hide hblk; have HFM := hide hfm; have HBL := hide hbl; have HWF := hide hwf
        clear hblk hfm hbl hwf
        have hshort := wrap_short 2 false k
        have hcp := wrap_chkP 2 k false (by decide) (by omega)
        have HSH := hide hshort; have HCP := hide hcp
        clear hshort hcp
        generalize hbase : baseF 2 false = bs at *
        go_wp2_with fail
        refine (within_n dp 20 _ (by decide) (by decide)).mono ?_
        rintro e w3 ⟨rfl, rfl⟩
        rw [HD.out]
        by_cases hlt : k < D
        · have hli : (k : Int) < (D : Int) := by omega
          go_wp2_with fail
          go_roundw
          case rel =>
            refine ⟨k + 1, by omega, by go_num, ?_⟩
            with_reducible exact hide (WrapAt.step HBLK.out HFM.out HBL.out HWF.out)
          case measure => simp [intOf]; omega
        · have hli : ¬ (k : Int) < (D : Int) := by omega
          go_wp2_with fail
          refine (wrap_check HFM.out HSH.out HE.out HBL.out).mono ?_
          rintro e w6 ⟨rfl, hb6⟩
          rw [HCP.out, show errB false = 0 from rfl]
          have HB6 := hide hb6
          clear hb6
          go_wp2_with fail
          go_ret
          exact ⟨rfl, HBL.out.trans (HB6.out.mono HBL.out.size)⟩
    | true =>
      go_wp2_with fail
      go_loopw [8] (fun i wr => ∃ k : Nat, k ≤ D ∧ i = .int .i64 k ∧ Hid (WrapAt (baseF 2 true) w w1.heap.size wr k)) (fun i _ => D - (intOf i).toNat)
      case atStart => exact ⟨0, by omega, rfl, WrapAt.start (b := baseF 2 true) (by unfold I64; simp only [baseF]; omega) (by unfold I64; simp only [baseF]; omega) rfl HB1.out⟩
      case round =>
        obtain ⟨k, hk, rfl, HN⟩ := hrel
        obtain ⟨la, lc, hblk, hfm, hbl, hwf⟩ := HN.out
        obtain ⟨d0, d1, d2, d3⟩ := blk4 hblk
        have z0 := frozen_of_block hblk 0; have z1 := frozen_of_block hblk 1; have z2 := frozen_of_block hblk 2; have z3 := frozen_of_block hblk 3
        have hfb := size_of_block hblk
        have HBLK := hide hblk; have HFM := hide hfm; have HBL := hide hbl; have HWF := hide hwf
        clear hblk hfm hbl hwf
        have hshort := wrap_short 2 true k
        have hcp := wrap_chkP 2 k true (by decide) (by omega)
        have HSH := hide hshort; have HCP := hide hcp
        clear hshort hcp
        generalize hbase : baseF 2 true = bs at *
        go_wp2_with fail
        refine (within_n dp 20 _ (by decide) (by decide)).mono ?_
        rintro e w3 ⟨rfl, rfl⟩
        rw [HD.out]
        by_cases hlt : k < D
        · have hli : (k : Int) < (D : Int) := by omega
          go_wp2_with fail
          go_roundw
          case rel =>
            refine ⟨k + 1, by omega, by go_num, ?_⟩
            with_reducible exact hide (WrapAt.step HBLK.out HFM.out HBL.out HWF.out)
          case measure => simp [intOf]; omega
        · have hli : ¬ (k : Int) < (D : Int) := by omega
          go_wp2_with fail
          refine (wrap_check HFM.out HSH.out HE.out HBL.out).mono ?_
          rintro e w6 ⟨rfl, hb6⟩
          rw [HCP.out, show errB true = 7 from rfl]
          have HB6 := hide hb6
          clear hb6
          go_wp2_with fail
          go_ret
          exact ⟨rfl, HBL.out.trans (HB6.out.mono HBL.out.size)⟩
  · cases ab with
    | false =>
      go_wp2_with fail
      go_loopw [8] (fun i wr => ∃ k : Nat, k ≤ D ∧ i = .int .i64 k ∧ Hid (WrapAt (baseF 3 false) w w1.heap.size wr k)) (fun i _ => D - (intOf i).toNat)
      case atStart => exact ⟨0, by omega, rfl, WrapAt.start (b := baseF 3 false) (by unfold I64; simp only [baseF]; omega) (by unfold I64; simp only [baseF]; omega) rfl HB1.out⟩
      case round =>
        obtain ⟨k, hk, rfl, HN⟩ := hrel
        obtain ⟨la, lc, hblk, hfm, hbl, hwf⟩ := HN.out
        obtain ⟨d0, d1, d2, d3⟩ := blk4 hblk
        have z0 := frozen_of_block hblk 0; have z1 := frozen_of_block hblk 1; have z2 := frozen_of_block hblk 2; have z3 := frozen_of_block hblk 3
        have hfb := size_of_block hblk
        have HBLK := hide hblk; have HFM := hide hfm; have HBL := hide hbl; have HWF := hide hwf
        clear hblk hfm hbl hwf
        have hshort := wrap_short 3 false k
        have hcp := wrap_chkP 3 k false (by decide) (by omega)
        have HSH := hide hshort; have HCP := hide hcp
        clear hshort hcp
        generalize hbase : baseF 3 false = bs at *
        go_wp2_with fail
        refine (within_n dp 20 _ (by decide) (by decide)).mono ?_
        rintro e w3 ⟨rfl, rfl⟩
        rw [HD.out]
        by_cases hlt : k < D
        · have hli : (k : Int) < (D : Int) := by omega
          go_wp2_with fail
          go_roundw
          case rel =>
            refine ⟨k + 1, by omega, by go_num, ?_⟩
            with_reducible exact hide (WrapAt.step HBLK.out HFM.out HBL.out HWF.out)
          case measure => simp [intOf]; omega
        · have hli : ¬ (k : Int) < (D : Int) := by omega
          go_wp2_with fail
          refine (wrap_check HFM.out HSH.out HE.out HBL.out).mono ?_
          rintro e w6 ⟨rfl, hb6⟩
          rw [HCP.out, show errB false = 0 from rfl]
          have HB6 := hide hb6
          clear hb6
          go_wp2_with fail
          go_ret
          exact ⟨rfl, HBL.out.trans (HB6.out.mono HBL.out.size)⟩
    | true =>
      go_wp2_with fail
      go_loopw [8] (fun i wr => ∃ k : Nat, k ≤ D ∧ i = .int .i64 k ∧ Hid (WrapAt (baseF 3 true) w w1.heap.size wr k)) (fun i _ => D - (intOf i).toNat)
      case atStart => exact ⟨0, by omega, rfl, WrapAt.start (b := baseF 3 true) (by unfold I64; simp only [baseF]; omega) (by unfold I64; simp only [baseF]; omega) rfl HB1.out⟩
      case round =>
        obtain ⟨k, hk, rfl, HN⟩ := hrel
        obtain ⟨la, lc, hblk, hfm, hbl, hwf⟩ := HN.out
        obtain ⟨d0, d1, d2, d3⟩ := blk4 hblk
        have z0 := frozen_of_block hblk 0; have z1 := frozen_of_block hblk 1; have z2 := frozen_of_block hblk 2; have z3 := frozen_of_block hblk 3
        have hfb := size_of_block hblk
        have HBLK := hide hblk; have HFM := hide hfm; have HBL := hide hbl; have HWF := hide hwf
        clear hblk hfm hbl hwf
        have hshort := wrap_short 3 true k
        have hcp := wrap_chkP 3 k true (by decide) (by omega)
        have HSH := hide hshort; have HCP := hide hcp
        clear hshort hcp
        generalize hbase : baseF 3 true = bs at *
        go_wp2_with fail
        refine (within_n dp 20 _ (by decide) (by decide)).mono ?_
        rintro e w3 ⟨rfl, rfl⟩
        rw [HD.out]
        by_cases hlt : k < D
        · have hli : (k : Int) < (D : Int) := by omega
          go_wp2_with fail
          go_roundw
          case rel =>
            refine ⟨k + 1, by omega, by go_num, ?_⟩
            with_reducible exact hide (WrapAt.step HBLK.out HFM.out HBL.out HWF.out)
          case measure => simp [intOf]; omega
        · have hli : ¬ (k : Int) < (D : Int) := by omega
          go_wp2_with fail
          refine (wrap_check HFM.out HSH.out HE.out HBL.out).mono ?_
          rintro e w6 ⟨rfl, hb6⟩
          rw [HCP.out, show errB true = 7 from rfl]
          have HB6 := hide hb6
          clear hb6
          go_wp2_with fail
          go_ret
          exact ⟨rfl, HBL.out.trans (HB6.out.mono HBL.out.size)⟩
  · cases ab with
    | false =>
      go_wp2_with fail
      go_loopw [8] (fun i wr => ∃ k : Nat, k ≤ D ∧ i = .int .i64 k ∧ Hid (WrapAt (baseF 4 false) w w1.heap.size wr k)) (fun i _ => D - (intOf i).toNat)
      case atStart => exact ⟨0, by omega, rfl, WrapAt.start (b := baseF 4 false) (by unfold I64; simp only [baseF]; omega) (by unfold I64; simp only [baseF]; omega) rfl HB1.out⟩
      case round =>
        obtain ⟨k, hk, rfl, HN⟩ := hrel
        obtain ⟨la, lc, hblk, hfm, hbl, hwf⟩ := HN.out
        obtain ⟨d0, d1, d2, d3⟩ := blk4 hblk
        have z0 := frozen_of_block hblk 0; have z1 := frozen_of_block hblk 1; have z2 := frozen_of_block hblk 2; have z3 := frozen_of_block hblk 3
        have hfb := size_of_block hblk
        have HBLK := hide hblk; have HFM := hide hfm; have HBL := hide hbl; have HWF := hide hwf
        clear hblk hfm hbl hwf
        have hshort := wrap_short 4 false k
        have hcp := wrap_chkP 4 k false (by decide) (by omega)
        have HSH := hide hshort; have HCP := hide hcp
        clear hshort hcp
        generalize hbase : baseF 4 false = bs at *
        go_wp2_with fail
        refine (within_n dp 20 _ (by decide) (by decide)).mono ?_
        rintro e w3 ⟨rfl, rfl⟩
        rw [HD.out]
        by_cases hlt : k < D
        · have hli : (k : Int) < (D : Int) := by omega
          go_wp2_with fail
          go_roundw
          case rel =>
            refine ⟨k + 1, by omega, by go_num, ?_⟩
            with_reducible exact hide (WrapAt.step HBLK.out HFM.out HBL.out HWF.out)
          case measure => simp [intOf]; omega
        · have hli : ¬ (k : Int) < (D : Int) := by omega
          go_wp2_with fail
          refine (wrap_check HFM.out HSH.out HE.out HBL.out).mono ?_
          rintro e w6 ⟨rfl, hb6⟩
          rw [HCP.out, show errB false = 0 from rfl]
          have HB6 := hide hb6
          clear hb6
          go_wp2_with fail
          go_ret
          exact ⟨rfl, HBL.out.trans (HB6.out.mono HBL.out.size)⟩
    | true =>
      go_wp2_with fail
      go_loopw [8] (fun i wr => ∃ k : Nat, k ≤ D ∧ i = .int .i64 k ∧ Hid (WrapAt (baseF 4 true) w w1.heap.size wr k)) (fun i _ => D - (intOf i).toNat)
      case atStart => exact ⟨0, by omega, rfl, WrapAt.start (b := baseF 4 true) (by unfold I64; simp only [baseF]; omega) (by unfold I64; simp only [baseF]; omega) rfl HB1.out⟩
      case round =>
        obtain ⟨k, hk, rfl, HN⟩ := hrel
        obtain ⟨la, lc, hblk, hfm, hbl, hwf⟩ := HN.out
        obtain ⟨d0, d1, d2, d3⟩ := blk4 hblk
        have z0 := frozen_of_block hblk 0; have z1 := frozen_of_block hblk 1; have z2 := frozen_of_block hblk 2; have z3 := frozen_of_block hblk 3
        have hfb := size_of_block hblk
        have HBLK := hide hblk; have HFM := hide hfm; have HBL := hide hbl; have HWF := hide hwf
        clear hblk hfm hbl hwf
        have hshort := wrap_short 4 true k
        have hcp := wrap_chkP 4 k true (by decide) (by omega)
        have HSH := hide hshort; have HCP := hide hcp
        clear hshort hcp
        generalize hbase : baseF 4 true = bs at *
        go_wp2_with fail
        refine (within_n dp 20 _ (by decide) (by decide)).mono ?_
        rintro e w3 ⟨rfl, rfl⟩
        rw [HD.out]
        by_cases hlt : k < D
        · have hli : (k : Int) < (D : Int) := by omega
          go_wp2_with fail
          go_roundw
          case rel =>
            refine ⟨k + 1, by omega, by go_num, ?_⟩
            with_reducible exact hide (WrapAt.step HBLK.out HFM.out HBL.out HWF.out)
          case measure => simp [intOf]; omega
        · have hli : ¬ (k : Int) < (D : Int) := by omega
          go_wp2_with fail
          refine (wrap_check HFM.out HSH.out HE.out HBL.out).mono ?_
          rintro e w6 ⟨rfl, hb6⟩
          rw [HCP.out, show errB true = 7 from rfl]
          have HB6 := hide hb6
          clear hb6
          go_wp2_with fail
          go_ret
          exact ⟨rfl, HBL.out.trans (HB6.out.mono HBL.out.size)⟩
  · cases ab with
    | false =>
      go_wp2_with fail
      go_loopw [8] (fun i wr => ∃ k : Nat, k ≤ D ∧ i = .int .i64 k ∧ Hid (WrapAt (baseF 5 false) w w1.heap.size wr k)) (fun i _ => D - (intOf i).toNat)
      case atStart => exact ⟨0, by omega, rfl, WrapAt.start (b := baseF 5 false) (by unfold I64; simp only [baseF]; omega) (by unfold I64; simp only [baseF]; omega) rfl HB1.out⟩
      case round =>
        obtain ⟨k, hk, rfl, HN⟩ := hrel
        obtain ⟨la, lc, hblk, hfm, hbl, hwf⟩ := HN.out
        obtain ⟨d0, d1, d2, d3⟩ := blk4 hblk
        have z0 := frozen_of_block hblk 0; have z1 := frozen_of_block hblk 1; have z2 := frozen_of_block hblk 2; have z3 := frozen_of_block hblk 3
        have hfb := size_of_block hblk
        have HBLK := hide hblk; have HFM := hide hfm; have HBL := hide hbl; have HWF := hide hwf
        clear hblk hfm hbl hwf
        have hshort := wrap_short 5 false k
        have hcp := wrap_chkP 5 k false (by decide) (by omega)
        have HSH := hide hshort; have HCP := hide hcp
        clear hshort hcp
        generalize hbase : baseF 5 false = bs at *
        go_wp2_with fail
        refine (within_n dp 20 _ (by decide) (by decide)).mono ?_
        rintro e w3 ⟨rfl, rfl⟩
        rw [HD.out]
        by_cases hlt : k < D
        · have hli : (k : Int) < (D : Int) := by omega
          go_wp2_with fail
          go_roundw
          case rel =>
            refine ⟨k + 1, by omega, by go_num, ?_⟩
            with_reducible exact hide (WrapAt.step HBLK.out HFM.out HBL.out HWF.out)
          case measure => simp [intOf]; omega
        · have hli : ¬ (k : Int) < (D : Int) := by omega
          go_wp2_with fail
          refine (wrap_check HFM.out HSH.out HE.out HBL.out).mono ?_
          rintro e w6 ⟨rfl, hb6⟩
          rw [HCP.out, show errB false = 0 from rfl]
          have HB6 := hide hb6
          clear hb6
          go_wp2_with fail
          go_ret
          exact ⟨rfl, HBL.out.trans (HB6.out.mono HBL.out.size)⟩
    | true =>
      go_wp2_with fail
      go_loopw [8] (fun i wr => ∃ k : Nat, k ≤ D ∧ i = .int .i64 k ∧ Hid (WrapAt (baseF 5 true) w w1.heap.size wr k)) (fun i _ => D - (intOf i).toNat)
      case atStart => exact ⟨0, by omega, rfl, WrapAt.start (b := baseF 5 true) (by unfold I64; simp only [baseF]; omega) (by unfold I64; simp only [baseF]; omega) rfl HB1.out⟩
      case round =>
        obtain ⟨k, hk, rfl, HN⟩ := hrel
        obtain ⟨la, lc, hblk, hfm, hbl, hwf⟩ := HN.out
        obtain ⟨d0, d1, d2, d3⟩ := blk4 hblk
        have z0 := frozen_of_block hblk 0; have z1 := frozen_of_block hblk 1; have z2 := frozen_of_block hblk 2; have z3 := frozen_of_block hblk 3
        have hfb := size_of_block hblk
        have HBLK := hide hblk; have HFM := hide hfm; have HBL := hide hbl; have HWF := hide hwf
        clear hblk hfm hbl hwf
        have hshort := wrap_short 5 true k
        have hcp := wrap_chkP 5 k true (by decide) (by omega)
        have HSH := hide hshort; have HCP := hide hcp
        clear hshort hcp
        generalize hbase : baseF 5 true = bs at *
        go_wp2_with fail
        refine (within_n dp 20 _ (by decide) (by decide)).mono ?_
        rintro e w3 ⟨rfl, rfl⟩
        rw [HD.out]
        by_cases hlt : k < D
        · have hli : (k : Int) < (D : Int) := by omega
          go_wp2_with fail
          go_roundw
          case rel =>
            refine ⟨k + 1, by omega, by go_num, ?_⟩
            with_reducible exact hide (WrapAt.step HBLK.out HFM.out HBL.out HWF.out)
          case measure => simp [intOf]; omega
        · have hli : ¬ (k : Int) < (D : Int) := by omega
          go_wp2_with fail
          refine (wrap_check HFM.out HSH.out HE.out HBL.out).mono ?_
          rintro e w6 ⟨rfl, hb6⟩
          rw [HCP.out, show errB true = 7 from rfl]
          have HB6 := hide hb6
          clear hb6
          go_wp2_with fail
          go_ret
          exact ⟨rfl, HBL.out.trans (HB6.out.mono HBL.out.size)⟩
#print axioms bounds_any
end Go.Proofs.YthhgphokbgpaiabDoor
