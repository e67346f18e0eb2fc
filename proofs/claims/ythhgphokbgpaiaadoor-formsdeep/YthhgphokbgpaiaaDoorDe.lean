/- FormsDeep: the walk. -/
import Derived.Test.YthhgphokbgpaiaaDoorDd
import Derived.Laws.BytesArg
namespace Go.Proofs.YthhgphokbgpaiaaDoor
open Go.RowKit

theorem app_list (a b : ByteArray) : (a ++ b).data.toList = a.data.toList ++ b.data.toList := by simp

theorem rep_snoc (k : Nat) (c : UInt8) : List.replicate k c ++ [c] = List.replicate (k + 1) c := List.replicate_succ'.symm

theorem nest_check {w w3 w' : World} {fb k lc : Nat} {la : Option Addr} (hf : FmD w3 (fun q => fb < q ∧ q < w3.heap.size) (k + 1) (nest k) (.agg #[.int .i64 (nest k).kind, .int .i64 (nest k).n, .string ⟨⟨(nest k).s⟩⟩, .slice la (nest k).l.length lc])) (hb : Below w3.heap.size w3 w') (he : Errs w) (hw : Below w.heap.size w w') :
    Calls Tryd.prog 19 #[.agg #[.int .i64 (nest k).kind, .int .i64 (nest k).n, .string ⟨⟨(nest k).s⟩⟩, .slice la (nest k).l.length lc]] w' fun e w'' => e = .returned (.int .i64 (chkP (nest k) : Nat)) ∧ Below w'.heap.size w' w'' :=
  check_any (nest k) (k + 1) la lc w' (hf.keep (fun q hq => hb.block q hq.2) (fun q hq => by have := hb.size; omega) _ _ _) (nest_short k) (he.keep hw)

set_option maxRecDepth 20000 in
set_option maxHeartbeats 2000000 in
theorem deep_any (n : Int) (bh : Bool) (w : World) (he : Errs w) (ht : Tabs w.heap.size w) : Calls Tryd.prog 5 #[.int .i64 n, .bool bh] w fun e w' => e = .returned (.bool true) ∧ Below w.heap.size w w' := by
  have HE := hide he; have HT := hide ht
  clear he ht
  go_enter Tryd.func5, Tryd.ntmps5
  go_wp2_with fail
  refine (known_any w HE.out HT.out).mono ?_
  rintro e w1 ⟨rfl, hb1⟩
  have HB1 := hide hb1
  clear hb1
  go_wp2_with fail
  refine (within_n n 6 _ (by decide) (by decide)).mono ?_
  rintro e w2 ⟨rfl, rfl⟩
  have hwi := wi_n n 6 (by decide)
  generalize hx : wi n 6 = x at *
  clear hx
  obtain ⟨m, rfl⟩ : ∃ m : Nat, x = (m : Int) := ⟨x.toNat, by omega⟩
  have hm : m < 6 := by omega
  clear hwi
  have hw : IntKind.i64.wrap (28 + (m : Int)) = 28 + (m : Int) := by rw [IntKind.wrap_i64]; omega
  go_wp2_with fail
  have HST : Hid (NestAt w w2.heap.size (w2.alloc (.cells #[.int .i64 1, .int .i64 0, .string ⟨#[97]⟩, .slice none 0 0] 41)) 0) :=
    ⟨none, 0, heap_alloc_new w2 _, ⟨none, 0, rfl, by unfold I64; simp only [nest]; omega, by unfold I64; simp only [nest]; omega, RowAt.nil (by unfold maxLen; omega)⟩, HB1.out.alloc HB1.out.size _, HB1.out.size⟩
  generalize w2.heap.size = fb at *
  go_loopw [5, 6, 8] (fun s5 s6 i wr => ∃ (k : Nat) (a b : ByteArray), k ≤ 28 + m ∧ i = .int .i64 k ∧ s5 = .string a ∧ s6 = .string b ∧ a.size = k ∧ b.size = k ∧ Hid (a.data.toList = List.replicate k 40) ∧ Hid (b.data.toList = List.replicate k 41) ∧ Hid (NestAt w fb wr k)) (fun _ _ i _ => 28 + m - (intOf i).toNat)
  case atStart => exact ⟨0, ⟨#[]⟩, ⟨#[]⟩, by omega, rfl, rfl, rfl, rfl, rfl, rfl, rfl, HST.out⟩
  case round =>
    obtain ⟨k, a, b, hk, rfl, rfl, rfl, hza, hzb, HA, HBB, HN⟩ := hrel
    obtain ⟨la, lc, hblk, hfm, hbl, hwf⟩ := HN.out
    obtain ⟨d0, d1, d2, d3⟩ := blk4 hblk
    have z0 := frozen_of_block hblk 0; have z1 := frozen_of_block hblk 1; have z2 := frozen_of_block hblk 2; have z3 := frozen_of_block hblk 3
    have hfb := size_of_block hblk
    have HBLK := hide hblk; have HFM := hide hfm; have HBL := hide hbl; have HWF := hide hwf
    clear hblk hfm hbl hwf
    by_cases hlt : k < 28 + m
    · go_wp2_with fail
      go_roundw
      case rel =>
        refine ⟨k + 1, _, _, by omega, by go_num, rfl, rfl, by rw [ByteArray.size_append, hza]; rfl, by rw [ByteArray.size_append, hzb]; show 1 + k = k + 1; omega, ?_, ?_, ?_⟩
        · show (a ++ ⟨#[40]⟩ : ByteArray).data.toList = _
          rw [app_list, HA.out]; exact rep_snoc k 40
        · show ((⟨#[41]⟩ : ByteArray) ++ b).data.toList = _
          rw [app_list, HBB.out]; rfl
        · with_reducible exact hide (NestAt.step HBLK.out HFM.out HBL.out HWF.out)
      case measure => simp [intOf]; omega
    · have hke : k = 28 + m := by omega
      subst hke
      cases bh with
      | false =>
        have HLL : Hid ((a ++ ⟨#[97]⟩ ++ b).data.toList = deepL (28 + m) false) := by
          show _ = _
          rw [app_list, app_list, HA.out, HBB.out]
          rfl
        have hTs : (a ++ ⟨#[97]⟩ ++ b).size ≤ 200 := by
          rw [ByteArray.size_append, ByteArray.size_append, hza, hzb]
          show _ ≤ 200
          simp only [ByteArray.size, List.size_toArray, List.length_cons, List.length_nil]
          omega
        go_wp2_with fail
        generalize a ++ ⟨#[97]⟩ ++ b = T at *
        refine (parse_any T _ wr HLL.out (by omega) (HE.out.keep HBL.out)).mono ?_
        rintro e w5 ⟨⟨er, p, h1, rfl⟩ | ⟨fs, fa, cap, h1, hl, rfl, hrow⟩, hb5⟩
        · by_cases h3 : m < 3
          · obtain ⟨fs, h2, _⟩ := okB_ok (deep_ok m h3 false)
            rw [h2] at h1; cases h1
          · obtain ⟨p', h2, hp1, hp2⟩ := farB_far (deep_far m h3 hm false)
            rw [h2] at h1
            cases h1
            have c0 := (hb5.cell (p := ⟨fb, 0, none⟩) hfb).trans d0
            have c1 := (hb5.cell (p := ⟨fb, 1, none⟩) hfb).trans d1
            have c2 := (hb5.cell (p := ⟨fb, 2, none⟩) hfb).trans d2
            have c3 := (hb5.cell (p := ⟨fb, 3, none⟩) hfb).trans d3
            have hsz := size_len T _ HLL.out
            have hpT : p < T.size := by rw [hsz]; exact hp1
            have g40 : (((T[p]'hpT).toNat : Int) == 40) = true := by rw [get_byt T _ HLL.out p hpT, hp2]; rfl
            have HB5 := hide hb5
            have HCK := hide (nest_far m h3 hm)
            clear hb5 h2 hp1 hp2 hsz d0 d1 d2 d3
            have hgt : decide ((30 : Int) < 28 + (m : Int)) = true := decide_eq_true (by omega)
            have hpi : (p : Int) < (T.size : Int) := by omega
            have hpi0 : (0 : Int) ≤ (p : Int) := by omega
            go_wp2_with fail
            refine (nest_check HFM.out HB5.out HE.out (HBL.out.trans (HB5.out.mono HBL.out.size))).mono ?_
            rintro e w6 ⟨rfl, hb6⟩
            rw [HCK.out]
            have HB6 := hide hb6
            clear hb6
            go_wp2_with fail
            go_ret
            exact ⟨rfl, (HBL.out.trans (HB5.out.mono HBL.out.size)).trans (HB6.out.mono (HBL.out.trans (HB5.out.mono HBL.out.size)).size)⟩
        · by_cases h3 : m < 3
          · obtain ⟨fs', h2, hpos⟩ := okB_ok (deep_ok m h3 false)
            rw [h2] at h1
            cases h1
            have c0 := (hb5.cell (p := ⟨fb, 0, none⟩) hfb).trans d0
            have c1 := (hb5.cell (p := ⟨fb, 1, none⟩) hfb).trans d1
            have c2 := (hb5.cell (p := ⟨fb, 2, none⟩) hfb).trans d2
            have c3 := (hb5.cell (p := ⟨fb, 3, none⟩) hfb).trans d3
            have HB5 := hide hb5
            have HCK := hide (nest_ok m h3)
            clear hb5 h2 hrow d0 d1 d2 d3
            have hgt : decide ((30 : Int) < 28 + (m : Int)) = false := decide_eq_false (by omega)
            have hpi : (0 : Int) < (fs.length : Int) := by omega
            go_wp2_with fail
            refine (nest_check HFM.out HB5.out HE.out (HBL.out.trans (HB5.out.mono HBL.out.size))).mono ?_
            rintro e w6 ⟨rfl, hb6⟩
            rw [HCK.out]
            have HB6 := hide hb6
            clear hb6
            go_wp2_with fail
            go_ret
            exact ⟨rfl, (HBL.out.trans (HB5.out.mono HBL.out.size)).trans (HB6.out.mono (HBL.out.trans (HB5.out.mono HBL.out.size)).size)⟩
          · obtain ⟨p', h2, _, _⟩ := farB_far (deep_far m h3 hm false)
            rw [h2] at h1; cases h1
      | true =>
        have HLL : Hid ((⟨#[98, 32]⟩ ++ (a ++ ⟨#[97]⟩ ++ b) ++ ⟨#[32, 99]⟩).data.toList = deepL (28 + m) true) := by
          show _ = _
          rw [app_list, app_list, app_list, app_list, HA.out, HBB.out]
          rfl
        have hTs : (⟨#[98, 32]⟩ ++ (a ++ ⟨#[97]⟩ ++ b) ++ ⟨#[32, 99]⟩).size ≤ 200 := by
          rw [ByteArray.size_append, ByteArray.size_append, ByteArray.size_append, ByteArray.size_append, hza, hzb]
          show _ ≤ 200
          simp only [ByteArray.size, List.size_toArray, List.length_cons, List.length_nil]
          omega
        go_wp2_with fail
        generalize ⟨#[98, 32]⟩ ++ (a ++ ⟨#[97]⟩ ++ b) ++ ⟨#[32, 99]⟩ = T at *
        refine (parse_any T _ wr HLL.out (by omega) (HE.out.keep HBL.out)).mono ?_
        rintro e w5 ⟨⟨er, p, h1, rfl⟩ | ⟨fs, fa, cap, h1, hl, rfl, hrow⟩, hb5⟩
        · by_cases h3 : m < 3
          · obtain ⟨fs, h2, _⟩ := okB_ok (deep_ok m h3 true)
            rw [h2] at h1; cases h1
          · obtain ⟨p', h2, hp1, hp2⟩ := farB_far (deep_far m h3 hm true)
            rw [h2] at h1
            cases h1
            have c0 := (hb5.cell (p := ⟨fb, 0, none⟩) hfb).trans d0
            have c1 := (hb5.cell (p := ⟨fb, 1, none⟩) hfb).trans d1
            have c2 := (hb5.cell (p := ⟨fb, 2, none⟩) hfb).trans d2
            have c3 := (hb5.cell (p := ⟨fb, 3, none⟩) hfb).trans d3
            have hsz := size_len T _ HLL.out
            have hpT : p < T.size := by rw [hsz]; exact hp1
            have g40 : (((T[p]'hpT).toNat : Int) == 40) = true := by rw [get_byt T _ HLL.out p hpT, hp2]; rfl
            have HB5 := hide hb5
            have HCK := hide (nest_far m h3 hm)
            clear hb5 h2 hp1 hp2 hsz d0 d1 d2 d3
            have hgt : decide ((30 : Int) < 28 + (m : Int)) = true := decide_eq_true (by omega)
            have hpi : (p : Int) < (T.size : Int) := by omega
            have hpi0 : (0 : Int) ≤ (p : Int) := by omega
            go_wp2_with fail
            refine (nest_check HFM.out HB5.out HE.out (HBL.out.trans (HB5.out.mono HBL.out.size))).mono ?_
            rintro e w6 ⟨rfl, hb6⟩
            rw [HCK.out]
            have HB6 := hide hb6
            clear hb6
            go_wp2_with fail
            go_ret
            exact ⟨rfl, (HBL.out.trans (HB5.out.mono HBL.out.size)).trans (HB6.out.mono (HBL.out.trans (HB5.out.mono HBL.out.size)).size)⟩
        · by_cases h3 : m < 3
          · obtain ⟨fs', h2, hpos⟩ := okB_ok (deep_ok m h3 true)
            rw [h2] at h1
            cases h1
            have c0 := (hb5.cell (p := ⟨fb, 0, none⟩) hfb).trans d0
            have c1 := (hb5.cell (p := ⟨fb, 1, none⟩) hfb).trans d1
            have c2 := (hb5.cell (p := ⟨fb, 2, none⟩) hfb).trans d2
            have c3 := (hb5.cell (p := ⟨fb, 3, none⟩) hfb).trans d3
            have HB5 := hide hb5
            have HCK := hide (nest_ok m h3)
            clear hb5 h2 hrow d0 d1 d2 d3
            have hgt : decide ((30 : Int) < 28 + (m : Int)) = false := decide_eq_false (by omega)
            have hpi : (0 : Int) < (fs.length : Int) := by omega
            go_wp2_with fail
            refine (nest_check HFM.out HB5.out HE.out (HBL.out.trans (HB5.out.mono HBL.out.size))).mono ?_
            rintro e w6 ⟨rfl, hb6⟩
            rw [HCK.out]
            have HB6 := hide hb6
            clear hb6
            go_wp2_with fail
            go_ret
            exact ⟨rfl, (HBL.out.trans (HB5.out.mono HBL.out.size)).trans (HB6.out.mono (HBL.out.trans (HB5.out.mono HBL.out.size)).size)⟩
          · obtain ⟨p', h2, _, _⟩ := farB_far (deep_far m h3 hm true)
            rw [h2] at h1; cases h1
#print axioms deep_any
end Go.Proofs.YthhgphokbgpaiaaDoor
