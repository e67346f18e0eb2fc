/- forms.Text: the walk. -/
import Derived.Test.YthhgphokbgpaiabDoorWu
namespace Go.Proofs.YthhgphokbgpaiabDoor
open Go.RowKit

theorem Tabs.later {w w1 : World} (h : Tabs w.heap.size w) (hb : Below w.heap.size w w1) : Tabs w1.heap.size w1 := fun w2 h2 => h w2 (hb.trans (h2.mono hb.size))

theorem writer_new (w1 : World) : Wr w1.heap.size w1.heap.size (Lib.byteCells []) (w1.alloc (.cells #[.pointer none, .slice none 0 0] 51)) :=
  Or.inl ⟨Nat.le_refl _, .slice none 0 0, heap_alloc_new w1 _, World.ownsRow_nil _ _ _ _, by simp [Value.ownBlock]⟩

set_option maxRecDepth 20000 in
set_option maxHeartbeats 1000000 in
theorem text_any (f : Fm) (F : Nat) (la : Option Addr) (lc : Nat) (w : World) (hv : FmAt w w.heap.size F f (.agg #[.int .i64 f.kind, .int .i64 f.n, .string ⟨⟨f.s⟩⟩, .slice la f.l.length lc])) (hs : Short f) (he : Errs w) (ht : Tabs w.heap.size w) (hlen : (txtF 31 f).length ≤ 140737488355328) :
    Calls Tryd.prog 8 #[.agg #[.int .i64 f.kind, .int .i64 f.n, .string ⟨⟨f.s⟩⟩, .slice la f.l.length lc]] w fun e w' => e = .returned (.string ⟨⟨txtP f⟩⟩) ∧ Below w.heap.size w w' := by
  have HV := hide hv; have HS := hide hs; have HE := hide he; have HT := hide ht; have HL := hide hlen
  clear hv hs he ht hlen
  go_enter Tryd.func8, Tryd.ntmps8
  go_wp2_with fail
  have HA : Hid (Below w.heap.size w (w.alloc (.cells #[.int .i64 f.kind, .int .i64 f.n, .string ⟨⟨f.s⟩⟩, .slice la f.l.length lc] 25))) := later_alloc w _
  refine (check_any f F la lc _ (FmAt.below HV.out HA.out (Nat.le_refl _) HA.out.size) HS.out (HE.out.keep HA.out)).mono ?_
  rintro e w1 ⟨rfl, hb1⟩
  obtain ⟨c0, c1, c2, c3⟩ := four_old hb1
  have HB1 : Hid (Below w.heap.size w w1) := below_new hb1
  have hs1 : w.heap.size + 1 ≤ w1.heap.size := by have := hb1.size; rw [World.size_alloc] at this; exact this
  have hs2 : w.heap.size < w1.heap.size := by omega
  clear hb1
  generalize hq : chkP f = q
  have HQ := hide hq
  clear hq
  by_cases hq0 : q = 0
  · subst hq0
    have HX : Hid (txtP f = txtF 31 f) := if_pos HQ.out
    have HF1 : Hid (FmAt w1 w1.heap.size F f (.agg #[.int .i64 f.kind, .int .i64 f.n, .string ⟨⟨f.s⟩⟩, .slice la f.l.length lc])) := FmAt.below HV.out HB1.out (Nat.le_refl _) HB1.out.size
    have HT1 : Hid (Tabs w1.heap.size w1) := HT.out.later HB1.out
    have HLA : Hid (Below w1.heap.size w1 (w1.alloc (.cells #[.pointer none, .slice none 0 0] 51))) := later_alloc w1 _
    go_wp2_with fail
    refine (wform_any 31 w1.heap.size w1.heap.size F [] f la lc (w1.alloc (.cells #[.pointer none, .slice none 0 0] 51)) (writer_new w1) (by rw [World.size_alloc]; omega) (HT1.out.keep HLA.out) (FmAt.below HF1.out HLA.out (Nat.le_refl _) (Nat.le_refl _)) (wok_chk HQ.out) (by rw [List.length_nil, Nat.zero_add]; exact HL.out)).mono ?_
    rintro e w3 ⟨rfl, h3, hb3⟩
    rw [List.nil_append] at h3
    have H3 := hide h3
    have HB3 : Hid (Below w.heap.size w w3) := HB1.out.trans ((HLA.out.trans hb3).mono HB1.out.size)
    clear h3 hb3
    go_wp2_with fail
    refine (wtext_any w1.heap.size w1.heap.size (txtF 31 f) w3 H3.out (txt_ne HQ.out)).mono ?_
    rintro e w4 ⟨rfl, hb4⟩
    have HB4 : Hid (Below w.heap.size w w4) := HB3.out.trans (hb4.mono HB1.out.size)
    clear hb4
    go_wp2_with fail
    go_ret
    exact ⟨by rw [HX.out]; rfl, HB4.out⟩
  · have HX : Hid (txtP f = []) := if_neg (fun h => hq0 (HQ.out.symm.trans h))
    have hqq : ((q : Int) != 0) = true := by simp; omega
    go_wp2_with fail
    go_ret
    exact ⟨by rw [HX.out]; rfl, HB1.out⟩
#print axioms text_any
end Go.Proofs.YthhgphokbgpaiabDoor
