/- forms.fault: the walk, of a list. -/
import Derived.Test.YthhgphokbgpaiabDoorFa
namespace Go.Proofs.YthhgphokbgpaiabDoor
open Go.RowKit
attribute [local go_sem] idx93_1 idx93_2 idx93_3

set_option maxRecDepth 20000 in
set_option maxHeartbeats 1000000 in
theorem fault_3 (f : Fm) (d : Nat) (la : Option Addr) (lc : Nat) (w : World) (HK : Hid (f.kind = 3)) :
    Calls Tryd.prog 9 #[.agg #[.int .i64 3, .int .i64 f.n, .string ⟨⟨f.s⟩⟩, .slice la f.l.length lc], .int .i64 d] w fun e w' => e = .returned (.int .i64 (faultP f d : Nat)) ∧ Below w.heap.size w w' := by
  have HR := hide (fault_list (f := f) (d := d) HK.out)
  go_enter Tryd.func9, Tryd.ntmps9
  go_wp2_with fail
  go_region_with (first | (go_at_call 14; refine (faults_any _).mono ?_; rintro e w1 ⟨rfl, hb1⟩; obtain ⟨c0, c1, c2, c3⟩ := four_new hb1; have HB1 := hide hb1; clear hb1) | (go_at_call 33; refine (plist_any _ _ _ _ _ _ _ _).mono ?_; rintro e w2 ⟨rfl, hb2⟩; have HB2 := hide hb2; clear hb2))
  all_goals
    go_wp2_with fail
    go_ret
    exact ⟨by rw [HR.out]; rfl, below_two HB1.out HB2.out⟩
#print axioms fault_3
end Go.Proofs.YthhgphokbgpaiabDoor
