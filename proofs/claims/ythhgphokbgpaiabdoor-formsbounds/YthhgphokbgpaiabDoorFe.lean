/- forms.fault: what it answers. -/
import Derived.Test.YthhgphokbgpaiabDoorFb
import Derived.Test.YthhgphokbgpaiabDoorFc
import Derived.Test.YthhgphokbgpaiabDoorFd
namespace Go.Proofs.YthhgphokbgpaiabDoor
open Go.RowKit

set_option maxRecDepth 20000 in
set_option maxHeartbeats 1000000 in
theorem fault_any (f : Fm) (d : Nat) (la : Option Addr) (lc : Nat) (w : World) (hm : f.s.length ≤ 140737488355328) (he : Errs w) :
    Calls Tryd.prog 9 #[.agg #[.int .i64 f.kind, .int .i64 f.n, .string ⟨⟨f.s⟩⟩, .slice la f.l.length lc], .int .i64 d] w fun e w' => e = .returned (.int .i64 (faultP f d : Nat)) ∧ Below w.heap.size w w' := by
  have HE := hide he
  clear he
  generalize hk : f.kind = kd
  have HK := hide hk
  clear hk
  by_cases h1 : kd < 1
  · have HR := hide (fault_none (f := f) (d := d) (by rw [HK.out]; omega) (by rw [HK.out]; omega) (by rw [HK.out]; omega))
    go_enter Tryd.func9, Tryd.ntmps9
    go_wp2_with fail
    go_ret
    exact ⟨by rw [HR.out]; rfl, (Below.refl _ _).alloc (Nat.le_refl _) _⟩
  · by_cases h2 : 3 < kd
    · have HR := hide (fault_none (f := f) (d := d) (by rw [HK.out]; omega) (by rw [HK.out]; omega) (by rw [HK.out]; omega))
      go_enter Tryd.func9, Tryd.ntmps9
      go_wp2_with fail
      go_ret
      exact ⟨by rw [HR.out]; rfl, (Below.refl _ _).alloc (Nat.le_refl _) _⟩
    · rcases (show kd = 1 ∨ kd = 2 ∨ kd = 3 by omega) with rfl | rfl | rfl
      · exact fault_1 f d la lc w hm HE HK
      · exact fault_2 f d la lc w HK
      · exact fault_3 f d la lc w HK
#print axioms fault_any
end Go.Proofs.YthhgphokbgpaiabDoor
