/- A law of integers: at every choice. -/
import Derived.Test.YtcgjnnpgpfmjgaaGreatDoorAw
import Derived.Test.YtcgjnnpgpfmjgaaGreatDoorAk7
import Derived.Test.YtcgjnnpgpfmjgaaGreatDoorLra
import Derived.Test.YtcgjnnpgpfmjgaaGreatDoorLrb
import Derived.Test.YtcgjnnpgpfmjgaaGreatDoorLrc
import Derived.Test.YtcgjnnpgpfmjgaaGreatDoorLrd
import Derived.Test.YtcgjnnpgpfmjgaaGreatDoorLre
import Derived.Test.YtcgjnnpgpfmjgaaGreatDoorLrf
import Derived.Test.YtcgjnnpgpfmjgaaGreatDoorLrg
import Derived.Test.YtcgjnnpgpfmjgaaGreatDoorLrh
import Derived.Test.YtcgjnnpgpfmjgaaGreatDoorLri
import Derived.Test.YtcgjnnpgpfmjgaaGreatDoorLrj
import Derived.Test.YtcgjnnpgpfmjgaaGreatDoorLrk
import Derived.Test.YtcgjnnpgpfmjgaaGreatDoorLrl
import Derived.Test.YtcgjnnpgpfmjgaaGreatDoorLrm
import Derived.Test.YtcgjnnpgpfmjgaaGreatDoorLrn
import Derived.Test.YtcgjnnpgpfmjgaaGreatDoorLro
import Derived.Test.YtcgjnnpgpfmjgaaGreatDoorLrp
import Derived.Test.YtcgjnnpgpfmjgaaGreatDoorLrq
import Derived.Test.YtcgjnnpgpfmjgaaGreatDoorLrr
import Derived.Test.YtcgjnnpgpfmjgaaGreatDoorLrs
import Derived.Test.YtcgjnnpgpfmjgaaGreatDoorLrt
import Derived.Test.YtcgjnnpgpfmjgaaGreatDoorLru
import Derived.Test.YtcgjnnpgpfmjgaaGreatDoorLrv
import Derived.Test.YtcgjnnpgpfmjgaaGreatDoorLrw
import Derived.Test.YtcgjnnpgpfmjgaaGreatDoorLrx
namespace Go.Proofs.YtcgjnnpgpfmjgaaGreatDoor.Ab
open Go.RowKit

theorem anyLr (a0 a1 : Int) (W : World) (h : BndAt W) : Calls Tryz.prog 5 #[.int .i64 a0, .int .i64 a1] W fun e w' => e = .returned (.bool true) ∧ Below W.heap.size W w' := by
  obtain ⟨k0, e0, l0⟩ := wi_nat a0 12 (by decide)
  obtain ⟨k1, e1, l1⟩ := wi_nat a1 5 (by decide)
  have hr : isTrueA (callF Tryz.prog (Tabs.mk tis [ [Tryz.f0, Tryz.f1, Tryz.f2, Tryz.f3, Tryz.f4, Tryz.f5, Tryz.f6, Tryz.f7, Tryz.f8, Tryz.f9, Tryz.f10, Tryz.f11, Tryz.f12, Tryz.f13, Tryz.f14, Tryz.f15], [Tryz.f16, Tryz.f17, Tryz.f18, Tryz.f19, Tryz.f20, Tryz.f21, Tryz.f22, Tryz.f23, Tryz.f24, Tryz.f25, Tryz.f26, Tryz.f27, Tryz.f28, Tryz.f29, Tryz.f30, Tryz.f31], [Tryz.f32, Tryz.f33, Tryz.f34, Tryz.f35, Tryz.f36, Tryz.f37, Tryz.f38, Tryz.f39, Tryz.f40, Tryz.f41, Tryz.f42, Tryz.f43, Tryz.f44, Tryz.f45, Tryz.f46, Tryz.f47], [Tryz.f48, Tryz.f49, Tryz.f50, Tryz.f51, Tryz.f52, Tryz.f53, Tryz.f54, Tryz.f55, Tryz.f56, Tryz.f57, Tryz.f58, Tryz.f59, Tryz.f60, Tryz.f61, Tryz.f62, Tryz.f63], [Tryz.f64, Tryz.f65, Tryz.f66, Tryz.f67, Tryz.f68, Tryz.f69, Tryz.f70, Tryz.f71, Tryz.f72, Tryz.f73, Tryz.f74, Tryz.f75, Tryz.f76, Tryz.f77, Tryz.f78, Tryz.f79], [Tryz.f80, Tryz.f81, Tryz.f82, Tryz.f83, Tryz.f84, Tryz.f85, Tryz.f86, Tryz.f87, Tryz.f88, Tryz.f89, Tryz.f90, Tryz.f91, Tryz.f92, Tryz.f93, Tryz.f94, Tryz.f95], [Tryz.f96, Tryz.f97, Tryz.f98, Tryz.f99, Tryz.f100, Tryz.f101, Tryz.f102, Tryz.f103, Tryz.f104, Tryz.f105, Tryz.f106, Tryz.f107, Tryz.f108, Tryz.f109, Tryz.f110, Tryz.f111], [Tryz.f112, Tryz.f113, Tryz.f114, Tryz.f115, Tryz.f116, Tryz.f117, Tryz.f118, Tryz.f119, Tryz.f120, Tryz.f121, Tryz.f122, Tryz.f123, Tryz.f124, Tryz.f125, Tryz.f126, Tryz.f127], [Tryz.f128, Tryz.f129, Tryz.f130, Tryz.f131, Tryz.f132, Tryz.f133, Tryz.f134, Tryz.f135, Tryz.f136, Tryz.f137, Tryz.f138, Tryz.f139, Tryz.f140, Tryz.f141, Tryz.f142, Tryz.f143], [Tryz.f144, Tryz.f145, Tryz.f146]] globs) (extOr (extTrue 7) (extMod 12 [12, 5] [((k0 : Nat) : Int), ((k1 : Nat) : Int)])) 1000000 2000 5 [AV.sym 0, AV.sym 1] Hp.emp 0) = true := by
    match k0, l0, k1, l1 with
    | 0, _, 0, _ => exact List.all_eq_true.1 rLra [0, 0] (by simp)
    | 0, _, 1, _ => exact List.all_eq_true.1 rLrb [0, 1] (by simp)
    | 0, _, 2, _ => exact List.all_eq_true.1 rLrb [0, 2] (by simp)
    | 0, _, 3, _ => exact List.all_eq_true.1 rLrb [0, 3] (by simp)
    | 0, _, 4, _ => exact List.all_eq_true.1 rLrb [0, 4] (by simp)
    | 1, _, 0, _ => exact List.all_eq_true.1 rLrc [1, 0] (by simp)
    | 1, _, 1, _ => exact List.all_eq_true.1 rLrd [1, 1] (by simp)
    | 1, _, 2, _ => exact List.all_eq_true.1 rLrd [1, 2] (by simp)
    | 1, _, 3, _ => exact List.all_eq_true.1 rLrd [1, 3] (by simp)
    | 1, _, 4, _ => exact List.all_eq_true.1 rLrd [1, 4] (by simp)
    | 2, _, 0, _ => exact List.all_eq_true.1 rLre [2, 0] (by simp)
    | 2, _, 1, _ => exact List.all_eq_true.1 rLrf [2, 1] (by simp)
    | 2, _, 2, _ => exact List.all_eq_true.1 rLrf [2, 2] (by simp)
    | 2, _, 3, _ => exact List.all_eq_true.1 rLrf [2, 3] (by simp)
    | 2, _, 4, _ => exact List.all_eq_true.1 rLrf [2, 4] (by simp)
    | 3, _, 0, _ => exact List.all_eq_true.1 rLrg [3, 0] (by simp)
    | 3, _, 1, _ => exact List.all_eq_true.1 rLrh [3, 1] (by simp)
    | 3, _, 2, _ => exact List.all_eq_true.1 rLrh [3, 2] (by simp)
    | 3, _, 3, _ => exact List.all_eq_true.1 rLrh [3, 3] (by simp)
    | 3, _, 4, _ => exact List.all_eq_true.1 rLrh [3, 4] (by simp)
    | 4, _, 0, _ => exact List.all_eq_true.1 rLri [4, 0] (by simp)
    | 4, _, 1, _ => exact List.all_eq_true.1 rLrj [4, 1] (by simp)
    | 4, _, 2, _ => exact List.all_eq_true.1 rLrj [4, 2] (by simp)
    | 4, _, 3, _ => exact List.all_eq_true.1 rLrj [4, 3] (by simp)
    | 4, _, 4, _ => exact List.all_eq_true.1 rLrj [4, 4] (by simp)
    | 5, _, 0, _ => exact List.all_eq_true.1 rLrk [5, 0] (by simp)
    | 5, _, 1, _ => exact List.all_eq_true.1 rLrl [5, 1] (by simp)
    | 5, _, 2, _ => exact List.all_eq_true.1 rLrl [5, 2] (by simp)
    | 5, _, 3, _ => exact List.all_eq_true.1 rLrl [5, 3] (by simp)
    | 5, _, 4, _ => exact List.all_eq_true.1 rLrl [5, 4] (by simp)
    | 6, _, 0, _ => exact List.all_eq_true.1 rLrm [6, 0] (by simp)
    | 6, _, 1, _ => exact List.all_eq_true.1 rLrn [6, 1] (by simp)
    | 6, _, 2, _ => exact List.all_eq_true.1 rLrn [6, 2] (by simp)
    | 6, _, 3, _ => exact List.all_eq_true.1 rLrn [6, 3] (by simp)
    | 6, _, 4, _ => exact List.all_eq_true.1 rLrn [6, 4] (by simp)
    | 7, _, 0, _ => exact List.all_eq_true.1 rLro [7, 0] (by simp)
    | 7, _, 1, _ => exact List.all_eq_true.1 rLrp [7, 1] (by simp)
    | 7, _, 2, _ => exact List.all_eq_true.1 rLrp [7, 2] (by simp)
    | 7, _, 3, _ => exact List.all_eq_true.1 rLrp [7, 3] (by simp)
    | 7, _, 4, _ => exact List.all_eq_true.1 rLrp [7, 4] (by simp)
    | 8, _, 0, _ => exact List.all_eq_true.1 rLrq [8, 0] (by simp)
    | 8, _, 1, _ => exact List.all_eq_true.1 rLrr [8, 1] (by simp)
    | 8, _, 2, _ => exact List.all_eq_true.1 rLrr [8, 2] (by simp)
    | 8, _, 3, _ => exact List.all_eq_true.1 rLrr [8, 3] (by simp)
    | 8, _, 4, _ => exact List.all_eq_true.1 rLrr [8, 4] (by simp)
    | 9, _, 0, _ => exact List.all_eq_true.1 rLrs [9, 0] (by simp)
    | 9, _, 1, _ => exact List.all_eq_true.1 rLrt [9, 1] (by simp)
    | 9, _, 2, _ => exact List.all_eq_true.1 rLrt [9, 2] (by simp)
    | 9, _, 3, _ => exact List.all_eq_true.1 rLrt [9, 3] (by simp)
    | 9, _, 4, _ => exact List.all_eq_true.1 rLrt [9, 4] (by simp)
    | 10, _, 0, _ => exact List.all_eq_true.1 rLru [10, 0] (by simp)
    | 10, _, 1, _ => exact List.all_eq_true.1 rLrv [10, 1] (by simp)
    | 10, _, 2, _ => exact List.all_eq_true.1 rLrv [10, 2] (by simp)
    | 10, _, 3, _ => exact List.all_eq_true.1 rLrv [10, 3] (by simp)
    | 10, _, 4, _ => exact List.all_eq_true.1 rLrv [10, 4] (by simp)
    | 11, _, 0, _ => exact List.all_eq_true.1 rLrw [11, 0] (by simp)
    | 11, _, 1, _ => exact List.all_eq_true.1 rLrx [11, 1] (by simp)
    | 11, _, 2, _ => exact List.all_eq_true.1 rLrx [11, 2] (by simp)
    | 11, _, 3, _ => exact List.all_eq_true.1 rLrx [11, 3] (by simp)
    | 11, _, 4, _ => exact List.all_eq_true.1 rLrx [11, 4] (by simp)
    | k + 12, h, _, _ => omega
    | _, _, k + 5, h => omega
  refine law_trueF (S := fun i => .int .i64 ([a0, a1].getD i 0)) tabsB_ok tabsB_zero no_num mixed codes tabsB_fns (extOr_ok known7 (ext12 fun i m k h1 h2 => ?_)) hr (globs_ok h) ?_
  · match i, h1, h2 with
    | 0, h1, h2 =>
      simp at h1 h2
      subst h1; subst h2
      exact ⟨a0, rfl, e0, by decide, by decide⟩
    | 1, h1, h2 =>
      simp at h1 h2
      subst h1; subst h2
      exact ⟨a1, rfl, e1, by decide, by decide⟩
    | i + 2, h1, h2 => simp at h1
  · exact ⟨rv_sym (C := bareC _ W) (a := 0), rv_sym (C := bareC _ W) (a := 1), trivial⟩
#print axioms anyLr
end Go.Proofs.YtcgjnnpgpfmjgaaGreatDoor.Ab
