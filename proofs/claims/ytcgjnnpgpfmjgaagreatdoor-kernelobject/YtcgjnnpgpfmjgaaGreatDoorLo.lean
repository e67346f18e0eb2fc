/- A law of integers: at every choice. -/
import Derived.Test.YtcgjnnpgpfmjgaaGreatDoorAw
import Derived.Test.YtcgjnnpgpfmjgaaGreatDoorAk7
import Derived.Test.YtcgjnnpgpfmjgaaGreatDoorLoa
import Derived.Test.YtcgjnnpgpfmjgaaGreatDoorLob
import Derived.Test.YtcgjnnpgpfmjgaaGreatDoorLoc
namespace Go.Proofs.YtcgjnnpgpfmjgaaGreatDoor.Ab
open Go.RowKit

theorem anyLo (a0 : Int) (W : World) (h : BndAt W) : Calls Tryz.prog 4 #[.int .i64 a0] W fun e w' => e = .returned (.bool true) ∧ Below W.heap.size W w' := by
  obtain ⟨k0, e0, l0⟩ := wi_nat a0 27 (by decide)
  have hr : isTrueA (callF Tryz.prog (Tabs.mk tis [ [Tryz.f0, Tryz.f1, Tryz.f2, Tryz.f3, Tryz.f4, Tryz.f5, Tryz.f6, Tryz.f7, Tryz.f8, Tryz.f9, Tryz.f10, Tryz.f11, Tryz.f12, Tryz.f13, Tryz.f14, Tryz.f15], [Tryz.f16, Tryz.f17, Tryz.f18, Tryz.f19, Tryz.f20, Tryz.f21, Tryz.f22, Tryz.f23, Tryz.f24, Tryz.f25, Tryz.f26, Tryz.f27, Tryz.f28, Tryz.f29, Tryz.f30, Tryz.f31], [Tryz.f32, Tryz.f33, Tryz.f34, Tryz.f35, Tryz.f36, Tryz.f37, Tryz.f38, Tryz.f39, Tryz.f40, Tryz.f41, Tryz.f42, Tryz.f43, Tryz.f44, Tryz.f45, Tryz.f46, Tryz.f47], [Tryz.f48, Tryz.f49, Tryz.f50, Tryz.f51, Tryz.f52, Tryz.f53, Tryz.f54, Tryz.f55, Tryz.f56, Tryz.f57, Tryz.f58, Tryz.f59, Tryz.f60, Tryz.f61, Tryz.f62, Tryz.f63], [Tryz.f64, Tryz.f65, Tryz.f66, Tryz.f67, Tryz.f68, Tryz.f69, Tryz.f70, Tryz.f71, Tryz.f72, Tryz.f73, Tryz.f74, Tryz.f75, Tryz.f76, Tryz.f77, Tryz.f78, Tryz.f79], [Tryz.f80, Tryz.f81, Tryz.f82, Tryz.f83, Tryz.f84, Tryz.f85, Tryz.f86, Tryz.f87, Tryz.f88, Tryz.f89, Tryz.f90, Tryz.f91, Tryz.f92, Tryz.f93, Tryz.f94, Tryz.f95], [Tryz.f96, Tryz.f97, Tryz.f98, Tryz.f99, Tryz.f100, Tryz.f101, Tryz.f102, Tryz.f103, Tryz.f104, Tryz.f105, Tryz.f106, Tryz.f107, Tryz.f108, Tryz.f109, Tryz.f110, Tryz.f111], [Tryz.f112, Tryz.f113, Tryz.f114, Tryz.f115, Tryz.f116, Tryz.f117, Tryz.f118, Tryz.f119, Tryz.f120, Tryz.f121, Tryz.f122, Tryz.f123, Tryz.f124, Tryz.f125, Tryz.f126, Tryz.f127], [Tryz.f128, Tryz.f129, Tryz.f130, Tryz.f131, Tryz.f132, Tryz.f133, Tryz.f134, Tryz.f135, Tryz.f136, Tryz.f137, Tryz.f138, Tryz.f139, Tryz.f140, Tryz.f141, Tryz.f142, Tryz.f143], [Tryz.f144, Tryz.f145, Tryz.f146]] globs) (extOr (extTrue 7) (extMod 12 [27] [((k0 : Nat) : Int)])) 1000000 2000 4 [AV.sym 0] Hp.emp 0) = true := by
    match k0, l0 with
    | 0, _ => exact List.all_eq_true.1 rLoa [0] (by simp)
    | 1, _ => exact List.all_eq_true.1 rLoa [1] (by simp)
    | 2, _ => exact List.all_eq_true.1 rLoa [2] (by simp)
    | 3, _ => exact List.all_eq_true.1 rLoa [3] (by simp)
    | 4, _ => exact List.all_eq_true.1 rLoa [4] (by simp)
    | 5, _ => exact List.all_eq_true.1 rLoa [5] (by simp)
    | 6, _ => exact List.all_eq_true.1 rLoa [6] (by simp)
    | 7, _ => exact List.all_eq_true.1 rLoa [7] (by simp)
    | 8, _ => exact List.all_eq_true.1 rLoa [8] (by simp)
    | 9, _ => exact List.all_eq_true.1 rLob [9] (by simp)
    | 10, _ => exact List.all_eq_true.1 rLob [10] (by simp)
    | 11, _ => exact List.all_eq_true.1 rLob [11] (by simp)
    | 12, _ => exact List.all_eq_true.1 rLob [12] (by simp)
    | 13, _ => exact List.all_eq_true.1 rLob [13] (by simp)
    | 14, _ => exact List.all_eq_true.1 rLob [14] (by simp)
    | 15, _ => exact List.all_eq_true.1 rLob [15] (by simp)
    | 16, _ => exact List.all_eq_true.1 rLob [16] (by simp)
    | 17, _ => exact List.all_eq_true.1 rLob [17] (by simp)
    | 18, _ => exact List.all_eq_true.1 rLoc [18] (by simp)
    | 19, _ => exact List.all_eq_true.1 rLoc [19] (by simp)
    | 20, _ => exact List.all_eq_true.1 rLoc [20] (by simp)
    | 21, _ => exact List.all_eq_true.1 rLoc [21] (by simp)
    | 22, _ => exact List.all_eq_true.1 rLoc [22] (by simp)
    | 23, _ => exact List.all_eq_true.1 rLoc [23] (by simp)
    | 24, _ => exact List.all_eq_true.1 rLoc [24] (by simp)
    | 25, _ => exact List.all_eq_true.1 rLoc [25] (by simp)
    | 26, _ => exact List.all_eq_true.1 rLoc [26] (by simp)
    | k + 27, h => omega
  refine law_trueF (S := fun i => .int .i64 ([a0].getD i 0)) tabsB_ok tabsB_zero no_num mixed codes tabsB_fns (extOr_ok known7 (ext12 fun i m k h1 h2 => ?_)) hr (globs_ok h) ?_
  · match i, h1, h2 with
    | 0, h1, h2 =>
      simp at h1 h2
      subst h1; subst h2
      exact ⟨a0, rfl, e0, by decide, by decide⟩
    | i + 1, h1, h2 => simp at h1
  · exact ⟨rv_sym (C := bareC _ W) (a := 0), trivial⟩
#print axioms anyLo
end Go.Proofs.YtcgjnnpgpfmjgaaGreatDoor.Ab
