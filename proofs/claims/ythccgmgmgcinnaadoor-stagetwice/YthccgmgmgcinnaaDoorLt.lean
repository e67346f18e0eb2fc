/- A law of integers: at every choice. -/
import Derived.Test.YthccgmgmgcinnaaDoorAw
import Derived.Test.YthccgmgmgcinnaaDoorAk6
import Derived.Test.YthccgmgmgcinnaaDoorLta
import Derived.Test.YthccgmgmgcinnaaDoorLtb
import Derived.Test.YthccgmgmgcinnaaDoorLtc
import Derived.Test.YthccgmgmgcinnaaDoorLtd
namespace Go.Proofs.YthccgmgmgcinnaaDoor.Ab
open Go.RowKit

theorem anyLt (a0 a1 : Int) (W : World) (h : BndAt W) : Calls Tryd.prog 5 #[.int .i64 a0, .int .i64 a1] W fun e w' => e = .returned (.bool true) ∧ Below W.heap.size W w' := by
  obtain ⟨k0, e0, l0⟩ := wi_nat a0 9 (by decide)
  obtain ⟨k1, e1, l1⟩ := wi_nat a1 1 (by decide)
  have hr : isTrueA (callF Tryd.prog (Tabs.mk tis [ [Tryd.f0, Tryd.f1, Tryd.f2, Tryd.f3, Tryd.f4, Tryd.f5, Tryd.f6, Tryd.f7, Tryd.f8, Tryd.f9, Tryd.f10, Tryd.f11, Tryd.f12, Tryd.f13, Tryd.f14, Tryd.f15], [Tryd.f16, Tryd.f17, Tryd.f18, Tryd.f19, Tryd.f20, Tryd.f21, Tryd.f22, Tryd.f23, Tryd.f24, Tryd.f25, Tryd.f26, Tryd.f27, Tryd.f28, Tryd.f29, Tryd.f30, Tryd.f31], [Tryd.f32, Tryd.f33, Tryd.f34, Tryd.f35, Tryd.f36, Tryd.f37, Tryd.f38, Tryd.f39, Tryd.f40, Tryd.f41, Tryd.f42, Tryd.f43, Tryd.f44, Tryd.f45, Tryd.f46, Tryd.f47], [Tryd.f48, Tryd.f49, Tryd.f50, Tryd.f51, Tryd.f52, Tryd.f53, Tryd.f54, Tryd.f55, Tryd.f56, Tryd.f57, Tryd.f58, Tryd.f59, Tryd.f60, Tryd.f61, Tryd.f62, Tryd.f63], [Tryd.f64, Tryd.f65, Tryd.f66, Tryd.f67, Tryd.f68, Tryd.f69, Tryd.f70, Tryd.f71, Tryd.f72, Tryd.f73, Tryd.f74, Tryd.f75, Tryd.f76, Tryd.f77, Tryd.f78, Tryd.f79], [Tryd.f80, Tryd.f81, Tryd.f82, Tryd.f83, Tryd.f84, Tryd.f85, Tryd.f86, Tryd.f87, Tryd.f88, Tryd.f89, Tryd.f90, Tryd.f91, Tryd.f92, Tryd.f93, Tryd.f94, Tryd.f95], [Tryd.f96, Tryd.f97]] globs) (extOr (extTrue 6) (extMod 7 [9, 1] [((k0 : Nat) : Int), ((k1 : Nat) : Int)])) 1000000 2000 5 [AV.sym 0, AV.isym 1] Hp.emp 0) = true := by
    match k0, l0, k1, l1 with
    | 0, _, 0, _ => exact List.all_eq_true.1 rLta [0, 0] (by simp)
    | 1, _, 0, _ => exact List.all_eq_true.1 rLta [1, 0] (by simp)
    | 2, _, 0, _ => exact List.all_eq_true.1 rLta [2, 0] (by simp)
    | 3, _, 0, _ => exact List.all_eq_true.1 rLta [3, 0] (by simp)
    | 4, _, 0, _ => exact List.all_eq_true.1 rLta [4, 0] (by simp)
    | 5, _, 0, _ => exact List.all_eq_true.1 rLta [5, 0] (by simp)
    | 6, _, 0, _ => exact List.all_eq_true.1 rLtb [6, 0] (by simp)
    | 7, _, 0, _ => exact List.all_eq_true.1 rLtc [7, 0] (by simp)
    | 8, _, 0, _ => exact List.all_eq_true.1 rLtd [8, 0] (by simp)
    | k + 9, h, _, _ => omega
    | _, _, k + 1, h => omega
  refine law_trueF (S := fun i => .int .i64 ([a0, a1].getD i 0)) tabsB_ok tabsB_zero no_num mixed codes tabsB_fns (extOr_ok known6 (ext7 fun i m k h1 h2 => ?_)) hr (globs_ok h) ?_
  · match i, h1, h2 with
    | 0, h1, h2 =>
      simp at h1 h2
      subst h1; subst h2
      exact ⟨a0, rfl, e0, by decide, by decide⟩
    | 1, h1, h2 =>
      simp at h1 h2
      subst h1; subst h2
      exact ⟨a1, rfl, e1, by decide, by decide⟩
    | i + 2, h1, h2 => simp at h1
  · exact ⟨rv_sym (C := bareC _ W) (a := 0), rv_isym (C := bareC _ W) (a := 1) rfl, trivial⟩
#print axioms anyLt
end Go.Proofs.YthccgmgmgcinnaaDoor.Ab
