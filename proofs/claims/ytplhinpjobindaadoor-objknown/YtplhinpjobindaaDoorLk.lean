/- A law of integers: at every choice. -/
import Derived.Test.YtplhinpjobindaaDoorAw
import Derived.Test.YtplhinpjobindaaDoorAk5
import Derived.Test.YtplhinpjobindaaDoorLka
import Derived.Test.YtplhinpjobindaaDoorLkb
namespace Go.Proofs.YtplhinpjobindaaDoor.Ab
open Go.RowKit

theorem anyLk (a0 : Int) (W : World) (h : BndAt W) : Calls Tryd.prog 3 #[.int .i64 a0] W fun e w' => e = .returned (.bool true) ∧ Below W.heap.size W w' := by
  obtain ⟨k0, e0, l0⟩ := wi_nat a0 23 (by decide)
  have hr : isTrueA (callF Tryd.prog (Tabs.mk tis [ [Tryd.f0, Tryd.f1, Tryd.f2, Tryd.f3, Tryd.f4, Tryd.f5, Tryd.f6, Tryd.f7, Tryd.f8, Tryd.f9, Tryd.f10, Tryd.f11, Tryd.f12, Tryd.f13, Tryd.f14, Tryd.f15], [Tryd.f16, Tryd.f17, Tryd.f18, Tryd.f19, Tryd.f20, Tryd.f21, Tryd.f22, Tryd.f23, Tryd.f24, Tryd.f25, Tryd.f26, Tryd.f27, Tryd.f28, Tryd.f29, Tryd.f30, Tryd.f31], [Tryd.f32, Tryd.f33, Tryd.f34, Tryd.f35, Tryd.f36, Tryd.f37, Tryd.f38, Tryd.f39, Tryd.f40, Tryd.f41, Tryd.f42, Tryd.f43, Tryd.f44, Tryd.f45, Tryd.f46, Tryd.f47], [Tryd.f48, Tryd.f49, Tryd.f50, Tryd.f51, Tryd.f52, Tryd.f53, Tryd.f54, Tryd.f55, Tryd.f56, Tryd.f57, Tryd.f58, Tryd.f59, Tryd.f60, Tryd.f61, Tryd.f62, Tryd.f63], [Tryd.f64, Tryd.f65, Tryd.f66, Tryd.f67, Tryd.f68, Tryd.f69, Tryd.f70, Tryd.f71, Tryd.f72, Tryd.f73, Tryd.f74, Tryd.f75, Tryd.f76, Tryd.f77, Tryd.f78, Tryd.f79], [Tryd.f80, Tryd.f81]] globs) (extOr (extTrue 5) (extMod 9 [23] [((k0 : Nat) : Int)])) 1000000 2000 3 [AV.sym 0] Hp.emp 0) = true := by
    match k0, l0 with
    | 0, _ => exact List.all_eq_true.1 rLka [0] (by simp)
    | 1, _ => exact List.all_eq_true.1 rLka [1] (by simp)
    | 2, _ => exact List.all_eq_true.1 rLka [2] (by simp)
    | 3, _ => exact List.all_eq_true.1 rLka [3] (by simp)
    | 4, _ => exact List.all_eq_true.1 rLka [4] (by simp)
    | 5, _ => exact List.all_eq_true.1 rLka [5] (by simp)
    | 6, _ => exact List.all_eq_true.1 rLka [6] (by simp)
    | 7, _ => exact List.all_eq_true.1 rLka [7] (by simp)
    | 8, _ => exact List.all_eq_true.1 rLka [8] (by simp)
    | 9, _ => exact List.all_eq_true.1 rLka [9] (by simp)
    | 10, _ => exact List.all_eq_true.1 rLka [10] (by simp)
    | 11, _ => exact List.all_eq_true.1 rLka [11] (by simp)
    | 12, _ => exact List.all_eq_true.1 rLkb [12] (by simp)
    | 13, _ => exact List.all_eq_true.1 rLkb [13] (by simp)
    | 14, _ => exact List.all_eq_true.1 rLkb [14] (by simp)
    | 15, _ => exact List.all_eq_true.1 rLkb [15] (by simp)
    | 16, _ => exact List.all_eq_true.1 rLkb [16] (by simp)
    | 17, _ => exact List.all_eq_true.1 rLkb [17] (by simp)
    | 18, _ => exact List.all_eq_true.1 rLkb [18] (by simp)
    | 19, _ => exact List.all_eq_true.1 rLkb [19] (by simp)
    | 20, _ => exact List.all_eq_true.1 rLkb [20] (by simp)
    | 21, _ => exact List.all_eq_true.1 rLkb [21] (by simp)
    | 22, _ => exact List.all_eq_true.1 rLkb [22] (by simp)
    | k + 23, h => omega
  refine law_trueF (S := fun i => .int .i64 ([a0].getD i 0)) tabsB_ok tabsB_zero no_num mixed codes tabsB_fns (extOr_ok known5 (ext9 fun i m k h1 h2 => ?_)) hr (globs_ok h) ?_
  · match i, h1, h2 with
    | 0, h1, h2 =>
      simp at h1 h2
      subst h1; subst h2
      exact ⟨a0, rfl, e0, by decide, by decide⟩
    | i + 1, h1, h2 => simp at h1
  · exact ⟨rv_sym (C := bareC _ W) (a := 0), trivial⟩
#print axioms anyLk
end Go.Proofs.YtplhinpjobindaaDoor.Ab
