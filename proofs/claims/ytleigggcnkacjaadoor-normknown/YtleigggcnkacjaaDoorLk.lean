/- A law of integers: at every choice. -/
import Derived.Test.YtleigggcnkacjaaDoorAw
import Derived.Test.YtleigggcnkacjaaDoorAk18
import Derived.Test.YtleigggcnkacjaaDoorLka
import Derived.Test.YtleigggcnkacjaaDoorLkb
import Derived.Test.YtleigggcnkacjaaDoorLkc
import Derived.Test.YtleigggcnkacjaaDoorLkd
namespace Go.Proofs.YtleigggcnkacjaaDoor.Ab
open Go.RowKit

theorem anyLk (a0 : Int) (W : World) (h : BndAt W) : Calls Tryd.prog 7 #[.int .i64 a0] W fun e w' => e = .returned (.bool true) ∧ Below W.heap.size W w' := by
  obtain ⟨k0, e0, l0⟩ := wi_nat a0 12 (by decide)
  have hr : isTrueA (callA Tryd.prog (Tabs.mk tis [ [Tryd.f0, Tryd.f1, Tryd.f2, Tryd.f3, Tryd.f4, Tryd.f5, Tryd.f6, Tryd.f7, Tryd.f8, Tryd.f9, Tryd.f10, Tryd.f11, Tryd.f12, Tryd.f13, Tryd.f14, Tryd.f15], [Tryd.f16, Tryd.f17, Tryd.f18, Tryd.f19, Tryd.f20, Tryd.f21, Tryd.f22, Tryd.f23, Tryd.f24, Tryd.f25, Tryd.f26, Tryd.f27, Tryd.f28, Tryd.f29, Tryd.f30, Tryd.f31], [Tryd.f32, Tryd.f33, Tryd.f34, Tryd.f35, Tryd.f36, Tryd.f37, Tryd.f38, Tryd.f39, Tryd.f40, Tryd.f41, Tryd.f42, Tryd.f43, Tryd.f44, Tryd.f45, Tryd.f46, Tryd.f47], [Tryd.f48, Tryd.f49, Tryd.f50, Tryd.f51, Tryd.f52, Tryd.f53, Tryd.f54, Tryd.f55, Tryd.f56, Tryd.f57, Tryd.f58, Tryd.f59, Tryd.f60, Tryd.f61, Tryd.f62, Tryd.f63], [Tryd.f64, Tryd.f65, Tryd.f66, Tryd.f67, Tryd.f68, Tryd.f69, Tryd.f70, Tryd.f71, Tryd.f72, Tryd.f73, Tryd.f74, Tryd.f75, Tryd.f76, Tryd.f77, Tryd.f78, Tryd.f79], [Tryd.f80, Tryd.f81, Tryd.f82, Tryd.f83, Tryd.f84, Tryd.f85, Tryd.f86, Tryd.f87, Tryd.f88, Tryd.f89, Tryd.f90, Tryd.f91, Tryd.f92, Tryd.f93, Tryd.f94, Tryd.f95], [Tryd.f96, Tryd.f97, Tryd.f98, Tryd.f99, Tryd.f100, Tryd.f101, Tryd.f102, Tryd.f103, Tryd.f104, Tryd.f105, Tryd.f106, Tryd.f107, Tryd.f108, Tryd.f109, Tryd.f110, Tryd.f111], [Tryd.f112, Tryd.f113, Tryd.f114, Tryd.f115, Tryd.f116, Tryd.f117, Tryd.f118, Tryd.f119, Tryd.f120, Tryd.f121, Tryd.f122, Tryd.f123, Tryd.f124, Tryd.f125, Tryd.f126, Tryd.f127], [Tryd.f128, Tryd.f129, Tryd.f130, Tryd.f131, Tryd.f132, Tryd.f133, Tryd.f134, Tryd.f135, Tryd.f136, Tryd.f137, Tryd.f138, Tryd.f139, Tryd.f140, Tryd.f141, Tryd.f142, Tryd.f143], [Tryd.f144, Tryd.f145, Tryd.f146, Tryd.f147]] globs) (extOr (extTrue 18) (extMod 32 [12] [((k0 : Nat) : Int)])) 1000000 2000 7 [AV.sym 0] Hp.emp 0) = true := by
    match k0, l0 with
    | 0, _ => exact rLk_0
    | 1, _ => exact rLk_1
    | 2, _ => exact rLk_2
    | 3, _ => exact rLk_3
    | 4, _ => exact rLk_4
    | 5, _ => exact rLk_5
    | 6, _ => exact rLk_6
    | 7, _ => exact rLk_7
    | 8, _ => exact rLk_8
    | 9, _ => exact rLk_9
    | 10, _ => exact rLk_10
    | 11, _ => exact rLk_11
    | k + 12, h => omega
  refine law_true (S := fun i => .int .i64 ([a0].getD i 0)) tabsB_ok tabsB_zero no_num mixed codes tabsB_fns (extOr_ok known18 (ext32 fun i m k h1 h2 => ?_)) hr (globs_ok h) ?_
  · match i, h1, h2 with
    | 0, h1, h2 =>
      simp at h1 h2
      subst h1; subst h2
      exact ⟨a0, rfl, e0, by decide, by decide⟩
    | i + 1, h1, h2 => simp at h1
  · exact ⟨rv_sym (C := bareC _ W) (a := 0), trivial⟩
#print axioms anyLk
end Go.Proofs.YtleigggcnkacjaaDoor.Ab
