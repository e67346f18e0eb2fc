/- Runs of a law, at some choices. -/
import Derived.Test.YtplhinpjobindaaDoorAbg
import Derived.Test.YtplhinpjobindaaDoorQbc
namespace Go.Proofs.YtplhinpjobindaaDoor.Ab
open Go.RowKit
set_option maxRecDepth 100000 in
theorem rLka : (([[0], [1], [2], [3], [4], [5], [6], [7], [8], [9], [10], [11]] : List (List Int)).all fun om => isTrueA (callF Tryd.prog (Tabs.mk tis [ [Tryd.f0, Tryd.f1, Tryd.f2, Tryd.f3, Tryd.f4, Tryd.f5, Tryd.f6, Tryd.f7, Tryd.f8, Tryd.f9, Tryd.f10, Tryd.f11, Tryd.f12, Tryd.f13, Tryd.f14, Tryd.f15], [Tryd.f16, Tryd.f17, Tryd.f18, Tryd.f19, Tryd.f20, Tryd.f21, Tryd.f22, Tryd.f23, Tryd.f24, Tryd.f25, Tryd.f26, Tryd.f27, Tryd.f28, Tryd.f29, Tryd.f30, Tryd.f31], [Tryd.f32, Tryd.f33, Tryd.f34, Tryd.f35, Tryd.f36, Tryd.f37, Tryd.f38, Tryd.f39, Tryd.f40, Tryd.f41, Tryd.f42, Tryd.f43, Tryd.f44, Tryd.f45, Tryd.f46, Tryd.f47], [Tryd.f48, Tryd.f49, Tryd.f50, Tryd.f51, Tryd.f52, Tryd.f53, Tryd.f54, Tryd.f55, Tryd.f56, Tryd.f57, Tryd.f58, Tryd.f59, Tryd.f60, Tryd.f61, Tryd.f62, Tryd.f63], [Tryd.f64, Tryd.f65, Tryd.f66, Tryd.f67, Tryd.f68, Tryd.f69, Tryd.f70, Tryd.f71, Tryd.f72, Tryd.f73, Tryd.f74, Tryd.f75, Tryd.f76, Tryd.f77, Tryd.f78, Tryd.f79], [Tryd.f80, Tryd.f81]] globs) (extOr (extTrue 5) (extMod 9 [23] om)) 1000000 2000 3 [AV.sym 0] Hp.emp 0)) = true := by kernel_rfl
#print axioms rLka
end Go.Proofs.YtplhinpjobindaaDoor.Ab
