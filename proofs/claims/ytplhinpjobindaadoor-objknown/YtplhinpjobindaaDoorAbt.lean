/- The rows of the program's types, as the texts Ab want them; they are right. -/
import Derived.Test.YtplhinpjobindaaDoorQp
import Derived.Test.YtplhinpjobindaaDoorChecked
namespace Go.Proofs.YtplhinpjobindaaDoor.Ab
open Go.RowKit

def tis : List (List (Option TI)) := [
  [none, some ⟨9, 1, 8, [5], 0, 0, []⟩, some ⟨4, 1, 8, [0], 0, 0, []⟩, some ⟨4, 1, 8, [0], 0, 0, []⟩, some ⟨0, 1, 1, [1], 0, 0, []⟩, some ⟨4, 1, 1, [7], 0, 0, []⟩, some ⟨4, 1, 1, [7], 0, 0, []⟩, some ⟨1, 4, 24, [0, 0, 1, 7], 0, 0, [(0, 2), (1, 3), (2, 4), (3, 6)]⟩, some ⟨1, 4, 24, [0, 0, 1, 7], 0, 0, [(0, 2), (1, 3), (2, 4), (3, 6)]⟩, some ⟨5, 1, 16, [2], 0, 0, []⟩, some ⟨5, 1, 16, [2], 0, 0, []⟩, some ⟨5, 1, 16, [2], 0, 0, []⟩, some ⟨4, 1, 8, [11], 0, 0, []⟩, some ⟨1, 2, 24, [2, 11], 0, 0, [(0, 9), (1, 12)]⟩, some ⟨1, 2, 24, [2, 11], 0, 0, [(0, 9), (1, 12)]⟩, some ⟨6, 1, 8, [3], 87, 0, []⟩],
  [some ⟨6, 1, 8, [3], 90, 0, []⟩, some ⟨6, 1, 8, [3], 100, 0, []⟩, some ⟨1, 1, 8, [3], 0, 0, [(0, 17)]⟩, some ⟨1, 1, 8, [3], 0, 0, [(0, 17)]⟩, some ⟨7, 1, 16, [6], 0, 0, []⟩, some ⟨4, 1, 4, [10], 0, 0, []⟩, some ⟨9, 1, 8, [5], 0, 0, []⟩, some ⟨9, 1, 8, [5], 0, 0, []⟩, some ⟨3, 1, 24, [4], 26, 0, []⟩, some ⟨1, 3, 40, [0, 0, 4], 0, 0, [(0, 3), (1, 3), (2, 24)]⟩, some ⟨1, 3, 40, [0, 0, 4], 0, 0, [(0, 3), (1, 3), (2, 24)]⟩, some ⟨9, 1, 8, [5], 0, 0, []⟩, some ⟨3, 1, 24, [4], 9, 0, []⟩, some ⟨9, 1, 8, [5], 0, 0, []⟩, some ⟨9, 1, 8, [5], 0, 0, []⟩, some ⟨9, 1, 8, [5], 0, 0, []⟩],
  [some ⟨4, 1, 8, [11], 0, 0, []⟩, some ⟨4, 1, 8, [0], 0, 0, []⟩, none, some ⟨9, 1, 8, [5], 0, 0, []⟩, some ⟨9, 1, 8, [5], 0, 0, []⟩, some ⟨9, 1, 8, [5], 0, 0, []⟩, some ⟨9, 1, 8, [5], 0, 0, []⟩, some ⟨9, 1, 8, [5], 0, 0, []⟩, some ⟨9, 1, 8, [5], 0, 0, []⟩, some ⟨9, 1, 8, [5], 0, 0, []⟩, some ⟨6, 1, 8, [3], 49, 0, []⟩, some ⟨9, 1, 8, [5], 0, 0, []⟩, some ⟨9, 1, 8, [5], 0, 0, []⟩, some ⟨9, 1, 8, [5], 0, 0, []⟩, some ⟨9, 1, 8, [5], 0, 0, []⟩, some ⟨2, 31, 248, [5, 5, 5, 5, 5, 5, 5, 5, 5, 5, 5, 5, 5, 5, 5, 5, 5, 5, 5, 5, 5, 5, 5, 5, 5, 5, 5, 5, 5, 5, 5], 46, 31, []⟩],
  [some ⟨1, 33, 280, [5, 5, 5, 5, 5, 5, 5, 5, 5, 5, 5, 5, 5, 5, 5, 5, 5, 5, 5, 5, 5, 5, 5, 5, 5, 5, 5, 5, 5, 5, 5, 4, 0], 0, 0, [(0, 47), (31, 24), (32, 33)]⟩, some ⟨1, 33, 280, [5, 5, 5, 5, 5, 5, 5, 5, 5, 5, 5, 5, 5, 5, 5, 5, 5, 5, 5, 5, 5, 5, 5, 5, 5, 5, 5, 5, 5, 5, 5, 4, 0], 0, 0, [(0, 47), (31, 24), (32, 33)]⟩, some ⟨9, 1, 8, [5], 0, 0, []⟩, some ⟨9, 1, 8, [5], 0, 0, []⟩, some ⟨9, 1, 8, [5], 0, 0, []⟩, some ⟨1, 1, 8, [0], 0, 0, [(0, 3)]⟩, some ⟨1, 1, 8, [0], 0, 0, [(0, 3)]⟩, some ⟨9, 1, 8, [5], 0, 0, []⟩, some ⟨9, 1, 8, [5], 0, 0, []⟩, some ⟨9, 1, 8, [5], 0, 0, []⟩, some ⟨9, 1, 8, [5], 0, 0, []⟩, some ⟨9, 1, 8, [5], 0, 0, []⟩, some ⟨1, 2, 16, [0, 0], 0, 0, [(0, 3), (1, 3)]⟩, some ⟨1, 2, 16, [0, 0], 0, 0, [(0, 3), (1, 3)]⟩, some ⟨9, 1, 8, [5], 0, 0, []⟩, some ⟨9, 1, 8, [5], 0, 0, []⟩],
  [some ⟨3, 1, 24, [4], 5, 0, []⟩, some ⟨6, 1, 8, [3], 54, 0, []⟩, some ⟨1, 2, 16, [0, 0], 0, 0, [(0, 3), (1, 3)]⟩, some ⟨1, 2, 16, [0, 0], 0, 0, [(0, 3), (1, 3)]⟩, none, some ⟨9, 1, 8, [5], 0, 0, []⟩, some ⟨9, 1, 8, [5], 0, 0, []⟩, some ⟨4, 1, 1, [8], 0, 0, []⟩, some ⟨2, 31, 31, [8, 8, 8, 8, 8, 8, 8, 8, 8, 8, 8, 8, 8, 8, 8, 8, 8, 8, 8, 8, 8, 8, 8, 8, 8, 8, 8, 8, 8, 8, 8], 71, 31, []⟩, some ⟨1, 2, 16, [0, 0], 0, 0, [(0, 3), (1, 3)]⟩, some ⟨1, 2, 16, [0, 0], 0, 0, [(0, 3), (1, 3)]⟩, some ⟨2, 62, 496, [0, 0, 0, 0, 0, 0, 0, 0, 0, 0, 0, 0, 0, 0, 0, 0, 0, 0, 0, 0, 0, 0, 0, 0, 0, 0, 0, 0, 0, 0, 0, 0, 0, 0, 0, 0, 0, 0, 0, 0, 0, 0, 0, 0, 0, 0, 0, 0, 0, 0, 0, 0, 0, 0, 0, 0, 0, 0, 0, 0, 0, 0], 74, 31, []⟩, some ⟨9, 1, 8, [5], 0, 0, []⟩, some ⟨9, 1, 8, [5], 0, 0, []⟩, some ⟨2, 6, 80, [0, 0, 4, 0, 0, 4], 26, 2, []⟩, some ⟨9, 1, 8, [5], 0, 0, []⟩],
  [some ⟨1, 1, 8, [0], 0, 0, [(0, 3)]⟩, some ⟨9, 1, 8, [5], 0, 0, []⟩, some ⟨2, 4, 4, [8, 8, 8, 8], 71, 4, []⟩, some ⟨2, 124, 124, [8, 8, 8, 8, 8, 8, 8, 8, 8, 8, 8, 8, 8, 8, 8, 8, 8, 8, 8, 8, 8, 8, 8, 8, 8, 8, 8, 8, 8, 8, 8, 8, 8, 8, 8, 8, 8, 8, 8, 8, 8, 8, 8, 8, 8, 8, 8, 8, 8, 8, 8, 8, 8, 8, 8, 8, 8, 8, 8, 8, 8, 8, 8, 8, 8, 8, 8, 8, 8, 8, 8, 8, 8, 8, 8, 8, 8, 8, 8, 8, 8, 8, 8, 8, 8, 8, 8, 8, 8, 8, 8, 8, 8, 8, 8, 8, 8, 8, 8, 8, 8, 8, 8, 8, 8, 8, 8, 8, 8, 8, 8, 8, 8, 8, 8, 8, 8, 8, 8, 8, 8, 8, 8, 8], 82, 31, []⟩, some ⟨9, 1, 8, [5], 0, 0, []⟩, some ⟨6, 1, 8, [3], 80, 0, []⟩, some ⟨1, 4, 40, [3, 3, 3, 2], 0, 0, [(0, 17), (1, 17), (2, 17), (3, 9)]⟩, some ⟨1, 4, 40, [3, 3, 3, 2], 0, 0, [(0, 17), (1, 17), (2, 17), (3, 9)]⟩, some ⟨2, 0, 0, [], 16, 0, []⟩, some ⟨1, 0, 0, [], 0, 0, [(0, 88)]⟩, some ⟨1, 0, 0, [], 0, 0, [(0, 88)]⟩, some ⟨9, 1, 8, [5], 0, 0, []⟩, some ⟨4, 1, 4, [12], 0, 0, []⟩, some ⟨4, 1, 1, [7], 0, 0, []⟩, some ⟨4, 1, 1, [7], 0, 0, []⟩, some ⟨9, 1, 8, [5], 0, 0, []⟩],
  [some ⟨6, 1, 8, [3], 5, 0, []⟩, some ⟨4, 1, 4, [10], 0, 0, []⟩, some ⟨4, 1, 4, [10], 0, 0, []⟩, some ⟨1, 11, 48, [11, 11, 12, 7, 7, 7, 7, 5, 3, 10, 10], 0, 0, [(0, 12), (1, 12), (2, 92), (3, 93), (4, 5), (5, 5), (6, 94), (7, 95), (8, 96), (9, 97), (10, 98)]⟩, some ⟨1, 11, 48, [11, 11, 12, 7, 7, 7, 7, 5, 3, 10, 10], 0, 0, [(0, 12), (1, 12), (2, 92), (3, 93), (4, 5), (5, 5), (6, 94), (7, 95), (8, 96), (9, 97), (10, 98)]⟩, some ⟨0, 1, 8, [3], 0, 0, []⟩]]
set_option maxRecDepth 100000 in
theorem fns_flat : Tryd.prog.funcs.toList = List.flatten [
  [Tryd.f0, Tryd.f1, Tryd.f2, Tryd.f3, Tryd.f4, Tryd.f5, Tryd.f6, Tryd.f7, Tryd.f8, Tryd.f9, Tryd.f10, Tryd.f11, Tryd.f12, Tryd.f13, Tryd.f14, Tryd.f15],
  [Tryd.f16, Tryd.f17, Tryd.f18, Tryd.f19, Tryd.f20, Tryd.f21, Tryd.f22, Tryd.f23, Tryd.f24, Tryd.f25, Tryd.f26, Tryd.f27, Tryd.f28, Tryd.f29, Tryd.f30, Tryd.f31],
  [Tryd.f32, Tryd.f33, Tryd.f34, Tryd.f35, Tryd.f36, Tryd.f37, Tryd.f38, Tryd.f39, Tryd.f40, Tryd.f41, Tryd.f42, Tryd.f43, Tryd.f44, Tryd.f45, Tryd.f46, Tryd.f47],
  [Tryd.f48, Tryd.f49, Tryd.f50, Tryd.f51, Tryd.f52, Tryd.f53, Tryd.f54, Tryd.f55, Tryd.f56, Tryd.f57, Tryd.f58, Tryd.f59, Tryd.f60, Tryd.f61, Tryd.f62, Tryd.f63],
  [Tryd.f64, Tryd.f65, Tryd.f66, Tryd.f67, Tryd.f68, Tryd.f69, Tryd.f70, Tryd.f71, Tryd.f72, Tryd.f73, Tryd.f74, Tryd.f75, Tryd.f76, Tryd.f77, Tryd.f78, Tryd.f79],
  [Tryd.f80, Tryd.f81]] := by kernel_rfl
theorem tabs_fns : FnsOk Tryd.prog (Tabs.mk tis [
  [Tryd.f0, Tryd.f1, Tryd.f2, Tryd.f3, Tryd.f4, Tryd.f5, Tryd.f6, Tryd.f7, Tryd.f8, Tryd.f9, Tryd.f10, Tryd.f11, Tryd.f12, Tryd.f13, Tryd.f14, Tryd.f15],
  [Tryd.f16, Tryd.f17, Tryd.f18, Tryd.f19, Tryd.f20, Tryd.f21, Tryd.f22, Tryd.f23, Tryd.f24, Tryd.f25, Tryd.f26, Tryd.f27, Tryd.f28, Tryd.f29, Tryd.f30, Tryd.f31],
  [Tryd.f32, Tryd.f33, Tryd.f34, Tryd.f35, Tryd.f36, Tryd.f37, Tryd.f38, Tryd.f39, Tryd.f40, Tryd.f41, Tryd.f42, Tryd.f43, Tryd.f44, Tryd.f45, Tryd.f46, Tryd.f47],
  [Tryd.f48, Tryd.f49, Tryd.f50, Tryd.f51, Tryd.f52, Tryd.f53, Tryd.f54, Tryd.f55, Tryd.f56, Tryd.f57, Tryd.f58, Tryd.f59, Tryd.f60, Tryd.f61, Tryd.f62, Tryd.f63],
  [Tryd.f64, Tryd.f65, Tryd.f66, Tryd.f67, Tryd.f68, Tryd.f69, Tryd.f70, Tryd.f71, Tryd.f72, Tryd.f73, Tryd.f74, Tryd.f75, Tryd.f76, Tryd.f77, Tryd.f78, Tryd.f79],
  [Tryd.f80, Tryd.f81]] []) := fnsOk_of fns_flat (by kernel_rfl)
set_option maxRecDepth 100000 in
theorem tabs_chk : chkTab (tiB Tryd.prog) 0 tis = true := by kernel_rfl
theorem tabs_ok : TabOk Tryd.prog (Tabs.mk tis [
  [Tryd.f0, Tryd.f1, Tryd.f2, Tryd.f3, Tryd.f4, Tryd.f5, Tryd.f6, Tryd.f7, Tryd.f8, Tryd.f9, Tryd.f10, Tryd.f11, Tryd.f12, Tryd.f13, Tryd.f14, Tryd.f15],
  [Tryd.f16, Tryd.f17, Tryd.f18, Tryd.f19, Tryd.f20, Tryd.f21, Tryd.f22, Tryd.f23, Tryd.f24, Tryd.f25, Tryd.f26, Tryd.f27, Tryd.f28, Tryd.f29, Tryd.f30, Tryd.f31],
  [Tryd.f32, Tryd.f33, Tryd.f34, Tryd.f35, Tryd.f36, Tryd.f37, Tryd.f38, Tryd.f39, Tryd.f40, Tryd.f41, Tryd.f42, Tryd.f43, Tryd.f44, Tryd.f45, Tryd.f46, Tryd.f47],
  [Tryd.f48, Tryd.f49, Tryd.f50, Tryd.f51, Tryd.f52, Tryd.f53, Tryd.f54, Tryd.f55, Tryd.f56, Tryd.f57, Tryd.f58, Tryd.f59, Tryd.f60, Tryd.f61, Tryd.f62, Tryd.f63],
  [Tryd.f64, Tryd.f65, Tryd.f66, Tryd.f67, Tryd.f68, Tryd.f69, Tryd.f70, Tryd.f71, Tryd.f72, Tryd.f73, Tryd.f74, Tryd.f75, Tryd.f76, Tryd.f77, Tryd.f78, Tryd.f79],
  [Tryd.f80, Tryd.f81]] []) := tabOk_of tabs_chk
set_option maxRecDepth 100000 in
theorem tabs_zero : zeroB (Tabs.mk tis [
  [Tryd.f0, Tryd.f1, Tryd.f2, Tryd.f3, Tryd.f4, Tryd.f5, Tryd.f6, Tryd.f7, Tryd.f8, Tryd.f9, Tryd.f10, Tryd.f11, Tryd.f12, Tryd.f13, Tryd.f14, Tryd.f15],
  [Tryd.f16, Tryd.f17, Tryd.f18, Tryd.f19, Tryd.f20, Tryd.f21, Tryd.f22, Tryd.f23, Tryd.f24, Tryd.f25, Tryd.f26, Tryd.f27, Tryd.f28, Tryd.f29, Tryd.f30, Tryd.f31],
  [Tryd.f32, Tryd.f33, Tryd.f34, Tryd.f35, Tryd.f36, Tryd.f37, Tryd.f38, Tryd.f39, Tryd.f40, Tryd.f41, Tryd.f42, Tryd.f43, Tryd.f44, Tryd.f45, Tryd.f46, Tryd.f47],
  [Tryd.f48, Tryd.f49, Tryd.f50, Tryd.f51, Tryd.f52, Tryd.f53, Tryd.f54, Tryd.f55, Tryd.f56, Tryd.f57, Tryd.f58, Tryd.f59, Tryd.f60, Tryd.f61, Tryd.f62, Tryd.f63],
  [Tryd.f64, Tryd.f65, Tryd.f66, Tryd.f67, Tryd.f68, Tryd.f69, Tryd.f70, Tryd.f71, Tryd.f72, Tryd.f73, Tryd.f74, Tryd.f75, Tryd.f76, Tryd.f77, Tryd.f78, Tryd.f79],
  [Tryd.f80, Tryd.f81]] []) = true := by kernel_rfl
set_option maxRecDepth 100000 in
theorem no_num : noNum Tryd.prog = true := by kernel_rfl
set_option maxRecDepth 100000 in
theorem mixed : Tryd.prog.follows .mixedOrders = true := by kernel_rfl
#print axioms mixed
end Go.Proofs.YtplhinpjobindaaDoor.Ab
