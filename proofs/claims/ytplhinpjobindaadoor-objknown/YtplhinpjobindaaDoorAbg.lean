/- The listed tables, as the texts Ab want them. -/
import Derived.Test.YtplhinpjobindaaDoorAbt
import Derived.Test.YtplhinpjobindaaDoorQp
namespace Go.Proofs.YtplhinpjobindaaDoor.Ab
open Go.RowKit
variable {S : Nat → Value}

def nums0 : List Int := [0, 0, 0, 2, 2, 2, 2, 3, 1, 1, 0, 0, 1, 4, 0, 0, 2, 2, 1, 1, 2, 2, 2, 1, 1, 0, 2, 3, 2, 2, 1]
def nums1 : List Int := [0, 0, 0, 3000, 0, 2, 0, 0, 0, 0, 0, 0, 0, 0, 0, 0, 0, 0, 0, 0, 0, 0, 0, 0, 0, 0, 0, 0, 0, 0, 0, 0, 0, 0, 0, 0, 0, 0, 0, 0, 0, 0, 0, 0, 0, 0, 0, 0, 0, 0, -9223372036854775808, 9223372036854775807, 0, 4, 0, 0, 0, 0, 0, 0, 0, 0]
def nums2 : List Int := [0, 0, 0, 0, 0, 0, 0, 0, 0, 0, 0, 0, 0, 1, 0, 0, 0, 1, 0, 0, 0, 0, 0, 0, 0, 1, 0, 0, 0, 0, 0, 0, 0, 0, 0, 0, 0, 0, 0, 0, 0, 0, 0, 0, 0, 0, 0, 0, 0, 0, 0, 0, 1, 0, 2, 0, 0, 0, 0, 0, 0, 0, 0, 0, 0, 0, 0, 0, 0, 0, 0, 0, 0, 0, 0, 0, 0, 0, 0, 0, 0, 1, 0, 0, 0, 0, 0, 0, 0, 0, 0, 0, 0, 0, 0, 0, 0, 0, 0, 0, 0, 0, 0, 0, 0, 0, 0, 0, 0, 0, 0, 0, 0, 1, 0, 0, 0, 1, 0, 0, 0, 0, 0, 0]
def globs : List (Nat × AV) := [(0, AV.iptr (nums0.map fun z => AV.ex (.int .i8 z))), (1, AV.iptr (nums1.map fun z => AV.ex (.int .i64 z))), (2, AV.iptr (nums2.map fun z => AV.ex (.int .i8 z)))]
theorem tabsB_ok : TabOk Tryd.prog (Tabs.mk tis [
  [Tryd.f0, Tryd.f1, Tryd.f2, Tryd.f3, Tryd.f4, Tryd.f5, Tryd.f6, Tryd.f7, Tryd.f8, Tryd.f9, Tryd.f10, Tryd.f11, Tryd.f12, Tryd.f13, Tryd.f14, Tryd.f15],
  [Tryd.f16, Tryd.f17, Tryd.f18, Tryd.f19, Tryd.f20, Tryd.f21, Tryd.f22, Tryd.f23, Tryd.f24, Tryd.f25, Tryd.f26, Tryd.f27, Tryd.f28, Tryd.f29, Tryd.f30, Tryd.f31],
  [Tryd.f32, Tryd.f33, Tryd.f34, Tryd.f35, Tryd.f36, Tryd.f37, Tryd.f38, Tryd.f39, Tryd.f40, Tryd.f41, Tryd.f42, Tryd.f43, Tryd.f44, Tryd.f45, Tryd.f46, Tryd.f47],
  [Tryd.f48, Tryd.f49, Tryd.f50, Tryd.f51, Tryd.f52, Tryd.f53, Tryd.f54, Tryd.f55, Tryd.f56, Tryd.f57, Tryd.f58, Tryd.f59, Tryd.f60, Tryd.f61, Tryd.f62, Tryd.f63],
  [Tryd.f64, Tryd.f65, Tryd.f66, Tryd.f67, Tryd.f68, Tryd.f69, Tryd.f70, Tryd.f71, Tryd.f72, Tryd.f73, Tryd.f74, Tryd.f75, Tryd.f76, Tryd.f77, Tryd.f78, Tryd.f79],
  [Tryd.f80, Tryd.f81]] globs) := fun t ti h => tabs_ok t ti h
theorem tabsB_fns : FnsOk Tryd.prog (Tabs.mk tis [
  [Tryd.f0, Tryd.f1, Tryd.f2, Tryd.f3, Tryd.f4, Tryd.f5, Tryd.f6, Tryd.f7, Tryd.f8, Tryd.f9, Tryd.f10, Tryd.f11, Tryd.f12, Tryd.f13, Tryd.f14, Tryd.f15],
  [Tryd.f16, Tryd.f17, Tryd.f18, Tryd.f19, Tryd.f20, Tryd.f21, Tryd.f22, Tryd.f23, Tryd.f24, Tryd.f25, Tryd.f26, Tryd.f27, Tryd.f28, Tryd.f29, Tryd.f30, Tryd.f31],
  [Tryd.f32, Tryd.f33, Tryd.f34, Tryd.f35, Tryd.f36, Tryd.f37, Tryd.f38, Tryd.f39, Tryd.f40, Tryd.f41, Tryd.f42, Tryd.f43, Tryd.f44, Tryd.f45, Tryd.f46, Tryd.f47],
  [Tryd.f48, Tryd.f49, Tryd.f50, Tryd.f51, Tryd.f52, Tryd.f53, Tryd.f54, Tryd.f55, Tryd.f56, Tryd.f57, Tryd.f58, Tryd.f59, Tryd.f60, Tryd.f61, Tryd.f62, Tryd.f63],
  [Tryd.f64, Tryd.f65, Tryd.f66, Tryd.f67, Tryd.f68, Tryd.f69, Tryd.f70, Tryd.f71, Tryd.f72, Tryd.f73, Tryd.f74, Tryd.f75, Tryd.f76, Tryd.f77, Tryd.f78, Tryd.f79],
  [Tryd.f80, Tryd.f81]] globs) := fun f fn h => tabs_fns f fn h
theorem tabsB_zero : zeroB (Tabs.mk tis [
  [Tryd.f0, Tryd.f1, Tryd.f2, Tryd.f3, Tryd.f4, Tryd.f5, Tryd.f6, Tryd.f7, Tryd.f8, Tryd.f9, Tryd.f10, Tryd.f11, Tryd.f12, Tryd.f13, Tryd.f14, Tryd.f15],
  [Tryd.f16, Tryd.f17, Tryd.f18, Tryd.f19, Tryd.f20, Tryd.f21, Tryd.f22, Tryd.f23, Tryd.f24, Tryd.f25, Tryd.f26, Tryd.f27, Tryd.f28, Tryd.f29, Tryd.f30, Tryd.f31],
  [Tryd.f32, Tryd.f33, Tryd.f34, Tryd.f35, Tryd.f36, Tryd.f37, Tryd.f38, Tryd.f39, Tryd.f40, Tryd.f41, Tryd.f42, Tryd.f43, Tryd.f44, Tryd.f45, Tryd.f46, Tryd.f47],
  [Tryd.f48, Tryd.f49, Tryd.f50, Tryd.f51, Tryd.f52, Tryd.f53, Tryd.f54, Tryd.f55, Tryd.f56, Tryd.f57, Tryd.f58, Tryd.f59, Tryd.f60, Tryd.f61, Tryd.f62, Tryd.f63],
  [Tryd.f64, Tryd.f65, Tryd.f66, Tryd.f67, Tryd.f68, Tryd.f69, Tryd.f70, Tryd.f71, Tryd.f72, Tryd.f73, Tryd.f74, Tryd.f75, Tryd.f76, Tryd.f77, Tryd.f78, Tryd.f79],
  [Tryd.f80, Tryd.f81]] globs) = true := tabs_zero
/-- A table lies in memory. -/
def NumsAt (W : World) (g : Nat) (k : IntKind) (l : List Int) : Prop := g < W.heap.size ∧ ∀ (i : Nat) (z : Int), l[i]? = some z → W.cell? ⟨g, i, none⟩ = some (.int k z)
/-- All of them. -/
def BndAt (w : World) : Prop := NumsAt w 0 .i8 nums0 ∧ NumsAt w 1 .i64 nums1 ∧ NumsAt w 2 .i8 nums2 ∧ True
theorem rl_ints {C : Cx} {k : IntKind} : ∀ (l : List Int), RL C (l.map fun z => AV.ex (.int k z)) (l.map (Value.int k))
  | [] => trivial
  | _ :: l => ⟨rv_ex, rl_ints l⟩
theorem rv_nums {w : World} {g : Nat} {k : IntKind} {l : List Int} (h : NumsAt w g k l) : RV (bareC S w) (AV.iptr (l.map fun z => AV.ex (.int k z))) (.pointer (some ⟨g, 0, none⟩)) := by
  refine rv_iptr (us := l.map (Value.int k)) ⟨⟨h.1, h.1⟩, fun i u hu => ?_⟩ (rl_ints _)
  rw [List.getElem?_map] at hu
  obtain ⟨z, hz, rfl⟩ := Option.map_eq_some_iff.1 hu
  rw [Nat.zero_add]
  exact h.2 i z hz
theorem globs_ok {w : World} (h : BndAt w) : ∀ p ∈ (Tabs.mk tis [
  [Tryd.f0, Tryd.f1, Tryd.f2, Tryd.f3, Tryd.f4, Tryd.f5, Tryd.f6, Tryd.f7, Tryd.f8, Tryd.f9, Tryd.f10, Tryd.f11, Tryd.f12, Tryd.f13, Tryd.f14, Tryd.f15],
  [Tryd.f16, Tryd.f17, Tryd.f18, Tryd.f19, Tryd.f20, Tryd.f21, Tryd.f22, Tryd.f23, Tryd.f24, Tryd.f25, Tryd.f26, Tryd.f27, Tryd.f28, Tryd.f29, Tryd.f30, Tryd.f31],
  [Tryd.f32, Tryd.f33, Tryd.f34, Tryd.f35, Tryd.f36, Tryd.f37, Tryd.f38, Tryd.f39, Tryd.f40, Tryd.f41, Tryd.f42, Tryd.f43, Tryd.f44, Tryd.f45, Tryd.f46, Tryd.f47],
  [Tryd.f48, Tryd.f49, Tryd.f50, Tryd.f51, Tryd.f52, Tryd.f53, Tryd.f54, Tryd.f55, Tryd.f56, Tryd.f57, Tryd.f58, Tryd.f59, Tryd.f60, Tryd.f61, Tryd.f62, Tryd.f63],
  [Tryd.f64, Tryd.f65, Tryd.f66, Tryd.f67, Tryd.f68, Tryd.f69, Tryd.f70, Tryd.f71, Tryd.f72, Tryd.f73, Tryd.f74, Tryd.f75, Tryd.f76, Tryd.f77, Tryd.f78, Tryd.f79],
  [Tryd.f80, Tryd.f81]] globs).glob, RV (bareC S w) p.2 (.pointer (some ⟨p.1, 0, none⟩)) := by
  intro p hp
  have hp : p ∈ globs := hp
  obtain ⟨h0, h1, h2, _⟩ := h
  simp only [globs, List.mem_cons, List.not_mem_nil, or_false] at hp
  rcases hp with rfl | rfl | rfl
  · exact rv_nums h0
  · exact rv_nums h1
  · exact rv_nums h2
theorem ints_rl {C : Cx} {k : IntKind} : ∀ {l : List Int} {us : List Value}, RL C (l.map fun z => AV.ex (.int k z)) us → us = l.map (Value.int k)
  | [], [], _ => rfl
  | z :: l, u :: us, h => by rw [List.map_cons, ints_rl h.2, h.1.case.1 rfl]; rfl
  | [], _ :: _, h => h.elim
  | _ :: _, [], h => h.elim
theorem nums_rv {C : Cx} {g : Nat} {k : IntKind} {l : List Int} (h1 : RV C (AV.iptr (l.map fun z => AV.ex (.int k z))) (.pointer (some ⟨g, 0, none⟩))) : NumsAt C.w g k l := by
  obtain ⟨b, off, us, h2, h3, h4⟩ := h1.case.2.2.2.2.1 rfl
  simp only [Value.pointer.injEq, Option.some.injEq, Addr.mk.injEq] at h2
  obtain ⟨rfl, rfl, _⟩ := h2
  obtain rfl := ints_rl h4
  refine ⟨h3.1.1, fun i z hz => ?_⟩
  have := h3.2 i (.int k z) (by rw [List.getElem?_map, hz]; rfl)
  rwa [Nat.zero_add] at this
/-- .. wherever the variables are as the table says. -/
theorem bnd_of_g {C : Cx} (h : GOk (Tabs.mk tis [
  [Tryd.f0, Tryd.f1, Tryd.f2, Tryd.f3, Tryd.f4, Tryd.f5, Tryd.f6, Tryd.f7, Tryd.f8, Tryd.f9, Tryd.f10, Tryd.f11, Tryd.f12, Tryd.f13, Tryd.f14, Tryd.f15],
  [Tryd.f16, Tryd.f17, Tryd.f18, Tryd.f19, Tryd.f20, Tryd.f21, Tryd.f22, Tryd.f23, Tryd.f24, Tryd.f25, Tryd.f26, Tryd.f27, Tryd.f28, Tryd.f29, Tryd.f30, Tryd.f31],
  [Tryd.f32, Tryd.f33, Tryd.f34, Tryd.f35, Tryd.f36, Tryd.f37, Tryd.f38, Tryd.f39, Tryd.f40, Tryd.f41, Tryd.f42, Tryd.f43, Tryd.f44, Tryd.f45, Tryd.f46, Tryd.f47],
  [Tryd.f48, Tryd.f49, Tryd.f50, Tryd.f51, Tryd.f52, Tryd.f53, Tryd.f54, Tryd.f55, Tryd.f56, Tryd.f57, Tryd.f58, Tryd.f59, Tryd.f60, Tryd.f61, Tryd.f62, Tryd.f63],
  [Tryd.f64, Tryd.f65, Tryd.f66, Tryd.f67, Tryd.f68, Tryd.f69, Tryd.f70, Tryd.f71, Tryd.f72, Tryd.f73, Tryd.f74, Tryd.f75, Tryd.f76, Tryd.f77, Tryd.f78, Tryd.f79],
  [Tryd.f80, Tryd.f81]] globs) S C) : BndAt C.w := by
  have h1 : ∀ p ∈ globs, RV C p.2 (.pointer (some ⟨p.1, 0, none⟩)) := h.1
  exact ⟨nums_rv (h1 (0, AV.iptr (nums0.map fun z => AV.ex (.int .i8 z))) (.head _)), nums_rv (h1 (1, AV.iptr (nums1.map fun z => AV.ex (.int .i64 z))) (.tail _ (.head _))), nums_rv (h1 (2, AV.iptr (nums2.map fun z => AV.ex (.int .i8 z))) (.tail _ (.tail _ (.head _)))), trivial⟩
#print axioms globs_ok
#print axioms bnd_of_g
end Go.Proofs.YtplhinpjobindaaDoor.Ab
