/- The six terms of TermKnown. -/
import Derived.Test.YtpmaagafcpaajabDoorLd
namespace Go.Proofs.YtpmaagafcpaajabDoor
open Go.RowKit

theorem shf_mk (b fr u o n : Int) (ks : List Tr) : shf b fr u ⟨o, n, ks⟩ = ⟨o, if o = 1 ∧ fr + u ≤ n then n + b else n, ks.mapIdx (fun j k => shf b fr (u + (bnd o ((j : Nat) : Int) : Nat)) k)⟩ := shf_eq b fr u _
theorem sub_mk (n : Int) (s : Tr) (u o m : Int) (ks : List Tr) : sub n s u ⟨o, m, ks⟩ = if o = 1 then (if m = n + u then shf u 0 0 s else if n + u < m then ⟨1, m - 1, []⟩ else ⟨o, m, ks⟩) else ⟨o, m, ks.mapIdx (fun j k => sub n s (u + (bnd o ((j : Nat) : Int) : Nat)) k)⟩ := sub_eq n s u _
theorem txt_mk (o n : Int) (ks : List Tr) : txtT ⟨o, n, ks⟩ = if ks.isEmpty then leafT o n else 40 :: (headT o n ++ ((ks.map txtT).map (fun l => 32 :: l)).flatten ++ [41]) := txtT_eq _
theorem pre_mk (o n : Int) (ks : List Tr) : (⟨o, n, ks⟩ : Tr).pre = ⟨o, n, ks⟩ :: (ks.map Tr.pre).flatten := Tr.pre_eq _
theorem size_mk (o n : Int) (ks : List Tr) : (⟨o, n, ks⟩ : Tr).size = 1 + (ks.map Tr.size).sum := Tr.size_eq _

/-- What is asked of one of the terms. -/
structure Kn1 (t : Tr) (sa sb : List UInt8) : Prop where
  g : Gd 3 t
  gs : Gd 3 (shf 2 0 0 t)
  gb : Gd 4 (sub 0 ⟨11, 0, []⟩ 0 t)
  z : t.size ≤ 10
  ta : txtT (shf 2 0 0 t) = sa
  tb : txtT (sub 0 ⟨11, 0, []⟩ 0 t) = sb
  la : sa.length ≤ 100
  lb : sb.length ≤ 100

theorem kshf0 : shf 2 0 0 ⟨1, 0, []⟩ = ⟨1, 2, []⟩ := by simp [shf_mk, bnd]
set_option linter.unusedSimpArgs false in
theorem ksub0 : sub 0 ⟨11, 0, []⟩ 0 ⟨1, 0, []⟩ = ⟨11, 0, []⟩ := by simp [sub_mk, shf_mk, bnd]
set_option linter.unusedSimpArgs false in
theorem ktxa0 : txtT ⟨1, 2, []⟩ = [118, 50] := by
  simp only [txt_mk, List.map_cons, List.map_nil]
  kernel_rfl
set_option linter.unusedSimpArgs false in
theorem ktxb0 : txtT ⟨11, 0, []⟩ = [49, 49] := by
  simp only [txt_mk, List.map_cons, List.map_nil]
  kernel_rfl
theorem kn0 : Kn1 ⟨1, 0, []⟩ [118, 50] [49, 49] :=
  ⟨⟨by simp [size_mk], by decide, by unfold Snd; simp [pre_mk]⟩, by rw [kshf0]; exact ⟨by simp [size_mk], by decide, by unfold Snd; simp [pre_mk]⟩, by rw [ksub0]; exact ⟨by simp [size_mk], by decide, by unfold Snd; simp [pre_mk]⟩, by simp [size_mk], by rw [kshf0]; exact ktxa0, by rw [ksub0]; exact ktxb0, by decide, by decide⟩

theorem kshf1 : shf 2 0 0 ⟨1, 2, []⟩ = ⟨1, 4, []⟩ := by simp [shf_mk, bnd]
set_option linter.unusedSimpArgs false in
theorem ksub1 : sub 0 ⟨11, 0, []⟩ 0 ⟨1, 2, []⟩ = ⟨1, 1, []⟩ := by simp [sub_mk, shf_mk, bnd]
set_option linter.unusedSimpArgs false in
theorem ktxa1 : txtT ⟨1, 4, []⟩ = [118, 52] := by
  simp only [txt_mk, List.map_cons, List.map_nil]
  kernel_rfl
set_option linter.unusedSimpArgs false in
theorem ktxb1 : txtT ⟨1, 1, []⟩ = [118, 49] := by
  simp only [txt_mk, List.map_cons, List.map_nil]
  kernel_rfl
theorem kn1 : Kn1 ⟨1, 2, []⟩ [118, 52] [118, 49] :=
  ⟨⟨by simp [size_mk], by decide, by unfold Snd; simp [pre_mk]⟩, by rw [kshf1]; exact ⟨by simp [size_mk], by decide, by unfold Snd; simp [pre_mk]⟩, by rw [ksub1]; exact ⟨by simp [size_mk], by decide, by unfold Snd; simp [pre_mk]⟩, by simp [size_mk], by rw [kshf1]; exact ktxa1, by rw [ksub1]; exact ktxb1, by decide, by decide⟩

theorem kshf2 : shf 2 0 0 ⟨4, 0, [⟨1, 0, []⟩, ⟨1, 1, []⟩]⟩ = ⟨4, 0, [⟨1, 2, []⟩, ⟨1, 3, []⟩]⟩ := by simp [shf_mk, bnd]
set_option linter.unusedSimpArgs false in
theorem ksub2 : sub 0 ⟨11, 0, []⟩ 0 ⟨4, 0, [⟨1, 0, []⟩, ⟨1, 1, []⟩]⟩ = ⟨4, 0, [⟨11, 0, []⟩, ⟨11, 0, []⟩]⟩ := by simp [sub_mk, shf_mk, bnd]
set_option linter.unusedSimpArgs false in
theorem ktxa2 : txtT ⟨4, 0, [⟨1, 2, []⟩, ⟨1, 3, []⟩]⟩ = [40, 52, 32, 118, 50, 32, 118, 51, 41] := by
  simp only [txt_mk, List.map_cons, List.map_nil]
  kernel_rfl
set_option linter.unusedSimpArgs false in
theorem ktxb2 : txtT ⟨4, 0, [⟨11, 0, []⟩, ⟨11, 0, []⟩]⟩ = [40, 52, 32, 49, 49, 32, 49, 49, 41] := by
  simp only [txt_mk, List.map_cons, List.map_nil]
  kernel_rfl
theorem kn2 : Kn1 ⟨4, 0, [⟨1, 0, []⟩, ⟨1, 1, []⟩]⟩ [40, 52, 32, 118, 50, 32, 118, 51, 41] [40, 52, 32, 49, 49, 32, 49, 49, 41] :=
  ⟨⟨by simp [size_mk], by decide, by unfold Snd; simp [pre_mk]⟩, by rw [kshf2]; exact ⟨by simp [size_mk], by decide, by unfold Snd; simp [pre_mk]⟩, by rw [ksub2]; exact ⟨by simp [size_mk], by decide, by unfold Snd; simp [pre_mk]⟩, by simp [size_mk], by rw [kshf2]; exact ktxa2, by rw [ksub2]; exact ktxb2, by decide, by decide⟩

theorem kshf3 : shf 2 0 0 ⟨3, 0, [⟨1, 1, []⟩, ⟨5, 0, [⟨1, 0, []⟩, ⟨1, 2, []⟩]⟩]⟩ = ⟨3, 0, [⟨1, 3, []⟩, ⟨5, 0, [⟨1, 0, []⟩, ⟨1, 4, []⟩]⟩]⟩ := by simp [shf_mk, bnd]
set_option linter.unusedSimpArgs false in
theorem ksub3 : sub 0 ⟨11, 0, []⟩ 0 ⟨3, 0, [⟨1, 1, []⟩, ⟨5, 0, [⟨1, 0, []⟩, ⟨1, 2, []⟩]⟩]⟩ = ⟨3, 0, [⟨1, 0, []⟩, ⟨5, 0, [⟨1, 0, []⟩, ⟨1, 1, []⟩]⟩]⟩ := by simp [sub_mk, shf_mk, bnd]
set_option linter.unusedSimpArgs false in
theorem ktxa3 : txtT ⟨3, 0, [⟨1, 3, []⟩, ⟨5, 0, [⟨1, 0, []⟩, ⟨1, 4, []⟩]⟩]⟩ = [40, 51, 32, 118, 51, 32, 40, 53, 32, 118, 48, 32, 118, 52, 41, 41] := by
  simp only [txt_mk, List.map_cons, List.map_nil]
  kernel_rfl
set_option linter.unusedSimpArgs false in
theorem ktxb3 : txtT ⟨3, 0, [⟨1, 0, []⟩, ⟨5, 0, [⟨1, 0, []⟩, ⟨1, 1, []⟩]⟩]⟩ = [40, 51, 32, 118, 48, 32, 40, 53, 32, 118, 48, 32, 118, 49, 41, 41] := by
  simp only [txt_mk, List.map_cons, List.map_nil]
  kernel_rfl
theorem kn3 : Kn1 ⟨3, 0, [⟨1, 1, []⟩, ⟨5, 0, [⟨1, 0, []⟩, ⟨1, 2, []⟩]⟩]⟩ [40, 51, 32, 118, 51, 32, 40, 53, 32, 118, 48, 32, 118, 52, 41, 41] [40, 51, 32, 118, 48, 32, 40, 53, 32, 118, 48, 32, 118, 49, 41, 41] :=
  ⟨⟨by simp [size_mk], by decide, by unfold Snd; simp [pre_mk]⟩, by rw [kshf3]; exact ⟨by simp [size_mk], by decide, by unfold Snd; simp [pre_mk]⟩, by rw [ksub3]; exact ⟨by simp [size_mk], by decide, by unfold Snd; simp [pre_mk]⟩, by simp [size_mk], by rw [kshf3]; exact ktxa3, by rw [ksub3]; exact ktxb3, by decide, by decide⟩

theorem kshf4 : shf 2 0 0 ⟨13, 0, [⟨1, 0, []⟩, ⟨1, 0, []⟩, ⟨5, 0, [⟨1, 1, []⟩, ⟨1, 2, []⟩]⟩, ⟨1, 3, []⟩]⟩ = ⟨13, 0, [⟨1, 0, []⟩, ⟨1, 2, []⟩, ⟨5, 0, [⟨1, 1, []⟩, ⟨1, 4, []⟩]⟩, ⟨1, 5, []⟩]⟩ := by simp [shf_mk, bnd]
set_option linter.unusedSimpArgs false in
theorem ksub4 : sub 0 ⟨11, 0, []⟩ 0 ⟨13, 0, [⟨1, 0, []⟩, ⟨1, 0, []⟩, ⟨5, 0, [⟨1, 1, []⟩, ⟨1, 2, []⟩]⟩, ⟨1, 3, []⟩]⟩ = ⟨13, 0, [⟨1, 0, []⟩, ⟨11, 0, []⟩, ⟨5, 0, [⟨1, 1, []⟩, ⟨11, 0, []⟩]⟩, ⟨1, 2, []⟩]⟩ := by simp [sub_mk, shf_mk, bnd]
set_option linter.unusedSimpArgs false in
theorem ktxa4 : txtT ⟨13, 0, [⟨1, 0, []⟩, ⟨1, 2, []⟩, ⟨5, 0, [⟨1, 1, []⟩, ⟨1, 4, []⟩]⟩, ⟨1, 5, []⟩]⟩ = [40, 49, 51, 32, 118, 48, 32, 118, 50, 32, 40, 53, 32, 118, 49, 32, 118, 52, 41, 32, 118, 53, 41] := by
  simp only [txt_mk, List.map_cons, List.map_nil]
  kernel_rfl
set_option linter.unusedSimpArgs false in
theorem ktxb4 : txtT ⟨13, 0, [⟨1, 0, []⟩, ⟨11, 0, []⟩, ⟨5, 0, [⟨1, 1, []⟩, ⟨11, 0, []⟩]⟩, ⟨1, 2, []⟩]⟩ = [40, 49, 51, 32, 118, 48, 32, 49, 49, 32, 40, 53, 32, 118, 49, 32, 49, 49, 41, 32, 118, 50, 41] := by
  simp only [txt_mk, List.map_cons, List.map_nil]
  kernel_rfl
theorem kn4 : Kn1 ⟨13, 0, [⟨1, 0, []⟩, ⟨1, 0, []⟩, ⟨5, 0, [⟨1, 1, []⟩, ⟨1, 2, []⟩]⟩, ⟨1, 3, []⟩]⟩ [40, 49, 51, 32, 118, 48, 32, 118, 50, 32, 40, 53, 32, 118, 49, 32, 118, 52, 41, 32, 118, 53, 41] [40, 49, 51, 32, 118, 48, 32, 49, 49, 32, 40, 53, 32, 118, 49, 32, 49, 49, 41, 32, 118, 50, 41] :=
  ⟨⟨by simp [size_mk], by decide, by unfold Snd; simp [pre_mk]⟩, by rw [kshf4]; exact ⟨by simp [size_mk], by decide, by unfold Snd; simp [pre_mk]⟩, by rw [ksub4]; exact ⟨by simp [size_mk], by decide, by unfold Snd; simp [pre_mk]⟩, by simp [size_mk], by rw [kshf4]; exact ktxa4, by rw [ksub4]; exact ktxb4, by decide, by decide⟩

theorem kshf5 : shf 2 0 0 ⟨28, 0, [⟨1, 0, []⟩, ⟨19, 0, [⟨1, 1, []⟩]⟩]⟩ = ⟨28, 0, [⟨1, 2, []⟩, ⟨19, 0, [⟨1, 3, []⟩]⟩]⟩ := by simp [shf_mk, bnd]
set_option linter.unusedSimpArgs false in
theorem ksub5 : sub 0 ⟨11, 0, []⟩ 0 ⟨28, 0, [⟨1, 0, []⟩, ⟨19, 0, [⟨1, 1, []⟩]⟩]⟩ = ⟨28, 0, [⟨11, 0, []⟩, ⟨19, 0, [⟨11, 0, []⟩]⟩]⟩ := by simp [sub_mk, shf_mk, bnd]
set_option linter.unusedSimpArgs false in
theorem ktxa5 : txtT ⟨28, 0, [⟨1, 2, []⟩, ⟨19, 0, [⟨1, 3, []⟩]⟩]⟩ = [40, 50, 56, 32, 118, 50, 32, 40, 49, 57, 32, 118, 51, 41, 41] := by
  simp only [txt_mk, List.map_cons, List.map_nil]
  kernel_rfl
set_option linter.unusedSimpArgs false in
theorem ktxb5 : txtT ⟨28, 0, [⟨11, 0, []⟩, ⟨19, 0, [⟨11, 0, []⟩]⟩]⟩ = [40, 50, 56, 32, 49, 49, 32, 40, 49, 57, 32, 49, 49, 41, 41] := by
  simp only [txt_mk, List.map_cons, List.map_nil]
  kernel_rfl
theorem kn5 : Kn1 ⟨28, 0, [⟨1, 0, []⟩, ⟨19, 0, [⟨1, 1, []⟩]⟩]⟩ [40, 50, 56, 32, 118, 50, 32, 40, 49, 57, 32, 118, 51, 41, 41] [40, 50, 56, 32, 49, 49, 32, 40, 49, 57, 32, 49, 49, 41, 41] :=
  ⟨⟨by simp [size_mk], by decide, by unfold Snd; simp [pre_mk]⟩, by rw [kshf5]; exact ⟨by simp [size_mk], by decide, by unfold Snd; simp [pre_mk]⟩, by rw [ksub5]; exact ⟨by simp [size_mk], by decide, by unfold Snd; simp [pre_mk]⟩, by simp [size_mk], by rw [kshf5]; exact ktxa5, by rw [ksub5]; exact ktxb5, by decide, by decide⟩

theorem kzero : Gd 1 ⟨11, 0, []⟩ ∧ (⟨11, 0, []⟩ : Tr).size = 1 := ⟨⟨by simp [size_mk], by decide, by unfold Snd; simp [pre_mk]⟩, by simp [size_mk]⟩
#print axioms kn5
end Go.Proofs.YtpmaagafcpaajabDoor
