/- A slice of all of an array that a pointer leads to. -/
import Derived.Test.YthklnpkjlepagaaGreatDoorQg
namespace Go.Proofs.YthklnpkjlepagaaGreatDoor.Ab
open Go.RowKit
variable {S : Nat → Value}

def xSliceA (T : Tabs) (H : Hp) (t : Nat) (x : AV) (lo hi : Option AV) : Option AV := match lo, hi with
  | none, none => (T.tiAt t).bind fun ti => if ti.kind = 2 ∧ x.t = 3 then (T.tiAt ti.elem).bind fun te => (H.get x.a).bind fun B => if x.b + ti.len * te.size ≤ B.cs.length ∧ ti.len ≤ 1000000 then some (AV.sl x.a x.b ti.len te.size) else none else none
  | _, _ => none

theorem xSliceA_ok {P : Program} {T : Tabs} (hT : TabOk P T) {C : Cx} (hC : Ok C) {t : Nat} {x y : AV} {lo hi : Option AV} {v : Value} {vl vh : Option Value} (h : RV C x v) (gl : OptV C lo vl) (gh : OptV C hi vh) (e : xSliceA T C.H t x lo hi = some y) : ∃ r, (Instr.sliceAt t v vl vh none).run P C.w = .ok r C.w ∧ RV C y r := by
  unfold xSliceA at e
  split at e
  · obtain ⟨ti, h1, e⟩ := Option.bind_eq_some_iff.1 e
    split at e
    · rename_i k3
      obtain ⟨te, h3, e⟩ := Option.bind_eq_some_iff.1 e
      obtain ⟨B, hB, e⟩ := Option.bind_eq_some_iff.1 e
      split at e
      · rename_i hc
        cases e
        have hvl : vl = none := by
          cases vl with
          | none => rfl
          | some _ => exact gl.elim
        have hvh : vh = none := by
          cases vh with
          | none => rfl
          | some _ => exact gh.elim
        subst hvl; subst hvh
        obtain ⟨tk⟩ := hT _ _ h1
        obtain ⟨tke⟩ := hT _ _ h3
        have hk := tk.kind
        unfold kindB at hk
        split at hk <;> simp [k3.1] at hk
        rename_i n' e' hd
        obtain ⟨hk1, hk2⟩ := hk
        have hu : P.underlying t = some (.array ti.len ti.elem) := by rw [tk.hd, hd]; simp_all
        have hs : (sizeOf ti.elem).run P C.w = .ok te.size C.w := by simp [sizeOf, typeInfo, tke.hi, tke.size]
        obtain ⟨rfl, ha, _, _, hcell⟩ := h.case.2.2.2.1 k3.2
        obtain ⟨_, cs, q2, q3, _⟩ := hC.cellsAt hB hcell
        have hrun := run_bounds (P := P) (w := C.w) (isS := false) (len := ti.len) (cap := ti.len) (lo := none) (hi := none) (l := 0) (h := ti.len) (Or.inl ⟨rfl, rfl⟩) (Or.inl ⟨rfl, rfl⟩) (Int.le_refl _) (by omega) (by omega)
        refine ⟨.slice (some ⟨C.mu x.a, x.b, none⟩) ti.len ti.len, ?_, rv_sl ha (Nat.le_refl _) (Nat.le_trans hc.2 (by decide)) q2 (by omega)⟩
        simp [Instr.sliceAt, run_underlying hu, Instr.sureAddr, hrun, hs, Addr.add_mid]
      · cases e
    · cases e
  · cases e
#print axioms xSliceA_ok
end Go.Proofs.YthklnpkjlepagaaGreatDoor.Ab
