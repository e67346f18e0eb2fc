/- Qu, Qv: the texts of these names, one behind the other. -/
import Derived.Test.YthklnpkjlepagaaGreatDoorMQgxQh
import Derived.Laws.CopyRow
namespace Go.Proofs.YthklnpkjlepagaaGreatDoor.Ab
open Go.RowKit
variable {S : Nat → Value}

theorem run_copy_rows {P : Program} (w : World) (dT sT ty elem : TypeId) (sz g o dLen dCap : Nat) (a : Addr) (sLen sCap : Nat) (cur : Array Value) (t : TypeId) (cs : List Value)
    (hu : P.underlying dT = some (.slice elem)) (hs : (P.info? elem).map (·.size) = some sz)
    (hg : w.heap[g]? = some (.cells cur t (0, 0))) (hn : cs.length = Nat.min sLen dLen * sz)
    (hsrc : ∀ j v, cs[j]? = some v → w.cell? (a.add j) = some v) (hfit : o + cs.length ≤ cur.size) (h1 : ∀ v ∈ cs, v.oneCell' = true) :
    (Builtin.copy_ #[dT, sT] ty #[.slice (some ⟨g, o, none⟩) dLen dCap, .slice (some a) sLen sCap]).run P w =
      .ok (goInt (Nat.min sLen dLen : Nat)) (w.setRow g (cur.toList.take o ++ cs ++ cur.toList.drop (o + cs.length)).toArray) := by
  have hl := run_loadCells_list (P := P) w a cs hsrc
  have hst := run_storeCells_at P g o t cs 0 cur w hg (by simpa using hfit) h1
  rw [hn] at hl
  cases hq : P.info? elem with
  | none => simp [hq] at hs
  | some i =>
    have hi : i.size = sz := by simpa [hq] using hs
    simp [Builtin.copy_, run_underlying hu, Builtin.lenOf, Builtin.firstCells, sizeOf, typeInfo, hq, hi, hl, hst]

theorem run_copy_nils {P : Program} (w : World) (dT sT ty elem : TypeId) (a : Addr) (dLen dCap c : Nat) (hu : P.underlying dT = some (.slice elem)) (hs : ((P.info? elem).map (·.size)).isSome = true) :
    (Builtin.copy_ #[dT, sT] ty #[.slice (some a) dLen dCap, .slice none 0 c]).run P w = .ok (goInt 0) w := by
  cases hq : P.info? elem with
  | none => simp [hq] at hs
  | some i => simp [Builtin.copy_, run_underlying hu, Builtin.lenOf, Builtin.firstCells, sizeOf, typeInfo, hq, storeCells]

/-- A row of cells: nil, or a slice whose cells stand there. -/
theorem rowSrc_ok {C : Cx} (hC : Ok C) {sz m : Nat} {x : AV} {v : Value} {ks : List AV} (h : RV C x v) (e : rowCells C.H sz x = some (m, ks)) : ∃ us, RL C ks us ∧ us.length = m * sz ∧ ((∃ c, v = .slice none 0 c ∧ m = 0) ∨ ∃ a cap, v = .slice (some a) m cap ∧ ∀ j u, us[j]? = some u → C.w.cell? (a.add j) = some u) := by
  unfold rowCells at e
  split at e
  · rename_i h0
    split at e
    · rename_i c hx
      cases e
      exact ⟨[], trivial, by simp, Or.inl ⟨_, by rw [h.case.1 h0, hx], rfl⟩⟩
    · cases e
  · split at e
    · rename_i hd
      split at e
      · rename_i h7
        cases e
        have : ∃ k off us cap, v = .slice (some ⟨k, off, none⟩) x.c cap ∧ us.length = x.c * x.d ∧ ImmAt C k off us ∧ RL C x.ks us := by
          rcases h7 with k | k
          · obtain ⟨k, off, us, r, _, a, b, c⟩ := h.case.2.2.2.2.2.2.2.1 k; exact ⟨k, off, us, _, r, a, b, c⟩
          · obtain ⟨k, off, us, cap, r, _, _, a, b, c⟩ := h.case.2.2.2.2.2.2.2.2.1 k; exact ⟨k, off, us, _, r, a, b, c⟩
        obtain ⟨k, off, us, cap, rfl, hl, hi, hr⟩ := this
        refine ⟨us, hr, by rw [hl, hd], Or.inr ⟨_, _, rfl, fun j u hu => ?_⟩⟩
        rw [Addr.add_mid]
        exact hi.2 _ _ hu
      · split at e
        · rename_i h5
          split at e
          · rename_i B hB
            split at e
            · rename_i hlen
              cases e
              obtain ⟨cap, _, _, rfl, ha, _, _, hcell, _⟩ := h.case.2.2.2.2.2.1 h5
              obtain ⟨_, cs, k2, k3, k4⟩ := hC.cellsAt hB hcell
              have hr : RL C ((B.cs.drop x.b).take (x.c * x.d)) (((cs.toList.take B.cs.length).drop x.b).take (x.c * x.d)) := All2.take _ (All2.drop _ k4)
              refine ⟨_, hr, ?_, Or.inr ⟨_, _, rfl, fun j u hu => ?_⟩⟩
              · rw [← hr.len, ← hd]
                simp
                omega
              · rw [Addr.add_mid, cell_of_row _ _ _ _ _ _ k2]
                rw [List.getElem?_take] at hu
                split at hu
                · rw [List.getElem?_drop, List.getElem?_take] at hu
                  split at hu
                  · simpa using hu
                  · cases hu
                · cases hu
            · cases e
          · cases e
        · cases e
    · cases e

def xCopy (T : Tabs) (H : Hp) (n t : Nat) (d x : AV) : Option Out := (T.tiAt t).bind fun ti => if ti.kind = 3 then (T.tiAt ti.elem).bind fun te => (rowCells H te.size x).bind fun p =>
  if p.2.all AV.one = true ∧ d.t = 5 ∧ d.d = te.size then (H.get d.a).bind fun B => if d.b + d.c * d.d ≤ B.cs.length then
    some ⟨AV.ex (.int .i64 ((Nat.min p.1 d.c : Nat) : Int)), H.set d.a (some ⟨B.ty, B.cs.take d.b ++ p.2.take (Nat.min p.1 d.c * te.size) ++ B.cs.drop (d.b + Nat.min p.1 d.c * te.size)⟩), n, bit1 d.a⟩ else none else none else none

theorem xCopy_tidy {T : Tabs} {H : Hp} {n t : Nat} {x y : AV} {o : Out} (h : xCopy T H n t x y = some o) : Tidy H n o := by
  unfold xCopy at h
  obtain ⟨ti, _, h⟩ := Option.bind_eq_some_iff.1 h
  split at h
  · obtain ⟨te, _, h⟩ := Option.bind_eq_some_iff.1 h
    obtain ⟨p, _, h⟩ := Option.bind_eq_some_iff.1 h
    split at h
    · obtain ⟨B, h3, h⟩ := Option.bind_eq_some_iff.1 h
      split at h
      · cases h
        exact ⟨Nat.le_refl _, hb_old h3, fun _ b _ hn => Hp.get_other _ _ (fun e => by rw [bit1_iff.2 e.symm] at hn; cases hn), fun _ b hb _ => by rw [bit1_iff.1 hb]; exact ⟨B, h3⟩⟩
      · cases h
    · cases h
  · cases h

theorem xCopy_ok {P : Program} {T : Tabs} (hT : TabOk P T) {C : Cx} (hC : Ok C) {n t tx ty : Nat} {d x : AV} {vd vx : Value} (hd : RV C d vd) (hx : RV C x vx) {o : Out} (e : xCopy T C.H n t d x = some o) :
    ∃ v C', (Builtin.copy_ #[t, tx] ty #[vd, vx]).run P C.w = .ok v C'.w ∧ RV C' o.x v ∧ Goes C C' ∧ C'.H = o.H ∧ NewA C C' n o.n := by
  unfold xCopy at e
  obtain ⟨ti, h1, e⟩ := Option.bind_eq_some_iff.1 e
  split at e
  · rename_i k3
    obtain ⟨te, h3, e⟩ := Option.bind_eq_some_iff.1 e
    obtain ⟨⟨m, kn⟩, h4, e⟩ := Option.bind_eq_some_iff.1 e
    split at e
    · rename_i hcond
      obtain ⟨hone, h5, hsz⟩ := hcond
      obtain ⟨B, hB, e⟩ := Option.bind_eq_some_iff.1 e
      split at e
      · rename_i hfit
        cases e
        simp only at hone hfit ⊢
        obtain ⟨tk⟩ := hT _ _ h1
        obtain ⟨tke⟩ := hT _ _ h3
        have hk := tk.kind
        unfold kindB at hk
        split at hk <;> simp [k3] at hk
        rename_i e' hde
        subst hk
        have hu : P.underlying t = some (.slice ti.elem) := by rw [tk.hd, hde]
        have hs : (P.info? ti.elem).map (·.size) = some te.size := by rw [tke.hi]; simp [tke.size]
        obtain ⟨cap, cs0, ty0, rfl, ha, hcc, hcm, hbk, hsz0⟩ := hd.case.2.2.2.2.2.1 h5
        obtain ⟨q1, cs, q2, q3, q4⟩ := hC.cellsAt hB hbk
        obtain ⟨us, r1, r2, r3⟩ := rowSrc_ok hC hx h4
        have hkl : Nat.min m d.c * te.size ≤ us.length := by rw [r2]; exact Nat.mul_le_mul_right _ (Nat.min_le_left _ _)
        have hkd : Nat.min m d.c * te.size ≤ d.c * d.d := by rw [hsz]; exact Nat.mul_le_mul_right _ (Nat.min_le_right _ _)
        have hul : (us.take (Nat.min m d.c * te.size)).length = Nat.min m d.c * te.size := by rw [List.length_take]; omega
        have hr1 : RL C (kn.take (Nat.min m d.c * te.size)) (us.take (Nat.min m d.c * te.size)) := All2.take _ r1
        have hf2 : d.b + (us.take (Nat.min m d.c * te.size)).length ≤ cs.size := by rw [hul]; omega
        have hrun : (Builtin.copy_ #[t, tx] ty #[.slice (some ⟨C.mu d.a, d.b, none⟩) d.c cap, vx]).run P C.w = .ok (goInt (Nat.min m d.c : Nat)) (C.w.setRow (C.mu d.a) (cs.toList.take d.b ++ us.take (Nat.min m d.c * te.size) ++ cs.toList.drop (d.b + (us.take (Nat.min m d.c * te.size)).length)).toArray) := by
          rcases r3 with ⟨c, rfl, rfl⟩ | ⟨a, cap', rfl, r3⟩
          · have : Nat.min 0 d.c = 0 := Nat.zero_min _
            rw [this]
            simp only [Nat.zero_mul, List.take_zero, List.append_nil, List.length_nil, Nat.add_zero, List.take_append_drop, Array.toArray_toList]
            rw [setRow_self C.w _ cs B.ty (0, 0) q2]
            exact run_copy_nils C.w t tx ty ti.elem _ _ _ _ hu (by rw [hs]; rfl)
          · exact run_copy_rows C.w t tx ty ti.elem te.size _ _ _ _ a m cap' cs B.ty _ hu hs q2 hul (fun j v hj => r3 j v (by
              rw [List.getElem?_take] at hj
              split at hj
              · exact hj
              · cases hj)) hf2 (fun v hv => rl_one r1 hone v (List.mem_of_mem_take hv))
        have hlen := q4.len
        simp at hlen
        have hg := hC.put hB (ks := B.cs.take d.b ++ kn.take (Nat.min m d.c * te.size) ++ B.cs.drop (d.b + Nat.min m d.c * te.size)) (us := (cs.toList.take d.b ++ us.take (Nat.min m d.c * te.size) ++ cs.toList.drop (d.b + (us.take (Nat.min m d.c * te.size)).length)).toArray)
          (w := C.w.setRow (C.mu d.a) (cs.toList.take d.b ++ us.take (Nat.min m d.c * te.size) ++ cs.toList.drop (d.b + (us.take (Nat.min m d.c * te.size)).length)).toArray) q2 (by simp; omega) ?_ ?_ (by simp) (setRow_heap _ _ _ _ _ _ q2) (fun j hj => setRow_other _ _ _ _ hj) ⟨rfl, rfl, rfl⟩
        · exact ⟨_, _, hrun, rv_ex, hg, rfl, newA_same rfl⟩
        · have := hr1.len
          simp at this ⊢
          omega
        · have hkk := hr1.len
          have e1 : (B.cs.take d.b ++ kn.take (Nat.min m d.c * te.size) ++ B.cs.drop (d.b + Nat.min m d.c * te.size)).length = B.cs.length := by
            rw [List.length_append, List.length_append, hkk, hul]; simp; omega
          rw [e1, List.toList_toArray, hul]
          have e2 : (cs.toList.take d.b ++ us.take (Nat.min m d.c * te.size) ++ cs.toList.drop (d.b + Nat.min m d.c * te.size)).take B.cs.length = (cs.toList.take B.cs.length).take d.b ++ us.take (Nat.min m d.c * te.size) ++ (cs.toList.take B.cs.length).drop (d.b + Nat.min m d.c * te.size) := by
            have hcl : B.cs.length ≤ cs.toList.length := by simpa using q3
            rw [List.take_append, List.take_of_length_le (by rw [List.length_append, hul, List.length_take]; omega), List.length_append, hul, List.length_take, Nat.min_eq_left (by omega : d.b ≤ cs.toList.length), List.take_take, Nat.min_eq_left (by omega : d.b ≤ B.cs.length), List.drop_take]
          rw [e2]
          exact All2.app (All2.app (All2.take _ q4) hr1) (All2.drop _ q4)
      · cases e
    · cases e
  · cases e
end Go.Proofs.YthklnpkjlepagaaGreatDoor.Ab
namespace Go.Proofs.YthklnpkjlepagaaGreatDoor.Ab
open Go.RowKit
variable {S : Nat → Value}

def xSliceA (T : Tabs) (H : Hp) (t : Nat) (x : AV) (lo hi : Option AV) : Option AV := match lo, hi with
  | none, none => (T.tiAt t).bind fun ti => if ti.kind = 2 ∧ x.t = 3 then (T.tiAt ti.elem).bind fun te => (H.get x.a).bind fun B => if x.b + ti.len * te.size ≤ B.cs.length ∧ ti.len ≤ 1000000 then some (AV.sl x.a x.b ti.len te.size) else none else none
  | _, _ => none

theorem xSliceA_ok {P : Program} {T : Tabs} (hT : TabOk P T) {C : Cx} (hC : Ok C) {t : Nat} {x y : AV} {lo hi : Option AV} {v : Value} {vl vh : Option Value} (h : RV C x v) (gl : OptV C lo vl) (gh : OptV C hi vh) (e : xSliceA T C.H t x lo hi = some y) : ∃ r, (Instr.sliceAt t v vl vh none).run P C.w = .ok r C.w ∧ RV C y r := by
  unfold xSliceA at e
  split at e
  · obtain ⟨ti, h1, e⟩ := Option.bind_eq_some_iff.1 e
    split at e
    · rename_i k3
      obtain ⟨te, h3, e⟩ := Option.bind_eq_some_iff.1 e
      obtain ⟨B, hB, e⟩ := Option.bind_eq_some_iff.1 e
      split at e
      · rename_i hc
        cases e
        have hvl : vl = none := by
          cases vl with
          | none => rfl
          | some _ => exact gl.elim
        have hvh : vh = none := by
          cases vh with
          | none => rfl
          | some _ => exact gh.elim
        subst hvl; subst hvh
        obtain ⟨tk⟩ := hT _ _ h1
        obtain ⟨tke⟩ := hT _ _ h3
        have hk := tk.kind
        unfold kindB at hk
        split at hk <;> simp [k3.1] at hk
        rename_i n' e' hd
        obtain ⟨hk1, hk2⟩ := hk
        have hu : P.underlying t = some (.array ti.len ti.elem) := by rw [tk.hd, hd]; simp_all
        have hs : (sizeOf ti.elem).run P C.w = .ok te.size C.w := by simp [sizeOf, typeInfo, tke.hi, tke.size]
        obtain ⟨rfl, ha, _, _, hcell⟩ := h.case.2.2.2.1 k3.2
        obtain ⟨_, cs, q2, q3, _⟩ := hC.cellsAt hB hcell
        have hrun := run_bounds (P := P) (w := C.w) (isS := false) (len := ti.len) (cap := ti.len) (lo := none) (hi := none) (l := 0) (h := ti.len) (Or.inl ⟨rfl, rfl⟩) (Or.inl ⟨rfl, rfl⟩) (Int.le_refl _) (by omega) (by omega)
        refine ⟨.slice (some ⟨C.mu x.a, x.b, none⟩) ti.len ti.len, ?_, rv_sl ha (Nat.le_refl _) (Nat.le_trans hc.2 (by decide)) q2 (by omega)⟩
        simp [Instr.sliceAt, run_underlying hu, Instr.sureAddr, hrun, hs, Addr.add_mid]
      · cases e
    · cases e
  · cases e
end Go.Proofs.YthklnpkjlepagaaGreatDoor.Ab
