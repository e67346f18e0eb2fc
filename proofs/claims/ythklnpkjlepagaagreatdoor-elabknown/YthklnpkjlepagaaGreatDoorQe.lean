/- Elements, slices of rows, lengths, rows that are made, append; what needs no memory. -/
import Derived.Test.YthklnpkjlepagaaGreatDoorQd
namespace Go.Proofs.YthklnpkjlepagaaGreatDoor.Ab
open Go.RowKit

/-- The integer that a value is. -/
def AV.int (x : AV) : Option Int := if x.t = 0 then (match x.v with
  | .int _ i => some i
  | _ => none) else none
theorem rv_int {C : Cx} {x : AV} {v : Value} {i : Int} (h : RV C x v) (hi : x.int = some i) : ∃ k, v = .int k i := by
  unfold AV.int at hi
  split at hi
  · rename_i e
    have := h.case.1 e
    split at hi
    · rename_i k j hv
      cases hi
      exact ⟨k, by rw [this, hv]⟩
    · cases hi
  · cases hi

/-- An element's address. -/
def xIndexAddr (T : Tabs) (t : Nat) (x i : AV) : Option AV := (T.tiAt t).bind fun ti => i.int.bind fun j => (T.tiAt ti.elem).bind fun te =>
  if ti.kind = 3 then (if 0 ≤ j ∧ j < x.c then (if x.t = 5 then some (AV.ptr x.a (x.b + j.toNat * te.size)) else if x.t = 7 ∨ x.t = 8 then some (AV.iptr (x.ks.drop (j.toNat * te.size))) else none) else none)
  else if ti.kind = 2 then (if 0 ≤ j ∧ j < ti.len then (if x.t = 3 then some (AV.ptr x.a (x.b + j.toNat * te.size)) else if x.t = 4 then some (AV.iptr (x.ks.drop (j.toNat * te.size))) else none) else none)
  else none
theorem imm_drop {C : Cx} {b off : Nat} {us : List Value} (h : ImmAt C b off us) (k : Nat) : ImmAt C b (off + k) (us.drop k) :=
  ⟨h.1, fun i u hu => by
    rw [List.getElem?_drop] at hu
    rw [Nat.add_assoc]
    exact h.2 _ _ hu⟩
theorem xIndexAddr_ok {P : Program} {T : Tabs} (hT : TabOk P T) {C : Cx} {t : Nat} {x i y : AV} {v u : Value} (h : RV C x v) (g : RV C i u) (e : xIndexAddr T t x i = some y) : ∃ r, (Instr.indexAt t v u).run P C.w = .ok r C.w ∧ RV C y r := by
  unfold xIndexAddr at e
  obtain ⟨ti, h1, e⟩ := Option.bind_eq_some_iff.1 e
  obtain ⟨j, h2, e⟩ := Option.bind_eq_some_iff.1 e
  obtain ⟨te, h3, e⟩ := Option.bind_eq_some_iff.1 e
  obtain ⟨k, rfl⟩ := rv_int g h2
  obtain ⟨tk⟩ := hT _ _ h1
  obtain ⟨tke⟩ := hT _ _ h3
  have hk := tk.kind
  unfold kindB at hk
  split at e
  · rename_i k3
    split at hk <;> simp [k3] at hk
    rename_i e' hd
    subst hk
    have hu : P.underlying t = some (.slice ti.elem) := by rw [tk.hd, hd]
    have hs : (sizeOf ti.elem).run P C.w = .ok te.size C.w := by simp [sizeOf, typeInfo, tke.hi, tke.size]
    split at e
    · rename_i hj
      split at e
      · rename_i h5
        cases e
        obtain ⟨cap, cs, ty, rfl, ha, hc, _, hb, _⟩ := h.case.2.2.2.2.2.1 h5
        refine ⟨.pointer (some ⟨C.mu x.a, x.b + j.toNat * te.size, none⟩), ?_, rv_ptr ha hb⟩
        simp [Instr.indexAt, asIntOf, run_underlying hu, hj, hs, Addr.add_mid]
      · split at e
        · rename_i h5
          cases e
          rcases h5 with h5 | h5
          · obtain ⟨b, off, us, rfl, hc, hl, hi, hr⟩ := h.case.2.2.2.2.2.2.2.1 h5
            refine ⟨.pointer (some ⟨b, off + j.toNat * te.size, none⟩), ?_, rv_iptr (imm_drop hi _) (All2.drop _ hr)⟩
            simp [Instr.indexAt, asIntOf, run_underlying hu, hj, hs, Addr.add_mid]
          · obtain ⟨b, off, us, cap, rfl, _, hc, hl, hi, hr⟩ := h.case.2.2.2.2.2.2.2.2.1 h5
            refine ⟨.pointer (some ⟨b, off + j.toNat * te.size, none⟩), ?_, rv_iptr (imm_drop hi _) (All2.drop _ hr)⟩
            simp [Instr.indexAt, asIntOf, run_underlying hu, hj, hs, Addr.add_mid]
        · cases e
    · cases e
  · split at e
    · rename_i k2
      split at hk <;> simp [k2] at hk
      rename_i n e' hd
      obtain ⟨rfl, rfl⟩ := hk
      have hu : P.underlying t = some (.array ti.len ti.elem) := by rw [tk.hd, hd]
      have hs : (sizeOf ti.elem).run P C.w = .ok te.size C.w := by simp [sizeOf, typeInfo, tke.hi, tke.size]
      split at e
      · rename_i hj
        obtain ⟨a, rfl, _, hr⟩ := rv_move h _ e
        refine ⟨_, ?_, hr⟩
        simp [Instr.indexAt, asIntOf, run_underlying hu, hj, hs, Instr.sureAddr]
      · cases e
    · cases e

/-- The array that a slice lies in, from its first element on. -/
def xArrAt (T : Tabs) (t : Nat) (x : AV) : Option AV := (T.tiAt t).bind fun ti =>
  if ti.kind = 2 ∧ ti.len ≤ x.c then (if x.t = 5 then some (AV.ptr x.a x.b) else if x.t = 7 ∨ x.t = 8 then some (AV.iptr x.ks) else none) else none
theorem xArrAt_ok {P : Program} {T : Tabs} (hT : TabOk P T) {C : Cx} {t : Nat} {x y : AV} {v : Value} (h : RV C x v) (e : xArrAt T t x = some y) : ∃ r, (Instr.arrayAt t v).run P C.w = .ok r C.w ∧ RV C y r := by
  unfold xArrAt at e
  obtain ⟨ti, h1, e⟩ := Option.bind_eq_some_iff.1 e
  obtain ⟨tk⟩ := hT _ _ h1
  have hk := tk.kind
  unfold kindB at hk
  split at e
  · rename_i k2
    split at hk <;> simp [k2.1] at hk
    rename_i n e' hd
    obtain ⟨rfl, rfl⟩ := hk
    have hu : P.underlying t = some (.array ti.len ti.elem) := by rw [tk.hd, hd]
    have hle := k2.2
    split at e
    · rename_i h5
      cases e
      obtain ⟨cap, cs, ty, rfl, ha, hc, _, hb, _⟩ := h.case.2.2.2.2.2.1 h5
      have hn : ¬ x.c < ti.len := by omega
      refine ⟨.pointer (some ⟨C.mu x.a, x.b, none⟩), ?_, rv_ptr ha hb⟩
      simp [Instr.arrayAt, run_underlying hu, hn]
    · split at e
      · rename_i h5
        cases e
        rcases h5 with h5 | h5
        · obtain ⟨b, off, us, rfl, hc, hl, hi, hr⟩ := h.case.2.2.2.2.2.2.2.1 h5
          have hn : ¬ x.c < ti.len := by omega
          refine ⟨.pointer (some ⟨b, off, none⟩), ?_, rv_iptr hi hr⟩
          simp [Instr.arrayAt, run_underlying hu, hn]
        · obtain ⟨b, off, us, cap, rfl, _, hc, hl, hi, hr⟩ := h.case.2.2.2.2.2.2.2.2.1 h5
          have hn : ¬ x.c < ti.len := by omega
          refine ⟨.pointer (some ⟨b, off, none⟩), ?_, rv_iptr hi hr⟩
          simp [Instr.arrayAt, run_underlying hu, hn]
      · cases e
  · cases e

/-- An element of an array, a byte of a string. -/
def xIndex (T : Tabs) (t : Nat) (x i : AV) : Option AV := (T.tiAt t).bind fun ti => i.int.bind fun j =>
  if ti.kind = 2 ∧ x.t = 1 then (T.tiAt ti.elem).bind fun te => if 0 ≤ j ∧ j < ti.len then (if te.kind = 1 ∨ te.kind = 2 then some (AV.agg ((x.ks.drop (j.toNat * te.size)).take te.size)) else x.ks[j.toNat * te.size]?) else none
  else if ti.kind = 5 ∧ x.t = 0 then (match x.v with
    | .string s => if 0 ≤ j then (match s[j.toNat]? with
      | some b => some (AV.ex (.int .u8 b.toNat))
      | none => none) else none
    | _ => none)
  else none
theorem xIndex_ok {P : Program} {T : Tabs} (hT : TabOk P T) {C : Cx} {t : Nat} {x i y : AV} {v u : Value} (h : RV C x v) (g : RV C i u) (e : xIndex T t x i = some y) : ∃ r, (Instr.index t v u).run P C.w = .ok r C.w ∧ RV C y r := by
  unfold xIndex at e
  obtain ⟨ti, h1, e⟩ := Option.bind_eq_some_iff.1 e
  obtain ⟨j, h2, e⟩ := Option.bind_eq_some_iff.1 e
  obtain ⟨k, rfl⟩ := rv_int g h2
  obtain ⟨tk⟩ := hT _ _ h1
  have hk := tk.kind
  unfold kindB at hk
  split at e
  · rename_i k2
    obtain ⟨te, h3, e⟩ := Option.bind_eq_some_iff.1 e
    obtain ⟨tke⟩ := hT _ _ h3
    split at hk <;> simp [k2.1] at hk
    rename_i n e' hd
    obtain ⟨rfl, rfl⟩ := hk
    have hu : P.underlying t = some (.array ti.len ti.elem) := by rw [tk.hd, hd]
    obtain ⟨us, rfl, hr⟩ := h.case.2.1 k2.2
    split at e
    · rename_i hj
      split at e
      · rename_i kr
        cases e
        have hagg : (isAgg ti.elem).run P C.w = .ok true C.w := by
          unfold isAgg
          rw [Sem.run_bind, run_underlying tke.hd C.w]
          have := kind_row tke.kind kr
          cases hd : tke.d <;> simp_all
        refine ⟨.agg (us.extract (j.toNat * te.size) (j.toNat * te.size + te.size)), ?_, rv_agg ?_⟩
        · simp [Instr.index, asIntOf, run_underlying hu, hj, part, hagg, sizeOf, typeInfo, tke.hi, tke.size]
        · have : (us.extract (j.toNat * te.size) (j.toNat * te.size + te.size)).toList = (us.toList.drop (j.toNat * te.size)).take te.size := by simp
          rw [this]
          exact All2.take _ (All2.drop _ hr)
      · rename_i kr
        have hagg : (isAgg ti.elem).run P C.w = .ok false C.w := by
          unfold isAgg
          rw [Sem.run_bind, run_underlying tke.hd C.w]
          have := kind_not tke.kind (fun e => kr (Or.inl e)) (fun e => kr (Or.inr e))
          cases hd : tke.d <;> simp_all
        obtain ⟨u, hu2, hr2⟩ := All2.get hr e
        refine ⟨u, ?_, hr2⟩
        have : us[j.toNat * te.size]? = some u := by simpa using hu2
        simp [Instr.index, asIntOf, run_underlying hu, hj, part, hagg, sizeOf, typeInfo, tke.hi, tke.size, this]
    · cases e
  · split at e
    · rename_i k5
      split at e
      · rename_i s hs
        split at e
        · rename_i h0
          split at e
          · rename_i b hb
            cases e
            have hv := h.case.1 k5.2
            rw [hs] at hv
            subst hv
            split at hk <;> simp [k5.1] at hk
            rename_i hd
            have hu : P.underlying t = some .string := by rw [tk.hd, hd]
            exact ⟨_, by simp [Instr.index, asIntOf, run_underlying hu, h0, hb], rv_ex⟩
          · cases e
        · cases e
      · cases e
    · cases e

def optInt (lo : Option AV) (d : Int) : Option Int := match lo with
  | none => some d
  | some l => l.int
/-- A part of a slice, of a string. -/
def xSlice (T : Tabs) (t : Nat) (x : AV) (lo hi : Option AV) : Option AV := (T.tiAt t).bind fun ti => (optInt lo 0).bind fun l => if ti.kind = 3 ∧ (x.t = 5 ∨ x.t = 7 ∨ x.t = 8) then (T.tiAt ti.elem).bind fun te => (optInt hi x.c).bind fun h => if 0 ≤ l ∧ l ≤ h ∧ h ≤ x.c ∧ te.size = x.d then
      (if x.t = 5 then (if l < h ∨ l = 0 then some (AV.sl x.a (x.b + l.toNat * te.size) (h.toNat - l.toNat) te.size) else some (AV.len 0))
       else if l < h then some (AV.row8 (h.toNat - l.toNat) te.size ((x.ks.drop (l.toNat * te.size)).take ((h.toNat - l.toNat) * te.size))) else some (AV.len 0)) else none
  else if ti.kind = 5 ∧ x.t = 0 then (match x.v with
    | .string s => (optInt hi s.size).bind fun h => if 0 ≤ l ∧ l ≤ h ∧ h ≤ s.size then some (AV.ex (.string (s.extract l.toNat h.toNat))) else none
    | _ => none)
  else none

theorem run_bounds {P : Program} {w : World} {isS : Bool} {len cap : Nat} {lo hi : Option Value} {l h : Int} (hl : (lo = none ∧ l = 0) ∨ ∃ k, lo = some (.int k l)) (hh : (hi = none ∧ h = len) ∨ ∃ k, hi = some (.int k h)) (h0 : 0 ≤ l) (h1 : l ≤ h) (h2 : h ≤ cap) :
    (Instr.sliceBounds isS len cap lo hi none).run P w = .ok (l.toNat, h.toNat, cap) w := by
  rcases hl with ⟨rfl, rfl⟩ | ⟨k, rfl⟩ <;> rcases hh with ⟨rfl, rfl⟩ | ⟨k', rfl⟩
  · simp [Instr.sliceBounds]
  · have c : (0 ≤ h ∧ h ≤ (cap : Int)) := by omega
    simp [Instr.sliceBounds, Instr.sliceBound, asIntOf, c]
  · have c : (0 ≤ l ∧ l ≤ ((len : Nat) : Int)) := by omega
    simp [Instr.sliceBounds, Instr.sliceBound, asIntOf, c]
  · have c : (0 ≤ h ∧ h ≤ (cap : Int)) := by omega
    have c2 : (0 ≤ l ∧ l ≤ ((h.toNat : Nat) : Int)) := by omega
    simp [Instr.sliceBounds, Instr.sliceBound, asIntOf, c]
    omega

/-- A bound that is given, or not. -/
def OptV (C : Cx) (lo : Option AV) (v : Option Value) : Prop := match lo, v with
  | none, none => True
  | some x, some u => RV C x u
  | _, _ => False
theorem optv_int {C : Cx} {lo : Option AV} {v : Option Value} (h : OptV C lo v) {d l : Int} (hl : optInt lo d = some l) : (v = none ∧ l = d) ∨ ∃ k, v = some (.int k l) := by
  cases lo with
  | none =>
    cases v with
    | none => simp [optInt] at hl; exact Or.inl ⟨rfl, hl.symm⟩
    | some u => exact h.elim
  | some x =>
    cases v with
    | none => exact h.elim
    | some u =>
      obtain ⟨k, rfl⟩ := rv_int (show RV C x u from h) hl
      exact Or.inr ⟨k, rfl⟩

theorem xSlice_ok {P : Program} {T : Tabs} (hT : TabOk P T) {C : Cx} {t : Nat} {x y : AV} {lo hi : Option AV} {v : Value} {vl vh : Option Value} (h : RV C x v) (gl : OptV C lo vl) (gh : OptV C hi vh) (e : xSlice T t x lo hi = some y) : ∃ r, (Instr.sliceAt t v vl vh none).run P C.w = .ok r C.w ∧ RV C y r := by
  unfold xSlice at e
  obtain ⟨ti, h1, e⟩ := Option.bind_eq_some_iff.1 e
  obtain ⟨l, h2, e⟩ := Option.bind_eq_some_iff.1 e
  obtain ⟨tk⟩ := hT _ _ h1
  have hk := tk.kind
  unfold kindB at hk
  have hl := optv_int gl h2
  split at e
  · rename_i k3
    obtain ⟨te, h3, e⟩ := Option.bind_eq_some_iff.1 e
    obtain ⟨hh, h4, e⟩ := Option.bind_eq_some_iff.1 e
    obtain ⟨tke⟩ := hT _ _ h3
    have hb := optv_int gh h4
    split at hk <;> simp [k3.1] at hk
    rename_i e' hd
    subst hk
    have hu : P.underlying t = some (.slice ti.elem) := by rw [tk.hd, hd]
    have hs : (sizeOf ti.elem).run P C.w = .ok te.size C.w := by simp [sizeOf, typeInfo, tke.hi, tke.size]
    split at e
    · rename_i hc
      obtain ⟨c0, c1, c2, c3⟩ := hc
      split at e
      · rename_i h5
        obtain ⟨cap, cs, ty, rfl, ha, hc, hm, hbk, hsz⟩ := h.case.2.2.2.2.2.1 h5
        have hrun := run_bounds (P := P) (w := C.w) (isS := true) (len := x.c) (cap := cap) hl hb c0 c1 (by omega)
        split at e
        · rename_i hlt
          cases e
          refine ⟨.slice (some ⟨C.mu x.a, x.b + l.toNat * te.size, none⟩) (hh.toNat - l.toNat) (cap - l.toNat), ?_, ?_⟩
          · have hne : (if cap = l.toNat then (some ⟨C.mu x.a, x.b, none⟩ : Option Addr) else (some ⟨C.mu x.a, x.b, none⟩ : Option Addr).map (·.add (l.toNat * te.size))) = some ⟨C.mu x.a, x.b + l.toNat * te.size, none⟩ := by
              split
              · rename_i he
                rcases hlt with hlt | rfl
                · omega
                · simp
              · simp [Addr.add_mid]
            simp [Instr.sliceAt, run_underlying hu, Instr.slice, hrun, hs]
            simpa using hne
          · refine rv_sl ha (by omega) (by omega) hbk ?_
            rw [← c3] at hsz
            have h9 : (cap - l.toNat) * te.size + l.toNat * te.size = cap * te.size := by
              rw [← Nat.add_mul]; congr 1; omega
            omega
        · cases e
          rename_i hlt
          refine ⟨.slice (if cap = l.toNat then (some ⟨C.mu x.a, x.b, none⟩ : Option Addr) else (some ⟨C.mu x.a, x.b, none⟩ : Option Addr).map (·.add (l.toNat * te.size))) 0 (cap - l.toNat), ?_, rv_len⟩
          have h9 : hh.toNat - l.toNat = 0 := by omega
          simp [Instr.sliceAt, run_underlying hu, Instr.slice, hrun, hs, h9]
      · rename_i h5
        have hrow : ∃ k off us cap, v = .slice (some ⟨k, off, none⟩) x.c cap ∧ x.c ≤ cap ∧ cap ≤ maxLen ∧ us.length = x.c * x.d ∧ ImmAt C k off us ∧ RL C x.ks us := by
          rcases k3.2 with k | k | k
          · exact absurd k h5
          · obtain ⟨k, off, us, r, a, b, c, d⟩ := h.case.2.2.2.2.2.2.2.1 k
            exact ⟨k, off, us, x.c, r, Nat.le_refl _, a, b, c, d⟩
          · exact h.case.2.2.2.2.2.2.2.2.1 k
        obtain ⟨b, off, us, cap, rfl, hcc, hm, hlen, hi, hr⟩ := hrow
        have hrun := run_bounds (P := P) (w := C.w) (isS := true) (len := x.c) (cap := cap) hl hb c0 c1 (by omega)
        split at e
        · rename_i hlt
          cases e
          refine ⟨.slice (some ⟨b, off + l.toNat * te.size, none⟩) (hh.toNat - l.toNat) (cap - l.toNat), ?_, ?_⟩
          · have hne : ¬ cap = l.toNat := by omega
            simp [Instr.sliceAt, run_underlying hu, Instr.slice, hrun, hs, hne, Addr.add_mid]
          · refine rv_row8 (us := (us.drop (l.toNat * te.size)).take ((hh.toNat - l.toNat) * te.size)) (by omega) (by omega) ?_ ?_ (All2.take _ (All2.drop _ hr))
            · rw [List.length_take, List.length_drop, hlen, ← c3, ← Nat.sub_mul]
              refine Nat.min_eq_left (Nat.mul_le_mul_right _ (by omega))
            · refine ⟨hi.1, fun i u hu => ?_⟩
              rw [List.getElem?_take] at hu
              split at hu
              · exact (imm_drop hi _).2 i u hu
              · cases hu
        · cases e
          refine ⟨.slice (if cap = l.toNat then (some ⟨b, off, none⟩ : Option Addr) else (some ⟨b, off, none⟩ : Option Addr).map (·.add (l.toNat * te.size))) 0 (cap - l.toNat), ?_, rv_len⟩
          have h9 : hh.toNat - l.toNat = 0 := by omega
          simp [Instr.sliceAt, run_underlying hu, Instr.slice, hrun, hs, h9]
    · cases e
  · split at e
    · rename_i k5
      split at e
      · rename_i s hs
        obtain ⟨hh, h4, e⟩ := Option.bind_eq_some_iff.1 e
        have hb := optv_int gh h4
        split at e
        · rename_i hc
          cases e
          have hv := h.case.1 k5.2
          rw [hs] at hv
          subst hv
          split at hk <;> simp [k5.1] at hk
          rename_i hd
          have hu : P.underlying t = some .string := by rw [tk.hd, hd]
          have hrun := run_bounds (P := P) (w := C.w) (isS := false) (len := s.size) (cap := s.size) hl hb hc.1 hc.2.1 hc.2.2
          exact ⟨.string (s.extract l.toNat hh.toNat), by simp [Instr.sliceAt, run_underlying hu, Instr.slice, hrun], rv_ex⟩
        · cases e
      · cases e
    · cases e
#print axioms xSlice_ok
end Go.Proofs.YthklnpkjlepagaaGreatDoor.Ab
