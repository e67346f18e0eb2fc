/- Qd, Qe: the texts of these names, one behind the other. -/
import Derived.Test.YthklnpkjlepagaaGreatDoorQc
import Derived.Deep.AppendSrc
namespace Go.Proofs.YthklnpkjlepagaaGreatDoor.Ab
open Go.RowKit

def setAll : List AV → Nat → List AV → List AV
  | cs, _, [] => cs
  | cs, o, x :: xs => setAll (cs.set o x) (o + 1) xs
def fillA (place : Nat → Option (Nat × Nat)) : List AV → List (Nat × AV) → Option (List AV)
  | cs, [] => some cs
  | cs, p :: rest => (place p.1).bind fun q => p.2.cells.bind fun ks => if ks.length = q.2 ∧ q.1 + ks.length ≤ cs.length then fillA place (setAll cs q.1 ks) rest else none

theorem setAll_ok {C : Cx} : ∀ {ks : List AV} {us : List Value} (off j : Nat) {cs : List AV} {vs : Array Value}, RL C ks us → RL C cs vs.toList →
    RL C (setAll cs (off + j) ks) ((us.zipIdx j).foldl (fun (ds : Array Value) (p : Value × Nat) => ds.setIfInBounds (off + p.2) p.1) vs).toList
  | [], [], _, _, _, _, _, h => h
  | k :: ks, u :: us, off, j, cs, vs, hk, h => by
    simp only [setAll, List.zipIdx_cons, List.foldl_cons]
    have := setAll_ok (ks := ks) (us := us) off (j + 1) (cs := cs.set (off + j) k) (vs := vs.setIfInBounds (off + j) u) hk.2 (by rw [Array.toList_setIfInBounds]; exact All2.set _ h hk.1)
    rwa [show off + (j + 1) = off + j + 1 by omega] at this
  | [], _ :: _, _, _, _, _, hk, _ => hk.elim
  | _ :: _, [], _, _, _, _, hk, _ => hk.elim

theorem fillA_ok {C : Cx} {place : Nat → Option (Nat × Nat)} : ∀ {ps : List (Nat × AV)} {qs : List (Nat × Value)} {cs : List AV} {vs : Array Value} {ks : List AV}, All2 (fun a b => a.1 = b.1 ∧ RV C a.2 b.2) ps qs → RL C cs vs.toList → fillA place cs ps = some ks →
    ∃ us, Instr.fill place vs qs = some us ∧ RL C ks us.toList
  | [], [], cs, vs, ks, _, h, e => by
    simp only [fillA, Option.some.injEq] at e
    subst e
    exact ⟨vs, rfl, h⟩
  | (i, x) :: ps, (i', u) :: qs, cs, vs, ks, hp, h, e => by
    obtain ⟨⟨rfl, hx⟩, hps⟩ := hp
    simp only [fillA] at e
    obtain ⟨q, h1, e⟩ := Option.bind_eq_some_iff.1 e
    obtain ⟨xs, h2, e⟩ := Option.bind_eq_some_iff.1 e
    split at e
    · rename_i hc
      have hr := rv_cells hx h2
      have hl := hr.len
      have hl2 := h.len
      simp at hl hl2
      have hset := setAll_ok q.1 0 hr h
      obtain ⟨us, h3, h4⟩ := fillA_ok hps hset e
      refine ⟨us, ?_, h4⟩
      obtain ⟨off, size⟩ := q
      simp only at h1 hc h3
      simp only [Instr.fill, h1]
      have c1 : (u.cells.size ≠ size || decide (off + u.cells.size > vs.size)) = false := by
        simp
        omega
      rw [c1]
      simp only [Bool.false_eq_true, if_false]
      rw [← h3]
      congr 1
      rw [← Array.foldl_toList, Array.toList_zipIdx]
    · cases e
  | [], _ :: _, _, _, _, hp, _, _ => hp.elim
  | _ :: _, [], _, _, _, hp, _, _ => hp.elim

/-- Where a struct's fields stand. -/
def placesA (T : Tabs) : List (Nat × Nat) → Option (List (Nat × Nat))
  | [] => some []
  | f :: fs => (T.tiAt f.2).bind fun ti => (placesA T fs).map fun r => (f.1, ti.size) :: r
theorem placesA_ok {P : Program} {T : Tabs} (hT : TabOk P T) : ∀ {fs : List Field} {ps qs : List (Nat × Nat)}, fieldsB fs ps = true → placesA T ps = some qs → fs.mapM (fun f => (P.info? f.type).map fun i => (f.offset, i.size)) = some qs
  | [], [], qs, _, h => by simp [placesA] at h; subst h; rfl
  | f :: fs, p :: ps, qs, hb, h => by
    simp only [fieldsB, Bool.and_eq_true, decide_eq_true_eq] at hb
    simp only [placesA] at h
    obtain ⟨ti, h1, h⟩ := Option.bind_eq_some_iff.1 h
    obtain ⟨r, h2, rfl⟩ := Option.map_eq_some_iff.1 h
    obtain ⟨tk⟩ := hT _ _ h1
    have ih := placesA_ok hT hb.2 h2
    simp only [List.mapM_cons, hb.1.2, tk.hi, ih, Option.map_some, tk.size, hb.1.1]
    rfl
  | [], _ :: _, _, hb, _ => by simp [fieldsB] at hb
  | _ :: _, [], _, hb, _ => by simp [fieldsB] at hb

def exZ (ti : TI) : List AV := ti.zero.map fun c => AV.ex (zv c)
def getN : List (Nat × Nat) → Nat → Option (Nat × Nat)
  | l, i => l[i]?
def xBuild (T : Tabs) (t : Nat) (ps : List (Nat × AV)) : Option AV := (T.tiAt t).bind fun ti =>
  if ti.kind = 1 then (placesA T ti.fields).bind fun qs => (fillA (fun i => qs[i]?) (exZ ti) ps).map AV.agg
  else if ti.kind = 2 then (T.tiAt ti.elem).bind fun te => (fillA (fun i => some (i * te.size, te.size)) (exZ ti) ps).map AV.agg
  else none
theorem xBuild_ok {P : Program} {T : Tabs} (hT : TabOk P T) {C : Cx} {t : Nat} {ps : List (Nat × AV)} {qs : Array (Nat × Value)} (h : All2 (fun a b => a.1 = b.1 ∧ RV C a.2 b.2) ps qs.toList) {y : AV} (e : xBuild T t ps = some y) :
    ∃ u, (Instr.build t qs).run P C.w = .ok u C.w ∧ RV C y u := by
  unfold xBuild at e
  obtain ⟨ti, h1, e⟩ := Option.bind_eq_some_iff.1 e
  obtain ⟨tk⟩ := hT t ti h1
  have hz : RL C (exZ ti) tk.z.cells.toList := by rw [tk.zero]; exact rl_zeros _
  have hk := tk.kind
  split at e
  · rename_i k1
    obtain ⟨pl, h2, e⟩ := Option.bind_eq_some_iff.1 e
    obtain ⟨ks, h3, rfl⟩ := Option.map_eq_some_iff.1 e
    obtain ⟨us, h4, h5⟩ := fillA_ok h hz h3
    refine ⟨.agg us, run_build C.w t qs us ?_, rv_agg h5⟩
    unfold kindB at hk
    split at hk <;> simp [k1] at hk
    rename_i fs hd
    have := placesA_ok hT hk h2
    unfold Program.built
    rw [tk.hi, tk.hd, hd]
    simp only [tk.hz, this]
    rw [← h4]
    congr 1
    funext i
    simp
  · split at e
    · rename_i k1
      obtain ⟨te, h2, e⟩ := Option.bind_eq_some_iff.1 e
      obtain ⟨ks, h3, rfl⟩ := Option.map_eq_some_iff.1 e
      obtain ⟨us, h4, h5⟩ := fillA_ok h hz h3
      obtain ⟨tke⟩ := hT _ _ h2
      refine ⟨.agg us, run_build C.w t qs us ?_, rv_agg h5⟩
      unfold kindB at hk
      split at hk <;> simp [k1] at hk
      rename_i n e' hd
      unfold Program.built
      rw [tk.hi, tk.hd, hd]
      simp only [tk.hz, hk.2, tke.hi, tke.size]
      exact h4
    · cases e

theorem rl_made {C : Cx} {z : Array Value} {cs : List Nat} (h : z.toList = cs.map zv) (n : Nat) : RL C ((List.range n).map fun i => AV.ex (zv (cs.getD (i % cs.length) 1))) (madeCells z n).toList := by
  have hs : z.size = cs.length := by have := congrArg List.length h; simpa using this
  refine All2.mk (by simp [madeCells]) fun i a b ha hb => ?_
  rw [List.getElem?_map] at ha
  obtain ⟨j, hj, rfl⟩ := Option.map_eq_some_iff.1 ha
  rw [List.getElem?_range] at hj
  · cases hj
    simp only [madeCells, Array.getElem?_toList, Array.getElem?_map] at hb
    obtain ⟨j, hj, rfl⟩ := Option.map_eq_some_iff.1 hb
    have : j = i := by
      rw [Array.getElem?_range] at hj
      split at hj <;> simp_all
    subst this
    have : z[j % z.size]! = zv (cs.getD (j % cs.length) 1) := by
      rw [hs]
      rw [Array.getElem!_eq_getD, Array.getD_eq_getD_getElem?, ← Array.getElem?_toList, h, List.getElem?_map, List.getD_eq_getElem?_getD]
      cases hc : cs[j % cs.length]? with
      | some c => rfl
      | none => rfl
    rw [this]
    exact rv_ex
  · have hb' := hb
    simp only [madeCells, Array.getElem?_toList, Array.getElem?_map] at hb'
    obtain ⟨j, hj, _⟩ := Option.map_eq_some_iff.1 hb'
    have hlt := (Array.getElem?_eq_some_iff.1 hj).1
    simpa using hlt

/-- Parts of a row. -/
def xRow (T : Tabs) (t len : Nat) (ps : List (Nat × AV)) : Option AV := (T.tiAt t).bind fun ti => if ti.kind = 3 then (T.tiAt ti.elem).bind fun te =>
  if 0 < te.size ∧ len * te.size ≤ 16777216 then (fillA (fun i => some (i * te.size, te.size)) ((List.range (len * te.size)).map fun i => AV.ex (zv (te.zero.getD (i % te.zero.length) 1))) ps).map fun ks => AV.row len te.size ks else none else none
/-- Is it a row of rows? Such a row may be written later on. -/
def isRows (T : Tabs) (t : Nat) : Bool := match T.tiAt t with
  | some ti => (match T.tiAt ti.elem with
    | some te => Nat.beq te.kind 3
    | none => false)
  | none => false
def elemT (T : Tabs) (t : Nat) : Nat := match T.tiAt t with
  | some ti => ti.elem
  | none => 0
def xBuildSlice (T : Tabs) (H : Hp) (n t len : Nat) (ps : List (Nat × AV)) : Option Out := (xRow T t len ps).map fun y => if isRows T t then ⟨AV.sl n 0 y.c y.d, H.set n (some ⟨elemT T t, y.ks⟩), n + 1, 0⟩ else ⟨y, H, n, 0⟩
theorem xBuildSlice_tidy {T : Tabs} {H : Hp} {n t len : Nat} {ps : List (Nat × AV)} {o : Out} (h : xBuildSlice T H n t len ps = some o) : Tidy H n o := by
  obtain ⟨y, _, h⟩ := Option.map_eq_some_iff.1 h
  split at h
  · cases h
    exact ⟨Nat.le_succ _, hb_set, fun _ b hb _ => Hp.get_other _ _ (by omega), fun _ _ h => no_bit h⟩
  · cases h
    exact tidy_same
theorem xRow_ok {P : Program} {T : Tabs} (hT : TabOk P T) {C : Cx} {t len : Nat} {ps : List (Nat × AV)} {qs : Array (Nat × Value)} (h : All2 (fun a b => a.1 = b.1 ∧ RV C a.2 b.2) ps qs.toList) {y : AV} (e : xRow T t len ps = some y) :
    ∃ us d, y = AV.row len d y.ks ∧ RL C y.ks us.toList ∧ us.size = len * d ∧ len ≤ maxLen ∧ (Instr.buildSlice t len qs).run P C.w = .ok (.slice (some ⟨C.w.heap.size, 0, none⟩) len len) (C.w.alloc (.cells us (elemT T t))) := by
  unfold xRow at e
  obtain ⟨ti, h1, e⟩ := Option.bind_eq_some_iff.1 e
  split at e
  · rename_i k3
    obtain ⟨te, h2, e⟩ := Option.bind_eq_some_iff.1 e
    split at e
    · rename_i hlt
      obtain ⟨ks, h3, rfl⟩ := Option.map_eq_some_iff.1 e
      obtain ⟨tk⟩ := hT _ _ h1
      obtain ⟨tke⟩ := hT _ _ h2
      have hz := rl_made (C := C) tke.zero (len * te.size)
      obtain ⟨us, h4, h5⟩ := fillA_ok h hz h3
      have hk := tk.kind
      unfold kindB at hk
      split at hk <;> simp [k3] at hk
      rename_i e' hd
      have hlen : us.size = len * te.size := by
        have h6 := h5.len
        have : ks.length = len * te.size := by
          have key : ∀ {place : Nat → Option (Nat × Nat)} {ps : List (Nat × AV)} {cs ks : List AV}, fillA place cs ps = some ks → ks.length = cs.length := by
            intro place ps
            induction ps with
            | nil => intro cs ks hh; simp [fillA] at hh; rw [hh]
            | cons p ps ih =>
              intro cs ks hh
              simp only [fillA] at hh
              obtain ⟨q, _, hh⟩ := Option.bind_eq_some_iff.1 hh
              obtain ⟨xs, _, hh⟩ := Option.bind_eq_some_iff.1 hh
              split at hh
              · have hs : ∀ (l : List AV) (c : List AV) (o : Nat), (setAll c o l).length = c.length := by
                  intro l
                  induction l with
                  | nil => intro c o; rfl
                  | cons a l ih2 => intro c o; simp only [setAll]; rw [ih2]; simp
                rw [ih hh, hs]
              · cases hh
          have := key h3
          simpa using this
        simp at h6
        omega
      have hrun : (Instr.buildSlice t len qs).run P C.w = .ok (.slice (some ⟨C.w.heap.size, 0, none⟩) len len) (C.w.alloc (.cells us e')) := by
        rcases Nat.eq_zero_or_pos len with h0 | h0
        · subst h0
          have hf : Instr.fill (fun i => some (i * te.size, te.size)) #[] qs.toList = some us := by
            rw [Nat.zero_mul, show madeCells tke.z.cells 0 = #[] by simp [madeCells]] at h4
            exact h4
          simp [Instr.buildSlice, run_underlying (show P.underlying t = some (.slice e') by rw [tk.hd, hd]), sizeOf, typeInfo, hk, tke.hi, newRow, tke.size, show Array.range 0 = #[] from rfl, hf]
        · have hpos : 0 < len * te.size := Nat.mul_pos h0 hlt.1
          exact run_buildSlice C.w t e' len qs us tke.i tke.z (by rw [tk.hd, hd]) (by rw [hk]; exact tke.hi) tke.hz (by rw [tke.size]; omega) (by rw [tke.size]; omega) (by rw [tke.size]; exact h4)
      have he : e' = elemT T t := by unfold elemT; rw [h1]; exact hk
      refine ⟨us, te.size, rfl, h5, hlen, ?_, by rw [← he]; exact hrun⟩
      have : len * 1 ≤ len * te.size := Nat.mul_le_mul_left len hlt.1
      unfold maxLen; omega
    · cases e
  · cases e
theorem xBuildSlice_ok {P : Program} {T : Tabs} (hT : TabOk P T) {C : Cx} (hC : Ok C) {t len : Nat} {ps : List (Nat × AV)} {qs : Array (Nat × Value)} (h : All2 (fun a b => a.1 = b.1 ∧ RV C a.2 b.2) ps qs.toList) {o : Out} {n : Nat} (e : xBuildSlice T C.H n t len ps = some o) (hn : FreeA C n o.n) :
    ∃ u C', (Instr.buildSlice t len qs).run P C.w = .ok u C'.w ∧ RV C' o.x u ∧ Goes C C' ∧ C'.H = o.H ∧ NewA C C' n o.n := by
  obtain ⟨y, h1, h2⟩ := Option.map_eq_some_iff.1 e
  obtain ⟨us, d, hy, hl, hs, hm, hrun⟩ := xRow_ok hT h h1
  split at h2
  · subst h2
    have hg := hC.new (hn n (Nat.le_refl _) (Nat.lt_succ_self _)) (ty := elemT T t) hl
    refine ⟨_, _, hrun, ?_, hg, rfl, newA_one rfl⟩
    have hsl := rv_sl (C := C.neu n (.cells us (elemT T t)) ⟨elemT T t, y.ks⟩) (a := n) (b := 0) (c := len) (d := d) (cap := len) (ty := elemT T t) (cs := us) (Or.inr rfl) (Nat.le_refl _) hm (by rw [neu_mu]; exact heap_alloc_new _ _) (by rw [hs]; omega)
    rw [neu_mu] at hsl
    rw [hy]
    exact hsl
  · subst h2
    obtain ⟨hg, hi⟩ := hC.imm us (elemT T t)
    refine ⟨_, C.neuI (.cells us (elemT T t)), hrun, ?_, hg, rfl, newA_same rfl⟩
    rw [hy]
    exact rv_row hm (by simpa using hs) hi (RL.mono hg.le hl)

/-- A field's address. -/
def xFieldAddr (T : Tabs) (t : Nat) (x : AV) (f : Nat) : Option AV := (T.tiAt t).bind fun ti => if ti.kind = 1 then (ti.fields[f]?).bind fun p => (T.tiAt p.2).bind fun tf => if 0 < tf.size then
  (if x.t = 3 then some (AV.ptr x.a (x.b + p.1)) else if x.t = 4 then some (AV.iptr (x.ks.drop p.1)) else none) else none else none

theorem rv_move {C : Cx} {x y : AV} {v : Value} (h : RV C x v) (k : Nat) (hy : (if x.t = 3 then some (AV.ptr x.a (x.b + k)) else if x.t = 4 then some (AV.iptr (x.ks.drop k)) else none) = some y) : ∃ a, v = .pointer (some a) ∧ a.spot = none ∧ RV C y (.pointer (some (a.add k))) := by
  obtain ⟨_, _, _, g3, g4, _⟩ := h.case
  split at hy
  · rename_i e
    cases hy
    obtain ⟨rfl, ha, _, _, hcell⟩ := g3 e
    refine ⟨_, rfl, rfl, ?_⟩
    rw [Addr.add_mid]
    exact rv_ptr ha hcell
  · split at hy
    · rename_i e
      cases hy
      obtain ⟨b, off, us, rfl, hi, hr⟩ := g4 e
      refine ⟨_, rfl, rfl, ?_⟩
      rw [Addr.add_mid]
      refine rv_iptr (us := us.drop k) ⟨hi.1, fun i u hu => ?_⟩ (All2.drop k hr)
      rw [List.getElem?_drop] at hu
      rw [Nat.add_assoc]
      exact hi.2 _ _ hu
    · cases hy

theorem fieldsB_get : ∀ {fs : List Field} {ps : List (Nat × Nat)} {i : Nat} {p : Nat × Nat}, fieldsB fs ps = true → ps[i]? = some p → ∃ f, fs[i]? = some f ∧ f.offset = p.1 ∧ f.type = p.2
  | f :: fs, q :: ps, 0, p, hb, h => by
    simp at h; subst h
    simp only [fieldsB, Bool.and_eq_true, decide_eq_true_eq] at hb
    exact ⟨f, rfl, hb.1.1, hb.1.2⟩
  | f :: fs, q :: ps, i + 1, p, hb, h => by
    simp only [fieldsB, Bool.and_eq_true] at hb
    simpa using fieldsB_get hb.2 (by simpa using h)
  | [], [], _, _, _, h => by simp at h
  | [], _ :: _, _, _, hb, _ => by simp [fieldsB] at hb
  | _ :: _, [], _, _, hb, _ => by simp [fieldsB] at hb

theorem xFieldAddr_ok {P : Program} {T : Tabs} (hT : TabOk P T) {C : Cx} {t f : Nat} {x y : AV} {v : Value} (h : RV C x v) (e : xFieldAddr T t x f = some y) : ∃ u, (Instr.fieldAt t v f).run P C.w = .ok u C.w ∧ RV C y u := by
  unfold xFieldAddr at e
  obtain ⟨ti, h1, e⟩ := Option.bind_eq_some_iff.1 e
  split at e
  · rename_i k1
    obtain ⟨p, h2, e⟩ := Option.bind_eq_some_iff.1 e
    obtain ⟨tf, h3, e⟩ := Option.bind_eq_some_iff.1 e
    split at e
    · rename_i hp
      obtain ⟨a, rfl, _, hr⟩ := rv_move h p.1 e
      obtain ⟨tk⟩ := hT _ _ h1
      obtain ⟨tkf⟩ := hT _ _ h3
      have hk := tk.kind
      unfold kindB at hk
      split at hk <;> simp [k1] at hk
      rename_i fs hd
      obtain ⟨fl, hf, ho, ht⟩ := fieldsB_get hk h2
      refine ⟨_, ?_, hr⟩
      have hu : P.underlying t = some (.struct fs) := by rw [tk.hd, hd]
      have hf' : fs[f]? = some fl := by simpa using hf
      have hs : (sizeOf fl.type).run P C.w = .ok tf.size C.w := by
        rw [ht]; simp [sizeOf, typeInfo, tkf.hi, tkf.size]
      have h0 : ¬ tf.size = 0 := by omega
      simp [Instr.fieldAt, run_underlying hu, hf', Instr.sureAddr, fieldPlace, hs, h0, ho]
    · cases e
  · cases e

/-- A field of a struct. -/
def xField (T : Tabs) (t : Nat) (x : AV) (f : Nat) : Option AV := (T.tiAt t).bind fun ti => if ti.kind = 1 ∧ x.t = 1 then (ti.fields[f]?).bind fun p => (T.tiAt p.2).bind fun tf =>
  if tf.kind = 1 ∨ tf.kind = 2 then some (AV.agg ((x.ks.drop p.1).take tf.size)) else x.ks[p.1]? else none
theorem xField_ok {P : Program} {T : Tabs} (hT : TabOk P T) {C : Cx} {t f : Nat} {x y : AV} {v : Value} (h : RV C x v) (e : xField T t x f = some y) : ∃ u, (Instr.field t v f).run P C.w = .ok u C.w ∧ RV C y u := by
  unfold xField at e
  obtain ⟨ti, h1, e⟩ := Option.bind_eq_some_iff.1 e
  split at e
  · rename_i k1
    obtain ⟨p, h2, e⟩ := Option.bind_eq_some_iff.1 e
    obtain ⟨tf, h3, e⟩ := Option.bind_eq_some_iff.1 e
    obtain ⟨tk⟩ := hT _ _ h1
    obtain ⟨tkf⟩ := hT _ _ h3
    have hk := tk.kind
    unfold kindB at hk
    split at hk <;> simp [k1.1] at hk
    rename_i fs hd
    obtain ⟨fl, hf, ho, ht⟩ := fieldsB_get hk h2
    obtain ⟨us, rfl, hr⟩ := h.case.2.1 k1.2
    have hu : P.underlying t = some (.struct fs) := by rw [tk.hd, hd]
    have hf' : fs[f]? = some fl := by simpa using hf
    split at e
    · rename_i kr
      cases e
      have hagg : (isAgg fl.type).run P C.w = .ok true C.w := by
        unfold isAgg
        rw [ht, Sem.run_bind, run_underlying tkf.hd C.w]
        have := kind_row tkf.kind kr
        cases hd : tkf.d <;> simp_all
      refine ⟨.agg (us.extract p.1 (p.1 + tf.size)), ?_, rv_agg ?_⟩
      · rw [ht] at hagg
        simp [Instr.field, run_underlying hu, hf', asAgg, part, hagg, sizeOf, ht, typeInfo, tkf.hi, tkf.size, ho]
      · have : (us.extract p.1 (p.1 + tf.size)).toList = (us.toList.drop p.1).take tf.size := by
          simp
        rw [this]
        exact All2.take _ (All2.drop _ hr)
    · rename_i kr
      have hagg : (isAgg fl.type).run P C.w = .ok false C.w := by
        unfold isAgg
        rw [ht, Sem.run_bind, run_underlying tkf.hd C.w]
        have := kind_not tkf.kind (fun e => kr (Or.inl e)) (fun e => kr (Or.inr e))
        cases hd : tkf.d <;> simp_all
      obtain ⟨u, hu2, hr2⟩ := All2.get hr e
      refine ⟨u, ?_, hr2⟩
      have : us[p.1]? = some u := by simpa using hu2
      simp [Instr.field, run_underlying hu, hf', asAgg, part, hagg, ho, this]
  · cases e
end Go.Proofs.YthklnpkjlepagaaGreatDoor.Ab
namespace Go.Proofs.YthklnpkjlepagaaGreatDoor.Ab
open Go.RowKit

/-- The integer that a value is. -/
def AV.int (x : AV) : Option Int := if x.t = 0 then (match x.v with
  | .int _ i => some i
  | _ => none) else none
theorem rv_int {C : Cx} {x : AV} {v : Value} {i : Int} (h : RV C x v) (hi : x.int = some i) : ∃ k, v = .int k i := by
  unfold AV.int at hi
  split at hi
  · rename_i e
    have := h.case.1 e
    split at hi
    · rename_i k j hv
      cases hi
      exact ⟨k, by rw [this, hv]⟩
    · cases hi
  · cases hi

/-- An element's address. -/
def xIndexAddr (T : Tabs) (t : Nat) (x i : AV) : Option AV := (T.tiAt t).bind fun ti => i.int.bind fun j => (T.tiAt ti.elem).bind fun te =>
  if ti.kind = 3 then (if 0 ≤ j ∧ j < x.c then (if x.t = 5 then some (AV.ptr x.a (x.b + j.toNat * te.size)) else if x.t = 7 ∨ x.t = 8 then some (AV.iptr (x.ks.drop (j.toNat * te.size))) else none) else none)
  else if ti.kind = 2 then (if 0 ≤ j ∧ j < ti.len then (if x.t = 3 then some (AV.ptr x.a (x.b + j.toNat * te.size)) else if x.t = 4 then some (AV.iptr (x.ks.drop (j.toNat * te.size))) else none) else none)
  else none
theorem imm_drop {C : Cx} {b off : Nat} {us : List Value} (h : ImmAt C b off us) (k : Nat) : ImmAt C b (off + k) (us.drop k) :=
  ⟨h.1, fun i u hu => by
    rw [List.getElem?_drop] at hu
    rw [Nat.add_assoc]
    exact h.2 _ _ hu⟩
theorem xIndexAddr_ok {P : Program} {T : Tabs} (hT : TabOk P T) {C : Cx} {t : Nat} {x i y : AV} {v u : Value} (h : RV C x v) (g : RV C i u) (e : xIndexAddr T t x i = some y) : ∃ r, (Instr.indexAt t v u).run P C.w = .ok r C.w ∧ RV C y r := by
  unfold xIndexAddr at e
  obtain ⟨ti, h1, e⟩ := Option.bind_eq_some_iff.1 e
  obtain ⟨j, h2, e⟩ := Option.bind_eq_some_iff.1 e
  obtain ⟨te, h3, e⟩ := Option.bind_eq_some_iff.1 e
  obtain ⟨k, rfl⟩ := rv_int g h2
  obtain ⟨tk⟩ := hT _ _ h1
  obtain ⟨tke⟩ := hT _ _ h3
  have hk := tk.kind
  unfold kindB at hk
  split at e
  · rename_i k3
    split at hk <;> simp [k3] at hk
    rename_i e' hd
    subst hk
    have hu : P.underlying t = some (.slice ti.elem) := by rw [tk.hd, hd]
    have hs : (sizeOf ti.elem).run P C.w = .ok te.size C.w := by simp [sizeOf, typeInfo, tke.hi, tke.size]
    split at e
    · rename_i hj
      split at e
      · rename_i h5
        cases e
        obtain ⟨cap, cs, ty, rfl, ha, hc, _, hb, _⟩ := h.case.2.2.2.2.2.1 h5
        refine ⟨.pointer (some ⟨C.mu x.a, x.b + j.toNat * te.size, none⟩), ?_, rv_ptr ha hb⟩
        simp [Instr.indexAt, asIntOf, run_underlying hu, hj, hs, Addr.add_mid]
      · split at e
        · rename_i h5
          cases e
          rcases h5 with h5 | h5
          · obtain ⟨b, off, us, rfl, hc, hl, hi, hr⟩ := h.case.2.2.2.2.2.2.2.1 h5
            refine ⟨.pointer (some ⟨b, off + j.toNat * te.size, none⟩), ?_, rv_iptr (imm_drop hi _) (All2.drop _ hr)⟩
            simp [Instr.indexAt, asIntOf, run_underlying hu, hj, hs, Addr.add_mid]
          · obtain ⟨b, off, us, cap, rfl, _, hc, hl, hi, hr⟩ := h.case.2.2.2.2.2.2.2.2.1 h5
            refine ⟨.pointer (some ⟨b, off + j.toNat * te.size, none⟩), ?_, rv_iptr (imm_drop hi _) (All2.drop _ hr)⟩
            simp [Instr.indexAt, asIntOf, run_underlying hu, hj, hs, Addr.add_mid]
        · cases e
    · cases e
  · split at e
    · rename_i k2
      split at hk <;> simp [k2] at hk
      rename_i n e' hd
      obtain ⟨rfl, rfl⟩ := hk
      have hu : P.underlying t = some (.array ti.len ti.elem) := by rw [tk.hd, hd]
      have hs : (sizeOf ti.elem).run P C.w = .ok te.size C.w := by simp [sizeOf, typeInfo, tke.hi, tke.size]
      split at e
      · rename_i hj
        obtain ⟨a, rfl, _, hr⟩ := rv_move h _ e
        refine ⟨_, ?_, hr⟩
        simp [Instr.indexAt, asIntOf, run_underlying hu, hj, hs, Instr.sureAddr]
      · cases e
    · cases e

/-- The array that a slice lies in, from its first element on. -/
def xArrAt (T : Tabs) (t : Nat) (x : AV) : Option AV := (T.tiAt t).bind fun ti =>
  if ti.kind = 2 ∧ ti.len ≤ x.c then (if x.t = 5 then some (AV.ptr x.a x.b) else if x.t = 7 ∨ x.t = 8 then some (AV.iptr x.ks) else none) else none
theorem xArrAt_ok {P : Program} {T : Tabs} (hT : TabOk P T) {C : Cx} {t : Nat} {x y : AV} {v : Value} (h : RV C x v) (e : xArrAt T t x = some y) : ∃ r, (Instr.arrayAt t v).run P C.w = .ok r C.w ∧ RV C y r := by
  unfold xArrAt at e
  obtain ⟨ti, h1, e⟩ := Option.bind_eq_some_iff.1 e
  obtain ⟨tk⟩ := hT _ _ h1
  have hk := tk.kind
  unfold kindB at hk
  split at e
  · rename_i k2
    split at hk <;> simp [k2.1] at hk
    rename_i n e' hd
    obtain ⟨rfl, rfl⟩ := hk
    have hu : P.underlying t = some (.array ti.len ti.elem) := by rw [tk.hd, hd]
    have hle := k2.2
    split at e
    · rename_i h5
      cases e
      obtain ⟨cap, cs, ty, rfl, ha, hc, _, hb, _⟩ := h.case.2.2.2.2.2.1 h5
      have hn : ¬ x.c < ti.len := by omega
      refine ⟨.pointer (some ⟨C.mu x.a, x.b, none⟩), ?_, rv_ptr ha hb⟩
      simp [Instr.arrayAt, run_underlying hu, hn]
    · split at e
      · rename_i h5
        cases e
        rcases h5 with h5 | h5
        · obtain ⟨b, off, us, rfl, hc, hl, hi, hr⟩ := h.case.2.2.2.2.2.2.2.1 h5
          have hn : ¬ x.c < ti.len := by omega
          refine ⟨.pointer (some ⟨b, off, none⟩), ?_, rv_iptr hi hr⟩
          simp [Instr.arrayAt, run_underlying hu, hn]
        · obtain ⟨b, off, us, cap, rfl, _, hc, hl, hi, hr⟩ := h.case.2.2.2.2.2.2.2.2.1 h5
          have hn : ¬ x.c < ti.len := by omega
          refine ⟨.pointer (some ⟨b, off, none⟩), ?_, rv_iptr hi hr⟩
          simp [Instr.arrayAt, run_underlying hu, hn]
      · cases e
  · cases e

/-- An element of an array, a byte of a string. -/
def xIndex (T : Tabs) (t : Nat) (x i : AV) : Option AV := (T.tiAt t).bind fun ti => i.int.bind fun j =>
  if ti.kind = 2 ∧ x.t = 1 then (T.tiAt ti.elem).bind fun te => if 0 ≤ j ∧ j < ti.len then (if te.kind = 1 ∨ te.kind = 2 then some (AV.agg ((x.ks.drop (j.toNat * te.size)).take te.size)) else x.ks[j.toNat * te.size]?) else none
  else if ti.kind = 5 ∧ x.t = 0 then (match x.v with
    | .string s => if 0 ≤ j then (match s[j.toNat]? with
      | some b => some (AV.ex (.int .u8 b.toNat))
      | none => none) else none
    | _ => none)
  else none
theorem xIndex_ok {P : Program} {T : Tabs} (hT : TabOk P T) {C : Cx} {t : Nat} {x i y : AV} {v u : Value} (h : RV C x v) (g : RV C i u) (e : xIndex T t x i = some y) : ∃ r, (Instr.index t v u).run P C.w = .ok r C.w ∧ RV C y r := by
  unfold xIndex at e
  obtain ⟨ti, h1, e⟩ := Option.bind_eq_some_iff.1 e
  obtain ⟨j, h2, e⟩ := Option.bind_eq_some_iff.1 e
  obtain ⟨k, rfl⟩ := rv_int g h2
  obtain ⟨tk⟩ := hT _ _ h1
  have hk := tk.kind
  unfold kindB at hk
  split at e
  · rename_i k2
    obtain ⟨te, h3, e⟩ := Option.bind_eq_some_iff.1 e
    obtain ⟨tke⟩ := hT _ _ h3
    split at hk <;> simp [k2.1] at hk
    rename_i n e' hd
    obtain ⟨rfl, rfl⟩ := hk
    have hu : P.underlying t = some (.array ti.len ti.elem) := by rw [tk.hd, hd]
    obtain ⟨us, rfl, hr⟩ := h.case.2.1 k2.2
    split at e
    · rename_i hj
      split at e
      · rename_i kr
        cases e
        have hagg : (isAgg ti.elem).run P C.w = .ok true C.w := by
          unfold isAgg
          rw [Sem.run_bind, run_underlying tke.hd C.w]
          have := kind_row tke.kind kr
          cases hd : tke.d <;> simp_all
        refine ⟨.agg (us.extract (j.toNat * te.size) (j.toNat * te.size + te.size)), ?_, rv_agg ?_⟩
        · simp [Instr.index, asIntOf, run_underlying hu, hj, part, hagg, sizeOf, typeInfo, tke.hi, tke.size]
        · have : (us.extract (j.toNat * te.size) (j.toNat * te.size + te.size)).toList = (us.toList.drop (j.toNat * te.size)).take te.size := by simp
          rw [this]
          exact All2.take _ (All2.drop _ hr)
      · rename_i kr
        have hagg : (isAgg ti.elem).run P C.w = .ok false C.w := by
          unfold isAgg
          rw [Sem.run_bind, run_underlying tke.hd C.w]
          have := kind_not tke.kind (fun e => kr (Or.inl e)) (fun e => kr (Or.inr e))
          cases hd : tke.d <;> simp_all
        obtain ⟨u, hu2, hr2⟩ := All2.get hr e
        refine ⟨u, ?_, hr2⟩
        have : us[j.toNat * te.size]? = some u := by simpa using hu2
        simp [Instr.index, asIntOf, run_underlying hu, hj, part, hagg, sizeOf, typeInfo, tke.hi, tke.size, this]
    · cases e
  · split at e
    · rename_i k5
      split at e
      · rename_i s hs
        split at e
        · rename_i h0
          split at e
          · rename_i b hb
            cases e
            have hv := h.case.1 k5.2
            rw [hs] at hv
            subst hv
            split at hk <;> simp [k5.1] at hk
            rename_i hd
            have hu : P.underlying t = some .string := by rw [tk.hd, hd]
            exact ⟨_, by simp [Instr.index, asIntOf, run_underlying hu, h0, hb], rv_ex⟩
          · cases e
        · cases e
      · cases e
    · cases e

def optInt (lo : Option AV) (d : Int) : Option Int := match lo with
  | none => some d
  | some l => l.int
/-- A part of a slice, of a string. -/
def xSlice (T : Tabs) (t : Nat) (x : AV) (lo hi : Option AV) : Option AV := (T.tiAt t).bind fun ti => (optInt lo 0).bind fun l => if ti.kind = 3 ∧ (x.t = 5 ∨ x.t = 7 ∨ x.t = 8) then (T.tiAt ti.elem).bind fun te => (optInt hi x.c).bind fun h => if 0 ≤ l ∧ l ≤ h ∧ h ≤ x.c ∧ te.size = x.d then
      (if x.t = 5 then (if l < h ∨ l = 0 then some (AV.sl x.a (x.b + l.toNat * te.size) (h.toNat - l.toNat) te.size) else some (AV.len 0))
       else if l < h then some (AV.row8 (h.toNat - l.toNat) te.size ((x.ks.drop (l.toNat * te.size)).take ((h.toNat - l.toNat) * te.size))) else some (AV.len 0)) else none
  else if ti.kind = 5 ∧ x.t = 0 then (match x.v with
    | .string s => (optInt hi s.size).bind fun h => if 0 ≤ l ∧ l ≤ h ∧ h ≤ s.size then some (AV.ex (.string (s.extract l.toNat h.toNat))) else none
    | _ => none)
  else none

theorem run_bounds {P : Program} {w : World} {isS : Bool} {len cap : Nat} {lo hi : Option Value} {l h : Int} (hl : (lo = none ∧ l = 0) ∨ ∃ k, lo = some (.int k l)) (hh : (hi = none ∧ h = len) ∨ ∃ k, hi = some (.int k h)) (h0 : 0 ≤ l) (h1 : l ≤ h) (h2 : h ≤ cap) :
    (Instr.sliceBounds isS len cap lo hi none).run P w = .ok (l.toNat, h.toNat, cap) w := by
  rcases hl with ⟨rfl, rfl⟩ | ⟨k, rfl⟩ <;> rcases hh with ⟨rfl, rfl⟩ | ⟨k', rfl⟩
  · simp [Instr.sliceBounds]
  · have c : (0 ≤ h ∧ h ≤ (cap : Int)) := by omega
    simp [Instr.sliceBounds, Instr.sliceBound, asIntOf, c]
  · have c : (0 ≤ l ∧ l ≤ ((len : Nat) : Int)) := by omega
    simp [Instr.sliceBounds, Instr.sliceBound, asIntOf, c]
  · have c : (0 ≤ h ∧ h ≤ (cap : Int)) := by omega
    have c2 : (0 ≤ l ∧ l ≤ ((h.toNat : Nat) : Int)) := by omega
    simp [Instr.sliceBounds, Instr.sliceBound, asIntOf, c]
    omega

/-- A bound that is given, or not. -/
def OptV (C : Cx) (lo : Option AV) (v : Option Value) : Prop := match lo, v with
  | none, none => True
  | some x, some u => RV C x u
  | _, _ => False
theorem optv_int {C : Cx} {lo : Option AV} {v : Option Value} (h : OptV C lo v) {d l : Int} (hl : optInt lo d = some l) : (v = none ∧ l = d) ∨ ∃ k, v = some (.int k l) := by
  cases lo with
  | none =>
    cases v with
    | none => simp [optInt] at hl; exact Or.inl ⟨rfl, hl.symm⟩
    | some u => exact h.elim
  | some x =>
    cases v with
    | none => exact h.elim
    | some u =>
      obtain ⟨k, rfl⟩ := rv_int (show RV C x u from h) hl
      exact Or.inr ⟨k, rfl⟩

theorem xSlice_ok {P : Program} {T : Tabs} (hT : TabOk P T) {C : Cx} {t : Nat} {x y : AV} {lo hi : Option AV} {v : Value} {vl vh : Option Value} (h : RV C x v) (gl : OptV C lo vl) (gh : OptV C hi vh) (e : xSlice T t x lo hi = some y) : ∃ r, (Instr.sliceAt t v vl vh none).run P C.w = .ok r C.w ∧ RV C y r := by
  unfold xSlice at e
  obtain ⟨ti, h1, e⟩ := Option.bind_eq_some_iff.1 e
  obtain ⟨l, h2, e⟩ := Option.bind_eq_some_iff.1 e
  obtain ⟨tk⟩ := hT _ _ h1
  have hk := tk.kind
  unfold kindB at hk
  have hl := optv_int gl h2
  split at e
  · rename_i k3
    obtain ⟨te, h3, e⟩ := Option.bind_eq_some_iff.1 e
    obtain ⟨hh, h4, e⟩ := Option.bind_eq_some_iff.1 e
    obtain ⟨tke⟩ := hT _ _ h3
    have hb := optv_int gh h4
    split at hk <;> simp [k3.1] at hk
    rename_i e' hd
    subst hk
    have hu : P.underlying t = some (.slice ti.elem) := by rw [tk.hd, hd]
    have hs : (sizeOf ti.elem).run P C.w = .ok te.size C.w := by simp [sizeOf, typeInfo, tke.hi, tke.size]
    split at e
    · rename_i hc
      obtain ⟨c0, c1, c2, c3⟩ := hc
      split at e
      · rename_i h5
        obtain ⟨cap, cs, ty, rfl, ha, hc, hm, hbk, hsz⟩ := h.case.2.2.2.2.2.1 h5
        have hrun := run_bounds (P := P) (w := C.w) (isS := true) (len := x.c) (cap := cap) hl hb c0 c1 (by omega)
        split at e
        · rename_i hlt
          cases e
          refine ⟨.slice (some ⟨C.mu x.a, x.b + l.toNat * te.size, none⟩) (hh.toNat - l.toNat) (cap - l.toNat), ?_, ?_⟩
          · have hne : (if cap = l.toNat then (some ⟨C.mu x.a, x.b, none⟩ : Option Addr) else (some ⟨C.mu x.a, x.b, none⟩ : Option Addr).map (·.add (l.toNat * te.size))) = some ⟨C.mu x.a, x.b + l.toNat * te.size, none⟩ := by
              split
              · rename_i he
                rcases hlt with hlt | rfl
                · omega
                · simp
              · simp [Addr.add_mid]
            simp [Instr.sliceAt, run_underlying hu, Instr.slice, hrun, hs]
            simpa using hne
          · refine rv_sl ha (by omega) (by omega) hbk ?_
            rw [← c3] at hsz
            have h9 : (cap - l.toNat) * te.size + l.toNat * te.size = cap * te.size := by
              rw [← Nat.add_mul]; congr 1; omega
            omega
        · cases e
          rename_i hlt
          refine ⟨.slice (if cap = l.toNat then (some ⟨C.mu x.a, x.b, none⟩ : Option Addr) else (some ⟨C.mu x.a, x.b, none⟩ : Option Addr).map (·.add (l.toNat * te.size))) 0 (cap - l.toNat), ?_, rv_len⟩
          have h9 : hh.toNat - l.toNat = 0 := by omega
          simp [Instr.sliceAt, run_underlying hu, Instr.slice, hrun, hs, h9]
      · rename_i h5
        have hrow : ∃ k off us cap, v = .slice (some ⟨k, off, none⟩) x.c cap ∧ x.c ≤ cap ∧ cap ≤ maxLen ∧ us.length = x.c * x.d ∧ ImmAt C k off us ∧ RL C x.ks us := by
          rcases k3.2 with k | k | k
          · exact absurd k h5
          · obtain ⟨k, off, us, r, a, b, c, d⟩ := h.case.2.2.2.2.2.2.2.1 k
            exact ⟨k, off, us, x.c, r, Nat.le_refl _, a, b, c, d⟩
          · exact h.case.2.2.2.2.2.2.2.2.1 k
        obtain ⟨b, off, us, cap, rfl, hcc, hm, hlen, hi, hr⟩ := hrow
        have hrun := run_bounds (P := P) (w := C.w) (isS := true) (len := x.c) (cap := cap) hl hb c0 c1 (by omega)
        split at e
        · rename_i hlt
          cases e
          refine ⟨.slice (some ⟨b, off + l.toNat * te.size, none⟩) (hh.toNat - l.toNat) (cap - l.toNat), ?_, ?_⟩
          · have hne : ¬ cap = l.toNat := by omega
            simp [Instr.sliceAt, run_underlying hu, Instr.slice, hrun, hs, hne, Addr.add_mid]
          · refine rv_row8 (us := (us.drop (l.toNat * te.size)).take ((hh.toNat - l.toNat) * te.size)) (by omega) (by omega) ?_ ?_ (All2.take _ (All2.drop _ hr))
            · rw [List.length_take, List.length_drop, hlen, ← c3, ← Nat.sub_mul]
              refine Nat.min_eq_left (Nat.mul_le_mul_right _ (by omega))
            · refine ⟨hi.1, fun i u hu => ?_⟩
              rw [List.getElem?_take] at hu
              split at hu
              · exact (imm_drop hi _).2 i u hu
              · cases hu
        · cases e
          refine ⟨.slice (if cap = l.toNat then (some ⟨b, off, none⟩ : Option Addr) else (some ⟨b, off, none⟩ : Option Addr).map (·.add (l.toNat * te.size))) 0 (cap - l.toNat), ?_, rv_len⟩
          have h9 : hh.toNat - l.toNat = 0 := by omega
          simp [Instr.sliceAt, run_underlying hu, Instr.slice, hrun, hs, h9]
    · cases e
  · split at e
    · rename_i k5
      split at e
      · rename_i s hs
        obtain ⟨hh, h4, e⟩ := Option.bind_eq_some_iff.1 e
        have hb := optv_int gh h4
        split at e
        · rename_i hc
          cases e
          have hv := h.case.1 k5.2
          rw [hs] at hv
          subst hv
          split at hk <;> simp [k5.1] at hk
          rename_i hd
          have hu : P.underlying t = some .string := by rw [tk.hd, hd]
          have hrun := run_bounds (P := P) (w := C.w) (isS := false) (len := s.size) (cap := s.size) hl hb hc.1 hc.2.1 hc.2.2
          exact ⟨.string (s.extract l.toNat hh.toNat), by simp [Instr.sliceAt, run_underlying hu, Instr.slice, hrun], rv_ex⟩
        · cases e
      · cases e
    · cases e
end Go.Proofs.YthklnpkjlepagaaGreatDoor.Ab
