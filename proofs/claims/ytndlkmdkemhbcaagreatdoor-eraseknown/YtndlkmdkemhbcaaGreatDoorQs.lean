/- Maps whose keys are strings: made, put, looked up. -/
import Derived.Test.YtndlkmdkemhbcaaGreatDoorQh
import Derived.MapKept
namespace Go.Proofs.YtndlkmdkemhbcaaGreatDoor.Ab
open Go.RowKit

/-- A new block, whatever it is. -/
theorem Ok.newO {C : Cx} (h : Ok C) {n : Nat} (hn : ¬ C.A n) {o : Obj} {B : Blk} (hB : BlkAt (C.neu n o B) C.w.heap.size B) : Goes C (C.neu n o B) := by
  have hmu : ∀ b, C.A b → updMu C.mu n C.w.heap.size b = C.mu b := fun b hb => if_neg (fun e : b = n => hn (e ▸ hb))
  have hgm : ∀ b B, C.H.get b = some B → updMu C.mu n C.w.heap.size b = C.mu b := fun b B hb => hmu b (h.blk b B hb).1
  have le : C.le (C.neu n o B) :=
    ⟨fun a ha => Or.inl ha, hmu, by show _ ≤ (C.w.alloc _).heap.size; simp, fun k hk => ⟨⟨by show k < (C.w.alloc _).heap.size; have := hk.1; simp; omega, hk.2, hk.1⟩, Below.heap_alloc _ _ _ hk.1⟩, fun k cs t fr hk => ⟨cs, (Below.heap_alloc _ _ _ (size_of_block hk)).trans hk, rfl⟩, rfl⟩
  refine ⟨le, ⟨fun b B1 hb => ?_, fun b B1 b' B' hb hb' he => ?_, fun b B1 hb hz => ?_⟩, ⟨rfl, rfl, rfl⟩, fun k hk ho => ⟨Below.heap_alloc _ _ _ hk, fun b B1 hb => ?_⟩, fun k hk hz => hz.1⟩
  · replace hb : (C.H.set n (some B)).get b = some B1 := hb
    rw [Hp.get_set] at hb
    split at hb
    · rename_i e
      subst e
      obtain rfl := Option.some.inj hb
      exact ⟨Or.inr rfl, by show BlkAt _ (updMu C.mu n C.w.heap.size n) _; rw [show updMu C.mu n C.w.heap.size n = C.w.heap.size from if_pos rfl]; exact hB⟩
    · obtain ⟨h1, h2⟩ := h.blk b B1 hb
      refine ⟨Or.inl h1, h2.mono le ?_⟩
      show (C.w.alloc _).heap[updMu C.mu n C.w.heap.size b]? = _
      rw [hmu b h1]
      exact Below.heap_alloc _ _ _ h2.lt
  · replace hb : (C.H.set n (some B)).get b = some B1 := hb
    replace hb' : (C.H.set n (some B)).get b' = some B' := hb'
    have he : updMu C.mu n C.w.heap.size b = updMu C.mu n C.w.heap.size b' := he
    rw [Hp.get_set] at hb hb'
    split at hb
    · rename_i e
      split at hb'
      · rename_i e'; omega
      · rename_i e'
        rw [hgm b' B' hb'] at he
        subst e
        rw [show updMu C.mu n C.w.heap.size n = C.w.heap.size from if_pos rfl] at he
        have := h.lt hb'
        omega
    · rename_i e
      split at hb'
      · rename_i e'
        rw [hgm b B1 hb] at he
        subst e'
        rw [show updMu C.mu n C.w.heap.size n = C.w.heap.size from if_pos rfl] at he
        have := h.lt hb
        omega
      · rw [hgm b B1 hb, hgm b' B' hb'] at he
        exact h.inj b B1 b' B' hb hb' he
  · replace hb : (C.H.set n (some B)).get b = some B1 := hb
    have hz : C.Z (updMu C.mu n C.w.heap.size b) ∧ updMu C.mu n C.w.heap.size b < C.w.heap.size := hz
    rw [Hp.get_set] at hb
    split at hb
    · rename_i e
      subst e
      rw [show updMu C.mu n C.w.heap.size n = C.w.heap.size from if_pos rfl] at hz
      omega
    · rw [hgm b B1 hb] at hz
      exact h.zone b B1 hb hz.1
  · replace hb : (C.H.set n (some B)).get b = some B1 := hb
    show updMu C.mu n C.w.heap.size b ≠ k
    rw [Hp.get_set] at hb
    split at hb
    · rename_i e
      subst e
      rw [show updMu C.mu n C.w.heap.size n = C.w.heap.size from if_pos rfl]
      omega
    · rw [hgm b B1 hb]
      exact ho b B1 hb

/-- A map that is known is turned. -/
theorem Ok.putM {C : Cx} (h : Ok C) {b : Nat} {B : Blk} (hb : C.H.get b = some B) {es : Array MapEntry} {cl : Nat} (hc : C.w.heap[C.mu b]? = some (.map es cl)) {es' : Array MapEntry} {x : AV} (hx : x.t = 15) {w : World} (hw : w.heap.size = C.w.heap.size)
    (h1 : w.heap[C.mu b]? = some (.map es' x.a)) (h2 : ∀ j, j ≠ C.mu b → w.heap[j]? = C.w.heap[j]?) (h3 : Same3 C.w w) (hl : All2 (EntR C) x.ks es'.toList) : Goes C { C with w := w, H := C.H.set b (some ⟨B.ty, [x]⟩) } := by
  have key : ∀ {y X}, (C.H.set b (some ⟨B.ty, [x]⟩)).get y = some X → ∃ X', C.H.get y = some X' := by
    intro y X hy
    rw [Hp.get_set] at hy
    split at hy
    · rename_i e; subst e; exact ⟨B, hb⟩
    · exact ⟨X, hy⟩
  have le : C.le { C with w := w, H := C.H.set b (some ⟨B.ty, [x]⟩) } := by
    refine ⟨fun _ h => h, fun _ _ => rfl, by show _ ≤ w.heap.size; omega, fun k hk => ⟨⟨by show k < w.heap.size; have := hk.1; omega, hk.2⟩, h2 k (fun e => h.zone b B hb (e ▸ hk.2))⟩, fun k cs' t fr hk => ?_, rfl⟩
    by_cases e : k = C.mu b
    · subst e
      rw [hc] at hk
      cases hk
    · exact ⟨cs', (h2 k e).trans hk, rfl⟩
  refine ⟨le, ⟨fun b' B' hb' => ?_, fun a A a' A' ha ha' he => ?_, fun a A ha => ?_⟩, h3, fun k hk ho => ⟨h2 k (fun e => ho b B hb e.symm), fun a A ha => ?_⟩, fun _ _ h => h⟩
  · replace hb' : (C.H.set b (some ⟨B.ty, [x]⟩)).get b' = some B' := hb'
    rw [Hp.get_set] at hb'
    split at hb'
    · rename_i e
      subst e
      obtain rfl := Option.some.inj hb'
      exact ⟨(h.blk b B hb).1, Or.inr ⟨x, es', rfl, hx, h1, hl.imp fun _ _ r => r.mono le⟩⟩
    · rename_i e
      obtain ⟨g1, g2⟩ := h.blk b' B' hb'
      exact ⟨g1, g2.mono le (h2 _ (fun e' => e (h.inj b B b' B' hb hb' e'.symm)))⟩
  · obtain ⟨_, k1⟩ := key ha
    obtain ⟨_, k2⟩ := key ha'
    exact h.inj _ _ _ _ k1 k2 he
  · obtain ⟨_, k1⟩ := key ha
    exact h.zone _ _ k1
  · obtain ⟨_, k1⟩ := key ha
    exact ho _ _ k1

/-- A new map. -/
def xMapNew (H : Hp) (n : Nat) : Out := ⟨AV.mp n, H.set n (some ⟨0, [AV.ents 0 []]⟩), n + 1, 0⟩
theorem xMapNew_tidy (H : Hp) (n : Nat) : Tidy H n (xMapNew H n) := ⟨Nat.le_succ _, hb_set, fun _ b hb _ => Hp.get_other _ _ (by omega), fun _ _ h => no_bit h⟩
theorem xMapNew_ok {P : Program} {C : Cx} (hC : Ok C) {n t : Nat} (hn : ¬ C.A n) :
    ∃ u C', (Instr.makeMap t none).run P C.w = .ok u C'.w ∧ RV C' (AV.mp n) u ∧ Goes C C' ∧ C'.H = (xMapNew C.H n).H ∧ NewA C C' n (n + 1) := by
  refine ⟨.map (some C.w.heap.size), C.neu n (.map #[] 0) ⟨0, [AV.ents 0 []]⟩, ?_, ?_, hC.newO hn ?_, rfl, newA_one rfl⟩
  · simp [Instr.makeMap]
    rfl
  · have := rv_mp (C := C.neu n (.map #[] 0) ⟨0, [AV.ents 0 []]⟩) (a := n) (Or.inr rfl)
    rw [neu_mu] at this
    exact this
  · exact Or.inr ⟨_, #[], rfl, rfl, heap_alloc_new _ _, trivial⟩

/-- The bytes of two strings. -/
def bytesB : List UInt8 → List UInt8 → Bool
  | [], ys => List.casesOn ys true fun _ _ => false
  | x :: xs, ys => List.casesOn ys false fun y ys => Bool.casesOn (Nat.beq x.toNat y.toNat) false (bytesB xs ys)
theorem bytesB_iff : ∀ (xs ys : List UInt8), bytesB xs ys = true ↔ xs = ys
  | [], [] => by simp [bytesB]
  | [], _ :: _ => by simp [bytesB]
  | _ :: _, [] => by simp [bytesB]
  | x :: xs, y :: ys => by
    have ih := bytesB_iff xs ys
    have e : bytesB (x :: xs) (y :: ys) = Bool.casesOn (Nat.beq x.toNat y.toNat) false (bytesB xs ys) := rfl
    rw [e]
    by_cases h : x = y
    · subst h
      rw [show Nat.beq x.toNat x.toNat = true from Nat.beq_refl _]
      simp [ih]
    · have : Nat.beq x.toNat y.toNat = false := by
        cases hb : Nat.beq x.toNat y.toNat with
        | false => rfl
        | true => exact absurd (UInt8.toNat.inj (Nat.eq_of_beq_eq_true hb)) h
      rw [this]
      simp [h]
def strB (a b : ByteArray) : Bool := bytesB a.data.toList b.data.toList
theorem strB_eq (a b : ByteArray) : strB a b = (a == b) := by
  rw [Bool.eq_iff_iff, MapKept.bytes_beq]
  unfold strB
  rw [bytesB_iff]
  constructor
  · intro h
    obtain ⟨x⟩ := a
    obtain ⟨y⟩ := b
    have : x = y := by simpa using h
    rw [this]
  · intro h; rw [h]

/-- Where a key stands among entries. -/
inductive Fd where
  | bad
  | no
  | at_ (i : Nat) (x : AV)
def isStr (k : ByteArray) (v : Value) : Option Bool := match v with
  | .string b => some (strB k b)
  | _ => none
def findA (k : ByteArray) : List AV → Nat → Fd
  | [], _ => .no
  | x :: xs, i => match isStr k x.v with
    | some true => .at_ i x
    | some false => findA k xs (i + 1)
    | none => .bad
theorem findA_no {C : Cx} {k : ByteArray} : ∀ {xs : List AV} {es : List MapEntry} {i : Nat}, All2 (EntR C) xs es → findA k xs i = .no → Instr.findNow .string (.string k) es i = some none
  | [], [], i, _, _ => rfl
  | x :: xs, e :: es, i, h, hf => by
    simp only [findA] at hf
    split at hf
    · cases hf
    · rename_i hs
      have ih := findA_no (i := i + 1) h.2 hf
      unfold isStr at hs
      split at hs
      · rename_i b hb
        simp only [Option.some.injEq] at hs
        rw [strB_eq] at hs
        have hk : e.key = .string b := by rw [← h.1.key, hb]
        simp only [Instr.findNow, hk, Instr.sameNow, hs]
        exact ih
      · cases hs
    · cases hf
  | [], _ :: _, _, h, _ => h.elim
  | _ :: _, [], _, h, _ => h.elim
theorem findA_at {C : Cx} {k : ByteArray} {x : AV} : ∀ {xs : List AV} {es : List MapEntry} {i j : Nat}, All2 (EntR C) xs es → findA k xs i = .at_ j x → ∃ e, Instr.findNow .string (.string k) es i = some (some (j, e.val)) ∧ i ≤ j ∧ xs[j - i]? = some x ∧ es[j - i]? = some e ∧ e.key = .string k ∧ EntR C x e
  | [], [], i, j, _, h => by simp [findA] at h
  | y :: xs, e :: es, i, j, h, hf => by
    simp only [findA] at hf
    split at hf
    · rename_i hs
      cases hf
      unfold isStr at hs
      split at hs
      · rename_i b hb
        simp only [Option.some.injEq] at hs
        rw [strB_eq] at hs
        have hk : e.key = .string b := by rw [← h.1.key, hb]
        refine ⟨e, by simp only [Instr.findNow, hk, Instr.sameNow, hs], Nat.le_refl _, by simp, by simp, ?_, h.1⟩
        rw [hk, (MapKept.bytes_beq _ _).1 hs]
      · cases hs
    · rename_i hs
      obtain ⟨e', g1, g2, g3, g4, g5, g6⟩ := findA_at (i := i + 1) h.2 hf
      unfold isStr at hs
      split at hs
      · rename_i b hb
        simp only [Option.some.injEq] at hs
        rw [strB_eq] at hs
        have hk : e.key = .string b := by rw [← h.1.key, hb]
        have hj : j - i = (j - (i + 1)) + 1 := by omega
        refine ⟨e', by simp only [Instr.findNow, hk, Instr.sameNow, hs]; exact g1, by omega, by rw [hj]; simpa using g3, by rw [hj]; simpa using g4, g5, g6⟩
      · cases hs
    · cases hf
  | [], _ :: _, _, _, h, _ => h.elim
  | _ :: _, [], _, _, h, _ => h.elim

/-- The string that a value is. -/
def AV.str (x : AV) : Option ByteArray := if x.t = 0 then (match x.v with
  | .string b => some b
  | _ => none) else none
theorem rv_str {C : Cx} {x : AV} {v : Value} {b : ByteArray} (h : RV C x v) (e : x.str = some b) : v = .string b := by
  unfold AV.str at e
  split at e
  · rename_i h0
    split at e
    · rename_i c hc
      cases e
      rw [h.case.1 h0, hc]
    · cases e
  · cases e
/-- The one cell that a map's block has. -/
def entsOf (l : List AV) : Option AV := match l with
  | [e] => if e.t = 15 then some e else none
  | _ => none
theorem entsOf_ok {l : List AV} {e : AV} (h : entsOf l = some e) : l = [e] ∧ e.t = 15 := by
  unfold entsOf at h
  split at h
  · split at h
    · rename_i h15; cases h; exact ⟨rfl, h15⟩
    · cases h
  · cases h
/-- A map's entries. -/
def mapOf (H : Hp) (m : AV) : Option (Blk × AV) := if m.t = 13 then (H.get m.a).bind fun B => (entsOf B.cs).map fun e => (B, e) else none
theorem mapOf_ok {C : Cx} (hC : Ok C) {m : AV} {v : Value} (h : RV C m v) {B : Blk} {x : AV} (e : mapOf C.H m = some (B, x)) : v = .map (some (C.mu m.a)) ∧ C.H.get m.a = some B ∧ x.t = 15 ∧ ∃ es, C.w.heap[C.mu m.a]? = some (.map es x.a) ∧ All2 (EntR C) x.ks es.toList := by
  unfold mapOf at e
  split at e
  · rename_i ht
    obtain ⟨B1, hB, e⟩ := Option.bind_eq_some_iff.1 e
    obtain ⟨x1, hx, e⟩ := Option.map_eq_some_iff.1 e
    simp only [Prod.mk.injEq] at e
    obtain ⟨rfl, rfl⟩ := e
    obtain ⟨k1, k2⟩ := entsOf_ok hx
    obtain ⟨_, es, g1, g2⟩ := hC.mapAt hB k1 k2
    exact ⟨((h.hi (by omega)).mp ht).1, hB, k2, es, g1, g2⟩
  · cases e

/-- An entry. -/
def AV.ent (k : ByteArray) (born : Nat) (x : AV) : AV := ⟨16, .string k, born, 0, 0, 0, [x]⟩
/-- A key has a value. -/
def xMapPut (T : Tabs) (H : Hp) (n t : Nat) (m k x : AV) : Option Out := (T.tiAt t).bind fun ti => if ti.kind = 10 then (T.tiAt ti.len).bind fun tk => if tk.kind = 5 then k.str.bind fun s => (mapOf H m).bind fun p => (match findA s p.2.ks 0 with
  | .bad => none
  | .no => some (AV.ents (p.2.a + 1) (p.2.ks ++ [AV.ent s p.2.a x]))
  | .at_ i y => some (AV.ents p.2.a (p.2.ks.set i (AV.ent s y.a x)))).map fun e => ⟨AV.ex undef, H.set m.a (some ⟨p.1.ty, [e]⟩), n, bit1 m.a⟩ else none else none
theorem xMapPut_tidy {T : Tabs} {H : Hp} {n t : Nat} {m k x : AV} {o : Out} (h : xMapPut T H n t m k x = some o) : Tidy H n o := by
  unfold xMapPut at h
  obtain ⟨ti, _, h⟩ := Option.bind_eq_some_iff.1 h
  split at h
  · obtain ⟨tk, _, h⟩ := Option.bind_eq_some_iff.1 h
    split at h
    · obtain ⟨s, _, h⟩ := Option.bind_eq_some_iff.1 h
      obtain ⟨p, h3, h⟩ := Option.bind_eq_some_iff.1 h
      obtain ⟨e, _, rfl⟩ := Option.map_eq_some_iff.1 h
      have hB : ∃ B, H.get m.a = some B := by
        unfold mapOf at h3
        split at h3
        · obtain ⟨B, hB, _⟩ := Option.bind_eq_some_iff.1 h3
          exact ⟨B, hB⟩
        · cases h3
      obtain ⟨B, hB⟩ := hB
      exact ⟨Nat.le_refl _, hb_old hB, fun _ b _ hn => Hp.get_other _ _ (fun e => by rw [bit1_iff.2 e.symm] at hn; cases hn), fun _ b hb _ => by rw [bit1_iff.1 hb]; exact ⟨B, hB⟩⟩
    · cases h
  · cases h
theorem xMapPut_x {T : Tabs} {H : Hp} {n t : Nat} {m k x : AV} {o : Out} (h : xMapPut T H n t m k x = some o) : o.x = AV.ex undef := by
  unfold xMapPut at h
  obtain ⟨ti, _, h⟩ := Option.bind_eq_some_iff.1 h
  split at h
  · obtain ⟨tk, _, h⟩ := Option.bind_eq_some_iff.1 h
    split at h
    · obtain ⟨s, _, h⟩ := Option.bind_eq_some_iff.1 h
      obtain ⟨p, _, h⟩ := Option.bind_eq_some_iff.1 h
      obtain ⟨e, _, rfl⟩ := Option.map_eq_some_iff.1 h
      rfl
    · cases h
  · cases h
theorem map_desc {P : Program} {T : Tabs} (hT : TabOk P T) {t : Nat} {ti tk : TI} (h1 : T.tiAt t = some ti) (k : ti.kind = 10) (h2 : T.tiAt ti.len = some tk) (k5 : tk.kind = 5) : P.underlying t = some (.map ti.len ti.elem) ∧ P.underlying ti.len = some .string := by
  obtain ⟨o1⟩ := hT _ _ h1
  obtain ⟨o2⟩ := hT _ _ h2
  have e1 := o1.kind
  have e2 := o2.kind
  unfold kindB at e1 e2
  constructor
  · split at e1 <;> simp [k] at e1
    rename_i a b hd
    rw [o1.hd, hd, e1.1, e1.2]
  · split at e2 <;> simp [k5] at e2
    rename_i hd
    rw [o2.hd, hd]
theorem all2_modify {C : Cx} {xs : List AV} {es : Array MapEntry} {j : Nat} {f : MapEntry → MapEntry} {y : AV} {e : MapEntry} (h : All2 (EntR C) xs es.toList) (hj : es.toList[j]? = some e) (hy : EntR C y (f e)) : All2 (EntR C) (xs.set j y) (es.modify j f).toList := by
  have : (es.modify j f).toList = es.toList.set j (f e) := by
    rw [Array.toList_modify]
    apply List.ext_getElem?
    intro i
    rw [List.getElem?_modify, List.getElem?_set]
    by_cases hi : j = i
    · subst hi
      have hlt : j < es.toList.length := (List.getElem?_eq_some_iff.1 hj).1
      simp [hj]
      simpa using hlt
    · simp [hi]
  rw [this]
  exact h.set j hy
theorem xMapPut_ok {P : Program} {T : Tabs} (hT : TabOk P T) {C : Cx} (hC : Ok C) {t : Nat} {m k x : AV} {vm vk vx : Value} (hm : RV C m vm) (hk : RV C k vk) (hx : RV C x vx) {o : Out} {n : Nat} (h : xMapPut T C.H n t m k x = some o) :
    ∃ C', (Instr.mapUpdate t vm vk vx).run P C.w = .ok () C'.w ∧ Goes C C' ∧ C'.H = o.H ∧ NewA C C' n o.n := by
  unfold xMapPut at h
  obtain ⟨ti, h1, h⟩ := Option.bind_eq_some_iff.1 h
  split at h
  · rename_i k10
    obtain ⟨tk, h2, h⟩ := Option.bind_eq_some_iff.1 h
    split at h
    · rename_i k5
      obtain ⟨hu, huk⟩ := map_desc hT h1 k10 h2 k5
      obtain ⟨s, hs, h⟩ := Option.bind_eq_some_iff.1 h
      obtain rfl := rv_str hk hs
      obtain ⟨⟨B, y⟩, h3, h⟩ := Option.bind_eq_some_iff.1 h
      obtain ⟨rfl, hB, y15, es, hb, hl⟩ := mapOf_ok hC hm h3
      obtain ⟨e, he, rfl⟩ := Option.map_eq_some_iff.1 h
      have hkey : MapKept.IsKey .string (.string s) := trivial
      have hlt := size_of_block hb
      have put : ∀ (es' : Array MapEntry) (cl : Nat) (ks : List AV), All2 (EntR C) ks es'.toList → Goes C { C with w := { C.w with heap := C.w.heap.setIfInBounds (C.mu m.a) (.map es' cl) }, H := C.H.set m.a (some ⟨B.ty, [AV.ents cl ks]⟩) } := by
        intro es' cl ks hks
        refine hC.putM hB hb (es' := es') rfl (by simp) ?_ (fun j hj => ?_) ⟨rfl, rfl, rfl⟩ hks
        · show (C.w.heap.setIfInBounds (C.mu m.a) (.map es' cl))[C.mu m.a]? = _
          exact (MapKept.heap_set hb).1
        · exact (MapKept.heap_set hb).2 j hj
      split at he
      · cases he
      · rename_i hf
        cases he
        have hn := findA_no hl hf
        refine ⟨_, ?_, put (es.push ⟨.string s, vx, y.a⟩) (y.a + 1) (y.ks ++ [AV.ent s y.a x]) ?_, rfl, newA_same rfl⟩
        · simp [Instr.mapUpdate, run_underlying hu, MapKept.run_getObj_map hb, MapKept.run_checkKey huk hkey, MapKept.run_findKey huk hn, MapKept.run_setObj_map _ hb, Result.andThen]
        · rw [Array.toList_push]
          exact hl.app ⟨⟨rfl, rfl, hx, trivial⟩, trivial⟩
      · rename_i i z hf
        cases he
        obtain ⟨e0, g1, _, g3, g4, g5, g6⟩ := findA_at hl hf
        have g4' : es[i]? = some e0 := by simpa using g4
        refine ⟨_, ?_, put (es.modify i fun e => { e with key := .string s, val := vx }) y.a (y.ks.set i (AV.ent s z.a x)) ?_, rfl, newA_same rfl⟩
        · simp [Instr.mapUpdate, run_underlying hu, MapKept.run_getObj_map hb, MapKept.run_checkKey huk hkey, MapKept.run_findKey huk g1, g4', g5, MapKept.run_keyThatStays hkey, MapKept.run_setObj_map _ hb, Result.andThen]
        · exact all2_modify hl (by simpa using g4) ⟨rfl, g6.born, hx, trivial⟩
    · cases h
  · cases h

/-- A key is looked up: its value, or the value of nought; told beside, whether it is there. -/
def xMapGet (P : Program) (T : Tabs) (H : Hp) (t : Nat) (m k : AV) (ok : Bool) : Option AV := (T.tiAt t).bind fun ti => if ti.kind = 10 then (T.tiAt ti.len).bind fun tk => if tk.kind = 5 then k.str.bind fun s => (mapOf H m).bind fun p => (match findA s p.2.ks 0 with
  | .bad => none
  | .no => ((pureRun P (zeroValue ti.elem)).map ofV).map fun v => (v, false)
  | .at_ _ y => y.ks.head?.map fun v => (v, true)).map fun (r : AV × Bool) => if ok then AV.tup [r.1, AV.ex (.bool r.2)] else r.1 else none else none
theorem xMapGet_ok {P : Program} {T : Tabs} (hT : TabOk P T) {C : Cx} (hC : Ok C) {t : Nat} {m k y : AV} {vm vk : Value} {ok : Bool} (hm : RV C m vm) (hk : RV C k vk) (h : xMapGet P T C.H t m k ok = some y) :
    ∃ u, (Instr.lookup t vm vk ok).run P C.w = .ok u C.w ∧ RV C y u := by
  unfold xMapGet at h
  obtain ⟨ti, h1, h⟩ := Option.bind_eq_some_iff.1 h
  split at h
  · rename_i k10
    obtain ⟨tk, h2, h⟩ := Option.bind_eq_some_iff.1 h
    split at h
    · rename_i k5
      obtain ⟨hu, huk⟩ := map_desc hT h1 k10 h2 k5
      obtain ⟨s, hs, h⟩ := Option.bind_eq_some_iff.1 h
      obtain rfl := rv_str hk hs
      obtain ⟨⟨B, x⟩, h3, h⟩ := Option.bind_eq_some_iff.1 h
      obtain ⟨rfl, hB, x15, es, hb, hl⟩ := mapOf_ok hC hm h3
      obtain ⟨⟨r, b⟩, hr, rfl⟩ := Option.map_eq_some_iff.1 h
      have hkey : MapKept.IsKey .string (.string s) := trivial
      have fin : ∀ v, RV C r v → ∃ u, (pure (if ok then .tuple #[v, .bool b] else v) : Sem Value).run P C.w = .ok u C.w ∧ RV C (if ok then AV.tup [r, AV.ex (.bool b)] else r) u := by
        intro v hv
        cases ok with
        | true => exact ⟨_, rfl, rv_tup ⟨hv, rv_ex, trivial⟩⟩
        | false => exact ⟨_, rfl, hv⟩
      split at hr
      · cases hr
      · rename_i hf
        obtain ⟨v, h4, hr⟩ := Option.map_eq_some_iff.1 hr
        simp only [Prod.mk.injEq] at hr
        obtain ⟨rfl, rfl⟩ := hr
        obtain ⟨z, h5, rfl⟩ := Option.map_eq_some_iff.1 h4
        have hz := pureRun_ok C.w _ h5
        obtain ⟨u, g1, g2⟩ := fin z (rv_ofV z)
        refine ⟨u, ?_, g2⟩
        rw [← g1]
        simp [Instr.lookup, run_underlying hu, MapKept.run_getObj_map hb, MapKept.run_checkKey huk hkey, MapKept.run_findKey huk (findA_no hl hf), hz, Result.andThen]
      · rename_i i z hf
        obtain ⟨v, h4, hr⟩ := Option.map_eq_some_iff.1 hr
        simp only [Prod.mk.injEq] at hr
        obtain ⟨rfl, rfl⟩ := hr
        obtain ⟨e0, g1, _, g3, g4, g5, g6⟩ := findA_at hl hf
        have hv : RV C v e0.val := by
          have := g6.val
          cases hz : z.ks with
          | nil => rw [hz] at h4; cases h4
          | cons q qs =>
            rw [hz] at h4 this
            cases h4
            exact this.1
        obtain ⟨u, q1, q2⟩ := fin e0.val hv
        refine ⟨u, ?_, q2⟩
        rw [← q1]
        simp [Instr.lookup, run_underlying hu, MapKept.run_getObj_map hb, MapKept.run_checkKey huk hkey, MapKept.run_findKey huk g1, Result.andThen]
    · cases h
  · cases h
theorem mapOf_local {H H' : Hp} {m : AV} (h : m.t = 13 → H'.get m.a = H.get m.a) : mapOf H' m = mapOf H m := by
  unfold mapOf
  split
  · rename_i h3; rw [h h3]
  · rfl
#print axioms xMapGet_ok
end Go.Proofs.YtndlkmdkemhbcaaGreatDoor.Ab
