/- Maps whose keys are strings: made, put, looked up. -/
import Derived.Test.YthklnpkjlepagaaGreatDoorMQgxQh
import Derived.MapKept
namespace Go.Proofs.YthklnpkjlepagaaGreatDoor.Ab
open Go.RowKit

/-- A new block, whatever it is. -/
theorem Ok.newO {C : Cx} (h : Ok C) {n : Nat} (hn : ¬ C.A n) {o : Obj} {B : Blk} (hB : BlkAt (C.neu n o B) C.w.heap.size B) : Goes C (C.neu n o B) := by
  have hmu : ∀ b, C.A b → updMu C.mu n C.w.heap.size b = C.mu b := fun b hb => if_neg (fun e : b = n => hn (e ▸ hb))
  have hgm : ∀ b B, C.H.get b = some B → updMu C.mu n C.w.heap.size b = C.mu b := fun b B hb => hmu b (h.blk b B hb).1
  have le : C.le (C.neu n o B) :=
    ⟨fun a ha => Or.inl ha, hmu, by show _ ≤ (C.w.alloc _).heap.size; simp, fun k hk => ⟨⟨by show k < (C.w.alloc _).heap.size; have := hk.1; simp; omega, hk.2, hk.1⟩, Below.heap_alloc _ _ _ hk.1⟩, fun k cs t fr hk => ⟨cs, (Below.heap_alloc _ _ _ (size_of_block hk)).trans hk, rfl⟩, rfl⟩
  refine ⟨le, ⟨fun b B1 hb => ?_, fun b B1 b' B' hb hb' he => ?_, fun b B1 hb hz => ?_⟩, ⟨rfl, rfl, rfl⟩, fun k hk ho => ⟨Below.heap_alloc _ _ _ hk, fun b B1 hb => ?_⟩, fun k hk hz => hz.1⟩
  · replace hb : (C.H.set n (some B)).get b = some B1 := hb
    rw [Hp.get_set] at hb
    split at hb
    · rename_i e
      subst e
      obtain rfl := Option.some.inj hb
      exact ⟨Or.inr rfl, by show BlkAt _ (updMu C.mu n C.w.heap.size n) _; rw [show updMu C.mu n C.w.heap.size n = C.w.heap.size from if_pos rfl]; exact hB⟩
    · obtain ⟨h1, h2⟩ := h.blk b B1 hb
      refine ⟨Or.inl h1, h2.mono le ?_⟩
      show (C.w.alloc _).heap[updMu C.mu n C.w.heap.size b]? = _
      rw [hmu b h1]
      exact Below.heap_alloc _ _ _ h2.lt
  · replace hb : (C.H.set n (some B)).get b = some B1 := hb
    replace hb' : (C.H.set n (some B)).get b' = some B' := hb'
    have he : updMu C.mu n C.w.heap.size b = updMu C.mu n C.w.heap.size b' := he
    rw [Hp.get_set] at hb hb'
    split at hb
    · rename_i e
      split at hb'
      · rename_i e'; omega
      · rename_i e'
        rw [hgm b' B' hb'] at he
        subst e
        rw [show updMu C.mu n C.w.heap.size n = C.w.heap.size from if_pos rfl] at he
        have := h.lt hb'
        omega
    · rename_i e
      split at hb'
      · rename_i e'
        rw [hgm b B1 hb] at he
        subst e'
        rw [show updMu C.mu n C.w.heap.size n = C.w.heap.size from if_pos rfl] at he
        have := h.lt hb
        omega
      · rw [hgm b B1 hb, hgm b' B' hb'] at he
        exact h.inj b B1 b' B' hb hb' he
  · replace hb : (C.H.set n (some B)).get b = some B1 := hb
    have hz : C.Z (updMu C.mu n C.w.heap.size b) ∧ updMu C.mu n C.w.heap.size b < C.w.heap.size := hz
    rw [Hp.get_set] at hb
    split at hb
    · rename_i e
      subst e
      rw [show updMu C.mu n C.w.heap.size n = C.w.heap.size from if_pos rfl] at hz
      omega
    · rw [hgm b B1 hb] at hz
      exact h.zone b B1 hb hz.1
  · replace hb : (C.H.set n (some B)).get b = some B1 := hb
    show updMu C.mu n C.w.heap.size b ≠ k
    rw [Hp.get_set] at hb
    split at hb
    · rename_i e
      subst e
      rw [show updMu C.mu n C.w.heap.size n = C.w.heap.size from if_pos rfl]
      omega
    · rw [hgm b B1 hb]
      exact ho b B1 hb

/-- A map that is known is turned. -/
theorem Ok.putM {C : Cx} (h : Ok C) {b : Nat} {B : Blk} (hb : C.H.get b = some B) {es : Array MapEntry} {cl : Nat} (hc : C.w.heap[C.mu b]? = some (.map es cl)) {es' : Array MapEntry} {x : AV} (hx : x.t = 15) {w : World} (hw : w.heap.size = C.w.heap.size)
    {cl' : Nat} (h1 : w.heap[C.mu b]? = some (.map es' cl')) (h2 : ∀ j, j ≠ C.mu b → w.heap[j]? = C.w.heap[j]?) (h3 : Same3 C.w w) (hl : MapR C x.ks es'.toList) : Goes C { C with w := w, H := C.H.set b (some ⟨B.ty, [x]⟩) } := by
  have key : ∀ {y X}, (C.H.set b (some ⟨B.ty, [x]⟩)).get y = some X → ∃ X', C.H.get y = some X' := by
    intro y X hy
    rw [Hp.get_set] at hy
    split at hy
    · rename_i e; subst e; exact ⟨B, hb⟩
    · exact ⟨X, hy⟩
  have le : C.le { C with w := w, H := C.H.set b (some ⟨B.ty, [x]⟩) } := by
    refine ⟨fun _ h => h, fun _ _ => rfl, by show _ ≤ w.heap.size; omega, fun k hk => ⟨⟨by show k < w.heap.size; have := hk.1; omega, hk.2⟩, h2 k (fun e => h.zone b B hb (e ▸ hk.2))⟩, fun k cs' t fr hk => ?_, rfl⟩
    by_cases e : k = C.mu b
    · subst e
      rw [hc] at hk
      cases hk
    · exact ⟨cs', (h2 k e).trans hk, rfl⟩
  refine ⟨le, ⟨fun b' B' hb' => ?_, fun a A a' A' ha ha' he => ?_, fun a A ha => ?_⟩, h3, fun k hk ho => ⟨h2 k (fun e => ho b B hb e.symm), fun a A ha => ?_⟩, fun _ _ h => h⟩
  · replace hb' : (C.H.set b (some ⟨B.ty, [x]⟩)).get b' = some B' := hb'
    rw [Hp.get_set] at hb'
    split at hb'
    · rename_i e
      subst e
      obtain rfl := Option.some.inj hb'
      exact ⟨(h.blk b B hb).1, Or.inr ⟨x, es', cl', rfl, hx, h1, hl.mono le⟩⟩
    · rename_i e
      obtain ⟨g1, g2⟩ := h.blk b' B' hb'
      exact ⟨g1, g2.mono le (h2 _ (fun e' => e (h.inj b B b' B' hb hb' e'.symm)))⟩
  · obtain ⟨_, k1⟩ := key ha
    obtain ⟨_, k2⟩ := key ha'
    exact h.inj _ _ _ _ k1 k2 he
  · obtain ⟨_, k1⟩ := key ha
    exact h.zone _ _ k1
  · obtain ⟨_, k1⟩ := key ha
    exact ho _ _ k1

/-- A new map. -/
def xMapNew (H : Hp) (n : Nat) : Out := ⟨AV.mp n, H.set n (some ⟨0, [AV.ents []]⟩), n + 1, 0⟩
theorem xMapNew_tidy (H : Hp) (n : Nat) : Tidy H n (xMapNew H n) := ⟨Nat.le_succ _, hb_set, fun _ b hb _ => Hp.get_other _ _ (by omega), fun _ _ h => no_bit h⟩
theorem xMapNew_ok {P : Program} {C : Cx} (hC : Ok C) {n t : Nat} (hn : ¬ C.A n) :
    ∃ u C', (Instr.makeMap t none).run P C.w = .ok u C'.w ∧ RV C' (AV.mp n) u ∧ Goes C C' ∧ C'.H = (xMapNew C.H n).H ∧ NewA C C' n (n + 1) := by
  refine ⟨.map (some C.w.heap.size), C.neu n (.map #[] 0) ⟨0, [AV.ents []]⟩, ?_, ?_, hC.newO hn ?_, rfl, newA_one rfl⟩
  · simp [Instr.makeMap]
    rfl
  · have := rv_mp (C := C.neu n (.map #[] 0) ⟨0, [AV.ents []]⟩) (a := n) (Or.inr rfl)
    rw [neu_mu] at this
    exact this
  · exact Or.inr ⟨_, #[], 0, rfl, rfl, heap_alloc_new _ _, ⟨fun e he => by simp at he, fun x hx => by simp [AV.ents] at hx, fun e he => by simp at he, by simp, by simp [AV.ents]⟩⟩

/-- The bytes of two strings. -/
def bytesB : List UInt8 → List UInt8 → Bool
  | [], ys => List.casesOn ys true fun _ _ => false
  | x :: xs, ys => List.casesOn ys false fun y ys => Bool.casesOn (Nat.beq x.toNat y.toNat) false (bytesB xs ys)
theorem bytesB_iff : ∀ (xs ys : List UInt8), bytesB xs ys = true ↔ xs = ys
  | [], [] => by simp [bytesB]
  | [], _ :: _ => by simp [bytesB]
  | _ :: _, [] => by simp [bytesB]
  | x :: xs, y :: ys => by
    have ih := bytesB_iff xs ys
    have e : bytesB (x :: xs) (y :: ys) = Bool.casesOn (Nat.beq x.toNat y.toNat) false (bytesB xs ys) := rfl
    rw [e]
    by_cases h : x = y
    · subst h
      rw [show Nat.beq x.toNat x.toNat = true from Nat.beq_refl _]
      simp [ih]
    · have : Nat.beq x.toNat y.toNat = false := by
        cases hb : Nat.beq x.toNat y.toNat with
        | false => rfl
        | true => exact absurd (UInt8.toNat.inj (Nat.eq_of_beq_eq_true hb)) h
      rw [this]
      simp [h]
def strB (a b : ByteArray) : Bool := bytesB a.data.toList b.data.toList
theorem strB_eq (a b : ByteArray) : strB a b = (a == b) := by
  rw [Bool.eq_iff_iff, MapKept.bytes_beq]
  unfold strB
  rw [bytesB_iff]
  constructor
  · intro h
    obtain ⟨x⟩ := a
    obtain ⟨y⟩ := b
    have : x = y := by simpa using h
    rw [this]
  · intro h; rw [h]

/-- Where a key stands among entries. -/
inductive Fd where
  | bad
  | no
  | at_ (i : Nat) (x : AV)
def isStr (k : ByteArray) (v : Value) : Option Bool := match v with
  | .string b => some (strB k b)
  | _ => none
def findA (k : ByteArray) : List AV → Nat → Fd
  | [], _ => .no
  | x :: xs, i => match isStr k x.v with
    | some true => .at_ i x
    | some false => findA k xs (i + 1)
    | none => .bad
theorem isStr_ok {k : ByteArray} {v : Value} {b : Bool} (h : isStr k v = some b) : (v = .string k ↔ b = true) ∧ ∃ s, v = .string s := by
  unfold isStr at h
  split at h
  · rename_i c
    simp only [Option.some.injEq] at h
    rw [strB_eq] at h
    refine ⟨?_, _, rfl⟩
    rw [← h]
    simp only [Value.string.injEq]
    exact ⟨fun e => by rw [e]; exact (MapKept.bytes_beq _ _).2 rfl, fun e => ((MapKept.bytes_beq _ _).1 e).symm⟩
  · cases h
theorem findA_miss {k : ByteArray} : ∀ {xs : List AV} {i : Nat}, findA k xs i = .no → ∀ x ∈ xs, x.v ≠ .string k
  | [], _, _, x, hx => by cases hx
  | y :: xs, i, h, x, hx => by
    simp only [findA] at h
    split at h
    · cases h
    · rename_i hs
      rcases List.mem_cons.1 hx with rfl | hx
      · exact fun e => by have := (isStr_ok hs).1.1 e; cases this
      · exact findA_miss h x hx
    · cases h
theorem findA_hit {k : ByteArray} {x : AV} : ∀ {xs : List AV} {i j : Nat}, findA k xs i = .at_ j x → i ≤ j ∧ xs[j - i]? = some x ∧ x.v = .string k
  | [], _, _, h => by simp [findA] at h
  | y :: xs, i, j, h => by
    simp only [findA] at h
    split at h
    · rename_i hs
      cases h
      exact ⟨Nat.le_refl _, by simp, (isStr_ok hs).1.2 rfl⟩
    · obtain ⟨g1, g2, g3⟩ := findA_hit h
      have hj : j - i = (j - (i + 1)) + 1 := by omega
      exact ⟨by omega, by rw [hj]; simpa using g2, g3⟩
    · cases h
theorem MapR.keys {C : Cx} {ks : List AV} {es : List MapEntry} (g : MapR C ks es) : ∀ x ∈ es, MapKept.IsKey .string x.key := fun x hx => by
  obtain ⟨s, hs⟩ := g.str x hx
  rw [hs]
  exact trivial
theorem MapR.no {C : Cx} {ks : List AV} {es : List MapEntry} (g : MapR C ks es) {k : ByteArray} {i : Nat} (h : findA k ks i = .no) : Instr.findNow .string (.string k) es 0 = some none ∧ ∀ e ∈ es, e.key ≠ .string k := by
  have miss : ∀ e ∈ es, e.key ≠ .string k := fun e he hk => by
    obtain ⟨x, hx, hr⟩ := g.to e he
    exact findA_miss h x hx (hr.key.trans hk)
  rcases MapKept.findNow_spec (d := .string) (k := .string k) trivial es 0 g.keys with ⟨h1, _⟩ | ⟨j, e, _, h2, h3⟩
  · exact ⟨h1, miss⟩
  · exact absurd h3 (miss e (List.mem_of_getElem? h2))
theorem pair_same {α β : Type} {f : α → β} {l : List α} (h : l.Pairwise fun a b => f a ≠ f b) {i j : Nat} {a b : α} (hi : l[i]? = some a) (hj : l[j]? = some b) (he : f a = f b) : i = j := by
  obtain ⟨hi1, rfl⟩ := List.getElem?_eq_some_iff.1 hi
  obtain ⟨hj1, rfl⟩ := List.getElem?_eq_some_iff.1 hj
  rcases Nat.lt_trichotomy i j with h1 | h1 | h1
  · exact absurd he (List.pairwise_iff_getElem.1 h i j hi1 hj1 h1)
  · exact h1
  · exact absurd he.symm (List.pairwise_iff_getElem.1 h j i hj1 hi1 h1)
theorem MapR.at_ {C : Cx} {ks : List AV} {es : List MapEntry} (g : MapR C ks es) {k : ByteArray} {j : Nat} {x : AV} (h : findA k ks 0 = .at_ j x) : ks[j]? = some x ∧ x.v = .string k ∧ ∃ n e, Instr.findNow .string (.string k) es 0 = some (some (n, e.val)) ∧ es[n]? = some e ∧ e.key = .string k ∧ EntR C x e := by
  obtain ⟨_, h1, h2⟩ := findA_hit h
  have h1 : ks[j]? = some x := h1
  obtain ⟨e, he, hr⟩ := g.of x (List.mem_of_getElem? h1)
  have hk : e.key = .string k := hr.key.symm.trans h2
  refine ⟨h1, h2, ?_⟩
  rcases MapKept.findNow_spec (d := .string) (k := .string k) trivial es 0 g.keys with ⟨_, h3⟩ | ⟨n, e', h3, h4, h5⟩
  · exact absurd hk (h3 e he)
  · obtain ⟨m, hm, rfl⟩ := List.mem_iff_getElem.1 he
    have : m = n := pair_same g.apart (List.getElem?_eq_getElem hm) h4 (hk.trans h5.symm)
    subst this
    rw [List.getElem?_eq_getElem hm] at h4
    cases h4
    exact ⟨m, es[m], by rw [Nat.zero_add] at h3; exact h3, List.getElem?_eq_getElem hm, hk, hr⟩

/-- The string that a value is. -/
def AV.str (x : AV) : Option ByteArray := if x.t = 0 then (match x.v with
  | .string b => some b
  | _ => none) else none
theorem rv_str {C : Cx} {x : AV} {v : Value} {b : ByteArray} (h : RV C x v) (e : x.str = some b) : v = .string b := by
  unfold AV.str at e
  split at e
  · rename_i h0
    split at e
    · rename_i c hc
      cases e
      rw [h.case.1 h0, hc]
    · cases e
  · cases e
/-- The one cell that a map's block has. -/
def entsOf (l : List AV) : Option AV := match l with
  | [e] => if e.t = 15 then some e else none
  | _ => none
theorem entsOf_ok {l : List AV} {e : AV} (h : entsOf l = some e) : l = [e] ∧ e.t = 15 := by
  unfold entsOf at h
  split at h
  · split at h
    · rename_i h15; cases h; exact ⟨rfl, h15⟩
    · cases h
  · cases h
/-- A map's entries. -/
def mapOf (H : Hp) (m : AV) : Option (Blk × AV) := if m.t = 13 then (H.get m.a).bind fun B => (entsOf B.cs).map fun e => (B, e) else none
theorem mapOf_ok {C : Cx} (hC : Ok C) {m : AV} {v : Value} (h : RV C m v) {B : Blk} {x : AV} (e : mapOf C.H m = some (B, x)) : v = .map (some (C.mu m.a)) ∧ C.H.get m.a = some B ∧ x.t = 15 ∧ ∃ es cl, C.w.heap[C.mu m.a]? = some (.map es cl) ∧ MapR C x.ks es.toList := by
  unfold mapOf at e
  split at e
  · rename_i ht
    obtain ⟨B1, hB, e⟩ := Option.bind_eq_some_iff.1 e
    obtain ⟨x1, hx, e⟩ := Option.map_eq_some_iff.1 e
    simp only [Prod.mk.injEq] at e
    obtain ⟨rfl, rfl⟩ := e
    obtain ⟨k1, k2⟩ := entsOf_ok hx
    obtain ⟨_, es, cl, g1, g2⟩ := hC.mapAt hB k1 k2
    exact ⟨((h.hi (by omega)).mp ht).1, hB, k2, es, cl, g1, g2⟩
  · cases e

/-- An entry. -/
def AV.ent (k : ByteArray) (x : AV) : AV := ⟨16, .string k, 0, 0, 0, 0, [x]⟩
/-- A key has a value. -/
def xMapPut (T : Tabs) (H : Hp) (n t : Nat) (m k x : AV) : Option Out := (T.tiAt t).bind fun ti => if ti.kind = 10 then (T.tiAt ti.len).bind fun tk => if tk.kind = 5 then k.str.bind fun s => (mapOf H m).bind fun p => (match findA s p.2.ks 0 with
  | .bad => none
  | .no => some (AV.ents (p.2.ks ++ [AV.ent s x]))
  | .at_ i _ => some (AV.ents (p.2.ks.set i (AV.ent s x)))).map fun e => ⟨AV.ex undef, H.set m.a (some ⟨p.1.ty, [e]⟩), n, bit1 m.a⟩ else none else none
theorem xMapPut_tidy {T : Tabs} {H : Hp} {n t : Nat} {m k x : AV} {o : Out} (h : xMapPut T H n t m k x = some o) : Tidy H n o := by
  unfold xMapPut at h
  obtain ⟨ti, _, h⟩ := Option.bind_eq_some_iff.1 h
  split at h
  · obtain ⟨tk, _, h⟩ := Option.bind_eq_some_iff.1 h
    split at h
    · obtain ⟨s, _, h⟩ := Option.bind_eq_some_iff.1 h
      obtain ⟨p, h3, h⟩ := Option.bind_eq_some_iff.1 h
      obtain ⟨e, _, rfl⟩ := Option.map_eq_some_iff.1 h
      have hB : ∃ B, H.get m.a = some B := by
        unfold mapOf at h3
        split at h3
        · obtain ⟨B, hB, _⟩ := Option.bind_eq_some_iff.1 h3
          exact ⟨B, hB⟩
        · cases h3
      obtain ⟨B, hB⟩ := hB
      exact ⟨Nat.le_refl _, hb_old hB, fun _ b _ hn => Hp.get_other _ _ (fun e => by rw [bit1_iff.2 e.symm] at hn; cases hn), fun _ b hb _ => by rw [bit1_iff.1 hb]; exact ⟨B, hB⟩⟩
    · cases h
  · cases h
theorem xMapPut_x {T : Tabs} {H : Hp} {n t : Nat} {m k x : AV} {o : Out} (h : xMapPut T H n t m k x = some o) : o.x = AV.ex undef := by
  unfold xMapPut at h
  obtain ⟨ti, _, h⟩ := Option.bind_eq_some_iff.1 h
  split at h
  · obtain ⟨tk, _, h⟩ := Option.bind_eq_some_iff.1 h
    split at h
    · obtain ⟨s, _, h⟩ := Option.bind_eq_some_iff.1 h
      obtain ⟨p, _, h⟩ := Option.bind_eq_some_iff.1 h
      obtain ⟨e, _, rfl⟩ := Option.map_eq_some_iff.1 h
      rfl
    · cases h
  · cases h
theorem map_desc {P : Program} {T : Tabs} (hT : TabOk P T) {t : Nat} {ti tk : TI} (h1 : T.tiAt t = some ti) (k : ti.kind = 10) (h2 : T.tiAt ti.len = some tk) (k5 : tk.kind = 5) : P.underlying t = some (.map ti.len ti.elem) ∧ P.underlying ti.len = some .string := by
  obtain ⟨o1⟩ := hT _ _ h1
  obtain ⟨o2⟩ := hT _ _ h2
  have e1 := o1.kind
  have e2 := o2.kind
  unfold kindB at e1 e2
  constructor
  · split at e1 <;> simp [k] at e1
    rename_i a b hd
    rw [o1.hd, hd, e1.1, e1.2]
  · split at e2 <;> simp [k5] at e2
    rename_i hd
    rw [o2.hd, hd]
theorem MapR.push {C : Cx} {ks : List AV} {es : List MapEntry} (g : MapR C ks es) {k : ByteArray} {x : AV} {v : Value} {born : Nat} (hn : ∀ e ∈ es, e.key ≠ .string k) (hx : RV C x v) : MapR C (ks ++ [AV.ent k x]) (es ++ [⟨.string k, v, born⟩]) := by
  have hent : EntR C (AV.ent k x) ⟨.string k, v, born⟩ := ⟨rfl, hx, trivial⟩
  refine ⟨fun e he => ?_, fun y hy => ?_, fun e he => ?_, ?_, ?_⟩
  · rcases List.mem_append.1 he with he | he
    · obtain ⟨y, hy, hr⟩ := g.to e he
      exact ⟨y, List.mem_append_left _ hy, hr⟩
    · rw [List.mem_singleton] at he
      subst he
      exact ⟨_, List.mem_append_right _ (List.mem_singleton.2 rfl), hent⟩
  · rcases List.mem_append.1 hy with hy | hy
    · obtain ⟨e, he, hr⟩ := g.of y hy
      exact ⟨e, List.mem_append_left _ he, hr⟩
    · rw [List.mem_singleton] at hy
      subst hy
      exact ⟨_, List.mem_append_right _ (List.mem_singleton.2 rfl), hent⟩
  · rcases List.mem_append.1 he with he | he
    · exact g.str e he
    · rw [List.mem_singleton] at he
      subst he
      exact ⟨k, rfl⟩
  · rw [List.pairwise_append]
    refine ⟨g.apart, by simp, fun a ha b hb => ?_⟩
    rw [List.mem_singleton] at hb
    subst hb
    exact hn a ha
  · rw [List.pairwise_append]
    refine ⟨g.apart2, by simp, fun a ha b hb => ?_⟩
    rw [List.mem_singleton] at hb
    subst hb
    obtain ⟨e, he, hr⟩ := g.of a ha
    show a.v ≠ .string k
    rw [hr.key]
    exact hn e he
theorem MapR.turn {C : Cx} {ks : List AV} {es : List MapEntry} (g : MapR C ks es) {k : ByteArray} {x y : AV} {v : Value} {j n : Nat} {e0 : MapEntry} (hj : ks[j]? = some y) (hy : y.v = .string k) (hn : es[n]? = some e0) (he0 : e0.key = .string k) (hx : RV C x v) : MapR C (ks.set j (AV.ent k x)) (es.set n { e0 with key := .string k, val := v }) := by
  have hent : EntR C (AV.ent k x) { e0 with key := .string k, val := v } := ⟨rfl, hx, trivial⟩
  have hjl := (List.getElem?_eq_some_iff.1 hj).1
  have hnl := (List.getElem?_eq_some_iff.1 hn).1
  have k1 : ∀ (m : Nat) (e : MapEntry), es[m]? = some e → m ≠ n → e.key ≠ .string k := fun m e hm hne he => hne (pair_same g.apart hm hn (he.trans he0.symm))
  have k2 : ∀ (m : Nat) (z : AV), ks[m]? = some z → m ≠ j → z.v ≠ .string k := fun m z hm hne hz => hne (pair_same g.apart2 hm hj (hz.trans hy.symm))
  have setE : ∀ {e : MapEntry}, e ∈ es.set n { e0 with key := .string k, val := v } → e = { e0 with key := .string k, val := v } ∨ ∃ m, m ≠ n ∧ es[m]? = some e := by
    intro e he
    obtain ⟨m, hm, rfl⟩ := List.mem_iff_getElem.1 he
    by_cases hmn : n = m
    · subst hmn; exact Or.inl (by simp)
    · refine Or.inr ⟨m, Ne.symm hmn, ?_⟩
      rw [List.getElem_set_ne hmn]
      exact List.getElem?_eq_getElem _
  refine ⟨fun e he => ?_, fun z hz => ?_, fun e he => ?_, ?_, ?_⟩
  · rcases setE he with rfl | ⟨m, hmn, hm⟩
    · exact ⟨_, List.mem_of_getElem? (i := j) (by simp [hjl]), hent⟩
    · obtain ⟨z, hz, hr⟩ := g.to e (List.mem_of_getElem? hm)
      obtain ⟨i, hi, rfl⟩ := List.mem_iff_getElem.1 hz
      have hij : j ≠ i := fun h => by
        subst h
        rw [List.getElem?_eq_getElem hi] at hj
        cases hj
        exact k1 m e hm hmn (hr.key.symm.trans hy)
      exact ⟨ks[i], List.mem_of_getElem? (i := i) (by rw [List.getElem?_set_ne hij]; exact List.getElem?_eq_getElem hi), hr⟩
  · obtain ⟨m, hm, rfl⟩ := List.mem_iff_getElem.1 hz
    by_cases hmj : j = m
    · subst hmj
      refine ⟨{ e0 with key := .string k, val := v }, List.mem_of_getElem? (i := n) (by simp [hnl]), ?_⟩
      simpa using hent
    · rw [List.getElem_set_ne hmj]
      have hm' : m < ks.length := by simpa using hm
      obtain ⟨e, he, hr⟩ := g.of ks[m] (List.getElem_mem _)
      obtain ⟨i, hi, rfl⟩ := List.mem_iff_getElem.1 he
      have hin : n ≠ i := fun h => by
        subst h
        rw [List.getElem?_eq_getElem hi] at hn
        cases hn
        exact k2 m ks[m] (List.getElem?_eq_getElem hm') (Ne.symm hmj) (hr.key.trans he0)
      exact ⟨es[i], List.mem_of_getElem? (i := i) (by rw [List.getElem?_set_ne hin]; exact List.getElem?_eq_getElem hi), hr⟩
  · rcases setE he with rfl | ⟨m, _, hm⟩
    · exact ⟨k, rfl⟩
    · exact g.str e (List.mem_of_getElem? hm)
  · rw [List.pairwise_iff_getElem]
    intro a b ha hb hab
    have ha' : a < es.length := by simpa using ha
    have hb' : b < es.length := by simpa using hb
    by_cases h1 : n = a
    · subst h1
      rw [List.getElem_set_self, List.getElem_set_ne (by omega)]
      exact fun h => k1 b es[b] (List.getElem?_eq_getElem hb') (by omega) h.symm
    · rw [List.getElem_set_ne h1]
      by_cases h2 : n = b
      · subst h2
        rw [List.getElem_set_self]
        exact k1 a es[a] (List.getElem?_eq_getElem ha') (by omega)
      · rw [List.getElem_set_ne h2]
        exact List.pairwise_iff_getElem.1 g.apart a b ha' hb' hab
  · rw [List.pairwise_iff_getElem]
    intro a b ha hb hab
    have ha' : a < ks.length := by simpa using ha
    have hb' : b < ks.length := by simpa using hb
    by_cases h1 : j = a
    · subst h1
      rw [List.getElem_set_self, List.getElem_set_ne (by omega)]
      exact fun h => k2 b ks[b] (List.getElem?_eq_getElem hb') (by omega) h.symm
    · rw [List.getElem_set_ne h1]
      by_cases h2 : j = b
      · subst h2
        rw [List.getElem_set_self]
        exact k2 a ks[a] (List.getElem?_eq_getElem ha') (by omega)
      · rw [List.getElem_set_ne h2]
        exact List.pairwise_iff_getElem.1 g.apart2 a b ha' hb' hab
theorem modify_set {es : Array MapEntry} {j : Nat} {f : MapEntry → MapEntry} {e : MapEntry} (hj : es.toList[j]? = some e) : (es.modify j f).toList = es.toList.set j (f e) := by
  rw [Array.toList_modify]
  apply List.ext_getElem?
  intro i
  rw [List.getElem?_modify, List.getElem?_set]
  by_cases hi : j = i
  · subst hi
    have hlt : j < es.toList.length := (List.getElem?_eq_some_iff.1 hj).1
    simp [hj]
    simpa using hlt
  · simp [hi]
theorem xMapPut_ok {P : Program} {T : Tabs} (hT : TabOk P T) {C : Cx} (hC : Ok C) {t : Nat} {m k x : AV} {vm vk vx : Value} (hm : RV C m vm) (hk : RV C k vk) (hx : RV C x vx) {o : Out} {n : Nat} (h : xMapPut T C.H n t m k x = some o) :
    ∃ C', (Instr.mapUpdate t vm vk vx).run P C.w = .ok () C'.w ∧ Goes C C' ∧ C'.H = o.H ∧ NewA C C' n o.n := by
  unfold xMapPut at h
  obtain ⟨ti, h1, h⟩ := Option.bind_eq_some_iff.1 h
  split at h
  · rename_i k10
    obtain ⟨tk, h2, h⟩ := Option.bind_eq_some_iff.1 h
    split at h
    · rename_i k5
      obtain ⟨hu, huk⟩ := map_desc hT h1 k10 h2 k5
      obtain ⟨s, hs, h⟩ := Option.bind_eq_some_iff.1 h
      obtain rfl := rv_str hk hs
      obtain ⟨⟨B, y⟩, h3, h⟩ := Option.bind_eq_some_iff.1 h
      obtain ⟨rfl, hB, y15, es, cl, hb, hl⟩ := mapOf_ok hC hm h3
      obtain ⟨e, he, rfl⟩ := Option.map_eq_some_iff.1 h
      have hkey : MapKept.IsKey .string (.string s) := trivial
      have hlt := size_of_block hb
      have put : ∀ (es' : Array MapEntry) (cl : Nat) (ks : List AV), MapR C ks es'.toList → Goes C { C with w := { C.w with heap := C.w.heap.setIfInBounds (C.mu m.a) (.map es' cl) }, H := C.H.set m.a (some ⟨B.ty, [AV.ents ks]⟩) } := by
        intro es' cl ks hks
        refine hC.putM hB hb (es' := es') (cl' := cl) rfl (by simp) ?_ (fun j hj => ?_) ⟨rfl, rfl, rfl⟩ hks
        · show (C.w.heap.setIfInBounds (C.mu m.a) (.map es' cl))[C.mu m.a]? = _
          exact (MapKept.heap_set hb).1
        · exact (MapKept.heap_set hb).2 j hj
      split at he
      · cases he
      · rename_i hf
        cases he
        obtain ⟨hn, hno⟩ := hl.no hf
        refine ⟨_, ?_, put (es.push ⟨.string s, vx, cl⟩) (cl + 1) (y.ks ++ [AV.ent s x]) ?_, rfl, newA_same rfl⟩
        · simp [Instr.mapUpdate, run_underlying hu, MapKept.run_getObj_map hb, MapKept.run_checkKey huk hkey, MapKept.run_findKey huk hn, MapKept.run_setObj_map _ hb, Result.andThen]
        · rw [Array.toList_push]
          exact hl.push hno hx
      · rename_i i z hf
        cases he
        obtain ⟨g1, g2, n0, e0, g3, g4, g5, g6⟩ := hl.at_ hf
        have g4' : es[n0]? = some e0 := by simpa using g4
        refine ⟨_, ?_, put (es.modify n0 fun e => { e with key := .string s, val := vx }) cl (y.ks.set i (AV.ent s x)) ?_, rfl, newA_same rfl⟩
        · simp [Instr.mapUpdate, run_underlying hu, MapKept.run_getObj_map hb, MapKept.run_checkKey huk hkey, MapKept.run_findKey huk g3, g4', g5, MapKept.run_keyThatStays hkey, MapKept.run_setObj_map _ hb, Result.andThen]
        · rw [modify_set g4]
          exact hl.turn g1 g2 g4 g5 hx
    · cases h
  · cases h

/-- A key is looked up: its value, or the value of nought; told beside, whether it is there. -/
def xMapGet (P : Program) (T : Tabs) (H : Hp) (t : Nat) (m k : AV) (ok : Bool) : Option AV := (T.tiAt t).bind fun ti => if ti.kind = 10 then (T.tiAt ti.len).bind fun tk => if tk.kind = 5 then k.str.bind fun s => (mapOf H m).bind fun p => (match findA s p.2.ks 0 with
  | .bad => none
  | .no => ((pureRun P (zeroValue ti.elem)).map ofV).map fun v => (v, false)
  | .at_ _ y => y.ks.head?.map fun v => (v, true)).map fun (r : AV × Bool) => if ok then AV.tup [r.1, AV.ex (.bool r.2)] else r.1 else none else none
theorem xMapGet_ok {P : Program} {T : Tabs} (hT : TabOk P T) {C : Cx} (hC : Ok C) {t : Nat} {m k y : AV} {vm vk : Value} {ok : Bool} (hm : RV C m vm) (hk : RV C k vk) (h : xMapGet P T C.H t m k ok = some y) :
    ∃ u, (Instr.lookup t vm vk ok).run P C.w = .ok u C.w ∧ RV C y u := by
  unfold xMapGet at h
  obtain ⟨ti, h1, h⟩ := Option.bind_eq_some_iff.1 h
  split at h
  · rename_i k10
    obtain ⟨tk, h2, h⟩ := Option.bind_eq_some_iff.1 h
    split at h
    · rename_i k5
      obtain ⟨hu, huk⟩ := map_desc hT h1 k10 h2 k5
      obtain ⟨s, hs, h⟩ := Option.bind_eq_some_iff.1 h
      obtain rfl := rv_str hk hs
      obtain ⟨⟨B, x⟩, h3, h⟩ := Option.bind_eq_some_iff.1 h
      obtain ⟨rfl, hB, x15, es, cl, hb, hl⟩ := mapOf_ok hC hm h3
      obtain ⟨⟨r, b⟩, hr, rfl⟩ := Option.map_eq_some_iff.1 h
      have hkey : MapKept.IsKey .string (.string s) := trivial
      have fin : ∀ v, RV C r v → ∃ u, (pure (if ok then .tuple #[v, .bool b] else v) : Sem Value).run P C.w = .ok u C.w ∧ RV C (if ok then AV.tup [r, AV.ex (.bool b)] else r) u := by
        intro v hv
        cases ok with
        | true => exact ⟨_, rfl, rv_tup ⟨hv, rv_ex, trivial⟩⟩
        | false => exact ⟨_, rfl, hv⟩
      split at hr
      · cases hr
      · rename_i hf
        obtain ⟨v, h4, hr⟩ := Option.map_eq_some_iff.1 hr
        simp only [Prod.mk.injEq] at hr
        obtain ⟨rfl, rfl⟩ := hr
        obtain ⟨z, h5, rfl⟩ := Option.map_eq_some_iff.1 h4
        have hz := pureRun_ok C.w _ h5
        obtain ⟨u, g1, g2⟩ := fin z (rv_ofV z)
        refine ⟨u, ?_, g2⟩
        rw [← g1]
        simp [Instr.lookup, run_underlying hu, MapKept.run_getObj_map hb, MapKept.run_checkKey huk hkey, MapKept.run_findKey huk (hl.no hf).1, hz, Result.andThen]
      · rename_i i z hf
        obtain ⟨v, h4, hr⟩ := Option.map_eq_some_iff.1 hr
        simp only [Prod.mk.injEq] at hr
        obtain ⟨rfl, rfl⟩ := hr
        obtain ⟨_, _, n0, e0, g1, g4, g5, g6⟩ := hl.at_ hf
        have hv : RV C v e0.val := by
          have := g6.val
          cases hz : z.ks with
          | nil => rw [hz] at h4; cases h4
          | cons q qs =>
            rw [hz] at h4 this
            cases h4
            exact this.1
        obtain ⟨u, q1, q2⟩ := fin e0.val hv
        refine ⟨u, ?_, q2⟩
        rw [← q1]
        simp [Instr.lookup, run_underlying hu, MapKept.run_getObj_map hb, MapKept.run_checkKey huk hkey, MapKept.run_findKey huk g1, Result.andThen]
    · cases h
  · cases h
theorem mapOf_local {H H' : Hp} {m : AV} (h : m.t = 13 → H'.get m.a = H.get m.a) : mapOf H' m = mapOf H m := by
  unfold mapOf
  split
  · rename_i h3; rw [h h3]
  · rfl
#print axioms xMapGet_ok
end Go.Proofs.YthklnpkjlepagaaGreatDoor.Ab
