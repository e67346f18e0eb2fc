/- A map that is written in one piece, in a region that draws its order: its entries come in any order. -/
import Derived.Test.YthklnpkjlepagaaGreatDoorQq
namespace Go.Proofs.YthklnpkjlepagaaGreatDoor.Ab
open Go.RowKit
variable {S : Nat → Value}

/-- A block that no number knows is turned. -/
theorem Goes.far {C0 C : Cx} (hgo : Goes C0 C) {k0 : Nat} {es es' : Array MapEntry} {cl cl' : Nat} (hk : C.w.heap[k0]? = some (.map es cl)) (h0 : C0.w.heap.size ≤ k0) (ho : C.Oth k0) (hz : ¬ C.Z k0) :
    Goes C0 { C with w := { C.w with heap := C.w.heap.setIfInBounds k0 (.map es' cl') } } ∧ C.le { C with w := { C.w with heap := C.w.heap.setIfInBounds k0 (.map es' cl') } } := by
  have hs := MapKept.heap_set (o' := .map es' cl') hk
  have le : C.le { C with w := { C.w with heap := C.w.heap.setIfInBounds k0 (.map es' cl') } } := by
    refine ⟨fun _ h => h, fun _ _ => rfl, by show _ ≤ (C.w.heap.setIfInBounds k0 _).size; simp, fun k hk' => ⟨⟨by show k < (C.w.heap.setIfInBounds k0 _).size; simpa using hk'.1, hk'.2⟩, hs.2 k (fun e => hz (e ▸ hk'.2))⟩, fun k cs t fr h => ?_, rfl⟩
    by_cases e : k = k0
    · rw [e, hk] at h; cases h
    · exact ⟨cs, (hs.2 k e).trans h, rfl⟩
  refine ⟨⟨hgo.le.trans le, ⟨fun b B hb => ?_, hgo.ok.inj, hgo.ok.zone⟩, hgo.s3.trans ⟨rfl, rfl, rfl⟩, fun k hk' hot => ?_, hgo.zold⟩, le⟩
  · obtain ⟨h1, h2⟩ := hgo.ok.blk b B hb
    exact ⟨h1, h2.mono le (hs.2 _ (ho b B hb))⟩
  · obtain ⟨h1, h2⟩ := hgo.oth k hk' hot
    exact ⟨(hs.2 k (by omega)).trans h1, h2⟩
/-- A new map that no number knows. -/
theorem Ok.aside {C : Cx} (h : Ok C) : Goes C { C with w := C.w.alloc (.map #[] 0), Z := fun k => C.Z k ∧ k < C.w.heap.size } := by
  have le : C.le { C with w := C.w.alloc (.map #[] 0), Z := fun k => C.Z k ∧ k < C.w.heap.size } :=
    ⟨fun _ h => h, fun _ _ => rfl, by show _ ≤ (C.w.alloc _).heap.size; simp, fun k hk => ⟨⟨by show k < (C.w.alloc _).heap.size; have := hk.1; simp; omega, hk.2, hk.1⟩, Below.heap_alloc _ _ _ hk.1⟩, fun k cs t fr hk => ⟨cs, (Below.heap_alloc _ _ _ (size_of_block hk)).trans hk, rfl⟩, rfl⟩
  refine ⟨le, ⟨fun b B hb => ?_, h.inj, fun b B hb hz => h.zone b B hb hz.1⟩, ⟨rfl, rfl, rfl⟩, fun k hk ho => ⟨Below.heap_alloc _ _ _ hk, ho⟩, fun k hk hz => hz.1⟩
  obtain ⟨h1, h2⟩ := h.blk b B hb
  exact ⟨h1, h2.mono le (Below.heap_alloc _ _ _ h2.lt)⟩
/-- A block that no number knows has one. -/
theorem Goes.name {C0 C : Cx} (hgo : Goes C0 C) {k0 n : Nat} {B : Blk} (hn : ¬ C.A n) (h0 : C0.w.heap.size ≤ k0) (ho : C.Oth k0) (hz : ¬ C.Z k0) (hB : BlkAt C k0 B) :
    Goes C0 { C with mu := updMu C.mu n k0, A := fun b => C.A b ∨ b = n, H := C.H.set n (some B) } ∧ C.le { C with mu := updMu C.mu n k0, A := fun b => C.A b ∨ b = n, H := C.H.set n (some B) } := by
  have hmu : ∀ b, C.A b → updMu C.mu n k0 b = C.mu b := fun b hb => if_neg (fun e : b = n => hn (e ▸ hb))
  have le : C.le { C with mu := updMu C.mu n k0, A := fun b => C.A b ∨ b = n, H := C.H.set n (some B) } := ⟨fun _ h => Or.inl h, hmu, Nat.le_refl _, fun k hk => ⟨hk, rfl⟩, fun k cs t fr hk => ⟨cs, hk, rfl⟩, rfl⟩
  have hold : ∀ b B', (C.H.set n (some B)).get b = some B' → (b = n ∧ B' = B) ∨ (b ≠ n ∧ C.H.get b = some B') := by
    intro b B' hb
    rw [Hp.get_set] at hb
    split at hb
    · rename_i e; exact Or.inl ⟨e.symm, (Option.some.inj hb).symm⟩
    · rename_i e; exact Or.inr ⟨Ne.symm e, hb⟩
  have hmu2 : ∀ b B', C.H.get b = some B' → updMu C.mu n k0 b = C.mu b := fun b B' hb => hmu b (hgo.ok.blk b B' hb).1
  have hmun : updMu C.mu n k0 n = k0 := if_pos rfl
  refine ⟨⟨hgo.le.trans le, ⟨fun b B' hb => ?_, fun b B1 b' B2 hb hb' he => ?_, fun b B' hb => ?_⟩, hgo.s3, fun k hk hot => ?_, hgo.zold⟩, le⟩
  · rcases hold b B' hb with ⟨rfl, rfl⟩ | ⟨hne, hb⟩
    · exact ⟨Or.inr rfl, hB.mono le (by show C.w.heap[updMu C.mu b k0 b]? = _; rw [hmun])⟩
    · obtain ⟨h1, h2⟩ := hgo.ok.blk b B' hb
      exact ⟨Or.inl h1, h2.mono le (by show C.w.heap[updMu C.mu n k0 b]? = _; rw [hmu b h1])⟩
  · have he2 : updMu C.mu n k0 b = updMu C.mu n k0 b' := he
    clear he
    rcases hold b B1 hb with ⟨e1, e2⟩ | ⟨hne, hb⟩ <;> rcases hold b' B2 hb' with ⟨e3, e4⟩ | ⟨hne', hb'⟩
    · rw [e1, e3]
    · rw [e1, hmun, hmu2 b' B2 hb'] at he2
      exact absurd he2.symm (ho b' B2 hb')
    · rw [e3, hmun, hmu2 b B1 hb] at he2
      exact absurd he2 (ho b B1 hb)
    · rw [hmu2 b B1 hb, hmu2 b' B2 hb'] at he2
      exact hgo.ok.inj b B1 b' B2 hb hb' he2
  · show ¬ C.Z (updMu C.mu n k0 b)
    rcases hold b B' hb with ⟨rfl, rfl⟩ | ⟨hne, hb⟩
    · rw [hmun]; exact hz
    · rw [hmu2 b B' hb]; exact hgo.ok.zone b B' hb
  · obtain ⟨h1, h2⟩ := hgo.oth k hk hot
    refine ⟨h1, fun b B' hb => ?_⟩
    show updMu C.mu n k0 b ≠ k
    rcases hold b B' hb with ⟨rfl, rfl⟩ | ⟨hne, hb⟩
    · rw [hmun]; omega
    · rw [hmu2 b B' hb]; exact h2 b B' hb

/-- Entries in another order. -/
theorem MapR.same {C : Cx} {ks ks' : List AV} {es : List MapEntry} (g : MapR C ks es) (h : ∀ x, x ∈ ks' ↔ x ∈ ks) (h2 : ks'.Pairwise fun a b => a.v ≠ b.v) : MapR C ks' es :=
  ⟨fun e he => (g.to e he).imp fun _ r => ⟨(h _).2 r.1, r.2⟩, fun x hx => g.of x ((h x).1 hx), g.str, g.apart, h2⟩

/-- The entries of those that have run. -/
def insOf (L : Nat → Bool) (ins : List (Nat × ByteArray × AV)) : List AV := (ins.filter fun p => L p.1).map fun p => AV.ent p.2.1 p.2.2
theorem insOf_mem {L : Nat → Bool} {ins : List (Nat × ByteArray × AV)} {x : AV} : x ∈ insOf L ins ↔ ∃ p ∈ ins, L p.1 = true ∧ x = AV.ent p.2.1 p.2.2 := by
  unfold insOf
  simp only [List.mem_map, List.mem_filter]
  constructor
  · rintro ⟨p, ⟨h1, h2⟩, rfl⟩; exact ⟨p, h1, h2, rfl⟩
  · rintro ⟨p, h1, h2, rfl⟩; exact ⟨p, ⟨h1, h2⟩, rfl⟩
theorem insOf_apart {L : Nat → Bool} {ins : List (Nat × ByteArray × AV)} (h : ins.Pairwise fun a b => a.2.1 ≠ b.2.1) : (insOf L ins).Pairwise fun a b => a.v ≠ b.v := by
  unfold insOf
  rw [List.pairwise_map]
  refine (h.sublist List.filter_sublist).imp ?_
  intro a b hab e
  exact hab (by simpa [AV.ent] using e)

/-- The map, as far as it has come; who holds it. -/
def LitX (C0 : Cx) (d i0 : Nat) (ins : List (Nat × ByteArray × AV)) (cps : List (Nat × Nat)) (L : Nat → Bool) (C : Cx) (a : Act) : Prop :=
  (∀ p ∈ ins, L p.1 = true → L i0 = true) ∧ (∀ c ∈ cps, L c.1 = true → L i0 = true ∧ a.tmps.getD c.2 undef = a.tmps.getD d undef) ∧ (L i0 = true → ∃ k0 es cl, a.tmps.getD d undef = .map (some k0) ∧ C0.w.heap.size ≤ k0 ∧ k0 < C.w.heap.size ∧ C.Oth k0 ∧ ¬ C.Z k0 ∧ C.w.heap[k0]? = some (.map es cl) ∧ MapR C (insOf L ins) es.toList)
theorem LitX.go {C0 C C' : Cx} {d i0 : Nat} {ins : List (Nat × ByteArray × AV)} {cps : List (Nat × Nat)} {L : Nat → Bool} {a a' : Act} (h : LitX C0 d i0 ins cps L C a) (g : Goes C C') (ha : a'.tmps.getD d undef = a.tmps.getD d undef) (hc : ∀ c ∈ cps, a'.tmps.getD c.2 undef = a.tmps.getD c.2 undef) : LitX C0 d i0 ins cps L C' a' := by
  refine ⟨h.1, fun c hc' hl => ⟨(h.2.1 c hc' hl).1, by rw [hc c hc', ha]; exact (h.2.1 c hc' hl).2⟩, fun hL => ?_⟩
  obtain ⟨k0, es, cl, h1, h2, h3, h4, h5, h6, h7⟩ := h.2.2 hL
  obtain ⟨o1, o2⟩ := g.oth k0 h3 h4
  exact ⟨k0, es, cl, ha.trans h1, h2, Nat.lt_of_lt_of_le h3 g.le.size, o2, fun hz => h5 (g.zold k0 h3 hz), o1.trans h6, h7.mono g.le⟩
theorem put_getD {a : Act} {o d : Nat} {v : Value} (h : o ≠ d) : (a.put (some o) v).tmps.getD d undef = a.tmps.getD d undef := by
  simp only [Act.put, Array.getD_eq_getD_getElem?, Array.getElem?_setIfInBounds_ne h]
theorem put_getD' {a : Act} {o : Option Nat} {d : Nat} {v : Value} (h : o ≠ some d) : (a.put o v).tmps.getD d undef = a.tmps.getD d undef := by
  cases o with
  | none => rfl
  | some o => exact put_getD fun e => h (by rw [e])

/-- An operation in whose place nothing is known to be done: the map, its entries. -/
def litOp (o : Oper) : Oper := match o.op with
  | .makeMap _ _ => { o with op := .move (.global 1000000000) }
  | .insert _ _ _ x => { o with op := .move x }
  | _ => o
/-- Is it fit: the map's own operation; an entry, that waits for it; another one, that leaves its place alone? -/
def litFit (i0 d t i : Nat) (o : Oper) : Bool := match o.op with
  | .makeMap _ r => Nat.beq i i0 && r.isNone && o.guard.isNone && (o.dst == some d)
  | .insert t' m k _ => Nat.beq t' t && o.guard.isNone && o.dst.isNone && (match m with
    | .tmp x => Nat.beq x d
    | _ => false) && (match k with
    | .const (.string _) => true
    | _ => false) && o.after.toList.any fun e => Nat.beq e.on i0 && Region.binds .any e
  | _ => !(o.dst == some d) && !Nat.beq i i0
def litKey (o : Oper) : Option (ByteArray × Operand) := match o.op with
  | .insert _ _ (.const (.string k)) x => some (k, x)
  | _ => none
def insGo (F : Operand → AV) : Nat → List Oper → List (Nat × ByteArray × AV)
  | _, [] => []
  | i, o :: os => match litKey o with
    | some p => (i, p.1, F p.2) :: insGo F (i + 1) os
    | none => insGo F (i + 1) os
def fitGo (i0 d t : Nat) : Nat → List Oper → Bool
  | _, [] => true
  | i, o :: os => litFit i0 d t i o && fitGo i0 d t (i + 1) os
theorem fitGo_get {i0 d t : Nat} : ∀ {os : List Oper} {n i : Nat} {o : Oper}, fitGo i0 d t n os = true → os[i]? = some o → litFit i0 d t (n + i) o = true
  | o' :: os, n, 0, o, h, hi => by
    simp only [fitGo, Bool.and_eq_true] at h
    simp at hi
    subst hi
    exact h.1
  | o' :: os, n, i + 1, o, h, hi => by
    simp only [fitGo, Bool.and_eq_true] at h
    have := fitGo_get (i := i) h.2 (by simpa using hi)
    rwa [show n + 1 + i = n + (i + 1) by omega] at this
  | [], _, _, _, _, hi => by simp at hi
theorem insGo_mem {F : Operand → AV} {j : Nat} {k : ByteArray} {x : AV} : ∀ {os : List Oper} {n : Nat}, (j, k, x) ∈ insGo F n os ↔ ∃ i o y, os[i]? = some o ∧ j = n + i ∧ litKey o = some (k, y) ∧ x = F y
  | [], n => by simp [insGo]
  | o :: os, n => by
    have ih := insGo_mem (F := F) (j := j) (k := k) (x := x) (os := os) (n := n + 1)
    have rest : ((j, k, x) ∈ insGo F (n + 1) os) ↔ ∃ i o' y, (o :: os)[i + 1]? = some o' ∧ j = n + (i + 1) ∧ litKey o' = some (k, y) ∧ x = F y := by
      rw [ih]
      constructor
      · rintro ⟨i, o', y, h1, h2, h3⟩; exact ⟨i, o', y, by simpa using h1, by omega, h3⟩
      · rintro ⟨i, o', y, h1, h2, h3⟩; exact ⟨i, o', y, by simpa using h1, by omega, h3⟩
    simp only [insGo]
    cases hk : litKey o with
    | none =>
      simp only
      rw [rest]
      constructor
      · rintro ⟨i, o', y, h⟩; exact ⟨i + 1, o', y, h⟩
      · rintro ⟨i, o', y, h1, h2, h3, h4⟩
        cases i with
        | zero => simp at h1; subst h1; rw [hk] at h3; cases h3
        | succ i => exact ⟨i, o', y, h1, h2, h3, h4⟩
    | some p =>
      simp only [List.mem_cons]
      rw [rest]
      constructor
      · rintro (h | ⟨i, o', y, h⟩)
        · simp only [Prod.mk.injEq] at h
          exact ⟨0, o, p.2, by simp, by omega, by rw [hk, h.2.1], h.2.2⟩
        · exact ⟨i + 1, o', y, h⟩
      · rintro ⟨i, o', y, h1, h2, h3, h4⟩
        cases i with
        | zero =>
          simp at h1
          subst h1
          rw [hk] at h3
          simp only [Option.some.injEq] at h3
          subst h3
          exact Or.inl (by simp [h2, h4])
        | succ i => exact Or.inr ⟨i, o', y, h1, h2, h3, h4⟩
theorem RegInv.imp {ds : List Deferred} {C0 : Cx} {N : Nat} {s : Sta} {ops : Array Oper} {E : List Ent} {X X' : Cx → Act → Prop} {L : Nat → Bool} {a : Act} {w : World} (h : RegInv C0 N ds s ops E X L a w) (hx : ∀ C, X C a → X' C a) : RegInv C0 N ds s ops E X' L a w := by
  obtain ⟨h1, C, h2, h3, h4, h5, h6, h7, h8⟩ := h
  exact ⟨h1, C, h2, h3, h4, h5, h6, h7, hx C h8⟩
theorem litOp_other {o : Oper} (h1 : ∀ t r, o.op ≠ .makeMap t r) (h2 : ∀ t m k x, o.op ≠ .insert t m k x) : litOp o = o := by
  unfold litOp
  split
  · rename_i h; exact absurd h (h1 _ _)
  · rename_i h; exact absurd h (h2 _ _ _ _)
  · rfl
theorem litFit_other {i0 d t i : Nat} {o : Oper} (h1 : ∀ t r, o.op ≠ .makeMap t r) (h2 : ∀ t m k x, o.op ≠ .insert t m k x) (h : litFit i0 d t i o = true) : o.dst ≠ some d ∧ i ≠ i0 := by
  unfold litFit at h
  split at h
  · rename_i hh; exact absurd hh (h1 _ _)
  · rename_i hh; exact absurd hh (h2 _ _ _ _)
  · simp only [Bool.and_eq_true, Bool.not_eq_true', beq_eq_false_iff_ne] at h
    exact ⟨h.1, fun e => by rw [e, Nat.beq_refl] at h; cases h.2⟩
theorem litKey_insert {o : Oper} {k : ByteArray} {y : Operand} (h : litKey o = some (k, y)) : ∃ t m, o.op = .insert t m (.const (.string k)) y := by
  unfold litKey at h
  split at h
  · rename_i t m k' x ho
    simp only [Option.some.injEq, Prod.mk.injEq] at h
    obtain ⟨rfl, rfl⟩ := h
    exact ⟨t, m, ho⟩
  · cases h

section
variable {P : Program} {T : Tabs} (hT : TabOk P T) (hz : zeroB T = true) (hNum : noNum P = true) {call : CallA} (hcall : CallOk P T S call) (hbody : ∀ g args H n out, call g args H n = .ok out → hasBody P g = true) {N loc : Nat} {ops : Array Oper} {s s' : Sta} {E : List Ent} {w : Bool}

theorem move_ent (F : RegFacts P T call N loc ops s s' E) {i : Nat} {e : Ent} (hE : E[i]? = some e) {x : Operand} (ho : e.o.op = .move x ∨ e.o.op = .assign x) (hg : e.o.guard = none) : e.asg = [] ∧ e.x = evO T (frT N (E.take i) s.fr) x := by
  have G := F.good i e hE
  have hb : e.b = true := by
    have := G.want
    unfold wantedA at this
    rw [hg] at this
    simpa using this.symm
  have hw : e.wt = none := by
    cases hw : e.wt with
    | none => rfl
    | some q =>
      obtain ⟨b, o, ws⟩ := q
      obtain ⟨_, _, t, y, _, h, _⟩ := G.wat b o ws hw
      rcases ho with ho | ho <;> (rw [ho] at h; cases h)
  obtain ⟨out, V, h1, h2, _, h4, h5, _⟩ := G.yes hb hw
  have hc : calleeOf T (frT N (E.take i) s.fr) e.o = none := by unfold calleeOf; rcases ho with ho | ho <;> rw [ho]
  have hs : sop P T V e.n0 (frT N (E.take i) s.fr) e.o = some ⟨evO T (frT N (E.take i) s.fr) x, V, e.n0, 0⟩ := by unfold sop; rcases ho with ho | ho <;> rw [ho]
  unfold opA at h1
  rw [hc] at h1
  simp only [hs, orErr, Except.ok.injEq] at h1
  subst h1
  refine ⟨?_, h2⟩
  refine List.eq_nil_iff_forall_not_mem.2 fun b hb => ?_
  rcases (h5 b).1 hb with h | h
  · exact no_bit h.1
  · have h4 : e.n1 = e.n0 := h4
    omega
/-- The slots that hold the map: it is handed on from one to another one. -/
def copyOf (o : Oper) : Option Nat := match o.op with
  | .move (.tmp u) => some u
  | .assign (.tmp u) => some u
  | _ => none
def waitsOn (o : Oper) (i : Nat) : Bool := o.after.toList.any fun e => Nat.beq e.on i && Region.binds .any e
theorem waitsOn_ok {o : Oper} {i : Nat} (h : waitsOn o i = true) {L : Nat → Bool} (hL : ∀ e ∈ o.after, Region.binds .any e = true → L e.on = true) : L i = true := by
  obtain ⟨e, he, h2⟩ := List.any_eq_true.1 h
  simp only [Bool.and_eq_true] at h2
  have := hL e (by simpa using he) h2.2
  rwa [Nat.eq_of_beq_eq_true h2.1] at this
/-- A copy: its operation, its slot; out of a slot of those that it waits for. -/
def cpOk (N i0 d : Nat) (cps : List (Nat × Nat)) (ops : Array Oper) (c : Nat × Nat) : Bool := match ops[c.1]? with
  | some o => (match copyOf o with
    | some u => o.guard.isNone && (o.dst == some c.2) && !Nat.beq c.2 d && Nat.ble (c.2 + 1) N && ((Nat.beq u d && waitsOn o i0) || cps.any fun c' => Nat.beq c'.2 u && waitsOn o c'.1)
    | none => false)
  | none => false
/-- No other one writes these slots. -/
def othGo (i0 d : Nat) (cps : List (Nat × Nat)) : Nat → List Oper → Bool
  | _, [] => true
  | i, o :: os => (Nat.beq i i0 || (cps.any fun c => Nat.beq c.1 i) || cps.all fun c => !(o.dst == some c.2)) && othGo i0 d cps (i + 1) os
def apartGo : List (Nat × Nat) → Bool
  | [] => true
  | c :: cs => cs.all (fun c' => !Nat.beq c.1 c'.1 && !Nat.beq c.2 c'.2) && apartGo cs
theorem apartGo_ok : ∀ {cs : List (Nat × Nat)}, apartGo cs = true → cs.Pairwise fun a b => a.1 ≠ b.1 ∧ a.2 ≠ b.2
  | [], _ => List.Pairwise.nil
  | c :: cs, h => by
    simp only [apartGo, Bool.and_eq_true, List.all_eq_true, Bool.not_eq_true'] at h
    exact List.Pairwise.cons (fun c' hc' => ⟨fun e => (by have := (h.1 c' hc').1; rw [e, Nat.beq_refl] at this; cases this), fun e => (by have := (h.1 c' hc').2; rw [e, Nat.beq_refl] at this; cases this)⟩) (apartGo_ok h.2)
theorem othGo_get {i0 d : Nat} {cps : List (Nat × Nat)} : ∀ {os : List Oper} {n i : Nat} {o : Oper}, othGo i0 d cps n os = true → os[i]? = some o → n + i ≠ i0 → (∀ c ∈ cps, c.1 ≠ n + i) → ∀ c ∈ cps, o.dst ≠ some c.2
  | o' :: os, n, 0, o, h, hi, h0, hc => by
    simp only [othGo, Bool.and_eq_true, Bool.or_eq_true] at h
    simp at hi
    subst hi
    intro c hcm
    rcases h.1 with (h1 | h1) | h1
    · exact absurd (Nat.eq_of_beq_eq_true h1) (by simpa using h0)
    · obtain ⟨c', hc', h2⟩ := List.any_eq_true.1 h1
      exact absurd (Nat.eq_of_beq_eq_true h2) (by simpa using hc c' hc')
    · have := List.all_eq_true.1 h1 c hcm
      simpa using this
  | o' :: os, n, i + 1, o, h, hi, h0, hc => by
    simp only [othGo, Bool.and_eq_true] at h
    exact othGo_get (n := n + 1) (i := i) h.2 (by simpa using hi) (by rw [show n + 1 + i = n + (i + 1) by omega]; exact h0) (fun c hcm => by rw [show n + 1 + i = n + (i + 1) by omega]; exact hc c hcm)
  | [], _, _, _, _, hi, _, _ => by simp at hi
/-- The copies of a region. -/
def cpGo (i0 d : Nat) : List (Nat × Nat) → Nat → List Oper → List (Nat × Nat)
  | acc, _, [] => acc
  | acc, i, o :: os => match copyOf o, o.dst with
    | some u, some r => if Nat.beq u d || acc.any (fun c => Nat.beq c.2 u) then cpGo i0 d ((i, r) :: acc) (i + 1) os else cpGo i0 d acc (i + 1) os
    | _, _ => cpGo i0 d acc (i + 1) os
/-- A value put into several slots. -/
def putAll (N : Nat) (x : AV) : List Nat → Fr → Fr
  | [], fr => fr
  | r :: rs, fr => putAll N x rs (putA N fr (some r) x)
theorem putAll_get {N : Nat} {x : AV} {t : Nat} : ∀ (rs : List Nat) (fr : Fr), ((putAll N x rs fr).get t = x ∧ t ∈ rs) ∨ (putAll N x rs fr).get t = fr.get t
  | [], _ => Or.inr rfl
  | r :: rs, fr => by
    rcases putAll_get rs (putA N fr (some r) x) with h | h
    · exact Or.inl ⟨h.1, List.mem_cons_of_mem _ h.2⟩
    · rw [putA_get] at h
      split at h
      · rename_i hr
        exact Or.inl ⟨h, by rw [Option.some.inj hr.1]; exact List.mem_cons_self ..⟩
      · exact Or.inr h
def litEnts (ins : List (Nat × ByteArray × AV)) : List AV := ins.map fun p => AV.ent p.2.1 p.2.2
/-- What such a region comes to. -/
def litEnd (N d : Nat) (cps : List (Nat × Nat)) (ins : List (Nat × ByteArray × AV)) (s1 : Sta) : Sta := ⟨putAll N (AV.mp s1.n) (d :: cps.map (·.2)) s1.fr, s1.H.set s1.n (some ⟨0, [AV.ents (litEnts ins)]⟩), s1.n + 1, s1.wr⟩

include hT hz hNum hcall hbody in
theorem lit_ok (hm : P.follows .mixedOrders = true) {id i0 d t : Nat} (hdN : d < N) {s1 : Sta} (hfit : fitGo i0 d t 0 ops.toList = true) (hb2 : backB2 ops = true) (hr : regOk (ops.map litOp) = true) (hglob : (globAt T.glob 1000000000).t = 11)
    {ti tk : TI} (ht1 : T.tiAt t = some ti) (ht2 : ti.kind = 10) (ht3 : T.tiAt ti.len = some tk) (ht4 : tk.kind = 5)
    (h : drawGo P T call N loc (ops.map litOp) (ops.map litOp).toList (planOf (ops.map litOp) (bits (ops.map litOp))) 0 s [] = .ok (E, s1, w)) (hwatch : w = true → watchB s.H E = true)
    {ins : List (Nat × ByteArray × AV)} {cps : List (Nat × Nat)} (hcp : cps.all (cpOk N i0 d cps ops) = true) (hoth : othGo i0 d cps 0 ops.toList = true) (hap : cps.Pairwise fun a b => a.1 ≠ b.1 ∧ a.2 ≠ b.2) (hkeys : ins.Pairwise fun a b => a.2.1 ≠ b.2.1) (hi0 : i0 < ops.size)
    (hins : ∀ j k v, (j, k, v) ∈ ins ↔ ∃ o y e, ops[j]? = some o ∧ litKey o = some (k, y) ∧ E[j]? = some e ∧ v = e.x) :
    Tid s (litEnd N d cps ins s1) ∧ ∀ {ds : List Deferred} (Q : Exit → Act → World → Prop) (C : Cx) (a : Act), StaOk ds C N s a → GOk T S C → FreeA C s.n (litEnd N d cps ins s1).n → (∀ C' a', StaOk ds C' N (litEnd N d cps ins s1) a' → Goes C C' → NewA C C' s.n (litEnd N d cps ins s1).n → Q .normal a' C'.w) → (Code.region id ops true).wp P Q a C.w := by
  have ht := draw_tid hT hz hNum hcall hbody h
  refine ⟨⟨Nat.le_succ_of_le ht.le, fun hB => hb_set (ht.bnd hB), ht.wr, fun hB b hb hw => ?_, ht.had⟩, fun {ds} Q C a hs hG hF hQ => ?_⟩
  · have h1 := ht.le
    have := ht.keep hB b hb hw
    rw [← this]
    exact Hp.get_other _ _ (by omega)
  obtain ⟨F, hwt⟩ := facts_of hT hz hNum hcall hbody h hs.bnd
  have hwatch : watchB s.H E = true := by
    cases hw : w with
    | true => exact hwatch hw
    | false =>
      refine List.all_eq_true.2 fun e he => ?_
      rw [hwt hw e he]
  have hF1 : FreeA C s.n s1.n := fun b h1 h2 => hF b h1 (Nat.lt_succ_of_lt h2)
  obtain ⟨hu, huk⟩ := map_desc hT ht1 ht2 ht3 ht4
  have hafter : ∀ o, (litOp o).after = o.after := fun o => by unfold litOp; split <;> rfl
  have hguard : ∀ o, (litOp o).guard = o.guard := fun o => by unfold litOp; split <;> rfl
  have hdst : ∀ o, (litOp o).dst = o.dst := fun o => by unfold litOp; split <;> rfl
  have hy : ∀ tm, yielded (ops.map litOp) tm = yielded ops tm := fun tm => by
    funext j
    unfold yielded
    rw [Array.getElem?_map]
    cases ops[j]? with
    | none => rfl
    | some o => simp only [Option.map_some, Option.bind_some, hdst]
  have hmem : ∀ {j k v}, (j, k, v) ∈ ins → ∃ t' m y, ∃ o, ops[j]? = some o ∧ o.op = .insert t' m (.const (.string k)) y := fun hp => by
    obtain ⟨o, y, e, h1, h2, _⟩ := (hins _ _ _).1 hp
    obtain ⟨t', m, h3⟩ := litKey_insert h2
    exact ⟨t', m, y, o, h1, h3⟩
  have hcop : ∀ c ∈ cps, ∃ o u, ops[c.1]? = some o ∧ copyOf o = some u ∧ o.guard = none ∧ o.dst = some c.2 ∧ c.2 ≠ d ∧ c.2 < N ∧ ((u = d ∧ waitsOn o i0 = true) ∨ ∃ c' ∈ cps, c'.2 = u ∧ waitsOn o c'.1 = true) := by
    intro c hc
    have := List.all_eq_true.1 hcp c hc
    unfold cpOk at this
    split at this
    case h_2 => cases this
    rename_i o ho
    split at this
    case h_2 => cases this
    rename_i u hu
    simp only [Bool.and_eq_true, Option.isNone_iff_eq_none, beq_iff_eq, Bool.not_eq_true', Bool.or_eq_true, List.any_eq_true] at this
    obtain ⟨⟨⟨⟨g1, g2⟩, g3⟩, g4⟩, g5⟩ := this
    refine ⟨o, u, ho, hu, g1, g2, fun e => (by rw [e, Nat.beq_refl] at g3; cases g3), Nat.le_of_ble_eq_true g4, ?_⟩
    rcases g5 with h | ⟨c', h1, h2⟩
    · exact Or.inl ⟨Nat.eq_of_beq_eq_true h.1, h.2⟩
    · exact Or.inr ⟨c', h1, Nat.eq_of_beq_eq_true h2.1, h2.2⟩
  have hcne : ∀ c ∈ cps, c.1 ≠ i0 := by
    intro c hc e
    obtain ⟨o, u, h1, h2, _, h3, h4, _⟩ := hcop c hc
    have hfi := fitGo_get (i := c.1) hfit (by rw [Array.getElem?_toList]; exact h1)
    rw [Nat.zero_add] at hfi
    obtain ⟨_, h5⟩ := litFit_other (fun t' r h => by unfold copyOf at h2; rw [h] at h2; cases h2) (fun t' m k x h => by unfold copyOf at h2; rw [h] at h2; cases h2) hfi
    exact h5 e
  refine wp_region_inv2 hm hb2 (fun L a w => RegInv C N ds s (ops.map litOp) E (LitX C d i0 ins cps L) L a w) ?_ ?_ ?_
  · have hw := hs.ok.world (w := C.w.drew) rfl ⟨rfl, rfl, rfl⟩
    refine ⟨fun i j h => (by cases h), { C with w := C.w.drew }, rfl, ?_, hw, ?_, hs.df, fun b hb => Or.inl hb, fun _ _ h => h, fun _ _ h => (by cases h), fun h => by cases h⟩
    · rw [hpO_none]; exact hs.H
    · rw [frO_none]; exact RF.mono hw.le hs.fr
  · refine AllOps.of _ _ fun i o hi => ?_
    rw [Nat.zero_add]
    intro L a w K hLi hpre hI hK
    have hi1 : ops[i]? = some o := by rw [← Array.getElem?_toList]; exact hi
    have hi2 : (ops.map litOp)[i]? = some (litOp o) := by rw [Array.getElem?_map, hi1]; rfl
    have hfi := fitGo_get hfit hi
    rw [Nat.zero_add] at hfi
    obtain ⟨e, hE, heo⟩ := ent_at F.ops_ hi2
    have hpre' : ∀ d ∈ e.o.after, Region.binds .any d = true → L d.on = true := by rw [heo, hafter]; exact hpre
    by_cases c1 : ∃ t' r, o.op = .makeMap t' r
    · -- the map is made
      obtain ⟨t', r, ho⟩ := c1
      unfold litFit at hfi
      rw [ho] at hfi
      simp only [Bool.and_eq_true, Option.isNone_iff_eq_none, beq_iff_eq] at hfi
      obtain ⟨⟨⟨q1, q2⟩, q3⟩, q4⟩ := hfi
      obtain rfl := Nat.eq_of_beq_eq_true q1
      subst q2
      have hop : litOp o = { o with op := .move (.global 1000000000) } := by unfold litOp; rw [ho]
      obtain ⟨n2, n3⟩ := move_ent F hE (x := .global 1000000000) (Or.inl (by rw [heo, hop])) (by rw [heo, hguard, q3])
      rw [if_pos (by unfold Region.wanted; rw [q3])]
      obtain ⟨hcl, C1, rfl, hCH, hgo, hfr, hdf, hA, hx⟩ := hI
      have R := reg_pre F hr (i := i) (e := e) (by rw [heo]; exact hi2) hE hLi hpre' hcl
      have hg := hgo.ok.aside
      have hrun : (Instr.makeMap t' none).run P C1.w = .ok (.map (some C1.w.heap.size)) (C1.w.alloc (.map #[] 0)) := by
        simp [Instr.makeMap]
      have he : execOp a.eval o = (do pure (.value (← Instr.makeMap t' none))) := by simp [execOp, ho]
      unfold Oper.wp
      rw [he]
      simp only [Sem.run_bind, hrun, Result.andThen_ok, Sem.run_pure, Oper.upon_value]
      have hd : e.o.dst = o.dst := by rw [heo, hdst]
      have hany : ∀ {D : Cx} {v : Value}, RV D e.x v := fun {D v} => by
        have h11 : e.x.t = 11 := by rw [n3]; exact hglob
        exact ⟨1, by simp [Rep, h11]⟩
      have key := reg_idle (X := LitX C d i ins cps (upd L i)) (v := .map (some C1.w.heap.size)) hE R hCH hfr hdf hA (hgo.trans hg) hg.le rfl (newA_same rfl) n2 hany (fun C2 g2 => by
        refine LitX.go (C := { C1 with w := C1.w.alloc (.map #[] 0), Z := fun k => C1.Z k ∧ k < C1.w.heap.size }) (a := a.put e.o.dst (.map (some C1.w.heap.size))) ?_ g2 rfl (fun _ _ => rfl)
        refine ⟨fun p _ _ => by unfold upd; rw [if_pos rfl], fun c hc hl => ?_, fun _ => ?_⟩
        · unfold upd at hl
          rw [if_neg (hcne c hc)] at hl
          have := (hx.2.1 c hc hl).1
          rw [hLi] at this
          cases this
        refine ⟨C1.w.heap.size, #[], 0, ?_, hgo.le.size, by show _ < (C1.w.alloc _).heap.size; simp, fun b B hb => Nat.ne_of_lt (hgo.ok.lt hb), fun hz => Nat.lt_irrefl _ hz.2, heap_alloc_new _ _, ?_⟩
        · rw [hd, q4]
          simp only [Act.put, Array.getD_eq_getD_getElem?]
          rw [Array.getElem?_setIfInBounds_self_of_lt (by rw [hfr.size]; exact hdN)]
          rfl
        · have hnil : insOf (upd L i) ins = [] := by
            refine List.eq_nil_iff_forall_not_mem.2 fun x hx' => ?_
            obtain ⟨⟨j, k, v⟩, hp, hl, _⟩ := insOf_mem.1 hx'
            obtain ⟨t2, m, y, o2, h1, h2⟩ := hmem hp
            have hne : j ≠ i := fun e => by rw [e, hi1] at h1; cases h1; rw [ho] at h2; cases h2
            have hl : upd L i j = true := hl
            unfold upd at hl
            rw [if_neg hne] at hl
            have := hx.1 _ hp hl
            rw [hLi] at this
            cases this
          rw [hnil]
          exact ⟨fun e he => by simp at he, fun x hx => by simp at hx, fun e he => by simp at he, by simp, by simp⟩)
      rw [hd] at key
      exact hK _ _ key
    · by_cases c2 : ∃ t' m k x, o.op = .insert t' m k x
      · -- an entry
        obtain ⟨t', m, k, x, ho⟩ := c2
        unfold litFit at hfi
        rw [ho] at hfi
        simp only [Bool.and_eq_true, Option.isNone_iff_eq_none] at hfi
        obtain ⟨⟨⟨⟨⟨q1, q2⟩, q3⟩, q4⟩, q5⟩, q6⟩ := hfi
        obtain rfl := Nat.eq_of_beq_eq_true q1
        obtain ⟨u, rfl, hu4⟩ : ∃ u, m = .tmp u ∧ u = d := by
          split at q4
          · exact ⟨_, rfl, Nat.eq_of_beq_eq_true q4⟩
          · cases q4
        subst hu4
        obtain ⟨kb, rfl⟩ : ∃ kb, k = .const (.string kb) := by
          split at q5
          · exact ⟨_, rfl⟩
          · cases q5
        have hL0 : L i0 = true := by
          obtain ⟨ed, h1, h2⟩ := List.any_eq_true.1 q6
          simp only [Bool.and_eq_true] at h2
          have := hpre ed (by simpa using h1) h2.2
          rwa [Nat.eq_of_beq_eq_true h2.1] at this
        have hop : litOp o = { o with op := .move x } := by unfold litOp; rw [ho]
        have hkey : litKey o = some (kb, x) := by unfold litKey; rw [ho]
        obtain ⟨n2, n3⟩ := move_ent F hE (x := x) (Or.inl (by rw [heo, hop])) (by rw [heo, hguard, q2])
        rw [if_pos (by unfold Region.wanted; rw [q2])]
        obtain ⟨hcl, C1, rfl, hCH, hgo, hfr, hdf, hA, hx⟩ := hI
        have R := reg_pre F hr (i := i) (e := e) (by rw [heo]; exact hi2) hE hLi hpre' hcl
        obtain ⟨k0, es, cl, m1, m2, m3, m4, m5, m6, m7⟩ := hx.2.2 hL0
        have hin : (i, kb, e.x) ∈ ins := (hins _ _ _).2 ⟨o, x, e, hi1, hkey, hE, rfl⟩
        have hone : ∀ p ∈ ins, p.2.1 = kb → p = (i, kb, e.x) := by
          intro p hp hk
          obtain ⟨a1, ha1, rfl⟩ := List.mem_iff_getElem.1 hp
          obtain ⟨b1, hb1, hb3⟩ := List.mem_iff_getElem.1 hin
          have := pair_same (f := fun p : Nat × ByteArray × AV => p.2.1) hkeys (List.getElem?_eq_getElem ha1) (List.getElem?_eq_getElem hb1) (by rw [hb3]; exact hk)
          subst this
          exact hb3
        have hv : RV C1 e.x (a.eval x) := by
          rw [n3, ← reads_op R.read x (by rw [heo, hop]; simp [Op.operands])]
          exact rv_op (hG.mono hgo.le) hfr x
        have fresh : ∀ e' ∈ es.toList, e'.key ≠ .string kb := by
          intro e' he' hk
          obtain ⟨y, hy1, hy2⟩ := m7.to e' he'
          obtain ⟨p, hp, hpl, rfl⟩ := insOf_mem.1 hy1
          have : p.2.1 = kb := by
            have := hy2.key.trans hk
            simpa [AV.ent] using this
          have := hone p hp this
          rw [this] at hpl
          rw [hLi] at hpl
          cases hpl
        have hfind : Instr.findNow .string (.string kb) es.toList 0 = some none := by
          rcases MapKept.findNow_spec (d := .string) (k := .string kb) trivial es.toList 0 m7.keys with ⟨h1, _⟩ | ⟨j, e', _, h2, h3⟩
          · exact h1
          · exact absurd h3 (fresh e' (List.mem_of_getElem? h2))
        have hrun : (Instr.mapUpdate t' (a.eval (.tmp u)) (a.eval (.const (.string kb))) (a.eval x)).run P C1.w = .ok () { C1.w with heap := C1.w.heap.setIfInBounds k0 (.map (es.push ⟨.string kb, a.eval x, cl⟩) (cl + 1)) } := by
          have h1 : a.eval (.tmp u) = .map (some k0) := m1
          have h2 : a.eval (.const (.string kb)) = .string kb := rfl
          rw [h1, h2]
          simp [Instr.mapUpdate, run_underlying hu, MapKept.run_getObj_map m6, MapKept.run_checkKey huk (show MapKept.IsKey .string (.string kb) from trivial), MapKept.run_findKey huk hfind, MapKept.run_setObj_map _ m6, Result.andThen]
        have he : execOp a.eval o = (do Instr.mapUpdate t' (a.eval (.tmp u)) (a.eval (.const (.string kb))) (a.eval x); pure .skip) := by simp [execOp, ho]
        unfold Oper.wp
        rw [he]
        simp only [Sem.run_bind, hrun, Result.andThen_ok, Sem.run_pure, Oper.upon_skip]
        obtain ⟨f1, f2⟩ := hgo.far (es' := es.push ⟨.string kb, a.eval x, cl⟩) (cl' := cl + 1) m6 m2 m4 m5
        have hd : e.o.dst = o.dst := by rw [heo, hdst]
        have key := reg_idle (X := LitX C u i0 ins cps (upd L i)) (v := a.eval x) hE R hCH hfr hdf hA f1 f2 rfl (newA_same rfl) n2 (hv.mono f2) (fun C2 g2 => by
          refine LitX.go (a := a) ?_ g2 (by rw [hd, q3]; rfl) (fun _ _ => by rw [hd, q3]; rfl)
          have hui : upd L i i0 = true := by
            unfold upd
            split
            · rfl
            · exact hL0
          refine ⟨fun p hp hL => ?_, fun c hc hl => ?_, fun _ => ⟨k0, _, cl + 1, m1, m2, by simpa using m3, m4, m5, (MapKept.heap_set m6).1, ?_⟩⟩
          · exact hui
          · have hne : c.1 ≠ i := fun e => by
              obtain ⟨o', u', h1, h2, _⟩ := hcop c hc
              rw [e, hi1] at h1
              cases h1
              unfold copyOf at h2
              rw [ho] at h2
              cases h2
            unfold upd at hl
            rw [if_neg hne] at hl
            exact ⟨hui, (hx.2.1 c hc hl).2⟩
          · rw [Array.toList_push]
            refine ((m7.mono f2).push fresh (hv.mono f2)).same (fun y => ?_) (insOf_apart hkeys)
            rw [List.mem_append, List.mem_singleton, insOf_mem, insOf_mem]
            constructor
            · rintro ⟨p, hp, hl, rfl⟩
              unfold upd at hl
              split at hl
              · rename_i hpi
                obtain ⟨o2, y2, e2, h1, h2, h3, h4⟩ := (hins p.1 p.2.1 p.2.2).1 hp
                rw [hpi] at h1 h3
                rw [hi1] at h1
                rw [hE] at h3
                cases h1
                cases h3
                rw [hkey] at h2
                simp only [Option.some.injEq, Prod.mk.injEq] at h2
                rw [← h2.1, h4]
                exact Or.inr rfl
              · exact Or.inl ⟨p, hp, hl, rfl⟩
            · rintro (⟨p, hp, hl, rfl⟩ | rfl)
              · refine ⟨p, hp, ?_, rfl⟩
                unfold upd
                split
                · rfl
                · exact hl
              · exact ⟨(i, kb, e.x), hin, by unfold upd; rw [if_pos rfl], rfl⟩)
        rw [hd, q3] at key
        rw [q3]
        exact hK _ _ key
      · by_cases c3 : ∃ c ∈ cps, c.1 = i
        · -- it is handed on
          obtain ⟨c, hc, rfl⟩ := c3
          obtain ⟨o', u, g1, g2, g3, g4, g5, g6, g7⟩ := hcop c hc
          rw [hi1] at g1
          cases g1
          have hsame := litOp_other (fun t' r h => c1 ⟨t', r, h⟩) (fun t' m k x h => c2 ⟨t', m, k, x, h⟩)
          have hop : o.op = .move (.tmp u) ∨ o.op = .assign (.tmp u) := by
            unfold copyOf at g2
            split at g2
            · rename_i h; cases g2; exact Or.inl h
            · rename_i h; cases g2; exact Or.inr h
            · cases g2
          obtain ⟨n2, n3⟩ := move_ent F hE (x := .tmp u) (by rw [heo, hsame]; exact hop) (by rw [heo, hguard, g3])
          rw [if_pos (by unfold Region.wanted; rw [g3])]
          obtain ⟨hcl, C1, rfl, hCH, hgo, hfr, hdf, hA, hx⟩ := hI
          have R := reg_pre F hr (i := c.1) (e := e) (by rw [heo]; exact hi2) hE hLi hpre' hcl
          have hv : RV C1 e.x (a.eval (.tmp u)) := by
            rw [n3, ← reads_op R.read (.tmp u) (by rw [heo, hsame]; rcases hop with h | h <;> rw [h] <;> simp [Op.operands])]
            exact rv_op (hG.mono hgo.le) hfr (.tmp u)
          have he : execOp a.eval o = pure (.value (a.eval (.tmp u))) := by rcases hop with h | h <;> simp [execOp, h]
          unfold Oper.wp
          rw [he]
          simp only [Sem.run_pure, Oper.upon_value]
          have hd : e.o.dst = o.dst := by rw [heo, hdst]
          have hsrc : L i0 = true ∧ a.tmps.getD u undef = a.tmps.getD d undef := by
            rcases g7 with ⟨e1, h2⟩ | ⟨c', h1, h2, h3⟩
            · exact ⟨waitsOn_ok h2 hpre, by rw [e1]⟩
            · obtain ⟨k1, k2⟩ := hx.2.1 c' h1 (waitsOn_ok h3 hpre)
              rw [h2] at k2
              exact ⟨k1, k2⟩
          have hpd : (a.put (some c.2) (a.eval (.tmp u))).tmps.getD d undef = a.tmps.getD d undef := put_getD g5
          have hui : upd L c.1 i0 = true := by
            unfold upd
            split
            · rfl
            · exact hsrc.1
          have key := reg_idle (X := LitX C d i0 ins cps (upd L c.1)) (v := a.eval (.tmp u)) hE R hCH hfr hdf hA hgo (Cx.le.refl C1) rfl (newA_same rfl) n2 hv (fun C2 g => by
            rw [hd, g4]
            refine LitX.go (C := C1) ?_ g rfl (fun _ _ => rfl)
            refine ⟨fun p hp hl => hui, fun c' hc' hl => ⟨hui, ?_⟩, fun _ => ?_⟩
            · by_cases hcc : c'.1 = c.1
              · have hcc2 : c' = c := by
                  obtain ⟨i1, hi1', rfl⟩ := List.mem_iff_getElem.1 hc'
                  obtain ⟨i2, hi2', rfl⟩ := List.mem_iff_getElem.1 hc
                  have := pair_same (f := fun c : Nat × Nat => c.1) (hap.imp fun h => h.1) (List.getElem?_eq_getElem hi1') (List.getElem?_eq_getElem hi2') hcc
                  subst this
                  rfl
                subst hcc2
                rw [hpd, ← hsrc.2]
                simp only [Act.put, Array.getD_eq_getD_getElem?]
                rw [Array.getElem?_setIfInBounds_self_of_lt (by rw [hfr.size]; exact g6)]
                show (a.eval (.tmp u)) = _
                rw [← Array.getD_eq_getD_getElem?]
                rfl
              · have hne2 : c.2 ≠ c'.2 := fun e2 => hcc (by
                  obtain ⟨i1, hi1', rfl⟩ := List.mem_iff_getElem.1 hc'
                  obtain ⟨i2, hi2', rfl⟩ := List.mem_iff_getElem.1 hc
                  have := pair_same (f := fun c : Nat × Nat => c.2) (hap.imp fun h => h.2) (List.getElem?_eq_getElem hi1') (List.getElem?_eq_getElem hi2') e2.symm
                  subst this
                  rfl)
                unfold upd at hl
                rw [if_neg hcc] at hl
                rw [put_getD hne2, hpd]
                exact (hx.2.1 c' hc' hl).2
            · obtain ⟨k0, es, cl, m1, m2, m3, m4, m5, m6, m7⟩ := hx.2.2 hsrc.1
              refine ⟨k0, es, cl, hpd.trans m1, m2, m3, m4, m5, m6, ?_⟩
              have hsm : insOf (upd L c.1) ins = insOf L ins := by
                unfold insOf
                congr 1
                refine List.filter_congr fun p hp => ?_
                obtain ⟨t2, m, y, o2, h1, h2⟩ := hmem (j := p.1) (k := p.2.1) (v := p.2.2) hp
                have hne : p.1 ≠ c.1 := fun e => by rw [e, hi1] at h1; cases h1; exact c2 ⟨_, _, _, _, h2⟩
                unfold upd
                rw [if_neg hne]
              rw [hsm]
              exact m7)
          rw [hd] at key
          exact hK _ _ key
        have hsame := litOp_other (fun t' r h => c1 ⟨t', r, h⟩) (fun t' m k x h => c2 ⟨t', m, k, x, h⟩)
        obtain ⟨hd, hne⟩ := litFit_other (fun t' r h => c1 ⟨t', r, h⟩) (fun t' m k x h => c2 ⟨t', m, k, x, h⟩) hfi
        rw [hsame] at hi2
        have := reg_step hT hz hNum hcall hbody F hr hwatch (X := LitX C d i0 ins cps L) hG hF1 hs.bnd (Q := Q) (K := K) hi2 hLi hpre hI (fun C1 C2 a v hx g => hx.go g (put_getD' hd) (fun c hc => put_getD' (othGo_get hoth hi (by rw [Nat.zero_add]; exact hne) (fun c hc e => c3 ⟨c, hc, by rw [e, Nat.zero_add]⟩) c hc))) (fun a' w' hI' => hK a' w' (hI'.imp fun C2 hx => ⟨fun p hp hL => by
          obtain ⟨t2, m, y, o2, h1, h2⟩ := hmem (j := p.1) (k := p.2.1) (v := p.2.2) hp
          have hne2 : p.1 ≠ i := fun e => by rw [e, hi1] at h1; cases h1; exact c2 ⟨_, _, _, _, h2⟩
          unfold upd at hL ⊢
          rw [if_neg hne2] at hL
          rw [if_neg (Ne.symm hne)]
          exact hx.1 p hp hL, fun c hc hl => by
          unfold upd at hl ⊢
          rw [if_neg fun e => c3 ⟨c, hc, e⟩] at hl
          rw [if_neg (Ne.symm hne)]
          exact hx.2.1 c hc hl, fun hL => by
          have hL0 : L i0 = true := by unfold upd at hL; rwa [if_neg (Ne.symm hne)] at hL
          have hsm : insOf (upd L i) ins = insOf L ins := by
            unfold insOf
            congr 1
            refine List.filter_congr fun p hp => ?_
            obtain ⟨t2, m, y, o2, h1, h2⟩ := hmem (j := p.1) (k := p.2.1) (v := p.2.2) hp
            have hne : p.1 ≠ i := fun e => by rw [e, hi1] at h1; cases h1; exact c2 ⟨_, _, _, _, h2⟩
            unfold upd
            rw [if_neg hne]
          rw [hsm]
          exact hx.2.2 hL0⟩))
        rw [hy] at this
        exact this
  · rintro L a w hall ⟨_, C', rfl, hCH, hgo, hfr, hdf, hA, hx⟩
    have hlen : E.length = ops.size := by
      have := congrArg List.length F.ops_
      simpa using this
    rw [frO_all E 0 s.fr fun k hk => by rw [Nat.zero_add]; exact hall k (by omega), ← F.fr] at hfr
    rw [hpO_all E 0 s.H fun k hk => by rw [Nat.zero_add]; exact hall k (by omega)] at hCH
    have hl := hgo.ok.less (H := s1.H) fun b B hb => by rw [hCH, ← F.H]; exact hb
    have hx2 := hx.go hl (a' := a) rfl (fun _ _ => rfl)
    obtain ⟨k0, es, cl, m1, m2, m3, m4, m5, m6, m7⟩ := hx2.2.2 (hall i0 hi0)
    have hA2 : NewA C C' s.n s1.n := fun b hb => by
      rcases hA b hb with h | ⟨j, e, h1, _, h2, h3⟩
      · exact Or.inl h
      · have := (F.good j e h1).start
        have := F.top j e h1
        exact Or.inr (by omega)
    have hn : ¬ C'.A s1.n := fun h9 => by
      rcases hA2 _ h9 with h | h
      · exact hF s1.n F.le (Nat.lt_succ_self _) h
      · omega
    have hall2 : insOf L ins = litEnts ins := by
      unfold insOf litEnts
      congr 1
      refine List.filter_eq_self.2 fun p hp => ?_
      obtain ⟨t2, m, y, o2, h1, _⟩ := hmem (j := p.1) (k := p.2.1) (v := p.2.2) hp
      refine hall p.1 ?_
      rcases Nat.lt_or_ge p.1 ops.size with h | h
      · exact h
      · rw [Array.getElem?_eq_none h] at h1; cases h1
    rw [hall2] at m7
    obtain ⟨g1, g2⟩ := (hgo.trans hl).name (n := s1.n) (B := ⟨0, [AV.ents (litEnts ins)]⟩) hn m2 m4 m5 (Or.inr ⟨AV.ents (litEnts ins), es, cl, rfl, rfl, m6, m7⟩)
    refine (fun h1 h2 => hQ _ a ⟨rfl, g1.ok, ⟨hfr.size, h1⟩, hdf, hb_set F.bnd⟩ g1 h2) (fun u => ?_) fun b hb => ?_
    · show RV _ ((putAll N (AV.mp s1.n) (d :: cps.map (·.2)) s1.fr).get u) _
      rcases putAll_get (N := N) (x := AV.mp s1.n) (t := u) (d :: cps.map (·.2)) s1.fr with ⟨e1, e2⟩ | e1
      · rw [e1]
        have e3 : a.tmps.getD u undef = .map (some k0) := by
          rcases List.mem_cons.1 e2 with rfl | e2
          · exact m1
          · obtain ⟨c, hc, rfl⟩ := List.mem_map.1 e2
            obtain ⟨o, u', h1, _⟩ := hcop c hc
            have hlt : c.1 < ops.size := by
              rcases Nat.lt_or_ge c.1 ops.size with h | h
              · exact h
              · rw [Array.getElem?_eq_none h] at h1; cases h1
            exact (hx2.2.1 c hc (hall c.1 hlt)).2.trans m1
        rw [e3]
        have hmp := rv_mp (C := { C' with H := s1.H.set s1.n (some ⟨0, [AV.ents (litEnts ins)]⟩), mu := updMu C'.mu s1.n k0, A := fun b => C'.A b ∨ b = s1.n }) (a := s1.n) (Or.inr rfl)
        have hmp : RV _ (AV.mp s1.n) (.map (some (updMu C'.mu s1.n k0 s1.n))) := hmp
        rw [show updMu C'.mu s1.n k0 s1.n = k0 from if_pos rfl] at hmp
        exact hmp
      · rw [e1]
        exact (hfr.at_ u).mono (hl.le.trans g2)
    · rcases hb with hb | hb
      · rcases hA2 b hb with h | h
        · exact Or.inl h
        · exact Or.inr ⟨h.1, Nat.lt_succ_of_lt h.2⟩
      · subst hb
        exact Or.inr ⟨F.le, Nat.lt_succ_self _⟩
/-- The map's own operation. -/
def findMake : Nat → List Oper → Option (Nat × Nat × Nat)
  | _, [] => none
  | i, o :: os => match o.op, o.dst with
    | .makeMap t none, some d => some (i, d, t)
    | _, _ => findMake (i + 1) os
/-- Is what an entry gets not written from there on? -/
def keepGo : List Oper → Bool
  | [] => true
  | o :: os => (match litKey o with
    | some (_, .tmp u) => (o :: os).all fun o => !(o.dst == some u)
    | _ => true) && keepGo os
def distinctB : List ByteArray → Bool
  | [] => true
  | k :: ks => ks.all (fun l => !strB k l) && distinctB ks
theorem distinctB_ok : ∀ {ks : List ByteArray}, distinctB ks = true → ks.Pairwise fun a b => a ≠ b
  | [], _ => List.Pairwise.nil
  | k :: ks, h => by
    simp only [distinctB, Bool.and_eq_true, List.all_eq_true, Bool.not_eq_true'] at h
    refine List.Pairwise.cons (fun l hl e => ?_) (distinctB_ok h.2)
    have := h.1 l hl
    rw [strB_eq, e, (MapKept.bytes_beq l l).2 rfl] at this
    cases this
theorem insGo_keys {F : Operand → AV} : ∀ {os : List Oper} {n : Nat}, (insGo F n os).map (fun p => p.2.1) = (os.filterMap litKey).map (fun p => p.1)
  | [], _ => rfl
  | o :: os, n => by
    have ih := insGo_keys (F := F) (os := os) (n := n + 1)
    simp only [insGo, List.filterMap_cons]
    cases litKey o with
    | none => exact ih
    | some p => simp only [List.map_cons, ih]
theorem keepGo_get {u : Nat} {k : ByteArray} : ∀ {os : List Oper} {j : Nat} {o : Oper}, keepGo os = true → os[j]? = some o → litKey o = some (k, .tmp u) → ∀ (i : Nat) (o' : Oper), j ≤ i → os[i]? = some o' → o'.dst ≠ some u
  | o0 :: os, 0, o, h, hj, hk, i, o', _, hi => by
    simp at hj
    subst hj
    simp only [keepGo, Bool.and_eq_true] at h
    have h1 := h.1
    rw [hk] at h1
    have := List.all_eq_true.1 h1 o' (List.mem_of_getElem? hi)
    simpa using this
  | o0 :: os, j + 1, o, h, hj, hk, i, o', hji, hi => by
    simp only [keepGo, Bool.and_eq_true] at h
    obtain ⟨i', rfl⟩ : ∃ i', i = i' + 1 := ⟨i - 1, by omega⟩
    exact keepGo_get h.2 (by simpa using hj) hk i' o' (by omega) (by simpa using hi)
  | [], _, _, _, hj, _, _, _, _, _ => by simp at hj
def litChk (T : Tabs) (N : Nat) (c : Nat × Nat × Nat) (ops : Array Oper) : Bool := fitGo c.1 c.2.1 c.2.2 0 ops.toList && backB2 ops && regOk (ops.map litOp) && Nat.beq (globAt T.glob 1000000000).t 11 && (match T.tiAt c.2.2 with
    | some ti => Nat.beq ti.kind 10 && (match T.tiAt ti.len with
      | some tk => Nat.beq tk.kind 5
      | none => false)
    | none => false) && Nat.ble (c.2.1 + 1) N && Nat.ble (c.1 + 1) ops.size && keepGo ops.toList && distinctB ((ops.toList.filterMap litKey).map fun p => p.1) && (cpGo c.1 c.2.1 [] 0 ops.toList).all (cpOk N c.1 c.2.1 (cpGo c.1 c.2.1 [] 0 ops.toList) ops) && othGo c.1 c.2.1 (cpGo c.1 c.2.1 [] 0 ops.toList) 0 ops.toList && apartGo (cpGo c.1 c.2.1 [] 0 ops.toList)
/-- Is it a region of this kind? -/
def litOf (T : Tabs) (N : Nat) (ops : Array Oper) : Option (Nat × Nat × Nat) := match findMake 0 ops.toList with
  | some c => if litChk T N c ops = true then some c else none
  | none => none
/-- Such a region is run. -/
def litA (P : Program) (T : Tabs) (call : CallA) (N loc : Nat) (c : Nat × Nat × Nat) (ops : Array Oper) (s : Sta) : R Sta :=
  bindR (drawGo P T call N loc (ops.map litOp) (ops.map litOp).toList (planOf (ops.map litOp) (bits (ops.map litOp))) 0 s []) fun q => if !q.2.2 || watchB s.H q.1 then .ok (litEnd N c.2.1 (cpGo c.1 c.2.1 [] 0 ops.toList) (insGo (evO T q.2.1.fr) 0 ops.toList) q.2.1) else .error (loc + 600)

theorem frT_skip {u : Nat} : ∀ (E : List Ent) (fr : Fr), (∀ e ∈ E, e.o.dst ≠ some u) → (frT N E fr).get u = fr.get u
  | [], _, _ => rfl
  | e :: E, fr, h => by
    have ih := frT_skip E (putA N fr e.o.dst e.x) fun e' he => h e' (List.mem_cons_of_mem _ he)
    refine Eq.trans (show _ = (frT N E (putA N fr e.o.dst e.x)).get u from rfl) (ih.trans ?_)
    rw [putA_get, if_neg fun g => h e (List.mem_cons_self ..) g.1]

include hT hz hNum hcall hbody in
theorem litA_ok (hm : P.follows .mixedOrders = true) {id : Nat} {c : Nat × Nat × Nat} (hc : litOf T N ops = some c) {s2 : Sta} (h : litA P T call N loc c ops s = .ok s2) :
    Tid s s2 ∧ ∀ {ds : List Deferred} (Q : Exit → Act → World → Prop) (C : Cx) (a : Act), StaOk ds C N s a → GOk T S C → FreeA C s.n s2.n → (∀ C' a', StaOk ds C' N s2 a' → Goes C C' → NewA C C' s.n s2.n → Q .normal a' C'.w) → (Code.region id ops true).wp P Q a C.w := by
  unfold litOf at hc
  split at hc
  case h_2 => cases hc
  rename_i c0 hfm
  split at hc
  case isFalse => cases hc
  rename_i hall
  cases hc
  unfold litChk at hall
  simp only [Bool.and_eq_true] at hall
  obtain ⟨⟨⟨⟨⟨⟨⟨⟨⟨⟨⟨h1, h2⟩, h3⟩, h4⟩, h5⟩, h6⟩, h7⟩, h8⟩, h9⟩, hcp⟩, hoth⟩, hap⟩ := hall
  split at h5
  case h_2 => cases h5
  rename_i ti ht1
  simp only [Bool.and_eq_true] at h5
  obtain ⟨h51, h52⟩ := h5
  split at h52
  case h_2 => cases h52
  rename_i tk ht3
  unfold litA at h
  obtain ⟨⟨E, s1, w⟩, hd, h⟩ := bindR_ok h
  split at h
  case isFalse => cases h
  rename_i hw
  simp only [Except.ok.injEq] at h
  subst h
  have hkeys : (insGo (evO T s1.fr) 0 ops.toList).Pairwise fun a b => a.2.1 ≠ b.2.1 := by
    have := distinctB_ok h9
    rw [← insGo_keys (F := evO T s1.fr) (n := 0), List.pairwise_map] at this
    exact this
  by_cases hB : HB s.H s.n
  case neg =>
    refine ⟨?_, fun Q C a hs _ _ _ => absurd hs.bnd hB⟩
    have ht := draw_tid hT hz hNum hcall hbody hd
    exact ⟨Nat.le_succ_of_le ht.le, fun hB' => absurd hB' hB, ht.wr, fun hB' => absurd hB' hB, fun hB' => absurd hB' hB⟩
  obtain ⟨F, _⟩ := facts_of hT hz hNum hcall hbody hd hB
  have hlen : E.length = ops.size := by
    have := congrArg List.length F.ops_
    simpa using this
  have hval : ∀ (j : Nat) (o : Oper) (k : ByteArray) (y : Operand) (e : Ent), ops[j]? = some o → litKey o = some (k, y) → E[j]? = some e → e.x = evO T s1.fr y := by
    intro j o k y e ho hk he
    have hfi := fitGo_get (i := j) h1 (by rw [Array.getElem?_toList]; exact ho)
    obtain ⟨t', m, hop⟩ := litKey_insert hk
    have hg : o.guard = none := by
      unfold litFit at hfi
      rw [hop] at hfi
      simp only [Bool.and_eq_true, Option.isNone_iff_eq_none] at hfi
      exact hfi.1.1.1.1.2
    have heo : e.o = litOp o := by
      have := at_ent F.ops_ he
      rw [Array.getElem?_map, ho] at this
      exact (Option.some.inj this).symm
    have hlo : litOp o = { o with op := .move y } := by unfold litOp; rw [hop]
    obtain ⟨_, n3⟩ := move_ent F he (x := y) (Or.inl (by rw [heo, hlo])) (by rw [heo, hlo]; exact hg)
    rw [n3, F.fr]
    cases y with
    | tmp u =>
      show (frT N (E.take j) s.fr).get u = (frT N E s.fr).get u
      have hsplit : frT N E s.fr = frT N (E.drop j) (frT N (E.take j) s.fr) := by
        unfold frT
        rw [← List.foldl_append, List.take_append_drop]
      rw [hsplit]
      refine (frT_skip _ _ fun e' he' => ?_).symm
      obtain ⟨i, hi, rfl⟩ := List.mem_iff_getElem.1 he'
      have hi2 : E[j + i]? = some ((E.drop j)[i]) := by
        rw [List.getElem_drop]
        exact List.getElem?_eq_getElem _
      have h10 := at_ent F.ops_ hi2
      rw [Array.getElem?_map] at h10
      obtain ⟨o', h11, h12⟩ := Option.map_eq_some_iff.1 h10
      rw [← h12]
      have hdst : (litOp o').dst = o'.dst := by unfold litOp; split <;> rfl
      rw [hdst]
      exact keepGo_get h8 (by rw [Array.getElem?_toList]; exact ho) hk (j + i) o' (by omega) (by rw [Array.getElem?_toList]; exact h11)
    | const v => rfl
    | global g => rfl
    | func f => rfl
  refine lit_ok hT hz hNum hcall hbody hm (Nat.le_of_ble_eq_true h6) h1 h2 h3 (Nat.eq_of_beq_eq_true h4) ht1 (Nat.eq_of_beq_eq_true h51) ht3 (Nat.eq_of_beq_eq_true h52) hd (fun hw' => by rw [hw'] at hw; simpa using hw) hcp hoth (apartGo_ok hap) hkeys (Nat.le_of_ble_eq_true h7) fun j k v => ?_
  rw [insGo_mem]
  constructor
  · rintro ⟨i, o, y, g1, g2, g3, g4⟩
    rw [Nat.zero_add] at g2
    subst g2
    rw [Array.getElem?_toList] at g1
    have hlt : j < E.length := by
      rw [hlen]
      rcases Nat.lt_or_ge j ops.size with h | h
      · exact h
      · rw [Array.getElem?_eq_none h] at g1; cases g1
    exact ⟨o, y, E[j], g1, g3, List.getElem?_eq_getElem hlt, by rw [g4, hval j o k y E[j] g1 g3 (List.getElem?_eq_getElem hlt)]⟩
  · rintro ⟨o, y, e, g1, g2, g3, g4⟩
    exact ⟨j, o, y, by rw [Array.getElem?_toList]; exact g1, by omega, g2, by rw [g4]; exact hval j o k y e g1 g2 g3⟩
end
#print axioms litA_ok
end Go.Proofs.YthklnpkjlepagaaGreatDoor.Ab
