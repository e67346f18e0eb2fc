/- How the machine of package norm lies in memory, and what stays as it goes on. -/
import Derived.Test.YtjiecahopdaghabDoorNm
import Derived.Test.YtjiecahopdaghabDoorSc
namespace Go.Proofs.YtjiecahopdaghabDoor
open Go.RowKit

abbrev pt (q : Nat) : Value := .pointer (some ⟨q, 0, none⟩)

/-- What may be written: the machine, and the parts so far. -/
def Mut (mb : Nat) (A : Nat → Nat) (n : Nat) (q : Nat) : Prop := q = mb ∨ ∃ i, i < n ∧ A i = q

/-- .. or is another's own. -/
def MutX (X : Nat → Prop) (mb : Nat) (A : Nat → Nat) (n : Nat) (q : Nat) : Prop := Mut mb A n q ∨ X q

/-- A term lies at an address, below B. -/
def TmP (w : World) (B b off : Nat) (t : Tr) : Prop := ∃ f a cap, b < B ∧ t.size ≤ 1000000 ∧ w.cell? ⟨b, off, none⟩ = some (.int .i64 t.op) ∧ w.cell? ⟨b, off + 1, none⟩ = some (.int .i64 t.n) ∧ w.cell? ⟨b, off + 2, none⟩ = some (.slice a t.kids.length cap) ∧
  TmD w (fun k => k < B) f t (.agg #[.int .i64 t.op, .int .i64 t.n, .slice a t.kids.length cap])

/-- A row of parts. -/
def PRow (w : World) (X : Nat → Prop) (mb : Nat) (A : Nat → Nat) (n : Nat) (a : Option Addr) (ids : List Nat) (cap : Nat) : Prop :=
  ids.length ≤ cap ∧ cap ≤ 100000000 ∧ (∀ i ∈ ids, i < n) ∧ (ids ≠ [] → ∃ b, a = some ⟨b, 0, none⟩ ∧ b < w.heap.size ∧ ¬ MutX X mb A n b ∧ ∀ (i : Nat) (h : i < ids.length), w.cell? ⟨b, i, none⟩ = some (pt (A ids[i])))

/-- A value. -/
def ValP (w : World) (X : Nat → Prop) (mb : Nat) (A : Nat → Nat) (n : Nat) (q : Nat) (v : Val) : Prop :=
  I64 v.op ∧ I64 v.n ∧ ¬ MutX X mb A n q ∧ ∃ a cap, w.heap[q]? = some (.cells #[.int .i64 v.op, .int .i64 v.n, .slice a v.parts.length cap] 105 (0, 0)) ∧ PRow w X mb A n a v.parts cap

/-- What a part waits for. -/
def RunP (w : World) (X : Nat → Prop) (B mb : Nat) (A : Nat → Nat) (n : Nat) (r : Run) (x : Value) : Prop :=
  if r.isLoop then ∃ vq, x = .func (.func 78) #[.agg #[pt mb, pt vq]] #[] ∧ ValP w X mb A n vq r.rec_
  else ∃ b off, x = .func (.func 60) #[.agg #[pt mb, .pointer (some ⟨b, off, none⟩)]] #[] ∧ TmP w B b off r.t

/-- A part that waits. -/
def WaitP (w : World) (X : Nat → Prop) (B mb : Nat) (A : Nat → Nat) (n : Nat) (q : Nat) (th : Th) : Prop :=
  ∃ a cap x, w.heap[q]? = some (.cells #[.int .i64 (th.binders : Nat), .slice a th.scope.length cap, x, .pointer none] 103 (0, 0)) ∧ PRow w X mb A n a th.scope cap ∧ RunP w X B mb A n th.run x
/-- A part that is done. -/
def DoneP (w : World) (X : Nat → Prop) (mb : Nat) (A : Nat → Nat) (n : Nat) (q : Nat) (th : Th) (v : Val) : Prop :=
  ∃ vq, w.heap[q]? = some (.cells #[.int .i64 (th.binders : Nat), .slice none 0 0, .nilFunc, pt vq] 103 (0, 0)) ∧ ValP w X mb A n vq v
def PartP (w : World) (X : Nat → Prop) (B mb : Nat) (A : Nat → Nat) (n : Nat) (q : Nat) (th : Th) : Prop :=
  th.binders ≤ 2 ∧ (th.got = none → WaitP w X B mb A n q th) ∧ ∀ v, th.got = some v → DoneP w X mb A n q th v

/-- The rules. -/
def ruleFn (mb : Nat) (op : Int) : Value :=
  if op = 5 then .func (.func 54) #[pt mb] #[]
  else if op = 13 then .func (.func 55) #[pt mb] #[]
  else if op = 8 then .func (.func 56) #[.agg #[pt mb, .int .i64 7, .int .i64 3, .int .i64 1]] #[]
  else if op = 9 then .func (.func 56) #[.agg #[pt mb, .int .i64 7, .int .i64 3, .int .i64 2]] #[]
  else if op = 30 then .func (.func 56) #[.agg #[pt mb, .int .i64 19, .int .i64 1, .int .i64 0]] #[]
  else if op = 19 then .func (.func 56) #[.agg #[pt mb, .int .i64 30, .int .i64 1, .int .i64 0]] #[]
  else .nilFunc

def MachP (w : World) (mb : Nat) (fuel nested err : Int) : Prop :=
  ∃ cs : Array Value, w.heap[mb]? = some (.cells cs 74 (0, 0)) ∧ cs.size = 65 ∧ (∀ op : Nat, op ≤ 30 → cs[op * 2]? = some (.int .i64 (ruleKids op : Nat)) ∧ cs[op * 2 + 1]? = some (ruleFn mb op)) ∧
    cs[62]? = some (.int .i64 fuel) ∧ cs[63]? = some (.int .i64 nested) ∧ cs[64]? = some (.int .i64 err)

structure Inv (w : World) (X : Nat → Prop) (B mb : Nat) (A : Nat → Nat) (s : St) : Prop where
  mach : MachP w mb s.fuel s.nested s.err
  part : ∀ i, i < s.size → ∃ th, s.get i = some th ∧ PartP w X B mb A s.size (A i) th
  inj : ∀ i j, i < s.size → j < s.size → A i = A j → i = j
  lo : ∀ i, i < s.size → B ≤ A i ∧ A i < w.heap.size ∧ A i ≠ mb
  hmb : B ≤ mb ∧ mb < w.heap.size
  tb : Tb w
  hB : 1 ≤ B
  xs : ∀ q, X q → B ≤ q ∧ q < w.heap.size ∧ q ≠ mb ∧ ∀ i, i < s.size → A i ≠ q
  fuel : s.err = 0 → 0 ≤ s.fuel ∧ s.fuel ≤ 16777216

/-- From one state to a later one. -/
structure Stp (w : World) (X : Nat → Prop) (B mb : Nat) (A : Nat → Nat) (s : St) (w' : World) (A' : Nat → Nat) (s' : St) : Prop where
  inv : Inv w' X B mb A' s'
  size : s.size ≤ s'.size
  same : ∀ i, i < s.size → A' i = A i
  fr : Fr (Mut mb A s.size) w w'
  new : ∀ i, s.size ≤ i → i < s'.size → w.heap.size ≤ A' i

/-- How what is not written stays. -/
structure Keeps (w : World) (X : Nat → Prop) (B mb : Nat) (A : Nat → Nat) (n : Nat) (w' : World) (X' : Nat → Prop) (A' : Nat → Nat) (n' : Nat) : Prop where
  size : n ≤ n'
  same : ∀ i, i < n → A' i = A i
  fr : Fr (MutX X mb A n) w w'
  new : ∀ i, n ≤ i → i < n' → w.heap.size ≤ A' i
  xk : ∀ q, q < w.heap.size → X' q → X q
  lo : B ≤ mb ∧ (∀ i, i < n → B ≤ A i) ∧ (∀ q, X q → B ≤ q) ∧ B ≤ w.heap.size

theorem Keeps.mut {w w' : World} {X X' : Nat → Prop} {B mb n n' : Nat} {A A' : Nat → Nat} (k : Keeps w X B mb A n w' X' A' n') {q : Nat} (hq : q < w.heap.size) (h : ¬ MutX X mb A n q) : ¬ MutX X' mb A' n' q := by
  rintro ((h1 | ⟨i, hi, h1⟩) | h1)
  · exact h (Or.inl (Or.inl h1))
  · by_cases hn : i < n
    · exact h (Or.inl (Or.inr ⟨i, hn, by rw [← h1, k.same i hn]⟩))
    · have := k.new i (by omega) hi
      omega
  · exact h (Or.inr (k.xk q hq h1))
theorem Keeps.low {w w' : World} {X X' : Nat → Prop} {B mb n n' : Nat} {A A' : Nat → Nat} (k : Keeps w X B mb A n w' X' A' n') : ∀ q, q < B → w'.heap[q]? = w.heap[q]? := fun q hq => k.fr.block q (by have := k.lo.2.2.2; omega) (by
  rintro ((h1 | ⟨i, hi, h1⟩) | h1)
  · have := k.lo.1; omega
  · have := k.lo.2.1 i hi; omega
  · have := k.lo.2.2.1 q h1; omega)
theorem TmP.keep {w w' : World} {B b off : Nat} {t : Tr} (h : TmP w B b off t) (hb : ∀ q, q < B → w'.heap[q]? = w.heap[q]?) : TmP w' B b off t := by
  obtain ⟨f, a, cap, h1, h0, h2, h3, h4, h5⟩ := h
  have hc : ∀ o, w'.cell? ⟨b, o, none⟩ = w.cell? ⟨b, o, none⟩ := fun o => World.cell?_of_block (w := w) (hb b h1)
  exact ⟨f, a, cap, h1, h0, (hc _).trans h2, (hc _).trans h3, (hc _).trans h4, h5.keep hb (fun _ h => h) f _ _⟩
theorem PRow.keep {w w' : World} {X X' : Nat → Prop} {B mb n n' cap : Nat} {A A' : Nat → Nat} {a : Option Addr} {ids : List Nat} (h : PRow w X mb A n a ids cap) (k : Keeps w X B mb A n w' X' A' n') : PRow w' X' mb A' n' a ids cap := by
  obtain ⟨h1, h2, h3, h4⟩ := h
  refine ⟨h1, h2, fun i hi => Nat.lt_of_lt_of_le (h3 i hi) k.size, fun hne => ?_⟩
  obtain ⟨b, rfl, hb, hm, hc⟩ := h4 hne
  refine ⟨b, rfl, Nat.lt_of_lt_of_le hb k.fr.size, k.mut hb hm, fun i hi => ?_⟩
  rw [k.fr.cell hb hm, hc i hi, k.same _ (h3 _ (List.getElem_mem hi))]
theorem ValP.keep {w w' : World} {X X' : Nat → Prop} {B mb n n' q : Nat} {A A' : Nat → Nat} {v : Val} (h : ValP w X mb A n q v) (k : Keeps w X B mb A n w' X' A' n') : ValP w' X' mb A' n' q v := by
  obtain ⟨h1, h2, h3, a, cap, h4, h5⟩ := h
  have hq := size_of_block h4
  exact ⟨h1, h2, k.mut hq h3, a, cap, (k.fr.block q hq h3).trans h4, h5.keep k⟩
theorem RunP.keep {w w' : World} {X X' : Nat → Prop} {B mb n n' : Nat} {A A' : Nat → Nat} {r : Run} {x : Value} (h : RunP w X B mb A n r x) (k : Keeps w X B mb A n w' X' A' n') : RunP w' X' B mb A' n' r x := by
  unfold RunP at *
  split at h
  · rename_i hr
    rw [if_pos hr]
    obtain ⟨vq, e, hv⟩ := h
    exact ⟨vq, e, hv.keep k⟩
  · rename_i hr
    rw [if_neg hr]
    obtain ⟨b, off, e, ht⟩ := h
    exact ⟨b, off, e, ht.keep k.low⟩
/-- A part whose own block is as it was. -/
theorem PartP.keep {w w' : World} {X X' : Nat → Prop} {B mb n n' q : Nat} {A A' : Nat → Nat} {th : Th} (h : PartP w X B mb A n q th) (k : Keeps w X B mb A n w' X' A' n') (hq : w'.heap[q]? = w.heap[q]?) : PartP w' X' B mb A' n' q th := by
  obtain ⟨h0, h1, h2⟩ := h
  refine ⟨h0, fun hg => ?_, fun v hg => ?_⟩
  · obtain ⟨a, cap, x, e, hr, hx⟩ := h1 hg
    exact ⟨a, cap, x, hq.trans e, hr.keep k, hx.keep k⟩
  · obtain ⟨vq, e, hv⟩ := h2 v hg
    exact ⟨vq, hq.trans e, hv.keep k⟩
theorem Inv.los {w : World} {X : Nat → Prop} {B mb : Nat} {A : Nat → Nat} {s : St} (i : Inv w X B mb A s) : B ≤ mb ∧ (∀ j, j < s.size → B ≤ A j) ∧ (∀ q, X q → B ≤ q) ∧ B ≤ w.heap.size := ⟨i.hmb.1, fun j hj => (i.lo j hj).1, fun q hq => (i.xs q hq).1, by have := i.hmb; omega⟩
theorem Stp.keeps {w w' : World} {X : Nat → Prop} {B mb : Nat} {A A' : Nat → Nat} {s s' : St} (i : Inv w X B mb A s) (h : Stp w X B mb A s w' A' s') : Keeps w X B mb A s.size w' X A' s'.size :=
  ⟨h.size, h.same, h.fr.mono (fun _ h => Or.inl h), h.new, fun _ _ h => h, i.los⟩
theorem Stp.refl {w : World} {X : Nat → Prop} {B mb : Nat} {A : Nat → Nat} {s : St} (i : Inv w X B mb A s) : Stp w X B mb A s w A s := ⟨i, Nat.le_refl _, fun _ _ => rfl, Fr.refl _ _, fun i h1 h2 => by omega⟩
theorem Stp.trans {w w1 w2 : World} {X : Nat → Prop} {B mb : Nat} {A A1 A2 : Nat → Nat} {s s1 s2 : St} (h : Stp w X B mb A s w1 A1 s1) (g : Stp w1 X B mb A1 s1 w2 A2 s2) : Stp w X B mb A s w2 A2 s2 := by
  refine ⟨g.inv, Nat.le_trans h.size g.size, fun j hj => (g.same j (Nat.lt_of_lt_of_le hj h.size)).trans (h.same j hj), ?_, fun j h1 h2 => ?_⟩
  · refine ⟨g.fr.os.trans h.fr.os, g.fr.tape.trans h.fr.tape, g.fr.output.trans h.fr.output, Nat.le_trans h.fr.size g.fr.size, fun q hq hm => ?_⟩
    refine (g.fr.block q (Nat.lt_of_lt_of_le hq h.fr.size) ?_).trans (h.fr.block q hq hm)
    rintro (h1 | ⟨i, hi, h1⟩)
    · exact hm (Or.inl h1)
    · by_cases hn : i < s.size
      · exact hm (Or.inr ⟨i, hn, by rw [← h1, h.same i hn]⟩)
      · have := h.new i (by omega) hi
        omega
  · by_cases hj : j < s1.size
    · rw [g.same j hj]; exact h.new j h1 hj
    · exact Nat.le_trans h.fr.size (g.new j (by omega) h2)

/-- The parts, the table, as memory goes on; the machine is told. -/
theorem Inv.keep {w w' : World} {X X' : Nat → Prop} {B mb : Nat} {A : Nat → Nat} {s s' : St} (i : Inv w X B mb A s) (k : Keeps w X B mb A s.size w' X' A s.size) (hp : ∀ j, j < s.size → w'.heap[A j]? = w.heap[A j]?) (hm : MachP w' mb s'.fuel s'.nested s'.err) (hst : s'.sto = s.sto) (hsz : s'.size = s.size)
    (hfu : s'.err = 0 → 0 ≤ s'.fuel ∧ s'.fuel ≤ 16777216) (hx : ∀ q, X' q → B ≤ q ∧ q < w'.heap.size ∧ q ≠ mb ∧ ∀ j, j < s.size → A j ≠ q) : Inv w' X' B mb A s' := by
  refine ⟨hm, fun j hj => ?_, fun a b ha hb => i.inj a b (by omega) (by omega), fun j hj => ?_, ⟨i.hmb.1, Nat.lt_of_lt_of_le i.hmb.2 k.fr.size⟩, ?_, i.hB, fun q hq => ?_, hfu⟩
  · obtain ⟨th, h1, h2⟩ := i.part j (by omega)
    rw [hsz]
    exact ⟨th, by unfold St.get at *; rw [hst]; exact h1, h2.keep k (hp j (by omega))⟩
  · have hl := i.lo j (by omega)
    exact ⟨hl.1, Nat.lt_of_lt_of_le hl.2.1 k.fr.size, hl.2.2⟩
  · exact ⟨Nat.le_trans i.tb.size k.fr.size, fun op k' h1 h2 => (World.cell?_of_block (w := w) (k.low 0 (by have := i.hB; omega))).trans (i.tb.bnd op k' h1 h2)⟩
  · rw [hsz]; exact hx q hq

/-- Only the machine's own numbers are others. -/
theorem Stp.mach {w w' : World} {X : Nat → Prop} {B mb : Nat} {A : Nat → Nat} {s s' : St} (i : Inv w X B mb A s) (hf : Fr (fun q => q = mb) w w') (hm : MachP w' mb s'.fuel s'.nested s'.err) (hst : s'.sto = s.sto) (hsz : s'.size = s.size) (hfu : s'.err = 0 → 0 ≤ s'.fuel ∧ s'.fuel ≤ 16777216) : Stp w X B mb A s w' A s' := by
  have k : Keeps w X B mb A s.size w' X A s.size := ⟨Nat.le_refl _, fun _ _ => rfl, hf.mono (fun q h => Or.inl (Or.inl h)), fun j h1 h2 => by omega, fun _ _ h => h, i.los⟩
  refine ⟨i.keep k (fun j hj => hf.block _ (i.lo j hj).2.1 (i.lo j hj).2.2) hm hst hsz hfu (fun q hq => ?_), by omega, fun _ _ => rfl, hf.mono (fun q h => Or.inl h), fun j h1 h2 => by omega⟩
  have := i.xs q hq
  exact ⟨this.1, Nat.lt_of_lt_of_le this.2.1 hf.size, this.2.2⟩
/-- Memory that is only new, some of it one's own. -/
theorem Inv.wide {w w' : World} {X Y : Nat → Prop} {B mb : Nat} {A : Nat → Nat} {s : St} (i : Inv w X B mb A s) (hb : Below w.heap.size w w') (hY : ∀ q, Y q → X q ∨ (w.heap.size ≤ q ∧ q < w'.heap.size)) : Keeps w X B mb A s.size w' Y A s.size ∧ Inv w' Y B mb A s := by
  have k : Keeps w X B mb A s.size w' Y A s.size := ⟨Nat.le_refl _, fun _ _ => rfl, Fr.of_below hb, fun j h1 h2 => by omega, fun q hq h => by rcases hY q h with h | h; exact h; omega, i.los⟩
  refine ⟨k, i.keep k (fun j hj => hb.block _ (i.lo j hj).2.1) (by obtain ⟨cs, h1, h2⟩ := i.mach; exact ⟨cs, (hb.block _ i.hmb.2).trans h1, h2⟩) rfl rfl i.fuel (fun q hq => ?_)⟩
  rcases hY q hq with h | h
  · have := i.xs q h
    exact ⟨this.1, Nat.lt_of_lt_of_le this.2.1 hb.size, this.2.2⟩
  · have := i.hmb
    refine ⟨by omega, h.2, by omega, fun j hj => ?_⟩
    have := (i.lo j hj).2.1
    omega
/-- One's own memory is written. -/
theorem Inv.poke {w w' : World} {X : Nat → Prop} {B mb : Nat} {A : Nat → Nat} {s : St} (i : Inv w X B mb A s) (hf : Fr X w w') : Keeps w X B mb A s.size w' X A s.size ∧ Inv w' X B mb A s := by
  have k : Keeps w X B mb A s.size w' X A s.size := ⟨Nat.le_refl _, fun _ _ => rfl, hf.mono (fun q h => Or.inr h), fun j h1 h2 => by omega, fun _ _ h => h, i.los⟩
  refine ⟨k, i.keep k (fun j hj => hf.block _ (i.lo j hj).2.1 (fun h => (i.xs _ h).2.2.2 j hj rfl)) (by obtain ⟨cs, h1, h2⟩ := i.mach; exact ⟨cs, (hf.block _ i.hmb.2 (fun h => (i.xs _ h).2.2.1 rfl)).trans h1, h2⟩) rfl rfl i.fuel (fun q hq => ?_)⟩
  have := i.xs q hq
  exact ⟨this.1, Nat.lt_of_lt_of_le this.2.1 hf.size, this.2.2⟩
theorem Stp.more {w w' : World} {X : Nat → Prop} {B mb : Nat} {A : Nat → Nat} {s : St} (i : Inv w X B mb A s) (hb : Below w.heap.size w w') : Stp w X B mb A s w' A s :=
  Stp.mach i (Fr.of_below hb) (by obtain ⟨cs, h1, h2⟩ := i.mach; exact ⟨cs, (hb.block _ i.hmb.2).trans h1, h2⟩) rfl rfl i.fuel

/-- One part more. -/
theorem Stp.push {w w' : World} {X : Nat → Prop} {B mb q : Nat} {A : Nat → Nat} {s : St} {th : Th} (i : Inv w X B mb A s) (hb : Below w.heap.size w w') (hq1 : w.heap.size ≤ q) (hq2 : q < w'.heap.size)
    (hp : ∀ A', (∀ j, j < s.size → A' j = A j) → A' s.size = q → Keeps w X B mb A s.size w' X A' (s.size + 1) → PartP w' X B mb A' (s.size + 1) q th) :
    ∃ A', Stp w X B mb A s w' A' (s.push th).2 ∧ A' s.size = q := by
  refine ⟨fun j => if j = s.size then q else A j, ?_, by simp⟩
  have hs : ∀ j, j < s.size → (fun j => if j = s.size then q else A j) j = A j := fun j hj => by simp only; rw [if_neg (by omega)]
  have k : Keeps w X B mb A s.size w' X (fun j => if j = s.size then q else A j) (s.size + 1) :=
    ⟨by omega, hs, Fr.of_below hb, fun j h1 h2 => by show w.heap.size ≤ (if j = s.size then q else A j); rw [if_pos (by omega)]; exact hq1, fun _ _ h => h, i.los⟩
  have hbs := hb.size
  have hl : ∀ j, j < s.size + 1 → B ≤ (if j = s.size then q else A j) ∧ (if j = s.size then q else A j) < w'.heap.size ∧ (if j = s.size then q else A j) ≠ mb := fun j hj => by
    have := i.hmb
    by_cases hj' : j = s.size
    · rw [if_pos hj']; omega
    · rw [if_neg hj']
      have := i.lo j (by omega)
      omega
  refine ⟨⟨?_, fun j hj => ?_, fun a b ha hb' => ?_, hl, ⟨i.hmb.1, by have := i.hmb.2; omega⟩, i.tb.later hb, i.hB, fun r hr => ?_, i.fuel⟩, by show s.size ≤ s.size + 1; omega, hs, Fr.of_below hb, k.new⟩
  · obtain ⟨cs, h1, h2⟩ := i.mach
    exact ⟨cs, (hb.block _ i.hmb.2).trans h1, h2⟩
  · have hj' : j < s.size + 1 := hj
    rw [St.get_push]
    by_cases he : s.size = j
    · subst he
      exact ⟨th, if_pos rfl, by simp only [if_true]; exact hp _ hs (by simp) k⟩
    · rw [if_neg he]
      obtain ⟨th', h1, h2⟩ := i.part j (by omega)
      refine ⟨th', h1, ?_⟩
      have e : (if j = s.size then q else A j) = A j := if_neg (fun e => he e.symm)
      show PartP w' X B mb _ (s.size + 1) (if j = s.size then q else A j) th'
      rw [e]
      exact h2.keep k (hb.block _ (i.lo j (by omega)).2.1)
  · have ha' : a < s.size + 1 := ha
    have hb'' : b < s.size + 1 := hb'
    show (if a = s.size then q else A a) = (if b = s.size then q else A b) → a = b
    by_cases h1 : a = s.size
    · by_cases h2 : b = s.size
      · intro _; omega
      · rw [if_pos h1, if_neg h2]
        have := (i.lo b (by omega)).2.1
        intro h; omega
    · by_cases h2 : b = s.size
      · rw [if_neg h1, if_pos h2]
        have := (i.lo a (by omega)).2.1
        intro h; omega
      · rw [if_neg h1, if_neg h2]
        exact i.inj a b (by omega) (by omega)
  · have := i.xs r hr
    refine ⟨this.1, by omega, this.2.2.1, fun j hj => ?_⟩
    have hj' : j < s.size + 1 := hj
    show (if j = s.size then q else A j) ≠ r
    by_cases h1 : j = s.size
    · rw [if_pos h1]; omega
    · rw [if_neg h1]; exact this.2.2.2 j (by omega)

/-- A part that waited is done. -/
theorem Stp.put {w w' : World} {X : Nat → Prop} {B mb p : Nat} {A : Nat → Nat} {s : St} {th : Th} (i : Inv w X B mb A s) (hp : p < s.size) (hf : Fr (fun q => q = A p) w w') (hd : Keeps w X B mb A s.size w' X A s.size → PartP w' X B mb A s.size (A p) th) :
    Stp w X B mb A s w' A (s.put p th) := by
  have hfr : Fr (Mut mb A s.size) w w' := hf.mono (fun q h => Or.inr ⟨p, hp, h.symm⟩)
  have k : Keeps w X B mb A s.size w' X A s.size := ⟨Nat.le_refl _, fun _ _ => rfl, hfr.mono (fun _ h => Or.inl h), fun j h1 h2 => by omega, fun _ _ h => h, i.los⟩
  have hlp := i.lo p hp
  refine ⟨⟨?_, fun j hj => ?_, i.inj, fun j hj => ?_, ⟨i.hmb.1, Nat.lt_of_lt_of_le i.hmb.2 hf.size⟩, ?_, i.hB, fun q hq => ?_, i.fuel⟩, Nat.le_refl _, fun _ _ => rfl, hfr, fun j h1 h2 => absurd h2 (Nat.not_lt.2 h1)⟩
  · obtain ⟨cs, h1, h2⟩ := i.mach
    exact ⟨cs, (hf.block _ i.hmb.2 (fun e => hlp.2.2 e.symm)).trans h1, h2⟩
  · rw [St.get_put]
    by_cases he : p = j
    · subst he
      exact ⟨th, if_pos rfl, hd k⟩
    · rw [if_neg he]
      obtain ⟨th', h1, h2⟩ := i.part j hj
      exact ⟨th', h1, h2.keep k (hf.block _ (i.lo j hj).2.1 (fun e => he (i.inj p j hp hj e.symm)))⟩
  · have := i.lo j hj
    exact ⟨this.1, Nat.lt_of_lt_of_le this.2.1 hf.size, this.2.2⟩
  · exact ⟨Nat.le_trans i.tb.size hf.size, fun op k' h1 h2 => (hf.cell (by have := i.tb.size; omega) (by have := i.hB; omega)).trans (i.tb.bnd op k' h1 h2)⟩
  · have := i.xs q hq
    exact ⟨this.1, Nat.lt_of_lt_of_le this.2.1 hf.size, this.2.2⟩
#print axioms Stp.put
end Go.Proofs.YtjiecahopdaghabDoor
