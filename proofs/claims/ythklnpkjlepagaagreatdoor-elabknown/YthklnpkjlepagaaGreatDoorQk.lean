/- Regions that draw their order: what is read, who waits for whom, the last who wrote. -/
import Derived.Test.YthklnpkjlepagaaGreatDoorQreg
namespace Go.Proofs.YthklnpkjlepagaaGreatDoor.Ab
open Go.RowKit

/-- An operation looks at its operands alone. -/
theorem sop_congr {P : Program} {T : Tabs} {H : Hp} {n : Nat} {fr fr' : Fr} {o : Oper} (h : ∀ x ∈ o.op.operands, evO T fr x = evO T fr' x) : sop P T H n fr o = sop P T H n fr' o := by
  have hm : ∀ {l : List Operand}, (∀ x ∈ l, evO T fr x = evO T fr' x) → l.map (evO T fr) = l.map (evO T fr') := fun hl => List.map_congr_left hl
  unfold sop
  cases ho : o.op with
  | build t ps =>
    simp only [ho, Op.operands] at h ⊢
    have : (ps.toList.map fun p => (p.1, evO T fr p.2)) = (ps.toList.map fun p => (p.1, evO T fr' p.2)) := List.map_congr_left fun p hp => by rw [h p.2 (by simp; exact ⟨p.1, by simpa using hp⟩)]
    rw [this]
  | buildSlice t l ps =>
    simp only [ho, Op.operands] at h ⊢
    have : (ps.toList.map fun p => (p.1, evO T fr p.2)) = (ps.toList.map fun p => (p.1, evO T fr' p.2)) := List.map_congr_left fun p hp => by rw [h p.2 (by simp; exact ⟨p.1, by simpa using hp⟩)]
    rw [this]
  | makeFunc fn first cap =>
    simp only [ho, Op.operands] at h ⊢
    rw [hm (l := first.toList) fun x hx => h x (by simp; exact Or.inl (by simpa using hx)), hm (l := cap.toList) fun x hx => h x (by simp; exact Or.inr (by simpa using hx))]
  | slice t x lo hi mx =>
    simp only [ho, Op.operands] at h ⊢
    cases mx with
    | some m => rfl
    | none =>
      have e1 : evO T fr x = evO T fr' x := h x (by simp)
      have e2 : lo.map (evO T fr) = lo.map (evO T fr') := by
        cases lo with
        | none => rfl
        | some l => simp [h l (by simp)]
      have e3 : hi.map (evO T fr) = hi.map (evO T fr') := by
        cases hi with
        | none => rfl
        | some l => simp [h l (by simp)]
      simp only [e1, e2, e3]
  | call c =>
    simp only [ho, Op.operands, Call.operands] at h ⊢
    cases hc : c.callee with
    | value f => rfl
    | invoke r m => rfl
    | builtin b =>
      simp only [hc] at h
      cases b <;> simp only
      case len =>
        split
        · rename_i t ts x hat har
          rw [h x (by have : x ∈ c.args.toList := by rw [har]; simp
                      simpa using this)]
        · rfl
      case append =>
        split
        · rename_i t tx s x hat har
          rw [h x (by have : x ∈ c.args.toList := by rw [har]; simp
                      simpa using this), h s (by have : s ∈ c.args.toList := by rw [har]; simp
                                                 simpa using this)]
        · rfl
      case copy =>
        split
        · rename_i t tx d x hat har
          rw [h x (by have : x ∈ c.args.toList := by rw [har]; simp
                      simpa using this), h d (by have : d ∈ c.args.toList := by rw [har]; simp
                                                 simpa using this)]
        · rfl
      case max =>
        rw [hm (l := c.args.toList) fun x hx => h x (by simpa using hx)]
      case min =>
        rw [hm (l := c.args.toList) fun x hx => h x (by simpa using hx)]
  | makeMap t r => cases r <;> rfl
  | _ => simp_all [Op.operands]

theorem callee_congr {T : Tabs} {fr fr' : Fr} {o : Oper} (h : ∀ x ∈ o.op.operands, evO T fr x = evO T fr' x) : calleeOf T fr o = calleeOf T fr' o := by
  unfold calleeOf
  cases ho : o.op <;> simp only
  rename_i c
  simp only [ho, Op.operands, Call.operands] at h
  cases hc : c.callee with
  | value f =>
    simp only [hc] at h ⊢
    rw [h f (by simp), show c.args.toList.map (evO T fr) = c.args.toList.map (evO T fr') from List.map_congr_left fun x hx => h x (by simp; exact Or.inr (by simpa using hx))]
  | invoke r m => rfl
  | builtin b => rfl

theorem opA_congr {P : Program} {T : Tabs} {call : CallA} {loc : Nat} {H : Hp} {n : Nat} {fr fr' : Fr} {o : Oper} (h : ∀ x ∈ o.op.operands, evO T fr x = evO T fr' x) : opA P T call loc H n fr o = opA P T call loc H n fr' o := by
  unfold opA
  rw [callee_congr h, sop_congr h]

/-- The temporaries that are read. -/
def reads (ops : Array Oper) (o : Oper) : List Nat := (o.op.operands.toList.filterMap fun x => match x with
    | .tmp t => some t
    | _ => none) ++ (match o.guard with
    | none => []
    | some (j, _) => match ops[j]? with
      | some oj => oj.dst.toList
      | none => [])
theorem reads_op {T : Tabs} {ops : Array Oper} {fr fr' : Fr} {o : Oper} (h : ∀ t ∈ reads ops o, fr.get t = fr'.get t) : ∀ x ∈ o.op.operands, evO T fr x = evO T fr' x := by
  intro x hx
  cases x with
  | tmp t =>
    have : t ∈ reads ops o := by
      unfold reads
      refine List.mem_append_left _ (List.mem_filterMap.2 ⟨.tmp t, by simpa using hx, rfl⟩)
    simp only [evO, h t this]
  | _ => rfl
theorem reads_wanted {ops : Array Oper} {fr fr' : Fr} {o : Oper} (h : ∀ t ∈ reads ops o, fr.get t = fr'.get t) : wantedA ops fr o = wantedA ops fr' o := by
  unfold wantedA
  cases hg : o.guard with
  | none => rfl
  | some p =>
    obtain ⟨j, want⟩ := p
    simp only
    cases hj : ops[j]? with
    | none => rfl
    | some oj =>
      simp only
      cases hd : oj.dst with
      | none => rfl
      | some d =>
        simp only
        rw [h d (by
          unfold reads
          refine List.mem_append_right _ ?_
          simp [hg, hj, hd])]

/-- For whom an operation waits, as bits. -/
def bitOf (acc : List Nat) : List Edge → Nat
  | [] => 0
  | e :: es => if Region.binds .any e then (2 ^ e.on ||| acc.getD e.on 0) ||| bitOf acc es else bitOf acc es
def bitsGo : List Nat → List Oper → List Nat
  | acc, [] => acc
  | acc, o :: os => bitsGo (acc ++ [bitOf acc o.after.toList]) os
def bits (ops : Array Oper) : List Nat := bitsGo [] ops.toList

theorem bitOf_ok {acc : List Nat} {j : Nat} : ∀ {es : List Edge}, (bitOf acc es).testBit j = true → ∃ e ∈ es, Region.binds .any e = true ∧ (j = e.on ∨ (acc.getD e.on 0).testBit j = true)
  | [], h => by simp [bitOf] at h
  | e :: es, h => by
    simp only [bitOf] at h
    split at h
    · rename_i hb
      rw [Nat.testBit_or, Nat.testBit_or] at h
      simp only [Bool.or_eq_true] at h
      rcases h with (h | h) | h
      · rw [Nat.testBit_two_pow] at h
        exact ⟨e, List.mem_cons_self .., hb, Or.inl (by simpa using (of_decide_eq_true h).symm)⟩
      · exact ⟨e, List.mem_cons_self .., hb, Or.inr h⟩
      · obtain ⟨e', h1, h2, h3⟩ := bitOf_ok h
        exact ⟨e', List.mem_cons_of_mem _ h1, h2, h3⟩
    · obtain ⟨e', h1, h2, h3⟩ := bitOf_ok h
      exact ⟨e', List.mem_cons_of_mem _ h1, h2, h3⟩

/-- What bits say: who is waited for, at once or by another one. -/
def BitsOk (ops : List Oper) (bs : List Nat) : Prop := ∀ (i : Nat) (o : Oper) (j : Nat), ops[i]? = some o → (bs.getD i 0).testBit j = true → ∃ e ∈ o.after.toList, Region.binds .any e = true ∧ (j = e.on ∨ (bs.getD e.on 0).testBit j = true)
theorem bitsGo_len : ∀ (os : List Oper) (acc : List Nat), (bitsGo acc os).length = acc.length + os.length
  | [], acc => by simp [bitsGo]
  | o :: os, acc => by simp only [bitsGo]; rw [bitsGo_len os]; simp; omega
theorem bitsGo_old : ∀ (os : List Oper) (acc : List Nat) (i : Nat), i < acc.length → (bitsGo acc os).getD i 0 = acc.getD i 0
  | [], _, _, _ => rfl
  | o :: os, acc, i, h => by
    simp only [bitsGo]
    rw [bitsGo_old os _ i (by simp; omega), List.getD_eq_getElem?_getD, List.getD_eq_getElem?_getD, List.getElem?_append_left h]
theorem bitsGo_ok : ∀ (os : List Oper) (pre : List Oper) (acc : List Nat), acc.length = pre.length → (∀ o ∈ os, True) → (∀ (i : Nat) (o : Oper) (j : Nat), pre[i]? = some o → (acc.getD i 0).testBit j = true → ∃ e ∈ o.after.toList, Region.binds .any e = true ∧ e.on < acc.length ∧ (j = e.on ∨ (acc.getD e.on 0).testBit j = true)) →
    (∀ (i : Nat) (o : Oper), os[i]? = some o → ∀ e ∈ o.after.toList, Region.binds .any e = true → e.on < pre.length + i) → BitsOk (pre ++ os) (bitsGo acc os)
  | [], pre, acc, hl, _, hI, _ => by
    intro i o j hi hb
    rw [List.append_nil] at hi
    obtain ⟨e, h1, h2, _, h3⟩ := hI i o j hi hb
    exact ⟨e, h1, h2, h3⟩
  | o :: os, pre, acc, hl, _, hI, hback => by
    have hlast : (acc ++ [bitOf acc o.after.toList]).getD acc.length 0 = bitOf acc o.after.toList := by simp [List.getD_eq_getElem?_getD]
    have hold : ∀ i, i < acc.length → (acc ++ [bitOf acc o.after.toList]).getD i 0 = acc.getD i 0 := fun i hi => by
      rw [List.getD_eq_getElem?_getD, List.getD_eq_getElem?_getD, List.getElem?_append_left hi]
    have := bitsGo_ok os (pre ++ [o]) (acc ++ [bitOf acc o.after.toList]) (by simp [hl]) (fun _ _ => trivial) (fun i o' j hi hb => by
      rcases Nat.lt_or_ge i pre.length with hlt | hge
      · rw [List.getElem?_append_left hlt] at hi
        rw [hold i (by omega)] at hb
        obtain ⟨e, h1, h2, h3, h4⟩ := hI i o' j hi hb
        exact ⟨e, h1, h2, by simp; omega, by rw [hold _ h3]; exact h4⟩
      · have hi2 : i = pre.length := by
          rcases Nat.lt_or_ge pre.length i with h9 | h9
          · rw [List.getElem?_eq_none (by simp; omega)] at hi; cases hi
          · omega
        subst hi2
        rw [List.getElem?_append_right (Nat.le_refl _), Nat.sub_self] at hi
        simp at hi
        subst hi
        rw [← hl, hlast] at hb
        obtain ⟨e, h1, h2, h3⟩ := bitOf_ok hb
        have h4 := hback 0 o rfl e h1 h2
        exact ⟨e, h1, h2, by simp; omega, by rw [hold _ (by omega)]; exact h3⟩) (fun i o' hi e he hb => by
      have := hback (i + 1) o' (by simpa using hi) e he hb
      simp; omega)
    simpa [bitsGo] using this

/-- Everybody waits for earlier ones alone. -/
theorem bits_ok {ops : Array Oper} (hb : ∀ (i : Nat) (o : Oper), ops[i]? = some o → ∀ e ∈ o.after.toList, Region.binds .any e = true → e.on < i) : BitsOk ops.toList (bits ops) := by
  have := bitsGo_ok ops.toList [] [] rfl (fun _ _ => trivial) (fun i o j hi _ => by simp at hi) (fun i o hi e he h => by
    have := hb i o (by simpa using hi) e he h
    simpa using this)
  simpa [bits] using this

/-- What one of many has told last: of those that have run. -/
def look {α ε : Type} (f : ε → Option α) (L : Nat → Bool) : List ε → Nat → α → α
  | [], _, d => d
  | e :: E, i, d => look f L E (i + 1) (if L i then (f e).getD d else d)
theorem look_congr {α ε : Type} {f : ε → Option α} {L L' : Nat → Bool} : ∀ {E : List ε} {i : Nat} {d : α}, (∀ (k : Nat) (e : ε), E[k]? = some e → f e ≠ none → L (i + k) = L' (i + k)) → look f L E i d = look f L' E i d
  | [], _, _, _ => rfl
  | e :: E, i, d, h => by
    simp only [look]
    have h1 : (if L i then (f e).getD d else d) = (if L' i then (f e).getD d else d) := by
      cases hf : f e with
      | none => simp
      | some a =>
        have := h 0 e rfl (by rw [hf]; simp)
        simp only [Nat.add_zero] at this
        rw [this]
    rw [h1]
    exact look_congr fun k e' hk hn => by
      have := h (k + 1) e' (by simpa using hk) hn
      rwa [show i + (k + 1) = i + 1 + k by omega] at this
theorem look_none {α ε : Type} {f : ε → Option α} {L : Nat → Bool} : ∀ {E : List ε} {i : Nat} {d : α}, (∀ (k : Nat) (e : ε), E[k]? = some e → L (i + k) = true → f e = none) → look f L E i d = d
  | [], _, _, _ => rfl
  | e :: E, i, d, h => by
    simp only [look]
    have h1 : (if L i then (f e).getD d else d) = d := by
      cases hL : L i with
      | false => simp
      | true => rw [h 0 e rfl hL]; simp
    rw [h1]
    exact look_none fun k e' hk hn => h (k + 1) e' (by simpa using hk) (by rwa [show i + (k + 1) = i + 1 + k by omega])
/-- One more runs, whom nobody overtook. -/
theorem look_upd {α ε : Type} {f : ε → Option α} {L : Nat → Bool} : ∀ {E : List ε} {k i : Nat} {e : ε} {d : α}, E[k]? = some e → (∀ (k' : Nat) (e' : ε), E[k']? = some e' → k < k' → L (i + k') = true → f e' = none) →
    look f (upd L (i + k)) E i d = (f e).getD (look f L E i d)
  | e0 :: E, 0, i, e, d, hk, hlate => by
    simp at hk
    subst hk
    have e1 : ∀ d', look f (upd L (i + 0)) E (i + 1) d' = d' := fun d' => look_none fun k e' hk' hL => by
      refine hlate (k + 1) e' (by simpa using hk') (by omega) ?_
      unfold upd at hL
      rw [if_neg (by omega)] at hL
      rwa [show i + (k + 1) = i + 1 + k by omega]
    have e2 : ∀ d', look f L E (i + 1) d' = d' := fun d' => look_none fun k e' hk' hL => hlate (k + 1) e' (by simpa using hk') (by omega) (by rwa [show i + (k + 1) = i + 1 + k by omega])
    simp only [look, e1, e2]
    have : upd L (i + 0) i = true := by simp [upd]
    rw [this]
    cases f e0 <;> simp
  | e0 :: E, k + 1, i, e, d, hk, hlate => by
    simp only [look]
    have : upd L (i + (k + 1)) i = L i := by unfold upd; rw [if_neg (by omega)]
    rw [this, show i + (k + 1) = i + 1 + k by omega]
    exact look_upd (by simpa using hk) fun k' e' hk' hlt hL => hlate (k' + 1) e' (by simpa using hk') (by omega) (by rwa [show i + (k' + 1) = i + 1 + k' by omega])
  | [], _, _, _, _, hk, _ => by simp at hk
#print axioms look_upd
end Go.Proofs.YthklnpkjlepagaaGreatDoor.Ab
