/- A region that draws its order and only adds to memory, but for one operation that waits for all others but the last, which waits for it. -/
import Derived.Test.YtjiecahopdaghabDoorRv
namespace Go.Proofs.YtjiecahopdaghabDoor
open Go.RowKit

/-- What an operation waits for. -/
def depsOf (ops : Array Oper) (i : Nat) : List Nat := ((ops[i]?).map fun o => (o.after.toList.filter (fun e => Region.binds .any e)).map (·.on)).getD []

/-- Each operation ahead of the n-th is waited for by a later one, up to it; the next one waits for it. -/
def waitedB (ops : Array Oper) (n : Nat) : Bool := ((List.range n).all fun k => (List.range (n + 1)).any fun j => decide (k < j) && (depsOf ops j).contains k) && (depsOf ops (n + 1)).contains n

/-- What has run is closed. -/
def Closed (ops : Array Oper) (L : Nat → Bool) : Prop := ∀ j k, L j = true → k ∈ depsOf ops j → L k = true

theorem all_run {ops : Array Oper} {n : Nat} (hw : waitedB ops n = true) {L : Nat → Bool} (hc : Closed ops L) (hn : ∀ k, k ∈ depsOf ops n → L k = true) : ∀ k, k < n → L k = true := by
  have hw1 := (Bool.and_eq_true_iff.1 hw).1
  have key : ∀ m k, n ≤ k + m → k < n → L k = true := by
    intro m
    induction m with
    | zero => intro k h1 h2; omega
    | succ m ih =>
      intro k _ h2
      have h3 := (List.all_eq_true.1 hw1) k (List.mem_range.2 h2)
      obtain ⟨j, hj, h4⟩ := List.any_eq_true.1 h3
      simp only [Bool.and_eq_true, decide_eq_true_eq, List.contains_iff_mem] at h4
      have hjr := List.mem_range.1 hj
      by_cases hjn : j = n
      · subst hjn; exact hn k h4.2
      · exact hc j k (ih j (by omega) (by omega)) h4.2
  exact fun k hk => key n k (by omega) hk

/-- What is asked of an operation, by its number. -/
def ThenStep (P : Program) (ops : Array Oper) (Q : Exit → Act → World → Prop) (n : Nat) (mk : (Nat → Value) → Act) (w0 : World) (F : Nat → Value → World → Prop) (R1 R2 : (Nat → Value) → World → Prop) (i : Nat) (o : Oper) : Prop :=
  (i < n → ∀ (vs : Nat → Value) (w : World) (K : Act → World → Prop), Below w0.heap.size w0 w → (∀ e ∈ o.after, Region.binds .any e = true → F e.on (vs e.on) w) →
      (∀ v w', Below w.heap.size w w' → F i v w' → K (mk (put vs i v)) w') → (if Region.wanted o (yielded ops (mk vs).tmps) = true then Oper.wp P o (mk vs) w K Q else K ((mk vs).put o.dst undef) w)) ∧
  (i = n → ∀ (vs : Nat → Value) (w : World) (K : Act → World → Prop), Below w0.heap.size w0 w → (∀ k, k < n → F k (vs k) w) → (∀ vs' w', R1 vs' w' → K (mk vs') w') →
        (if Region.wanted o (yielded ops (mk vs).tmps) = true then Oper.wp P o (mk vs) w K Q else K ((mk vs).put o.dst undef) w)) ∧
  (i = n + 1 → ∀ (vs : Nat → Value) (w : World) (K : Act → World → Prop), R1 vs w → (∀ vs' w', R2 vs' w' → K (mk vs') w') →
        (if Region.wanted o (yielded ops (mk vs).tmps) = true then Oper.wp P o (mk vs) w K Q else K ((mk vs).put o.dst undef) w))

theorem ThenStep.early {P : Program} {ops : Array Oper} {Q : Exit → Act → World → Prop} {n : Nat} {mk : (Nat → Value) → Act} {w0 : World} {F : Nat → Value → World → Prop} {R1 R2 : (Nat → Value) → World → Prop} {i : Nat} {o : Oper} (hi : i < n)
    (h : ∀ (vs : Nat → Value) (w : World) (K : Act → World → Prop), Below w0.heap.size w0 w → (∀ e ∈ o.after, Region.binds .any e = true → F e.on (vs e.on) w) →
      (∀ v w', Below w.heap.size w w' → F i v w' → K (mk (put vs i v)) w') → (if Region.wanted o (yielded ops (mk vs).tmps) = true then Oper.wp P o (mk vs) w K Q else K ((mk vs).put o.dst undef) w)) : ThenStep P ops Q n mk w0 F R1 R2 i o :=
  ⟨fun _ => h, fun e => by omega, fun e => by omega⟩
theorem ThenStep.call {P : Program} {ops : Array Oper} {Q : Exit → Act → World → Prop} {n : Nat} {mk : (Nat → Value) → Act} {w0 : World} {F : Nat → Value → World → Prop} {R1 R2 : (Nat → Value) → World → Prop} {o : Oper}
    (h : ∀ (vs : Nat → Value) (w : World) (K : Act → World → Prop), Below w0.heap.size w0 w → (∀ k, k < n → F k (vs k) w) → (∀ vs' w', R1 vs' w' → K (mk vs') w') →
        (if Region.wanted o (yielded ops (mk vs).tmps) = true then Oper.wp P o (mk vs) w K Q else K ((mk vs).put o.dst undef) w)) : ThenStep P ops Q n mk w0 F R1 R2 n o :=
  ⟨fun e => by omega, fun _ => h, fun e => by omega⟩
theorem ThenStep.late {P : Program} {ops : Array Oper} {Q : Exit → Act → World → Prop} {n : Nat} {mk : (Nat → Value) → Act} {w0 : World} {F : Nat → Value → World → Prop} {R1 R2 : (Nat → Value) → World → Prop} {o : Oper}
    (h : ∀ (vs : Nat → Value) (w : World) (K : Act → World → Prop), R1 vs w → (∀ vs' w', R2 vs' w' → K (mk vs') w') →
        (if Region.wanted o (yielded ops (mk vs).tmps) = true then Oper.wp P o (mk vs) w K Q else K ((mk vs).put o.dst undef) w)) : ThenStep P ops Q n mk w0 F R1 R2 (n + 1) o :=
  ⟨fun e => by omega, fun e => by omega, fun _ => h⟩

theorem wp_region_then {P : Program} {id : Nat} {ops : Array Oper} {Q : Exit → Act → World → Prop} {w0 : World} (hm : P.follows .mixedOrders = true) (hback : backB ops = true) (n : Nat) (hn : ops.size = n + 2) (hwt : waitedB ops n = true) (mk : (Nat → Value) → Act) (vs0 : Nat → Value)
    (F : Nat → Value → World → Prop) (stable : ∀ k v w w', F k v w → Below w.heap.size w w' → F k v w') (R1 R2 : (Nat → Value) → World → Prop)
    (step : AllOps (ThenStep P ops Q n mk w0 F R1 R2) 0 ops.toList)
    (fin : ∀ vs w, R2 vs w → Q .normal (mk vs) w) : (Code.region id ops true).wp P Q (mk vs0) w0 := by
  refine wp_region_inv hm hback (fun L a w => ∃ vs, a = mk vs ∧ Closed ops L ∧ ((L n = false ∧ L (n + 1) = false ∧ Below w0.heap.size w0 w ∧ ∀ k, L k = true → F k (vs k) w) ∨ ((∀ k, k ≤ n → L k = true) ∧ L (n + 1) = false ∧ R1 vs w) ∨ ((∀ k, k ≤ n + 1 → L k = true) ∧ R2 vs w)))
    ⟨vs0, rfl, (fun j k h => by cases h), Or.inl ⟨rfl, rfl, (Below.refl _ _).drew, (fun k h => by cases h)⟩⟩ ?_ ?_
  · have hops : ∀ (i : Nat) (o : Oper), ops.toList[i]? = some o → depsOf ops i = (o.after.toList.filter (fun e => Region.binds .any e)).map (·.on) := by
      intro i o h
      rw [Array.getElem?_toList] at h
      simp [depsOf, h]
    have hlen : ops.toList.length = n + 2 := by simp [hn]
    have hnn : n ∈ depsOf ops (n + 1) := by
      have := (Bool.and_eq_true_iff.1 hwt).2
      simpa only [List.contains_iff_mem] using this
    have key : ∀ (l : List Oper) (m : Nat), (∀ i o, l[i]? = some o → ops.toList[m + i]? = some o) → AllOps (ThenStep P ops Q n mk w0 F R1 R2) m l →
      AllOps (fun i o => ∀ (L : Nat → Bool) (a : Act) (w : World) (K : Act → World → Prop), L i = false → (∀ e ∈ o.after, Region.binds .any e = true → L e.on = true) →
        (∃ vs, a = mk vs ∧ Closed ops L ∧ ((L n = false ∧ L (n + 1) = false ∧ Below w0.heap.size w0 w ∧ ∀ k, L k = true → F k (vs k) w) ∨ ((∀ k, k ≤ n → L k = true) ∧ L (n + 1) = false ∧ R1 vs w) ∨ ((∀ k, k ≤ n + 1 → L k = true) ∧ R2 vs w))) →
        (∀ a' w', (∃ vs, a' = mk vs ∧ Closed ops (upd L i) ∧ ((upd L i n = false ∧ upd L i (n + 1) = false ∧ Below w0.heap.size w0 w' ∧ ∀ k, upd L i k = true → F k (vs k) w') ∨ ((∀ k, k ≤ n → upd L i k = true) ∧ upd L i (n + 1) = false ∧ R1 vs w') ∨ ((∀ k, k ≤ n + 1 → upd L i k = true) ∧ R2 vs w'))) → K a' w') →
        (if Region.wanted o (yielded ops a.tmps) = true then Oper.wp P o a w K Q else K (a.put o.dst undef) w)) m l := by
      intro l
      induction l with
      | nil => intro m _ _; trivial
      | cons o r ih =>
        intro m hat hst
        have hat0 : ops.toList[m]? = some o := hat 0 o rfl
        refine ⟨?_, ih (m + 1) (fun i o' h => by rw [show m + 1 + i = m + (i + 1) by omega]; exact hat (i + 1) o' h) hst.2⟩
        intro L a w K hl hd hI hK
        have hmn : m ≤ n + 1 := by
          have : m < ops.toList.length := (List.getElem?_eq_some_iff.1 hat0).1
          omega
        have hdm : ∀ k, k ∈ depsOf ops m → L k = true := by
          intro k hk
          rw [hops m o hat0] at hk
          obtain ⟨e, he, rfl⟩ := List.mem_map.1 hk
          obtain ⟨he1, he2⟩ := List.mem_filter.1 he
          exact hd e (by simpa using he1) he2
        obtain ⟨vs, rfl, hcl, hI⟩ := hI
        have hcl' : Closed ops (upd L m) := by
          intro j k hj hk
          unfold upd at hj ⊢
          split
          · rfl
          · by_cases hjm : j = m
            · subst hjm; exact hdm k hk
            · rw [if_neg hjm] at hj; exact hcl j k hj hk
        rcases hI with ⟨hLn, hLn1, hb, hF⟩ | ⟨hall, hLn1, hR⟩ | ⟨hall, _⟩
        · by_cases hmn' : m = n
          · subst hmn'
            have hrun := all_run hwt hcl hdm
            refine hst.1.2.1 rfl vs w K hb (fun k hk => hF k (hrun k hk)) ?_
            intro vs' w' hR
            refine hK _ _ ⟨vs', rfl, hcl', Or.inr (Or.inl ⟨fun k hk => ?_, ?_, hR⟩)⟩
            · unfold upd
              split
              · rfl
              · exact hrun k (by omega)
            · unfold upd; rw [if_neg (by omega)]; exact hLn1
          · by_cases hm1 : m = n + 1
            · subst hm1
              have := hdm n hnn
              rw [hLn] at this
              cases this
            · refine hst.1.1 (by omega) vs w K hb (fun e he h => hF e.on (hd e he h)) ?_
              intro v w' hb' hv
              refine hK _ _ ⟨_, rfl, hcl', Or.inl ⟨?_, ?_, hb.trans (hb'.mono hb.size), fun k hk => ?_⟩⟩
              · unfold upd; rw [if_neg (Ne.symm hmn')]; exact hLn
              · unfold upd; rw [if_neg (Ne.symm hm1)]; exact hLn1
              · unfold put
                split
                · rename_i e; rw [e]; exact hv
                · rename_i e
                  refine stable k _ w w' (hF k ?_) hb'
                  simpa [upd, e] using hk
        · by_cases hm1 : m = n + 1
          · subst hm1
            refine hst.1.2.2 rfl vs w K hR ?_
            intro vs' w' hR'
            refine hK _ _ ⟨vs', rfl, hcl', Or.inr (Or.inr ⟨fun k hk => ?_, hR'⟩)⟩
            unfold upd
            split
            · rfl
            · exact hall k (by omega)
          · exfalso
            have := hall m (by omega)
            rw [hl] at this
            cases this
        · exfalso
          have := hall m hmn
          rw [hl] at this
          cases this
    exact key ops.toList 0 (fun i o h => by rw [Nat.zero_add]; exact h) step
  · intro L a w hall hI
    obtain ⟨vs, rfl, _, ⟨_, hLn, _⟩ | ⟨_, hLn, _⟩ | ⟨_, hR⟩⟩ := hI
    · have := hall (n + 1) (by omega)
      rw [hLn] at this
      cases this
    · have := hall (n + 1) (by omega)
      rw [hLn] at this
      cases this
    · exact fin vs w hR
#print axioms wp_region_then
end Go.Proofs.YtjiecahopdaghabDoor
