/- A region that draws its order and only adds to memory, but for its last operation, which waits for all others. -/
import Derived.Test.YtafafeplciidhaaRv
namespace Go.Proofs.Ytafafeplciidhaa
open Go.RowKit

/-- What an operation waits for. -/
def depsOf (ops : Array Oper) (i : Nat) : List Nat := ((ops[i]?).map fun o => (o.after.toList.filter (fun e => Region.binds .any e)).map (·.on)).getD []

/-- Each operation but the last is waited for by a later one. -/
def waitedB (ops : Array Oper) (n : Nat) : Bool := (List.range n).all fun k => (List.range (n + 1)).any fun j => decide (k < j) && (depsOf ops j).contains k

/-- What has run is closed. -/
def Closed (ops : Array Oper) (L : Nat → Bool) : Prop := ∀ j k, L j = true → k ∈ depsOf ops j → L k = true

theorem all_run {ops : Array Oper} {n : Nat} (hw : waitedB ops n = true) {L : Nat → Bool} (hc : Closed ops L) (hn : ∀ k, k ∈ depsOf ops n → L k = true) : ∀ k, k < n → L k = true := by
  have key : ∀ m k, n ≤ k + m → k < n → L k = true := by
    intro m
    induction m with
    | zero => intro k h1 h2; omega
    | succ m ih =>
      intro k _ h2
      have h3 := (List.all_eq_true.1 hw) k (List.mem_range.2 h2)
      obtain ⟨j, hj, h4⟩ := List.any_eq_true.1 h3
      simp only [Bool.and_eq_true, decide_eq_true_eq, List.contains_iff_mem] at h4
      have hjr := List.mem_range.1 hj
      by_cases hjn : j = n
      · subst hjn; exact hn k h4.2
      · exact hc j k (ih j (by omega) (by omega)) h4.2
  exact fun k hk => key n k (by omega) hk

theorem wp_region_last {P : Program} {id : Nat} {ops : Array Oper} {Q : Exit → Act → World → Prop} {w0 : World} (hm : P.follows .mixedOrders = true) (hback : backB ops = true) (n : Nat) (hn : ops.size = n + 1) (hwt : waitedB ops n = true) (mk : (Nat → Value) → Act) (vs0 : Nat → Value)
    (F : Nat → Value → World → Prop) (stable : ∀ k v w w', F k v w → Below w.heap.size w w' → F k v w') (R : (Nat → Value) → World → Prop)
    (step : AllOps (fun i o => (i ≠ n → ∀ (vs : Nat → Value) (w : World) (K : Act → World → Prop), Below w0.heap.size w0 w → (∀ e ∈ o.after, Region.binds .any e = true → F e.on (vs e.on) w) →
      (∀ v w', Below w.heap.size w w' → F i v w' → K (mk (put vs i v)) w') → (if Region.wanted o (yielded ops (mk vs).tmps) = true then Oper.wp P o (mk vs) w K Q else K ((mk vs).put o.dst undef) w)) ∧
      (i = n → ∀ (vs : Nat → Value) (w : World) (K : Act → World → Prop), Below w0.heap.size w0 w → (∀ k, k < n → F k (vs k) w) → (∀ vs' w', R vs' w' → K (mk vs') w') →
        (if Region.wanted o (yielded ops (mk vs).tmps) = true then Oper.wp P o (mk vs) w K Q else K ((mk vs).put o.dst undef) w))) 0 ops.toList)
    (fin : ∀ vs w, R vs w → Q .normal (mk vs) w) : (Code.region id ops true).wp P Q (mk vs0) w0 := by
  refine wp_region_inv hm hback (fun L a w => ∃ vs, a = mk vs ∧ Closed ops L ∧ ((L n = false ∧ Below w0.heap.size w0 w ∧ ∀ k, L k = true → F k (vs k) w) ∨ ((∀ k, k ≤ n → L k = true) ∧ R vs w)))
    ⟨vs0, rfl, (fun j k h => by cases h), Or.inl ⟨rfl, (Below.refl _ _).drew, (fun k h => by cases h)⟩⟩ ?_ ?_
  · have hops : ∀ (i : Nat) (o : Oper), ops.toList[i]? = some o → depsOf ops i = (o.after.toList.filter (fun e => Region.binds .any e)).map (·.on) := by
      intro i o h
      rw [Array.getElem?_toList] at h
      simp [depsOf, h]
    have hlen : ops.toList.length = n + 1 := by simp [hn]
    have key : ∀ (l : List Oper) (m : Nat), (∀ i o, l[i]? = some o → ops.toList[m + i]? = some o) → AllOps (fun i o => (i ≠ n → ∀ (vs : Nat → Value) (w : World) (K : Act → World → Prop), Below w0.heap.size w0 w → (∀ e ∈ o.after, Region.binds .any e = true → F e.on (vs e.on) w) →
      (∀ v w', Below w.heap.size w w' → F i v w' → K (mk (put vs i v)) w') → (if Region.wanted o (yielded ops (mk vs).tmps) = true then Oper.wp P o (mk vs) w K Q else K ((mk vs).put o.dst undef) w)) ∧
      (i = n → ∀ (vs : Nat → Value) (w : World) (K : Act → World → Prop), Below w0.heap.size w0 w → (∀ k, k < n → F k (vs k) w) → (∀ vs' w', R vs' w' → K (mk vs') w') →
        (if Region.wanted o (yielded ops (mk vs).tmps) = true then Oper.wp P o (mk vs) w K Q else K ((mk vs).put o.dst undef) w))) m l →
      AllOps (fun i o => ∀ (L : Nat → Bool) (a : Act) (w : World) (K : Act → World → Prop), L i = false → (∀ e ∈ o.after, Region.binds .any e = true → L e.on = true) →
        (∃ vs, a = mk vs ∧ Closed ops L ∧ ((L n = false ∧ Below w0.heap.size w0 w ∧ ∀ k, L k = true → F k (vs k) w) ∨ ((∀ k, k ≤ n → L k = true) ∧ R vs w))) →
        (∀ a' w', (∃ vs, a' = mk vs ∧ Closed ops (upd L i) ∧ ((upd L i n = false ∧ Below w0.heap.size w0 w' ∧ ∀ k, upd L i k = true → F k (vs k) w') ∨ ((∀ k, k ≤ n → upd L i k = true) ∧ R vs w'))) → K a' w') →
        (if Region.wanted o (yielded ops a.tmps) = true then Oper.wp P o a w K Q else K (a.put o.dst undef) w)) m l := by
      intro l
      induction l with
      | nil => intro m _ _; trivial
      | cons o r ih =>
        intro m hat hst
        have hat0 : ops.toList[m]? = some o := hat 0 o rfl
        refine ⟨?_, ih (m + 1) (fun i o' h => by rw [show m + 1 + i = m + (i + 1) by omega]; exact hat (i + 1) o' h) hst.2⟩
        intro L a w K hl hd hI hK
        have hmn : m ≤ n := by
          have : m < ops.toList.length := (List.getElem?_eq_some_iff.1 hat0).1
          omega
        obtain ⟨vs, rfl, hcl, ⟨hLn, hb, hF⟩ | ⟨hall, _⟩⟩ := hI
        · have hdm : ∀ k, k ∈ depsOf ops m → L k = true := by
            intro k hk
            rw [hops m o hat0] at hk
            obtain ⟨e, he, rfl⟩ := List.mem_map.1 hk
            obtain ⟨he1, he2⟩ := List.mem_filter.1 he
            exact hd e (by simpa using he1) he2
          have hcl' : Closed ops (upd L m) := by
            intro j k hj hk
            unfold upd at hj ⊢
            split
            · rfl
            · by_cases hjm : j = m
              · subst hjm; exact hdm k hk
              · rw [if_neg hjm] at hj; exact hcl j k hj hk
          by_cases hmn' : m = n
          · subst hmn'
            have hrun := all_run hwt hcl hdm
            refine hst.1.2 rfl vs w K hb (fun k hk => hF k (hrun k hk)) ?_
            intro vs' w' hR
            refine hK _ _ ⟨vs', rfl, hcl', Or.inr ⟨fun k hk => ?_, hR⟩⟩
            unfold upd
            split
            · rfl
            · exact hrun k (by omega)
          · refine hst.1.1 hmn' vs w K hb (fun e he h => hF e.on (hd e he h)) ?_
            intro v w' hb' hv
            refine hK _ _ ⟨_, rfl, hcl', Or.inl ⟨?_, hb.trans (hb'.mono hb.size), fun k hk => ?_⟩⟩
            · unfold upd; rw [if_neg (Ne.symm hmn')]; exact hLn
            · unfold put
              split
              · rename_i e; rw [e]; exact hv
              · rename_i e
                refine stable k _ w w' (hF k ?_) hb'
                simpa [upd, e] using hk
        · exfalso
          have := hall m hmn
          rw [hl] at this
          cases this
    exact key ops.toList 0 (fun i o h => by rw [Nat.zero_add]; exact h) step
  · intro L a w hall hI
    obtain ⟨vs, rfl, _, ⟨hLn, _⟩ | ⟨_, hR⟩⟩ := hI
    · have := hall n (by omega)
      rw [hLn] at this
      cases this
    · exact fin vs w hR
#print axioms wp_region_last
end Go.Proofs.Ytafafeplciidhaa
