/- Regions that only add to memory, but for their last operation, which waits for all others: drawn ones, and plain ones. -/
import Derived.Test.YtjiecahopdaghabDoorRc
namespace Go.Proofs.YtjiecahopdaghabDoor
open Go.RowKit

/-- What is asked of an operation, by its number: the n-th is the last. -/
def LastStep (P : Program) (ops : Array Oper) (Q : Exit → Act → World → Prop) (n : Nat) (mk : (Nat → Value) → Act) (w0 : World) (F : Nat → Value → World → Prop) (R : (Nat → Value) → World → Prop) (i : Nat) (o : Oper) : Prop :=
  (i < n → ∀ (vs : Nat → Value) (w : World) (K : Act → World → Prop), Below w0.heap.size w0 w → (∀ e ∈ o.after, Region.binds .any e = true → F e.on (vs e.on) w) →
      (∀ v w', Below w.heap.size w w' → F i v w' → K (mk (put vs i v)) w') → (if Region.wanted o (yielded ops (mk vs).tmps) = true then Oper.wp P o (mk vs) w K Q else K ((mk vs).put o.dst undef) w)) ∧
  (i = n → ∀ (vs : Nat → Value) (w : World) (K : Act → World → Prop), Below w0.heap.size w0 w → (∀ k, k < n → F k (vs k) w) → (∀ vs' w', R vs' w' → K (mk vs') w') →
        (if Region.wanted o (yielded ops (mk vs).tmps) = true then Oper.wp P o (mk vs) w K Q else K ((mk vs).put o.dst undef) w))

section
variable {P : Program} {ops : Array Oper} {Q : Exit → Act → World → Prop} {n : Nat} {mk : (Nat → Value) → Act} {w0 : World} {F : Nat → Value → World → Prop} {R : (Nat → Value) → World → Prop} {o : Oper}
theorem LastStep.early {i : Nat} (hi : i < n) (h : ∀ (vs : Nat → Value) (w : World) (K : Act → World → Prop), Below w0.heap.size w0 w → (∀ e ∈ o.after, Region.binds .any e = true → F e.on (vs e.on) w) →
      (∀ v w', Below w.heap.size w w' → F i v w' → K (mk (put vs i v)) w') → (if Region.wanted o (yielded ops (mk vs).tmps) = true then Oper.wp P o (mk vs) w K Q else K ((mk vs).put o.dst undef) w)) : LastStep P ops Q n mk w0 F R i o :=
  ⟨fun _ => h, fun e => by omega⟩
theorem LastStep.last (h : ∀ (vs : Nat → Value) (w : World) (K : Act → World → Prop), Below w0.heap.size w0 w → (∀ k, k < n → F k (vs k) w) → (∀ vs' w', R vs' w' → K (mk vs') w') →
        (if Region.wanted o (yielded ops (mk vs).tmps) = true then Oper.wp P o (mk vs) w K Q else K ((mk vs).put o.dst undef) w)) : LastStep P ops Q n mk w0 F R n o :=
  ⟨fun e => by omega, fun _ => h⟩
end

theorem wp_drawn_last {P : Program} {id : Nat} {ops : Array Oper} {Q : Exit → Act → World → Prop} {w0 : World} (hm : P.follows .mixedOrders = true) (hback : backB2 ops = true) (n : Nat) (hn : ops.size = n + 1) (hwt : waitedL ops n = true) (mk : (Nat → Value) → Act) (vs0 : Nat → Value)
    (F : Nat → Value → World → Prop) (stable : ∀ k v w w', F k v w → Below w.heap.size w w' → F k v w') (R : (Nat → Value) → World → Prop)
    (step : AllOps (LastStep P ops Q n mk w0 F R) 0 ops.toList)
    (fin : ∀ vs w, R vs w → Q .normal (mk vs) w) : (Code.region id ops true).wp P Q (mk vs0) w0 := by
  refine wp_region_inv2 hm hback (fun L a w => ∃ vs, a = mk vs ∧ Closed ops L ∧ ((L n = false ∧ Below w0.heap.size w0 w ∧ ∀ k, L k = true → F k (vs k) w) ∨ ((∀ k, k ≤ n → L k = true) ∧ R vs w)))
    ⟨vs0, rfl, (fun j k h => by cases h), Or.inl ⟨rfl, (Below.refl _ _).drew, (fun k h => by cases h)⟩⟩ ?_ ?_
  · have hops : ∀ (i : Nat) (o : Oper), ops.toList[i]? = some o → depsOf ops i = (o.after.toList.filter (fun e => Region.binds .any e)).map (·.on) := by
      intro i o h
      rw [Array.getElem?_toList] at h
      simp [depsOf, h]
    have hlen : ops.toList.length = n + 1 := by simp [hn]
    have key : ∀ (l : List Oper) (m : Nat), (∀ i o, l[i]? = some o → ops.toList[m + i]? = some o) → AllOps (LastStep P ops Q n mk w0 F R) m l →
      AllOps (fun i o => ∀ (L : Nat → Bool) (a : Act) (w : World) (K : Act → World → Prop), L i = false → (∀ e ∈ o.after, Region.binds .any e = true → L e.on = true) →
        (∃ vs, a = mk vs ∧ Closed ops L ∧ ((L n = false ∧ Below w0.heap.size w0 w ∧ ∀ k, L k = true → F k (vs k) w) ∨ ((∀ k, k ≤ n → L k = true) ∧ R vs w))) →
        (∀ a' w', (∃ vs, a' = mk vs ∧ Closed ops (upd L i) ∧ ((upd L i n = false ∧ Below w0.heap.size w0 w' ∧ ∀ k, upd L i k = true → F k (vs k) w') ∨ ((∀ k, k ≤ n → upd L i k = true) ∧ R vs w'))) → K a' w') →
        (if Region.wanted o (yielded ops a.tmps) = true then Oper.wp P o a w K Q else K (a.put o.dst undef) w)) m l := by
      intro l
      induction l with
      | nil => intro m _ _; trivial
      | cons o r ih =>
        intro m hat hst
        have hat0 : ops.toList[m]? = some o := hat 0 o rfl
        refine ⟨?_, ih (m + 1) (fun i o' h => by rw [show m + 1 + i = m + (i + 1) by omega]; exact hat (i + 1) o' h) hst.2⟩
        intro L a w K hl hd hI hK
        have hmn : m ≤ n := by
          have : m < ops.toList.length := (List.getElem?_eq_some_iff.1 hat0).1
          omega
        obtain ⟨vs, rfl, hcl, ⟨hLn, hb, hF⟩ | ⟨hall, _⟩⟩ := hI
        · have hdm : ∀ k, k ∈ depsOf ops m → L k = true := by
            intro k hk
            rw [hops m o hat0] at hk
            obtain ⟨e, he, rfl⟩ := List.mem_map.1 hk
            obtain ⟨he1, he2⟩ := List.mem_filter.1 he
            exact hd e (by simpa using he1) he2
          have hcl' : Closed ops (upd L m) := by
            intro j k hj hk
            unfold upd at hj ⊢
            split
            · rfl
            · by_cases hjm : j = m
              · subst hjm; exact hdm k hk
              · rw [if_neg hjm] at hj; exact hcl j k hj hk
          by_cases hmn' : m = n
          · subst hmn'
            have hrun := all_run' hwt hcl hdm
            refine hst.1.2 rfl vs w K hb (fun k hk => hF k (hrun k hk)) ?_
            intro vs' w' hR
            refine hK _ _ ⟨vs', rfl, hcl', Or.inr ⟨fun k hk => ?_, hR⟩⟩
            unfold upd
            split
            · rfl
            · exact hrun k (by omega)
          · refine hst.1.1 (by omega) vs w K hb (fun e he h => hF e.on (hd e he h)) ?_
            intro v w' hb' hv
            refine hK _ _ ⟨_, rfl, hcl', Or.inl ⟨?_, hb.trans (hb'.mono hb.size), fun k hk => ?_⟩⟩
            · unfold upd; rw [if_neg (Ne.symm hmn')]; exact hLn
            · unfold put
              split
              · rename_i e; rw [e]; exact hv
              · rename_i e
                refine stable k _ w w' (hF k ?_) hb'
                simpa [upd, e] using hk
        · exfalso
          have := hall m hmn
          rw [hl] at this
          cases this
    exact key ops.toList 0 (fun i o h => by rw [Nat.zero_add]; exact h) step
  · intro L a w hall hI
    obtain ⟨vs, rfl, _, ⟨hLn, _⟩ | ⟨_, hR⟩⟩ := hI
    · have := hall n (by omega)
      rw [hLn] at this
      cases this
    · exact fin vs w hR

/-- Each operation waits for earlier ones alone. -/
theorem wp_plain_last {P : Program} {id : Nat} {ops : Array Oper} {Q : Exit → Act → World → Prop} {w0 : World} (hback : backB2 ops = true) (n : Nat) (hn : ops.size = n + 1) (mk : (Nat → Value) → Act) (vs0 : Nat → Value)
    (F : Nat → Value → World → Prop) (stable : ∀ k v w w', F k v w → Below w.heap.size w w' → F k v w') (R : (Nat → Value) → World → Prop)
    (step : AllOps (LastStep P ops Q n mk w0 F R) 0 ops.toList)
    (fin : ∀ vs w, R vs w → Q .normal (mk vs) w) : (Code.region id ops false).wp P Q (mk vs0) w0 := by
  refine wp_region_list ?_
  have key : ∀ (l : List Oper) (m : Nat) (vs : Nat → Value) (w : World), (∀ i o, l[i]? = some o → ops.toList[m + i]? = some o) → m + l.length = n + 1 → AllOps (LastStep P ops Q n mk w0 F R) m l →
      ((m ≤ n ∧ Below w0.heap.size w0 w ∧ ∀ k, k < m → F k (vs k) w) ∨ (m = n + 1 ∧ R vs w)) → wpList P ops Q l (mk vs) w := by
    intro l
    induction l with
    | nil =>
      intro m vs w _ hlen _ hI
      simp at hlen
      rcases hI with ⟨h, _⟩ | ⟨_, h⟩
      · omega
      · exact wpList_nil (fin vs w h)
    | cons o r ih =>
      intro m vs w hat hlen hst hI
      simp at hlen
      rcases hI with ⟨hmn, hb, hF⟩ | ⟨h, _⟩
      · have hat0 : ops.toList[m]? = some o := hat 0 o rfl
        have hat' : ∀ i o', r[i]? = some o' → ops.toList[m + 1 + i]? = some o' := fun i o' h => by rw [show m + 1 + i = m + (i + 1) by omega]; exact hat (i + 1) o' h
        have hd : ∀ e ∈ o.after, Region.binds .any e = true → F e.on (vs e.on) w := fun e he h => by
          refine hF e.on ?_
          have hb2 := (List.all_eq_true.1 hback) m (List.mem_range.2 (by omega))
          rw [Array.getElem?_toList] at hat0
          rw [hat0] at hb2
          simp only [Option.map_some, Option.getD_some, Array.all_eq_true'] at hb2
          have := hb2 e he
          rw [h] at this
          simpa using this
        refine wpList_step fun K hK => ?_
        by_cases hmn' : m = n
        · subst hmn'
          exact hst.1.2 rfl vs w K hb hF (fun vs' w' hR => hK _ _ (ih (m + 1) vs' w' hat' (by omega) hst.2 (Or.inr ⟨rfl, hR⟩)))
        · refine hst.1.1 (by omega) vs w K hb hd (fun v w' hb' hv => hK _ _ (ih (m + 1) _ w' hat' (by omega) hst.2 (Or.inl ⟨by omega, hb.trans (hb'.mono hb.size), fun k hk => ?_⟩)))
          unfold put
          split
          · rename_i e; rw [e]; exact hv
          · rename_i e
            exact stable k _ w w' (hF k (by omega)) hb'
      · omega
  exact key ops.toList 0 vs0 w0 (fun i o h => by rw [Nat.zero_add]; exact h) (by simp [hn]) step (Or.inl ⟨Nat.zero_le _, Below.refl _ _, fun k hk => absurd hk (Nat.not_lt_zero _)⟩)

/-- A plain region that only adds to memory. -/
theorem wp_plain_vals {P : Program} {id : Nat} {ops : Array Oper} {Q : Exit → Act → World → Prop} {w0 : World} (hback : backB2 ops = true) (mk : (Nat → Value) → Act) (vs0 : Nat → Value)
    (F : Nat → Value → World → Prop) (stable : ∀ k v w w', F k v w → Below w.heap.size w w' → F k v w')
    (step : AllOps (fun i o => ∀ (vs : Nat → Value) (w : World) (K : Act → World → Prop), Below w0.heap.size w0 w → (∀ e ∈ o.after, Region.binds .any e = true → F e.on (vs e.on) w) →
      (∀ v w', Below w.heap.size w w' → F i v w' → K (mk (put vs i v)) w') → (if Region.wanted o (yielded ops (mk vs).tmps) = true then Oper.wp P o (mk vs) w K Q else K ((mk vs).put o.dst undef) w)) 0 ops.toList)
    (fin : ∀ vs w, Below w0.heap.size w0 w → (∀ k, k < ops.size → F k (vs k) w) → Q .normal (mk vs) w) : (Code.region id ops false).wp P Q (mk vs0) w0 := by
  refine wp_region_list ?_
  have key : ∀ (l : List Oper) (m : Nat) (vs : Nat → Value) (w : World), (∀ i o, l[i]? = some o → ops.toList[m + i]? = some o) → m + l.length = ops.size → AllOps (fun i o => ∀ (vs : Nat → Value) (w : World) (K : Act → World → Prop), Below w0.heap.size w0 w → (∀ e ∈ o.after, Region.binds .any e = true → F e.on (vs e.on) w) →
      (∀ v w', Below w.heap.size w w' → F i v w' → K (mk (put vs i v)) w') → (if Region.wanted o (yielded ops (mk vs).tmps) = true then Oper.wp P o (mk vs) w K Q else K ((mk vs).put o.dst undef) w)) m l →
      Below w0.heap.size w0 w → (∀ k, k < m → F k (vs k) w) → wpList P ops Q l (mk vs) w := by
    intro l
    induction l with
    | nil =>
      intro m vs w _ hlen _ hb hF
      simp at hlen
      exact wpList_nil (fin vs w hb (fun k hk => hF k (by omega)))
    | cons o r ih =>
      intro m vs w hat hlen hst hb hF
      simp at hlen
      have hat0 : ops.toList[m]? = some o := hat 0 o rfl
      have hat' : ∀ i o', r[i]? = some o' → ops.toList[m + 1 + i]? = some o' := fun i o' h => by rw [show m + 1 + i = m + (i + 1) by omega]; exact hat (i + 1) o' h
      have hd : ∀ e ∈ o.after, Region.binds .any e = true → F e.on (vs e.on) w := fun e he h => by
        refine hF e.on ?_
        have hb2 := (List.all_eq_true.1 hback) m (List.mem_range.2 (by omega))
        rw [Array.getElem?_toList] at hat0
        rw [hat0] at hb2
        simp only [Option.map_some, Option.getD_some, Array.all_eq_true'] at hb2
        have := hb2 e he
        rw [h] at this
        simpa using this
      refine wpList_step fun K hK => ?_
      refine hst.1 vs w K hb hd (fun v w' hb' hv => hK _ _ (ih (m + 1) _ w' hat' (by omega) hst.2 (hb.trans (hb'.mono hb.size)) (fun k hk => ?_)))
      unfold put
      split
      · rename_i e; rw [e]; exact hv
      · rename_i e
        exact stable k _ w w' (hF k (by omega)) hb'
  exact key ops.toList 0 vs0 w0 (fun i o h => by rw [Nat.zero_add]; exact h) (by simp) step (Below.refl _ _) (fun k hk => absurd hk (Nat.not_lt_zero _))
#print axioms wp_plain_vals
end Go.Proofs.YtjiecahopdaghabDoor
