/- A region that draws its order: one operation (a call) turns memory, the others only look, but for the last one, which waits for all. -/
import Derived.Test.YtjiecahopdaghabDoorRw
namespace Go.Proofs.YtjiecahopdaghabDoor
open Go.RowKit

/-- Each operation waits for earlier ones alone, in any order that may be taken. -/
def backB2 (ops : Array Oper) : Bool := (List.range ops.size).all fun i => ((ops[i]?).map (fun o => o.after.all fun e => !Region.binds .any e || decide (e.on < i))).getD true

theorem wp_region_inv2 {P : Program} {id : Nat} {ops : Array Oper} {Q : Exit → Act → World → Prop} {a : Act} {w : World} (hm : P.follows .mixedOrders = true) (hback : backB2 ops = true)
    (I : (Nat → Bool) → Act → World → Prop) (h0 : I (fun _ => false) a w.drew)
    (step : AllOps (fun i o => ∀ (L : Nat → Bool) (a : Act) (w : World) (K : Act → World → Prop), L i = false → (∀ e ∈ o.after, Region.binds .any e = true → L e.on = true) → I L a w → (∀ a' w', I (upd L i) a' w' → K a' w') →
      (if Region.wanted o (yielded ops a.tmps) = true then Oper.wp P o a w K Q else K (a.put o.dst undef) w)) 0 ops.toList)
    (fin : ∀ (L : Nat → Bool) (a : Act) (w : World), (∀ i, i < ops.size → L i = true) → I L a w → Q .normal a w) : (Code.region id ops true).wp P Q a w := by
  refine wp_region_any hm ?_
  have key : ∀ (fuel : Nat) (l : Array Bool) (a : Act) (w : World), l.size = ops.size → left ops.size l ≤ fuel → I (fun j => l.getD j false) a w → wpAny P .any ops Q fuel l a w := by
    intro fuel
    have done : ∀ (l : Array Bool) (a : Act) (w : World), l.size = ops.size → Region.ready .any ops l = [] → I (fun j => l.getD j false) a w → Q .normal a w := by
      intro l a w hl hr hI
      refine fin _ a w ?_ hI
      have all : ∀ n i, i < n → i < ops.size → l.getD i false = true := by
        intro n
        induction n with
        | zero => intro i hi; omega
        | succ n ih =>
          intro i hi hio
          by_cases hin : i < n
          · exact ih i hin hio
          · have hi' : i = n := by omega
            subst hi'
            rcases hg : l.getD i false with _ | _
            · exfalso
              have hg' : l.getD i true = false := by
                rw [Array.getD_eq_getD_getElem?, Array.getElem?_eq_getElem (by omega)] at hg ⊢
                exact hg
              have hmem : i ∈ Region.ready .any ops l := by
                unfold Region.ready
                refine List.mem_filter.2 ⟨List.mem_range.2 hio, ?_⟩
                rw [hg', Array.getElem?_eq_getElem hio]
                simp only [Bool.not_false, Bool.true_and, Option.map_some, Option.getD_some, Array.all_eq_true']
                intro e he
                have hb := (List.all_eq_true.1 hback) i (List.mem_range.2 hio)
                rw [Array.getElem?_eq_getElem hio] at hb
                simp only [Option.map_some, Option.getD_some, Array.all_eq_true'] at hb
                have hb2 := hb e he
                cases hbi : Region.binds .any e with
                | false => simp
                | true =>
                  rw [hbi] at hb2
                  have hlt : e.on < i := by simpa using hb2
                  rw [ih e.on hlt (by omega)]
                  simp
              rw [hr] at hmem
              cases hmem
            · rfl
      exact fun i hi => all (i + 1) i (by omega) hi
    induction fuel with
    | zero =>
      intro l a w hl hz hI
      have hr : Region.ready .any ops l = [] := by
        unfold Region.ready
        unfold left at hz
        have hnil := List.eq_nil_of_length_eq_zero (Nat.le_zero.1 hz)
        refine List.filter_eq_nil_iff.2 (fun i hi => ?_)
        have := (List.filter_eq_nil_iff.1 hnil) i hi
        simp at this
        simp [this]
      exact ⟨hr, done l a w hl hr hI⟩
    | succ fuel ih =>
      intro l a w hl hz hI
      refine ⟨fun hr => done l a w hl hr hI, fun i hi => ?_⟩
      unfold Region.ready at hi
      obtain ⟨hir, hc⟩ := List.mem_filter.1 hi
      have hio := List.mem_range.1 hir
      simp only [Bool.and_eq_true, Bool.not_eq_true'] at hc
      obtain ⟨hf, hdep⟩ := hc
      rw [Array.getElem?_eq_getElem hio] at hdep
      simp only [Option.map_some, Option.getD_some, Array.all_eq_true', Bool.or_eq_true, Bool.not_eq_true'] at hdep
      have hst := AllOps.get ops.toList 0 i ops[i] step (by rw [Array.getElem?_toList]; exact Array.getElem?_eq_getElem hio)
      rw [Nat.zero_add] at hst
      have hf' : l.getD i false = false := by
        rw [Array.getD_eq_getD_getElem?, Array.getElem?_eq_getElem (by omega)] at hf ⊢
        exact hf
      have hK : ∀ a' w', I (upd (fun j => l.getD j false) i) a' w' → wpAny P .any ops Q fuel (l.setIfInBounds i true) a' w' := by
        intro a' w' h
        refine ih _ a' w' (by simp [hl]) (by have := left_set l i ops.size hl hio hf; omega) ?_
        have e : (fun j => (l.setIfInBounds i true).getD j false) = upd (fun j => l.getD j false) i := by
          funext j
          rw [getD_set l i j false (by omega)]
          rfl
        rw [e]
        exact h
      have hres := hst (fun j => l.getD j false) a w _ hf' (fun e he hb => (hdep e he).resolve_left (by rw [hb]; simp)) hI hK
      unfold wpOp
      rw [Array.getElem?_eq_getElem hio]
      simp only
      split
      · rename_i hw
        rw [if_pos hw] at hres
        exact Or.inl hres
      · rename_i hw
        rw [if_neg hw] at hres
        exact hres
  refine key ops.size _ a _ (by simp) ?_ ?_
  · unfold left
    exact Nat.le_trans (List.length_filter_le _ _) (by simp)
  · have e : (fun j => (Array.replicate ops.size false).getD j false) = fun _ => false := by
      funext j
      simp only [Array.getD_eq_getD_getElem?, Array.getElem?_replicate]
      split <;> rfl
    rw [e]
    exact h0

/-- Each operation ahead of the m-th is waited for by a later one, up to it. -/
def waitedL (ops : Array Oper) (m : Nat) : Bool := (List.range m).all fun k => (List.range (m + 1)).any fun j => decide (k < j) && (depsOf ops j).contains k

theorem all_run' {ops : Array Oper} {n : Nat} (hw : waitedL ops n = true) {L : Nat → Bool} (hc : Closed ops L) (hn : ∀ k, k ∈ depsOf ops n → L k = true) : ∀ k, k < n → L k = true := by
  have key : ∀ m k, n ≤ k + m → k < n → L k = true := by
    intro m
    induction m with
    | zero => intro k h1 h2; omega
    | succ m ih =>
      intro k _ h2
      have h3 := (List.all_eq_true.1 hw) k (List.mem_range.2 h2)
      obtain ⟨j, hj, h4⟩ := List.any_eq_true.1 h3
      simp only [Bool.and_eq_true, decide_eq_true_eq, List.contains_iff_mem] at h4
      have hjr := List.mem_range.1 hj
      by_cases hjn : j = n
      · subst hjn; exact hn k h4.2
      · exact hc j k (ih j (by omega) (by omega)) h4.2
  exact fun k hk => key n k (by omega) hk

/-- What is asked of an operation, by its number: the n-th calls, the m-th is the last. -/
def CallStep (P : Program) (ops : Array Oper) (Q : Exit → Act → World → Prop) (n m : Nat) (mk : (Nat → Value) → Act) (w0 : World) (F : Nat → Value → World → Prop) (C : World → Prop) (R : (Nat → Value) → World → Prop) (i : Nat) (o : Oper) : Prop :=
  (i < m → i ≠ n → ∀ (vs : Nat → Value) (w : World) (K : Act → World → Prop), (w = w0.drew ∨ C w) → (∀ e ∈ o.after, Region.binds .any e = true → F e.on (vs e.on) w) →
      (∀ v, F i v w → K (mk (put vs i v)) w) → (if Region.wanted o (yielded ops (mk vs).tmps) = true then Oper.wp P o (mk vs) w K Q else K ((mk vs).put o.dst undef) w)) ∧
  (i = n → ∀ (vs : Nat → Value) (K : Act → World → Prop), (∀ e ∈ o.after, Region.binds .any e = true → F e.on (vs e.on) w0.drew) → (∀ v w', C w' → F n v w' → K (mk (put vs n v)) w') →
        (if Region.wanted o (yielded ops (mk vs).tmps) = true then Oper.wp P o (mk vs) w0.drew K Q else K ((mk vs).put o.dst undef) w0.drew)) ∧
  (i = m → ∀ (vs : Nat → Value) (w : World) (K : Act → World → Prop), C w → (∀ k, k < m → F k (vs k) w) → (∀ vs' w', R vs' w' → K (mk vs') w') →
        (if Region.wanted o (yielded ops (mk vs).tmps) = true then Oper.wp P o (mk vs) w K Q else K ((mk vs).put o.dst undef) w))

section
variable {P : Program} {ops : Array Oper} {Q : Exit → Act → World → Prop} {n m : Nat} {mk : (Nat → Value) → Act} {w0 : World} {F : Nat → Value → World → Prop} {C : World → Prop} {R : (Nat → Value) → World → Prop} {o : Oper}
theorem CallStep.look {i : Nat} (h1 : i < m) (h2 : i ≠ n) (h : ∀ (vs : Nat → Value) (w : World) (K : Act → World → Prop), (w = w0.drew ∨ C w) → (∀ e ∈ o.after, Region.binds .any e = true → F e.on (vs e.on) w) →
      (∀ v, F i v w → K (mk (put vs i v)) w) → (if Region.wanted o (yielded ops (mk vs).tmps) = true then Oper.wp P o (mk vs) w K Q else K ((mk vs).put o.dst undef) w)) : CallStep P ops Q n m mk w0 F C R i o :=
  ⟨fun _ _ => h, fun e => absurd e h2, fun e => by omega⟩
theorem CallStep.call (h1 : n ≠ m) (h : ∀ (vs : Nat → Value) (K : Act → World → Prop), (∀ e ∈ o.after, Region.binds .any e = true → F e.on (vs e.on) w0.drew) → (∀ v w', C w' → F n v w' → K (mk (put vs n v)) w') →
        (if Region.wanted o (yielded ops (mk vs).tmps) = true then Oper.wp P o (mk vs) w0.drew K Q else K ((mk vs).put o.dst undef) w0.drew)) : CallStep P ops Q n m mk w0 F C R n o :=
  ⟨fun _ e => absurd rfl e, fun _ => h, fun e => absurd e h1⟩
theorem CallStep.last (h1 : m ≠ n) (h : ∀ (vs : Nat → Value) (w : World) (K : Act → World → Prop), C w → (∀ k, k < m → F k (vs k) w) → (∀ vs' w', R vs' w' → K (mk vs') w') →
        (if Region.wanted o (yielded ops (mk vs).tmps) = true then Oper.wp P o (mk vs) w K Q else K ((mk vs).put o.dst undef) w)) : CallStep P ops Q n m mk w0 F C R m o :=
  ⟨fun e => by omega, fun e => absurd e h1, fun _ => h⟩
end

theorem wp_region_call {P : Program} {id : Nat} {ops : Array Oper} {Q : Exit → Act → World → Prop} {w0 : World} (hm : P.follows .mixedOrders = true) (hback : backB2 ops = true) (n m : Nat) (hn : ops.size = m + 1) (hnm : n < m) (hwt : waitedL ops m = true) (late : List Nat) (hlate : (late.all fun k => (depsOf ops k).contains n) = true) (mk : (Nat → Value) → Act) (vs0 : Nat → Value)
    (F : Nat → Value → World → Prop) (C : World → Prop) (stable : ∀ k v w', k ≠ n → ¬ k ∈ late → F k v w0.drew → C w' → F k v w') (R : (Nat → Value) → World → Prop)
    (step : AllOps (CallStep P ops Q n m mk w0 F C R) 0 ops.toList)
    (fin : ∀ vs w, R vs w → Q .normal (mk vs) w) : (Code.region id ops true).wp P Q (mk vs0) w0 := by
  refine wp_region_inv2 hm hback (fun L a w => ∃ vs, a = mk vs ∧ Closed ops L ∧ ((L m = false ∧ ((L n = false ∧ w = w0.drew) ∨ (L n = true ∧ C w)) ∧ ∀ k, L k = true → F k (vs k) w) ∨ ((∀ k, k ≤ m → L k = true) ∧ R vs w)))
    ⟨vs0, rfl, (fun j k h => by cases h), Or.inl ⟨rfl, Or.inl ⟨rfl, rfl⟩, (fun k h => by cases h)⟩⟩ ?_ ?_
  · have hops : ∀ (i : Nat) (o : Oper), ops.toList[i]? = some o → depsOf ops i = (o.after.toList.filter (fun e => Region.binds .any e)).map (·.on) := by
      intro i o h
      rw [Array.getElem?_toList] at h
      simp [depsOf, h]
    have hlen : ops.toList.length = m + 1 := by simp [hn]
    have key : ∀ (l : List Oper) (j : Nat), (∀ i o, l[i]? = some o → ops.toList[j + i]? = some o) → AllOps (CallStep P ops Q n m mk w0 F C R) j l →
      AllOps (fun i o => ∀ (L : Nat → Bool) (a : Act) (w : World) (K : Act → World → Prop), L i = false → (∀ e ∈ o.after, Region.binds .any e = true → L e.on = true) →
        (∃ vs, a = mk vs ∧ Closed ops L ∧ ((L m = false ∧ ((L n = false ∧ w = w0.drew) ∨ (L n = true ∧ C w)) ∧ ∀ k, L k = true → F k (vs k) w) ∨ ((∀ k, k ≤ m → L k = true) ∧ R vs w))) →
        (∀ a' w', (∃ vs, a' = mk vs ∧ Closed ops (upd L i) ∧ ((upd L i m = false ∧ ((upd L i n = false ∧ w' = w0.drew) ∨ (upd L i n = true ∧ C w')) ∧ ∀ k, upd L i k = true → F k (vs k) w') ∨ ((∀ k, k ≤ m → upd L i k = true) ∧ R vs w'))) → K a' w') →
        (if Region.wanted o (yielded ops a.tmps) = true then Oper.wp P o a w K Q else K (a.put o.dst undef) w)) j l := by
      intro l
      induction l with
      | nil => intro j _ _; trivial
      | cons o r ih =>
        intro j hat hst
        have hat0 : ops.toList[j]? = some o := hat 0 o rfl
        refine ⟨?_, ih (j + 1) (fun i o' h => by rw [show j + 1 + i = j + (i + 1) by omega]; exact hat (i + 1) o' h) hst.2⟩
        intro L a w K hl hd hI hK
        have hjm : j ≤ m := by
          have : j < ops.toList.length := (List.getElem?_eq_some_iff.1 hat0).1
          omega
        have hdm : ∀ k, k ∈ depsOf ops j → L k = true := by
          intro k hk
          rw [hops j o hat0] at hk
          obtain ⟨e, he, rfl⟩ := List.mem_map.1 hk
          obtain ⟨he1, he2⟩ := List.mem_filter.1 he
          exact hd e (by simpa using he1) he2
        obtain ⟨vs, rfl, hcl, hI⟩ := hI
        have hcl' : Closed ops (upd L j) := by
          intro i k hj hk
          unfold upd at hj ⊢
          split
          · rfl
          · by_cases hjm : i = j
            · subst hjm; exact hdm k hk
            · rw [if_neg hjm] at hj; exact hcl i k hj hk
        rcases hI with ⟨hLm, hw, hF⟩ | ⟨hall, _⟩
        · by_cases hjm' : j = m
          · subst hjm'
            have hrun := all_run' hwt hcl hdm
            have hC : C w := by
              rcases hw with ⟨h, _⟩ | ⟨_, h⟩
              · rw [hrun n hnm] at h; cases h
              · exact h
            refine hst.1.2.2 rfl vs w K hC (fun k hk => hF k (hrun k hk)) ?_
            intro vs' w' hR
            refine hK _ _ ⟨vs', rfl, hcl', Or.inr ⟨fun k hk => ?_, hR⟩⟩
            unfold upd
            split
            · rfl
            · exact hrun k (by omega)
          · by_cases hjn : j = n
            · subst hjn
              rcases hw with ⟨_, rfl⟩ | ⟨h, _⟩
              · refine hst.1.2.1 rfl vs K (fun e he h => hF e.on (hd e he h)) ?_
                intro v w' hC hv
                refine hK _ _ ⟨_, rfl, hcl', Or.inl ⟨?_, Or.inr ⟨by unfold upd; rw [if_pos rfl], hC⟩, fun k hk => ?_⟩⟩
                · unfold upd; rw [if_neg (Ne.symm hjm')]; exact hLm
                · unfold put
                  split
                  · rename_i e; rw [e]; exact hv
                  · rename_i e
                    have hk' : L k = true := by simpa [upd, e] using hk
                    refine stable k _ w' e (fun hin => ?_) (hF k hk') hC
                    have h1 := (List.all_eq_true.1 hlate) k hin
                    have h2 := hcl k j hk' (by simpa only [List.contains_iff_mem] using h1)
                    rw [hl] at h2
                    cases h2
              · rw [hl] at h; cases h
            · refine hst.1.1 (by omega) hjn vs w K ?_ (fun e he h => hF e.on (hd e he h)) ?_
              · rcases hw with ⟨_, h⟩ | ⟨_, h⟩
                · exact Or.inl h
                · exact Or.inr h
              intro v hv
              refine hK _ _ ⟨_, rfl, hcl', Or.inl ⟨?_, ?_, fun k hk => ?_⟩⟩
              · unfold upd; rw [if_neg (Ne.symm hjm')]; exact hLm
              · unfold upd; rw [if_neg (Ne.symm hjn)]; exact hw
              · unfold put
                split
                · rename_i e; rw [e]; exact hv
                · rename_i e
                  refine hF k ?_
                  simpa [upd, e] using hk
        · exfalso
          have := hall j hjm
          rw [hl] at this
          cases this
    exact key ops.toList 0 (fun i o h => by rw [Nat.zero_add]; exact h) step
  · intro L a w hall hI
    obtain ⟨vs, rfl, _, ⟨hLm, _⟩ | ⟨_, hR⟩⟩ := hI
    · have := hall m (by omega)
      rw [hLm] at this
      cases this
    · exact fin vs w hR
#print axioms wp_region_call
end Go.Proofs.YtjiecahopdaghabDoor
