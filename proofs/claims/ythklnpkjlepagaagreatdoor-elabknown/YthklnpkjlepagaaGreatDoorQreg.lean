/- A region that draws its order, by an invariant on what has run so far. -/
import Derived.Test.YthklnpkjlepagaaGreatDoorQj
namespace Go.Proofs.YthklnpkjlepagaaGreatDoor.Ab
open Go.RowKit

def upd (L : Nat → Bool) (i : Nat) : Nat → Bool := fun j => if j = i then true else L j

/-- Of each operation of a list, with its number. -/
def AllOps (p : Nat → Oper → Prop) : Nat → List Oper → Prop
  | _, [] => True
  | n, o :: r => p n o ∧ AllOps p (n + 1) r

theorem AllOps.get {p : Nat → Oper → Prop} (l : List Oper) : ∀ (n i : Nat) (o : Oper), AllOps p n l → l[i]? = some o → p (n + i) o := by
  induction l with
  | nil => intro n i o _ hi; cases hi
  | cons o' r ih =>
    intro n i o h hi
    cases i with
    | zero =>
      rw [List.getElem?_cons_zero] at hi
      have := Option.some.inj hi
      rw [← this]
      exact h.1
    | succ i =>
      rw [List.getElem?_cons_succ] at hi
      have := ih (n + 1) i o h.2 hi
      rwa [show n + 1 + i = n + (i + 1) by omega] at this

/-- Each operation waits for earlier ones alone. -/
def backB (ops : Array Oper) : Bool := (List.range ops.size).all fun i => ((ops[i]?).map (fun o => o.after.all fun e => decide (e.on < i))).getD true

/-- How many have not run. -/
def left (n : Nat) (l : Array Bool) : Nat := ((List.range n).filter fun i => !l.getD i true).length

theorem filter_lt {α : Type} (l : List α) (p q : α → Bool) (x : α) (hx : x ∈ l) (h1 : p x = true) (h2 : q x = false) (h : ∀ y, q y = true → p y = true) : (l.filter q).length < (l.filter p).length := by
  induction l with
  | nil => cases hx
  | cons y l ih =>
    have hle : (l.filter q).length ≤ (l.filter p).length := by
      clear ih hx
      induction l with
      | nil => simp
      | cons z l ih2 =>
        simp only [List.filter_cons]
        by_cases hz : q z = true
        · simp [hz, h z hz]; exact ih2
        · simp [hz]; split <;> (try simp) <;> omega
    simp only [List.filter_cons]
    rcases List.mem_cons.1 hx with rfl | hx
    · simp [h1, h2]; omega
    · have := ih hx
      by_cases hy : q y = true
      · simp [hy, h y hy]; exact this
      · simp [hy]; split <;> (try simp) <;> omega

theorem getD_set (l : Array Bool) (i j : Nat) (d : Bool) (hi : i < l.size) : (l.setIfInBounds i true).getD j d = if j = i then true else l.getD j d := by
  simp only [Array.getD_eq_getD_getElem?, Array.getElem?_setIfInBounds]
  by_cases h : i = j
  · subst h; simp [hi]
  · simp [h, Ne.symm h]

theorem left_set (l : Array Bool) (i : Nat) (n : Nat) (hn : l.size = n) (hi : i < n) (hf : l.getD i true = false) : left n (l.setIfInBounds i true) < left n l := by
  refine filter_lt _ _ _ i (List.mem_range.2 hi) (by simp only [hf]; rfl) ?_ ?_
  · rw [getD_set l i i true (by omega)]; simp
  · intro y hy
    rw [getD_set l i y true (by omega)] at hy
    by_cases h : y = i
    · simp [h] at hy
    · simpa [h] using hy

def backB2 (ops : Array Oper) : Bool := (List.range ops.size).all fun i => ((ops[i]?).map (fun o => o.after.all fun e => !Region.binds .any e || decide (e.on < i))).getD true

theorem wp_region_inv2 {P : Program} {id : Nat} {ops : Array Oper} {Q : Exit → Act → World → Prop} {a : Act} {w : World} (hm : P.follows .mixedOrders = true) (hback : backB2 ops = true)
    (I : (Nat → Bool) → Act → World → Prop) (h0 : I (fun _ => false) a w.drew)
    (step : AllOps (fun i o => ∀ (L : Nat → Bool) (a : Act) (w : World) (K : Act → World → Prop), L i = false → (∀ e ∈ o.after, Region.binds .any e = true → L e.on = true) → I L a w → (∀ a' w', I (upd L i) a' w' → K a' w') →
      (if Region.wanted o (yielded ops a.tmps) = true then Oper.wp P o a w K Q else K (a.put o.dst undef) w)) 0 ops.toList)
    (fin : ∀ (L : Nat → Bool) (a : Act) (w : World), (∀ i, i < ops.size → L i = true) → I L a w → Q .normal a w) : (Code.region id ops true).wp P Q a w := by
  refine wp_region_any hm ?_
  have key : ∀ (fuel : Nat) (l : Array Bool) (a : Act) (w : World), l.size = ops.size → left ops.size l ≤ fuel → I (fun j => l.getD j false) a w → wpAny P .any ops Q fuel l a w := by
    intro fuel
    have done : ∀ (l : Array Bool) (a : Act) (w : World), l.size = ops.size → Region.ready .any ops l = [] → I (fun j => l.getD j false) a w → Q .normal a w := by
      intro l a w hl hr hI
      refine fin _ a w ?_ hI
      have all : ∀ n i, i < n → i < ops.size → l.getD i false = true := by
        intro n
        induction n with
        | zero => intro i hi; omega
        | succ n ih =>
          intro i hi hio
          by_cases hin : i < n
          · exact ih i hin hio
          · have hi' : i = n := by omega
            subst hi'
            rcases hg : l.getD i false with _ | _
            · exfalso
              have hg' : l.getD i true = false := by
                rw [Array.getD_eq_getD_getElem?, Array.getElem?_eq_getElem (by omega)] at hg ⊢
                exact hg
              have hmem : i ∈ Region.ready .any ops l := by
                unfold Region.ready
                refine List.mem_filter.2 ⟨List.mem_range.2 hio, ?_⟩
                rw [hg', Array.getElem?_eq_getElem hio]
                simp only [Bool.not_false, Bool.true_and, Option.map_some, Option.getD_some, Array.all_eq_true']
                intro e he
                have hb := (List.all_eq_true.1 hback) i (List.mem_range.2 hio)
                rw [Array.getElem?_eq_getElem hio] at hb
                simp only [Option.map_some, Option.getD_some, Array.all_eq_true'] at hb
                have hb2 := hb e he
                cases hbi : Region.binds .any e with
                | false => simp
                | true =>
                  rw [hbi] at hb2
                  have hlt : e.on < i := by simpa using hb2
                  rw [ih e.on hlt (by omega)]
                  simp
              rw [hr] at hmem
              cases hmem
            · rfl
      exact fun i hi => all (i + 1) i (by omega) hi
    induction fuel with
    | zero =>
      intro l a w hl hz hI
      have hr : Region.ready .any ops l = [] := by
        unfold Region.ready
        unfold left at hz
        have hnil := List.eq_nil_of_length_eq_zero (Nat.le_zero.1 hz)
        refine List.filter_eq_nil_iff.2 (fun i hi => ?_)
        have := (List.filter_eq_nil_iff.1 hnil) i hi
        simp at this
        simp [this]
      exact ⟨hr, done l a w hl hr hI⟩
    | succ fuel ih =>
      intro l a w hl hz hI
      refine ⟨fun hr => done l a w hl hr hI, fun i hi => ?_⟩
      unfold Region.ready at hi
      obtain ⟨hir, hc⟩ := List.mem_filter.1 hi
      have hio := List.mem_range.1 hir
      simp only [Bool.and_eq_true, Bool.not_eq_true'] at hc
      obtain ⟨hf, hdep⟩ := hc
      rw [Array.getElem?_eq_getElem hio] at hdep
      simp only [Option.map_some, Option.getD_some, Array.all_eq_true', Bool.or_eq_true, Bool.not_eq_true'] at hdep
      have hst := AllOps.get ops.toList 0 i ops[i] step (by rw [Array.getElem?_toList]; exact Array.getElem?_eq_getElem hio)
      rw [Nat.zero_add] at hst
      have hf' : l.getD i false = false := by
        rw [Array.getD_eq_getD_getElem?, Array.getElem?_eq_getElem (by omega)] at hf ⊢
        exact hf
      have hK : ∀ a' w', I (upd (fun j => l.getD j false) i) a' w' → wpAny P .any ops Q fuel (l.setIfInBounds i true) a' w' := by
        intro a' w' h
        refine ih _ a' w' (by simp [hl]) (by have := left_set l i ops.size hl hio hf; omega) ?_
        have e : (fun j => (l.setIfInBounds i true).getD j false) = upd (fun j => l.getD j false) i := by
          funext j
          rw [getD_set l i j false (by omega)]
          rfl
        rw [e]
        exact h
      have hres := hst (fun j => l.getD j false) a w _ hf' (fun e he hb => (hdep e he).resolve_left (by rw [hb]; simp)) hI hK
      unfold wpOp
      rw [Array.getElem?_eq_getElem hio]
      simp only
      split
      · rename_i hw
        rw [if_pos hw] at hres
        exact Or.inl hres
      · rename_i hw
        rw [if_neg hw] at hres
        exact hres
  refine key ops.size _ a _ (by simp) ?_ ?_
  · unfold left
    exact Nat.le_trans (List.length_filter_le _ _) (by simp)
  · have e : (fun j => (Array.replicate ops.size false).getD j false) = fun _ => false := by
      funext j
      simp only [Array.getD_eq_getD_getElem?, Array.getElem?_replicate]
      split <;> rfl
    rw [e]
    exact h0

#print axioms wp_region_inv2
end Go.Proofs.YthklnpkjlepagaaGreatDoor.Ab
