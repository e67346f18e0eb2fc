/- Terms that are too great or too deep: how their bytes are read. -/
import Derived.Test.YtafafeplciidhaaPo
namespace Go.Proofs.Ytafafeplciidhaa
open Go.RowKit

theorem row_size (d : Nat) (hd : ∀ (n : Nat) (l : List Int) (t : Tr) (n' : Nat) (r : List Int), n ≤ 3000 → termP d n l = .ok (t, n', r) → n' = n + t.size ∧ n' ≤ 3000 ∧ dep d t) :
    ∀ (k n : Nat) (l : List Int) (ts : List Tr) (n' : Nat) (r : List Int), n ≤ 3000 → rowP (termP d) k n l = .ok (ts, n', r) → n' = n + (ts.map Tr.size).sum ∧ n' ≤ 3000 ∧ ∀ x ∈ ts, dep d x := by
  intro k
  induction k with
  | zero =>
    intro n l ts n' r hn h
    rw [rowP] at h
    cases h
    exact ⟨by simp, hn, fun x hx => by cases hx⟩
  | succ k ih =>
    intro n l ts n' r hn h
    rw [rowP] at h
    cases h1 : termP d n l with
    | error e => rw [h1] at h; cases h
    | ok p =>
      obtain ⟨t, n1, l1⟩ := p
      rw [h1] at h
      simp only at h
      cases h2 : rowP (termP d) k n1 l1 with
      | error e => rw [h2] at h; cases h
      | ok p =>
        obtain ⟨ts2, n2, l2⟩ := p
        rw [h2] at h
        simp only at h
        cases h
        obtain ⟨a1, a2, a3⟩ := hd _ _ _ _ _ hn h1
        obtain ⟨b1, b2, b3⟩ := ih _ _ _ _ _ a2 h2
        refine ⟨by rw [List.map_cons, List.sum_cons]; omega, b2, fun x hx => ?_⟩
        rcases List.mem_cons.1 hx with rfl | hx
        · exact a3
        · exact b3 x hx

theorem term_size (d : Nat) : ∀ (n : Nat) (l : List Int) (t : Tr) (n' : Nat) (r : List Int), n ≤ 3000 → termP d n l = .ok (t, n', r) → n' = n + t.size ∧ n' ≤ 3000 ∧ dep d t := by
  induction d with
  | zero => intro n l t n' r _ h; rw [termP] at h; cases h
  | succ d ih =>
    intro n l t n' r hn h
    rw [termP] at h
    by_cases h0 : n = 3000
    · rw [if_pos h0] at h; cases h
    · rw [if_neg h0] at h
      by_cases h1 : l.length < 10
      · rw [if_pos h1] at h; cases h
      · rw [if_neg h1] at h
        cases h2 : rowP (termP d) (l.getD 9 0).toNat (n + 1) (l.drop 10) with
        | error e => rw [h2] at h; cases h
        | ok p =>
          obtain ⟨ts, n1, l1⟩ := p
          rw [h2] at h
          simp only at h
          cases h
          obtain ⟨b1, b2, b3⟩ := row_size d ih _ _ _ _ _ _ (by omega) h2
          refine ⟨?_, b2, b3⟩
          rw [Tr.size_eq]
          simp only
          omega

theorem row_whole (d : Nat) (hd : ∀ (t : Tr) (n : Nat) (r : List Int), (∀ x ∈ t.pre, Node x) → termP d n (enc t ++ r) = .ok (t, n + t.size, r) ∨ termP d n (enc t ++ r) = .error 5) :
    ∀ (ks : List Tr) (n : Nat) (r : List Int), (∀ k ∈ ks, ∀ x ∈ k.pre, Node x) → rowP (termP d) ks.length n ((ks.map enc).flatten ++ r) = .ok (ks, n + (ks.map Tr.size).sum, r) ∨ rowP (termP d) ks.length n ((ks.map enc).flatten ++ r) = .error 5
  | [], n, r, _ => by left; simp [rowP]
  | k :: ks, n, r, h2 => by
    rw [List.map_cons, List.flatten_cons, List.append_assoc, List.length_cons, rowP]
    rcases hd k n ((ks.map enc).flatten ++ r) (h2 k (by simp)) with e1 | e1
    · rw [e1]
      simp only
      rcases row_whole d hd ks (n + k.size) r (fun q hq => h2 q (by simp [hq])) with e2 | e2
      · left
        rw [e2]
        simp only [List.map_cons, List.sum_cons, Nat.add_assoc]
      · right
        rw [e2]
    · right
      rw [e1]

theorem term_whole (d : Nat) : ∀ (t : Tr) (n : Nat) (r : List Int), (∀ x ∈ t.pre, Node x) → termP d n (enc t ++ r) = .ok (t, n + t.size, r) ∨ termP d n (enc t ++ r) = .error 5 := by
  induction d with
  | zero => intro t n r _; right; rw [termP]
  | succ d ih =>
    intro t n r h2
    obtain ⟨a1, a2, a3, a4⟩ := h2 t (mem_pre_self t)
    have hs := t.size_eq
    obtain ⟨e1, e2, e3⟩ := hd_last t.op t.n t.kids.length a4 ((t.kids.map enc).flatten ++ r)
    rw [enc_eq, List.append_assoc, termP]
    by_cases h0 : n = 3000
    · right; rw [if_pos h0]
    · rw [if_neg h0, if_neg e3, e1, e2]
      rcases row_whole d ih t.kids (n + 1) r (fun k hk x hx => h2 x (mem_pre_kid hk hx)) with hr | hr
      · left
        rw [hr]
        simp only [num_hd _ _ _ a3, hd_first _ _ _ a1 a2]
        rw [show n + 1 + (t.kids.map Tr.size).sum = n + t.size by omega]
        cases t; rfl
      · right
        rw [hr]

/-- One that is too great, or too deep. -/
theorem parse_over (t : Tr) (h : ¬ (t.size ≤ 3000 ∧ dep 120 t)) (hn : ∀ x ∈ t.pre, Node x) : parseP (enc t) = .error 5 := by
  have h1 := term_whole 120 t 0 [] hn
  rw [List.append_nil] at h1
  rcases h1 with h1 | h1
  · obtain ⟨a1, a2, a3⟩ := term_size 120 0 _ _ _ _ (by omega) h1
    exact absurd ⟨by omega, a3⟩ h
  · unfold parseP; rw [h1]

/-- Its bytes, cut, are no term's. -/
theorem parse_over_cut (t t' : Tr) (m : Nat) (h : ¬ (t.size ≤ 3000 ∧ dep 120 t)) (hn : ∀ x ∈ t.pre, Node x) (hb : Byt (enc t)) (hp : parseP ((enc t).take m) = .ok t') : False := by
  unfold parseP at hp
  cases h1 : termP 120 0 ((enc t).take m) with
  | error e => rw [h1] at hp; cases hp
  | ok p =>
    obtain ⟨s, n, r⟩ := p
    rw [h1] at hp
    simp only at hp
    by_cases hr : r = []
    · rw [if_pos hr] at hp
      cases hp
      obtain ⟨a1, a2, a3⟩ := term_size 120 0 _ _ _ _ (by omega) h1
      obtain ⟨e1, e2⟩ := term_back 120 0 _ _ _ _ (fun x hx => hb x (List.mem_of_mem_take hx)) h1
      rw [hr, List.append_nil] at e1
      have e3 : enc t ++ [] = enc t' ++ (enc t).drop m := by rw [List.append_nil, ← e1, List.take_append_drop]
      obtain ⟨rfl, _⟩ := enc_pre_inj t hn t' [] _ e2 e3
      exact h ⟨by omega, a3⟩
    · rw [if_neg hr] at hp; cases hp

/-- So many Sucs over a Zero. -/
def tower : Nat → Tr
  | 0 => ⟨11, 0, []⟩
  | k + 1 => ⟨12, 0, [tower k]⟩

theorem tower_size (k : Nat) : (tower k).size = k + 1 := by
  induction k with
  | zero => rw [Tr.size_eq]; rfl
  | succ k ih => rw [Tr.size_eq, tower]; simp [ih]; omega

theorem tower_node (k : Nat) : ∀ x ∈ (tower k).pre, Node x := by
  induction k with
  | zero =>
    intro x hx
    rw [Tr.pre_eq] at hx
    simp [tower] at hx
    subst hx
    exact ⟨by simp only; omega, by simp only; omega, by unfold I64; simp only; omega, by simp⟩
  | succ k ih =>
    intro x hx
    rw [Tr.pre_eq, tower] at hx
    simp at hx
    rcases hx with rfl | hx
    · exact ⟨by simp only; omega, by simp only; omega, by unfold I64; simp only; omega, by simp⟩
    · exact ih x hx

theorem tower_dep (k : Nat) : ∀ d, dep d (tower k) ↔ k < d := by
  induction k with
  | zero =>
    intro d
    cases d with
    | zero => simp [dep]
    | succ d => simp [dep, tower]
  | succ k ih =>
    intro d
    cases d with
    | zero => simp [dep]
    | succ d =>
      simp only [dep, tower, List.mem_singleton, forall_eq]
      rw [ih d]
      omega
#print axioms parse_over_cut
end Go.Proofs.Ytafafeplciidhaa
