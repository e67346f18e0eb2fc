/- Where the tokens of a text stand, and what each says. -/
import Derived.Test.YtoadbgdkcdilhaaDoorRt
namespace Go.Proofs.YtoadbgdkcdilhaaDoor
open Go.RowKit

/-- What a token says of the text where it stands, and where it ends at the least. -/
def TokSays (L : List UInt8) (t : Tok) (q : Nat) : Prop :=
  (t.kind = 1 ∧ byt L t.at' = 40 ∧ t.s = [] ∧ q = t.at' + 1) ∨ (t.kind = 2 ∧ byt L t.at' = 41 ∧ t.s = [] ∧ q = t.at' + 1) ∨
  (t.kind = 3 ∧ t.n = 0 ∧ 0 < t.s.length ∧ (L.drop t.at').take t.s.length = t.s ∧ t.at' + t.s.length ≤ L.length ∧ q = t.at' + t.s.length) ∨ (t.kind = 4 ∧ t.s = [] ∧ q = t.at' + 1)

/-- Tokens in order, each where it begins. -/
def PlOk (L : List UInt8) : Nat → List Tok → Prop
  | _, [] => True
  | e, t :: r => e ≤ t.at' ∧ t.at' < L.length ∧ ∃ q, TokSays L t q ∧ PlOk L q r

theorem PlOk.mono {L : List UInt8} {e e' : Nat} {ts : List Tok} (h : PlOk L e ts) (he : e' ≤ e) : PlOk L e' ts := by
  cases ts with
  | nil => trivial
  | cons t r => exact ⟨Nat.le_trans he h.1, h.2⟩

theorem take_self (l : List UInt8) (k : Nat) : l.take (l.take k).length = l.take k := by
  rw [List.length_take]
  by_cases h : k ≤ l.length
  · rw [Nat.min_eq_left h]
  · rw [Nat.min_eq_right (by omega), List.take_length, List.take_of_length_le (by omega)]

theorem one_says {L : List UInt8} {p k : Nat} {t : Tok} (hp : p < L.length) (h : oneP (L.drop p) p = .ok (k, some t)) : t.at' = p ∧ ∃ q, TokSays L t q ∧ q ≤ p + k := by
  have hl : (L.drop p).length = L.length - p := List.length_drop
  have hne : L.drop p ≠ [] := fun h0 => by rw [h0] at hl; simp at hl; omega
  obtain ⟨hk1, hk2⟩ := oneP_len hne h
  have hb := byt_of_drop L p
  unfold oneP at h
  split at h
  · cases h
  split at h
  · cases h
  split at h
  · rename_i h40; cases h; exact ⟨rfl, p + 1, Or.inl ⟨rfl, by rw [← hb]; exact h40, rfl, rfl⟩, Nat.le_refl _⟩
  split at h
  · rename_i h41; cases h; exact ⟨rfl, p + 1, Or.inr (Or.inl ⟨rfl, by rw [← hb]; exact h41, rfl, rfl⟩), Nat.le_refl _⟩
  split at h
  · split at h
    · cases h
    · cases h
      have e : ((L.drop p).take (1 + cnt nameB ((L.drop p).drop 1))).length = 1 + cnt nameB ((L.drop p).drop 1) := by rw [List.length_take]; omega
      refine ⟨rfl, _, Or.inr (Or.inr (Or.inl ⟨rfl, rfl, ?_, take_self _ _, ?_, rfl⟩)), ?_⟩
      · show 0 < ((L.drop p).take (1 + cnt nameB ((L.drop p).drop 1))).length; omega
      · show p + ((L.drop p).take (1 + cnt nameB ((L.drop p).drop 1))).length ≤ _; omega
      · show p + ((L.drop p).take (1 + cnt nameB ((L.drop p).drop 1))).length ≤ _; omega
  split at h
  · rename_i hs
    cases h
    have e : ((L.drop p).take (signN (L.drop p))).length = signN (L.drop p) := by rw [List.length_take]; omega
    refine ⟨rfl, _, Or.inr (Or.inr (Or.inl ⟨rfl, rfl, ?_, take_self _ _, ?_, rfl⟩)), ?_⟩
    · show 0 < ((L.drop p).take (signN (L.drop p))).length; omega
    · show p + ((L.drop p).take (signN (L.drop p))).length ≤ _; omega
    · show p + ((L.drop p).take (signN (L.drop p))).length ≤ _; omega
  split at h
  · split at h
    · cases h
    · cases h
      exact ⟨rfl, p + 1, Or.inr (Or.inr (Or.inr ⟨rfl, rfl, rfl⟩)), by omega⟩
  · cases h

theorem lex_places : ∀ (f : Nat) (L : List UInt8) (p : Nat) (ts : List Tok), p ≤ L.length → lexP f (L.drop p) p = .ok ts → PlOk L p ts := by
  intro f
  induction f with
  | zero => intro L p ts _ h; rw [lexP] at h; cases h; trivial
  | succ f ih =>
    intro L p ts hp h
    by_cases hl : L.drop p = []
    · rw [lexP, if_pos hl] at h; cases h; trivial
    · have hlen : (L.drop p).length = L.length - p := List.length_drop
      have hp2 : p < L.length := by
        rcases Nat.lt_or_ge p L.length with h | h
        · exact h
        · exact absurd (List.drop_eq_nil_of_le h) hl
      rw [lexP, if_neg hl] at h
      cases h1 : oneP (L.drop p) p with
      | error e => rw [h1] at h; cases h
      | ok q =>
        obtain ⟨k, o⟩ := q
        obtain ⟨hk1, hk2⟩ := oneP_len hl h1
        rw [h1] at h
        cases o with
        | none =>
          simp only [List.drop_drop] at h
          exact (ih L (p + k) ts (by omega) h).mono (by omega)
        | some t =>
          simp only [List.drop_drop] at h
          cases h2 : lexP f (L.drop (p + k)) (p + k) with
          | error e => rw [h2] at h; cases h
          | ok us =>
            rw [h2] at h
            cases h
            obtain ⟨ha, q, hq, hqk⟩ := one_says hp2 h1
            exact ⟨by omega, by omega, q, hq, (ih L (p + k) us (by omega) h2).mono hqk⟩

theorem tok_places {L : List UInt8} {ts : List Tok} (h : tokP L = .ok ts) : PlOk L 0 ts := by
  unfold tokP at h
  split at h
  · cases h
  · exact lex_places _ L 0 ts (Nat.zero_le _) (by rw [List.drop_zero]; exact h)
theorem one_err {l : List UInt8} {p e : Nat} (h : oneP l p = .error e) : e = 4 ∨ e = 6 := by
  unfold oneP at h
  split at h
  · cases h
  split at h
  · cases h
  split at h
  · cases h
  split at h
  · cases h
  split at h
  · split at h
    · cases h; exact Or.inl rfl
    · cases h
  split at h
  · cases h
  split at h
  · split at h
    · cases h; exact Or.inl rfl
    · cases h
  · cases h; exact Or.inr rfl

theorem lex_err : ∀ (f : Nat) (l : List UInt8) (p e q : Nat), lexP f l p = .error (e, q) → e = 4 ∨ e = 6 := by
  intro f
  induction f with
  | zero => intro l p e q h; rw [lexP] at h; cases h
  | succ f ih =>
    intro l p e q h
    by_cases hl : l = []
    · rw [lexP, if_pos hl] at h; cases h
    · rw [lexP, if_neg hl] at h
      cases h1 : oneP l p with
      | error e' => rw [h1] at h; cases h; exact one_err h1
      | ok r =>
        obtain ⟨k, o⟩ := r
        rw [h1] at h
        cases o with
        | none => exact ih _ _ _ _ h
        | some t =>
          simp only at h
          cases h2 : lexP f (l.drop k) (p + k) with
          | error e' => rw [h2] at h; cases h; exact ih _ _ _ _ h2
          | ok us => rw [h2] at h; cases h

theorem err_pos {L : List UInt8} {e q : Nat} (h : tokP L = .error (e, q)) : e = 4 ∨ e = 6 := by
  unfold tokP at h
  split at h
  · cases h; exact Or.inl rfl
  · exact lex_err _ _ _ _ _ h
#print axioms err_pos
#print axioms tok_places
end Go.Proofs.YtoadbgdkcdilhaaDoor
