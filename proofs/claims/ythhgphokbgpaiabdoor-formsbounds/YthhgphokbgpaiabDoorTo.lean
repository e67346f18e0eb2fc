/- What the tokens of a text are. -/
import Derived.Test.YthhgphokbgpaiabDoorVa
namespace Go.Proofs.YthhgphokbgpaiabDoor
open Go.RowKit

/-- A token. -/
structure Tok where
  kind : Int
  n : Int
  at' : Nat
  s : List UInt8

/-- Its cells. -/
def Tok.cells (t : Tok) : List Value := [.int .i64 t.kind, .int .i64 t.n, .int .i64 t.at', .string ⟨⟨t.s⟩⟩]

/-- What begins a text that is not empty: how long it is, and its token, if it is one; else the error. -/
def oneP (l : List UInt8) (p : Nat) : Except Nat (Nat × Option Tok) :=
  if blankB (byt l 0) = true then .ok (cnt blankB l, none)
  else if byt l 0 = 59 then .ok (cnt lineB l, none)
  else if byt l 0 = 40 then .ok (1, some ⟨1, 0, p, []⟩)
  else if byt l 0 = 41 then .ok (1, some ⟨2, 0, p, []⟩)
  else if (nameB (byt l 0) && !digB (byt l 0)) = true then
    if 20 < 1 + cnt nameB (l.drop 1) then .error 4 else .ok (1 + cnt nameB (l.drop 1), some ⟨3, 0, p, l.take (1 + cnt nameB (l.drop 1))⟩)
  else if 0 < signN l then .ok (signN l, some ⟨3, 0, p, l.take (signN l)⟩)
  else if (digB (byt l 0) || (byt l 0 == 45 && decide (1 < l.length) && digB (byt l 1))) = true then
    match valP (l.take (1 + cnt digB (l.drop 1))) with
    | none => .error 4
    | some v => .ok (1 + cnt digB (l.drop 1), some ⟨4, v, p, []⟩)
  else .error 6

/-- A text's tokens, from a place on; or the error and its place. -/
def lexP : Nat → List UInt8 → Nat → Except (Nat × Nat) (List Tok)
  | 0, _, _ => .ok []
  | f + 1, l, p =>
    if l = [] then .ok []
    else match oneP l p with
      | .error e => .error (e, p)
      | .ok (k, none) => lexP f (l.drop k) (p + k)
      | .ok (k, some t) => match lexP f (l.drop k) (p + k) with
        | .error e => .error e
        | .ok ts => .ok (t :: ts)

def tokP (l : List UInt8) : Except (Nat × Nat) (List Tok) := if 4000 < l.length then .error (4, 0) else lexP (l.length + 1) l 0

theorem cnt_pos (p : Int → Bool) (l : List UInt8) (h : l ≠ []) (h1 : p (byt l 0) = true) : 0 < cnt p l := by
  match l, h with
  | c :: r, _ => rw [cnt, if_pos (show p (c.toNat : Int) = true from h1)]; omega

theorem signN_le (l : List UInt8) (h : l ≠ []) : signN l ≤ l.length := by
  have : 0 < l.length := by cases l with | nil => exact absurd rfl h | cons => simp
  unfold signN
  split
  · rename_i h1; omega
  · split <;> omega

theorem oneP_len {l : List UInt8} {p k : Nat} {o : Option Tok} (hne : l ≠ []) (h : oneP l p = .ok (k, o)) : 0 < k ∧ k ≤ l.length := by
  have hl : 0 < l.length := by cases l with | nil => exact absurd rfl hne | cons => simp
  have hd : ∀ q, 1 + cnt q (l.drop 1) ≤ l.length := fun q => by have := cnt_le q (l.drop 1); rw [List.length_drop] at this; omega
  unfold oneP at h
  split at h
  · rename_i h1; cases h; exact ⟨cnt_pos _ _ hne h1, cnt_le _ _⟩
  · split at h
    · rename_i h1
      cases h
      refine ⟨cnt_pos _ _ hne ?_, cnt_le _ _⟩
      unfold lineB; rw [h1]; decide
    · split at h
      · cases h; omega
      · split at h
        · cases h; omega
        · split at h
          · split at h
            · cases h
            · cases h; exact ⟨by omega, hd _⟩
          · split at h
            · rename_i h1; cases h; exact ⟨h1, signN_le _ hne⟩
            · split at h
              · split at h
                · cases h
                · cases h; exact ⟨by omega, hd _⟩
              · cases h

/-- More fuel is no other. -/
theorem lexP_fuel : ∀ (f : Nat) (l : List UInt8) (p : Nat), l.length < f → lexP f l p = lexP (l.length + 1) l p := by
  intro f
  induction f using Nat.strongRecOn with
  | _ f ih =>
    intro l p hf
    match f, hf with
    | f + 1, hf =>
      by_cases hl : l = []
      · subst hl; rw [lexP, if_pos rfl, lexP, if_pos rfl]
      · rw [lexP, if_neg hl, lexP, if_neg hl]
        cases h1 : oneP l p with
        | error e => rfl
        | ok q =>
          obtain ⟨k, o⟩ := q
          obtain ⟨hk1, hk2⟩ := oneP_len hl h1
          have hd : (l.drop k).length = l.length - k := List.length_drop
          have hpos : 0 < l.length := by omega
          have e : lexP f (l.drop k) (p + k) = lexP l.length (l.drop k) (p + k) := by
            rw [ih f (by omega) (l.drop k) (p + k) (by omega)]
            by_cases hfl : l.length < f + 1
            · rcases Nat.lt_or_ge l.length (f + 1) with h2 | h2
              · exact (ih l.length (by omega) (l.drop k) (p + k) (by omega)).symm
              · omega
            · omega
          cases o with
          | none => simp only; exact e
          | some t => simp only; rw [e]

/-- Tokens ahead. -/
def pref (ts : List Tok) : Except (Nat × Nat) (List Tok) → Except (Nat × Nat) (List Tok)
  | .error e => .error e
  | .ok us => .ok (ts ++ us)

/-- What is left to be read, behind so many tokens. -/
def Left (L : List UInt8) (ts : List Tok) (p : Nat) : Prop := pref ts (lexP ((L.drop p).length + 1) (L.drop p) p) = lexP (L.length + 1) L 0

theorem Left.zero (L : List UInt8) : Left L [] 0 := by
  unfold Left
  rw [List.drop_zero]
  cases lexP (L.length + 1) L 0 with
  | error e => rfl
  | ok us => rfl

theorem Left.last {L : List UInt8} {ts : List Tok} {p : Nat} (h : Left L ts p) (hp : L.length ≤ p) : lexP (L.length + 1) L 0 = .ok ts := by
  unfold Left at h
  rw [List.drop_eq_nil_of_le hp, lexP, if_pos rfl] at h
  rw [← h]
  simp [pref]

theorem Left.err {L : List UInt8} {ts : List Tok} {p e : Nat} (h : Left L ts p) (hp : p < L.length) (h1 : oneP (L.drop p) p = .error e) : lexP (L.length + 1) L 0 = .error (e, p) := by
  unfold Left at h
  have hne : L.drop p ≠ [] := fun h0 => by have := congrArg List.length h0; rw [List.length_drop] at this; simp at this; omega
  rw [lexP, if_neg hne, h1] at h
  exact h.symm

theorem Left.skip {L : List UInt8} {ts : List Tok} {p k : Nat} (h : Left L ts p) (hp : p < L.length) (h1 : oneP (L.drop p) p = .ok (k, none)) : Left L ts (p + k) := by
  unfold Left at *
  have hne : L.drop p ≠ [] := fun h0 => by have := congrArg List.length h0; rw [List.length_drop] at this; simp at this; omega
  obtain ⟨hk1, hk2⟩ := oneP_len hne h1
  rw [lexP, if_neg hne, h1] at h
  simp only [List.drop_drop] at h
  rw [← h, lexP_fuel ((L.drop p).length) (L.drop (p + k)) (p + k) (by rw [List.length_drop, List.length_drop] at *; omega)]

theorem Left.tok {L : List UInt8} {ts : List Tok} {p k : Nat} {t : Tok} (h : Left L ts p) (hp : p < L.length) (h1 : oneP (L.drop p) p = .ok (k, some t)) : Left L (ts ++ [t]) (p + k) := by
  unfold Left at *
  have hne : L.drop p ≠ [] := fun h0 => by have := congrArg List.length h0; rw [List.length_drop] at this; simp at this; omega
  obtain ⟨hk1, hk2⟩ := oneP_len hne h1
  rw [lexP, if_neg hne, h1] at h
  simp only [List.drop_drop] at h
  rw [← h, lexP_fuel ((L.drop p).length) (L.drop (p + k)) (p + k) (by rw [List.length_drop, List.length_drop] at *; omega)]
  cases lexP ((L.drop (p + k)).length + 1) (L.drop (p + k)) (p + k) with
  | error e => rfl
  | ok us => simp [pref]

#print axioms Left.tok
end Go.Proofs.YthhgphokbgpaiabDoor
