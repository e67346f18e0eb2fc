/- What forms.Parse answers: the forms of a row of tokens. -/
import Derived.Test.YthhgphokbgpaiabDoorFo
namespace Go.Proofs.YthhgphokbgpaiabDoor
open Go.RowKit

/-- What a token does to the lists that are open (the nearest one ahead) and the nearest row; or the error. -/
def takeF (up : List (List Fm)) (cur : List Fm) (t : Tok) : Except Nat (List (List Fm) × List Fm) :=
  if t.kind = 1 then (if up.length = 30 then .error 5 else .ok (cur :: up, []))
  else if t.kind = 2 then (match up with
    | [] => .error 7
    | u :: r => .ok (r, u ++ [⟨3, 0, [], cur⟩]))
  else if t.kind = 3 then .ok (up, cur ++ [⟨1, 0, t.s, []⟩])
  else .ok (up, cur ++ [⟨2, t.n, [], []⟩])

def runF : List Tok → List (List Fm) → List Fm → Except (Nat × Nat) (List (List Fm) × List Fm)
  | [], up, cur => .ok (up, cur)
  | t :: ts, up, cur => match takeF up cur t with
    | .error e => .error (e, t.at')
    | .ok (up', cur') => runF ts up' cur'

/-- A text's forms; or the error and its place. -/
def parP (L : List UInt8) : Except (Nat × Nat) (List Fm) :=
  match tokP L with
  | .error e => .error e
  | .ok ts => match runF ts [] [] with
    | .error e => .error e
    | .ok ([], cur) => .ok cur
    | .ok (_ :: _, _) => .error (7, L.length)

/-- A token that may be. -/
def TokOk (t : Tok) : Prop := (t.kind = 1 ∨ t.kind = 2 ∨ t.kind = 3 ∨ t.kind = 4) ∧ I64 t.n

theorem valP_i64 {l : List UInt8} {v : Int} (h : valP l = some v) : -4611686018427387904 ≤ v ∧ v ≤ 4611686018427387904 := by
  unfold valP at h
  split at h
  · split at h
    · rename_i h1; cases h; exact h1
    · cases h
  · cases h

theorem oneP_ok {l : List UInt8} {p k : Nat} {t : Tok} (h : oneP l p = .ok (k, some t)) : TokOk t := by
  have z : I64 0 := by unfold I64; omega
  unfold oneP at h
  split at h
  · cases h
  split at h
  · cases h
  split at h
  · cases h; exact ⟨Or.inl rfl, z⟩
  split at h
  · cases h; exact ⟨Or.inr (Or.inl rfl), z⟩
  split at h
  · split at h
    · cases h
    · cases h; exact ⟨Or.inr (Or.inr (Or.inl rfl)), z⟩
  split at h
  · cases h; exact ⟨Or.inr (Or.inr (Or.inl rfl)), z⟩
  split at h
  · split at h
    · cases h
    · rename_i hv
      cases h
      have := valP_i64 hv
      exact ⟨Or.inr (Or.inr (Or.inr rfl)), by unfold I64; simp only; omega⟩
  · cases h

theorem lexP_ok : ∀ (f : Nat) (l : List UInt8) (p : Nat) (ts : List Tok), lexP f l p = .ok ts → (∀ t ∈ ts, TokOk t) ∧ ts.length ≤ l.length := by
  intro f
  induction f with
  | zero => intro l p ts h; rw [lexP] at h; cases h; simp
  | succ f ih =>
    intro l p ts h
    rw [lexP] at h
    split at h
    · cases h; simp
    · rename_i hne
      split at h
      · cases h
      · rename_i k h1
        have hk := oneP_len hne h1
        have := ih _ _ _ h
        rw [List.length_drop] at this
        exact ⟨this.1, by omega⟩
      · rename_i k t h1
        have hk := oneP_len hne h1
        split at h
        · cases h
        · rename_i ts' h2
          cases h
          have := ih _ _ _ h2
          rw [List.length_drop] at this
          refine ⟨fun x hx => ?_, by rw [List.length_cons]; omega⟩
          rcases List.mem_cons.1 hx with rfl | hx
          · exact oneP_ok h1
          · exact this.1 x hx

theorem tokP_ok {L : List UInt8} {ts : List Tok} (h : tokP L = .ok ts) : (∀ t ∈ ts, TokOk t) ∧ ts.length ≤ 4000 := by
  unfold tokP at h
  split at h
  · cases h
  · have := lexP_ok _ _ _ _ h
    exact ⟨this.1, by omega⟩

theorem oneP_err {l : List UInt8} {p e : Nat} (h : oneP l p = .error e) : e ≠ 0 := by
  unfold oneP at h
  repeat' split at h
  all_goals first | (cases h; decide) | cases h

theorem lexP_err : ∀ (f : Nat) (l : List UInt8) (p : Nat) (x : Nat × Nat), lexP f l p = .error x → x.1 ≠ 0 := by
  intro f
  induction f with
  | zero => intro l p x h; rw [lexP] at h; cases h
  | succ f ih =>
    intro l p x h
    rw [lexP] at h
    split at h
    · cases h
    · split at h
      · rename_i h1; cases h; exact oneP_err h1
      · exact ih _ _ _ h
      · split at h
        · rename_i h1; cases h; exact ih _ _ _ h1
        · cases h

theorem tok_err0 {L : List UInt8} {e p : Nat} (h : tokP L = .error (e, p)) : e ≠ 0 := by
  unfold tokP at h
  split at h
  · cases h; decide
  · exact lexP_err _ _ _ _ h

/-- What is left of the tokens behind the first k. -/
theorem runF_drop {ts : List Tok} {k : Nat} (hk : k < ts.length) (up : List (List Fm)) (cur : List Fm) : runF (ts.drop k) up cur = match takeF up cur ts[k] with
    | .error e => .error (e, ts[k].at')
    | .ok (up', cur') => runF (ts.drop (k + 1)) up' cur' := by
  rw [List.drop_eq_getElem_cons hk, runF]

theorem takeF_len {up up' : List (List Fm)} {cur cur' : List Fm} {t : Tok} {N : Nat} (h : takeF up cur t = .ok (up', cur')) (h1 : cur.length ≤ N) (h2 : ∀ u ∈ up, u.length ≤ N) (h3 : up.length ≤ 30) : cur'.length ≤ N + 1 ∧ (∀ u ∈ up', u.length ≤ N + 1) ∧ up'.length ≤ 30 := by
  have h4 : ∀ u ∈ up, u.length ≤ N + 1 := fun u hu => by have := h2 u hu; omega
  unfold takeF at h
  split at h
  · split at h
    · cases h
    · cases h
      refine ⟨by simp, fun u hu => ?_, by rw [List.length_cons]; omega⟩
      rcases List.mem_cons.1 hu with rfl | hu
      · omega
      · exact h4 u hu
  split at h
  · split at h
    · cases h
    · rename_i u r
      cases h
      have := h2 u (by simp)
      refine ⟨by rw [List.length_append, List.length_singleton]; omega, fun x hx => h4 x (by simp [hx]), by rw [List.length_cons] at h3; omega⟩
  split at h
  · cases h; exact ⟨by rw [List.length_append, List.length_singleton]; omega, h4, h3⟩
  · cases h; exact ⟨by rw [List.length_append, List.length_singleton]; omega, h4, h3⟩
#print axioms takeF_len
end Go.Proofs.YthhgphokbgpaiabDoor
