/- What forms.Text answers. -/
import Derived.Test.YthhgphokbgpaiabDoorCp
import Derived.Lib.ItoaNum
namespace Go.Proofs.YthhgphokbgpaiabDoor
open Go.RowKit

def joinF (c : Fm → List UInt8) : List Fm → List UInt8
  | [] => []
  | [t] => c t
  | t :: u :: r => c t ++ 32 :: joinF c (u :: r)

/-- A form as a text, so deep at most. -/
def txtF : Nat → Fm → List UInt8
  | 0, _ => []
  | f + 1, t => if t.kind = 1 then t.s else if t.kind = 2 then Lib.itoa t.n else 40 :: (joinF (txtF f) t.l ++ [41])

def txtP (t : Fm) : List UInt8 := if chkP t = 0 then txtF 31 t else []

theorem joinF_snoc (c : Fm → List UInt8) (t : Fm) : ∀ l : List Fm, joinF c (l ++ [t]) = joinF c l ++ (if l = [] then [] else [32]) ++ c t
  | [] => by simp [joinF]
  | [u] => by simp [joinF]
  | u :: v :: r => by
    have ih := joinF_snoc c t (v :: r)
    rw [List.cons_append, List.cons_append, joinF, ← List.cons_append, ih, joinF]
    simp

theorem joinF_take (c : Fm → List UInt8) (l : List Fm) (k : Nat) (hk : k < l.length) : joinF c (l.take (k + 1)) = joinF c (l.take k) ++ (if k = 0 then [] else [32]) ++ c l[k] := by
  rw [List.take_succ_eq_append_getElem hk, joinF_snoc]
  congr 2
  by_cases h : k = 0
  · subst h; simp
  · rw [if_neg h, if_neg (fun e => by have := congrArg List.length e; rw [List.length_take, List.length_nil] at this; omega)]

theorem joinF_le (c : Fm → List UInt8) (l : List Fm) (k : Nat) (hk : k ≤ l.length) : (joinF c (l.take k)).length ≤ (joinF c l).length := by
  have key : ∀ d, k + d ≤ l.length → (joinF c (l.take k)).length ≤ (joinF c (l.take (k + d))).length := by
    intro d
    induction d with
    | zero => intro _; exact Nat.le_refl _
    | succ d ih =>
      intro h
      have h1 := ih (by omega)
      rw [show k + (d + 1) = (k + d) + 1 by omega, joinF_take c l (k + d) (by omega)]
      simp only [List.length_append]
      omega
  have := key (l.length - k) (by omega)
  rwa [show k + (l.length - k) = l.length by omega, List.take_length] at this

/-- A form whose kinds may be, so deep at most. -/
def Wok : Nat → Fm → Prop
  | 0, _ => False
  | n + 1, t => t.kind = 1 ∨ t.kind = 2 ∨ (t.kind = 3 ∧ ∀ k ∈ t.l, Wok n k)

theorem chkL_zero {c : Fm → Nat → Nat} {d : Nat} : ∀ {l : List Fm}, chkL c l d = 0 → ∀ t ∈ l, c t d = 0
  | [], _, t, ht => by cases ht
  | u :: r, h, t, ht => by
    rw [chkL] at h
    split at h
    · rename_i h1
      rcases List.mem_cons.1 ht with rfl | ht
      · exact h1
      · exact chkL_zero h t ht
    · rename_i h1; exact absurd h h1

theorem wok_of : ∀ (n d : Nat) (t : Fm), n + d = 32 → chkF n t d = 0 → 1 ≤ n → Wok n t := by
  intro n
  induction n with
  | zero => intro d t _ _ h; omega
  | succ n ih =>
    intro d t hd h _
    rw [chkF] at h
    split at h
    · rename_i h1
      by_cases hk : t.kind = 3
      · rw [if_pos hk] at h
        have hdd := faultP_deep h1 hk
        exact Or.inr (Or.inr ⟨hk, fun k hk => ih (d + 1) k (by omega) (chkL_zero h k hk) (by omega)⟩)
      · unfold faultP at h1
        split at h1
        · exact Or.inl ‹_›
        · split at h1
          · exact Or.inr (Or.inl ‹_›)
          · cases h1
    · rename_i h1; exact absurd h h1

theorem wok_chk {t : Fm} (h : chkP t = 0) : Wok 31 t := wok_of 31 1 t rfl h (by omega)

theorem decDigits_ne (n : Nat) : Lib.decDigits n ≠ [] := by
  unfold Lib.decDigits
  split <;> simp

theorem itoa_ne (n : Int) : Lib.itoa n ≠ [] := by
  unfold Lib.itoa
  split
  · simp
  · exact decDigits_ne _

theorem nameOK_ne {l : List UInt8} (h : nameOK l = true) : l ≠ [] := by
  intro e
  subst e
  have : nameOK [] = false := by kernel_rfl
  rw [this] at h; cases h

theorem txt_ne {t : Fm} (h : chkP t = 0) : txtF 31 t ≠ [] := by
  rw [txtF]
  split
  · rename_i hk
    unfold chkP at h
    rw [chkF] at h
    unfold faultP at h
    rw [if_pos hk] at h
    by_cases hn : nameOK t.s = true
    · exact nameOK_ne hn
    · rw [if_neg hn] at h; simp at h
  · split
    · exact itoa_ne _
    · simp
#print axioms txt_ne
end Go.Proofs.YthhgphokbgpaiabDoor
