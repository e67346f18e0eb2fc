/- Forms at their bounds, in so many lists: what Check says. -/
import Derived.Test.YthhgphokbgpaiabDoorKn
namespace Go.Proofs.YthhgphokbgpaiabDoor
open Go.RowKit

/-- A form in so many lists, a nought ahead of it in each. -/
def wrapF (b : Fm) : Nat → Fm
  | 0 => b
  | n + 1 => ⟨3, 0, [], [⟨2, 0, [], []⟩, wrapF b n]⟩

/-- The forms at their bounds. -/
def baseF (x : Nat) (ab : Bool) : Fm :=
  match x, ab with
  | 0, false => ⟨2, 4611686018427387904, [], []⟩
  | 0, true => ⟨2, 4611686018427387905, [], []⟩
  | 1, false => ⟨2, -4611686018427387904, [], []⟩
  | 1, true => ⟨2, -4611686018427387905, [], []⟩
  | 2, false => ⟨1, 0, [45, 62], []⟩
  | 2, true => ⟨1, 0, [45], []⟩
  | 3, false => ⟨1, 0, [97, 98, 99, 100, 101, 102, 103, 104, 105, 106, 107, 108, 109, 110, 111, 112, 113, 114, 115, 116], []⟩
  | 3, true => ⟨1, 0, [97, 98, 99, 100, 101, 102, 103, 104, 105, 106, 107, 108, 109, 110, 111, 112, 113, 114, 115, 116, 117], []⟩
  | 4, false => ⟨1, 0, [120, 57], []⟩
  | 4, true => ⟨1, 0, [57, 120], []⟩
  | _, false => ⟨3, 0, [], []⟩
  | _, true => ⟨4, 0, [], []⟩

def errB (ab : Bool) : Nat := if ab = true then 7 else 0

theorem base_fault (x d : Nat) (ab : Bool) (hx : x < 6) (hd : d ≤ 30) : faultP (baseF x ab) d = errB ab := by
  rcases (show x = 0 ∨ x = 1 ∨ x = 2 ∨ x = 3 ∨ x = 4 ∨ x = 5 by omega) with rfl | rfl | rfl | rfl | rfl | rfl <;> cases ab
  case inr.inr.inr.inr.inr.false =>
    show (if 30 < d then 5 else 0) = 0
    rw [if_neg (by omega)]
  all_goals kernel_rfl

theorem base_kids (x : Nat) (ab : Bool) : (baseF x ab).l = [] := by
  unfold baseF
  split <;> rfl

theorem base_chk (x d n : Nat) (ab : Bool) (hx : x < 6) (hd : d ≤ 30) (hn : 1 ≤ n) : chkF n (baseF x ab) d = errB ab := by
  match n, hn with
  | n + 1, _ =>
    rw [chkF, base_fault x d ab hx hd]
    split
    · rename_i h
      split
      · rw [base_kids, chkL, h]
      · exact h.symm
    · rfl

theorem wrap_chk (x : Nat) (ab : Bool) (hx : x < 6) : ∀ (m n d : Nat), n = 32 - d → m + d ≤ 30 → 1 ≤ d → chkF n (wrapF (baseF x ab) m) d = errB ab := by
  intro m
  induction m with
  | zero => intro n d hn hd h1; exact base_chk x d n ab hx (by omega) (by omega)
  | succ m ih =>
    intro n d hn hd h1
    match n, hn with
    | 0, hn => omega
    | n + 1, hn =>
      have hf : faultP (wrapF (baseF x ab) (m + 1)) d = 0 := by
        show (if 30 < d then 5 else 0) = 0
        rw [if_neg (by omega)]
      rw [chkF, if_pos hf]
      show (if (3 : Int) = 3 then chkL (chkF n) [⟨2, 0, [], []⟩, wrapF (baseF x ab) m] (d + 1) else 0) = errB ab
      rw [if_pos rfl, chkL, chkL, chkL, ih n (d + 1) (by omega) (by omega) (by omega)]
      have h2 : chkF n ⟨2, 0, [], []⟩ (d + 1) = 0 := by
        match n, hn with
        | 0, hn => omega
        | n + 1, _ => rw [chkF]; rfl
      rw [if_pos h2]
      split
      · rename_i h; exact h.symm
      · rfl

theorem wrap_chkP (x m : Nat) (ab : Bool) (hx : x < 6) (hm : m ≤ 20) : chkP (wrapF (baseF x ab) m) = errB ab := wrap_chk x ab hx m 31 1 (by omega) (by omega) (by omega)

theorem base_short (x : Nat) (ab : Bool) : Short (baseF x ab) := fun y hy => by
  rw [Fm.pre_eq, base_kids] at hy
  simp at hy
  subst hy
  unfold baseF
  split <;> simp

theorem wrap_short (x : Nat) (ab : Bool) : ∀ m, Short (wrapF (baseF x ab) m)
  | 0 => base_short x ab
  | m + 1 => fun y hy => by
    rw [Fm.pre_eq] at hy
    rcases List.mem_cons.1 hy with rfl | hy
    · simp [wrapF]
    · obtain ⟨q, hq, hy⟩ := List.mem_flatten.1 hy
      obtain ⟨f, hf, rfl⟩ := List.mem_map.1 hq
      simp only [wrapF, List.mem_cons, List.not_mem_nil, or_false] at hf
      rcases hf with rfl | rfl
      · rw [Fm.pre_eq] at hy
        simp at hy
        subst hy
        simp
      · exact wrap_short x ab m y hy
#print axioms wrap_chkP
end Go.Proofs.YthhgphokbgpaiabDoor
