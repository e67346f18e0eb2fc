/- What forms.Check answers. -/
import Derived.Test.YthhgphokbgpaiabDoorFa
namespace Go.Proofs.YthhgphokbgpaiabDoor
open Go.RowKit

def chkL (c : Fm → Nat → Nat) : List Fm → Nat → Nat
  | [], _ => 0
  | t :: r, d => if c t d = 0 then chkL c r d else c t d

/-- The first error of a form, so deep as a list would stand. -/
def chkF : Nat → Fm → Nat → Nat
  | 0, _, _ => 0
  | f + 1, t, d => if faultP t d = 0 then (if t.kind = 3 then chkL (chkF f) t.l (d + 1) else 0) else faultP t d

def chkP (t : Fm) : Nat := chkF 31 t 1

/-- .. of the rows that are open, the nearest one ahead. -/
def chkS : List (List Fm) → Nat
  | [] => 0
  | r :: up => if chkL (chkF (31 - up.length)) r (up.length + 1) = 0 then chkS up else chkL (chkF (31 - up.length)) r (up.length + 1)

theorem chkS_nil (up : List (List Fm)) : chkS ([] :: up) = chkS up := by rw [chkS, chkL, if_pos rfl]

theorem faultP_deep {t : Fm} {d : Nat} (h : faultP t d = 0) (hk : t.kind = 3) : d ≤ 30 := by
  unfold faultP at h
  rw [if_neg (by rw [hk]; decide), if_neg (by rw [hk]; decide), if_pos hk] at h
  split at h
  · cases h
  · omega

theorem chkS_fault {t : Fm} {r : List Fm} {up : List (List Fm)} (hu : up.length ≤ 30) (h : faultP t (up.length + 1) ≠ 0) : chkS ((t :: r) :: up) = faultP t (up.length + 1) := by
  rw [chkS, chkL, show 31 - up.length = (30 - up.length) + 1 by omega, chkF, if_neg h, if_neg h, if_neg h]

theorem chkS_leaf {t : Fm} {r : List Fm} {up : List (List Fm)} (hu : up.length ≤ 30) (h : faultP t (up.length + 1) = 0) (hk : t.kind ≠ 3) : chkS ((t :: r) :: up) = chkS (r :: up) := by
  have e : chkF (31 - up.length) t (up.length + 1) = 0 := by rw [show 31 - up.length = (30 - up.length) + 1 by omega, chkF, if_pos h, if_neg hk]
  rw [chkS, chkL, if_pos e, chkS]

theorem chkS_list {t : Fm} {r : List Fm} {up : List (List Fm)} (hu : up.length ≤ 30) (h : faultP t (up.length + 1) = 0) (hk : t.kind = 3) : chkS ((t :: r) :: up) = chkS (t.l :: r :: up) := by
  have hd := faultP_deep h hk
  have e : chkF (31 - up.length) t (up.length + 1) = chkL (chkF (30 - up.length)) t.l (up.length + 2) := by rw [show 31 - up.length = (30 - up.length) + 1 by omega, chkF, if_pos h, if_pos hk]
  rw [chkS, chkL, e, chkS, List.length_cons, show 31 - (up.length + 1) = 30 - up.length by omega]
  by_cases h0 : chkL (chkF (30 - up.length)) t.l (up.length + 2) = 0
  · rw [if_pos h0, if_pos h0, chkS]
  · rw [if_neg h0, if_neg h0, if_neg h0]

theorem chkS_one (t : Fm) : chkS [[t]] = chkP t := by
  rw [chkS, chkL, chkL, chkS]
  show (if (if chkF 31 t 1 = 0 then 0 else chkF 31 t 1) = 0 then 0 else (if chkF 31 t 1 = 0 then 0 else chkF 31 t 1)) = chkP t
  unfold chkP
  by_cases h : chkF 31 t 1 = 0
  · rw [if_pos h, h]; rfl
  · rw [if_neg h, if_neg h]

/-- How much is left. -/
def left (st : List (List Fm)) : Nat := 2 * (st.map (fun r => (r.map Fm.size).sum)).sum + st.length

theorem left_pop (r : List Fm) (up : List (List Fm)) : left up < left (r :: up) := by
  unfold left; rw [List.map_cons, List.sum_cons, List.length_cons]; omega

theorem left_push (t : Fm) (r : List Fm) (up : List (List Fm)) : left (t.l :: r :: up) < left ((t :: r) :: up) := by
  unfold left
  simp only [List.map_cons, List.sum_cons, List.length_cons]
  have := t.size_eq
  omega

theorem left_drop (r : List Fm) (k : Nat) (up : List (List Fm)) : left (r.drop k :: up) ≤ left (r :: up) := by
  unfold left
  simp only [List.map_cons, List.sum_cons, List.length_cons]
  have h := congrArg (fun l => (l.map Fm.size).sum) (List.take_append_drop k r)
  simp only [List.map_append, List.sum_append] at h
  omega
#print axioms chkS_list
end Go.Proofs.YthhgphokbgpaiabDoor
