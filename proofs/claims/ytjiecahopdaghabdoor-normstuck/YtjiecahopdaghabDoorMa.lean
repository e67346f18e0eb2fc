/- within, Arity, Binders, kid: what Make leans on. -/
import Derived.Test.YtjiecahopdaghabDoorWa
namespace Go.Proofs.YtjiecahopdaghabDoor
open Go.RowKit

theorem tmodn (a n : Int) (h : 0 < n) : -n < a.tmod n ∧ a.tmod n < n := by
  constructor
  · have := Int.lt_tmod_of_pos a h; omega
  · exact Int.tmod_lt_of_pos a h

theorem wi_n (a n : Int) (h : 0 < n) : 0 ≤ wi a n ∧ wi a n < n := by
  have := tmodn a n h
  unfold wi; split <;> omega

/-- How many kids an Op has. -/
def ar (op : Int) : Nat :=
  if op = 13 then 4 else if op = 7 ∨ op = 27 then 3 else if op = 1 ∨ op = 2 ∨ op = 10 ∨ op = 11 ∨ op = 14 ∨ op = 15 ∨ op = 25 then 0
  else if op = 8 ∨ op = 9 ∨ op = 12 ∨ op = 18 ∨ op = 19 ∨ op = 23 ∨ op = 24 ∨ op = 30 then 1 else 2

theorem ops30 {op : Int} (h1 : 1 ≤ op) (h2 : op ≤ 30) : op = 1 ∨ op = 2 ∨ op = 3 ∨ op = 4 ∨ op = 5 ∨ op = 6 ∨ op = 7 ∨ op = 8 ∨ op = 9 ∨ op = 10 ∨ op = 11 ∨ op = 12 ∨ op = 13 ∨ op = 14 ∨ op = 15 ∨ op = 16 ∨ op = 17 ∨ op = 18 ∨ op = 19 ∨ op = 20 ∨ op = 21 ∨ op = 22 ∨ op = 23 ∨ op = 24 ∨ op = 25 ∨ op = 26 ∨ op = 27 ∨ op = 28 ∨ op = 29 ∨ op = 30 := by omega

theorem ar_le (op : Int) : ar op ≤ 4 := by unfold ar; repeat' (first | omega | split)

set_option maxHeartbeats 4000000 in
theorem arity_any (op : Int) (w : World) (h1 : 1 ≤ op) (h2 : op ≤ 30) :
    Calls Tryd.prog 64 #[.int .i64 op] w fun e w' => e = .returned (.int .i64 (ar op : Nat)) ∧ w' = w := by
  rcases ops30 h1 h2 with rfl | rfl | rfl | rfl | rfl | rfl | rfl | rfl | rfl | rfl | rfl | rfl | rfl | rfl | rfl | rfl | rfl | rfl | rfl | rfl | rfl | rfl | rfl | rfl | rfl | rfl | rfl | rfl | rfl | rfl
  all_goals
    clear h1 h2
    go_enter Tryd.func64, Tryd.ntmps64
    go_wp2
    go_ret
    exact ⟨rfl, rfl⟩

set_option maxHeartbeats 8000000 in
theorem binders_any (op k : Int) (w : World) (h1 : 1 ≤ op) (h2 : op ≤ 30) :
    Calls Tryd.prog 45 #[.int .i64 op, .int .i64 k] w fun e w' => ∃ b : Int, e = .returned (.int .i64 b) ∧ 0 ≤ b ∧ b ≤ 2 ∧ w' = w := by
  rcases ops30 h1 h2 with rfl | rfl | rfl | rfl | rfl | rfl | rfl | rfl | rfl | rfl | rfl | rfl | rfl | rfl | rfl | rfl | rfl | rfl | rfl | rfl | rfl | rfl | rfl | rfl | rfl | rfl | rfl | rfl | rfl | rfl
  all_goals
    clear h1 h2
    go_enter Tryd.func45, Tryd.ntmps45
    go_wp2
    all_goals
      go_ret
      exact ⟨_, rfl, by decide, by decide, rfl⟩

#print axioms arity_any
end Go.Proofs.YtjiecahopdaghabDoor
