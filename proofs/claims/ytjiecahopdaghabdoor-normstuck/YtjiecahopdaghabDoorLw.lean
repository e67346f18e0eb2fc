/- within. -/
import Derived.Test.YtjiecahopdaghabDoorMa
namespace Go.Proofs.YtjiecahopdaghabDoor
open Go.RowKit

theorem lwithin_n (a n : Int) (w : World) (hn : 0 < n) (hn2 : n ≤ 1000000) :
    Calls Tryd.prog 9 #[.int .i64 a, .int .i64 n] w fun e w' => e = .returned (.int .i64 (wi a n)) ∧ w' = w := by
  have h := tmodn a n hn
  have h0 : (n == 0) = false := beq_eq_false_iff_ne.2 (by omega)
  by_cases hlt : a.tmod n < 0
  · go_enter Tryd.func9, Tryd.ntmps9
    go_wp2
    go_ret
    exact ⟨ret_int (by rw [wi, if_pos hlt]), rfl⟩
  · go_enter Tryd.func9, Tryd.ntmps9
    go_wp2
    go_ret
    exact ⟨ret_int (by rw [wi, if_neg (by omega)]), rfl⟩
theorem wi_nat (a n : Int) (hn : 0 < n) : ∃ k : Nat, wi a n = (k : Nat) ∧ (k : Int) < n := ⟨(wi a n).toNat, by have := wi_n a n hn; omega, by have := wi_n a n hn; omega⟩
#print axioms wi_nat
end Go.Proofs.YtjiecahopdaghabDoor
