/- The document's Check: the number of a node. -/
import Derived.Test.YtpmaagafcpaajaaDoorCh
namespace Go.Proofs.YtpmaagafcpaajaaDoor
open Go.RowKit
set_option maxRecDepth 20000 in
set_option maxHeartbeats 1000000 in
theorem number_any (op n : Int) (w : World) (hn : I64 n) : Calls Tryd.prog 56 #[.int .i64 op, .int .i64 n] w fun e w' => e = .returned (.bool (decide (loN op ≤ n ∧ n ≤ hiN op))) ∧ w' = w := by
  unfold I64 at hn
  by_cases e1 : op = 1
  · subst e1
    by_cases h0 : 0 ≤ n
    · by_cases h1 : n ≤ 3000
      · go_enter Tryd.func56, Tryd.ntmps56
        go_wp2
        go_ret
        exact ⟨ret_bool (by simp [loN, hiN]; omega), rfl⟩
      · go_enter Tryd.func56, Tryd.ntmps56
        go_wp2
        go_ret
        exact ⟨ret_bool (by simp [loN, hiN]; omega), rfl⟩
    · go_enter Tryd.func56, Tryd.ntmps56
      go_wp2
      go_ret
      exact ⟨ret_bool (by simp [loN, hiN]; omega), rfl⟩
  by_cases e2 : op = 2
  · subst e2
    by_cases h0 : 0 ≤ n
    · by_cases h1 : n ≤ 2
      · go_enter Tryd.func56, Tryd.ntmps56
        go_wp2
        go_ret
        exact ⟨ret_bool (by simp [loN, hiN]; omega), rfl⟩
      · go_enter Tryd.func56, Tryd.ntmps56
        go_wp2
        go_ret
        exact ⟨ret_bool (by simp [loN, hiN]; omega), rfl⟩
    · go_enter Tryd.func56, Tryd.ntmps56
      go_wp2
      go_ret
      exact ⟨ret_bool (by simp [loN, hiN]; omega), rfl⟩
  by_cases e3 : op = 26
  · subst e3
    by_cases h0 : 0 ≤ n
    · by_cases h1 : n ≤ 4
      · go_enter Tryd.func56, Tryd.ntmps56
        go_wp2
        go_ret
        exact ⟨ret_bool (by simp [loN, hiN]; omega), rfl⟩
      · go_enter Tryd.func56, Tryd.ntmps56
        go_wp2
        go_ret
        exact ⟨ret_bool (by simp [loN, hiN]; omega), rfl⟩
    · go_enter Tryd.func56, Tryd.ntmps56
      go_wp2
      go_ret
      exact ⟨ret_bool (by simp [loN, hiN]; omega), rfl⟩
  by_cases e4 : op = 25
  · subst e4
    go_enter Tryd.func56, Tryd.ntmps56
    go_wp2
    go_ret
    exact ⟨ret_bool (by simp [loN, hiN]; omega), rfl⟩
  have b1 := ne_beq e1; have b2 := ne_beq e2; have b3 := ne_beq e3; have b4 := ne_beq e4
  have ev : decide (loN op ≤ n ∧ n ≤ hiN op) = (n == 0) := by
    rw [Bool.eq_iff_iff, decide_eq_true_iff, beq_iff_eq]
    unfold loN hiN
    rw [if_neg e4, if_neg e1, if_neg e2, if_neg e4, if_neg e3]
    omega
  rw [ev]
  clear ev e1 e2 e3 e4
  go_enter Tryd.func56, Tryd.ntmps56
  go_wp2
  go_ret
  exact ⟨rfl, rfl⟩
#print axioms number_any
end Go.Proofs.YtpmaagafcpaajaaDoor
