/- Aw, Abc: the texts of these names, one behind the other. -/
import Derived.Test.YthklnpkjlepagaaGreatDoorQp
import Derived.Test.YthklnpkjlepagaaGreatDoorChecked
import Derived.Test.YthklnpkjlepagaaGreatDoorAbt
namespace Go.Proofs.YthklnpkjlepagaaGreatDoor.Ab
open Go.RowKit

def wi (a n : Int) : Int := if a.tmod n < 0 then a.tmod n + n else a.tmod n
theorem tmodn (a n : Int) (h : 0 < n) : -n < a.tmod n ∧ a.tmod n < n := by
  constructor
  · have := Int.lt_tmod_of_pos a h; omega
  · exact Int.tmod_lt_of_pos a h
theorem wi_n (a n : Int) (h : 0 < n) : 0 ≤ wi a n ∧ wi a n < n := by
  have := tmodn a n h
  unfold wi; split <;> omega
theorem wi_nat (a n : Int) (hn : 0 < n) : ∃ k : Nat, wi a n = (k : Nat) ∧ (k : Int) < n := ⟨(wi a n).toNat, by have := wi_n a n hn; omega, by have := wi_n a n hn; omega⟩
theorem ret_same {a b : Int} (h : a = b) : (Ending.returned (.int .i64 a)) = .returned (.int .i64 b) := by rw [h]

theorem within10 (a n : Int) (w : World) (hn : 0 < n) (hn2 : n ≤ 1000000) : Calls Tryz.prog 10 #[.int .i64 a, .int .i64 n] w fun e w' => e = .returned (.int .i64 (wi a n)) ∧ w' = w := by
  have h := tmodn a n hn
  have h0 : (n == 0) = false := beq_eq_false_iff_ne.2 (by omega)
  by_cases hlt : a.tmod n < 0
  · go_enter Tryz.func10, Tryz.ntmps10
    go_wp2
    go_ret
    exact ⟨ret_same (by rw [wi, if_pos hlt]), rfl⟩
  · go_enter Tryz.func10, Tryz.ntmps10
    go_wp2
    go_ret
    exact ⟨ret_same (by rw [wi, if_neg (by omega)]), rfl⟩
/-- It is known at once, of numbers with names. -/
theorem ext10 {T : Tabs} {S : Nat → Value} {md om : List Int} (h : ∀ (i : Nat) (m k : Int), md[i]? = some m → om[i]? = some k → ∃ a, S i = .int .i64 a ∧ wi a m = k ∧ 0 < m ∧ m ≤ 1000000) : ExtOk Tryz.prog T S (extMod 10 md om) :=
  extMod_ok (by kernel_rfl) fun i m k w h1 h2 => by
    obtain ⟨a, h3, h4, h5, h6⟩ := h i m k h1 h2
    rw [h3, ← h4]
    exact within10 a m w h5 h6
end Go.Proofs.YthklnpkjlepagaaGreatDoor.Ab
namespace Go.Proofs.YthklnpkjlepagaaGreatDoor.Ab
set_option maxRecDepth 100000 in
theorem codes : codesOk Tryz.prog = true := by kernel_rfl
end Go.Proofs.YthklnpkjlepagaaGreatDoor.Ab
