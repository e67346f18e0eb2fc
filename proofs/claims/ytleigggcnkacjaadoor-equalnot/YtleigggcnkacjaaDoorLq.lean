/- A law of integers: at every choice. -/
import Derived.Test.YtleigggcnkacjaaDoorAw
import Derived.Test.YtleigggcnkacjaaDoorAk49
import Derived.Test.YtleigggcnkacjaaDoorLqa
import Derived.Test.YtleigggcnkacjaaDoorLqb
import Derived.Test.YtleigggcnkacjaaDoorLqc
import Derived.Test.YtleigggcnkacjaaDoorLqd
import Derived.Test.YtleigggcnkacjaaDoorLqe
import Derived.Test.YtleigggcnkacjaaDoorLqf
namespace Go.Proofs.YtleigggcnkacjaaDoor.Ab
open Go.RowKit

theorem at0 {a : Int} (e : wi a 6 = ((0 : Nat) : Int)) : ∀ (i : Nat) (m k : Int), [(6 : Int)][i]? = some m → [(0 : Int)][i]? = some k → ∃ b, (fun i => Value.int .i64 ([a].getD i 0)) i = .int .i64 b ∧ wi b m = k ∧ 0 < m ∧ m ≤ 1000000 := fun i m k h1 h2 => by
  match i, h1, h2 with
  | 0, h1, h2 =>
    simp only [List.getElem?_cons_zero, Option.some.injEq] at h1 h2
    subst h1; subst h2
    exact ⟨a, rfl, e, by decide, by decide⟩
  | i + 1, h1, h2 => simp at h1
theorem at1 {a : Int} (e : wi a 6 = ((1 : Nat) : Int)) : ∀ (i : Nat) (m k : Int), [(6 : Int)][i]? = some m → [(1 : Int)][i]? = some k → ∃ b, (fun i => Value.int .i64 ([a].getD i 0)) i = .int .i64 b ∧ wi b m = k ∧ 0 < m ∧ m ≤ 1000000 := fun i m k h1 h2 => by
  match i, h1, h2 with
  | 0, h1, h2 =>
    simp only [List.getElem?_cons_zero, Option.some.injEq] at h1 h2
    subst h1; subst h2
    exact ⟨a, rfl, e, by decide, by decide⟩
  | i + 1, h1, h2 => simp at h1
theorem at2 {a : Int} (e : wi a 6 = ((2 : Nat) : Int)) : ∀ (i : Nat) (m k : Int), [(6 : Int)][i]? = some m → [(2 : Int)][i]? = some k → ∃ b, (fun i => Value.int .i64 ([a].getD i 0)) i = .int .i64 b ∧ wi b m = k ∧ 0 < m ∧ m ≤ 1000000 := fun i m k h1 h2 => by
  match i, h1, h2 with
  | 0, h1, h2 =>
    simp only [List.getElem?_cons_zero, Option.some.injEq] at h1 h2
    subst h1; subst h2
    exact ⟨a, rfl, e, by decide, by decide⟩
  | i + 1, h1, h2 => simp at h1
theorem at3 {a : Int} (e : wi a 6 = ((3 : Nat) : Int)) : ∀ (i : Nat) (m k : Int), [(6 : Int)][i]? = some m → [(3 : Int)][i]? = some k → ∃ b, (fun i => Value.int .i64 ([a].getD i 0)) i = .int .i64 b ∧ wi b m = k ∧ 0 < m ∧ m ≤ 1000000 := fun i m k h1 h2 => by
  match i, h1, h2 with
  | 0, h1, h2 =>
    simp only [List.getElem?_cons_zero, Option.some.injEq] at h1 h2
    subst h1; subst h2
    exact ⟨a, rfl, e, by decide, by decide⟩
  | i + 1, h1, h2 => simp at h1
theorem at4 {a : Int} (e : wi a 6 = ((4 : Nat) : Int)) : ∀ (i : Nat) (m k : Int), [(6 : Int)][i]? = some m → [(4 : Int)][i]? = some k → ∃ b, (fun i => Value.int .i64 ([a].getD i 0)) i = .int .i64 b ∧ wi b m = k ∧ 0 < m ∧ m ≤ 1000000 := fun i m k h1 h2 => by
  match i, h1, h2 with
  | 0, h1, h2 =>
    simp only [List.getElem?_cons_zero, Option.some.injEq] at h1 h2
    subst h1; subst h2
    exact ⟨a, rfl, e, by decide, by decide⟩
  | i + 1, h1, h2 => simp at h1
theorem at5 {a : Int} (e : wi a 6 = ((5 : Nat) : Int)) : ∀ (i : Nat) (m k : Int), [(6 : Int)][i]? = some m → [(5 : Int)][i]? = some k → ∃ b, (fun i => Value.int .i64 ([a].getD i 0)) i = .int .i64 b ∧ wi b m = k ∧ 0 < m ∧ m ≤ 1000000 := fun i m k h1 h2 => by
  match i, h1, h2 with
  | 0, h1, h2 =>
    simp only [List.getElem?_cons_zero, Option.some.injEq] at h1 h2
    subst h1; subst h2
    exact ⟨a, rfl, e, by decide, by decide⟩
  | i + 1, h1, h2 => simp at h1
theorem anyLq (a0 : Int) (W : World) (h : BndAt W) : Calls Tryd.prog 17 #[.int .i64 a0] W fun e w' => e = .returned (.bool true) ∧ Below W.heap.size W w' := by
  obtain ⟨k0, e, l0⟩ := wi_nat a0 6 (by decide)
  have arg : RL (bareC (fun i => Value.int .i64 ([a0].getD i 0)) W) [AV.sym 0] [.int .i64 a0] := ⟨rv_sym (C := bareC _ W) (a := 0), trivial⟩
  match k0, e, l0 with
  | 0, e, _ => exact law_true (S := fun i => .int .i64 ([a0].getD i 0)) tabsB_ok tabsB_zero no_num mixed codes tabsB_fns (extOr_ok known49 (extOr_ok extMqa (extOr_ok extMqb (extOr_ok extMqc (ext53 (at0 e)))))) rLq_0 (globs_ok h) arg
  | 1, e, _ => exact law_true (S := fun i => .int .i64 ([a0].getD i 0)) tabsB_ok tabsB_zero no_num mixed codes tabsB_fns (extOr_ok known49 (extOr_ok extMqd (extOr_ok extMqe (extOr_ok extMqf (ext53 (at1 e)))))) rLq_1 (globs_ok h) arg
  | 2, e, _ => exact law_true (S := fun i => .int .i64 ([a0].getD i 0)) tabsB_ok tabsB_zero no_num mixed codes tabsB_fns (extOr_ok known49 (ext53 (at2 e))) rLq_2 (globs_ok h) arg
  | 3, e, _ => exact law_true (S := fun i => .int .i64 ([a0].getD i 0)) tabsB_ok tabsB_zero no_num mixed codes tabsB_fns (extOr_ok known49 (extOr_ok extMqg (extOr_ok extMqh (extOr_ok extMqi (ext53 (at3 e)))))) rLq_3 (globs_ok h) arg
  | 4, e, _ => exact law_true (S := fun i => .int .i64 ([a0].getD i 0)) tabsB_ok tabsB_zero no_num mixed codes tabsB_fns (extOr_ok known49 (extOr_ok extMqj (extOr_ok extMqk (extOr_ok extMql (ext53 (at4 e)))))) rLq_4 (globs_ok h) arg
  | 5, e, _ => exact law_true (S := fun i => .int .i64 ([a0].getD i 0)) tabsB_ok tabsB_zero no_num mixed codes tabsB_fns (extOr_ok known49 (ext53 (at5 e))) rLq_5 (globs_ok h) arg
  | k + 6, _, h => omega
#print axioms anyLq
end Go.Proofs.YtleigggcnkacjaaDoor.Ab
