/- within, Arity, Binders, kid: what Make leans on. -/
import Derived.Test.YtafafeplciidhaaWa
namespace Go.Proofs.Ytafafeplciidhaa
open Go.RowKit

theorem tmodn (a n : Int) (h : 0 < n) : -n < a.tmod n ∧ a.tmod n < n := by
  constructor
  · have := Int.lt_tmod_of_pos a h; omega
  · exact Int.tmod_lt_of_pos a h

theorem wi_n (a n : Int) (h : 0 < n) : 0 ≤ wi a n ∧ wi a n < n := by
  have := tmodn a n h
  unfold wi; split <;> omega

set_option maxHeartbeats 400000 in
theorem within_n (a n : Int) (w : World) (hn : 0 < n) (hn2 : n ≤ 1000000) :
    Calls Try.prog 18 #[.int .i64 a, .int .i64 n] w fun e w' => e = .returned (.int .i64 (wi a n)) ∧ w' = w := by
  have h := tmodn a n hn
  have h0 : (n == 0) = false := beq_eq_false_iff_ne.2 (by omega)
  by_cases hlt : a.tmod n < 0
  · go_enter Try.func18, Try.ntmps18
    go_wp2
    go_ret
    exact ⟨ret_int (by rw [wi, if_pos hlt]), rfl⟩
  · go_enter Try.func18, Try.ntmps18
    go_wp2
    go_ret
    exact ⟨ret_int (by rw [wi, if_neg (by omega)]), rfl⟩

/-- How many kids an Op has. -/
def ar (op : Int) : Nat :=
  if op = 13 then 4 else if op = 7 ∨ op = 27 then 3 else if op = 1 ∨ op = 2 ∨ op = 10 ∨ op = 11 ∨ op = 14 ∨ op = 15 ∨ op = 25 then 0
  else if op = 8 ∨ op = 9 ∨ op = 12 ∨ op = 18 ∨ op = 19 ∨ op = 23 ∨ op = 24 ∨ op = 30 then 1 else 2

theorem ops30 {op : Int} (h1 : 1 ≤ op) (h2 : op ≤ 30) : op = 1 ∨ op = 2 ∨ op = 3 ∨ op = 4 ∨ op = 5 ∨ op = 6 ∨ op = 7 ∨ op = 8 ∨ op = 9 ∨ op = 10 ∨ op = 11 ∨ op = 12 ∨ op = 13 ∨ op = 14 ∨ op = 15 ∨ op = 16 ∨ op = 17 ∨ op = 18 ∨ op = 19 ∨ op = 20 ∨ op = 21 ∨ op = 22 ∨ op = 23 ∨ op = 24 ∨ op = 25 ∨ op = 26 ∨ op = 27 ∨ op = 28 ∨ op = 29 ∨ op = 30 := by omega

theorem ar_le (op : Int) : ar op ≤ 4 := by unfold ar; repeat' (first | omega | split)

set_option maxHeartbeats 4000000 in
theorem arity_any (op : Int) (w : World) (h1 : 1 ≤ op) (h2 : op ≤ 30) :
    Calls Try.prog 21 #[.int .i64 op] w fun e w' => e = .returned (.int .i64 (ar op : Nat)) ∧ w' = w := by
  rcases ops30 h1 h2 with rfl | rfl | rfl | rfl | rfl | rfl | rfl | rfl | rfl | rfl | rfl | rfl | rfl | rfl | rfl | rfl | rfl | rfl | rfl | rfl | rfl | rfl | rfl | rfl | rfl | rfl | rfl | rfl | rfl | rfl
  all_goals
    clear h1 h2
    go_enter Try.func21, Try.ntmps21
    go_wp2
    go_ret
    exact ⟨rfl, rfl⟩

set_option maxHeartbeats 8000000 in
theorem binders_any (op k : Int) (w : World) (h1 : 1 ≤ op) (h2 : op ≤ 30) :
    Calls Try.prog 23 #[.int .i64 op, .int .i64 k] w fun e w' => ∃ b : Int, e = .returned (.int .i64 b) ∧ 0 ≤ b ∧ b ≤ 2 ∧ w' = w := by
  rcases ops30 h1 h2 with rfl | rfl | rfl | rfl | rfl | rfl | rfl | rfl | rfl | rfl | rfl | rfl | rfl | rfl | rfl | rfl | rfl | rfl | rfl | rfl | rfl | rfl | rfl | rfl | rfl | rfl | rfl | rfl | rfl | rfl
  all_goals
    clear h1 h2
    go_enter Try.func23, Try.ntmps23
    go_wp2
    all_goals
      go_ret
      exact ⟨_, rfl, by decide, by decide, rfl⟩

set_option maxRecDepth 20000 in
set_option maxHeartbeats 1000000 in
theorem kid_any (B f i : Nat) (r : Tr) (v : Value) (w : World) (h : TmAt w B f r v) (hB : B ≤ w.heap.size) :
    Calls Try.prog 22 #[v, .int .i64 (i : Nat)] w fun e w' => ∃ x0 x1 x2 r' f', e = .returned (.agg #[x0, x1, x2]) ∧ TmAt w' B f' r' (.agg #[x0, x1, x2]) ∧ Below w.heap.size w w' := by
  obtain ⟨g, rfl⟩ : ∃ g, f = g + 1 := by cases f with | zero => exact h.elim | succ g => exact ⟨g, rfl⟩
  obtain ⟨a, cap, rfl, hop, hn, hrow⟩ := h
  have hlm : r.kids.length ≤ maxLen := Nat.le_trans hrow.1 hrow.2.1
  unfold maxLen at hlm
  have HR := hide hrow
  clear hrow
  by_cases hlt : i < r.kids.length
  · obtain ⟨b, off, rfl, hbB, hx⟩ := HR.out.2.2 (by intro h; simp [h] at hlt)
    obtain ⟨x0, x1, x2, e0, e1, e2, hr⟩ := hx i hlt
    have hbw : b < w.heap.size := Nat.lt_of_lt_of_le hbB hB
    have f0 : ∀ o o', ((w.alloc o).alloc o').cell? ⟨b, off + i * 3, none⟩ = some x0 := fun o o' => by rw [(((Below.refl w.heap.size w).alloc (Nat.le_refl _) o).alloc (by simp) o').cell hbw]; exact e0
    have f1 : ∀ o o', ((w.alloc o).alloc o').cell? ⟨b, off + i * 3 + 1, none⟩ = some x1 := fun o o' => by rw [(((Below.refl w.heap.size w).alloc (Nat.le_refl _) o).alloc (by simp) o').cell hbw]; exact e1
    have f2 : ∀ o o', ((w.alloc o).alloc o').cell? ⟨b, off + i * 3 + 2, none⟩ = some x2 := fun o o' => by rw [(((Below.refl w.heap.size w).alloc (Nat.le_refl _) o).alloc (by simp) o').cell hbw]; exact e2
    obtain ⟨g', rfl⟩ : ∃ g', g = g' + 1 := by cases g with | zero => exact hr.elim | succ g => exact ⟨g, rfl⟩
    have HK := hide hr
    obtain ⟨a2, cap2, hv, _, _, _⟩ := hr
    simp only [Value.agg.injEq, Array.mk.injEq, List.cons.injEq, and_true] at hv
    obtain ⟨rfl, rfl, rfl⟩ := hv
    clear hx e0 e1 e2
    go_enter Try.func22, Try.ntmps22
    go_wp2_with fail
    refine bodyPost_ret (v := .agg #[.int .i64 r.kids[i].op, .int .i64 r.kids[i].n, .slice a2 r.kids[i].kids.length cap2]) (by simp [results, Try.results22, go_sem]) rfl ⟨_, _, _, r.kids[i], g' + 1, rfl, ?_, ?_⟩
    · exact TmAt.below HK.out (((Below.refl w.heap.size w).alloc (Nat.le_refl _) _).alloc (by simp) _) hB (Nat.le_refl _)
    · exact ((Below.refl w.heap.size w).alloc (Nat.le_refl _) _).alloc (by simp) _
  · go_enter Try.func22, Try.ntmps22
    go_wp2_with fail
    refine bodyPost_ret (v := .agg #[.int .i64 0, .int .i64 (wrap64 (r.n + i)), .slice none 0 0]) (by simp [results, Try.results22, go_sem]) rfl ⟨_, _, _, ⟨0, wrap64 (r.n + i), []⟩, 1, rfl, ⟨none, 0, rfl, by unfold I64; simp only; omega, ?_, RowAt.nil (by unfold maxLen; omega)⟩, ?_⟩
    · unfold I64; simp only; unfold wrap64; omega
    · exact ((Below.refl w.heap.size w).alloc (Nat.le_refl _) _).alloc (by simp) _
#print axioms kid_any
end Go.Proofs.Ytafafeplciidhaa
