/- LexKnown: the walk of the statement's function. -/
import Derived.Test.YtoadbgdkcdilhaaDoorSa
namespace Go.Proofs.YtoadbgdkcdilhaaDoor
open Go.RowKit

def allocs (w : World) : List Obj → World
  | [] => w
  | o :: os => allocs (w.alloc o) os

theorem allocs_below (os : List Obj) : ∀ (w : World) (B : Nat), B ≤ w.heap.size → Below B w (allocs w os) := by
  induction os with
  | nil => intro w B _; exact Below.refl _ _
  | cons o os ih =>
    intro w B hB
    exact ((Below.refl B w).alloc hB o).trans (ih (w.alloc o) B (by rw [World.size_alloc]; omega))

theorem allocs_at (os : List Obj) : ∀ (w : World) (i : Nat) (h : i < os.length), (allocs w os).heap[w.heap.size + i]? = some os[i] := by
  induction os with
  | nil => intro w i h; simp at h
  | cons o os ih =>
    intro w i h
    cases i with
    | zero =>
      have hb := allocs_below os (w.alloc o) (w.heap.size + 1) (by rw [World.size_alloc]; omega)
      exact (hb.block w.heap.size (by omega)).trans (heap_alloc_new w o)
    | succ i =>
      have h1 := ih (w.alloc o) i (by simpa using h)
      rw [World.size_alloc] at h1
      rw [show w.heap.size + (i + 1) = w.heap.size + 1 + i by omega]
      exact h1

theorem row_of_block {W : World} {g n : Nat} {ts : List Tok} (hn : ts.length = n) (h : W.heap[g]? = some (.cells (rowC ts).toArray 29 (0, 0))) : TokRow W (.slice (some ⟨g, 0, none⟩) n n) ts := by
  subst hn
  refine ⟨_, _, rfl, Nat.le_refl _, fun _ => ⟨g, 0, rfl, size_of_block h, fun k hk => ?_⟩⟩
  have key : ∀ j, j < 4 → W.cell? ⟨g, k * 4 + j, none⟩ = (ts[k].cells)[j]? := fun j hj => by
    rw [cell_of_block h, List.getElem?_toArray]
    exact row_at ts k j hk hj
  rw [Nat.zero_add]
  exact ⟨key 0 (by omega), key 1 (by omega), key 2 (by omega), key 3 (by omega)⟩

theorem row_none (W : World) : TokRow W (.slice none 0 0) [] := ⟨none, 0, rfl, Nat.le_refl _, fun h => by simp at h⟩

theorem tk0 : tokP [] = .ok [] := by kernel_rfl
theorem tk1 : tokP [32, 59, 32, 40] = .ok [] := by kernel_rfl
theorem tk2 : tokP [45, 62, 45, 49] = .ok [⟨3, 0, 0, [45, 62]⟩, ⟨4, (-1), 2, []⟩] := by kernel_rfl
theorem tk3 : tokP [97, 45, 62, 98] = .ok [⟨3, 0, 0, [97]⟩, ⟨3, 0, 1, [45, 62]⟩, ⟨3, 0, 3, [98]⟩] := by kernel_rfl
theorem tk4 : tokP [49, 50, 97, 98] = .ok [⟨4, 12, 0, []⟩, ⟨3, 0, 2, [97, 98]⟩] := by kernel_rfl
theorem tk5 : tokP [45] = .error (6, 0) := by kernel_rfl
theorem tk6 : tokP [45, 32, 49] = .error (6, 0) := by kernel_rfl
theorem tk7 : tokP [97, 39, 98, 95, 57] = .ok [⟨3, 0, 0, [97, 39, 98, 95, 57]⟩] := by kernel_rfl
theorem tk8 : tokP [42, 97, 42] = .ok [⟨3, 0, 0, [42]⟩, ⟨3, 0, 1, [97]⟩, ⟨3, 0, 2, [42]⟩] := by kernel_rfl
theorem tk9 : tokP [40, 41] = .ok [⟨1, 0, 0, []⟩, ⟨2, 0, 1, []⟩] := by kernel_rfl
theorem tk10 : tokP [33] = .error (6, 0) := by kernel_rfl
theorem tk11 : tokP [97, 32, 63] = .error (6, 2) := by kernel_rfl
theorem tk12 : tokP [45, 48] = .ok [⟨4, 0, 0, []⟩] := by kernel_rfl
theorem tk13 : tokP [48, 48, 55] = .ok [⟨4, 7, 0, []⟩] := by kernel_rfl
theorem tk14 : tokP [45, 45, 49] = .error (6, 0) := by kernel_rfl
theorem tk15 : tokP [40, 59, 41, 10, 41] = .ok [⟨1, 0, 0, []⟩, ⟨2, 0, 4, []⟩] := by kernel_rfl
theorem tk16 : tokP [45, 62, 45, 62] = .ok [⟨3, 0, 0, [45, 62]⟩, ⟨3, 0, 2, [45, 62]⟩] := by kernel_rfl

set_option linter.unusedSimpArgs false in
set_option maxRecDepth 20000 in
set_option maxHeartbeats 4000000 in
theorem lexknown_any (n0 : Int) (w : World) (he : Errs w) : Calls Tryd.prog 6 #[.int .i64 n0] w fun e w' => e = .returned (.bool true) ∧ Below w.heap.size w w' := by
  go_enter Tryd.func6, Tryd.ntmps6
  go_wp2_with fail
  refine (known_any w he).mono ?_
  rintro e w1 ⟨rfl, hb1⟩
  have HB1 := hide hb1
  have HE := hide he
  clear hb1 he
  go_upto_region 6 with fail
  have hall := allocs_at [.cells #[.string ⟨#[]⟩, .string ⟨#[32, 59, 32, 40]⟩, .string ⟨#[45, 62, 45, 49]⟩, .string ⟨#[97, 45, 62, 98]⟩, .string ⟨#[49, 50, 97, 98]⟩, .string ⟨#[45]⟩, .string ⟨#[45, 32, 49]⟩, .string ⟨#[97, 39, 98, 95, 57]⟩, .string ⟨#[42, 97, 42]⟩, .string ⟨#[40, 41]⟩, .string ⟨#[33]⟩, .string ⟨#[97, 32, 63]⟩, .string ⟨#[45, 48]⟩, .string ⟨#[48, 48, 55]⟩, .string ⟨#[45, 45, 49]⟩, .string ⟨#[40, 59, 41, 10, 41]⟩, .string ⟨#[45, 62, 45, 62]⟩] 9, .cells #[.int .i64 3, .int .i64 0, .int .i64 0, .string ⟨#[45, 62]⟩, .int .i64 4, .int .i64 (-1), .int .i64 2, .string ⟨#[]⟩] 29, .cells #[.int .i64 3, .int .i64 0, .int .i64 0, .string ⟨#[97]⟩, .int .i64 3, .int .i64 0, .int .i64 1, .string ⟨#[45, 62]⟩, .int .i64 3, .int .i64 0, .int .i64 3, .string ⟨#[98]⟩] 29, .cells #[.int .i64 4, .int .i64 12, .int .i64 0, .string ⟨#[]⟩, .int .i64 3, .int .i64 0, .int .i64 2, .string ⟨#[97, 98]⟩] 29, .cells #[.int .i64 3, .int .i64 0, .int .i64 0, .string ⟨#[97, 39, 98, 95, 57]⟩] 29, .cells #[.int .i64 3, .int .i64 0, .int .i64 0, .string ⟨#[42]⟩, .int .i64 3, .int .i64 0, .int .i64 1, .string ⟨#[97]⟩, .int .i64 3, .int .i64 0, .int .i64 2, .string ⟨#[42]⟩] 29, .cells #[.int .i64 1, .int .i64 0, .int .i64 0, .string ⟨#[]⟩, .int .i64 2, .int .i64 0, .int .i64 1, .string ⟨#[]⟩] 29, .cells #[.int .i64 4, .int .i64 0, .int .i64 0, .string ⟨#[]⟩] 29, .cells #[.int .i64 4, .int .i64 7, .int .i64 0, .string ⟨#[]⟩] 29, .cells #[.int .i64 1, .int .i64 0, .int .i64 0, .string ⟨#[]⟩, .int .i64 2, .int .i64 0, .int .i64 4, .string ⟨#[]⟩] 29, .cells #[.int .i64 3, .int .i64 0, .int .i64 0, .string ⟨#[45, 62]⟩, .int .i64 3, .int .i64 0, .int .i64 2, .string ⟨#[45, 62]⟩] 29, .cells #[.slice none 0 0, .slice none 0 0, .slice (some ⟨w1.heap.size + 1, 0, none⟩) 2 2, .slice (some ⟨w1.heap.size + 2, 0, none⟩) 3 3, .slice (some ⟨w1.heap.size + 3, 0, none⟩) 2 2, .slice none 0 0, .slice none 0 0, .slice (some ⟨w1.heap.size + 4, 0, none⟩) 1 1, .slice (some ⟨w1.heap.size + 5, 0, none⟩) 3 3, .slice (some ⟨w1.heap.size + 6, 0, none⟩) 2 2, .slice none 0 0, .slice none 0 0, .slice (some ⟨w1.heap.size + 7, 0, none⟩) 1 1, .slice (some ⟨w1.heap.size + 8, 0, none⟩) 1 1, .slice none 0 0, .slice (some ⟨w1.heap.size + 9, 0, none⟩) 2 2, .slice (some ⟨w1.heap.size + 10, 0, none⟩) 2 2] 25, .cells #[.int .i64 0, .int .i64 0, .int .i64 0, .int .i64 0, .int .i64 0, .int .i64 0, .int .i64 0, .int .i64 0, .int .i64 0, .int .i64 0, .int .i64 0, .int .i64 2, .int .i64 0, .int .i64 0, .int .i64 0, .int .i64 0, .int .i64 0] 3] w1
  have hbel := allocs_below [.cells #[.string ⟨#[]⟩, .string ⟨#[32, 59, 32, 40]⟩, .string ⟨#[45, 62, 45, 49]⟩, .string ⟨#[97, 45, 62, 98]⟩, .string ⟨#[49, 50, 97, 98]⟩, .string ⟨#[45]⟩, .string ⟨#[45, 32, 49]⟩, .string ⟨#[97, 39, 98, 95, 57]⟩, .string ⟨#[42, 97, 42]⟩, .string ⟨#[40, 41]⟩, .string ⟨#[33]⟩, .string ⟨#[97, 32, 63]⟩, .string ⟨#[45, 48]⟩, .string ⟨#[48, 48, 55]⟩, .string ⟨#[45, 45, 49]⟩, .string ⟨#[40, 59, 41, 10, 41]⟩, .string ⟨#[45, 62, 45, 62]⟩] 9, .cells #[.int .i64 3, .int .i64 0, .int .i64 0, .string ⟨#[45, 62]⟩, .int .i64 4, .int .i64 (-1), .int .i64 2, .string ⟨#[]⟩] 29, .cells #[.int .i64 3, .int .i64 0, .int .i64 0, .string ⟨#[97]⟩, .int .i64 3, .int .i64 0, .int .i64 1, .string ⟨#[45, 62]⟩, .int .i64 3, .int .i64 0, .int .i64 3, .string ⟨#[98]⟩] 29, .cells #[.int .i64 4, .int .i64 12, .int .i64 0, .string ⟨#[]⟩, .int .i64 3, .int .i64 0, .int .i64 2, .string ⟨#[97, 98]⟩] 29, .cells #[.int .i64 3, .int .i64 0, .int .i64 0, .string ⟨#[97, 39, 98, 95, 57]⟩] 29, .cells #[.int .i64 3, .int .i64 0, .int .i64 0, .string ⟨#[42]⟩, .int .i64 3, .int .i64 0, .int .i64 1, .string ⟨#[97]⟩, .int .i64 3, .int .i64 0, .int .i64 2, .string ⟨#[42]⟩] 29, .cells #[.int .i64 1, .int .i64 0, .int .i64 0, .string ⟨#[]⟩, .int .i64 2, .int .i64 0, .int .i64 1, .string ⟨#[]⟩] 29, .cells #[.int .i64 4, .int .i64 0, .int .i64 0, .string ⟨#[]⟩] 29, .cells #[.int .i64 4, .int .i64 7, .int .i64 0, .string ⟨#[]⟩] 29, .cells #[.int .i64 1, .int .i64 0, .int .i64 0, .string ⟨#[]⟩, .int .i64 2, .int .i64 0, .int .i64 4, .string ⟨#[]⟩] 29, .cells #[.int .i64 3, .int .i64 0, .int .i64 0, .string ⟨#[45, 62]⟩, .int .i64 3, .int .i64 0, .int .i64 2, .string ⟨#[45, 62]⟩] 29, .cells #[.slice none 0 0, .slice none 0 0, .slice (some ⟨w1.heap.size + 1, 0, none⟩) 2 2, .slice (some ⟨w1.heap.size + 2, 0, none⟩) 3 3, .slice (some ⟨w1.heap.size + 3, 0, none⟩) 2 2, .slice none 0 0, .slice none 0 0, .slice (some ⟨w1.heap.size + 4, 0, none⟩) 1 1, .slice (some ⟨w1.heap.size + 5, 0, none⟩) 3 3, .slice (some ⟨w1.heap.size + 6, 0, none⟩) 2 2, .slice none 0 0, .slice none 0 0, .slice (some ⟨w1.heap.size + 7, 0, none⟩) 1 1, .slice (some ⟨w1.heap.size + 8, 0, none⟩) 1 1, .slice none 0 0, .slice (some ⟨w1.heap.size + 9, 0, none⟩) 2 2, .slice (some ⟨w1.heap.size + 10, 0, none⟩) 2 2] 25, .cells #[.int .i64 0, .int .i64 0, .int .i64 0, .int .i64 0, .int .i64 0, .int .i64 0, .int .i64 0, .int .i64 0, .int .i64 0, .int .i64 0, .int .i64 0, .int .i64 2, .int .i64 0, .int .i64 0, .int .i64 0, .int .i64 0, .int .i64 0] 3] w1 w1.heap.size (Nat.le_refl _)
  have hW : (((((((((((((w1.alloc (.cells #[.string ⟨#[]⟩, .string ⟨#[32, 59, 32, 40]⟩, .string ⟨#[45, 62, 45, 49]⟩, .string ⟨#[97, 45, 62, 98]⟩, .string ⟨#[49, 50, 97, 98]⟩, .string ⟨#[45]⟩, .string ⟨#[45, 32, 49]⟩, .string ⟨#[97, 39, 98, 95, 57]⟩, .string ⟨#[42, 97, 42]⟩, .string ⟨#[40, 41]⟩, .string ⟨#[33]⟩, .string ⟨#[97, 32, 63]⟩, .string ⟨#[45, 48]⟩, .string ⟨#[48, 48, 55]⟩, .string ⟨#[45, 45, 49]⟩, .string ⟨#[40, 59, 41, 10, 41]⟩, .string ⟨#[45, 62, 45, 62]⟩] 9)).alloc (.cells #[.int .i64 3, .int .i64 0, .int .i64 0, .string ⟨#[45, 62]⟩, .int .i64 4, .int .i64 (-1), .int .i64 2, .string ⟨#[]⟩] 29)).alloc (.cells #[.int .i64 3, .int .i64 0, .int .i64 0, .string ⟨#[97]⟩, .int .i64 3, .int .i64 0, .int .i64 1, .string ⟨#[45, 62]⟩, .int .i64 3, .int .i64 0, .int .i64 3, .string ⟨#[98]⟩] 29)).alloc (.cells #[.int .i64 4, .int .i64 12, .int .i64 0, .string ⟨#[]⟩, .int .i64 3, .int .i64 0, .int .i64 2, .string ⟨#[97, 98]⟩] 29)).alloc (.cells #[.int .i64 3, .int .i64 0, .int .i64 0, .string ⟨#[97, 39, 98, 95, 57]⟩] 29)).alloc (.cells #[.int .i64 3, .int .i64 0, .int .i64 0, .string ⟨#[42]⟩, .int .i64 3, .int .i64 0, .int .i64 1, .string ⟨#[97]⟩, .int .i64 3, .int .i64 0, .int .i64 2, .string ⟨#[42]⟩] 29)).alloc (.cells #[.int .i64 1, .int .i64 0, .int .i64 0, .string ⟨#[]⟩, .int .i64 2, .int .i64 0, .int .i64 1, .string ⟨#[]⟩] 29)).alloc (.cells #[.int .i64 4, .int .i64 0, .int .i64 0, .string ⟨#[]⟩] 29)).alloc (.cells #[.int .i64 4, .int .i64 7, .int .i64 0, .string ⟨#[]⟩] 29)).alloc (.cells #[.int .i64 1, .int .i64 0, .int .i64 0, .string ⟨#[]⟩, .int .i64 2, .int .i64 0, .int .i64 4, .string ⟨#[]⟩] 29)).alloc (.cells #[.int .i64 3, .int .i64 0, .int .i64 0, .string ⟨#[45, 62]⟩, .int .i64 3, .int .i64 0, .int .i64 2, .string ⟨#[45, 62]⟩] 29)).alloc (.cells #[.slice none 0 0, .slice none 0 0, .slice (some ⟨w1.heap.size + 1, 0, none⟩) 2 2, .slice (some ⟨w1.heap.size + 2, 0, none⟩) 3 3, .slice (some ⟨w1.heap.size + 3, 0, none⟩) 2 2, .slice none 0 0, .slice none 0 0, .slice (some ⟨w1.heap.size + 4, 0, none⟩) 1 1, .slice (some ⟨w1.heap.size + 5, 0, none⟩) 3 3, .slice (some ⟨w1.heap.size + 6, 0, none⟩) 2 2, .slice none 0 0, .slice none 0 0, .slice (some ⟨w1.heap.size + 7, 0, none⟩) 1 1, .slice (some ⟨w1.heap.size + 8, 0, none⟩) 1 1, .slice none 0 0, .slice (some ⟨w1.heap.size + 9, 0, none⟩) 2 2, .slice (some ⟨w1.heap.size + 10, 0, none⟩) 2 2] 25)).alloc (.cells #[.int .i64 0, .int .i64 0, .int .i64 0, .int .i64 0, .int .i64 0, .int .i64 0, .int .i64 0, .int .i64 0, .int .i64 0, .int .i64 0, .int .i64 0, .int .i64 2, .int .i64 0, .int .i64 0, .int .i64 0, .int .i64 0, .int .i64 0] 3)) = allocs w1 [.cells #[.string ⟨#[]⟩, .string ⟨#[32, 59, 32, 40]⟩, .string ⟨#[45, 62, 45, 49]⟩, .string ⟨#[97, 45, 62, 98]⟩, .string ⟨#[49, 50, 97, 98]⟩, .string ⟨#[45]⟩, .string ⟨#[45, 32, 49]⟩, .string ⟨#[97, 39, 98, 95, 57]⟩, .string ⟨#[42, 97, 42]⟩, .string ⟨#[40, 41]⟩, .string ⟨#[33]⟩, .string ⟨#[97, 32, 63]⟩, .string ⟨#[45, 48]⟩, .string ⟨#[48, 48, 55]⟩, .string ⟨#[45, 45, 49]⟩, .string ⟨#[40, 59, 41, 10, 41]⟩, .string ⟨#[45, 62, 45, 62]⟩] 9, .cells #[.int .i64 3, .int .i64 0, .int .i64 0, .string ⟨#[45, 62]⟩, .int .i64 4, .int .i64 (-1), .int .i64 2, .string ⟨#[]⟩] 29, .cells #[.int .i64 3, .int .i64 0, .int .i64 0, .string ⟨#[97]⟩, .int .i64 3, .int .i64 0, .int .i64 1, .string ⟨#[45, 62]⟩, .int .i64 3, .int .i64 0, .int .i64 3, .string ⟨#[98]⟩] 29, .cells #[.int .i64 4, .int .i64 12, .int .i64 0, .string ⟨#[]⟩, .int .i64 3, .int .i64 0, .int .i64 2, .string ⟨#[97, 98]⟩] 29, .cells #[.int .i64 3, .int .i64 0, .int .i64 0, .string ⟨#[97, 39, 98, 95, 57]⟩] 29, .cells #[.int .i64 3, .int .i64 0, .int .i64 0, .string ⟨#[42]⟩, .int .i64 3, .int .i64 0, .int .i64 1, .string ⟨#[97]⟩, .int .i64 3, .int .i64 0, .int .i64 2, .string ⟨#[42]⟩] 29, .cells #[.int .i64 1, .int .i64 0, .int .i64 0, .string ⟨#[]⟩, .int .i64 2, .int .i64 0, .int .i64 1, .string ⟨#[]⟩] 29, .cells #[.int .i64 4, .int .i64 0, .int .i64 0, .string ⟨#[]⟩] 29, .cells #[.int .i64 4, .int .i64 7, .int .i64 0, .string ⟨#[]⟩] 29, .cells #[.int .i64 1, .int .i64 0, .int .i64 0, .string ⟨#[]⟩, .int .i64 2, .int .i64 0, .int .i64 4, .string ⟨#[]⟩] 29, .cells #[.int .i64 3, .int .i64 0, .int .i64 0, .string ⟨#[45, 62]⟩, .int .i64 3, .int .i64 0, .int .i64 2, .string ⟨#[45, 62]⟩] 29, .cells #[.slice none 0 0, .slice none 0 0, .slice (some ⟨w1.heap.size + 1, 0, none⟩) 2 2, .slice (some ⟨w1.heap.size + 2, 0, none⟩) 3 3, .slice (some ⟨w1.heap.size + 3, 0, none⟩) 2 2, .slice none 0 0, .slice none 0 0, .slice (some ⟨w1.heap.size + 4, 0, none⟩) 1 1, .slice (some ⟨w1.heap.size + 5, 0, none⟩) 3 3, .slice (some ⟨w1.heap.size + 6, 0, none⟩) 2 2, .slice none 0 0, .slice none 0 0, .slice (some ⟨w1.heap.size + 7, 0, none⟩) 1 1, .slice (some ⟨w1.heap.size + 8, 0, none⟩) 1 1, .slice none 0 0, .slice (some ⟨w1.heap.size + 9, 0, none⟩) 2 2, .slice (some ⟨w1.heap.size + 10, 0, none⟩) 2 2] 25, .cells #[.int .i64 0, .int .i64 0, .int .i64 0, .int .i64 0, .int .i64 0, .int .i64 0, .int .i64 0, .int .i64 0, .int .i64 0, .int .i64 0, .int .i64 0, .int .i64 2, .int .i64 0, .int .i64 0, .int .i64 0, .int .i64 0, .int .i64 0] 3] := rfl
  rw [hW]
  clear hW
  generalize allocs w1 [.cells #[.string ⟨#[]⟩, .string ⟨#[32, 59, 32, 40]⟩, .string ⟨#[45, 62, 45, 49]⟩, .string ⟨#[97, 45, 62, 98]⟩, .string ⟨#[49, 50, 97, 98]⟩, .string ⟨#[45]⟩, .string ⟨#[45, 32, 49]⟩, .string ⟨#[97, 39, 98, 95, 57]⟩, .string ⟨#[42, 97, 42]⟩, .string ⟨#[40, 41]⟩, .string ⟨#[33]⟩, .string ⟨#[97, 32, 63]⟩, .string ⟨#[45, 48]⟩, .string ⟨#[48, 48, 55]⟩, .string ⟨#[45, 45, 49]⟩, .string ⟨#[40, 59, 41, 10, 41]⟩, .string ⟨#[45, 62, 45, 62]⟩] 9, .cells #[.int .i64 3, .int .i64 0, .int .i64 0, .string ⟨#[45, 62]⟩, .int .i64 4, .int .i64 (-1), .int .i64 2, .string ⟨#[]⟩] 29, .cells #[.int .i64 3, .int .i64 0, .int .i64 0, .string ⟨#[97]⟩, .int .i64 3, .int .i64 0, .int .i64 1, .string ⟨#[45, 62]⟩, .int .i64 3, .int .i64 0, .int .i64 3, .string ⟨#[98]⟩] 29, .cells #[.int .i64 4, .int .i64 12, .int .i64 0, .string ⟨#[]⟩, .int .i64 3, .int .i64 0, .int .i64 2, .string ⟨#[97, 98]⟩] 29, .cells #[.int .i64 3, .int .i64 0, .int .i64 0, .string ⟨#[97, 39, 98, 95, 57]⟩] 29, .cells #[.int .i64 3, .int .i64 0, .int .i64 0, .string ⟨#[42]⟩, .int .i64 3, .int .i64 0, .int .i64 1, .string ⟨#[97]⟩, .int .i64 3, .int .i64 0, .int .i64 2, .string ⟨#[42]⟩] 29, .cells #[.int .i64 1, .int .i64 0, .int .i64 0, .string ⟨#[]⟩, .int .i64 2, .int .i64 0, .int .i64 1, .string ⟨#[]⟩] 29, .cells #[.int .i64 4, .int .i64 0, .int .i64 0, .string ⟨#[]⟩] 29, .cells #[.int .i64 4, .int .i64 7, .int .i64 0, .string ⟨#[]⟩] 29, .cells #[.int .i64 1, .int .i64 0, .int .i64 0, .string ⟨#[]⟩, .int .i64 2, .int .i64 0, .int .i64 4, .string ⟨#[]⟩] 29, .cells #[.int .i64 3, .int .i64 0, .int .i64 0, .string ⟨#[45, 62]⟩, .int .i64 3, .int .i64 0, .int .i64 2, .string ⟨#[45, 62]⟩] 29, .cells #[.slice none 0 0, .slice none 0 0, .slice (some ⟨w1.heap.size + 1, 0, none⟩) 2 2, .slice (some ⟨w1.heap.size + 2, 0, none⟩) 3 3, .slice (some ⟨w1.heap.size + 3, 0, none⟩) 2 2, .slice none 0 0, .slice none 0 0, .slice (some ⟨w1.heap.size + 4, 0, none⟩) 1 1, .slice (some ⟨w1.heap.size + 5, 0, none⟩) 3 3, .slice (some ⟨w1.heap.size + 6, 0, none⟩) 2 2, .slice none 0 0, .slice none 0 0, .slice (some ⟨w1.heap.size + 7, 0, none⟩) 1 1, .slice (some ⟨w1.heap.size + 8, 0, none⟩) 1 1, .slice none 0 0, .slice (some ⟨w1.heap.size + 9, 0, none⟩) 2 2, .slice (some ⟨w1.heap.size + 10, 0, none⟩) 2 2] 25, .cells #[.int .i64 0, .int .i64 0, .int .i64 0, .int .i64 0, .int .i64 0, .int .i64 0, .int .i64 0, .int .i64 0, .int .i64 0, .int .i64 0, .int .i64 0, .int .i64 2, .int .i64 0, .int .i64 0, .int .i64 0, .int .i64 0, .int .i64 0] 3] = W at *
  have HS : Hid (W.heap[w1.heap.size]? = some (.cells #[.string ⟨#[]⟩, .string ⟨#[32, 59, 32, 40]⟩, .string ⟨#[45, 62, 45, 49]⟩, .string ⟨#[97, 45, 62, 98]⟩, .string ⟨#[49, 50, 97, 98]⟩, .string ⟨#[45]⟩, .string ⟨#[45, 32, 49]⟩, .string ⟨#[97, 39, 98, 95, 57]⟩, .string ⟨#[42, 97, 42]⟩, .string ⟨#[40, 41]⟩, .string ⟨#[33]⟩, .string ⟨#[97, 32, 63]⟩, .string ⟨#[45, 48]⟩, .string ⟨#[48, 48, 55]⟩, .string ⟨#[45, 45, 49]⟩, .string ⟨#[40, 59, 41, 10, 41]⟩, .string ⟨#[45, 62, 45, 62]⟩] 9)) := hall 0 (by simp)
  have HWW : Hid (W.heap[w1.heap.size + 11]? = some (.cells #[.slice none 0 0, .slice none 0 0, .slice (some ⟨w1.heap.size + 1, 0, none⟩) 2 2, .slice (some ⟨w1.heap.size + 2, 0, none⟩) 3 3, .slice (some ⟨w1.heap.size + 3, 0, none⟩) 2 2, .slice none 0 0, .slice none 0 0, .slice (some ⟨w1.heap.size + 4, 0, none⟩) 1 1, .slice (some ⟨w1.heap.size + 5, 0, none⟩) 3 3, .slice (some ⟨w1.heap.size + 6, 0, none⟩) 2 2, .slice none 0 0, .slice none 0 0, .slice (some ⟨w1.heap.size + 7, 0, none⟩) 1 1, .slice (some ⟨w1.heap.size + 8, 0, none⟩) 1 1, .slice none 0 0, .slice (some ⟨w1.heap.size + 9, 0, none⟩) 2 2, .slice (some ⟨w1.heap.size + 10, 0, none⟩) 2 2] 25)) := hall 11 (by simp)
  have HAT : Hid (W.heap[w1.heap.size + 12]? = some (.cells #[.int .i64 0, .int .i64 0, .int .i64 0, .int .i64 0, .int .i64 0, .int .i64 0, .int .i64 0, .int .i64 0, .int .i64 0, .int .i64 0, .int .i64 0, .int .i64 2, .int .i64 0, .int .i64 0, .int .i64 0, .int .i64 0, .int .i64 0] 3)) := hall 12 (by simp)
  have HR2 : Hid (TokRow W (.slice (some ⟨w1.heap.size + 1, 0, none⟩) 2 2) [⟨3, 0, 0, [45, 62]⟩, ⟨4, (-1), 2, []⟩]) := row_of_block rfl (hall 1 (by simp))
  have HR3 : Hid (TokRow W (.slice (some ⟨w1.heap.size + 2, 0, none⟩) 3 3) [⟨3, 0, 0, [97]⟩, ⟨3, 0, 1, [45, 62]⟩, ⟨3, 0, 3, [98]⟩]) := row_of_block rfl (hall 2 (by simp))
  have HR4 : Hid (TokRow W (.slice (some ⟨w1.heap.size + 3, 0, none⟩) 2 2) [⟨4, 12, 0, []⟩, ⟨3, 0, 2, [97, 98]⟩]) := row_of_block rfl (hall 3 (by simp))
  have HR7 : Hid (TokRow W (.slice (some ⟨w1.heap.size + 4, 0, none⟩) 1 1) [⟨3, 0, 0, [97, 39, 98, 95, 57]⟩]) := row_of_block rfl (hall 4 (by simp))
  have HR8 : Hid (TokRow W (.slice (some ⟨w1.heap.size + 5, 0, none⟩) 3 3) [⟨3, 0, 0, [42]⟩, ⟨3, 0, 1, [97]⟩, ⟨3, 0, 2, [42]⟩]) := row_of_block rfl (hall 5 (by simp))
  have HR9 : Hid (TokRow W (.slice (some ⟨w1.heap.size + 6, 0, none⟩) 2 2) [⟨1, 0, 0, []⟩, ⟨2, 0, 1, []⟩]) := row_of_block rfl (hall 6 (by simp))
  have HR12 : Hid (TokRow W (.slice (some ⟨w1.heap.size + 7, 0, none⟩) 1 1) [⟨4, 0, 0, []⟩]) := row_of_block rfl (hall 7 (by simp))
  have HR13 : Hid (TokRow W (.slice (some ⟨w1.heap.size + 8, 0, none⟩) 1 1) [⟨4, 7, 0, []⟩]) := row_of_block rfl (hall 8 (by simp))
  have HR15 : Hid (TokRow W (.slice (some ⟨w1.heap.size + 9, 0, none⟩) 2 2) [⟨1, 0, 0, []⟩, ⟨2, 0, 4, []⟩]) := row_of_block rfl (hall 9 (by simp))
  have HR16 : Hid (TokRow W (.slice (some ⟨w1.heap.size + 10, 0, none⟩) 2 2) [⟨3, 0, 0, [45, 62]⟩, ⟨3, 0, 2, [45, 62]⟩]) := row_of_block rfl (hall 10 (by simp))
  have HB : Hid (Below w.heap.size w W) := HB1.out.trans (hbel.mono HB1.out.size)
  clear hall hbel HB1
  generalize w1.heap.size = n at *
  go_wp2_with fail
  refine (within_n n0 17 _ (by decide) (by decide)).mono ?_
  rintro e w2 ⟨rfl, h2⟩
  rw [h2]
  clear h2
  have hwi := wi_n n0 17 (by decide)
  have key : wi n0 17 = 0 ∨ wi n0 17 = 1 ∨ wi n0 17 = 2 ∨ wi n0 17 = 3 ∨ wi n0 17 = 4 ∨ wi n0 17 = 5 ∨ wi n0 17 = 6 ∨ wi n0 17 = 7 ∨ wi n0 17 = 8 ∨ wi n0 17 = 9 ∨ wi n0 17 = 10 ∨ wi n0 17 = 11 ∨ wi n0 17 = 12 ∨ wi n0 17 = 13 ∨ wi n0 17 = 14 ∨ wi n0 17 = 15 ∨ wi n0 17 = 16 := by omega
  clear hwi
  rcases key with hk | hk | hk | hk | hk | hk | hk | hk | hk | hk | hk | hk | hk | hk | hk | hk | hk
  · rw [hk]
    clear hk
    have hs : W.cell? ⟨n, 0, none⟩ = some (.string ⟨#[]⟩) := (cell_of_block HS.out 0).trans rfl
    go_wp2_with fail
    refine (tokens_any _ [] _ rfl (by decide) (HE.out.keep HB.out)).mono ?_
    rintro e w3 ⟨ho, hb3⟩
    have x1 : w3.cell? ⟨n + 11, 0, none⟩ = some (.slice none 0 0) := (hb3.cell (p := ⟨n + 11, 0, none⟩) (size_of_block HWW.out)).trans ((cell_of_block HWW.out 0).trans rfl)
    have X2 : Hid (∀ w4, Below w3.heap.size w3 w4 → w4.cell? ⟨n + 12, 0, none⟩ = some (.int .i64 0)) := fun w4 h4 => ((hb3.trans (h4.mono hb3.size)).cell (p := ⟨n + 12, 0, none⟩) (size_of_block HAT.out)).trans ((cell_of_block HAT.out 0).trans rfl)
    have HB3 : Hid (Below w.heap.size w w3) := HB.out.trans (hb3.mono HB.out.size)
    rw [tk0] at ho
    rcases ho with ⟨er, p, h1, _⟩ | ⟨ts, v, h1, rfl, htk⟩
    · cases h1
    cases h1
    have HT1 := hide (TokRow.of htk)
    have HT2 : Hid (TokRow w3 (.slice none 0 0) []) := row_none w3
    clear hs hb3 htk
    go_wp2_with fail
    refine (same_true _ _ _ _ HT1.out HT2.out (by decide)).mono ?_
    rintro e w4 ⟨rfl, hb4⟩
    have x2 := X2.out w4 hb4
    have HB4 : Hid (Below w.heap.size w w4) := HB3.out.trans (hb4.mono HB3.out.size)
    clear hb4 x1
    go_wp2_with fail
    go_ret
    exact ⟨rfl, HB4.out⟩
  · rw [hk]
    clear hk
    have hs : W.cell? ⟨n, 1, none⟩ = some (.string ⟨#[32, 59, 32, 40]⟩) := (cell_of_block HS.out 1).trans rfl
    go_wp2_with fail
    refine (tokens_any _ [32, 59, 32, 40] _ rfl (by decide) (HE.out.keep HB.out)).mono ?_
    rintro e w3 ⟨ho, hb3⟩
    have x1 : w3.cell? ⟨n + 11, 1, none⟩ = some (.slice none 0 0) := (hb3.cell (p := ⟨n + 11, 1, none⟩) (size_of_block HWW.out)).trans ((cell_of_block HWW.out 1).trans rfl)
    have X2 : Hid (∀ w4, Below w3.heap.size w3 w4 → w4.cell? ⟨n + 12, 1, none⟩ = some (.int .i64 0)) := fun w4 h4 => ((hb3.trans (h4.mono hb3.size)).cell (p := ⟨n + 12, 1, none⟩) (size_of_block HAT.out)).trans ((cell_of_block HAT.out 1).trans rfl)
    have HB3 : Hid (Below w.heap.size w w3) := HB.out.trans (hb3.mono HB.out.size)
    rw [tk1] at ho
    rcases ho with ⟨er, p, h1, _⟩ | ⟨ts, v, h1, rfl, htk⟩
    · cases h1
    cases h1
    have HT1 := hide (TokRow.of htk)
    have HT2 : Hid (TokRow w3 (.slice none 0 0) []) := row_none w3
    clear hs hb3 htk
    go_wp2_with fail
    refine (same_true _ _ _ _ HT1.out HT2.out (by decide)).mono ?_
    rintro e w4 ⟨rfl, hb4⟩
    have x2 := X2.out w4 hb4
    have HB4 : Hid (Below w.heap.size w w4) := HB3.out.trans (hb4.mono HB3.out.size)
    clear hb4 x1
    go_wp2_with fail
    go_ret
    exact ⟨rfl, HB4.out⟩
  · rw [hk]
    clear hk
    have hs : W.cell? ⟨n, 2, none⟩ = some (.string ⟨#[45, 62, 45, 49]⟩) := (cell_of_block HS.out 2).trans rfl
    go_wp2_with fail
    refine (tokens_any _ [45, 62, 45, 49] _ rfl (by decide) (HE.out.keep HB.out)).mono ?_
    rintro e w3 ⟨ho, hb3⟩
    have x1 : w3.cell? ⟨n + 11, 2, none⟩ = some (.slice (some ⟨n + 1, 0, none⟩) 2 2) := (hb3.cell (p := ⟨n + 11, 2, none⟩) (size_of_block HWW.out)).trans ((cell_of_block HWW.out 2).trans rfl)
    have X2 : Hid (∀ w4, Below w3.heap.size w3 w4 → w4.cell? ⟨n + 12, 2, none⟩ = some (.int .i64 0)) := fun w4 h4 => ((hb3.trans (h4.mono hb3.size)).cell (p := ⟨n + 12, 2, none⟩) (size_of_block HAT.out)).trans ((cell_of_block HAT.out 2).trans rfl)
    have HB3 : Hid (Below w.heap.size w w3) := HB.out.trans (hb3.mono HB.out.size)
    rw [tk2] at ho
    rcases ho with ⟨er, p, h1, _⟩ | ⟨ts, v, h1, rfl, htk⟩
    · cases h1
    cases h1
    have HT1 := hide (TokRow.of htk)
    have HT2 : Hid (TokRow w3 (.slice (some ⟨n + 1, 0, none⟩) 2 2) [⟨3, 0, 0, [45, 62]⟩, ⟨4, (-1), 2, []⟩]) := HR2.out.keep hb3
    clear hs hb3 htk
    go_wp2_with fail
    refine (same_true _ _ _ _ HT1.out HT2.out (by decide)).mono ?_
    rintro e w4 ⟨rfl, hb4⟩
    have x2 := X2.out w4 hb4
    have HB4 : Hid (Below w.heap.size w w4) := HB3.out.trans (hb4.mono HB3.out.size)
    clear hb4 x1
    go_wp2_with fail
    go_ret
    exact ⟨rfl, HB4.out⟩
  · rw [hk]
    clear hk
    have hs : W.cell? ⟨n, 3, none⟩ = some (.string ⟨#[97, 45, 62, 98]⟩) := (cell_of_block HS.out 3).trans rfl
    go_wp2_with fail
    refine (tokens_any _ [97, 45, 62, 98] _ rfl (by decide) (HE.out.keep HB.out)).mono ?_
    rintro e w3 ⟨ho, hb3⟩
    have x1 : w3.cell? ⟨n + 11, 3, none⟩ = some (.slice (some ⟨n + 2, 0, none⟩) 3 3) := (hb3.cell (p := ⟨n + 11, 3, none⟩) (size_of_block HWW.out)).trans ((cell_of_block HWW.out 3).trans rfl)
    have X2 : Hid (∀ w4, Below w3.heap.size w3 w4 → w4.cell? ⟨n + 12, 3, none⟩ = some (.int .i64 0)) := fun w4 h4 => ((hb3.trans (h4.mono hb3.size)).cell (p := ⟨n + 12, 3, none⟩) (size_of_block HAT.out)).trans ((cell_of_block HAT.out 3).trans rfl)
    have HB3 : Hid (Below w.heap.size w w3) := HB.out.trans (hb3.mono HB.out.size)
    rw [tk3] at ho
    rcases ho with ⟨er, p, h1, _⟩ | ⟨ts, v, h1, rfl, htk⟩
    · cases h1
    cases h1
    have HT1 := hide (TokRow.of htk)
    have HT2 : Hid (TokRow w3 (.slice (some ⟨n + 2, 0, none⟩) 3 3) [⟨3, 0, 0, [97]⟩, ⟨3, 0, 1, [45, 62]⟩, ⟨3, 0, 3, [98]⟩]) := HR3.out.keep hb3
    clear hs hb3 htk
    go_wp2_with fail
    refine (same_true _ _ _ _ HT1.out HT2.out (by decide)).mono ?_
    rintro e w4 ⟨rfl, hb4⟩
    have x2 := X2.out w4 hb4
    have HB4 : Hid (Below w.heap.size w w4) := HB3.out.trans (hb4.mono HB3.out.size)
    clear hb4 x1
    go_wp2_with fail
    go_ret
    exact ⟨rfl, HB4.out⟩
  · rw [hk]
    clear hk
    have hs : W.cell? ⟨n, 4, none⟩ = some (.string ⟨#[49, 50, 97, 98]⟩) := (cell_of_block HS.out 4).trans rfl
    go_wp2_with fail
    refine (tokens_any _ [49, 50, 97, 98] _ rfl (by decide) (HE.out.keep HB.out)).mono ?_
    rintro e w3 ⟨ho, hb3⟩
    have x1 : w3.cell? ⟨n + 11, 4, none⟩ = some (.slice (some ⟨n + 3, 0, none⟩) 2 2) := (hb3.cell (p := ⟨n + 11, 4, none⟩) (size_of_block HWW.out)).trans ((cell_of_block HWW.out 4).trans rfl)
    have X2 : Hid (∀ w4, Below w3.heap.size w3 w4 → w4.cell? ⟨n + 12, 4, none⟩ = some (.int .i64 0)) := fun w4 h4 => ((hb3.trans (h4.mono hb3.size)).cell (p := ⟨n + 12, 4, none⟩) (size_of_block HAT.out)).trans ((cell_of_block HAT.out 4).trans rfl)
    have HB3 : Hid (Below w.heap.size w w3) := HB.out.trans (hb3.mono HB.out.size)
    rw [tk4] at ho
    rcases ho with ⟨er, p, h1, _⟩ | ⟨ts, v, h1, rfl, htk⟩
    · cases h1
    cases h1
    have HT1 := hide (TokRow.of htk)
    have HT2 : Hid (TokRow w3 (.slice (some ⟨n + 3, 0, none⟩) 2 2) [⟨4, 12, 0, []⟩, ⟨3, 0, 2, [97, 98]⟩]) := HR4.out.keep hb3
    clear hs hb3 htk
    go_wp2_with fail
    refine (same_true _ _ _ _ HT1.out HT2.out (by decide)).mono ?_
    rintro e w4 ⟨rfl, hb4⟩
    have x2 := X2.out w4 hb4
    have HB4 : Hid (Below w.heap.size w w4) := HB3.out.trans (hb4.mono HB3.out.size)
    clear hb4 x1
    go_wp2_with fail
    go_ret
    exact ⟨rfl, HB4.out⟩
  · rw [hk]
    clear hk
    have hs : W.cell? ⟨n, 5, none⟩ = some (.string ⟨#[45]⟩) := (cell_of_block HS.out 5).trans rfl
    go_wp2_with fail
    refine (tokens_any _ [45] _ rfl (by decide) (HE.out.keep HB.out)).mono ?_
    rintro e w3 ⟨ho, hb3⟩
    have x1 : w3.cell? ⟨n + 11, 5, none⟩ = some (.slice none 0 0) := (hb3.cell (p := ⟨n + 11, 5, none⟩) (size_of_block HWW.out)).trans ((cell_of_block HWW.out 5).trans rfl)
    have X2 : Hid (∀ w4, Below w3.heap.size w3 w4 → w4.cell? ⟨n + 12, 5, none⟩ = some (.int .i64 0)) := fun w4 h4 => ((hb3.trans (h4.mono hb3.size)).cell (p := ⟨n + 12, 5, none⟩) (size_of_block HAT.out)).trans ((cell_of_block HAT.out 5).trans rfl)
    have HB3 : Hid (Below w.heap.size w w3) := HB.out.trans (hb3.mono HB.out.size)
    rw [tk5] at ho
    rcases ho with ⟨er, p, h1, rfl⟩ | ⟨ts, v, h1, _⟩
    rotate_left
    · cases h1
    cases h1
    have HT1 := hide (row_none w3)
    have HT2 := HT1
    clear hs hb3
    go_wp2_with fail
    refine (same_true _ _ _ _ HT1.out HT2.out (by decide)).mono ?_
    rintro e w4 ⟨rfl, hb4⟩
    have x2 := X2.out w4 hb4
    have HB4 : Hid (Below w.heap.size w w4) := HB3.out.trans (hb4.mono HB3.out.size)
    clear hb4 x1
    go_wp2_with fail
    go_ret
    exact ⟨rfl, HB4.out⟩
  · rw [hk]
    clear hk
    have hs : W.cell? ⟨n, 6, none⟩ = some (.string ⟨#[45, 32, 49]⟩) := (cell_of_block HS.out 6).trans rfl
    go_wp2_with fail
    refine (tokens_any _ [45, 32, 49] _ rfl (by decide) (HE.out.keep HB.out)).mono ?_
    rintro e w3 ⟨ho, hb3⟩
    have x1 : w3.cell? ⟨n + 11, 6, none⟩ = some (.slice none 0 0) := (hb3.cell (p := ⟨n + 11, 6, none⟩) (size_of_block HWW.out)).trans ((cell_of_block HWW.out 6).trans rfl)
    have X2 : Hid (∀ w4, Below w3.heap.size w3 w4 → w4.cell? ⟨n + 12, 6, none⟩ = some (.int .i64 0)) := fun w4 h4 => ((hb3.trans (h4.mono hb3.size)).cell (p := ⟨n + 12, 6, none⟩) (size_of_block HAT.out)).trans ((cell_of_block HAT.out 6).trans rfl)
    have HB3 : Hid (Below w.heap.size w w3) := HB.out.trans (hb3.mono HB.out.size)
    rw [tk6] at ho
    rcases ho with ⟨er, p, h1, rfl⟩ | ⟨ts, v, h1, _⟩
    rotate_left
    · cases h1
    cases h1
    have HT1 := hide (row_none w3)
    have HT2 := HT1
    clear hs hb3
    go_wp2_with fail
    refine (same_true _ _ _ _ HT1.out HT2.out (by decide)).mono ?_
    rintro e w4 ⟨rfl, hb4⟩
    have x2 := X2.out w4 hb4
    have HB4 : Hid (Below w.heap.size w w4) := HB3.out.trans (hb4.mono HB3.out.size)
    clear hb4 x1
    go_wp2_with fail
    go_ret
    exact ⟨rfl, HB4.out⟩
  · rw [hk]
    clear hk
    have hs : W.cell? ⟨n, 7, none⟩ = some (.string ⟨#[97, 39, 98, 95, 57]⟩) := (cell_of_block HS.out 7).trans rfl
    go_wp2_with fail
    refine (tokens_any _ [97, 39, 98, 95, 57] _ rfl (by decide) (HE.out.keep HB.out)).mono ?_
    rintro e w3 ⟨ho, hb3⟩
    have x1 : w3.cell? ⟨n + 11, 7, none⟩ = some (.slice (some ⟨n + 4, 0, none⟩) 1 1) := (hb3.cell (p := ⟨n + 11, 7, none⟩) (size_of_block HWW.out)).trans ((cell_of_block HWW.out 7).trans rfl)
    have X2 : Hid (∀ w4, Below w3.heap.size w3 w4 → w4.cell? ⟨n + 12, 7, none⟩ = some (.int .i64 0)) := fun w4 h4 => ((hb3.trans (h4.mono hb3.size)).cell (p := ⟨n + 12, 7, none⟩) (size_of_block HAT.out)).trans ((cell_of_block HAT.out 7).trans rfl)
    have HB3 : Hid (Below w.heap.size w w3) := HB.out.trans (hb3.mono HB.out.size)
    rw [tk7] at ho
    rcases ho with ⟨er, p, h1, _⟩ | ⟨ts, v, h1, rfl, htk⟩
    · cases h1
    cases h1
    have HT1 := hide (TokRow.of htk)
    have HT2 : Hid (TokRow w3 (.slice (some ⟨n + 4, 0, none⟩) 1 1) [⟨3, 0, 0, [97, 39, 98, 95, 57]⟩]) := HR7.out.keep hb3
    clear hs hb3 htk
    go_wp2_with fail
    refine (same_true _ _ _ _ HT1.out HT2.out (by decide)).mono ?_
    rintro e w4 ⟨rfl, hb4⟩
    have x2 := X2.out w4 hb4
    have HB4 : Hid (Below w.heap.size w w4) := HB3.out.trans (hb4.mono HB3.out.size)
    clear hb4 x1
    go_wp2_with fail
    go_ret
    exact ⟨rfl, HB4.out⟩
  · rw [hk]
    clear hk
    have hs : W.cell? ⟨n, 8, none⟩ = some (.string ⟨#[42, 97, 42]⟩) := (cell_of_block HS.out 8).trans rfl
    go_wp2_with fail
    refine (tokens_any _ [42, 97, 42] _ rfl (by decide) (HE.out.keep HB.out)).mono ?_
    rintro e w3 ⟨ho, hb3⟩
    have x1 : w3.cell? ⟨n + 11, 8, none⟩ = some (.slice (some ⟨n + 5, 0, none⟩) 3 3) := (hb3.cell (p := ⟨n + 11, 8, none⟩) (size_of_block HWW.out)).trans ((cell_of_block HWW.out 8).trans rfl)
    have X2 : Hid (∀ w4, Below w3.heap.size w3 w4 → w4.cell? ⟨n + 12, 8, none⟩ = some (.int .i64 0)) := fun w4 h4 => ((hb3.trans (h4.mono hb3.size)).cell (p := ⟨n + 12, 8, none⟩) (size_of_block HAT.out)).trans ((cell_of_block HAT.out 8).trans rfl)
    have HB3 : Hid (Below w.heap.size w w3) := HB.out.trans (hb3.mono HB.out.size)
    rw [tk8] at ho
    rcases ho with ⟨er, p, h1, _⟩ | ⟨ts, v, h1, rfl, htk⟩
    · cases h1
    cases h1
    have HT1 := hide (TokRow.of htk)
    have HT2 : Hid (TokRow w3 (.slice (some ⟨n + 5, 0, none⟩) 3 3) [⟨3, 0, 0, [42]⟩, ⟨3, 0, 1, [97]⟩, ⟨3, 0, 2, [42]⟩]) := HR8.out.keep hb3
    clear hs hb3 htk
    go_wp2_with fail
    refine (same_true _ _ _ _ HT1.out HT2.out (by decide)).mono ?_
    rintro e w4 ⟨rfl, hb4⟩
    have x2 := X2.out w4 hb4
    have HB4 : Hid (Below w.heap.size w w4) := HB3.out.trans (hb4.mono HB3.out.size)
    clear hb4 x1
    go_wp2_with fail
    go_ret
    exact ⟨rfl, HB4.out⟩
  · rw [hk]
    clear hk
    have hs : W.cell? ⟨n, 9, none⟩ = some (.string ⟨#[40, 41]⟩) := (cell_of_block HS.out 9).trans rfl
    go_wp2_with fail
    refine (tokens_any _ [40, 41] _ rfl (by decide) (HE.out.keep HB.out)).mono ?_
    rintro e w3 ⟨ho, hb3⟩
    have x1 : w3.cell? ⟨n + 11, 9, none⟩ = some (.slice (some ⟨n + 6, 0, none⟩) 2 2) := (hb3.cell (p := ⟨n + 11, 9, none⟩) (size_of_block HWW.out)).trans ((cell_of_block HWW.out 9).trans rfl)
    have X2 : Hid (∀ w4, Below w3.heap.size w3 w4 → w4.cell? ⟨n + 12, 9, none⟩ = some (.int .i64 0)) := fun w4 h4 => ((hb3.trans (h4.mono hb3.size)).cell (p := ⟨n + 12, 9, none⟩) (size_of_block HAT.out)).trans ((cell_of_block HAT.out 9).trans rfl)
    have HB3 : Hid (Below w.heap.size w w3) := HB.out.trans (hb3.mono HB.out.size)
    rw [tk9] at ho
    rcases ho with ⟨er, p, h1, _⟩ | ⟨ts, v, h1, rfl, htk⟩
    · cases h1
    cases h1
    have HT1 := hide (TokRow.of htk)
    have HT2 : Hid (TokRow w3 (.slice (some ⟨n + 6, 0, none⟩) 2 2) [⟨1, 0, 0, []⟩, ⟨2, 0, 1, []⟩]) := HR9.out.keep hb3
    clear hs hb3 htk
    go_wp2_with fail
    refine (same_true _ _ _ _ HT1.out HT2.out (by decide)).mono ?_
    rintro e w4 ⟨rfl, hb4⟩
    have x2 := X2.out w4 hb4
    have HB4 : Hid (Below w.heap.size w w4) := HB3.out.trans (hb4.mono HB3.out.size)
    clear hb4 x1
    go_wp2_with fail
    go_ret
    exact ⟨rfl, HB4.out⟩
  · rw [hk]
    clear hk
    have hs : W.cell? ⟨n, 10, none⟩ = some (.string ⟨#[33]⟩) := (cell_of_block HS.out 10).trans rfl
    go_wp2_with fail
    refine (tokens_any _ [33] _ rfl (by decide) (HE.out.keep HB.out)).mono ?_
    rintro e w3 ⟨ho, hb3⟩
    have x1 : w3.cell? ⟨n + 11, 10, none⟩ = some (.slice none 0 0) := (hb3.cell (p := ⟨n + 11, 10, none⟩) (size_of_block HWW.out)).trans ((cell_of_block HWW.out 10).trans rfl)
    have X2 : Hid (∀ w4, Below w3.heap.size w3 w4 → w4.cell? ⟨n + 12, 10, none⟩ = some (.int .i64 0)) := fun w4 h4 => ((hb3.trans (h4.mono hb3.size)).cell (p := ⟨n + 12, 10, none⟩) (size_of_block HAT.out)).trans ((cell_of_block HAT.out 10).trans rfl)
    have HB3 : Hid (Below w.heap.size w w3) := HB.out.trans (hb3.mono HB.out.size)
    rw [tk10] at ho
    rcases ho with ⟨er, p, h1, rfl⟩ | ⟨ts, v, h1, _⟩
    rotate_left
    · cases h1
    cases h1
    have HT1 := hide (row_none w3)
    have HT2 := HT1
    clear hs hb3
    go_wp2_with fail
    refine (same_true _ _ _ _ HT1.out HT2.out (by decide)).mono ?_
    rintro e w4 ⟨rfl, hb4⟩
    have x2 := X2.out w4 hb4
    have HB4 : Hid (Below w.heap.size w w4) := HB3.out.trans (hb4.mono HB3.out.size)
    clear hb4 x1
    go_wp2_with fail
    go_ret
    exact ⟨rfl, HB4.out⟩
  · rw [hk]
    clear hk
    have hs : W.cell? ⟨n, 11, none⟩ = some (.string ⟨#[97, 32, 63]⟩) := (cell_of_block HS.out 11).trans rfl
    go_wp2_with fail
    refine (tokens_any _ [97, 32, 63] _ rfl (by decide) (HE.out.keep HB.out)).mono ?_
    rintro e w3 ⟨ho, hb3⟩
    have x1 : w3.cell? ⟨n + 11, 11, none⟩ = some (.slice none 0 0) := (hb3.cell (p := ⟨n + 11, 11, none⟩) (size_of_block HWW.out)).trans ((cell_of_block HWW.out 11).trans rfl)
    have X2 : Hid (∀ w4, Below w3.heap.size w3 w4 → w4.cell? ⟨n + 12, 11, none⟩ = some (.int .i64 2)) := fun w4 h4 => ((hb3.trans (h4.mono hb3.size)).cell (p := ⟨n + 12, 11, none⟩) (size_of_block HAT.out)).trans ((cell_of_block HAT.out 11).trans rfl)
    have HB3 : Hid (Below w.heap.size w w3) := HB.out.trans (hb3.mono HB.out.size)
    rw [tk11] at ho
    rcases ho with ⟨er, p, h1, rfl⟩ | ⟨ts, v, h1, _⟩
    rotate_left
    · cases h1
    cases h1
    have HT1 := hide (row_none w3)
    have HT2 := HT1
    clear hs hb3
    go_wp2_with fail
    refine (same_true _ _ _ _ HT1.out HT2.out (by decide)).mono ?_
    rintro e w4 ⟨rfl, hb4⟩
    have x2 := X2.out w4 hb4
    have HB4 : Hid (Below w.heap.size w w4) := HB3.out.trans (hb4.mono HB3.out.size)
    clear hb4 x1
    go_wp2_with fail
    go_ret
    exact ⟨rfl, HB4.out⟩
  · rw [hk]
    clear hk
    have hs : W.cell? ⟨n, 12, none⟩ = some (.string ⟨#[45, 48]⟩) := (cell_of_block HS.out 12).trans rfl
    go_wp2_with fail
    refine (tokens_any _ [45, 48] _ rfl (by decide) (HE.out.keep HB.out)).mono ?_
    rintro e w3 ⟨ho, hb3⟩
    have x1 : w3.cell? ⟨n + 11, 12, none⟩ = some (.slice (some ⟨n + 7, 0, none⟩) 1 1) := (hb3.cell (p := ⟨n + 11, 12, none⟩) (size_of_block HWW.out)).trans ((cell_of_block HWW.out 12).trans rfl)
    have X2 : Hid (∀ w4, Below w3.heap.size w3 w4 → w4.cell? ⟨n + 12, 12, none⟩ = some (.int .i64 0)) := fun w4 h4 => ((hb3.trans (h4.mono hb3.size)).cell (p := ⟨n + 12, 12, none⟩) (size_of_block HAT.out)).trans ((cell_of_block HAT.out 12).trans rfl)
    have HB3 : Hid (Below w.heap.size w w3) := HB.out.trans (hb3.mono HB.out.size)
    rw [tk12] at ho
    rcases ho with ⟨er, p, h1, _⟩ | ⟨ts, v, h1, rfl, htk⟩
    · cases h1
    cases h1
    have HT1 := hide (TokRow.of htk)
    have HT2 : Hid (TokRow w3 (.slice (some ⟨n + 7, 0, none⟩) 1 1) [⟨4, 0, 0, []⟩]) := HR12.out.keep hb3
    clear hs hb3 htk
    go_wp2_with fail
    refine (same_true _ _ _ _ HT1.out HT2.out (by decide)).mono ?_
    rintro e w4 ⟨rfl, hb4⟩
    have x2 := X2.out w4 hb4
    have HB4 : Hid (Below w.heap.size w w4) := HB3.out.trans (hb4.mono HB3.out.size)
    clear hb4 x1
    go_wp2_with fail
    go_ret
    exact ⟨rfl, HB4.out⟩
  · rw [hk]
    clear hk
    have hs : W.cell? ⟨n, 13, none⟩ = some (.string ⟨#[48, 48, 55]⟩) := (cell_of_block HS.out 13).trans rfl
    go_wp2_with fail
    refine (tokens_any _ [48, 48, 55] _ rfl (by decide) (HE.out.keep HB.out)).mono ?_
    rintro e w3 ⟨ho, hb3⟩
    have x1 : w3.cell? ⟨n + 11, 13, none⟩ = some (.slice (some ⟨n + 8, 0, none⟩) 1 1) := (hb3.cell (p := ⟨n + 11, 13, none⟩) (size_of_block HWW.out)).trans ((cell_of_block HWW.out 13).trans rfl)
    have X2 : Hid (∀ w4, Below w3.heap.size w3 w4 → w4.cell? ⟨n + 12, 13, none⟩ = some (.int .i64 0)) := fun w4 h4 => ((hb3.trans (h4.mono hb3.size)).cell (p := ⟨n + 12, 13, none⟩) (size_of_block HAT.out)).trans ((cell_of_block HAT.out 13).trans rfl)
    have HB3 : Hid (Below w.heap.size w w3) := HB.out.trans (hb3.mono HB.out.size)
    rw [tk13] at ho
    rcases ho with ⟨er, p, h1, _⟩ | ⟨ts, v, h1, rfl, htk⟩
    · cases h1
    cases h1
    have HT1 := hide (TokRow.of htk)
    have HT2 : Hid (TokRow w3 (.slice (some ⟨n + 8, 0, none⟩) 1 1) [⟨4, 7, 0, []⟩]) := HR13.out.keep hb3
    clear hs hb3 htk
    go_wp2_with fail
    refine (same_true _ _ _ _ HT1.out HT2.out (by decide)).mono ?_
    rintro e w4 ⟨rfl, hb4⟩
    have x2 := X2.out w4 hb4
    have HB4 : Hid (Below w.heap.size w w4) := HB3.out.trans (hb4.mono HB3.out.size)
    clear hb4 x1
    go_wp2_with fail
    go_ret
    exact ⟨rfl, HB4.out⟩
  · rw [hk]
    clear hk
    have hs : W.cell? ⟨n, 14, none⟩ = some (.string ⟨#[45, 45, 49]⟩) := (cell_of_block HS.out 14).trans rfl
    go_wp2_with fail
    refine (tokens_any _ [45, 45, 49] _ rfl (by decide) (HE.out.keep HB.out)).mono ?_
    rintro e w3 ⟨ho, hb3⟩
    have x1 : w3.cell? ⟨n + 11, 14, none⟩ = some (.slice none 0 0) := (hb3.cell (p := ⟨n + 11, 14, none⟩) (size_of_block HWW.out)).trans ((cell_of_block HWW.out 14).trans rfl)
    have X2 : Hid (∀ w4, Below w3.heap.size w3 w4 → w4.cell? ⟨n + 12, 14, none⟩ = some (.int .i64 0)) := fun w4 h4 => ((hb3.trans (h4.mono hb3.size)).cell (p := ⟨n + 12, 14, none⟩) (size_of_block HAT.out)).trans ((cell_of_block HAT.out 14).trans rfl)
    have HB3 : Hid (Below w.heap.size w w3) := HB.out.trans (hb3.mono HB.out.size)
    rw [tk14] at ho
    rcases ho with ⟨er, p, h1, rfl⟩ | ⟨ts, v, h1, _⟩
    rotate_left
    · cases h1
    cases h1
    have HT1 := hide (row_none w3)
    have HT2 := HT1
    clear hs hb3
    go_wp2_with fail
    refine (same_true _ _ _ _ HT1.out HT2.out (by decide)).mono ?_
    rintro e w4 ⟨rfl, hb4⟩
    have x2 := X2.out w4 hb4
    have HB4 : Hid (Below w.heap.size w w4) := HB3.out.trans (hb4.mono HB3.out.size)
    clear hb4 x1
    go_wp2_with fail
    go_ret
    exact ⟨rfl, HB4.out⟩
  · rw [hk]
    clear hk
    have hs : W.cell? ⟨n, 15, none⟩ = some (.string ⟨#[40, 59, 41, 10, 41]⟩) := (cell_of_block HS.out 15).trans rfl
    go_wp2_with fail
    refine (tokens_any _ [40, 59, 41, 10, 41] _ rfl (by decide) (HE.out.keep HB.out)).mono ?_
    rintro e w3 ⟨ho, hb3⟩
    have x1 : w3.cell? ⟨n + 11, 15, none⟩ = some (.slice (some ⟨n + 9, 0, none⟩) 2 2) := (hb3.cell (p := ⟨n + 11, 15, none⟩) (size_of_block HWW.out)).trans ((cell_of_block HWW.out 15).trans rfl)
    have X2 : Hid (∀ w4, Below w3.heap.size w3 w4 → w4.cell? ⟨n + 12, 15, none⟩ = some (.int .i64 0)) := fun w4 h4 => ((hb3.trans (h4.mono hb3.size)).cell (p := ⟨n + 12, 15, none⟩) (size_of_block HAT.out)).trans ((cell_of_block HAT.out 15).trans rfl)
    have HB3 : Hid (Below w.heap.size w w3) := HB.out.trans (hb3.mono HB.out.size)
    rw [tk15] at ho
    rcases ho with ⟨er, p, h1, _⟩ | ⟨ts, v, h1, rfl, htk⟩
    · cases h1
    cases h1
    have HT1 := hide (TokRow.of htk)
    have HT2 : Hid (TokRow w3 (.slice (some ⟨n + 9, 0, none⟩) 2 2) [⟨1, 0, 0, []⟩, ⟨2, 0, 4, []⟩]) := HR15.out.keep hb3
    clear hs hb3 htk
    go_wp2_with fail
    refine (same_true _ _ _ _ HT1.out HT2.out (by decide)).mono ?_
    rintro e w4 ⟨rfl, hb4⟩
    have x2 := X2.out w4 hb4
    have HB4 : Hid (Below w.heap.size w w4) := HB3.out.trans (hb4.mono HB3.out.size)
    clear hb4 x1
    go_wp2_with fail
    go_ret
    exact ⟨rfl, HB4.out⟩
  · rw [hk]
    clear hk
    have hs : W.cell? ⟨n, 16, none⟩ = some (.string ⟨#[45, 62, 45, 62]⟩) := (cell_of_block HS.out 16).trans rfl
    go_wp2_with fail
    refine (tokens_any _ [45, 62, 45, 62] _ rfl (by decide) (HE.out.keep HB.out)).mono ?_
    rintro e w3 ⟨ho, hb3⟩
    have x1 : w3.cell? ⟨n + 11, 16, none⟩ = some (.slice (some ⟨n + 10, 0, none⟩) 2 2) := (hb3.cell (p := ⟨n + 11, 16, none⟩) (size_of_block HWW.out)).trans ((cell_of_block HWW.out 16).trans rfl)
    have X2 : Hid (∀ w4, Below w3.heap.size w3 w4 → w4.cell? ⟨n + 12, 16, none⟩ = some (.int .i64 0)) := fun w4 h4 => ((hb3.trans (h4.mono hb3.size)).cell (p := ⟨n + 12, 16, none⟩) (size_of_block HAT.out)).trans ((cell_of_block HAT.out 16).trans rfl)
    have HB3 : Hid (Below w.heap.size w w3) := HB.out.trans (hb3.mono HB.out.size)
    rw [tk16] at ho
    rcases ho with ⟨er, p, h1, _⟩ | ⟨ts, v, h1, rfl, htk⟩
    · cases h1
    cases h1
    have HT1 := hide (TokRow.of htk)
    have HT2 : Hid (TokRow w3 (.slice (some ⟨n + 10, 0, none⟩) 2 2) [⟨3, 0, 0, [45, 62]⟩, ⟨3, 0, 2, [45, 62]⟩]) := HR16.out.keep hb3
    clear hs hb3 htk
    go_wp2_with fail
    refine (same_true _ _ _ _ HT1.out HT2.out (by decide)).mono ?_
    rintro e w4 ⟨rfl, hb4⟩
    have x2 := X2.out w4 hb4
    have HB4 : Hid (Below w.heap.size w w4) := HB3.out.trans (hb4.mono HB3.out.size)
    clear hb4 x1
    go_wp2_with fail
    go_ret
    exact ⟨rfl, HB4.out⟩
#print axioms lexknown_any
end Go.Proofs.YtoadbgdkcdilhaaDoor
