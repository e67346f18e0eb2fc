/- headOf, count, put, pile: what each call returns, and what it does to memory. -/
import Derived.Test.YtafafeplciidhaaWa
namespace Go.Proofs.Ytafafeplciidhaa
open Go.RowKit

/-- The ten numbers of a head. -/
def hd (op n : Int) (len : Nat) : List Int :=
  [op % 256, IntKind.u64.wrap n % 256, IntKind.u64.wrap n / 256 % 256, IntKind.u64.wrap n / 65536 % 256, IntKind.u64.wrap n / 16777216 % 256, IntKind.u64.wrap n / 4294967296 % 256,
   IntKind.u64.wrap n / 1099511627776 % 256, IntKind.u64.wrap n / 281474976710656 % 256, IntKind.u64.wrap n / 72057594037927936 % 256, (len : Int)]

/-- Numbers as bytes' cells. -/
def bys (l : List Int) : List Value := l.map (Value.int .u8)

theorem hd_length (op n : Int) (len : Nat) : (hd op n len).length = 10 := rfl

set_option maxHeartbeats 400000 in
theorem headOf_any (op n : Int) (a : Option Addr) (len cap : Nat) (w : World) (_h1 : I64 op) (_h2 : I64 n) (hl : len ≤ 255) :
    Calls Try.prog 30 #[.agg #[.int .i64 op, .int .i64 n, .slice a len cap]] w fun e w' => e = .returned (.agg (bys (hd op n len)).toArray) ∧ Below w.heap.size w w' := by
  unfold I64 at _h1 _h2
  go_enter Try.func30, Try.ntmps30
  go_wp2_with fail
  refine wp_loop_rounds 9 ?_
  iterate 9 (rw [rounds_succ]; go_wp2_with fail)
  refine bodyPost_ret (v := .agg (bys (hd op n len)).toArray) (by simp [results, Try.results30, go_sem, bys, hd]) rfl ⟨rfl, ?_⟩
  exact (((Below.refl _ _).alloc (Nat.le_refl _) _).alloc (by simp) _).alloc (by simp; omega) _

set_option maxHeartbeats 400000 in
theorem count_m (b : Nat) (k : Nat) (x y z s at0 : Value) (w : World) (hk : k ≤ 1000000) (hb : w.heap[b]? = some (.cells #[.int .i64 k, s, at0] 54 (0, 0))) :
    Calls Try.prog 25 #[.pointer (some ⟨b, 0, none⟩), .agg #[x, y, z]] w fun e w' => e = .returned (.tuple #[]) ∧ Fr (· = b) w w' ∧ w'.heap[b]? = some (.cells #[.int .i64 ((k + 1 : Nat) : Int), s, at0] 54 (0, 0)) := by
  have hlt := size_of_block hb
  have h1 : (w.alloc (.cells #[x, y, z] 29)).heap[b]? = some (.cells #[.int .i64 k, s, at0] 54 (0, 0)) := by rw [Below.heap_alloc _ _ _ hlt]; exact hb
  have hc : (w.alloc (.cells #[x, y, z] 29)).cell? ⟨b, 0, none⟩ = some (.int .i64 k) := by rw [cell_of_block h1]; rfl
  have hf := frozen_of_block h1 0
  clear h1
  have HB := hide hb; clear hb
  go_enter Try.func25, Try.ntmps25
  go_wp2_with fail
  go_end0
  refine ⟨rfl, ((Fr.refl (· = b) w).setCell (p := ⟨b, 0, none⟩) rfl _).alloc _, ?_⟩
  rw [Below.heap_alloc _ _ _ (by simpa [World.setCell] using hlt), heap_setCell_same _ _ _ _ _ _ HB.out]
  rfl

theorem Try.info27 : (Try.prog.info? 27).map (fun i => (i.zero, i.size, i.bytes)) = some (some (.slice none 0 0), 1, 24) := by kernel_rfl

set_option maxHeartbeats 400000 in
theorem pile_empty (R : Value) (a : Option Addr) (cap : Nat) (w : World) :
    Calls Try.prog 29 #[R, .slice a 0 cap] w fun e w' => e = .returned R ∧ w' = w := by
  go_enter Try.func29, Try.ntmps29
  go_wp2_with fail
  go_ret
  exact ⟨rfl, rfl⟩

set_option maxHeartbeats 400000 in
theorem pile_push (base n : Nat) (v : Value) (xs : List Value) (a : Option Addr) (len cap : Nat) (w : World) (hown : w.ownsRow base 27 1 v n xs) (hb : base ≤ w.heap.size) (hn : n ≤ 1000000) :
    Calls Try.prog 29 #[v, .slice a (len + 1) cap] w fun e w' => ∃ v', e = .returned v' ∧ w'.ownsRow base 27 1 v' (n + 1) (xs ++ [.slice a (len + 1) cap]) ∧ w.grownBy w' v.ownBlock := by
  obtain ⟨i, hi, hz0, hz1, hz2⟩ := info_parts Try.info27
  have h0 : ((len : Int) + 1 == 0) = false := beq_eq_false_iff_ne.2 (by omega)
  go_enter Try.func29, Try.ntmps29
  go_wp2_with (at_builtin; refine wpList_append_own _ rfl _ _ 64 rfl base 27 i (.slice none 0 0) 1 24 Try.underlying64 hi hz0 hz1 hz2 rfl (by decide) v n xs rfl (hown.alloc _) ⟨w.heap.size, 0, none⟩ 1 1 [.slice a (len + 1) cap] rfl rfl (cell_one_new _ _ _) (fun x hx => by simp at hx; subst hx; rfl) (by unfold maxLen; omega) (by omega) (by simp; omega) ?_; intro v' w3 hown' hgrow3 hnil3)
  go_ret
  refine ⟨v', rfl, hown', ?_⟩
  have := (hown.alloc (.cells #[.slice a (len + 1) cap] 27))
  exact ⟨hgrow3.os, hgrow3.tape, hgrow3.output, by have := hgrow3.size; simp at this; omega, fun k hk hne => (hgrow3.block k (by simp; omega) hne).trans (Below.heap_alloc _ _ _ hk)⟩
end Go.Proofs.Ytafafeplciidhaa
