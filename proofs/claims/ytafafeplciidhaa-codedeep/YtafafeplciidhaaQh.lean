/- The parts of a head: op, n, kids. -/
import Derived.Test.YtafafeplciidhaaWa
import Derived.Test.YtafafeplciidhaaPs
import Derived.Laws.BitsAllLaws
namespace Go.Proofs.Ytafafeplciidhaa
open Go.RowKit

set_option maxHeartbeats 400000 in
theorem h_op (b0 b1 b2 b3 b4 b5 b6 b7 b8 b9 : Int) (w : World) (h : 0 ≤ b0 ∧ b0 < 256) :
    Calls Try.prog 34 #[.agg #[.int .u8 b0, .int .u8 b1, .int .u8 b2, .int .u8 b3, .int .u8 b4, .int .u8 b5, .int .u8 b6, .int .u8 b7, .int .u8 b8, .int .u8 b9]] w fun e w' => e = .returned (.int .i64 b0) ∧ Below w.heap.size w w' := by
  go_enter Try.func34, Try.ntmps34
  go_wp2
  go_ret
  exact ⟨rfl, (Below.refl _ _).alloc (Nat.le_refl _) _⟩

set_option maxHeartbeats 400000 in
theorem h_kids (b0 b1 b2 b3 b4 b5 b6 b7 b8 b9 : Int) (w : World) (h : 0 ≤ b9 ∧ b9 < 256) :
    Calls Try.prog 33 #[.agg #[.int .u8 b0, .int .u8 b1, .int .u8 b2, .int .u8 b3, .int .u8 b4, .int .u8 b5, .int .u8 b6, .int .u8 b7, .int .u8 b8, .int .u8 b9]] w fun e w' => e = .returned (.int .i64 b9) ∧ Below w.heap.size w w' := by
  go_enter Try.func33, Try.ntmps33
  go_wp2
  go_ret
  exact ⟨rfl, (Below.refl _ _).alloc (Nat.le_refl _) _⟩

theorem nat_or (k a b : Nat) (ha : a < 2 ^ k) : a ||| b * 2 ^ k = a + b * 2 ^ k := by
  rw [Nat.or_comm, Nat.mul_comm b, ← Nat.two_pow_add_eq_or_of_lt ha, Nat.add_comm]

theorem or_add (k : Nat) (m : Int) (hm : m = ((2 ^ k : Nat) : Int)) (x y : Int) (hx : 0 ≤ x) (hx2 : x < m) (hy : 0 ≤ y) (h : x + y * m < 18446744073709551616) : bits .or .u64 x (y * m) = x + y * m := by
  obtain ⟨a, rfl⟩ := Int.eq_ofNat_of_zero_le hx
  obtain ⟨b, rfl⟩ := Int.eq_ofNat_of_zero_le hy
  subst hm
  have e : (b : Int) * ((2 ^ k : Nat) : Int) = ((b * 2 ^ k : Nat) : Int) := by rw [Int.natCast_mul]
  rw [e] at h ⊢
  have h1 : a < 2 ^ k := by omega
  have h2 : a + b * 2 ^ k < 18446744073709551616 := by omega
  rw [u64_or_nat a (b * 2 ^ k) (by omega) (by omega), nat_or k a b h1]
  simp

theorem or8 (b1 b2 b3 b4 b5 b6 b7 b8 : Int) (h1 : 0 ≤ b1 ∧ b1 < 256) (h2 : 0 ≤ b2 ∧ b2 < 256) (h3 : 0 ≤ b3 ∧ b3 < 256) (h4 : 0 ≤ b4 ∧ b4 < 256) (h5 : 0 ≤ b5 ∧ b5 < 256) (h6 : 0 ≤ b6 ∧ b6 < 256) (h7 : 0 ≤ b7 ∧ b7 < 256) (h8 : 0 ≤ b8 ∧ b8 < 256) :
    bits .or .u64 (bits .or .u64 (bits .or .u64 (bits .or .u64 (bits .or .u64 (bits .or .u64 (bits .or .u64 (bits .or .u64 0 b1) (b2 * 256)) (b3 * 65536)) (b4 * 16777216)) (b5 * 4294967296)) (b6 * 1099511627776)) (b7 * 281474976710656)) (b8 * 72057594037927936) =
      b1 + b2 * 256 + b3 * 65536 + b4 * 16777216 + b5 * 4294967296 + b6 * 1099511627776 + b7 * 281474976710656 + b8 * 72057594037927936 := by
  have e0 : bits .or .u64 0 b1 = b1 := by
    have := or_add 0 1 rfl 0 b1 (by omega) (by omega) (by omega) (by omega)
    simpa using this
  rw [e0, or_add 8 256 rfl b1 b2 (by omega) (by omega) (by omega) (by omega), or_add 16 65536 rfl _ b3 (by omega) (by omega) (by omega) (by omega), or_add 24 16777216 rfl _ b4 (by omega) (by omega) (by omega) (by omega),
    or_add 32 4294967296 rfl _ b5 (by omega) (by omega) (by omega) (by omega), or_add 40 1099511627776 rfl _ b6 (by omega) (by omega) (by omega) (by omega), or_add 48 281474976710656 rfl _ b7 (by omega) (by omega) (by omega) (by omega),
    or_add 56 72057594037927936 rfl _ b8 (by omega) (by omega) (by omega) (by omega)]

set_option maxHeartbeats 1000000 in
theorem h_n (b0 b1 b2 b3 b4 b5 b6 b7 b8 b9 : Int) (w : World) (h1 : 0 ≤ b1 ∧ b1 < 256) (h2 : 0 ≤ b2 ∧ b2 < 256) (h3 : 0 ≤ b3 ∧ b3 < 256) (h4 : 0 ≤ b4 ∧ b4 < 256) (h5 : 0 ≤ b5 ∧ b5 < 256) (h6 : 0 ≤ b6 ∧ b6 < 256) (h7 : 0 ≤ b7 ∧ b7 < 256) (h8 : 0 ≤ b8 ∧ b8 < 256) :
    Calls Try.prog 35 #[.agg #[.int .u8 b0, .int .u8 b1, .int .u8 b2, .int .u8 b3, .int .u8 b4, .int .u8 b5, .int .u8 b6, .int .u8 b7, .int .u8 b8, .int .u8 b9]] w fun e w' => e = .returned (.int .i64 (numOf [b0, b1, b2, b3, b4, b5, b6, b7, b8, b9])) ∧ Below w.heap.size w w' := by
  go_enter Try.func35, Try.ntmps35
  go_wp2_with fail
  refine wp_loop_rounds 9 ?_
  iterate 9 (rw [rounds_succ]; go_wp2_with fail)
  go_ret
  refine ⟨?_, (Below.refl _ _).alloc (Nat.le_refl _) _⟩
  rw [or8 b1 b2 b3 b4 b5 b6 b7 b8 h1 h2 h3 h4 h5 h6 h7 h8, ← IntWalk.i64_left]
  rfl
#print axioms h_n
end Go.Proofs.Ytafafeplciidhaa
