/- Digits of a number, and how they are read. -/
import Derived.Test.YtoadbgdkcdilhaaDoorNm
namespace Go.Proofs.YtoadbgdkcdilhaaDoor
open Go.RowKit

/-- A digit's byte. -/
def dg (n : Nat) : UInt8 := UInt8.ofNat (48 + n)

/-- A number's digits, at most so many and one. -/
def decF : Nat → Nat → List UInt8
  | 0, n => [dg n]
  | f + 1, n => if n < 10 then [dg n] else decF f (n / 10) ++ [dg (n % 10)]

theorem dg_nat {n : Nat} (h : n < 10) : (dg n).toNat = 48 + n := by
  unfold dg
  rw [UInt8.toNat_ofNat']
  omega

theorem decF_one (f n : Nat) (h : n < 10) : decF f n = [dg n] := by
  cases f with
  | zero => rfl
  | succ f => rw [decF, if_pos h]

theorem decF_ne (f n : Nat) : decF f n ≠ [] := by
  cases f with
  | zero => simp [decF]
  | succ f => rw [decF]; split <;> simp

theorem decF_len (f : Nat) : ∀ n, (decF f n).length ≤ f + 1 := by
  induction f with
  | zero => intro n; simp [decF]
  | succ f ih =>
    intro n
    rw [decF]
    split
    · simp
    · rw [List.length_append]; have := ih (n / 10); simp; omega

theorem decF_dig (f : Nat) : ∀ n, n < 10 ^ (f + 1) → ∀ c ∈ decF f n, 48 ≤ c.toNat ∧ c.toNat ≤ 57 := by
  induction f with
  | zero =>
    intro n hn c hc
    simp [decF] at hc
    subst hc
    rw [dg_nat (by simpa using hn)]
    omega
  | succ f ih =>
    intro n hn c hc
    rw [decF] at hc
    split at hc
    · rename_i h
      simp at hc
      subst hc
      rw [dg_nat h]
      omega
    · rcases List.mem_append.1 hc with h | h
      · refine ih (n / 10) ?_ c h
        rw [Nat.div_lt_iff_lt_mul (by decide)]
        rw [Nat.pow_succ] at hn
        exact hn
      · simp at h
        subst h
        rw [dg_nat (by omega)]
        omega

theorem parse_snoc (M : Nat) (c : UInt8) (hc : 48 ≤ c.toNat ∧ c.toNat ≤ 57) : ∀ (l : List UInt8) (acc v : Nat), Lib.parseUintM M acc l = .ok v → v < 1844674407370955162 → v * 10 + (c.toNat - 48) ≤ M → Lib.parseUintM M acc (l ++ [c]) = .ok (v * 10 + (c.toNat - 48))
  | [], acc, v, h, h1, h2 => by
    rw [Lib.parseUintM] at h
    cases h
    rw [List.nil_append, Lib.parseUintM, if_pos hc, if_neg (by omega), if_neg (by omega), Lib.parseUintM]
  | d :: r, acc, v, h, h1, h2 => by
    rw [Lib.parseUintM] at h
    rw [List.cons_append, Lib.parseUintM]
    split at h
    · rename_i hd
      rw [if_pos hd]
      split at h
      · cases h
      · rename_i ha
        rw [if_neg ha]
        split at h
        · cases h
        · rename_i hb
          rw [if_neg hb]
          exact parse_snoc M c hc r _ v h h1 h2
    · cases h

theorem parse_dec (f : Nat) : ∀ n, n < 10 ^ (f + 1) → n ≤ 9223372036854775808 → Lib.parseUintM 18446744073709551615 0 (decF f n) = .ok n := by
  induction f with
  | zero =>
    intro n hn _
    have h10 : n < 10 := by simpa using hn
    rw [decF, Lib.parseUintM, dg_nat h10, if_pos (by omega), if_neg (by omega), if_neg (by omega), Lib.parseUintM]
    congr 1
    omega
  | succ f ih =>
    intro n hn hm
    rw [decF]
    split
    · rename_i h
      rw [Lib.parseUintM, dg_nat h, if_pos (by omega), if_neg (by omega), if_neg (by omega), Lib.parseUintM]
      congr 1
      omega
    · have h1 := ih (n / 10) (by rw [Nat.div_lt_iff_lt_mul (by decide)]; rw [Nat.pow_succ] at hn; exact hn) (by omega)
      have hd := dg_nat (show n % 10 < 10 by omega)
      have h2 := parse_snoc 18446744073709551615 (dg (n % 10)) (by omega) _ 0 _ h1 (by omega) (by omega)
      rw [h2]
      congr 1
      omega

/-- A number's text. -/
def txtN (n : Int) : List UInt8 := if n < 0 then 45 :: decF 19 n.natAbs else decF 19 n.natAbs

theorem pow20 : (10 : Nat) ^ (19 + 1) = 100000000000000000000 := by decide

theorem parse_u (m : Nat) (h : m ≤ 9223372036854775808) : Lib.parseUintB 64 (decF 19 m) = .ok m := by
  unfold Lib.parseUintB
  rw [if_neg (decF_ne 19 m)]
  exact parse_dec 19 m (by rw [pow20]; omega) h

theorem val_txt (n : Int) (h1 : -9223372036854775808 ≤ n) (h2 : n ≤ 9223372036854775807) : valP (txtN n) = if -4611686018427387904 ≤ n ∧ n ≤ 4611686018427387904 then some n else none := by
  have key : Lib.parseIntB 64 (txtN n) = .ok n := by
    unfold txtN
    have hp := parse_u n.natAbs (by omega)
    split
    · rename_i h
      unfold Lib.parseIntB
      simp only
      rw [if_pos (by decide), hp]
      simp only
      rw [if_neg (by simp), if_neg (by have : (2 : Nat) ^ (64 - 1) = 9223372036854775808 := by decide
                                       rw [this]; omega)]
      rw [if_pos (by decide)]
      congr 1
      omega
    · rename_i h
      have hdg := decF_dig 19 n.natAbs (by rw [pow20]; omega)
      cases hl : decF 19 n.natAbs with
      | nil => exact absurd hl (decF_ne _ _)
      | cons c r =>
        rw [hl] at hdg hp
        have hc := hdg c (by simp)
        unfold Lib.parseIntB
        simp only
        rw [if_neg (by omega), hp]
        simp only
        rw [if_neg (by have : (2 : Nat) ^ (64 - 1) = 9223372036854775808 := by decide
                       rw [this]; omega), if_neg (by omega), if_neg (by omega)]
        congr 1
        omega
  unfold valP
  rw [key]
#print axioms val_txt
end Go.Proofs.YtoadbgdkcdilhaaDoor
