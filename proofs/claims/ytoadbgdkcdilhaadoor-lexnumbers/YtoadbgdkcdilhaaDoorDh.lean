/- A number's text as a token; Digits: what it answers. -/
import Derived.Test.YtoadbgdkcdilhaaDoorDg
namespace Go.Proofs.YtoadbgdkcdilhaaDoor
open Go.RowKit

theorem dig_byt {l : List UInt8} (h : ∀ c ∈ l, 48 ≤ c.toNat ∧ c.toNat ≤ 57) (j : Nat) (hj : j < l.length) : 48 ≤ byt l j ∧ byt l j ≤ 57 := by
  have h1 := h l[j] (List.getElem_mem hj)
  unfold byt
  rw [List.getD_eq_getElem?_getD, List.getElem?_eq_getElem hj]
  simp only [Option.getD_some]
  omega

theorem dig_true {x : Int} (h : 48 ≤ x ∧ x ≤ 57) : digB x = true := by simp [digB, h]

/-- What is known of a number's text. -/
theorem txt_facts (n : Int) (h1 : -9223372036854775808 ≤ n) (h2 : n ≤ 9223372036854775807) : txtN n ≠ [] ∧ (txtN n).length ≤ 21 ∧ blankB (byt (txtN n) 0) = false ∧ byt (txtN n) 0 ≠ 59 ∧ byt (txtN n) 0 ≠ 40 ∧ byt (txtN n) 0 ≠ 41 ∧ (nameB (byt (txtN n) 0) && !digB (byt (txtN n) 0)) = false ∧ ¬ 0 < signN (txtN n) ∧
    (digB (byt (txtN n) 0) || (byt (txtN n) 0 == 45 && decide (1 < (txtN n).length) && digB (byt (txtN n) 1))) = true ∧ 1 + cnt digB ((txtN n).drop 1) = (txtN n).length := by
  have hdg := decF_dig 19 n.natAbs (by rw [pow20]; omega)
  have hlen := decF_len 19 n.natAbs
  have hne := decF_ne 19 n.natAbs
  have hpos : 0 < (decF 19 n.natAbs).length := by cases hd : decF 19 n.natAbs with | nil => exact absurd hd hne | cons => simp
  unfold txtN
  split
  · have hb0 : byt (45 :: decF 19 n.natAbs) 0 = 45 := rfl
    have hb1 : byt (45 :: decF 19 n.natAbs) 1 = byt (decF 19 n.natAbs) 0 := rfl
    have hd0 := dig_byt hdg 0 hpos
    rw [hb0, hb1]
    refine ⟨by simp, by simp; omega, by decide, by decide, by decide, by decide, by decide, ?_, ?_, ?_⟩
    · unfold signN
      rw [hb0, hb1, if_neg (by omega), if_neg (by omega)]
      omega
    · rw [dig_true hd0]; simp; omega
    · show 1 + cnt digB (decF 19 n.natAbs) = _
      rw [cnt_all digB _ (fun j hj => dig_true (dig_byt hdg j hj)), List.length_cons]
      omega
  · have hd0 := dig_byt hdg 0 hpos
    refine ⟨hne, by omega, ?_, by omega, by omega, by omega, by rw [dig_true hd0]; simp, ?_, by rw [dig_true hd0]; simp, ?_⟩
    · simp only [blankB, Bool.or_eq_false_iff, beq_eq_false_iff_ne]; omega
    · unfold signN
      rw [if_neg (by omega), if_neg (by omega)]
      omega
    · rw [cnt_all digB _ (fun j hj => ?_), List.length_drop]
      · omega
      · rw [List.length_drop] at hj
        rw [byt_drop]
        exact dig_true (dig_byt hdg _ (by omega))

theorem tok_num {L : List UInt8} {ts : List Tok} {p : Nat} {n : Int} (h1 : -9223372036854775808 ≤ n) (h2 : n ≤ 9223372036854775807) (hL : L.length ≤ 4000) (hd : L.drop p = txtN n) (hl : Left L ts p) :
    tokP L = if -4611686018427387904 ≤ n ∧ n ≤ 4611686018427387904 then .ok (ts ++ [⟨4, n, p, []⟩]) else .error (4, p) := by
  obtain ⟨f0, _, f1, f2, f3, f4, f5, f6, f7, f8⟩ := txt_facts n h1 h2
  have hv := val_txt n h1 h2
  have hp : p < L.length := by
    have h := congrArg List.length hd
    rw [List.length_drop] at h
    have : 0 < (txtN n).length := by cases hx : txtN n with | nil => exact absurd hx f0 | cons => simp
    omega
  have hlen : p + (txtN n).length = L.length := by
    have h := congrArg List.length hd
    rw [List.length_drop] at h
    omega
  rw [← hd] at f1 f2 f3 f4 f5 f6 f7 f8 hv
  have htk : (L.drop p).take (1 + cnt digB ((L.drop p).drop 1)) = L.drop p := by rw [f8]; exact List.take_of_length_le (Nat.le_refl _)
  split
  · rename_i hin
    rw [if_pos hin] at hv
    have h3 := hl.tok hp (one_num (p := p) f1 f2 f3 f4 f5 f6 f7 (by rw [htk]; exact hv))
    unfold tokP
    rw [if_neg (by omega)]
    refine h3.last ?_
    rw [f8, hd]
    omega
  · rename_i hout
    rw [if_neg hout] at hv
    exact tok_err hL hl hp (one_far (p := p) f1 f2 f3 f4 f5 f6 f7 (by rw [htk]; exact hv))

theorem tok_txt (n : Int) (h1 : -9223372036854775808 ≤ n) (h2 : n ≤ 9223372036854775807) : tokP (txtN n) = if -4611686018427387904 ≤ n ∧ n ≤ 4611686018427387904 then .ok [⟨4, n, 0, []⟩] else .error (4, 0) :=
  tok_num h1 h2 (by have := (txt_facts n h1 h2).2.1; omega) (List.drop_zero) (Left.zero _)

theorem tok_txt1 (n : Int) (h1 : -9223372036854775808 ≤ n) (h2 : n ≤ 9223372036854775807) : tokP (32 :: txtN n) = if -4611686018427387904 ≤ n ∧ n ≤ 4611686018427387904 then .ok [⟨4, n, 1, []⟩] else .error (4, 1) := by
  obtain ⟨f0, fl, f1, _⟩ := txt_facts n h1 h2
  have hl : Left (32 :: txtN n) [] 1 := by
    have h := (Left.zero (32 :: txtN n)).skip (by simp) (one_blank (l := List.drop 0 (32 :: txtN n)) (p := 0) rfl)
    have hc : cnt blankB (List.drop 0 (32 :: txtN n)) = 1 := by
      refine cnt_stop blankB _ 1 ?_ (fun j hj => ?_) f1
      · have : 0 < (txtN n).length := by cases hx : txtN n with | nil => exact absurd hx f0 | cons => simp
        simp; omega
      · have : j = 0 := by omega
        subst this; rfl
    rw [hc] at h
    exact h
  exact tok_num h1 h2 (by simp; omega) rfl hl

set_option linter.unusedSimpArgs false in
set_option maxHeartbeats 1000000 in
theorem digits_one (n : Nat) (w : World) (h : n < 10) : Calls Tryd.prog 14 #[.int .i64 n] w fun e w' => ∃ s : ByteArray, e = .returned (.string s) ∧ s.data.toList = [dg n] ∧ Below w.heap.size w w' := by
  have CV := cv38
  have hw1 : IntKind.i64.wrap (48 + (n : Int)) = ((48 + n : Nat) : Int) := by rw [IntKind.wrap_i64]; omega
  have hw8 : IntKind.u8.wrap ((48 + n : Nat) : Int) = ((48 + n : Nat) : Int) := by simp [IntKind.wrap, IntKind.bits, IntKind.signed]; omega
  have hw9 : IntKind.u8.wrap (48 + (n : Int)) = ((48 + n : Nat) : Int) := by simp [IntKind.wrap, IntKind.bits, IntKind.signed]; omega
  go_enter Tryd.func14, Tryd.ntmps14
  go_wp2_with fail
  go_ret
  refine ⟨_, rfl, ?_, (Below.refl _ _).alloc (Nat.le_refl _) _⟩
  show [UInt8.ofNat (48 + (n : Int)).toNat] = [dg n]
  rw [show (48 + (n : Int)).toNat = 48 + n by omega]
  rfl

set_option linter.unusedSimpArgs false in
set_option maxHeartbeats 1000000 in
theorem digits_nat (f : Nat) (hf : f ≤ 19) : ∀ (n : Nat) (w : World), n < 10 ^ (f + 1) → n ≤ 9223372036854775807 → Calls Tryd.prog 14 #[.int .i64 n] w fun e w' => ∃ s : ByteArray, e = .returned (.string s) ∧ s.data.toList = decF f n ∧ Below w.heap.size w w' := by
  induction f with
  | zero =>
    intro n w hn _
    have h10 : n < 10 := by simpa using hn
    rw [decF_one 0 n h10]
    exact digits_one n w h10
  | succ f ih =>
    intro n w hn hm
    by_cases h10 : n < 10
    · rw [decF_one (f + 1) n h10]
      exact digits_one n w h10
    · have hdec : decF (f + 1) n = decF f (n / 10) ++ [dg (n % 10)] := by rw [decF, if_neg h10]
      have hq : n / 10 < 10 ^ (f + 1) := by rw [Nat.div_lt_iff_lt_mul (by decide)]; rw [Nat.pow_succ] at hn; exact hn
      have HD := hide hdec; have HQ := hide hq
      have hl := decF_len f (n / 10)
      clear hdec hq hn
      have e1 : (n : Int).tdiv 10 = ((n / 10 : Nat) : Int) := by rw [Int.tdiv_eq_ediv_of_nonneg (by omega)]; omega
      have e2 : (n : Int).tmod 10 = ((n % 10 : Nat) : Int) := by rw [Int.tmod_eq_emod_of_nonneg (by omega)]; omega
      go_enter Tryd.func14, Tryd.ntmps14
      go_wp2_with fail
      rw [show ((n : Int) / 10) = ((n / 10 : Nat) : Int) by omega]
      refine (ih (by omega) (n / 10) w HQ.out (by omega)).mono ?_
      rintro e w1 ⟨s1, rfl, hs1, hb1⟩
      have HS1 := hide hs1; have HB1 := hide hb1
      have hz1 := size_len _ _ hs1
      clear hs1 hb1
      go_wp2_with fail
      rw [show ((n : Int) % 10) = ((n % 10 : Nat) : Int) by omega]
      refine (digits_one (n % 10) _ (by omega)).mono ?_
      rintro e w2 ⟨s2, rfl, hs2, hb2⟩
      have HS2 := hide hs2
      have HB2 : Hid (Below w.heap.size w w2) := HB1.out.trans (hb2.mono HB1.out.size)
      have hz2 : s2.size = 1 := size_len _ _ hs2
      have hbig : ¬ 9223372036854775807 < s1.size + s2.size := by omega
      have HZ1 := hide hz1
      clear hs2 hb2 hz1 hz2
      go_wp2_with fail
      go_ret
      exact ⟨_, rfl, by rw [HD.out]; exact app_list _ _ _ _ HS1.out HS2.out, HB2.out⟩

theorem min_txt : txtN (-9223372036854775808) = [45, 57, 50, 50, 51, 51, 55, 50, 48, 51, 54, 56, 53, 52, 55, 55, 53, 56, 48, 56] := by kernel_rfl

set_option linter.unusedSimpArgs false in
set_option maxRecDepth 20000 in
set_option maxHeartbeats 1000000 in
theorem digits_any (n : Int) (w : World) (h1 : -9223372036854775808 ≤ n) (h2 : n ≤ 9223372036854775807) : Calls Tryd.prog 14 #[.int .i64 n] w fun e w' => ∃ s : ByteArray, e = .returned (.string s) ∧ s.data.toList = txtN n ∧ Below w.heap.size w w' := by
  by_cases hneg : n < 0
  · by_cases hmin : n = -9223372036854775808
    · subst hmin
      have HM := hide min_txt
      go_enter Tryd.func14, Tryd.ntmps14
      go_wp2_with fail
      go_ret
      exact ⟨_, rfl, by rw [HM.out], Below.refl _ _⟩
    · have ht : txtN n = 45 :: decF 19 n.natAbs := by unfold txtN; rw [if_pos hneg]
      have HT := hide ht
      have hl := decF_len 19 n.natAbs
      have hw : IntKind.i64.wrap (0 - n) = ((n.natAbs : Nat) : Int) := by rw [IntKind.wrap_i64]; omega
      have hw2 : IntKind.i64.wrap (-n) = ((n.natAbs : Nat) : Int) := by rw [IntKind.wrap_i64]; omega
      have heq : (n == -9223372036854775808) = false := by rw [beq_eq_false_iff_ne]; exact hmin
      clear ht
      go_enter Tryd.func14, Tryd.ntmps14
      go_wp2_with fail
      refine (digits_nat 19 (by omega) n.natAbs _ (by rw [pow20]; omega) (by omega)).mono ?_
      rintro e w1 ⟨s1, rfl, hs1, hb1⟩
      have HS1 := hide hs1; have HB1 := hide hb1
      have hz1 := size_len _ _ hs1
      have hbig : ¬ 9223372036854775807 < 1 + s1.size := by omega
      clear hs1 hb1 hz1
      go_wp2_with fail
      go_ret
      exact ⟨_, rfl, by rw [HT.out]; exact app_list _ _ [45] _ rfl HS1.out, HB1.out⟩
  · obtain ⟨m, rfl⟩ : ∃ m : Nat, n = m := ⟨n.toNat, by omega⟩
    have ht : txtN (m : Int) = decF 19 m := by unfold txtN; rw [if_neg hneg]; rfl
    rw [ht]
    exact digits_nat 19 (by omega) m w (by rw [pow20]; omega) (by omega)
#print axioms digits_any
end Go.Proofs.YtoadbgdkcdilhaaDoor
