/- The walk of NormNumbers. -/
import Derived.Test.YtjiecahopdaghaaDoorEk
import Derived.Test.YtjiecahopdaghaaDoorKt
namespace Go.Proofs.YtjiecahopdaghaaDoor
open Go.RowKit
attribute [local go_sem] put

theorem lwithin_n (a n : Int) (w : World) (hn : 0 < n) (hn2 : n ≤ 1000000) :
    Calls Tryd.prog 23 #[.int .i64 a, .int .i64 n] w fun e w' => e = .returned (.int .i64 (wi a n)) ∧ w' = w := by
  have h := tmodn a n hn
  have h0 : (n == 0) = false := beq_eq_false_iff_ne.2 (by omega)
  by_cases hlt : a.tmod n < 0
  · go_enter Tryd.func23, Tryd.ntmps23
    go_wp2
    go_ret
    exact ⟨ret_int (by rw [wi, if_pos hlt]), rfl⟩
  · go_enter Tryd.func23, Tryd.ntmps23
    go_wp2
    go_ret
    exact ⟨ret_int (by rw [wi, if_neg (by omega)]), rfl⟩
theorem wi_nat (a n : Int) (hn : 0 < n) : ∃ k : Nat, wi a n = (k : Nat) ∧ (k : Int) < n := ⟨(wi a n).toNat, by have := wi_n a n hn; omega, by have := wi_n a n hn; omega⟩

def numbers_F (D : Nat → Prop) (n m : Nat) : Nat → Value → World → Prop
  | 0 => fun v w => IsD D (numT n) v w
  | 1 => fun v w => IsD D (numT m) v w
  | 2 => fun v w => IsD D (plusT (numT n) (numT m)) v w
  | 3 => fun v _ => v = .int .i64 ((n : Nat))
  | 4 => fun v _ => v = .int .i64 ((m : Nat))
  | 5 => fun v _ => v = .int .i64 (((n + m : Nat) : Int))
  | 6 => fun v w => IsD D (numT (n + m)) v w
  | 7 => fun v _ => v = .bool (true)
  | 8 => fun v _ => v = .bool (true)
  | 9 => fun v w => IsD D (numT n) v w
  | 10 => fun v w => IsD D (numT m) v w
  | 11 => fun v w => IsD D (timesT (numT n) (numT m)) v w
  | 12 => fun v _ => v = .int .i64 ((n : Nat))
  | 13 => fun v _ => v = .int .i64 ((m : Nat))
  | 14 => fun v _ => v = .int .i64 (((n * m : Nat) : Int))
  | 15 => fun v w => IsD D (numT (n * m)) v w
  | 16 => fun v _ => v = .bool (true)
  | 17 => fun v _ => v = .bool (true)
  | 18 => fun v _ => v = .bool (true)
  | 19 => fun v w => IsD D (numT n) v w
  | 20 => fun v w => IsD D (numT m) v w
  | 21 => fun v w => IsD D (timesT (numT n) (numT m)) v w
  | 22 => fun v w => IsD D (lamT (timesT (numT n) (numT m))) v w
  | 23 => fun v _ => v = .int .i64 ((n : Nat))
  | 24 => fun v _ => v = .int .i64 ((m : Nat))
  | 25 => fun v _ => v = .int .i64 (((n * m : Nat) : Int))
  | 26 => fun v w => IsD D (numT (n * m)) v w
  | 27 => fun v w => IsD D (lamT (numT (n * m))) v w
  | 28 => fun v _ => v = .bool (true)
  | 29 => fun v _ => v = .bool (true)
  | 30 => fun v _ => v = .bool (true)
  | 31 => fun v w => IsD D (⟨1, 0, []⟩) v w
  | 32 => fun v w => IsD D (⟨1, 0, []⟩) v w
  | 33 => fun v w => IsD D (plusT (⟨1, 0, []⟩) (⟨1, 0, []⟩)) v w
  | 34 => fun v w => IsD D (lamT (plusT (⟨1, 0, []⟩) (⟨1, 0, []⟩))) v w
  | 35 => fun v w => IsD D (numT n) v w
  | 36 => fun v w => IsD D (appT (lamT (plusT (⟨1, 0, []⟩) (⟨1, 0, []⟩))) (numT n)) v w
  | 37 => fun v _ => v = .int .i64 ((n : Nat))
  | 38 => fun v _ => v = .int .i64 (((2 * n : Nat) : Int))
  | 39 => fun v w => IsD D (numT (2 * n)) v w
  | 40 => fun v _ => v = .bool (true)
  | 41 => fun v _ => v = .bool (true)
  | 42 => fun v _ => v = .bool (true)
  | _ => fun _ _ => True
theorem numbers_F.keep (D : Nat → Prop) (n m : Nat) (i : Nat) (v : Value) (w w' : World) (h : numbers_F D n m i v w) (hb : Below w.heap.size w w') : numbers_F D n m i v w' := by
  unfold numbers_F at *
  split at h <;> first | exact h | exact IsD.keep h hb | exact IsR.keep h hb | (obtain ⟨u, e, h⟩ := h; exact ⟨u, e, h.keep hb⟩)
set_option maxRecDepth 20000 in
set_option maxHeartbeats 2000000 in
theorem numbers_any (a b : Int) (w : World) (ht : Tb w) : Calls Tryd.prog 8 #[.int .i64 a, .int .i64 b] w fun e w' => e = .returned (.bool true) ∧ Below w.heap.size w w' := by
  have HT := hide ht
  clear ht
  obtain ⟨n, hn, hn10⟩ := wi_nat a 10 (by decide)
  obtain ⟨m, hm, hm10⟩ := wi_nat b 10 (by decide)
  go_enter Tryd.func8, Tryd.ntmps8
  go_wp2_with fail
  refine (e_known HT.out).mono ?_
  rintro e w1 ⟨rfl, hb1⟩
  have HB1 := hide hb1
  clear hb1
  go_wp2_with fail
  refine (lwithin_n a 10 _ (by decide) (by decide)).mono ?_
  rintro e w9 ⟨rfl, h9⟩
  rw [h9, hn]
  clear h9 w9
  go_wp2_with fail
  refine (lwithin_n b 10 _ (by decide) (by decide)).mono ?_
  rintro e w9 ⟨rfl, h9⟩
  rw [h9, hm]
  clear h9 w9
  go_wp2_with fail
  refine (e_num (D := fun _ => True) (n := n) (fun _ _ => trivial) (by omega)).mono ?_
  rintro e w2 ⟨u2, rfl, hu2, hb2⟩
  have HU2 := hide hu2
  obtain ⟨a0, a1, a2, a3, a4, rfl, _⟩ := hu2
  have HB2 := hide (HB1.out.trans (hb2.mono HB1.out.size))
  clear hb2
  go_wp2_with fail
  refine (e_num (D := fun _ => True) (n := m) (fun _ _ => trivial) (by omega)).mono ?_
  rintro e w3 ⟨u3, rfl, hu3, hb3⟩
  have HU3 := hide hu3
  obtain ⟨b0, b1, b2, b3, b4, rfl, _⟩ := hu3
  have HUA := hide (HU2.out.keep hb3)
  have HB3 := hide (HB2.out.trans (hb3.mono HB2.out.size))
  clear hb3
  obtain ⟨g0, g1, gb, gs⟩ := alloc2 w3 (.cells #[.int .i64 a0, .int .i64 a1, .slice a2 a3 a4] 31) (.cells #[.int .i64 b0, .int .i64 b1, .slice b2 b3 b4] 31)
  go_upto_region 5 with fail
  obtain ⟨W, hW⟩ : ∃ W, W = ((w3.alloc (.cells #[.int .i64 a0, .int .i64 a1, .slice a2 a3 a4] 31)).alloc (.cells #[.int .i64 b0, .int .i64 b1, .slice b2 b3 b4] 31)) := ⟨_, rfl⟩
  rw [← hW] at g0 g1 gb gs ⊢
  clear hW
  have HBA := hide g0; have HBB := hide g1
  have HTA := hide (HUA.out.keep gb); have HTB2 := hide (HU3.out.keep gb)
  have HBW := hide (HB3.out.trans (gb.mono HB3.out.size))
  have HTB := hide (HT.out.later HBW.out)
  have HTT : Hid (∀ k, W.heap.size ≤ k → (fun _ => True) k) := hide (fun _ _ => trivial)
  have hw1 : IntKind.i64.wrap ((n : Int) + (m : Int)) = ((n + m : Nat) : Int) := by rw [IntKind.wrap_i64]; omega
  have hnm : n * m ≤ 81 := Nat.le_trans (Nat.mul_le_mul (show n ≤ 9 by omega) (show m ≤ 9 by omega)) (by decide)
  have hw2 : IntKind.i64.wrap ((n : Int) * (m : Int)) = ((n * m : Nat) : Int) := by rw [IntKind.wrap_i64, ← Int.natCast_mul]; omega
  have hw3 : IntKind.i64.wrap (2 * (n : Int)) = ((2 * n : Nat) : Int) := by rw [IntKind.wrap_i64]; omega
  have hn9 : n < 10 := by omega
  have hm9 : m < 10 := by omega
  have hzm : (numT m).size ≤ 900000 := by rw [num_size]; omega
  clear g0 g1 gb gs
  refine wp_region_vals (by kernel_rfl) (by kernel_rfl) (fun vs => { tmps := #[Value.int IntKind.i64 ↑n, Value.int IntKind.i64 ↑m, undef, undef, vs 42, Value.pointer (some ⟨w3.heap.size, 0, none⟩), Value.pointer (some ⟨w3.heap.size + 1, 0, none⟩), Value.bool true, Value.bool false, Value.int IntKind.i64 a, Value.int IntKind.i64 ↑n, Value.int IntKind.i64 b, Value.int IntKind.i64 ↑m, Value.int IntKind.i64 ↑n, Value.agg #[Value.int IntKind.i64 a0, Value.int IntKind.i64 a1, Value.slice a2 a3 a4], Value.int IntKind.i64 ↑m, Value.agg #[Value.int IntKind.i64 b0, Value.int IntKind.i64 b1, Value.slice b2 b3 b4], vs 0, vs 1, vs 2, vs 3, vs 4, vs 5, vs 6, vs 7, vs 8, vs 9, vs 10, vs 11, vs 12, vs 13, vs 14, vs 15, vs 16, vs 17, vs 18, vs 19, vs 20, vs 21, vs 22, vs 23, vs 24, vs 25, vs 26, vs 27, vs 28, vs 29, vs 30, vs 31, vs 32, vs 33, vs 34, vs 35, vs 36, vs 37, vs 38, vs 39, vs 40, vs 41], defers := [] }) (fun i => [undef, undef, undef, undef, undef, undef, undef, undef, undef, undef, undef, undef, undef, undef, undef, undef, undef, undef, undef, undef, undef, undef, undef, undef, undef, undef, undef, undef, undef, undef, undef, undef, undef, undef, undef, undef, undef, undef, undef, undef, undef, undef, Value.bool false].getD i undef) (numbers_F (fun _ => True) n m) (numbers_F.keep (fun _ => True) n m) ?_ ?_
  · refine ⟨?_, ?_, ?_, ?_, ?_, ?_, ?_, ?_, ?_, ?_, ?_, ?_, ?_, ?_, ?_, ?_, ?_, ?_, ?_, ?_, ?_, ?_, ?_, ?_, ?_, ?_, ?_, ?_, ?_, ?_, ?_, ?_, ?_, ?_, ?_, ?_, ?_, ?_, ?_, ?_, ?_, ?_, ?_, trivial⟩
    · intro vs wx K hb hd hK
      obtain ⟨c0, c1, c2⟩ := blk3 ((hb.block _ (size_of_block HBA.out)).trans HBA.out)
      have HBX := hide hb
      clear hb hd
      go_simp
      exact hK _ _ (Below.refl _ _) (HTA.out.keep HBX.out)
    · intro vs wx K hb hd hK
      obtain ⟨c0, c1, c2⟩ := blk3 ((hb.block _ (size_of_block HBB.out)).trans HBB.out)
      have HBX := hide hb
      clear hb hd
      go_simp
      exact hK _ _ (Below.refl _ _) (HTB2.out.keep HBX.out)
    · intro vs wx K hb hd hK
      have tm0 := hd ⟨0, .data⟩ (by simp) rfl
      have HX0 := hide tm0
      obtain ⟨p0_0, p1_0, pa_0, pl_0, pc_0, e0, _⟩ := tm0
      rw [e0] at HX0
      have tm1 := hd ⟨1, .data⟩ (by simp) rfl
      have HX1 := hide tm1
      obtain ⟨p0_1, p1_1, pa_1, pl_1, pc_1, e1, _⟩ := tm1
      rw [e1] at HX1
      obtain ⟨vs, rfl⟩ := put_of (show vs 0 = _ from e0)
      obtain ⟨vs, rfl⟩ := put_of (show vs 1 = _ from e1)
      clear e0 e1
      have HBX := hide hb
      clear hb hd
      go_simp
      refine (e_plus (fun k hk => HTT.out k (Nat.le_trans HBX.out.size hk)) HX0.out HX1.out).mono ?_
      rintro e w7 ⟨u, rfl, hu, hb7⟩
      exact hK _ _ hb7 hu
    · intro vs wx K hb hd hK
      have HBX := hide hb
      clear hb hd
      go_simp
      exact hK _ _ (Below.refl _ _) rfl
    · intro vs wx K hb hd hK
      have HBX := hide hb
      clear hb hd
      go_simp
      exact hK _ _ (Below.refl _ _) rfl
    · intro vs wx K hb hd hK
      obtain ⟨vs, rfl⟩ := put_of (show vs 3 = _ from hd ⟨3, .data⟩ (by simp) rfl)
      obtain ⟨vs, rfl⟩ := put_of (show vs 4 = _ from hd ⟨4, .data⟩ (by simp) rfl)
      have HBX := hide hb
      clear hb hd
      go_simp
      exact hK _ _ (Below.refl _ _) rfl
    · intro vs wx K hb hd hK
      obtain ⟨vs, rfl⟩ := put_of (show vs 5 = _ from hd ⟨5, .data⟩ (by simp) rfl)
      have HBX := hide hb
      clear hb hd
      go_simp
      refine (e_num (D := (fun _ => True)) (fun k hk => HTT.out k (Nat.le_trans HBX.out.size hk)) (n := n + m) (by omega)).mono ?_
      rintro e w7 ⟨u, rfl, hu, hb7⟩
      exact hK _ _ hb7 hu
    · intro vs wx K hb hd hK
      have tm2 := hd ⟨2, .data⟩ (by simp) rfl
      have HX2 := hide tm2
      obtain ⟨p0_2, p1_2, pa_2, pl_2, pc_2, e2, _⟩ := tm2
      rw [e2] at HX2
      have tm6 := hd ⟨6, .data⟩ (by simp) rfl
      have HX6 := hide tm6
      obtain ⟨p0_6, p1_6, pa_6, pl_6, pc_6, e6, _⟩ := tm6
      rw [e6] at HX6
      obtain ⟨vs, rfl⟩ := put_of (show vs 2 = _ from e2)
      obtain ⟨vs, rfl⟩ := put_of (show vs 6 = _ from e6)
      clear e2 e6
      have HBX := hide hb
      clear hb hd
      go_simp
      refine (e_is HX2.out HX6.out (by simp only [Tr.size, num_size, List.map_cons, List.map_nil, List.sum_cons, List.sum_nil]; omega) (HTB.out.later HBX.out) (norm_plus hn9 hm9)).mono ?_
      rintro e w7 ⟨rfl, hb7⟩
      exact hK _ _ hb7 rfl
    · intro vs wx K hb hd hK
      obtain ⟨vs, rfl⟩ := put_of (show vs 7 = _ from hd ⟨7, .data⟩ (by simp) rfl)
      have HBX := hide hb
      clear hb hd
      go_simp
      exact hK _ _ (Below.refl _ _) rfl
    · intro vs wx K hb hd hK
      obtain ⟨vs, rfl⟩ := put_of (show vs 8 = _ from hd ⟨8, .guard⟩ (by simp) rfl)
      obtain ⟨c0, c1, c2⟩ := blk3 ((hb.block _ (size_of_block HBA.out)).trans HBA.out)
      have HBX := hide hb
      clear hb hd
      go_simp
      exact hK _ _ (Below.refl _ _) (HTA.out.keep HBX.out)
    · intro vs wx K hb hd hK
      obtain ⟨vs, rfl⟩ := put_of (show vs 8 = _ from hd ⟨8, .guard⟩ (by simp) rfl)
      obtain ⟨c0, c1, c2⟩ := blk3 ((hb.block _ (size_of_block HBB.out)).trans HBB.out)
      have HBX := hide hb
      clear hb hd
      go_simp
      exact hK _ _ (Below.refl _ _) (HTB2.out.keep HBX.out)
    · intro vs wx K hb hd hK
      have tm9 := hd ⟨9, .data⟩ (by simp) rfl
      have HX9 := hide tm9
      obtain ⟨p0_9, p1_9, pa_9, pl_9, pc_9, e9, _⟩ := tm9
      rw [e9] at HX9
      have tm10 := hd ⟨10, .data⟩ (by simp) rfl
      have HX10 := hide tm10
      obtain ⟨p0_10, p1_10, pa_10, pl_10, pc_10, e10, _⟩ := tm10
      rw [e10] at HX10
      obtain ⟨vs, rfl⟩ := put_of (show vs 9 = _ from e9)
      obtain ⟨vs, rfl⟩ := put_of (show vs 10 = _ from e10)
      obtain ⟨vs, rfl⟩ := put_of (show vs 8 = _ from hd ⟨8, .guard⟩ (by simp) rfl)
      clear e9 e10
      have HBX := hide hb
      clear hb hd
      go_simp
      refine (e_times (fun k hk => HTT.out k (Nat.le_trans HBX.out.size hk)) HX9.out HX10.out hzm (num_pre _ _)).mono ?_
      rintro e w7 ⟨u, rfl, hu, hb7⟩
      exact hK _ _ hb7 hu
    · intro vs wx K hb hd hK
      obtain ⟨vs, rfl⟩ := put_of (show vs 8 = _ from hd ⟨8, .guard⟩ (by simp) rfl)
      have HBX := hide hb
      clear hb hd
      go_simp
      exact hK _ _ (Below.refl _ _) rfl
    · intro vs wx K hb hd hK
      obtain ⟨vs, rfl⟩ := put_of (show vs 8 = _ from hd ⟨8, .guard⟩ (by simp) rfl)
      have HBX := hide hb
      clear hb hd
      go_simp
      exact hK _ _ (Below.refl _ _) rfl
    · intro vs wx K hb hd hK
      obtain ⟨vs, rfl⟩ := put_of (show vs 12 = _ from hd ⟨12, .data⟩ (by simp) rfl)
      obtain ⟨vs, rfl⟩ := put_of (show vs 13 = _ from hd ⟨13, .data⟩ (by simp) rfl)
      obtain ⟨vs, rfl⟩ := put_of (show vs 8 = _ from hd ⟨8, .guard⟩ (by simp) rfl)
      have HBX := hide hb
      clear hb hd
      go_simp
      exact hK _ _ (Below.refl _ _) rfl
    · intro vs wx K hb hd hK
      obtain ⟨vs, rfl⟩ := put_of (show vs 14 = _ from hd ⟨14, .data⟩ (by simp) rfl)
      obtain ⟨vs, rfl⟩ := put_of (show vs 8 = _ from hd ⟨8, .guard⟩ (by simp) rfl)
      have HBX := hide hb
      clear hb hd
      go_simp
      refine (e_num (D := (fun _ => True)) (fun k hk => HTT.out k (Nat.le_trans HBX.out.size hk)) (n := n * m) (by omega)).mono ?_
      rintro e w7 ⟨u, rfl, hu, hb7⟩
      exact hK _ _ hb7 hu
    · intro vs wx K hb hd hK
      have tm11 := hd ⟨11, .data⟩ (by simp) rfl
      have HX11 := hide tm11
      obtain ⟨p0_11, p1_11, pa_11, pl_11, pc_11, e11, _⟩ := tm11
      rw [e11] at HX11
      have tm15 := hd ⟨15, .data⟩ (by simp) rfl
      have HX15 := hide tm15
      obtain ⟨p0_15, p1_15, pa_15, pl_15, pc_15, e15, _⟩ := tm15
      rw [e15] at HX15
      obtain ⟨vs, rfl⟩ := put_of (show vs 11 = _ from e11)
      obtain ⟨vs, rfl⟩ := put_of (show vs 15 = _ from e15)
      obtain ⟨vs, rfl⟩ := put_of (show vs 8 = _ from hd ⟨8, .guard⟩ (by simp) rfl)
      clear e11 e15
      have HBX := hide hb
      clear hb hd
      go_simp
      refine (e_is HX11.out HX15.out (by simp only [Tr.size, num_size, List.map_cons, List.map_nil, List.sum_cons, List.sum_nil]; rw [shf_size, num_size]; omega) (HTB.out.later HBX.out) (norm_times hn9 hm9)).mono ?_
      rintro e w7 ⟨rfl, hb7⟩
      exact hK _ _ hb7 rfl
    · intro vs wx K hb hd hK
      obtain ⟨vs, rfl⟩ := put_of (show vs 8 = _ from hd ⟨8, .data⟩ (by simp) rfl)
      obtain ⟨vs, rfl⟩ := put_of (show vs 16 = _ from hd ⟨16, .data⟩ (by simp) rfl)
      have HBX := hide hb
      clear hb hd
      go_simp
      exact hK _ _ (Below.refl _ _) rfl
    · intro vs wx K hb hd hK
      obtain ⟨vs, rfl⟩ := put_of (show vs 17 = _ from hd ⟨17, .data⟩ (by simp) rfl)
      have HBX := hide hb
      clear hb hd
      go_simp
      exact hK _ _ (Below.refl _ _) rfl
    · intro vs wx K hb hd hK
      obtain ⟨vs, rfl⟩ := put_of (show vs 18 = _ from hd ⟨18, .guard⟩ (by simp) rfl)
      obtain ⟨c0, c1, c2⟩ := blk3 ((hb.block _ (size_of_block HBA.out)).trans HBA.out)
      have HBX := hide hb
      clear hb hd
      go_simp
      exact hK _ _ (Below.refl _ _) (HTA.out.keep HBX.out)
    · intro vs wx K hb hd hK
      obtain ⟨vs, rfl⟩ := put_of (show vs 18 = _ from hd ⟨18, .guard⟩ (by simp) rfl)
      obtain ⟨c0, c1, c2⟩ := blk3 ((hb.block _ (size_of_block HBB.out)).trans HBB.out)
      have HBX := hide hb
      clear hb hd
      go_simp
      exact hK _ _ (Below.refl _ _) (HTB2.out.keep HBX.out)
    · intro vs wx K hb hd hK
      have tm19 := hd ⟨19, .data⟩ (by simp) rfl
      have HX19 := hide tm19
      obtain ⟨p0_19, p1_19, pa_19, pl_19, pc_19, e19, _⟩ := tm19
      rw [e19] at HX19
      have tm20 := hd ⟨20, .data⟩ (by simp) rfl
      have HX20 := hide tm20
      obtain ⟨p0_20, p1_20, pa_20, pl_20, pc_20, e20, _⟩ := tm20
      rw [e20] at HX20
      obtain ⟨vs, rfl⟩ := put_of (show vs 19 = _ from e19)
      obtain ⟨vs, rfl⟩ := put_of (show vs 20 = _ from e20)
      obtain ⟨vs, rfl⟩ := put_of (show vs 18 = _ from hd ⟨18, .guard⟩ (by simp) rfl)
      clear e19 e20
      have HBX := hide hb
      clear hb hd
      go_simp
      refine (e_times (fun k hk => HTT.out k (Nat.le_trans HBX.out.size hk)) HX19.out HX20.out hzm (num_pre _ _)).mono ?_
      rintro e w7 ⟨u, rfl, hu, hb7⟩
      exact hK _ _ hb7 hu
    · intro vs wx K hb hd hK
      have tm21 := hd ⟨21, .data⟩ (by simp) rfl
      have HX21 := hide tm21
      obtain ⟨p0_21, p1_21, pa_21, pl_21, pc_21, e21, _⟩ := tm21
      rw [e21] at HX21
      obtain ⟨vs, rfl⟩ := put_of (show vs 21 = _ from e21)
      obtain ⟨vs, rfl⟩ := put_of (show vs 18 = _ from hd ⟨18, .guard⟩ (by simp) rfl)
      clear e21
      have HBX := hide hb
      clear hb hd
      go_simp
      refine (e_lam (fun k hk => HTT.out k (Nat.le_trans HBX.out.size hk)) HX21.out).mono ?_
      rintro e w7 ⟨u, rfl, hu, hb7⟩
      exact hK _ _ hb7 hu
    · intro vs wx K hb hd hK
      obtain ⟨vs, rfl⟩ := put_of (show vs 18 = _ from hd ⟨18, .guard⟩ (by simp) rfl)
      have HBX := hide hb
      clear hb hd
      go_simp
      exact hK _ _ (Below.refl _ _) rfl
    · intro vs wx K hb hd hK
      obtain ⟨vs, rfl⟩ := put_of (show vs 18 = _ from hd ⟨18, .guard⟩ (by simp) rfl)
      have HBX := hide hb
      clear hb hd
      go_simp
      exact hK _ _ (Below.refl _ _) rfl
    · intro vs wx K hb hd hK
      obtain ⟨vs, rfl⟩ := put_of (show vs 23 = _ from hd ⟨23, .data⟩ (by simp) rfl)
      obtain ⟨vs, rfl⟩ := put_of (show vs 24 = _ from hd ⟨24, .data⟩ (by simp) rfl)
      obtain ⟨vs, rfl⟩ := put_of (show vs 18 = _ from hd ⟨18, .guard⟩ (by simp) rfl)
      have HBX := hide hb
      clear hb hd
      go_simp
      exact hK _ _ (Below.refl _ _) rfl
    · intro vs wx K hb hd hK
      obtain ⟨vs, rfl⟩ := put_of (show vs 25 = _ from hd ⟨25, .data⟩ (by simp) rfl)
      obtain ⟨vs, rfl⟩ := put_of (show vs 18 = _ from hd ⟨18, .guard⟩ (by simp) rfl)
      have HBX := hide hb
      clear hb hd
      go_simp
      refine (e_num (D := (fun _ => True)) (fun k hk => HTT.out k (Nat.le_trans HBX.out.size hk)) (n := n * m) (by omega)).mono ?_
      rintro e w7 ⟨u, rfl, hu, hb7⟩
      exact hK _ _ hb7 hu
    · intro vs wx K hb hd hK
      have tm26 := hd ⟨26, .data⟩ (by simp) rfl
      have HX26 := hide tm26
      obtain ⟨p0_26, p1_26, pa_26, pl_26, pc_26, e26, _⟩ := tm26
      rw [e26] at HX26
      obtain ⟨vs, rfl⟩ := put_of (show vs 26 = _ from e26)
      obtain ⟨vs, rfl⟩ := put_of (show vs 18 = _ from hd ⟨18, .guard⟩ (by simp) rfl)
      clear e26
      have HBX := hide hb
      clear hb hd
      go_simp
      refine (e_lam (fun k hk => HTT.out k (Nat.le_trans HBX.out.size hk)) HX26.out).mono ?_
      rintro e w7 ⟨u, rfl, hu, hb7⟩
      exact hK _ _ hb7 hu
    · intro vs wx K hb hd hK
      have tm22 := hd ⟨22, .data⟩ (by simp) rfl
      have HX22 := hide tm22
      obtain ⟨p0_22, p1_22, pa_22, pl_22, pc_22, e22, _⟩ := tm22
      rw [e22] at HX22
      have tm27 := hd ⟨27, .data⟩ (by simp) rfl
      have HX27 := hide tm27
      obtain ⟨p0_27, p1_27, pa_27, pl_27, pc_27, e27, _⟩ := tm27
      rw [e27] at HX27
      obtain ⟨vs, rfl⟩ := put_of (show vs 22 = _ from e22)
      obtain ⟨vs, rfl⟩ := put_of (show vs 27 = _ from e27)
      obtain ⟨vs, rfl⟩ := put_of (show vs 18 = _ from hd ⟨18, .guard⟩ (by simp) rfl)
      clear e22 e27
      have HBX := hide hb
      clear hb hd
      go_simp
      refine (e_is HX22.out HX27.out (by simp only [Tr.size, num_size, List.map_cons, List.map_nil, List.sum_cons, List.sum_nil]; rw [shf_size, num_size]; omega) (HTB.out.later HBX.out) (norm_lam hn9 hm9)).mono ?_
      rintro e w7 ⟨rfl, hb7⟩
      exact hK _ _ hb7 rfl
    · intro vs wx K hb hd hK
      obtain ⟨vs, rfl⟩ := put_of (show vs 18 = _ from hd ⟨18, .data⟩ (by simp) rfl)
      obtain ⟨vs, rfl⟩ := put_of (show vs 28 = _ from hd ⟨28, .data⟩ (by simp) rfl)
      have HBX := hide hb
      clear hb hd
      go_simp
      exact hK _ _ (Below.refl _ _) rfl
    · intro vs wx K hb hd hK
      obtain ⟨vs, rfl⟩ := put_of (show vs 29 = _ from hd ⟨29, .data⟩ (by simp) rfl)
      have HBX := hide hb
      clear hb hd
      go_simp
      exact hK _ _ (Below.refl _ _) rfl
    · intro vs wx K hb hd hK
      obtain ⟨vs, rfl⟩ := put_of (show vs 30 = _ from hd ⟨30, .guard⟩ (by simp) rfl)
      have HBX := hide hb
      clear hb hd
      go_simp
      refine (e_v (D := (fun _ => True)) ⟨by decide, by decide⟩ _).mono ?_
      rintro e w7 ⟨u, rfl, hu, hb7⟩
      exact hK _ _ hb7 hu
    · intro vs wx K hb hd hK
      obtain ⟨vs, rfl⟩ := put_of (show vs 30 = _ from hd ⟨30, .guard⟩ (by simp) rfl)
      have HBX := hide hb
      clear hb hd
      go_simp
      refine (e_v (D := (fun _ => True)) ⟨by decide, by decide⟩ _).mono ?_
      rintro e w7 ⟨u, rfl, hu, hb7⟩
      exact hK _ _ hb7 hu
    · intro vs wx K hb hd hK
      have tm31 := hd ⟨31, .data⟩ (by simp) rfl
      have HX31 := hide tm31
      obtain ⟨p0_31, p1_31, pa_31, pl_31, pc_31, e31, _⟩ := tm31
      rw [e31] at HX31
      have tm32 := hd ⟨32, .data⟩ (by simp) rfl
      have HX32 := hide tm32
      obtain ⟨p0_32, p1_32, pa_32, pl_32, pc_32, e32, _⟩ := tm32
      rw [e32] at HX32
      obtain ⟨vs, rfl⟩ := put_of (show vs 31 = _ from e31)
      obtain ⟨vs, rfl⟩ := put_of (show vs 32 = _ from e32)
      obtain ⟨vs, rfl⟩ := put_of (show vs 30 = _ from hd ⟨30, .guard⟩ (by simp) rfl)
      clear e31 e32
      have HBX := hide hb
      clear hb hd
      go_simp
      refine (e_plus (fun k hk => HTT.out k (Nat.le_trans HBX.out.size hk)) HX31.out HX32.out).mono ?_
      rintro e w7 ⟨u, rfl, hu, hb7⟩
      exact hK _ _ hb7 hu
    · intro vs wx K hb hd hK
      have tm33 := hd ⟨33, .data⟩ (by simp) rfl
      have HX33 := hide tm33
      obtain ⟨p0_33, p1_33, pa_33, pl_33, pc_33, e33, _⟩ := tm33
      rw [e33] at HX33
      obtain ⟨vs, rfl⟩ := put_of (show vs 33 = _ from e33)
      obtain ⟨vs, rfl⟩ := put_of (show vs 30 = _ from hd ⟨30, .guard⟩ (by simp) rfl)
      clear e33
      have HBX := hide hb
      clear hb hd
      go_simp
      refine (e_lam (fun k hk => HTT.out k (Nat.le_trans HBX.out.size hk)) HX33.out).mono ?_
      rintro e w7 ⟨u, rfl, hu, hb7⟩
      exact hK _ _ hb7 hu
    · intro vs wx K hb hd hK
      obtain ⟨vs, rfl⟩ := put_of (show vs 30 = _ from hd ⟨30, .guard⟩ (by simp) rfl)
      obtain ⟨c0, c1, c2⟩ := blk3 ((hb.block _ (size_of_block HBA.out)).trans HBA.out)
      have HBX := hide hb
      clear hb hd
      go_simp
      exact hK _ _ (Below.refl _ _) (HTA.out.keep HBX.out)
    · intro vs wx K hb hd hK
      have tm34 := hd ⟨34, .data⟩ (by simp) rfl
      have HX34 := hide tm34
      obtain ⟨p0_34, p1_34, pa_34, pl_34, pc_34, e34, _⟩ := tm34
      rw [e34] at HX34
      have tm35 := hd ⟨35, .data⟩ (by simp) rfl
      have HX35 := hide tm35
      obtain ⟨p0_35, p1_35, pa_35, pl_35, pc_35, e35, _⟩ := tm35
      rw [e35] at HX35
      obtain ⟨vs, rfl⟩ := put_of (show vs 34 = _ from e34)
      obtain ⟨vs, rfl⟩ := put_of (show vs 35 = _ from e35)
      obtain ⟨vs, rfl⟩ := put_of (show vs 30 = _ from hd ⟨30, .guard⟩ (by simp) rfl)
      clear e34 e35
      have HBX := hide hb
      clear hb hd
      go_simp
      refine (e_app (fun k hk => HTT.out k (Nat.le_trans HBX.out.size hk)) HX34.out HX35.out).mono ?_
      rintro e w7 ⟨u, rfl, hu, hb7⟩
      exact hK _ _ hb7 hu
    · intro vs wx K hb hd hK
      obtain ⟨vs, rfl⟩ := put_of (show vs 30 = _ from hd ⟨30, .guard⟩ (by simp) rfl)
      have HBX := hide hb
      clear hb hd
      go_simp
      exact hK _ _ (Below.refl _ _) rfl
    · intro vs wx K hb hd hK
      obtain ⟨vs, rfl⟩ := put_of (show vs 37 = _ from hd ⟨37, .data⟩ (by simp) rfl)
      obtain ⟨vs, rfl⟩ := put_of (show vs 30 = _ from hd ⟨30, .guard⟩ (by simp) rfl)
      have HBX := hide hb
      clear hb hd
      go_simp
      exact hK _ _ (Below.refl _ _) rfl
    · intro vs wx K hb hd hK
      obtain ⟨vs, rfl⟩ := put_of (show vs 38 = _ from hd ⟨38, .data⟩ (by simp) rfl)
      obtain ⟨vs, rfl⟩ := put_of (show vs 30 = _ from hd ⟨30, .guard⟩ (by simp) rfl)
      have HBX := hide hb
      clear hb hd
      go_simp
      refine (e_num (D := (fun _ => True)) (fun k hk => HTT.out k (Nat.le_trans HBX.out.size hk)) (n := 2 * n) (by omega)).mono ?_
      rintro e w7 ⟨u, rfl, hu, hb7⟩
      exact hK _ _ hb7 hu
    · intro vs wx K hb hd hK
      have tm36 := hd ⟨36, .data⟩ (by simp) rfl
      have HX36 := hide tm36
      obtain ⟨p0_36, p1_36, pa_36, pl_36, pc_36, e36, _⟩ := tm36
      rw [e36] at HX36
      have tm39 := hd ⟨39, .data⟩ (by simp) rfl
      have HX39 := hide tm39
      obtain ⟨p0_39, p1_39, pa_39, pl_39, pc_39, e39, _⟩ := tm39
      rw [e39] at HX39
      obtain ⟨vs, rfl⟩ := put_of (show vs 36 = _ from e36)
      obtain ⟨vs, rfl⟩ := put_of (show vs 39 = _ from e39)
      obtain ⟨vs, rfl⟩ := put_of (show vs 30 = _ from hd ⟨30, .guard⟩ (by simp) rfl)
      clear e36 e39
      have HBX := hide hb
      clear hb hd
      go_simp
      refine (e_is HX36.out HX39.out (by simp only [Tr.size, num_size, List.map_cons, List.map_nil, List.sum_cons, List.sum_nil]; omega) (HTB.out.later HBX.out) (norm_app hn9)).mono ?_
      rintro e w7 ⟨rfl, hb7⟩
      exact hK _ _ hb7 rfl
    · intro vs wx K hb hd hK
      obtain ⟨vs, rfl⟩ := put_of (show vs 30 = _ from hd ⟨30, .data⟩ (by simp) rfl)
      obtain ⟨vs, rfl⟩ := put_of (show vs 40 = _ from hd ⟨40, .data⟩ (by simp) rfl)
      have HBX := hide hb
      clear hb hd
      go_simp
      exact hK _ _ (Below.refl _ _) rfl
    · intro vs wx K hb hd hK
      obtain ⟨vs, rfl⟩ := put_of (show vs 41 = _ from hd ⟨41, .data⟩ (by simp) rfl)
      have HBX := hide hb
      clear hb hd
      go_simp
      exact hK _ _ (Below.refl _ _) rfl
  · intro vs wx hb hF
    obtain ⟨vs, rfl⟩ := put_of (show vs 42 = _ from hF 42 (by decide))
    have HBX := hide hb
    clear hb hF
    simp only [put, Nat.reduceEqDiff, reduceIte]
    go_wp2_with fail
    go_ret
    exact ⟨rfl, HBW.out.trans (HBX.out.mono HBW.out.size)⟩
#print axioms numbers_any
end Go.Proofs.YtjiecahopdaghaaDoor
