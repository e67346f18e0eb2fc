/- The walk of NormStuck. -/
import Derived.Test.YtjiecahopdaghabDoorEk
import Derived.Test.YtjiecahopdaghabDoorLw
import Derived.Test.YtjiecahopdaghabDoorKs
namespace Go.Proofs.YtjiecahopdaghabDoor
open Go.RowKit
attribute [local go_sem] put

def stuck_F5 (m x : Nat) : Nat → Value → World → (Nat → Prop) → Prop
  | 0 => fun v w M => IsD (fun k => ¬ M k) (varT (x : Nat)) v w
  | 1 => fun v _ _ => v = .int .i64 ((m : Nat))
  | 2 => fun v w M => IsD (fun k => ¬ M k) (numT (m)) v w
  | 3 => fun v w M => IsD (fun k => ¬ M k) (plusT (varT (x : Nat)) (numT (m))) v w
  | _ => fun _ _ _ => True
theorem stuck_F5.keep (m x : Nat) (k : Nat) (v : Value) (w w' : World) (M M' : Nat → Prop) (h : stuck_F5 m x k v w M) (hf : Fr M w w') (hM : ∀ q, q < w.heap.size → (M' q ↔ M q)) : stuck_F5 m x k v w' M' := by
  unfold stuck_F5 at *
  split at h <;> first | exact h | exact IsD.frM h hf hM | exact IsR.frM h hf hM | (obtain ⟨u, e, h⟩ := h; exact ⟨u, e, h.frM hf hM⟩)
def stuck_F6 (D : Nat → Prop) (n m x : Nat) : Nat → Value → World → Prop
  | 0 => fun v w => IsD D (varT (x : Nat)) v w
  | 1 => fun v _ => v = .int .i64 ((n : Nat))
  | 2 => fun v w => IsD D (numT (n)) v w
  | 3 => fun v _ => v = .int .i64 ((m : Nat))
  | 4 => fun v w => IsD D (numT (m)) v w
  | 5 => fun v w => IsD D (plusT (numT (n)) (numT (m))) v w
  | 6 => fun v w => IsD D (plusT (varT (x : Nat)) (plusT (numT (n)) (numT (m)))) v w
  | 7 => fun v w => IsD D (varT (x : Nat)) v w
  | 8 => fun v _ => v = .int .i64 ((n : Nat))
  | 9 => fun v _ => v = .int .i64 ((m : Nat))
  | 10 => fun v _ => v = .int .i64 (((n + m : Nat) : Int))
  | 11 => fun v w => IsD D (numT (n + m)) v w
  | 12 => fun v w => IsD D (plusT (varT (x : Nat)) (numT (n + m))) v w
  | 13 => fun v _ => v = .bool (true)
  | 14 => fun v _ => v = .bool (true)
  | 15 => fun v w => IsD D (plusT (varT (x : Nat)) (numT (m))) v w
  | 16 => fun v w => IsD D (plusT (varT (x : Nat)) (numT (m))) v w
  | 17 => fun v _ => v = .bool (true)
  | 18 => fun v _ => v = .bool (true)
  | 19 => fun v _ => v = .bool (true)
  | 20 => fun v w => IsD D (varT (x : Nat)) v w
  | 21 => fun v w => IsR D [varT (x : Nat)] v w
  | 22 => fun v w => IsD D (⟨12, 0, [varT (x : Nat)]⟩) v w
  | 23 => fun v _ => v = .int .i64 ((m : Nat))
  | 24 => fun v w => IsD D (numT (m)) v w
  | 25 => fun v w => IsD D (plusT (⟨12, 0, [varT (x : Nat)]⟩) (numT (m))) v w
  | 26 => fun v w => IsD D (plusT (varT (x : Nat)) (numT (m))) v w
  | 27 => fun v w => IsR D [plusT (varT (x : Nat)) (numT (m))] v w
  | 28 => fun v w => IsD D (⟨12, 0, [plusT (varT (x : Nat)) (numT (m))]⟩) v w
  | 29 => fun v _ => v = .bool (true)
  | 30 => fun v _ => v = .bool (true)
  | 31 => fun v _ => v = .bool (true)
  | 32 => fun v w => IsD D (varT (x : Nat)) v w
  | 33 => fun v _ => v = .int .i64 ((n : Nat))
  | 34 => fun v w => IsD D (numT (n)) v w
  | 35 => fun v _ => v = .int .i64 ((m : Nat))
  | 36 => fun v w => IsD D (numT (m)) v w
  | 37 => fun v w => IsD D (plusT (numT (n)) (numT (m))) v w
  | 38 => fun v w => IsD D (appT (varT (x : Nat)) (plusT (numT (n)) (numT (m)))) v w
  | 39 => fun v w => IsD D (varT (x : Nat)) v w
  | 40 => fun v _ => v = .int .i64 ((n : Nat))
  | 41 => fun v _ => v = .int .i64 ((m : Nat))
  | 42 => fun v _ => v = .int .i64 (((n + m : Nat) : Int))
  | 43 => fun v w => IsD D (numT (n + m)) v w
  | 44 => fun v w => IsD D (appT (varT (x : Nat)) (numT (n + m))) v w
  | 45 => fun v _ => v = .bool (true)
  | 46 => fun v _ => v = .bool (true)
  | 47 => fun v _ => v = .bool (true)
  | 48 => fun v w => IsD D (varT (x : Nat)) v w
  | 49 => fun v w => IsR D [varT (x : Nat)] v w
  | 50 => fun v w => IsD D (⟨8, 0, [varT (x : Nat)]⟩) v w
  | 51 => fun v w => IsD D (varT (x : Nat)) v w
  | 52 => fun v w => IsR D [varT (x : Nat)] v w
  | 53 => fun v w => IsD D (⟨8, 0, [varT (x : Nat)]⟩) v w
  | 54 => fun v _ => v = .bool (true)
  | 55 => fun v _ => v = .bool (true)
  | 56 => fun v _ => v = .bool (true)
  | 57 => fun v w => IsD D (varT (x : Nat)) v w
  | 58 => fun v w => IsR D [varT (x : Nat)] v w
  | 59 => fun v w => IsD D (⟨30, 0, [varT (x : Nat)]⟩) v w
  | 60 => fun v w => IsD D (varT (x : Nat)) v w
  | 61 => fun v w => IsR D [varT (x : Nat)] v w
  | 62 => fun v w => IsD D (⟨30, 0, [varT (x : Nat)]⟩) v w
  | 63 => fun v _ => v = .bool (true)
  | 64 => fun v _ => v = .bool (true)
  | 65 => fun v _ => v = .bool (true)
  | _ => fun _ _ => True
theorem stuck_F6.keep (D : Nat → Prop) (n m x : Nat) (i : Nat) (v : Value) (w w' : World) (h : stuck_F6 D n m x i v w) (hb : Below w.heap.size w w') : stuck_F6 D n m x i v w' := by
  unfold stuck_F6 at *
  split at h <;> first | exact h | exact IsD.keep h hb | exact IsR.keep h hb | (obtain ⟨u, e, h⟩ := h; exact ⟨u, e, h.keep hb⟩)
set_option maxRecDepth 20000 in
set_option maxHeartbeats 4000000 in
theorem stuck_any (a b c : Int) (w : World) (ht : Tb w) : Calls Tryd.prog 3 #[.int .i64 a, .int .i64 b, .int .i64 c] w fun e w' => e = .returned (.bool true) ∧ Below w.heap.size w w' := by
  have HT := hide ht
  clear ht
  obtain ⟨n, hn, hn8⟩ := wi_nat a 8 (by decide)
  obtain ⟨m, hm, hm8⟩ := wi_nat b 8 (by decide)
  obtain ⟨x, hx, hx5⟩ := wi_nat c 5 (by decide)
  go_enter Tryd.func3, Tryd.ntmps3
  go_wp2_with fail
  refine (e_known HT.out).mono ?_
  rintro e w1 ⟨rfl, hb1⟩
  have HB1 := hide hb1
  clear hb1
  go_wp2_with fail
  refine (lwithin_n a 8 _ (by decide) (by decide)).mono ?_
  rintro e w9 ⟨rfl, h9⟩
  rw [h9, hn]
  clear h9 w9
  go_wp2_with fail
  refine (lwithin_n b 8 _ (by decide) (by decide)).mono ?_
  rintro e w9 ⟨rfl, h9⟩
  rw [h9, hm]
  clear h9 w9
  go_wp2_with fail
  refine (lwithin_n c 5 _ (by decide) (by decide)).mono ?_
  rintro e w9 ⟨rfl, h9⟩
  rw [h9, hx]
  clear h9 w9
  go_wp2_with fail
  refine (v_any (x : Nat) _).mono ?_
  rintro e w2 ⟨rfl, hb2⟩
  have HB2 := hide (HB1.out.trans (hb2.mono HB1.out.size))
  clear hb2
  obtain ⟨g0, gb, gs⟩ := alloc1 w2 (.cells #[.int .i64 1, .int .i64 (x : Nat), .slice none 0 0] 26)
  go_upto_region 5 with fail
  obtain ⟨W, hW⟩ : ∃ W, W = w2.alloc (.cells #[.int .i64 1, .int .i64 (x : Nat), .slice none 0 0] 26) := ⟨_, rfl⟩
  rw [← hW] at g0 gb gs ⊢
  clear hW
  have HBX0 := hide g0
  have HTX : Hid (IsD (fun _ => True) (varT (x : Nat)) (.agg #[.int .i64 1, .int .i64 (x : Nat), .slice none 0 0]) W) := hide (IsD.of (tmd_leaf 0 i64_one (by unfold I64; omega)))
  have HBW := hide (HB2.out.trans (gb.mono HB2.out.size))
  have HTB := hide (HT.out.later HBW.out)
  have hw1 : IntKind.i64.wrap ((n : Int) + (m : Int)) = ((n + m : Nat) : Int) := by rw [IntKind.wrap_i64]; omega
  have hn9 : n < 8 := by omega
  have hm9 : m < 8 := by omega
  have hx9 : x < 5 := by omega
  clear g0 gb gs hn hm hx hn8 hm8 hx5
  refine wp_region_boxes2 (by kernel_rfl) (by kernel_rfl) (fun vs => { tmps := #[Value.int IntKind.i64 ↑n, Value.int IntKind.i64 ↑m, Value.int IntKind.i64 ↑x, undef, undef, undef, Value.bool false, Value.pointer (some ⟨w2.heap.size, 0, none⟩), vs 4, Value.bool true, Value.bool false, Value.int IntKind.i64 a, Value.int IntKind.i64 ↑n, Value.int IntKind.i64 b, Value.int IntKind.i64 ↑m, Value.int IntKind.i64 c, Value.int IntKind.i64 ↑x, Value.int IntKind.i64 ↑x, Value.agg #[Value.int IntKind.i64 1, Value.int IntKind.i64 ↑x, Value.slice none 0 0], vs 0, vs 1, vs 2, vs 3, undef, undef, undef, undef, undef, undef, undef, undef, undef, undef, undef, undef, undef, undef, undef, undef, undef, undef, undef, undef, undef, undef, undef, undef, undef, undef, undef, undef, undef, undef, undef, undef, undef, undef, undef, undef, undef, undef, undef, undef, undef, undef, undef, undef, undef, undef, undef, undef, undef, undef, undef, undef, undef, undef, undef, undef, undef, undef, undef, undef, undef, undef, undef, undef, undef], defers := [] }) (fun i => [undef, undef, undef, undef, undef, undef].getD i undef) [(4, 3, 5)] (by decide) #[.int .i64 0, .int .i64 0, .slice none 0 0] 26 (stuck_F5 m x) (stuck_F5.keep m x) ?_ ?_
  · refine ⟨⟨fun _ => ?_, fun x hx h => absurd h (by revert x; decide), fun x hx h => absurd h (by revert x; decide)⟩, ⟨fun _ => ?_, fun x hx h => absurd h (by revert x; decide), fun x hx h => absurd h (by revert x; decide)⟩, ⟨fun _ => ?_, fun x hx h => absurd h (by revert x; decide), fun x hx h => absurd h (by revert x; decide)⟩, ⟨fun _ => ?_, fun x hx h => absurd h (by revert x; decide), fun x hx h => absurd h (by revert x; decide)⟩, ⟨fun h => absurd h (by unfold Plainly; decide), fun x hx h => ?_, fun x hx h => absurd h (by revert x; decide)⟩, ⟨fun h => absurd h (by unfold Plainly; decide), fun x hx h => absurd h (by revert x; decide), fun x hx h => ?_⟩, trivial⟩
    · intro vs wx M K hb hd hM hK
      obtain ⟨c0, c1, c2⟩ := blk3 ((hb.block _ (size_of_block HBX0.out)).trans HBX0.out)
      have HDM : Hid (∀ k, wx.heap.size ≤ k → ¬ M k) := hide (fun k hk h => absurd (hM k h).2 (by omega))
      have HM := hide hM
      have HBX := hide hb
      clear hb hd hM
      go_simp
      exact hK _ _ (Below.refl _ _) (HTX.out.outer HBX.out (fun q hq => (HM.out q hq).1))
    · intro vs wx M K hb hd hM hK
      have HDM : Hid (∀ k, wx.heap.size ≤ k → ¬ M k) := hide (fun k hk h => absurd (hM k h).2 (by omega))
      have HM := hide hM
      have HBX := hide hb
      clear hb hd hM
      go_simp
      exact hK _ _ (Below.refl _ _) rfl
    · intro vs wx M K hb hd hM hK
      obtain ⟨vs, rfl⟩ := put_of (show vs 1 = _ from hd ⟨1, .data⟩ (by simp) rfl (by unfold Plainly; decide))
      have HDM : Hid (∀ k, wx.heap.size ≤ k → ¬ M k) := hide (fun k hk h => absurd (hM k h).2 (by omega))
      have HM := hide hM
      have HBX := hide hb
      clear hb hd hM
      go_simp
      refine (e_num (D := (fun k => ¬ M k)) (fun k hk => HDM.out k hk) (n := m) (by omega)).mono ?_
      rintro e w7 ⟨u, rfl, hu, hb7⟩
      exact hK _ _ hb7 hu
    · intro vs wx M K hb hd hM hK
      have tm0 := hd ⟨0, .data⟩ (by simp) rfl (by unfold Plainly; decide)
      have HX0 := hide tm0
      obtain ⟨p0_0, p1_0, pa_0, pl_0, pc_0, e0, _⟩ := tm0
      rw [e0] at HX0
      have tm2 := hd ⟨2, .data⟩ (by simp) rfl (by unfold Plainly; decide)
      have HX2 := hide tm2
      obtain ⟨p0_2, p1_2, pa_2, pl_2, pc_2, e2, _⟩ := tm2
      rw [e2] at HX2
      obtain ⟨vs, rfl⟩ := put_of (show vs 0 = _ from e0)
      obtain ⟨vs, rfl⟩ := put_of (show vs 2 = _ from e2)
      clear e0 e2
      have HDM : Hid (∀ k, wx.heap.size ≤ k → ¬ M k) := hide (fun k hk h => absurd (hM k h).2 (by omega))
      have HM := hide hM
      have HBX := hide hb
      clear hb hd hM
      go_simp
      refine (e_plus (fun k hk => HDM.out k hk) HX0.out HX2.out).mono ?_
      rintro e w7 ⟨u, rfl, hu, hb7⟩
      exact hK _ _ hb7 hu
    · intro vs wx K hK
      clear hx h
      go_simp
      exact hK
    · obtain rfl : x = (4, 3, 5) := (by revert h; revert x; decide)
      refine ⟨⟨⟨4, .data⟩, by simp, rfl, rfl⟩, ⟨⟨3, .data⟩, by simp, rfl, rfl⟩, ?_⟩
      intro vs wx M K q hF hq hz hK
      obtain ⟨p0, p1, pa, pl, pc, e1, _⟩ := (show IsD _ _ _ _ from hF)
      obtain ⟨vs, rfl⟩ := put_of (show vs 3 = _ from e1)
      obtain ⟨vs, rfl⟩ := put_of (show vs 4 = _ from hq)
      obtain ⟨y0, y1, y2⟩ := blk3 hz
      obtain ⟨z0, z1, z2⟩ := frz3 hz
      have HZ := hide hz
      clear hF hq hz hx h e1
      go_simp
      exact hK _ _ (fr_put3 _ _ _ _ _) (put3_blk HZ.out _ _ _ _ _ rfl rfl rfl) rfl
  · intro vs wy M hb hF hB
    obtain ⟨qR, csR, bR, lR, mR, hR, gR⟩ := hB (4, 3, 5) (by simp) (by decide) (by decide)
    obtain ⟨tR0, tR1, tRa, tRl, tRc, rfl, tmR⟩ := (show IsD _ _ _ _ from hF 3 (by decide) (by unfold Plainly; decide)).box gR
    obtain ⟨vs, rfl⟩ := put_of (show vs 4 = _ from (by simpa [put] using bR))
    have HBY := hide hb; have HKR := hide hR; have HTR := hide tmR
    clear hb hF hB hR tmR gR bR
    simp only [put, Nat.reduceEqDiff, reduceIte, ptr]
    generalize vs 0 = scR0
    generalize vs 1 = scR1
    generalize vs 2 = scR2
    generalize vs 3 = scR3
    clear vs
    go_upto_region 6 with fail
    have HBX1 := hide ((HBY.out.block _ (size_of_block HBX0.out)).trans HBX0.out)
    have HTX1 := hide (HTX.out.keep HBY.out)
    have HBW1 := hide (HBW.out.trans (HBY.out.mono HBW.out.size))
    have HTB1 := hide (HT.out.later HBW1.out)
    have HTT : Hid (∀ k, wy.heap.size ≤ k → (fun _ => True) k) := hide (fun _ _ => trivial)
    refine wp_region_vals (by kernel_rfl) (by kernel_rfl) (fun vs => { tmps := #[Value.int IntKind.i64 ↑n, Value.int IntKind.i64 ↑m, Value.int IntKind.i64 ↑x, undef, undef, undef, vs 65, Value.pointer (some ⟨w2.heap.size, 0, none⟩), Value.pointer (some ⟨qR, 0, none⟩), Value.bool true, Value.bool false, Value.int IntKind.i64 a, Value.int IntKind.i64 ↑n, Value.int IntKind.i64 b, Value.int IntKind.i64 ↑m, Value.int IntKind.i64 c, Value.int IntKind.i64 ↑x, Value.int IntKind.i64 ↑x, Value.agg #[Value.int IntKind.i64 1, Value.int IntKind.i64 ↑x, Value.slice none 0 0], scR0, scR1, scR2, scR3, vs 0, vs 1, vs 2, vs 3, vs 4, vs 5, vs 6, vs 7, vs 8, vs 9, vs 10, vs 11, vs 12, vs 13, vs 14, vs 15, vs 16, vs 17, vs 18, vs 19, vs 20, vs 21, vs 22, vs 23, vs 24, vs 25, vs 26, vs 27, vs 28, vs 29, vs 30, vs 31, vs 32, vs 33, vs 34, vs 35, vs 36, vs 37, vs 38, vs 39, vs 40, vs 41, vs 42, vs 43, vs 44, vs 45, vs 46, vs 47, vs 48, vs 49, vs 50, vs 51, vs 52, vs 53, vs 54, vs 55, vs 56, vs 57, vs 58, vs 59, vs 60, vs 61, vs 62, vs 63, vs 64], defers := [] }) (fun i => [undef, undef, undef, undef, undef, undef, undef, undef, undef, undef, undef, undef, undef, undef, undef, undef, undef, undef, undef, undef, undef, undef, undef, undef, undef, undef, undef, undef, undef, undef, undef, undef, undef, undef, undef, undef, undef, undef, undef, undef, undef, undef, undef, undef, undef, undef, undef, undef, undef, undef, undef, undef, undef, undef, undef, undef, undef, undef, undef, undef, undef, undef, undef, undef, undef, Value.bool false].getD i undef) (stuck_F6 (fun _ => True) n m x) (stuck_F6.keep (fun _ => True) n m x) ?_ ?_
    · refine ⟨?_, ?_, ?_, ?_, ?_, ?_, ?_, ?_, ?_, ?_, ?_, ?_, ?_, ?_, ?_, ?_, ?_, ?_, ?_, ?_, ?_, ?_, ?_, ?_, ?_, ?_, ?_, ?_, ?_, ?_, ?_, ?_, ?_, ?_, ?_, ?_, ?_, ?_, ?_, ?_, ?_, ?_, ?_, ?_, ?_, ?_, ?_, ?_, ?_, ?_, ?_, ?_, ?_, ?_, ?_, ?_, ?_, ?_, ?_, ?_, ?_, ?_, ?_, ?_, ?_, ?_, trivial⟩
      · intro vs wx K hb hd hK
        obtain ⟨c0, c1, c2⟩ := blk3 ((hb.block _ (size_of_block HBX1.out)).trans HBX1.out)
        have HBX := hide hb
        clear hb hd
        go_simp
        exact hK _ _ (Below.refl _ _) (HTX1.out.keep HBX.out)
      · intro vs wx K hb hd hK
        have HBX := hide hb
        clear hb hd
        go_simp
        exact hK _ _ (Below.refl _ _) rfl
      · intro vs wx K hb hd hK
        obtain ⟨vs, rfl⟩ := put_of (show vs 1 = _ from hd ⟨1, .data⟩ (by simp) rfl)
        have HBX := hide hb
        clear hb hd
        go_simp
        refine (e_num (D := (fun _ => True)) (fun k hk => HTT.out k (Nat.le_trans HBX.out.size hk)) (n := n) (by omega)).mono ?_
        rintro e w7 ⟨u, rfl, hu, hb7⟩
        exact hK _ _ hb7 hu
      · intro vs wx K hb hd hK
        have HBX := hide hb
        clear hb hd
        go_simp
        exact hK _ _ (Below.refl _ _) rfl
      · intro vs wx K hb hd hK
        obtain ⟨vs, rfl⟩ := put_of (show vs 3 = _ from hd ⟨3, .data⟩ (by simp) rfl)
        have HBX := hide hb
        clear hb hd
        go_simp
        refine (e_num (D := (fun _ => True)) (fun k hk => HTT.out k (Nat.le_trans HBX.out.size hk)) (n := m) (by omega)).mono ?_
        rintro e w7 ⟨u, rfl, hu, hb7⟩
        exact hK _ _ hb7 hu
      · intro vs wx K hb hd hK
        have tm2 := hd ⟨2, .data⟩ (by simp) rfl
        have HX2 := hide tm2
        obtain ⟨p0_2, p1_2, pa_2, pl_2, pc_2, e2, _⟩ := tm2
        rw [e2] at HX2
        have tm4 := hd ⟨4, .data⟩ (by simp) rfl
        have HX4 := hide tm4
        obtain ⟨p0_4, p1_4, pa_4, pl_4, pc_4, e4, _⟩ := tm4
        rw [e4] at HX4
        obtain ⟨vs, rfl⟩ := put_of (show vs 2 = _ from e2)
        obtain ⟨vs, rfl⟩ := put_of (show vs 4 = _ from e4)
        clear e2 e4
        have HBX := hide hb
        clear hb hd
        go_simp
        refine (e_plus (fun k hk => HTT.out k (Nat.le_trans HBX.out.size hk)) HX2.out HX4.out).mono ?_
        rintro e w7 ⟨u, rfl, hu, hb7⟩
        exact hK _ _ hb7 hu
      · intro vs wx K hb hd hK
        have tm0 := hd ⟨0, .data⟩ (by simp) rfl
        have HX0 := hide tm0
        obtain ⟨p0_0, p1_0, pa_0, pl_0, pc_0, e0, _⟩ := tm0
        rw [e0] at HX0
        have tm5 := hd ⟨5, .data⟩ (by simp) rfl
        have HX5 := hide tm5
        obtain ⟨p0_5, p1_5, pa_5, pl_5, pc_5, e5, _⟩ := tm5
        rw [e5] at HX5
        obtain ⟨vs, rfl⟩ := put_of (show vs 0 = _ from e0)
        obtain ⟨vs, rfl⟩ := put_of (show vs 5 = _ from e5)
        clear e0 e5
        have HBX := hide hb
        clear hb hd
        go_simp
        refine (e_plus (fun k hk => HTT.out k (Nat.le_trans HBX.out.size hk)) HX0.out HX5.out).mono ?_
        rintro e w7 ⟨u, rfl, hu, hb7⟩
        exact hK _ _ hb7 hu
      · intro vs wx K hb hd hK
        obtain ⟨c0, c1, c2⟩ := blk3 ((hb.block _ (size_of_block HBX1.out)).trans HBX1.out)
        have HBX := hide hb
        clear hb hd
        go_simp
        exact hK _ _ (Below.refl _ _) (HTX1.out.keep HBX.out)
      · intro vs wx K hb hd hK
        have HBX := hide hb
        clear hb hd
        go_simp
        exact hK _ _ (Below.refl _ _) rfl
      · intro vs wx K hb hd hK
        have HBX := hide hb
        clear hb hd
        go_simp
        exact hK _ _ (Below.refl _ _) rfl
      · intro vs wx K hb hd hK
        obtain ⟨vs, rfl⟩ := put_of (show vs 8 = _ from hd ⟨8, .data⟩ (by simp) rfl)
        obtain ⟨vs, rfl⟩ := put_of (show vs 9 = _ from hd ⟨9, .data⟩ (by simp) rfl)
        have HBX := hide hb
        clear hb hd
        go_simp
        exact hK _ _ (Below.refl _ _) rfl
      · intro vs wx K hb hd hK
        obtain ⟨vs, rfl⟩ := put_of (show vs 10 = _ from hd ⟨10, .data⟩ (by simp) rfl)
        have HBX := hide hb
        clear hb hd
        go_simp
        refine (e_num (D := (fun _ => True)) (fun k hk => HTT.out k (Nat.le_trans HBX.out.size hk)) (n := n + m) (by omega)).mono ?_
        rintro e w7 ⟨u, rfl, hu, hb7⟩
        exact hK _ _ hb7 hu
      · intro vs wx K hb hd hK
        have tm7 := hd ⟨7, .data⟩ (by simp) rfl
        have HX7 := hide tm7
        obtain ⟨p0_7, p1_7, pa_7, pl_7, pc_7, e7, _⟩ := tm7
        rw [e7] at HX7
        have tm11 := hd ⟨11, .data⟩ (by simp) rfl
        have HX11 := hide tm11
        obtain ⟨p0_11, p1_11, pa_11, pl_11, pc_11, e11, _⟩ := tm11
        rw [e11] at HX11
        obtain ⟨vs, rfl⟩ := put_of (show vs 7 = _ from e7)
        obtain ⟨vs, rfl⟩ := put_of (show vs 11 = _ from e11)
        clear e7 e11
        have HBX := hide hb
        clear hb hd
        go_simp
        refine (e_plus (fun k hk => HTT.out k (Nat.le_trans HBX.out.size hk)) HX7.out HX11.out).mono ?_
        rintro e w7 ⟨u, rfl, hu, hb7⟩
        exact hK _ _ hb7 hu
      · intro vs wx K hb hd hK
        have tm6 := hd ⟨6, .data⟩ (by simp) rfl
        have HX6 := hide tm6
        obtain ⟨p0_6, p1_6, pa_6, pl_6, pc_6, e6, _⟩ := tm6
        rw [e6] at HX6
        have tm12 := hd ⟨12, .data⟩ (by simp) rfl
        have HX12 := hide tm12
        obtain ⟨p0_12, p1_12, pa_12, pl_12, pc_12, e12, _⟩ := tm12
        rw [e12] at HX12
        obtain ⟨vs, rfl⟩ := put_of (show vs 6 = _ from e6)
        obtain ⟨vs, rfl⟩ := put_of (show vs 12 = _ from e12)
        clear e6 e12
        have HBX := hide hb
        clear hb hd
        go_simp
        refine (e_is HX6.out HX12.out (by simp only [Tr.size, num_size, List.map_cons, List.map_nil, List.sum_cons, List.sum_nil]; omega) (HTB1.out.later HBX.out) (norm_s1 hn9 hm9 hx9)).mono ?_
        rintro e w7 ⟨rfl, hb7⟩
        exact hK _ _ hb7 rfl
      · intro vs wx K hb hd hK
        obtain ⟨vs, rfl⟩ := put_of (show vs 13 = _ from hd ⟨13, .data⟩ (by simp) rfl)
        have HBX := hide hb
        clear hb hd
        go_simp
        exact hK _ _ (Below.refl _ _) rfl
      · intro vs wx K hb hd hK
        obtain ⟨vs, rfl⟩ := put_of (show vs 14 = _ from hd ⟨14, .guard⟩ (by simp) rfl)
        obtain ⟨c0, c1, c2⟩ := blk3 ((hb.block _ (size_of_block HKR.out)).trans HKR.out)
        have HBX := hide hb
        clear hb hd
        go_simp
        exact hK _ _ (Below.refl _ _) (HTR.out.keep HBX.out)
      · intro vs wx K hb hd hK
        obtain ⟨vs, rfl⟩ := put_of (show vs 14 = _ from hd ⟨14, .guard⟩ (by simp) rfl)
        obtain ⟨c0, c1, c2⟩ := blk3 ((hb.block _ (size_of_block HKR.out)).trans HKR.out)
        have HBX := hide hb
        clear hb hd
        go_simp
        exact hK _ _ (Below.refl _ _) (HTR.out.keep HBX.out)
      · intro vs wx K hb hd hK
        have tm15 := hd ⟨15, .data⟩ (by simp) rfl
        have HX15 := hide tm15
        obtain ⟨p0_15, p1_15, pa_15, pl_15, pc_15, e15, _⟩ := tm15
        rw [e15] at HX15
        have tm16 := hd ⟨16, .data⟩ (by simp) rfl
        have HX16 := hide tm16
        obtain ⟨p0_16, p1_16, pa_16, pl_16, pc_16, e16, _⟩ := tm16
        rw [e16] at HX16
        obtain ⟨vs, rfl⟩ := put_of (show vs 15 = _ from e15)
        obtain ⟨vs, rfl⟩ := put_of (show vs 16 = _ from e16)
        obtain ⟨vs, rfl⟩ := put_of (show vs 14 = _ from hd ⟨14, .guard⟩ (by simp) rfl)
        clear e15 e16
        have HBX := hide hb
        clear hb hd
        go_simp
        refine (e_is HX15.out HX16.out (by simp only [Tr.size, num_size, List.map_cons, List.map_nil, List.sum_cons, List.sum_nil]; omega) (HTB1.out.later HBX.out) (norm_s2 hm9 hx9)).mono ?_
        rintro e w7 ⟨rfl, hb7⟩
        exact hK _ _ hb7 rfl
      · intro vs wx K hb hd hK
        obtain ⟨vs, rfl⟩ := put_of (show vs 14 = _ from hd ⟨14, .data⟩ (by simp) rfl)
        obtain ⟨vs, rfl⟩ := put_of (show vs 17 = _ from hd ⟨17, .data⟩ (by simp) rfl)
        have HBX := hide hb
        clear hb hd
        go_simp
        exact hK _ _ (Below.refl _ _) rfl
      · intro vs wx K hb hd hK
        obtain ⟨vs, rfl⟩ := put_of (show vs 18 = _ from hd ⟨18, .data⟩ (by simp) rfl)
        have HBX := hide hb
        clear hb hd
        go_simp
        exact hK _ _ (Below.refl _ _) rfl
      · intro vs wx K hb hd hK
        obtain ⟨vs, rfl⟩ := put_of (show vs 19 = _ from hd ⟨19, .guard⟩ (by simp) rfl)
        obtain ⟨c0, c1, c2⟩ := blk3 ((hb.block _ (size_of_block HBX1.out)).trans HBX1.out)
        have HBX := hide hb
        clear hb hd
        go_simp
        exact hK _ _ (Below.refl _ _) (HTX1.out.keep HBX.out)
      · intro vs wx K hb hd hK
        have tm20 := hd ⟨20, .data⟩ (by simp) rfl
        have HX20 := hide tm20
        obtain ⟨p0_20, p1_20, pa_20, pl_20, pc_20, e20, _⟩ := tm20
        rw [e20] at HX20
        obtain ⟨vs, rfl⟩ := put_of (show vs 20 = _ from e20)
        obtain ⟨vs, rfl⟩ := put_of (show vs 19 = _ from hd ⟨19, .guard⟩ (by simp) rfl)
        clear e20
        have HBX := hide hb
        clear hb hd
        go_simp
        exact hK _ _ (later_alloc _ _) (row1 (fun k hk => HTT.out k (Nat.le_trans HBX.out.size hk)) HX20.out)
      · intro vs wx K hb hd hK
        have tm21 := hd ⟨21, .data⟩ (by simp) rfl
        have HX21 := hide tm21
        obtain ⟨ra_21, rf_21, e21, _⟩ := tm21
        rw [e21] at HX21
        simp only [List.length_cons, List.length_nil, Nat.zero_add] at e21 HX21
        obtain ⟨vs, rfl⟩ := put_of (show vs 21 = _ from e21)
        obtain ⟨vs, rfl⟩ := put_of (show vs 19 = _ from hd ⟨19, .guard⟩ (by simp) rfl)
        clear e21
        have HBX := hide hb
        clear hb hd
        go_simp
        refine (e_t (D := (fun _ => True)) ⟨by decide, by decide⟩ HX21.out).mono ?_
        rintro e w7 ⟨u, rfl, hu, hb7⟩
        exact hK _ _ hb7 hu
      · intro vs wx K hb hd hK
        obtain ⟨vs, rfl⟩ := put_of (show vs 19 = _ from hd ⟨19, .guard⟩ (by simp) rfl)
        have HBX := hide hb
        clear hb hd
        go_simp
        exact hK _ _ (Below.refl _ _) rfl
      · intro vs wx K hb hd hK
        obtain ⟨vs, rfl⟩ := put_of (show vs 23 = _ from hd ⟨23, .data⟩ (by simp) rfl)
        obtain ⟨vs, rfl⟩ := put_of (show vs 19 = _ from hd ⟨19, .guard⟩ (by simp) rfl)
        have HBX := hide hb
        clear hb hd
        go_simp
        refine (e_num (D := (fun _ => True)) (fun k hk => HTT.out k (Nat.le_trans HBX.out.size hk)) (n := m) (by omega)).mono ?_
        rintro e w7 ⟨u, rfl, hu, hb7⟩
        exact hK _ _ hb7 hu
      · intro vs wx K hb hd hK
        have tm22 := hd ⟨22, .data⟩ (by simp) rfl
        have HX22 := hide tm22
        obtain ⟨p0_22, p1_22, pa_22, pl_22, pc_22, e22, _⟩ := tm22
        rw [e22] at HX22
        have tm24 := hd ⟨24, .data⟩ (by simp) rfl
        have HX24 := hide tm24
        obtain ⟨p0_24, p1_24, pa_24, pl_24, pc_24, e24, _⟩ := tm24
        rw [e24] at HX24
        obtain ⟨vs, rfl⟩ := put_of (show vs 22 = _ from e22)
        obtain ⟨vs, rfl⟩ := put_of (show vs 24 = _ from e24)
        obtain ⟨vs, rfl⟩ := put_of (show vs 19 = _ from hd ⟨19, .guard⟩ (by simp) rfl)
        clear e22 e24
        have HBX := hide hb
        clear hb hd
        go_simp
        refine (e_plus (fun k hk => HTT.out k (Nat.le_trans HBX.out.size hk)) HX22.out HX24.out).mono ?_
        rintro e w7 ⟨u, rfl, hu, hb7⟩
        exact hK _ _ hb7 hu
      · intro vs wx K hb hd hK
        obtain ⟨vs, rfl⟩ := put_of (show vs 19 = _ from hd ⟨19, .guard⟩ (by simp) rfl)
        obtain ⟨c0, c1, c2⟩ := blk3 ((hb.block _ (size_of_block HKR.out)).trans HKR.out)
        have HBX := hide hb
        clear hb hd
        go_simp
        exact hK _ _ (Below.refl _ _) (HTR.out.keep HBX.out)
      · intro vs wx K hb hd hK
        have tm26 := hd ⟨26, .data⟩ (by simp) rfl
        have HX26 := hide tm26
        obtain ⟨p0_26, p1_26, pa_26, pl_26, pc_26, e26, _⟩ := tm26
        rw [e26] at HX26
        obtain ⟨vs, rfl⟩ := put_of (show vs 26 = _ from e26)
        obtain ⟨vs, rfl⟩ := put_of (show vs 19 = _ from hd ⟨19, .guard⟩ (by simp) rfl)
        clear e26
        have HBX := hide hb
        clear hb hd
        go_simp
        exact hK _ _ (later_alloc _ _) (row1 (fun k hk => HTT.out k (Nat.le_trans HBX.out.size hk)) HX26.out)
      · intro vs wx K hb hd hK
        have tm27 := hd ⟨27, .data⟩ (by simp) rfl
        have HX27 := hide tm27
        obtain ⟨ra_27, rf_27, e27, _⟩ := tm27
        rw [e27] at HX27
        simp only [List.length_cons, List.length_nil, Nat.zero_add] at e27 HX27
        obtain ⟨vs, rfl⟩ := put_of (show vs 27 = _ from e27)
        obtain ⟨vs, rfl⟩ := put_of (show vs 19 = _ from hd ⟨19, .guard⟩ (by simp) rfl)
        clear e27
        have HBX := hide hb
        clear hb hd
        go_simp
        refine (e_t (D := (fun _ => True)) ⟨by decide, by decide⟩ HX27.out).mono ?_
        rintro e w7 ⟨u, rfl, hu, hb7⟩
        exact hK _ _ hb7 hu
      · intro vs wx K hb hd hK
        have tm25 := hd ⟨25, .data⟩ (by simp) rfl
        have HX25 := hide tm25
        obtain ⟨p0_25, p1_25, pa_25, pl_25, pc_25, e25, _⟩ := tm25
        rw [e25] at HX25
        have tm28 := hd ⟨28, .data⟩ (by simp) rfl
        have HX28 := hide tm28
        obtain ⟨p0_28, p1_28, pa_28, pl_28, pc_28, e28, _⟩ := tm28
        rw [e28] at HX28
        obtain ⟨vs, rfl⟩ := put_of (show vs 25 = _ from e25)
        obtain ⟨vs, rfl⟩ := put_of (show vs 28 = _ from e28)
        obtain ⟨vs, rfl⟩ := put_of (show vs 19 = _ from hd ⟨19, .guard⟩ (by simp) rfl)
        clear e25 e28
        have HBX := hide hb
        clear hb hd
        go_simp
        refine (e_is HX25.out HX28.out (by simp only [Tr.size, num_size, List.map_cons, List.map_nil, List.sum_cons, List.sum_nil]; omega) (HTB1.out.later HBX.out) (norm_s3 hm9 hx9)).mono ?_
        rintro e w7 ⟨rfl, hb7⟩
        exact hK _ _ hb7 rfl
      · intro vs wx K hb hd hK
        obtain ⟨vs, rfl⟩ := put_of (show vs 19 = _ from hd ⟨19, .data⟩ (by simp) rfl)
        obtain ⟨vs, rfl⟩ := put_of (show vs 29 = _ from hd ⟨29, .data⟩ (by simp) rfl)
        have HBX := hide hb
        clear hb hd
        go_simp
        exact hK _ _ (Below.refl _ _) rfl
      · intro vs wx K hb hd hK
        obtain ⟨vs, rfl⟩ := put_of (show vs 30 = _ from hd ⟨30, .data⟩ (by simp) rfl)
        have HBX := hide hb
        clear hb hd
        go_simp
        exact hK _ _ (Below.refl _ _) rfl
      · intro vs wx K hb hd hK
        obtain ⟨vs, rfl⟩ := put_of (show vs 31 = _ from hd ⟨31, .guard⟩ (by simp) rfl)
        obtain ⟨c0, c1, c2⟩ := blk3 ((hb.block _ (size_of_block HBX1.out)).trans HBX1.out)
        have HBX := hide hb
        clear hb hd
        go_simp
        exact hK _ _ (Below.refl _ _) (HTX1.out.keep HBX.out)
      · intro vs wx K hb hd hK
        obtain ⟨vs, rfl⟩ := put_of (show vs 31 = _ from hd ⟨31, .guard⟩ (by simp) rfl)
        have HBX := hide hb
        clear hb hd
        go_simp
        exact hK _ _ (Below.refl _ _) rfl
      · intro vs wx K hb hd hK
        obtain ⟨vs, rfl⟩ := put_of (show vs 33 = _ from hd ⟨33, .data⟩ (by simp) rfl)
        obtain ⟨vs, rfl⟩ := put_of (show vs 31 = _ from hd ⟨31, .guard⟩ (by simp) rfl)
        have HBX := hide hb
        clear hb hd
        go_simp
        refine (e_num (D := (fun _ => True)) (fun k hk => HTT.out k (Nat.le_trans HBX.out.size hk)) (n := n) (by omega)).mono ?_
        rintro e w7 ⟨u, rfl, hu, hb7⟩
        exact hK _ _ hb7 hu
      · intro vs wx K hb hd hK
        obtain ⟨vs, rfl⟩ := put_of (show vs 31 = _ from hd ⟨31, .guard⟩ (by simp) rfl)
        have HBX := hide hb
        clear hb hd
        go_simp
        exact hK _ _ (Below.refl _ _) rfl
      · intro vs wx K hb hd hK
        obtain ⟨vs, rfl⟩ := put_of (show vs 35 = _ from hd ⟨35, .data⟩ (by simp) rfl)
        obtain ⟨vs, rfl⟩ := put_of (show vs 31 = _ from hd ⟨31, .guard⟩ (by simp) rfl)
        have HBX := hide hb
        clear hb hd
        go_simp
        refine (e_num (D := (fun _ => True)) (fun k hk => HTT.out k (Nat.le_trans HBX.out.size hk)) (n := m) (by omega)).mono ?_
        rintro e w7 ⟨u, rfl, hu, hb7⟩
        exact hK _ _ hb7 hu
      · intro vs wx K hb hd hK
        have tm34 := hd ⟨34, .data⟩ (by simp) rfl
        have HX34 := hide tm34
        obtain ⟨p0_34, p1_34, pa_34, pl_34, pc_34, e34, _⟩ := tm34
        rw [e34] at HX34
        have tm36 := hd ⟨36, .data⟩ (by simp) rfl
        have HX36 := hide tm36
        obtain ⟨p0_36, p1_36, pa_36, pl_36, pc_36, e36, _⟩ := tm36
        rw [e36] at HX36
        obtain ⟨vs, rfl⟩ := put_of (show vs 34 = _ from e34)
        obtain ⟨vs, rfl⟩ := put_of (show vs 36 = _ from e36)
        obtain ⟨vs, rfl⟩ := put_of (show vs 31 = _ from hd ⟨31, .guard⟩ (by simp) rfl)
        clear e34 e36
        have HBX := hide hb
        clear hb hd
        go_simp
        refine (e_plus (fun k hk => HTT.out k (Nat.le_trans HBX.out.size hk)) HX34.out HX36.out).mono ?_
        rintro e w7 ⟨u, rfl, hu, hb7⟩
        exact hK _ _ hb7 hu
      · intro vs wx K hb hd hK
        have tm32 := hd ⟨32, .data⟩ (by simp) rfl
        have HX32 := hide tm32
        obtain ⟨p0_32, p1_32, pa_32, pl_32, pc_32, e32, _⟩ := tm32
        rw [e32] at HX32
        have tm37 := hd ⟨37, .data⟩ (by simp) rfl
        have HX37 := hide tm37
        obtain ⟨p0_37, p1_37, pa_37, pl_37, pc_37, e37, _⟩ := tm37
        rw [e37] at HX37
        obtain ⟨vs, rfl⟩ := put_of (show vs 32 = _ from e32)
        obtain ⟨vs, rfl⟩ := put_of (show vs 37 = _ from e37)
        obtain ⟨vs, rfl⟩ := put_of (show vs 31 = _ from hd ⟨31, .guard⟩ (by simp) rfl)
        clear e32 e37
        have HBX := hide hb
        clear hb hd
        go_simp
        refine (e_app (fun k hk => HTT.out k (Nat.le_trans HBX.out.size hk)) HX32.out HX37.out).mono ?_
        rintro e w7 ⟨u, rfl, hu, hb7⟩
        exact hK _ _ hb7 hu
      · intro vs wx K hb hd hK
        obtain ⟨vs, rfl⟩ := put_of (show vs 31 = _ from hd ⟨31, .guard⟩ (by simp) rfl)
        obtain ⟨c0, c1, c2⟩ := blk3 ((hb.block _ (size_of_block HBX1.out)).trans HBX1.out)
        have HBX := hide hb
        clear hb hd
        go_simp
        exact hK _ _ (Below.refl _ _) (HTX1.out.keep HBX.out)
      · intro vs wx K hb hd hK
        obtain ⟨vs, rfl⟩ := put_of (show vs 31 = _ from hd ⟨31, .guard⟩ (by simp) rfl)
        have HBX := hide hb
        clear hb hd
        go_simp
        exact hK _ _ (Below.refl _ _) rfl
      · intro vs wx K hb hd hK
        obtain ⟨vs, rfl⟩ := put_of (show vs 31 = _ from hd ⟨31, .guard⟩ (by simp) rfl)
        have HBX := hide hb
        clear hb hd
        go_simp
        exact hK _ _ (Below.refl _ _) rfl
      · intro vs wx K hb hd hK
        obtain ⟨vs, rfl⟩ := put_of (show vs 40 = _ from hd ⟨40, .data⟩ (by simp) rfl)
        obtain ⟨vs, rfl⟩ := put_of (show vs 41 = _ from hd ⟨41, .data⟩ (by simp) rfl)
        obtain ⟨vs, rfl⟩ := put_of (show vs 31 = _ from hd ⟨31, .guard⟩ (by simp) rfl)
        have HBX := hide hb
        clear hb hd
        go_simp
        exact hK _ _ (Below.refl _ _) rfl
      · intro vs wx K hb hd hK
        obtain ⟨vs, rfl⟩ := put_of (show vs 42 = _ from hd ⟨42, .data⟩ (by simp) rfl)
        obtain ⟨vs, rfl⟩ := put_of (show vs 31 = _ from hd ⟨31, .guard⟩ (by simp) rfl)
        have HBX := hide hb
        clear hb hd
        go_simp
        refine (e_num (D := (fun _ => True)) (fun k hk => HTT.out k (Nat.le_trans HBX.out.size hk)) (n := n + m) (by omega)).mono ?_
        rintro e w7 ⟨u, rfl, hu, hb7⟩
        exact hK _ _ hb7 hu
      · intro vs wx K hb hd hK
        have tm39 := hd ⟨39, .data⟩ (by simp) rfl
        have HX39 := hide tm39
        obtain ⟨p0_39, p1_39, pa_39, pl_39, pc_39, e39, _⟩ := tm39
        rw [e39] at HX39
        have tm43 := hd ⟨43, .data⟩ (by simp) rfl
        have HX43 := hide tm43
        obtain ⟨p0_43, p1_43, pa_43, pl_43, pc_43, e43, _⟩ := tm43
        rw [e43] at HX43
        obtain ⟨vs, rfl⟩ := put_of (show vs 39 = _ from e39)
        obtain ⟨vs, rfl⟩ := put_of (show vs 43 = _ from e43)
        obtain ⟨vs, rfl⟩ := put_of (show vs 31 = _ from hd ⟨31, .guard⟩ (by simp) rfl)
        clear e39 e43
        have HBX := hide hb
        clear hb hd
        go_simp
        refine (e_app (fun k hk => HTT.out k (Nat.le_trans HBX.out.size hk)) HX39.out HX43.out).mono ?_
        rintro e w7 ⟨u, rfl, hu, hb7⟩
        exact hK _ _ hb7 hu
      · intro vs wx K hb hd hK
        have tm38 := hd ⟨38, .data⟩ (by simp) rfl
        have HX38 := hide tm38
        obtain ⟨p0_38, p1_38, pa_38, pl_38, pc_38, e38, _⟩ := tm38
        rw [e38] at HX38
        have tm44 := hd ⟨44, .data⟩ (by simp) rfl
        have HX44 := hide tm44
        obtain ⟨p0_44, p1_44, pa_44, pl_44, pc_44, e44, _⟩ := tm44
        rw [e44] at HX44
        obtain ⟨vs, rfl⟩ := put_of (show vs 38 = _ from e38)
        obtain ⟨vs, rfl⟩ := put_of (show vs 44 = _ from e44)
        obtain ⟨vs, rfl⟩ := put_of (show vs 31 = _ from hd ⟨31, .guard⟩ (by simp) rfl)
        clear e38 e44
        have HBX := hide hb
        clear hb hd
        go_simp
        refine (e_is HX38.out HX44.out (by simp only [Tr.size, num_size, List.map_cons, List.map_nil, List.sum_cons, List.sum_nil]; omega) (HTB1.out.later HBX.out) (norm_s4 hn9 hm9 hx9)).mono ?_
        rintro e w7 ⟨rfl, hb7⟩
        exact hK _ _ hb7 rfl
      · intro vs wx K hb hd hK
        obtain ⟨vs, rfl⟩ := put_of (show vs 31 = _ from hd ⟨31, .data⟩ (by simp) rfl)
        obtain ⟨vs, rfl⟩ := put_of (show vs 45 = _ from hd ⟨45, .data⟩ (by simp) rfl)
        have HBX := hide hb
        clear hb hd
        go_simp
        exact hK _ _ (Below.refl _ _) rfl
      · intro vs wx K hb hd hK
        obtain ⟨vs, rfl⟩ := put_of (show vs 46 = _ from hd ⟨46, .data⟩ (by simp) rfl)
        have HBX := hide hb
        clear hb hd
        go_simp
        exact hK _ _ (Below.refl _ _) rfl
      · intro vs wx K hb hd hK
        obtain ⟨vs, rfl⟩ := put_of (show vs 47 = _ from hd ⟨47, .guard⟩ (by simp) rfl)
        obtain ⟨c0, c1, c2⟩ := blk3 ((hb.block _ (size_of_block HBX1.out)).trans HBX1.out)
        have HBX := hide hb
        clear hb hd
        go_simp
        exact hK _ _ (Below.refl _ _) (HTX1.out.keep HBX.out)
      · intro vs wx K hb hd hK
        have tm48 := hd ⟨48, .data⟩ (by simp) rfl
        have HX48 := hide tm48
        obtain ⟨p0_48, p1_48, pa_48, pl_48, pc_48, e48, _⟩ := tm48
        rw [e48] at HX48
        obtain ⟨vs, rfl⟩ := put_of (show vs 48 = _ from e48)
        obtain ⟨vs, rfl⟩ := put_of (show vs 47 = _ from hd ⟨47, .guard⟩ (by simp) rfl)
        clear e48
        have HBX := hide hb
        clear hb hd
        go_simp
        exact hK _ _ (later_alloc _ _) (row1 (fun k hk => HTT.out k (Nat.le_trans HBX.out.size hk)) HX48.out)
      · intro vs wx K hb hd hK
        have tm49 := hd ⟨49, .data⟩ (by simp) rfl
        have HX49 := hide tm49
        obtain ⟨ra_49, rf_49, e49, _⟩ := tm49
        rw [e49] at HX49
        simp only [List.length_cons, List.length_nil, Nat.zero_add] at e49 HX49
        obtain ⟨vs, rfl⟩ := put_of (show vs 49 = _ from e49)
        obtain ⟨vs, rfl⟩ := put_of (show vs 47 = _ from hd ⟨47, .guard⟩ (by simp) rfl)
        clear e49
        have HBX := hide hb
        clear hb hd
        go_simp
        refine (e_t (D := (fun _ => True)) ⟨by decide, by decide⟩ HX49.out).mono ?_
        rintro e w7 ⟨u, rfl, hu, hb7⟩
        exact hK _ _ hb7 hu
      · intro vs wx K hb hd hK
        obtain ⟨vs, rfl⟩ := put_of (show vs 47 = _ from hd ⟨47, .guard⟩ (by simp) rfl)
        obtain ⟨c0, c1, c2⟩ := blk3 ((hb.block _ (size_of_block HBX1.out)).trans HBX1.out)
        have HBX := hide hb
        clear hb hd
        go_simp
        exact hK _ _ (Below.refl _ _) (HTX1.out.keep HBX.out)
      · intro vs wx K hb hd hK
        have tm51 := hd ⟨51, .data⟩ (by simp) rfl
        have HX51 := hide tm51
        obtain ⟨p0_51, p1_51, pa_51, pl_51, pc_51, e51, _⟩ := tm51
        rw [e51] at HX51
        obtain ⟨vs, rfl⟩ := put_of (show vs 51 = _ from e51)
        obtain ⟨vs, rfl⟩ := put_of (show vs 47 = _ from hd ⟨47, .guard⟩ (by simp) rfl)
        clear e51
        have HBX := hide hb
        clear hb hd
        go_simp
        exact hK _ _ (later_alloc _ _) (row1 (fun k hk => HTT.out k (Nat.le_trans HBX.out.size hk)) HX51.out)
      · intro vs wx K hb hd hK
        have tm52 := hd ⟨52, .data⟩ (by simp) rfl
        have HX52 := hide tm52
        obtain ⟨ra_52, rf_52, e52, _⟩ := tm52
        rw [e52] at HX52
        simp only [List.length_cons, List.length_nil, Nat.zero_add] at e52 HX52
        obtain ⟨vs, rfl⟩ := put_of (show vs 52 = _ from e52)
        obtain ⟨vs, rfl⟩ := put_of (show vs 47 = _ from hd ⟨47, .guard⟩ (by simp) rfl)
        clear e52
        have HBX := hide hb
        clear hb hd
        go_simp
        refine (e_t (D := (fun _ => True)) ⟨by decide, by decide⟩ HX52.out).mono ?_
        rintro e w7 ⟨u, rfl, hu, hb7⟩
        exact hK _ _ hb7 hu
      · intro vs wx K hb hd hK
        have tm50 := hd ⟨50, .data⟩ (by simp) rfl
        have HX50 := hide tm50
        obtain ⟨p0_50, p1_50, pa_50, pl_50, pc_50, e50, _⟩ := tm50
        rw [e50] at HX50
        have tm53 := hd ⟨53, .data⟩ (by simp) rfl
        have HX53 := hide tm53
        obtain ⟨p0_53, p1_53, pa_53, pl_53, pc_53, e53, _⟩ := tm53
        rw [e53] at HX53
        obtain ⟨vs, rfl⟩ := put_of (show vs 50 = _ from e50)
        obtain ⟨vs, rfl⟩ := put_of (show vs 53 = _ from e53)
        obtain ⟨vs, rfl⟩ := put_of (show vs 47 = _ from hd ⟨47, .guard⟩ (by simp) rfl)
        clear e50 e53
        have HBX := hide hb
        clear hb hd
        go_simp
        refine (e_is HX50.out HX53.out (by simp only [Tr.size, List.map_cons, List.map_nil, List.sum_cons, List.sum_nil]; omega) (HTB1.out.later HBX.out) (norm_s5 hx9)).mono ?_
        rintro e w7 ⟨rfl, hb7⟩
        exact hK _ _ hb7 rfl
      · intro vs wx K hb hd hK
        obtain ⟨vs, rfl⟩ := put_of (show vs 47 = _ from hd ⟨47, .data⟩ (by simp) rfl)
        obtain ⟨vs, rfl⟩ := put_of (show vs 54 = _ from hd ⟨54, .data⟩ (by simp) rfl)
        have HBX := hide hb
        clear hb hd
        go_simp
        exact hK _ _ (Below.refl _ _) rfl
      · intro vs wx K hb hd hK
        obtain ⟨vs, rfl⟩ := put_of (show vs 55 = _ from hd ⟨55, .data⟩ (by simp) rfl)
        have HBX := hide hb
        clear hb hd
        go_simp
        exact hK _ _ (Below.refl _ _) rfl
      · intro vs wx K hb hd hK
        obtain ⟨vs, rfl⟩ := put_of (show vs 56 = _ from hd ⟨56, .guard⟩ (by simp) rfl)
        obtain ⟨c0, c1, c2⟩ := blk3 ((hb.block _ (size_of_block HBX1.out)).trans HBX1.out)
        have HBX := hide hb
        clear hb hd
        go_simp
        exact hK _ _ (Below.refl _ _) (HTX1.out.keep HBX.out)
      · intro vs wx K hb hd hK
        have tm57 := hd ⟨57, .data⟩ (by simp) rfl
        have HX57 := hide tm57
        obtain ⟨p0_57, p1_57, pa_57, pl_57, pc_57, e57, _⟩ := tm57
        rw [e57] at HX57
        obtain ⟨vs, rfl⟩ := put_of (show vs 57 = _ from e57)
        obtain ⟨vs, rfl⟩ := put_of (show vs 56 = _ from hd ⟨56, .guard⟩ (by simp) rfl)
        clear e57
        have HBX := hide hb
        clear hb hd
        go_simp
        exact hK _ _ (later_alloc _ _) (row1 (fun k hk => HTT.out k (Nat.le_trans HBX.out.size hk)) HX57.out)
      · intro vs wx K hb hd hK
        have tm58 := hd ⟨58, .data⟩ (by simp) rfl
        have HX58 := hide tm58
        obtain ⟨ra_58, rf_58, e58, _⟩ := tm58
        rw [e58] at HX58
        simp only [List.length_cons, List.length_nil, Nat.zero_add] at e58 HX58
        obtain ⟨vs, rfl⟩ := put_of (show vs 58 = _ from e58)
        obtain ⟨vs, rfl⟩ := put_of (show vs 56 = _ from hd ⟨56, .guard⟩ (by simp) rfl)
        clear e58
        have HBX := hide hb
        clear hb hd
        go_simp
        refine (e_t (D := (fun _ => True)) ⟨by decide, by decide⟩ HX58.out).mono ?_
        rintro e w7 ⟨u, rfl, hu, hb7⟩
        exact hK _ _ hb7 hu
      · intro vs wx K hb hd hK
        obtain ⟨vs, rfl⟩ := put_of (show vs 56 = _ from hd ⟨56, .guard⟩ (by simp) rfl)
        obtain ⟨c0, c1, c2⟩ := blk3 ((hb.block _ (size_of_block HBX1.out)).trans HBX1.out)
        have HBX := hide hb
        clear hb hd
        go_simp
        exact hK _ _ (Below.refl _ _) (HTX1.out.keep HBX.out)
      · intro vs wx K hb hd hK
        have tm60 := hd ⟨60, .data⟩ (by simp) rfl
        have HX60 := hide tm60
        obtain ⟨p0_60, p1_60, pa_60, pl_60, pc_60, e60, _⟩ := tm60
        rw [e60] at HX60
        obtain ⟨vs, rfl⟩ := put_of (show vs 60 = _ from e60)
        obtain ⟨vs, rfl⟩ := put_of (show vs 56 = _ from hd ⟨56, .guard⟩ (by simp) rfl)
        clear e60
        have HBX := hide hb
        clear hb hd
        go_simp
        exact hK _ _ (later_alloc _ _) (row1 (fun k hk => HTT.out k (Nat.le_trans HBX.out.size hk)) HX60.out)
      · intro vs wx K hb hd hK
        have tm61 := hd ⟨61, .data⟩ (by simp) rfl
        have HX61 := hide tm61
        obtain ⟨ra_61, rf_61, e61, _⟩ := tm61
        rw [e61] at HX61
        simp only [List.length_cons, List.length_nil, Nat.zero_add] at e61 HX61
        obtain ⟨vs, rfl⟩ := put_of (show vs 61 = _ from e61)
        obtain ⟨vs, rfl⟩ := put_of (show vs 56 = _ from hd ⟨56, .guard⟩ (by simp) rfl)
        clear e61
        have HBX := hide hb
        clear hb hd
        go_simp
        refine (e_t (D := (fun _ => True)) ⟨by decide, by decide⟩ HX61.out).mono ?_
        rintro e w7 ⟨u, rfl, hu, hb7⟩
        exact hK _ _ hb7 hu
      · intro vs wx K hb hd hK
        have tm59 := hd ⟨59, .data⟩ (by simp) rfl
        have HX59 := hide tm59
        obtain ⟨p0_59, p1_59, pa_59, pl_59, pc_59, e59, _⟩ := tm59
        rw [e59] at HX59
        have tm62 := hd ⟨62, .data⟩ (by simp) rfl
        have HX62 := hide tm62
        obtain ⟨p0_62, p1_62, pa_62, pl_62, pc_62, e62, _⟩ := tm62
        rw [e62] at HX62
        obtain ⟨vs, rfl⟩ := put_of (show vs 59 = _ from e59)
        obtain ⟨vs, rfl⟩ := put_of (show vs 62 = _ from e62)
        obtain ⟨vs, rfl⟩ := put_of (show vs 56 = _ from hd ⟨56, .guard⟩ (by simp) rfl)
        clear e59 e62
        have HBX := hide hb
        clear hb hd
        go_simp
        refine (e_is HX59.out HX62.out (by simp only [Tr.size, List.map_cons, List.map_nil, List.sum_cons, List.sum_nil]; omega) (HTB1.out.later HBX.out) (norm_s6 hx9)).mono ?_
        rintro e w7 ⟨rfl, hb7⟩
        exact hK _ _ hb7 rfl
      · intro vs wx K hb hd hK
        obtain ⟨vs, rfl⟩ := put_of (show vs 56 = _ from hd ⟨56, .data⟩ (by simp) rfl)
        obtain ⟨vs, rfl⟩ := put_of (show vs 63 = _ from hd ⟨63, .data⟩ (by simp) rfl)
        have HBX := hide hb
        clear hb hd
        go_simp
        exact hK _ _ (Below.refl _ _) rfl
      · intro vs wx K hb hd hK
        obtain ⟨vs, rfl⟩ := put_of (show vs 64 = _ from hd ⟨64, .data⟩ (by simp) rfl)
        have HBX := hide hb
        clear hb hd
        go_simp
        exact hK _ _ (Below.refl _ _) rfl
    · intro vs wx hb hF
      obtain ⟨vs, rfl⟩ := put_of (show vs 65 = _ from hF 65 (by decide))
      have HBX := hide hb
      clear hb hF
      simp only [put, Nat.reduceEqDiff, reduceIte]
      go_wp2_with fail
      go_ret
      exact ⟨rfl, HBW1.out.trans (HBX.out.mono HBW1.out.size)⟩
#print axioms stuck_any
end Go.Proofs.YtjiecahopdaghabDoor
