/- The walk of TermShifts. -/
import Derived.Test.YtpmaagafcpaajaaDoorLc
namespace Go.Proofs.YtpmaagafcpaajaaDoor
open Go.RowKit
attribute [local go_sem] put

def shifts_anyM (x0 : Value) (x1 : Value) (T U : Tr) : Nat → Value → World → (Nat → Prop) → Prop
  | 0 => fun v _ _ => v = x0
  | 1 => fun v w M => IsM 7 T v w M
  | 2 => fun v _ _ => v = x1
  | 3 => fun v w M => IsM 5 U v w M
  | _ => fun _ _ _ => True
theorem shifts_anyM.keep (x0 : Value) (x1 : Value) (T U : Tr) (k : Nat) (v : Value) (w w' : World) (M M' : Nat → Prop) (h : shifts_anyM x0 x1 T U k v w M) (hf : Fr M w w') (hM : ∀ q, q < w.heap.size → (M' q ↔ M q)) : shifts_anyM x0 x1 T U k v w' M' := by
  unfold shifts_anyM at *
  split at h <;> first | exact h | exact IsM.keep h hf hM
def shifts_F (T U : Tr) (ax bx fx : Int) : Nat → Value → World → Prop
  | 0 => fun v w => IsT (7) (T) v w
  | 1 => fun v _ => v = .int .i64 (fx)
  | 2 => fun v w => IsT (7) (shf (0) (fx) 0 (T)) v w
  | 3 => fun v w => IsT (7) (T) v w
  | 4 => fun v _ => v = .bool (true)
  | 5 => fun v _ => v = .bool (true)
  | 6 => fun v w => IsT (7) (T) v w
  | 7 => fun v _ => v = .int .i64 (ax)
  | 8 => fun v _ => v = .int .i64 (fx)
  | 9 => fun v w => IsT (7) (shf (ax) (fx) 0 (T)) v w
  | 10 => fun v _ => v = .int .i64 (bx)
  | 11 => fun v _ => v = .int .i64 (fx)
  | 12 => fun v w => IsT (7) (shf (bx) (fx) 0 (shf (ax) (fx) 0 (T))) v w
  | 13 => fun v w => IsT (7) (T) v w
  | 14 => fun v _ => v = .int .i64 (ax)
  | 15 => fun v _ => v = .int .i64 (bx)
  | 16 => fun v _ => v = .int .i64 (ax + bx)
  | 17 => fun v _ => v = .int .i64 (fx)
  | 18 => fun v w => IsT (7) (shf (ax + bx) (fx) 0 (T)) v w
  | 19 => fun v _ => v = .bool (true)
  | 20 => fun v _ => v = .bool (true)
  | 21 => fun v _ => v = .bool (true)
  | 22 => fun v w => IsT (7) (T) v w
  | 23 => fun v _ => v = .int .i64 (fx)
  | 24 => fun v w => IsT (7) (shf (1) (fx) 0 (T)) v w
  | 25 => fun v _ => v = .int .i64 (fx)
  | 26 => fun v w => IsT (5) (U) v w
  | 27 => fun v w => IsT (7 + 5) (sub (fx) (U) 0 (shf (1) (fx) 0 (T))) v w
  | 28 => fun v w => IsT (7) (T) v w
  | 29 => fun v _ => v = .bool (true)
  | 30 => fun v _ => v = .bool (true)
  | 31 => fun v _ => v = .bool (true)
  | 32 => fun v w => IsT (7) (T) v w
  | 33 => fun v _ => v = .int .i64 (fx)
  | 34 => fun v w => IsT (7) (shf (1) (fx) 0 (T)) v w
  | 35 => fun v _ => v = .int .i64 (fx)
  | 36 => fun v _ => v = .bool (false)
  | 37 => fun v _ => v = .bool (true)
  | 38 => fun v _ => v = .bool (true)
  | 39 => fun v _ => v = .bool (true)
  | _ => fun _ _ => True
theorem shifts_F.keep (T U : Tr) (ax bx fx : Int) (i : Nat) (v : Value) (w w' : World) (h : shifts_F T U ax bx fx i v w) (hb : Below w.heap.size w w') : shifts_F T U ax bx fx i v w' := by
  unfold shifts_F at *
  split at h <;> first | exact h | exact IsT.keep h hb
set_option maxRecDepth 20000 in
set_option maxHeartbeats 4000000 in
theorem shifts_any (B f : Nat) (r0 : Tr) (v0 : Value) (r1 : Tr) (v1 : Value) (a b fr : Int) (w : World) (h0 : TmAt w B f r0 v0) (h1 : TmAt w B f r1 v1) (hB : B ≤ w.heap.size) (ht : Tabs w.heap.size w) (hl : Tl w) (hb : Tb w) :
    Calls Tryd.prog 5 #[v0, v1, .int .i64 a, .int .i64 b, .int .i64 fr] w fun e w' => e = .returned (.bool true) ∧ Below w.heap.size w w' := by
  have HR0 := hide (raw64_of h0)
  have H0 := hide h0
  obtain ⟨a0, z0, rfl, _, _, o0, n0⟩ := h0.shape
  clear h0
  have HR1 := hide (raw64_of h1)
  have H1 := hide h1
  obtain ⟨a1, z1, rfl, _, _, o1, n1⟩ := h1.shape
  clear h1
  have HT := hide ht; have HL := hide hl; have HTB := hide hb
  clear ht hl hb
  have HA : Hid (Below w.heap.size w ((w.alloc (.cells #[.int .i64 r0.op, .int .i64 r0.n, .slice a0 r0.kids.length z0] 24)).alloc (.cells #[.int .i64 r1.op, .int .i64 r1.n, .slice a1 r1.kids.length z1] 24))) := (((Below.refl w.heap.size w).alloc (Nat.le_refl _) _).alloc (by simp) _)
  go_enter Tryd.func5, Tryd.ntmps5
  go_wp2_with fail
  refine (known_any _ (HT.out.later HA.out) (HL.out.later HA.out)).mono ?_
  rintro e w1 ⟨rfl, hb1⟩
  obtain ⟨k0, k1, hbl, hs1⟩ := box_two hb1
  have HB1 := hide hbl; have HK0_1 := hide k0; have HK1_1 := hide k1
  clear hb1 hbl k0 k1
  obtain ⟨c0, c1, c2⟩ := blk3 HK0_1.out
  go_wp2_with fail
  refine (few_any B f r0 _ w1 (TmAt.below H0.out HB1.out hB (Nat.le_refl _)) (Nat.le_trans hB HB1.out.size)).mono ?_
  rintro e w2 ⟨rfl, hb2⟩
  have HB2 : Hid (Below w.heap.size w w2) := HB1.out.trans (hb2.mono HB1.out.size)
  have hs2 := hb2.size
  have HK0_2 := hide ((hb2.block _ (size_of_block HK0_1.out)).trans HK0_1.out)
  have HK1_2 := hide ((hb2.block _ (size_of_block HK1_1.out)).trans HK1_1.out)
  clear hb2 c0 c1 c2 HK0_1 HK1_1
  by_cases hq0 : r0.size < 300
  rotate_left
  · rw [decide_eq_false hq0]
    go_wp2_with fail
    go_ret
    exact ⟨rfl, HB2.out⟩
  rw [decide_eq_true hq0]
  obtain ⟨c0, c1, c2⟩ := blk3 HK1_2.out
  go_wp2_with fail
  refine (few_any B f r1 _ w2 (TmAt.below H1.out HB2.out hB (Nat.le_refl _)) (Nat.le_trans hB HB2.out.size)).mono ?_
  rintro e w3 ⟨rfl, hb3⟩
  have HB3 : Hid (Below w.heap.size w w3) := HB2.out.trans (hb3.mono HB2.out.size)
  have hs3 := hb3.size
  have HK0_3 := hide ((hb3.block _ (size_of_block HK0_2.out)).trans HK0_2.out)
  have HK1_3 := hide ((hb3.block _ (size_of_block HK1_2.out)).trans HK1_2.out)
  clear hb3 c0 c1 c2 HK0_2 HK1_2
  by_cases hq1 : r1.size < 300
  rotate_left
  · rw [decide_eq_false hq1]
    go_wp2_with fail
    go_ret
    exact ⟨rfl, HB3.out⟩
  rw [decide_eq_true hq1]
  go_wp2_with fail
  have HR0T : Hid (TmAt w3 w3.heap.size f r0 (.agg #[.int .i64 r0.op, .int .i64 r0.n, .slice a0 r0.kids.length z0])) := TmAt.below H0.out HB3.out hB (Nat.le_trans hB HB3.out.size)
  have HR1T : Hid (TmAt w3 w3.heap.size f r1 (.agg #[.int .i64 r1.op, .int .i64 r1.n, .slice a1 r1.kids.length z1])) := TmAt.below H1.out HB3.out hB (Nat.le_trans hB HB3.out.size)
  refine wp_region_boxes (by kernel_rfl) (by kernel_rfl) (fun vs => { tmps := #[Value.agg #[Value.int IntKind.i64 r0.op, Value.int IntKind.i64 r0.n, Value.slice a0 r0.kids.length z0], Value.agg #[Value.int IntKind.i64 r1.op, Value.int IntKind.i64 r1.n, Value.slice a1 r1.kids.length z1], Value.int IntKind.i64 a, Value.int IntKind.i64 b, Value.int IntKind.i64 fr, Value.pointer (some { block := w.heap.size, off := 0 }), Value.pointer (some { block := w.heap.size + 1, off := 0 }), undef, undef, undef, Value.bool false, vs 4, vs 5, Value.bool true, Value.bool false, Value.agg #[Value.int IntKind.i64 r0.op, Value.int IntKind.i64 r0.n, Value.slice a0 r0.kids.length z0], Value.bool true, Value.bool false, Value.bool false, Value.agg #[Value.int IntKind.i64 r1.op, Value.int IntKind.i64 r1.n, Value.slice a1 r1.kids.length z1], Value.bool true, Value.bool false, Value.bool false, vs 0, vs 1, vs 2, vs 3, undef, undef, undef, undef, undef, undef, undef, undef, undef, undef, undef, undef, undef, undef, undef, undef, undef, undef, undef, undef, undef, undef, undef, undef, undef, undef, undef, undef, undef, undef, undef, undef, undef, undef, undef, undef, undef, undef, undef, undef, undef, undef, undef, undef, undef], defers := [] }) (fun i => [undef, undef, undef, undef, undef, undef, undef, undef].getD i undef) [(4, 1, 6), (5, 3, 7)] (by decide) #[.int .i64 0, .int .i64 0, .slice none 0 0] 29 (shifts_anyM (.agg #[.int .i64 r0.op, .int .i64 r0.n, .slice a0 r0.kids.length z0]) (.agg #[.int .i64 r1.op, .int .i64 r1.n, .slice a1 r1.kids.length z1]) (mkT 6 4 r0) (mkT 4 4 r1)) (shifts_anyM.keep (.agg #[.int .i64 r0.op, .int .i64 r0.n, .slice a0 r0.kids.length z0]) (.agg #[.int .i64 r1.op, .int .i64 r1.n, .slice a1 r1.kids.length z1]) (mkT 6 4 r0) (mkT 4 4 r1)) ?_ ?_
  · refine ⟨⟨fun _ => ?_, fun x hx h => absurd h (by revert x; decide), fun x hx h => absurd h (by revert x; decide)⟩, ⟨fun _ => ?_, fun x hx h => absurd h (by revert x; decide), fun x hx h => absurd h (by revert x; decide)⟩, ⟨fun _ => ?_, fun x hx h => absurd h (by revert x; decide), fun x hx h => absurd h (by revert x; decide)⟩, ⟨fun _ => ?_, fun x hx h => absurd h (by revert x; decide), fun x hx h => absurd h (by revert x; decide)⟩, ⟨fun h => absurd h (by unfold Plainly; decide), fun x hx h => ?_, fun x hx h => absurd h (by revert x; decide)⟩, ⟨fun h => absurd h (by unfold Plainly; decide), fun x hx h => ?_, fun x hx h => absurd h (by revert x; decide)⟩, ⟨fun h => absurd h (by unfold Plainly; decide), fun x hx h => absurd h (by revert x; decide), fun x hx h => ?_⟩, ⟨fun h => absurd h (by unfold Plainly; decide), fun x hx h => absurd h (by revert x; decide), fun x hx h => ?_⟩, trivial⟩
    · intro vs wx M K hb hd hM hK
      obtain ⟨c0, c1, c2⟩ := cells3' hb HK0_3.out
      clear hb hd
      go_simp
      exact hK _ _ (Below.refl _ _) rfl
    · intro vs wx M K hb hd hM hK
      obtain ⟨vs, rfl⟩ := put_of (show vs 0 = _ from hd ⟨0, .data⟩ (by simp) rfl (by unfold Plainly; decide))
      have HBX := hide hb; have HM := hide hM
      clear hb hd hM
      go_simp
      refine (c_make (d := 6) M (fun q hq => (HM.out q hq).2) (TmAt.below HR0T.out HBX.out (Nat.le_refl _) (Nat.le_refl _)) HBX.out.size (by decide) (by decide) (by decide)).mono ?_
      rintro e w7 ⟨u, rfl, hu, hb7⟩
      exact hK _ _ hb7 hu
    · intro vs wx M K hb hd hM hK
      obtain ⟨c0, c1, c2⟩ := cells3' hb HK1_3.out
      clear hb hd
      go_simp
      exact hK _ _ (Below.refl _ _) rfl
    · intro vs wx M K hb hd hM hK
      obtain ⟨vs, rfl⟩ := put_of (show vs 2 = _ from hd ⟨2, .data⟩ (by simp) rfl (by unfold Plainly; decide))
      have HBX := hide hb; have HM := hide hM
      clear hb hd hM
      go_simp
      refine (c_make (d := 4) M (fun q hq => (HM.out q hq).2) (TmAt.below HR1T.out HBX.out (Nat.le_refl _) (Nat.le_refl _)) HBX.out.size (by decide) (by decide) (by decide)).mono ?_
      rintro e w7 ⟨u, rfl, hu, hb7⟩
      exact hK _ _ hb7 hu
    · intro vs wx K hK
      clear hx h
      go_simp
      exact hK
    · intro vs wx K hK
      clear hx h
      go_simp
      exact hK
    · obtain rfl : x = (4, 1, 6) := (by revert h; revert x; decide)
      refine ⟨⟨⟨4, .data⟩, by simp, rfl, rfl⟩, ⟨⟨1, .data⟩, by simp, rfl, rfl⟩, ?_⟩
      intro vs wx M K q hF hq hz hK
      obtain ⟨p0, p1, pa, pl, pc, e1, _⟩ := (show IsM _ _ _ _ _ from hF)
      obtain ⟨vs, rfl⟩ := put_of (show vs 1 = _ from e1)
      obtain ⟨vs, rfl⟩ := put_of (show vs 4 = _ from hq)
      obtain ⟨y0, y1, y2⟩ := blk3 hz
      obtain ⟨z0, z1, z2⟩ := frz3 hz
      have HZ := hide hz
      clear hF hq hz hx h e1
      go_simp
      exact hK _ _ (fr_put3 _ _ _ _ _) (put3_blk HZ.out _ _ _) rfl
    · obtain rfl : x = (5, 3, 7) := (by revert h; revert x; decide)
      refine ⟨⟨⟨5, .data⟩, by simp, rfl, rfl⟩, ⟨⟨3, .data⟩, by simp, rfl, rfl⟩, ?_⟩
      intro vs wx M K q hF hq hz hK
      obtain ⟨p0, p1, pa, pl, pc, e1, _⟩ := (show IsM _ _ _ _ _ from hF)
      obtain ⟨vs, rfl⟩ := put_of (show vs 3 = _ from e1)
      obtain ⟨vs, rfl⟩ := put_of (show vs 5 = _ from hq)
      obtain ⟨y0, y1, y2⟩ := blk3 hz
      obtain ⟨z0, z1, z2⟩ := frz3 hz
      have HZ := hide hz
      clear hF hq hz hx h e1
      go_simp
      exact hK _ _ (fr_put3 _ _ _ _ _) (put3_blk HZ.out _ _ _) rfl
  · intro vs wx M hb hF hB
    obtain ⟨q0, cs0, b0, l0, m0, h0, g0⟩ := hB (4, 1, 6) (by simp) (by decide) (by decide)
    obtain ⟨t00, t01, t0a, t0l, t0c, rfl, tm0⟩ := (show IsM _ _ _ _ _ from hF 1 (by decide) (by unfold Plainly; decide)).box g0
    obtain ⟨vs, rfl⟩ := put_of (show vs 4 = _ from b0)
    obtain ⟨q1, cs1, b1, l1, m1, h1, g1⟩ := hB (5, 3, 7) (by simp) (by decide) (by decide)
    obtain ⟨t10, t11, t1a, t1l, t1c, rfl, tm1⟩ := (show IsM _ _ _ _ _ from hF 3 (by decide) (by unfold Plainly; decide)).box g1
    obtain ⟨vs, rfl⟩ := put_of (show vs 5 = _ from b1)
    have HBX := hide hb; have HKT := hide h0; have HTT := hide tm0; have HKU := hide h1; have HTU := hide tm1
    clear hb hF hB h0 tm0 g0 h1 tm1 g1
    have HBW : Hid (Below w.heap.size w wx) := HB3.out.trans (HBX.out.mono HB3.out.size)
    have G0 := hide (Gd.mk' (d := 6) (vars := 4) HR0.out (by decide) (by decide) (by decide))
    obtain ⟨T, hT⟩ : ∃ T, T = mkT 6 4 r0 := ⟨_, rfl⟩
    have HET := hide hT
    rw [← hT] at G0 HTT
    clear hT
    have G1 := hide (Gd.mk' (d := 4) (vars := 4) HR1.out (by decide) (by decide) (by decide))
    obtain ⟨U, hU⟩ : ∃ U, U = mkT 4 4 r1 := ⟨_, rfl⟩
    have HEU := hide hU
    rw [← hU] at G1 HTU
    clear hU
    clear HK0_3 HR0T HK1_3 HR1T HBX HA
    simp only [put, Nat.reduceEqDiff, reduceIte, ptr]
    clear b0 b1
    generalize vs 0 = s0; generalize vs 1 = s1; generalize vs 2 = s2; generalize vs 3 = s3
    clear vs
    go_wp2_with fail
    refine (lwithin_n a 5 _ (by decide) (by decide)).mono ?_
    rintro e w9 ⟨rfl, h9⟩
    rw [h9]
    clear h9 w9
    have ha := wi_n a 5 (by decide)
    generalize wi a 5 = ax at *
    go_wp2_with fail
    refine (lwithin_n b 5 _ (by decide) (by decide)).mono ?_
    rintro e w9 ⟨rfl, h9⟩
    rw [h9]
    clear h9 w9
    have hb := wi_n b 5 (by decide)
    generalize wi b 5 = bx at *
    go_wp2_with fail
    refine (lwithin_n fr 6 _ (by decide) (by decide)).mono ?_
    rintro e w9 ⟨rfl, h9⟩
    rw [h9]
    clear h9 w9
    have hf := wi_n fr 6 (by decide)
    generalize wi fr 6 = fx at *
    go_wp2_with fail
    obtain ⟨ha0, ha1⟩ := ha
    obtain ⟨hb0, hb1⟩ := hb
    obtain ⟨hf0, hf1⟩ := hf
    have hwab : IntKind.i64.wrap (ax + bx) = ax + bx := by rw [IntKind.wrap_i64]; omega
    have GT := hide G0.out.1; have GU := hide G1.out.1
    have ST : Hid (Snd 3000 T) := hide G0.out.2.1.snd
    have GSA : Hid (Gd 7 (shf (ax) (fx) 0 (T))) := hide (GT.out.shf (ST.out.more (by decide)) (by omega) 0)
    have GS1 : Hid (Gd 7 (shf (1) (fx) 0 (T))) := hide (GT.out.shf (ST.out.more (by decide)) (by omega) 0)
    have E1 : Hid (shf (0) (fx) 0 (T) = T) := hide (shf_zero fx 0 T)
    have E2 : Hid (shf (bx) (fx) 0 (shf (ax) (fx) 0 (T)) = shf (ax + bx) (fx) 0 (T)) := hide (shf_shf ax bx fx fx 0 T ha0 (by omega) (by omega))
    have E3 : Hid (sub (fx) (U) 0 (shf (1) (fx) 0 (T)) = T) := hide (sub_shf fx U 0 T ST.out)
    have E4 : Hid (fre fx 0 (shf (1) (fx) 0 (T)) = false) := hide (fre_shf fx 0 T)
    have Z1 : Hid ((shf (1) (fx) 0 (T)).size + U.size * cnt (fun x => decide (x = fx)) 0 (shf (1) (fx) 0 (T)) ≤ 8388608) := hide (fit_le (by rw [shf_size]; exact G0.out.2.2) G1.out.2.2 (by decide))
    have HTB' : Hid (Tb wx) := hide (HTB.out.later HBW.out)
    refine wp_region_vals (by kernel_rfl) (by kernel_rfl) (fun vs => { tmps := #[Value.agg #[Value.int IntKind.i64 r0.op, Value.int IntKind.i64 r0.n, Value.slice a0 r0.kids.length z0], Value.agg #[Value.int IntKind.i64 r1.op, Value.int IntKind.i64 r1.n, Value.slice a1 r1.kids.length z1], Value.int IntKind.i64 ax, Value.int IntKind.i64 bx, Value.int IntKind.i64 fx, Value.pointer (some { block := w.heap.size, off := 0 }), Value.pointer (some { block := w.heap.size + 1, off := 0 }), undef, undef, undef, vs 39, Value.pointer (some { block := q0, off := 0 }), Value.pointer (some { block := q1, off := 0 }), Value.bool true, Value.bool false, Value.agg #[Value.int IntKind.i64 r0.op, Value.int IntKind.i64 r0.n, Value.slice a0 r0.kids.length z0], Value.bool true, Value.bool false, Value.bool false, Value.agg #[Value.int IntKind.i64 r1.op, Value.int IntKind.i64 r1.n, Value.slice a1 r1.kids.length z1], Value.bool true, Value.bool false, Value.bool false, s0, s1, s2, s3, Value.int IntKind.i64 a, Value.int IntKind.i64 ax, Value.int IntKind.i64 b, Value.int IntKind.i64 bx, Value.int IntKind.i64 fr, Value.int IntKind.i64 fx, vs 0, vs 1, vs 2, vs 3, vs 4, vs 5, vs 6, vs 7, vs 8, vs 9, vs 10, vs 11, vs 12, vs 13, vs 14, vs 15, vs 16, vs 17, vs 18, vs 19, vs 20, vs 21, vs 22, vs 23, vs 24, vs 25, vs 26, vs 27, vs 28, vs 29, vs 30, vs 31, vs 32, vs 33, vs 34, vs 35, vs 36, vs 37, vs 38], defers := [] }) (fun i => [undef, undef, undef, undef, undef, undef, undef, undef, undef, undef, undef, undef, undef, undef, undef, undef, undef, undef, undef, undef, undef, undef, undef, undef, undef, undef, undef, undef, undef, undef, undef, undef, undef, undef, undef, undef, undef, undef, undef, Value.bool false].getD i undef) (shifts_F T U ax bx fx) (shifts_F.keep T U ax bx fx) ?_ ?_
    · refine ⟨?_, ?_, ?_, ?_, ?_, ?_, ?_, ?_, ?_, ?_, ?_, ?_, ?_, ?_, ?_, ?_, ?_, ?_, ?_, ?_, ?_, ?_, ?_, ?_, ?_, ?_, ?_, ?_, ?_, ?_, ?_, ?_, ?_, ?_, ?_, ?_, ?_, ?_, ?_, ?_, trivial⟩
      · intro vs wx K hb hd hK
        obtain ⟨c0, c1, c2⟩ := cells3' hb HKT.out
        have HBX := hide hb
        clear hb hd
        go_simp
        exact hK _ _ (Below.refl _ _) ⟨_, _, _, _, _, rfl, TmAt.below HTT.out HBX.out (Nat.le_refl _) HBX.out.size⟩
      · intro vs wx K hb hd hK
        have HBX := hide hb
        clear hb hd
        go_simp
        exact hK _ _ (Below.refl _ _) rfl
      · intro vs wx K hb hd hK
        have tm0 := hd ⟨0, .data⟩ (by simp) rfl
        have HX0 := hide tm0
        obtain ⟨p0_0, p1_0, pa_0, pl_0, pc_0, e0, _⟩ := tm0
        rw [e0] at HX0
        obtain ⟨vs, rfl⟩ := put_of (show vs 0 = _ from e0)
        obtain ⟨vs, rfl⟩ := put_of (show vs 1 = _ from hd ⟨1, .data⟩ (by simp) rfl)
        clear e0
        have HBX := hide hb
        clear hb hd
        go_simp
        refine (c_shift HX0.out GT.out (HTB'.out.later HBX.out) (by omega) (by omega)).mono ?_
        rintro e w7 ⟨u, rfl, hu, hb7⟩
        exact hK _ _ hb7 hu
      · intro vs wx K hb hd hK
        obtain ⟨c0, c1, c2⟩ := cells3' hb HKT.out
        have HBX := hide hb
        clear hb hd
        go_simp
        exact hK _ _ (Below.refl _ _) ⟨_, _, _, _, _, rfl, TmAt.below HTT.out HBX.out (Nat.le_refl _) HBX.out.size⟩
      · intro vs wx K hb hd hK
        have tm2 := hd ⟨2, .data⟩ (by simp) rfl
        have HX2 := hide tm2
        obtain ⟨p0_2, p1_2, pa_2, pl_2, pc_2, e2, _⟩ := tm2
        rw [e2] at HX2
        have tm3 := hd ⟨3, .data⟩ (by simp) rfl
        have HX3 := hide tm3
        obtain ⟨p0_3, p1_3, pa_3, pl_3, pc_3, e3, _⟩ := tm3
        rw [e3] at HX3
        obtain ⟨vs, rfl⟩ := put_of (show vs 2 = _ from e2)
        obtain ⟨vs, rfl⟩ := put_of (show vs 3 = _ from e3)
        clear e2 e3
        have HBX := hide hb
        clear hb hd
        go_simp
        refine (c_same HX2.out HX3.out).mono ?_
        rintro e w7 ⟨r, rfl, hr, hb7⟩
        obtain rfl := hr.2 E1.out
        exact hK _ _ hb7 rfl
      · intro vs wx K hb hd hK
        obtain ⟨vs, rfl⟩ := put_of (show vs 4 = _ from hd ⟨4, .data⟩ (by simp) rfl)
        have HBX := hide hb
        clear hb hd
        go_simp
        exact hK _ _ (Below.refl _ _) rfl
      · intro vs wx K hb hd hK
        obtain ⟨vs, rfl⟩ := put_of (show vs 5 = _ from hd ⟨5, .guard⟩ (by simp) rfl)
        obtain ⟨c0, c1, c2⟩ := cells3' hb HKT.out
        have HBX := hide hb
        clear hb hd
        go_simp
        exact hK _ _ (Below.refl _ _) ⟨_, _, _, _, _, rfl, TmAt.below HTT.out HBX.out (Nat.le_refl _) HBX.out.size⟩
      · intro vs wx K hb hd hK
        obtain ⟨vs, rfl⟩ := put_of (show vs 5 = _ from hd ⟨5, .guard⟩ (by simp) rfl)
        have HBX := hide hb
        clear hb hd
        go_simp
        exact hK _ _ (Below.refl _ _) rfl
      · intro vs wx K hb hd hK
        obtain ⟨vs, rfl⟩ := put_of (show vs 5 = _ from hd ⟨5, .guard⟩ (by simp) rfl)
        have HBX := hide hb
        clear hb hd
        go_simp
        exact hK _ _ (Below.refl _ _) rfl
      · intro vs wx K hb hd hK
        have tm6 := hd ⟨6, .data⟩ (by simp) rfl
        have HX6 := hide tm6
        obtain ⟨p0_6, p1_6, pa_6, pl_6, pc_6, e6, _⟩ := tm6
        rw [e6] at HX6
        obtain ⟨vs, rfl⟩ := put_of (show vs 6 = _ from e6)
        obtain ⟨vs, rfl⟩ := put_of (show vs 7 = _ from hd ⟨7, .data⟩ (by simp) rfl)
        obtain ⟨vs, rfl⟩ := put_of (show vs 8 = _ from hd ⟨8, .data⟩ (by simp) rfl)
        obtain ⟨vs, rfl⟩ := put_of (show vs 5 = _ from hd ⟨5, .guard⟩ (by simp) rfl)
        clear e6
        have HBX := hide hb
        clear hb hd
        go_simp
        refine (c_shift HX6.out GT.out (HTB'.out.later HBX.out) (by omega) (by omega)).mono ?_
        rintro e w7 ⟨u, rfl, hu, hb7⟩
        exact hK _ _ hb7 hu
      · intro vs wx K hb hd hK
        obtain ⟨vs, rfl⟩ := put_of (show vs 5 = _ from hd ⟨5, .guard⟩ (by simp) rfl)
        have HBX := hide hb
        clear hb hd
        go_simp
        exact hK _ _ (Below.refl _ _) rfl
      · intro vs wx K hb hd hK
        obtain ⟨vs, rfl⟩ := put_of (show vs 5 = _ from hd ⟨5, .guard⟩ (by simp) rfl)
        have HBX := hide hb
        clear hb hd
        go_simp
        exact hK _ _ (Below.refl _ _) rfl
      · intro vs wx K hb hd hK
        have tm9 := hd ⟨9, .data⟩ (by simp) rfl
        have HX9 := hide tm9
        obtain ⟨p0_9, p1_9, pa_9, pl_9, pc_9, e9, _⟩ := tm9
        rw [e9] at HX9
        obtain ⟨vs, rfl⟩ := put_of (show vs 9 = _ from e9)
        obtain ⟨vs, rfl⟩ := put_of (show vs 10 = _ from hd ⟨10, .data⟩ (by simp) rfl)
        obtain ⟨vs, rfl⟩ := put_of (show vs 11 = _ from hd ⟨11, .data⟩ (by simp) rfl)
        obtain ⟨vs, rfl⟩ := put_of (show vs 5 = _ from hd ⟨5, .guard⟩ (by simp) rfl)
        clear e9
        have HBX := hide hb
        clear hb hd
        go_simp
        refine (c_shift HX9.out GSA.out (HTB'.out.later HBX.out) (by omega) (by omega)).mono ?_
        rintro e w7 ⟨u, rfl, hu, hb7⟩
        exact hK _ _ hb7 hu
      · intro vs wx K hb hd hK
        obtain ⟨vs, rfl⟩ := put_of (show vs 5 = _ from hd ⟨5, .guard⟩ (by simp) rfl)
        obtain ⟨c0, c1, c2⟩ := cells3' hb HKT.out
        have HBX := hide hb
        clear hb hd
        go_simp
        exact hK _ _ (Below.refl _ _) ⟨_, _, _, _, _, rfl, TmAt.below HTT.out HBX.out (Nat.le_refl _) HBX.out.size⟩
      · intro vs wx K hb hd hK
        obtain ⟨vs, rfl⟩ := put_of (show vs 5 = _ from hd ⟨5, .guard⟩ (by simp) rfl)
        have HBX := hide hb
        clear hb hd
        go_simp
        exact hK _ _ (Below.refl _ _) rfl
      · intro vs wx K hb hd hK
        obtain ⟨vs, rfl⟩ := put_of (show vs 5 = _ from hd ⟨5, .guard⟩ (by simp) rfl)
        have HBX := hide hb
        clear hb hd
        go_simp
        exact hK _ _ (Below.refl _ _) rfl
      · intro vs wx K hb hd hK
        obtain ⟨vs, rfl⟩ := put_of (show vs 14 = _ from hd ⟨14, .data⟩ (by simp) rfl)
        obtain ⟨vs, rfl⟩ := put_of (show vs 15 = _ from hd ⟨15, .data⟩ (by simp) rfl)
        obtain ⟨vs, rfl⟩ := put_of (show vs 5 = _ from hd ⟨5, .guard⟩ (by simp) rfl)
        have HBX := hide hb
        clear hb hd
        go_simp
        exact hK _ _ (Below.refl _ _) rfl
      · intro vs wx K hb hd hK
        obtain ⟨vs, rfl⟩ := put_of (show vs 5 = _ from hd ⟨5, .guard⟩ (by simp) rfl)
        have HBX := hide hb
        clear hb hd
        go_simp
        exact hK _ _ (Below.refl _ _) rfl
      · intro vs wx K hb hd hK
        have tm13 := hd ⟨13, .data⟩ (by simp) rfl
        have HX13 := hide tm13
        obtain ⟨p0_13, p1_13, pa_13, pl_13, pc_13, e13, _⟩ := tm13
        rw [e13] at HX13
        obtain ⟨vs, rfl⟩ := put_of (show vs 13 = _ from e13)
        obtain ⟨vs, rfl⟩ := put_of (show vs 16 = _ from hd ⟨16, .data⟩ (by simp) rfl)
        obtain ⟨vs, rfl⟩ := put_of (show vs 17 = _ from hd ⟨17, .data⟩ (by simp) rfl)
        obtain ⟨vs, rfl⟩ := put_of (show vs 5 = _ from hd ⟨5, .guard⟩ (by simp) rfl)
        clear e13
        have HBX := hide hb
        clear hb hd
        go_simp
        refine (c_shift HX13.out GT.out (HTB'.out.later HBX.out) (by omega) (by omega)).mono ?_
        rintro e w7 ⟨u, rfl, hu, hb7⟩
        exact hK _ _ hb7 hu
      · intro vs wx K hb hd hK
        have tm12 := hd ⟨12, .data⟩ (by simp) rfl
        have HX12 := hide tm12
        obtain ⟨p0_12, p1_12, pa_12, pl_12, pc_12, e12, _⟩ := tm12
        rw [e12] at HX12
        have tm18 := hd ⟨18, .data⟩ (by simp) rfl
        have HX18 := hide tm18
        obtain ⟨p0_18, p1_18, pa_18, pl_18, pc_18, e18, _⟩ := tm18
        rw [e18] at HX18
        obtain ⟨vs, rfl⟩ := put_of (show vs 12 = _ from e12)
        obtain ⟨vs, rfl⟩ := put_of (show vs 18 = _ from e18)
        obtain ⟨vs, rfl⟩ := put_of (show vs 5 = _ from hd ⟨5, .guard⟩ (by simp) rfl)
        clear e12 e18
        have HBX := hide hb
        clear hb hd
        go_simp
        refine (c_same HX12.out HX18.out).mono ?_
        rintro e w7 ⟨r, rfl, hr, hb7⟩
        obtain rfl := hr.2 E2.out
        exact hK _ _ hb7 rfl
      · intro vs wx K hb hd hK
        obtain ⟨vs, rfl⟩ := put_of (show vs 5 = _ from hd ⟨5, .data⟩ (by simp) rfl)
        obtain ⟨vs, rfl⟩ := put_of (show vs 19 = _ from hd ⟨19, .data⟩ (by simp) rfl)
        have HBX := hide hb
        clear hb hd
        go_simp
        exact hK _ _ (Below.refl _ _) rfl
      · intro vs wx K hb hd hK
        obtain ⟨vs, rfl⟩ := put_of (show vs 20 = _ from hd ⟨20, .data⟩ (by simp) rfl)
        have HBX := hide hb
        clear hb hd
        go_simp
        exact hK _ _ (Below.refl _ _) rfl
      · intro vs wx K hb hd hK
        obtain ⟨vs, rfl⟩ := put_of (show vs 21 = _ from hd ⟨21, .guard⟩ (by simp) rfl)
        obtain ⟨c0, c1, c2⟩ := cells3' hb HKT.out
        have HBX := hide hb
        clear hb hd
        go_simp
        exact hK _ _ (Below.refl _ _) ⟨_, _, _, _, _, rfl, TmAt.below HTT.out HBX.out (Nat.le_refl _) HBX.out.size⟩
      · intro vs wx K hb hd hK
        obtain ⟨vs, rfl⟩ := put_of (show vs 21 = _ from hd ⟨21, .guard⟩ (by simp) rfl)
        have HBX := hide hb
        clear hb hd
        go_simp
        exact hK _ _ (Below.refl _ _) rfl
      · intro vs wx K hb hd hK
        have tm22 := hd ⟨22, .data⟩ (by simp) rfl
        have HX22 := hide tm22
        obtain ⟨p0_22, p1_22, pa_22, pl_22, pc_22, e22, _⟩ := tm22
        rw [e22] at HX22
        obtain ⟨vs, rfl⟩ := put_of (show vs 22 = _ from e22)
        obtain ⟨vs, rfl⟩ := put_of (show vs 23 = _ from hd ⟨23, .data⟩ (by simp) rfl)
        obtain ⟨vs, rfl⟩ := put_of (show vs 21 = _ from hd ⟨21, .guard⟩ (by simp) rfl)
        clear e22
        have HBX := hide hb
        clear hb hd
        go_simp
        refine (c_shift HX22.out GT.out (HTB'.out.later HBX.out) (by omega) (by omega)).mono ?_
        rintro e w7 ⟨u, rfl, hu, hb7⟩
        exact hK _ _ hb7 hu
      · intro vs wx K hb hd hK
        obtain ⟨vs, rfl⟩ := put_of (show vs 21 = _ from hd ⟨21, .guard⟩ (by simp) rfl)
        have HBX := hide hb
        clear hb hd
        go_simp
        exact hK _ _ (Below.refl _ _) rfl
      · intro vs wx K hb hd hK
        obtain ⟨vs, rfl⟩ := put_of (show vs 21 = _ from hd ⟨21, .guard⟩ (by simp) rfl)
        obtain ⟨c0, c1, c2⟩ := cells3' hb HKU.out
        have HBX := hide hb
        clear hb hd
        go_simp
        exact hK _ _ (Below.refl _ _) ⟨_, _, _, _, _, rfl, TmAt.below HTU.out HBX.out (Nat.le_refl _) HBX.out.size⟩
      · intro vs wx K hb hd hK
        have tm24 := hd ⟨24, .data⟩ (by simp) rfl
        have HX24 := hide tm24
        obtain ⟨p0_24, p1_24, pa_24, pl_24, pc_24, e24, _⟩ := tm24
        rw [e24] at HX24
        have tm26 := hd ⟨26, .data⟩ (by simp) rfl
        have HX26 := hide tm26
        obtain ⟨p0_26, p1_26, pa_26, pl_26, pc_26, e26, _⟩ := tm26
        rw [e26] at HX26
        obtain ⟨vs, rfl⟩ := put_of (show vs 24 = _ from e24)
        obtain ⟨vs, rfl⟩ := put_of (show vs 25 = _ from hd ⟨25, .data⟩ (by simp) rfl)
        obtain ⟨vs, rfl⟩ := put_of (show vs 26 = _ from e26)
        obtain ⟨vs, rfl⟩ := put_of (show vs 21 = _ from hd ⟨21, .guard⟩ (by simp) rfl)
        clear e24 e26
        have HBX := hide hb
        clear hb hd
        go_simp
        refine (c_subst HX24.out HX26.out GS1.out GU.out (HTB'.out.later HBX.out) Z1.out (by omega)).mono ?_
        rintro e w7 ⟨u, rfl, hu, hb7⟩
        exact hK _ _ hb7 hu
      · intro vs wx K hb hd hK
        obtain ⟨vs, rfl⟩ := put_of (show vs 21 = _ from hd ⟨21, .guard⟩ (by simp) rfl)
        obtain ⟨c0, c1, c2⟩ := cells3' hb HKT.out
        have HBX := hide hb
        clear hb hd
        go_simp
        exact hK _ _ (Below.refl _ _) ⟨_, _, _, _, _, rfl, TmAt.below HTT.out HBX.out (Nat.le_refl _) HBX.out.size⟩
      · intro vs wx K hb hd hK
        have tm27 := hd ⟨27, .data⟩ (by simp) rfl
        have HX27 := hide tm27
        obtain ⟨p0_27, p1_27, pa_27, pl_27, pc_27, e27, _⟩ := tm27
        rw [e27] at HX27
        have tm28 := hd ⟨28, .data⟩ (by simp) rfl
        have HX28 := hide tm28
        obtain ⟨p0_28, p1_28, pa_28, pl_28, pc_28, e28, _⟩ := tm28
        rw [e28] at HX28
        obtain ⟨vs, rfl⟩ := put_of (show vs 27 = _ from e27)
        obtain ⟨vs, rfl⟩ := put_of (show vs 28 = _ from e28)
        obtain ⟨vs, rfl⟩ := put_of (show vs 21 = _ from hd ⟨21, .guard⟩ (by simp) rfl)
        clear e27 e28
        have HBX := hide hb
        clear hb hd
        go_simp
        refine (c_same HX27.out HX28.out).mono ?_
        rintro e w7 ⟨r, rfl, hr, hb7⟩
        obtain rfl := hr.2 E3.out
        exact hK _ _ hb7 rfl
      · intro vs wx K hb hd hK
        obtain ⟨vs, rfl⟩ := put_of (show vs 21 = _ from hd ⟨21, .data⟩ (by simp) rfl)
        obtain ⟨vs, rfl⟩ := put_of (show vs 29 = _ from hd ⟨29, .data⟩ (by simp) rfl)
        have HBX := hide hb
        clear hb hd
        go_simp
        exact hK _ _ (Below.refl _ _) rfl
      · intro vs wx K hb hd hK
        obtain ⟨vs, rfl⟩ := put_of (show vs 30 = _ from hd ⟨30, .data⟩ (by simp) rfl)
        have HBX := hide hb
        clear hb hd
        go_simp
        exact hK _ _ (Below.refl _ _) rfl
      · intro vs wx K hb hd hK
        obtain ⟨vs, rfl⟩ := put_of (show vs 31 = _ from hd ⟨31, .guard⟩ (by simp) rfl)
        obtain ⟨c0, c1, c2⟩ := cells3' hb HKT.out
        have HBX := hide hb
        clear hb hd
        go_simp
        exact hK _ _ (Below.refl _ _) ⟨_, _, _, _, _, rfl, TmAt.below HTT.out HBX.out (Nat.le_refl _) HBX.out.size⟩
      · intro vs wx K hb hd hK
        obtain ⟨vs, rfl⟩ := put_of (show vs 31 = _ from hd ⟨31, .guard⟩ (by simp) rfl)
        have HBX := hide hb
        clear hb hd
        go_simp
        exact hK _ _ (Below.refl _ _) rfl
      · intro vs wx K hb hd hK
        have tm32 := hd ⟨32, .data⟩ (by simp) rfl
        have HX32 := hide tm32
        obtain ⟨p0_32, p1_32, pa_32, pl_32, pc_32, e32, _⟩ := tm32
        rw [e32] at HX32
        obtain ⟨vs, rfl⟩ := put_of (show vs 32 = _ from e32)
        obtain ⟨vs, rfl⟩ := put_of (show vs 33 = _ from hd ⟨33, .data⟩ (by simp) rfl)
        obtain ⟨vs, rfl⟩ := put_of (show vs 31 = _ from hd ⟨31, .guard⟩ (by simp) rfl)
        clear e32
        have HBX := hide hb
        clear hb hd
        go_simp
        refine (c_shift HX32.out GT.out (HTB'.out.later HBX.out) (by omega) (by omega)).mono ?_
        rintro e w7 ⟨u, rfl, hu, hb7⟩
        exact hK _ _ hb7 hu
      · intro vs wx K hb hd hK
        obtain ⟨vs, rfl⟩ := put_of (show vs 31 = _ from hd ⟨31, .guard⟩ (by simp) rfl)
        have HBX := hide hb
        clear hb hd
        go_simp
        exact hK _ _ (Below.refl _ _) rfl
      · intro vs wx K hb hd hK
        have tm34 := hd ⟨34, .data⟩ (by simp) rfl
        have HX34 := hide tm34
        obtain ⟨p0_34, p1_34, pa_34, pl_34, pc_34, e34, _⟩ := tm34
        rw [e34] at HX34
        obtain ⟨vs, rfl⟩ := put_of (show vs 34 = _ from e34)
        obtain ⟨vs, rfl⟩ := put_of (show vs 35 = _ from hd ⟨35, .data⟩ (by simp) rfl)
        obtain ⟨vs, rfl⟩ := put_of (show vs 31 = _ from hd ⟨31, .guard⟩ (by simp) rfl)
        clear e34
        have HBX := hide hb
        clear hb hd
        go_simp
        refine (c_free HX34.out GS1.out (HTB'.out.later HBX.out) (by omega)).mono ?_
        rintro e w7 ⟨rfl, hb7⟩
        rw [E4.out]
        exact hK _ _ hb7 rfl
      · intro vs wx K hb hd hK
        obtain ⟨vs, rfl⟩ := put_of (show vs 36 = _ from hd ⟨36, .data⟩ (by simp) rfl)
        obtain ⟨vs, rfl⟩ := put_of (show vs 31 = _ from hd ⟨31, .guard⟩ (by simp) rfl)
        have HBX := hide hb
        clear hb hd
        go_simp
        exact hK _ _ (Below.refl _ _) rfl
      · intro vs wx K hb hd hK
        obtain ⟨vs, rfl⟩ := put_of (show vs 31 = _ from hd ⟨31, .data⟩ (by simp) rfl)
        obtain ⟨vs, rfl⟩ := put_of (show vs 37 = _ from hd ⟨37, .data⟩ (by simp) rfl)
        have HBX := hide hb
        clear hb hd
        go_simp
        exact hK _ _ (Below.refl _ _) rfl
      · intro vs wx K hb hd hK
        obtain ⟨vs, rfl⟩ := put_of (show vs 38 = _ from hd ⟨38, .data⟩ (by simp) rfl)
        have HBX := hide hb
        clear hb hd
        go_simp
        exact hK _ _ (Below.refl _ _) rfl
    · intro vs wx hb hF
      obtain ⟨vs, rfl⟩ := put_of (show vs 39 = _ from hF 39 (by decide))
      have HBX := hide hb
      clear hb hF
      simp only [put, Nat.reduceEqDiff, reduceIte]
      go_wp2_with fail
      go_ret
      exact ⟨rfl, HBW.out.trans (HBX.out.mono HBW.out.size)⟩
#print axioms shifts_any
end Go.Proofs.YtpmaagafcpaajaaDoor
