/- The walk of TermMoves. -/
import Derived.Test.YtpmaagafcpaajaaDoorLc
import Derived.Test.YtpmaagafcpaajaaDoorLe
namespace Go.Proofs.YtpmaagafcpaajaaDoor
open Go.RowKit
attribute [local go_sem] put

def moves_anyM (x0 : Value) (x1 : Value) (T U : Tr) : Nat → Value → World → (Nat → Prop) → Prop
  | 0 => fun v _ _ => v = x0
  | 1 => fun v w M => IsM 7 T v w M
  | 2 => fun v _ _ => v = x1
  | 3 => fun v w M => IsM 5 U v w M
  | _ => fun _ _ _ => True
theorem moves_anyM.keep (x0 : Value) (x1 : Value) (T U : Tr) (k : Nat) (v : Value) (w w' : World) (M M' : Nat → Prop) (h : moves_anyM x0 x1 T U k v w M) (hf : Fr M w w') (hM : ∀ q, q < w.heap.size → (M' q ↔ M q)) : moves_anyM x0 x1 T U k v w' M' := by
  unfold moves_anyM at *
  split at h <;> first | exact h | exact IsM.keep h hf hM
def moves_F (T U r0 : Tr) (f : Nat) (nx bx : Int) (fb bb sb : Bool) (xs : List UInt8) (zz : Nat) : Nat → Value → World → Prop
  | 0 => fun v w => IsT (7) (T) v w
  | 1 => fun v _ => v = .int .i64 ((zz : Nat))
  | 2 => fun v w => IsT (7) (T) v w
  | 3 => fun v _ => v = .int .i64 ((zz : Nat))
  | 4 => fun v _ => v = .bool (true)
  | 5 => fun v _ => v = .bool (true)
  | 6 => fun v w => IsT (7) (T) v w
  | 7 => fun v _ => v = .int .i64 (nx)
  | 8 => fun v _ => v = .bool (fb)
  | 9 => fun v w => IsT (7) (T) v w
  | 10 => fun v _ => v = .int .i64 (nx)
  | 11 => fun v _ => v = .bool (fb)
  | 12 => fun v _ => v = .bool (true)
  | 13 => fun v _ => v = .bool (true)
  | 14 => fun v _ => v = .bool (true)
  | 15 => fun v w => IsT (7) (T) v w
  | 16 => fun v _ => v = .int .i64 (nx)
  | 17 => fun v _ => v = .bool (bb)
  | 18 => fun v w => IsT (7) (T) v w
  | 19 => fun v _ => v = .int .i64 (nx)
  | 20 => fun v _ => v = .bool (bb)
  | 21 => fun v _ => v = .bool (true)
  | 22 => fun v _ => v = .bool (true)
  | 23 => fun v _ => v = .bool (true)
  | 24 => fun v w => IsT (7) (T) v w
  | 25 => fun v _ => v = .int .i64 (bx)
  | 26 => fun v _ => v = .int .i64 (nx)
  | 27 => fun v w => IsT (7) (shf (bx) (nx) 0 (T)) v w
  | 28 => fun v w => IsT (7) (T) v w
  | 29 => fun v _ => v = .int .i64 (bx)
  | 30 => fun v _ => v = .int .i64 (nx)
  | 31 => fun v w => IsT (7) (shf (bx) (nx) 0 (T)) v w
  | 32 => fun v _ => v = .bool (true)
  | 33 => fun v _ => v = .bool (true)
  | 34 => fun v _ => v = .bool (true)
  | 35 => fun v w => IsT (7) (T) v w
  | 36 => fun v _ => v = .int .i64 (nx)
  | 37 => fun v w => IsT (5) (U) v w
  | 38 => fun v w => IsT (7 + 5) (sub (nx) (U) 0 (T)) v w
  | 39 => fun v w => IsT (7) (T) v w
  | 40 => fun v _ => v = .int .i64 (nx)
  | 41 => fun v w => IsT (5) (U) v w
  | 42 => fun v w => IsT (7 + 5) (sub (nx) (U) 0 (T)) v w
  | 43 => fun v _ => v = .bool (true)
  | 44 => fun v _ => v = .bool (true)
  | 45 => fun v _ => v = .bool (true)
  | 46 => fun v w => IsT (7) (T) v w
  | 47 => fun v _ => v = .string (⟨⟨xs⟩⟩)
  | 48 => fun v w => IsT (7) (T) v w
  | 49 => fun v _ => v = .string (⟨⟨xs⟩⟩)
  | 50 => fun v _ => v = .bool (true)
  | 51 => fun v _ => v = .bool (true)
  | 52 => fun v _ => v = .bool (true)
  | 53 => fun v w => IsT (7) (T) v w
  | 54 => fun v w => IsT (5) (U) v w
  | 55 => fun v _ => v = .bool (sb)
  | 56 => fun v w => IsT (7) (T) v w
  | 57 => fun v w => IsT (5) (U) v w
  | 58 => fun v _ => v = .bool (sb)
  | 59 => fun v _ => v = .bool (true)
  | 60 => fun v _ => v = .bool (true)
  | 61 => fun v _ => v = .bool (true)
  | 62 => fun v w => IsT (7) (T) v w
  | 63 => fun v w => IsT (f) (r0) v w
  | 64 => fun v w => IsT (7) (T) v w
  | 65 => fun v _ => v = .bool (true)
  | 66 => fun v _ => v = .bool (true)
  | 67 => fun v _ => v = .bool (true)
  | _ => fun _ _ => True
theorem moves_F.keep (T U r0 : Tr) (f : Nat) (nx bx : Int) (fb bb sb : Bool) (xs : List UInt8) (zz : Nat) (i : Nat) (v : Value) (w w' : World) (h : moves_F T U r0 f nx bx fb bb sb xs zz i v w) (hb : Below w.heap.size w w') : moves_F T U r0 f nx bx fb bb sb xs zz i v w' := by
  unfold moves_F at *
  split at h <;> first | exact h | exact IsT.keep h hb
set_option maxRecDepth 20000 in
set_option maxHeartbeats 4000000 in
theorem moves_any (B f : Nat) (r0 : Tr) (v0 : Value) (r1 : Tr) (v1 : Value) (n b : Int) (w : World) (h0 : TmAt w B f r0 v0) (h1 : TmAt w B f r1 v1) (hB : B ≤ w.heap.size) (ht : Tabs w.heap.size w) (hl : Tl w) (hb : Tb w) :
    Calls Tryd.prog 4 #[v0, v1, .int .i64 n, .int .i64 b] w fun e w' => e = .returned (.bool true) ∧ Below w.heap.size w w' := by
  have HR0 := hide (raw64_of h0)
  have H0 := hide h0
  obtain ⟨a0, z0, rfl, _, _, o0, n0⟩ := h0.shape
  clear h0
  have HR1 := hide (raw64_of h1)
  have H1 := hide h1
  obtain ⟨a1, z1, rfl, _, _, o1, n1⟩ := h1.shape
  clear h1
  have HT := hide ht; have HL := hide hl; have HTB := hide hb
  clear ht hl hb
  have HA : Hid (Below w.heap.size w ((w.alloc (.cells #[.int .i64 r0.op, .int .i64 r0.n, .slice a0 r0.kids.length z0] 24)).alloc (.cells #[.int .i64 r1.op, .int .i64 r1.n, .slice a1 r1.kids.length z1] 24))) := (((Below.refl w.heap.size w).alloc (Nat.le_refl _) _).alloc (by simp) _)
  go_enter Tryd.func4, Tryd.ntmps4
  go_wp2_with fail
  refine (known_any _ (HT.out.later HA.out) (HL.out.later HA.out)).mono ?_
  rintro e w1 ⟨rfl, hb1⟩
  obtain ⟨k0, k1, hbl, hs1⟩ := box_two hb1
  have HB1 := hide hbl; have HK0_1 := hide k0; have HK1_1 := hide k1
  clear hb1 hbl k0 k1
  obtain ⟨c0, c1, c2⟩ := blk3 HK0_1.out
  go_wp2_with fail
  refine (few_any B f r0 _ w1 (TmAt.below H0.out HB1.out hB (Nat.le_refl _)) (Nat.le_trans hB HB1.out.size)).mono ?_
  rintro e w2 ⟨rfl, hb2⟩
  have HB2 : Hid (Below w.heap.size w w2) := HB1.out.trans (hb2.mono HB1.out.size)
  have hs2 := hb2.size
  have HK0_2 := hide ((hb2.block _ (size_of_block HK0_1.out)).trans HK0_1.out)
  have HK1_2 := hide ((hb2.block _ (size_of_block HK1_1.out)).trans HK1_1.out)
  clear hb2 c0 c1 c2 HK0_1 HK1_1
  by_cases hq0 : r0.size < 300
  rotate_left
  · rw [decide_eq_false hq0]
    go_wp2_with fail
    go_ret
    exact ⟨rfl, HB2.out⟩
  rw [decide_eq_true hq0]
  obtain ⟨c0, c1, c2⟩ := blk3 HK1_2.out
  go_wp2_with fail
  refine (few_any B f r1 _ w2 (TmAt.below H1.out HB2.out hB (Nat.le_refl _)) (Nat.le_trans hB HB2.out.size)).mono ?_
  rintro e w3 ⟨rfl, hb3⟩
  have HB3 : Hid (Below w.heap.size w w3) := HB2.out.trans (hb3.mono HB2.out.size)
  have hs3 := hb3.size
  have HK0_3 := hide ((hb3.block _ (size_of_block HK0_2.out)).trans HK0_2.out)
  have HK1_3 := hide ((hb3.block _ (size_of_block HK1_2.out)).trans HK1_2.out)
  clear hb3 c0 c1 c2 HK0_2 HK1_2
  by_cases hq1 : r1.size < 300
  rotate_left
  · rw [decide_eq_false hq1]
    go_wp2_with fail
    go_ret
    exact ⟨rfl, HB3.out⟩
  rw [decide_eq_true hq1]
  go_wp2_with fail
  have HR0T : Hid (TmAt w3 w3.heap.size f r0 (.agg #[.int .i64 r0.op, .int .i64 r0.n, .slice a0 r0.kids.length z0])) := TmAt.below H0.out HB3.out hB (Nat.le_trans hB HB3.out.size)
  have HR1T : Hid (TmAt w3 w3.heap.size f r1 (.agg #[.int .i64 r1.op, .int .i64 r1.n, .slice a1 r1.kids.length z1])) := TmAt.below H1.out HB3.out hB (Nat.le_trans hB HB3.out.size)
  refine wp_region_boxes (by kernel_rfl) (by kernel_rfl) (fun vs => { tmps := #[Value.agg #[Value.int IntKind.i64 r0.op, Value.int IntKind.i64 r0.n, Value.slice a0 r0.kids.length z0], Value.agg #[Value.int IntKind.i64 r1.op, Value.int IntKind.i64 r1.n, Value.slice a1 r1.kids.length z1], Value.int IntKind.i64 n, Value.int IntKind.i64 b, Value.pointer (some { block := w.heap.size, off := 0 }), Value.pointer (some { block := w.heap.size + 1, off := 0 }), undef, undef, Value.bool false, vs 4, vs 5, Value.bool true, Value.bool false, Value.agg #[Value.int IntKind.i64 r0.op, Value.int IntKind.i64 r0.n, Value.slice a0 r0.kids.length z0], Value.bool true, Value.bool false, Value.bool false, Value.agg #[Value.int IntKind.i64 r1.op, Value.int IntKind.i64 r1.n, Value.slice a1 r1.kids.length z1], Value.bool true, Value.bool false, Value.bool false, vs 0, vs 1, vs 2, vs 3, undef, undef, undef, undef, undef, undef, undef, undef, undef, undef, undef, undef, undef, undef, undef, undef, undef, undef, undef, undef, undef, undef, undef, undef, undef, undef, undef, undef, undef, undef, undef, undef, undef, undef, undef, undef, undef, undef, undef, undef, undef, undef, undef, undef, undef, undef, undef, undef, undef, undef, undef, undef, undef, undef, undef, undef, undef, undef, undef, undef, undef, undef, undef, undef, undef, undef, undef, undef, undef, undef, undef], defers := [] }) (fun i => [undef, undef, undef, undef, undef, undef, undef, undef].getD i undef) [(4, 1, 6), (5, 3, 7)] (by decide) #[.int .i64 0, .int .i64 0, .slice none 0 0] 29 (moves_anyM (.agg #[.int .i64 r0.op, .int .i64 r0.n, .slice a0 r0.kids.length z0]) (.agg #[.int .i64 r1.op, .int .i64 r1.n, .slice a1 r1.kids.length z1]) (mkT 6 4 r0) (mkT 4 4 r1)) (moves_anyM.keep (.agg #[.int .i64 r0.op, .int .i64 r0.n, .slice a0 r0.kids.length z0]) (.agg #[.int .i64 r1.op, .int .i64 r1.n, .slice a1 r1.kids.length z1]) (mkT 6 4 r0) (mkT 4 4 r1)) ?_ ?_
  · refine ⟨⟨fun _ => ?_, fun x hx h => absurd h (by revert x; decide), fun x hx h => absurd h (by revert x; decide)⟩, ⟨fun _ => ?_, fun x hx h => absurd h (by revert x; decide), fun x hx h => absurd h (by revert x; decide)⟩, ⟨fun _ => ?_, fun x hx h => absurd h (by revert x; decide), fun x hx h => absurd h (by revert x; decide)⟩, ⟨fun _ => ?_, fun x hx h => absurd h (by revert x; decide), fun x hx h => absurd h (by revert x; decide)⟩, ⟨fun h => absurd h (by unfold Plainly; decide), fun x hx h => ?_, fun x hx h => absurd h (by revert x; decide)⟩, ⟨fun h => absurd h (by unfold Plainly; decide), fun x hx h => ?_, fun x hx h => absurd h (by revert x; decide)⟩, ⟨fun h => absurd h (by unfold Plainly; decide), fun x hx h => absurd h (by revert x; decide), fun x hx h => ?_⟩, ⟨fun h => absurd h (by unfold Plainly; decide), fun x hx h => absurd h (by revert x; decide), fun x hx h => ?_⟩, trivial⟩
    · intro vs wx M K hb hd hM hK
      obtain ⟨c0, c1, c2⟩ := cells3' hb HK0_3.out
      clear hb hd
      go_simp
      exact hK _ _ (Below.refl _ _) rfl
    · intro vs wx M K hb hd hM hK
      obtain ⟨vs, rfl⟩ := put_of (show vs 0 = _ from hd ⟨0, .data⟩ (by simp) rfl (by unfold Plainly; decide))
      have HBX := hide hb; have HM := hide hM
      clear hb hd hM
      go_simp
      refine (c_make (d := 6) M (fun q hq => (HM.out q hq).2) (TmAt.below HR0T.out HBX.out (Nat.le_refl _) (Nat.le_refl _)) HBX.out.size (by decide) (by decide) (by decide)).mono ?_
      rintro e w7 ⟨u, rfl, hu, hb7⟩
      exact hK _ _ hb7 hu
    · intro vs wx M K hb hd hM hK
      obtain ⟨c0, c1, c2⟩ := cells3' hb HK1_3.out
      clear hb hd
      go_simp
      exact hK _ _ (Below.refl _ _) rfl
    · intro vs wx M K hb hd hM hK
      obtain ⟨vs, rfl⟩ := put_of (show vs 2 = _ from hd ⟨2, .data⟩ (by simp) rfl (by unfold Plainly; decide))
      have HBX := hide hb; have HM := hide hM
      clear hb hd hM
      go_simp
      refine (c_make (d := 4) M (fun q hq => (HM.out q hq).2) (TmAt.below HR1T.out HBX.out (Nat.le_refl _) (Nat.le_refl _)) HBX.out.size (by decide) (by decide) (by decide)).mono ?_
      rintro e w7 ⟨u, rfl, hu, hb7⟩
      exact hK _ _ hb7 hu
    · intro vs wx K hK
      clear hx h
      go_simp
      exact hK
    · intro vs wx K hK
      clear hx h
      go_simp
      exact hK
    · obtain rfl : x = (4, 1, 6) := (by revert h; revert x; decide)
      refine ⟨⟨⟨4, .data⟩, by simp, rfl, rfl⟩, ⟨⟨1, .data⟩, by simp, rfl, rfl⟩, ?_⟩
      intro vs wx M K q hF hq hz hK
      obtain ⟨p0, p1, pa, pl, pc, e1, _⟩ := (show IsM _ _ _ _ _ from hF)
      obtain ⟨vs, rfl⟩ := put_of (show vs 1 = _ from e1)
      obtain ⟨vs, rfl⟩ := put_of (show vs 4 = _ from hq)
      obtain ⟨y0, y1, y2⟩ := blk3 hz
      obtain ⟨z0, z1, z2⟩ := frz3 hz
      have HZ := hide hz
      clear hF hq hz hx h e1
      go_simp
      exact hK _ _ (fr_put3 _ _ _ _ _) (put3_blk HZ.out _ _ _) rfl
    · obtain rfl : x = (5, 3, 7) := (by revert h; revert x; decide)
      refine ⟨⟨⟨5, .data⟩, by simp, rfl, rfl⟩, ⟨⟨3, .data⟩, by simp, rfl, rfl⟩, ?_⟩
      intro vs wx M K q hF hq hz hK
      obtain ⟨p0, p1, pa, pl, pc, e1, _⟩ := (show IsM _ _ _ _ _ from hF)
      obtain ⟨vs, rfl⟩ := put_of (show vs 3 = _ from e1)
      obtain ⟨vs, rfl⟩ := put_of (show vs 5 = _ from hq)
      obtain ⟨y0, y1, y2⟩ := blk3 hz
      obtain ⟨z0, z1, z2⟩ := frz3 hz
      have HZ := hide hz
      clear hF hq hz hx h e1
      go_simp
      exact hK _ _ (fr_put3 _ _ _ _ _) (put3_blk HZ.out _ _ _) rfl
  · intro vs wx M hb hF hB
    obtain ⟨q0, cs0, b0, l0, m0, h0, g0⟩ := hB (4, 1, 6) (by simp) (by decide) (by decide)
    obtain ⟨t00, t01, t0a, t0l, t0c, rfl, tm0⟩ := (show IsM _ _ _ _ _ from hF 1 (by decide) (by unfold Plainly; decide)).box g0
    obtain ⟨vs, rfl⟩ := put_of (show vs 4 = _ from b0)
    obtain ⟨q1, cs1, b1, l1, m1, h1, g1⟩ := hB (5, 3, 7) (by simp) (by decide) (by decide)
    obtain ⟨t10, t11, t1a, t1l, t1c, rfl, tm1⟩ := (show IsM _ _ _ _ _ from hF 3 (by decide) (by unfold Plainly; decide)).box g1
    obtain ⟨vs, rfl⟩ := put_of (show vs 5 = _ from b1)
    have HBX := hide hb; have HKT := hide h0; have HTT := hide tm0; have HKU := hide h1; have HTU := hide tm1
    clear hb hF hB h0 tm0 g0 h1 tm1 g1
    have HBW : Hid (Below w.heap.size w wx) := HB3.out.trans (HBX.out.mono HB3.out.size)
    have G0 := hide (Gd.mk' (d := 6) (vars := 4) HR0.out (by decide) (by decide) (by decide))
    obtain ⟨T, hT⟩ : ∃ T, T = mkT 6 4 r0 := ⟨_, rfl⟩
    have HET := hide hT
    rw [← hT] at G0 HTT
    clear hT
    have G1 := hide (Gd.mk' (d := 4) (vars := 4) HR1.out (by decide) (by decide) (by decide))
    obtain ⟨U, hU⟩ : ∃ U, U = mkT 4 4 r1 := ⟨_, rfl⟩
    have HEU := hide hU
    rw [← hU] at G1 HTU
    clear hU
    have HK0W := hide ((HBX.out.block _ (size_of_block HK0_3.out)).trans HK0_3.out)
    have HR0W : Hid (TmAt wx wx.heap.size f r0 _) := TmAt.below HR0T.out HBX.out (Nat.le_refl _) HBX.out.size
    clear HK0_3 HR0T HK1_3 HR1T HBX HA
    simp only [put, Nat.reduceEqDiff, reduceIte, ptr]
    clear b0 b1
    generalize vs 0 = s0; generalize vs 1 = s1; generalize vs 2 = s2; generalize vs 3 = s3
    clear vs
    go_wp2_with fail
    refine (lwithin_n n 6 _ (by decide) (by decide)).mono ?_
    rintro e w9 ⟨rfl, h9⟩
    rw [h9]
    clear h9 w9
    have hn := wi_n n 6 (by decide)
    generalize wi n 6 = nx at *
    go_wp2_with fail
    refine (lwithin_n b 5 _ (by decide) (by decide)).mono ?_
    rintro e w9 ⟨rfl, h9⟩
    rw [h9]
    clear h9 w9
    have hb := wi_n b 5 (by decide)
    generalize wi b 5 = bx at *
    go_wp2_with fail
    obtain ⟨hn0, hn1⟩ := hn
    obtain ⟨hb0, hb1⟩ := hb
    have GT := hide G0.out.1; have GU := hide G1.out.1
    have SPT : Hid (Shp T) := hide G0.out.2.1
    have TZ : Hid (T.size ≤ 1000000) := hide (by have h2 := G0.out.2.2; have h3 : most 6 = 5461 := (by decide); omega)
    have Z1 : Hid (T.size + U.size * cnt (fun x => decide (x = nx)) 0 T ≤ 8388608) := hide (fit_le G0.out.2.2 G1.out.2.2 (by decide))
    have ZT : Hid ((txtT T).length ≤ 140737488355328) := hide (by have h1 := txt_len T (shp_num G0.out.2.1); have h2 := G0.out.2.2; have h3 : most 6 = 5461 := (by decide); omega)
    have HTB' : Hid (Tb wx) := hide (HTB.out.later HBW.out)
    have HTA : Hid (Tabs wx.heap.size wx) := hide (HT.out.later HBW.out)
    have HLA : Hid (Tl wx) := hide (HL.out.later HBW.out)
    clear G0 G1
    obtain ⟨xs, hxs⟩ : ∃ xs, xs = txtT T := ⟨_, rfl⟩
    have HXS : Hid (txtT T = xs) := hide hxs.symm
    obtain ⟨fb, hfb⟩ : ∃ fb, fb = fre nx 0 T := ⟨_, rfl⟩
    have HFB : Hid (fre nx 0 T = fb) := hide hfb.symm
    obtain ⟨bb, hbb⟩ : ∃ bb, bb = bel nx 0 T := ⟨_, rfl⟩
    have HBB : Hid (bel nx 0 T = bb) := hide hbb.symm
    obtain ⟨sb, hsb⟩ : ∃ sb : Bool, sb = true ↔ T = U := by
      by_cases h : T = U
      · exact ⟨true, by simp [h]⟩
      · exact ⟨false, by simp [h]⟩
    have HSB := hide hsb
    obtain ⟨zz, hzz⟩ : ∃ zz : Nat, zz = T.size := ⟨_, rfl⟩
    have HZZ : Hid (T.size = zz) := hide hzz.symm
    clear hxs hfb hbb hsb hzz
    refine wp_region_vals (by kernel_rfl) (by kernel_rfl) (fun vs => { tmps := #[Value.agg #[Value.int IntKind.i64 r0.op, Value.int IntKind.i64 r0.n, Value.slice a0 r0.kids.length z0], Value.agg #[Value.int IntKind.i64 r1.op, Value.int IntKind.i64 r1.n, Value.slice a1 r1.kids.length z1], Value.int IntKind.i64 nx, Value.int IntKind.i64 bx, Value.pointer (some { block := w.heap.size, off := 0 }), Value.pointer (some { block := w.heap.size + 1, off := 0 }), undef, undef, vs 67, Value.pointer (some { block := q0, off := 0 }), Value.pointer (some { block := q1, off := 0 }), Value.bool true, Value.bool false, Value.agg #[Value.int IntKind.i64 r0.op, Value.int IntKind.i64 r0.n, Value.slice a0 r0.kids.length z0], Value.bool true, Value.bool false, Value.bool false, Value.agg #[Value.int IntKind.i64 r1.op, Value.int IntKind.i64 r1.n, Value.slice a1 r1.kids.length z1], Value.bool true, Value.bool false, Value.bool false, s0, s1, s2, s3, Value.int IntKind.i64 n, Value.int IntKind.i64 nx, Value.int IntKind.i64 b, Value.int IntKind.i64 bx, vs 0, vs 1, vs 2, vs 3, vs 4, vs 5, vs 6, vs 7, vs 8, vs 9, vs 10, vs 11, vs 12, vs 13, vs 14, vs 15, vs 16, vs 17, vs 18, vs 19, vs 20, vs 21, vs 22, vs 23, vs 24, vs 25, vs 26, vs 27, vs 28, vs 29, vs 30, vs 31, vs 32, vs 33, vs 34, vs 35, vs 36, vs 37, vs 38, vs 39, vs 40, vs 41, vs 42, vs 43, vs 44, vs 45, vs 46, vs 47, vs 48, vs 49, vs 50, vs 51, vs 52, vs 53, vs 54, vs 55, vs 56, vs 57, vs 58, vs 59, vs 60, vs 61, vs 62, vs 63, vs 64, vs 65, vs 66], defers := [] }) (fun i => [undef, undef, undef, undef, undef, undef, undef, undef, undef, undef, undef, undef, undef, undef, undef, undef, undef, undef, undef, undef, undef, undef, undef, undef, undef, undef, undef, undef, undef, undef, undef, undef, undef, undef, undef, undef, undef, undef, undef, undef, undef, undef, undef, undef, undef, undef, undef, undef, undef, undef, undef, undef, undef, undef, undef, undef, undef, undef, undef, undef, undef, undef, undef, undef, undef, undef, undef, Value.bool false].getD i undef) (moves_F T U r0 f nx bx fb bb sb xs zz) (moves_F.keep T U r0 f nx bx fb bb sb xs zz) ?_ ?_
    · refine ⟨?_, ?_, ?_, ?_, ?_, ?_, ?_, ?_, ?_, ?_, ?_, ?_, ?_, ?_, ?_, ?_, ?_, ?_, ?_, ?_, ?_, ?_, ?_, ?_, ?_, ?_, ?_, ?_, ?_, ?_, ?_, ?_, ?_, ?_, ?_, ?_, ?_, ?_, ?_, ?_, ?_, ?_, ?_, ?_, ?_, ?_, ?_, ?_, ?_, ?_, ?_, ?_, ?_, ?_, ?_, ?_, ?_, ?_, ?_, ?_, ?_, ?_, ?_, ?_, ?_, ?_, ?_, ?_, trivial⟩
      · intro vs wx K hb hd hK
        obtain ⟨c0, c1, c2⟩ := cells3' hb HKT.out
        have HBX := hide hb
        clear hb hd
        go_simp
        exact hK _ _ (Below.refl _ _) ⟨_, _, _, _, _, rfl, TmAt.below HTT.out HBX.out (Nat.le_refl _) HBX.out.size⟩
      · intro vs wx K hb hd hK
        have tm0 := hd ⟨0, .data⟩ (by simp) rfl
        have HX0 := hide tm0
        obtain ⟨p0_0, p1_0, pa_0, pl_0, pc_0, e0, _⟩ := tm0
        rw [e0] at HX0
        obtain ⟨vs, rfl⟩ := put_of (show vs 0 = _ from e0)
        clear e0
        have HBX := hide hb
        clear hb hd
        go_simp
        refine (c_size HX0.out GT.out).mono ?_
        rintro e w7 ⟨rfl, hb7⟩
        rw [HZZ.out]
        exact hK _ _ hb7 rfl
      · intro vs wx K hb hd hK
        obtain ⟨c0, c1, c2⟩ := cells3' hb HKT.out
        have HBX := hide hb
        clear hb hd
        go_simp
        exact hK _ _ (Below.refl _ _) ⟨_, _, _, _, _, rfl, TmAt.below HTT.out HBX.out (Nat.le_refl _) HBX.out.size⟩
      · intro vs wx K hb hd hK
        have tm2 := hd ⟨2, .data⟩ (by simp) rfl
        have HX2 := hide tm2
        obtain ⟨p0_2, p1_2, pa_2, pl_2, pc_2, e2, _⟩ := tm2
        rw [e2] at HX2
        obtain ⟨vs, rfl⟩ := put_of (show vs 2 = _ from e2)
        clear e2
        have HBX := hide hb
        clear hb hd
        go_simp
        refine (e_rsize HX2.out TZ.out).mono ?_
        rintro e w7 ⟨rfl, hb7⟩
        rw [HZZ.out]
        exact hK _ _ hb7 rfl
      · intro vs wx K hb hd hK
        obtain ⟨vs, rfl⟩ := put_of (show vs 1 = _ from hd ⟨1, .data⟩ (by simp) rfl)
        obtain ⟨vs, rfl⟩ := put_of (show vs 3 = _ from hd ⟨3, .data⟩ (by simp) rfl)
        have HBX := hide hb
        clear hb hd
        go_simp
        exact hK _ _ (Below.refl _ _) rfl
      · intro vs wx K hb hd hK
        obtain ⟨vs, rfl⟩ := put_of (show vs 4 = _ from hd ⟨4, .data⟩ (by simp) rfl)
        have HBX := hide hb
        clear hb hd
        go_simp
        exact hK _ _ (Below.refl _ _) rfl
      · intro vs wx K hb hd hK
        obtain ⟨vs, rfl⟩ := put_of (show vs 5 = _ from hd ⟨5, .guard⟩ (by simp) rfl)
        obtain ⟨c0, c1, c2⟩ := cells3' hb HKT.out
        have HBX := hide hb
        clear hb hd
        go_simp
        exact hK _ _ (Below.refl _ _) ⟨_, _, _, _, _, rfl, TmAt.below HTT.out HBX.out (Nat.le_refl _) HBX.out.size⟩
      · intro vs wx K hb hd hK
        obtain ⟨vs, rfl⟩ := put_of (show vs 5 = _ from hd ⟨5, .guard⟩ (by simp) rfl)
        have HBX := hide hb
        clear hb hd
        go_simp
        exact hK _ _ (Below.refl _ _) rfl
      · intro vs wx K hb hd hK
        have tm6 := hd ⟨6, .data⟩ (by simp) rfl
        have HX6 := hide tm6
        obtain ⟨p0_6, p1_6, pa_6, pl_6, pc_6, e6, _⟩ := tm6
        rw [e6] at HX6
        obtain ⟨vs, rfl⟩ := put_of (show vs 6 = _ from e6)
        obtain ⟨vs, rfl⟩ := put_of (show vs 7 = _ from hd ⟨7, .data⟩ (by simp) rfl)
        obtain ⟨vs, rfl⟩ := put_of (show vs 5 = _ from hd ⟨5, .guard⟩ (by simp) rfl)
        clear e6
        have HBX := hide hb
        clear hb hd
        go_simp
        refine (c_free HX6.out GT.out (HTB'.out.later HBX.out) (by omega)).mono ?_
        rintro e w7 ⟨rfl, hb7⟩
        rw [HFB.out]
        exact hK _ _ hb7 rfl
      · intro vs wx K hb hd hK
        obtain ⟨vs, rfl⟩ := put_of (show vs 5 = _ from hd ⟨5, .guard⟩ (by simp) rfl)
        obtain ⟨c0, c1, c2⟩ := cells3' hb HKT.out
        have HBX := hide hb
        clear hb hd
        go_simp
        exact hK _ _ (Below.refl _ _) ⟨_, _, _, _, _, rfl, TmAt.below HTT.out HBX.out (Nat.le_refl _) HBX.out.size⟩
      · intro vs wx K hb hd hK
        obtain ⟨vs, rfl⟩ := put_of (show vs 5 = _ from hd ⟨5, .guard⟩ (by simp) rfl)
        have HBX := hide hb
        clear hb hd
        go_simp
        exact hK _ _ (Below.refl _ _) rfl
      · intro vs wx K hb hd hK
        have tm9 := hd ⟨9, .data⟩ (by simp) rfl
        have HX9 := hide tm9
        obtain ⟨p0_9, p1_9, pa_9, pl_9, pc_9, e9, _⟩ := tm9
        rw [e9] at HX9
        obtain ⟨vs, rfl⟩ := put_of (show vs 9 = _ from e9)
        obtain ⟨vs, rfl⟩ := put_of (show vs 10 = _ from hd ⟨10, .data⟩ (by simp) rfl)
        obtain ⟨vs, rfl⟩ := put_of (show vs 5 = _ from hd ⟨5, .guard⟩ (by simp) rfl)
        clear e9
        have HBX := hide hb
        clear hb hd
        go_simp
        refine (e_rfree HX9.out GT.out (by omega)).mono ?_
        rintro e w7 ⟨rfl, hb7⟩
        rw [HFB.out]
        exact hK _ _ hb7 rfl
      · intro vs wx K hb hd hK
        obtain ⟨vs, rfl⟩ := put_of (show vs 8 = _ from hd ⟨8, .data⟩ (by simp) rfl)
        obtain ⟨vs, rfl⟩ := put_of (show vs 11 = _ from hd ⟨11, .data⟩ (by simp) rfl)
        obtain ⟨vs, rfl⟩ := put_of (show vs 5 = _ from hd ⟨5, .guard⟩ (by simp) rfl)
        have HBX := hide hb
        clear hb hd
        go_simp
        exact hK _ _ (Below.refl _ _) rfl
      · intro vs wx K hb hd hK
        obtain ⟨vs, rfl⟩ := put_of (show vs 5 = _ from hd ⟨5, .data⟩ (by simp) rfl)
        obtain ⟨vs, rfl⟩ := put_of (show vs 12 = _ from hd ⟨12, .data⟩ (by simp) rfl)
        have HBX := hide hb
        clear hb hd
        go_simp
        exact hK _ _ (Below.refl _ _) rfl
      · intro vs wx K hb hd hK
        obtain ⟨vs, rfl⟩ := put_of (show vs 13 = _ from hd ⟨13, .data⟩ (by simp) rfl)
        have HBX := hide hb
        clear hb hd
        go_simp
        exact hK _ _ (Below.refl _ _) rfl
      · intro vs wx K hb hd hK
        obtain ⟨vs, rfl⟩ := put_of (show vs 14 = _ from hd ⟨14, .guard⟩ (by simp) rfl)
        obtain ⟨c0, c1, c2⟩ := cells3' hb HKT.out
        have HBX := hide hb
        clear hb hd
        go_simp
        exact hK _ _ (Below.refl _ _) ⟨_, _, _, _, _, rfl, TmAt.below HTT.out HBX.out (Nat.le_refl _) HBX.out.size⟩
      · intro vs wx K hb hd hK
        obtain ⟨vs, rfl⟩ := put_of (show vs 14 = _ from hd ⟨14, .guard⟩ (by simp) rfl)
        have HBX := hide hb
        clear hb hd
        go_simp
        exact hK _ _ (Below.refl _ _) rfl
      · intro vs wx K hb hd hK
        have tm15 := hd ⟨15, .data⟩ (by simp) rfl
        have HX15 := hide tm15
        obtain ⟨p0_15, p1_15, pa_15, pl_15, pc_15, e15, _⟩ := tm15
        rw [e15] at HX15
        obtain ⟨vs, rfl⟩ := put_of (show vs 15 = _ from e15)
        obtain ⟨vs, rfl⟩ := put_of (show vs 16 = _ from hd ⟨16, .data⟩ (by simp) rfl)
        obtain ⟨vs, rfl⟩ := put_of (show vs 14 = _ from hd ⟨14, .guard⟩ (by simp) rfl)
        clear e15
        have HBX := hide hb
        clear hb hd
        go_simp
        refine (c_below HX15.out GT.out (HTB'.out.later HBX.out) (by omega)).mono ?_
        rintro e w7 ⟨rfl, hb7⟩
        rw [HBB.out]
        exact hK _ _ hb7 rfl
      · intro vs wx K hb hd hK
        obtain ⟨vs, rfl⟩ := put_of (show vs 14 = _ from hd ⟨14, .guard⟩ (by simp) rfl)
        obtain ⟨c0, c1, c2⟩ := cells3' hb HKT.out
        have HBX := hide hb
        clear hb hd
        go_simp
        exact hK _ _ (Below.refl _ _) ⟨_, _, _, _, _, rfl, TmAt.below HTT.out HBX.out (Nat.le_refl _) HBX.out.size⟩
      · intro vs wx K hb hd hK
        obtain ⟨vs, rfl⟩ := put_of (show vs 14 = _ from hd ⟨14, .guard⟩ (by simp) rfl)
        have HBX := hide hb
        clear hb hd
        go_simp
        exact hK _ _ (Below.refl _ _) rfl
      · intro vs wx K hb hd hK
        have tm18 := hd ⟨18, .data⟩ (by simp) rfl
        have HX18 := hide tm18
        obtain ⟨p0_18, p1_18, pa_18, pl_18, pc_18, e18, _⟩ := tm18
        rw [e18] at HX18
        obtain ⟨vs, rfl⟩ := put_of (show vs 18 = _ from e18)
        obtain ⟨vs, rfl⟩ := put_of (show vs 19 = _ from hd ⟨19, .data⟩ (by simp) rfl)
        obtain ⟨vs, rfl⟩ := put_of (show vs 14 = _ from hd ⟨14, .guard⟩ (by simp) rfl)
        clear e18
        have HBX := hide hb
        clear hb hd
        go_simp
        refine (e_rbelow HX18.out GT.out (by omega)).mono ?_
        rintro e w7 ⟨rfl, hb7⟩
        rw [HBB.out]
        exact hK _ _ hb7 rfl
      · intro vs wx K hb hd hK
        obtain ⟨vs, rfl⟩ := put_of (show vs 17 = _ from hd ⟨17, .data⟩ (by simp) rfl)
        obtain ⟨vs, rfl⟩ := put_of (show vs 20 = _ from hd ⟨20, .data⟩ (by simp) rfl)
        obtain ⟨vs, rfl⟩ := put_of (show vs 14 = _ from hd ⟨14, .guard⟩ (by simp) rfl)
        have HBX := hide hb
        clear hb hd
        go_simp
        exact hK _ _ (Below.refl _ _) rfl
      · intro vs wx K hb hd hK
        obtain ⟨vs, rfl⟩ := put_of (show vs 14 = _ from hd ⟨14, .data⟩ (by simp) rfl)
        obtain ⟨vs, rfl⟩ := put_of (show vs 21 = _ from hd ⟨21, .data⟩ (by simp) rfl)
        have HBX := hide hb
        clear hb hd
        go_simp
        exact hK _ _ (Below.refl _ _) rfl
      · intro vs wx K hb hd hK
        obtain ⟨vs, rfl⟩ := put_of (show vs 22 = _ from hd ⟨22, .data⟩ (by simp) rfl)
        have HBX := hide hb
        clear hb hd
        go_simp
        exact hK _ _ (Below.refl _ _) rfl
      · intro vs wx K hb hd hK
        obtain ⟨vs, rfl⟩ := put_of (show vs 23 = _ from hd ⟨23, .guard⟩ (by simp) rfl)
        obtain ⟨c0, c1, c2⟩ := cells3' hb HKT.out
        have HBX := hide hb
        clear hb hd
        go_simp
        exact hK _ _ (Below.refl _ _) ⟨_, _, _, _, _, rfl, TmAt.below HTT.out HBX.out (Nat.le_refl _) HBX.out.size⟩
      · intro vs wx K hb hd hK
        obtain ⟨vs, rfl⟩ := put_of (show vs 23 = _ from hd ⟨23, .guard⟩ (by simp) rfl)
        have HBX := hide hb
        clear hb hd
        go_simp
        exact hK _ _ (Below.refl _ _) rfl
      · intro vs wx K hb hd hK
        obtain ⟨vs, rfl⟩ := put_of (show vs 23 = _ from hd ⟨23, .guard⟩ (by simp) rfl)
        have HBX := hide hb
        clear hb hd
        go_simp
        exact hK _ _ (Below.refl _ _) rfl
      · intro vs wx K hb hd hK
        have tm24 := hd ⟨24, .data⟩ (by simp) rfl
        have HX24 := hide tm24
        obtain ⟨p0_24, p1_24, pa_24, pl_24, pc_24, e24, _⟩ := tm24
        rw [e24] at HX24
        obtain ⟨vs, rfl⟩ := put_of (show vs 24 = _ from e24)
        obtain ⟨vs, rfl⟩ := put_of (show vs 25 = _ from hd ⟨25, .data⟩ (by simp) rfl)
        obtain ⟨vs, rfl⟩ := put_of (show vs 26 = _ from hd ⟨26, .data⟩ (by simp) rfl)
        obtain ⟨vs, rfl⟩ := put_of (show vs 23 = _ from hd ⟨23, .guard⟩ (by simp) rfl)
        clear e24
        have HBX := hide hb
        clear hb hd
        go_simp
        refine (c_shift HX24.out GT.out (HTB'.out.later HBX.out) (by omega) (by omega)).mono ?_
        rintro e w7 ⟨u, rfl, hu, hb7⟩
        exact hK _ _ hb7 hu
      · intro vs wx K hb hd hK
        obtain ⟨vs, rfl⟩ := put_of (show vs 23 = _ from hd ⟨23, .guard⟩ (by simp) rfl)
        obtain ⟨c0, c1, c2⟩ := cells3' hb HKT.out
        have HBX := hide hb
        clear hb hd
        go_simp
        exact hK _ _ (Below.refl _ _) ⟨_, _, _, _, _, rfl, TmAt.below HTT.out HBX.out (Nat.le_refl _) HBX.out.size⟩
      · intro vs wx K hb hd hK
        obtain ⟨vs, rfl⟩ := put_of (show vs 23 = _ from hd ⟨23, .guard⟩ (by simp) rfl)
        have HBX := hide hb
        clear hb hd
        go_simp
        exact hK _ _ (Below.refl _ _) rfl
      · intro vs wx K hb hd hK
        obtain ⟨vs, rfl⟩ := put_of (show vs 23 = _ from hd ⟨23, .guard⟩ (by simp) rfl)
        have HBX := hide hb
        clear hb hd
        go_simp
        exact hK _ _ (Below.refl _ _) rfl
      · intro vs wx K hb hd hK
        have tm28 := hd ⟨28, .data⟩ (by simp) rfl
        have HX28 := hide tm28
        obtain ⟨p0_28, p1_28, pa_28, pl_28, pc_28, e28, _⟩ := tm28
        rw [e28] at HX28
        obtain ⟨vs, rfl⟩ := put_of (show vs 28 = _ from e28)
        obtain ⟨vs, rfl⟩ := put_of (show vs 29 = _ from hd ⟨29, .data⟩ (by simp) rfl)
        obtain ⟨vs, rfl⟩ := put_of (show vs 30 = _ from hd ⟨30, .data⟩ (by simp) rfl)
        obtain ⟨vs, rfl⟩ := put_of (show vs 23 = _ from hd ⟨23, .guard⟩ (by simp) rfl)
        clear e28
        have HBX := hide hb
        clear hb hd
        go_simp
        refine (e_rshift HX28.out GT.out (by omega) (by omega)).mono ?_
        rintro e w7 ⟨u, rfl, hu, hb7⟩
        exact hK _ _ hb7 hu
      · intro vs wx K hb hd hK
        have tm27 := hd ⟨27, .data⟩ (by simp) rfl
        have HX27 := hide tm27
        obtain ⟨p0_27, p1_27, pa_27, pl_27, pc_27, e27, _⟩ := tm27
        rw [e27] at HX27
        have tm31 := hd ⟨31, .data⟩ (by simp) rfl
        have HX31 := hide tm31
        obtain ⟨p0_31, p1_31, pa_31, pl_31, pc_31, e31, _⟩ := tm31
        rw [e31] at HX31
        obtain ⟨vs, rfl⟩ := put_of (show vs 27 = _ from e27)
        obtain ⟨vs, rfl⟩ := put_of (show vs 31 = _ from e31)
        obtain ⟨vs, rfl⟩ := put_of (show vs 23 = _ from hd ⟨23, .guard⟩ (by simp) rfl)
        clear e27 e31
        have HBX := hide hb
        clear hb hd
        go_simp
        refine (c_same HX27.out HX31.out).mono ?_
        rintro e w7 ⟨r, rfl, hr, hb7⟩
        obtain rfl := hr.2 rfl
        exact hK _ _ hb7 rfl
      · intro vs wx K hb hd hK
        obtain ⟨vs, rfl⟩ := put_of (show vs 23 = _ from hd ⟨23, .data⟩ (by simp) rfl)
        obtain ⟨vs, rfl⟩ := put_of (show vs 32 = _ from hd ⟨32, .data⟩ (by simp) rfl)
        have HBX := hide hb
        clear hb hd
        go_simp
        exact hK _ _ (Below.refl _ _) rfl
      · intro vs wx K hb hd hK
        obtain ⟨vs, rfl⟩ := put_of (show vs 33 = _ from hd ⟨33, .data⟩ (by simp) rfl)
        have HBX := hide hb
        clear hb hd
        go_simp
        exact hK _ _ (Below.refl _ _) rfl
      · intro vs wx K hb hd hK
        obtain ⟨vs, rfl⟩ := put_of (show vs 34 = _ from hd ⟨34, .guard⟩ (by simp) rfl)
        obtain ⟨c0, c1, c2⟩ := cells3' hb HKT.out
        have HBX := hide hb
        clear hb hd
        go_simp
        exact hK _ _ (Below.refl _ _) ⟨_, _, _, _, _, rfl, TmAt.below HTT.out HBX.out (Nat.le_refl _) HBX.out.size⟩
      · intro vs wx K hb hd hK
        obtain ⟨vs, rfl⟩ := put_of (show vs 34 = _ from hd ⟨34, .guard⟩ (by simp) rfl)
        have HBX := hide hb
        clear hb hd
        go_simp
        exact hK _ _ (Below.refl _ _) rfl
      · intro vs wx K hb hd hK
        obtain ⟨vs, rfl⟩ := put_of (show vs 34 = _ from hd ⟨34, .guard⟩ (by simp) rfl)
        obtain ⟨c0, c1, c2⟩ := cells3' hb HKU.out
        have HBX := hide hb
        clear hb hd
        go_simp
        exact hK _ _ (Below.refl _ _) ⟨_, _, _, _, _, rfl, TmAt.below HTU.out HBX.out (Nat.le_refl _) HBX.out.size⟩
      · intro vs wx K hb hd hK
        have tm35 := hd ⟨35, .data⟩ (by simp) rfl
        have HX35 := hide tm35
        obtain ⟨p0_35, p1_35, pa_35, pl_35, pc_35, e35, _⟩ := tm35
        rw [e35] at HX35
        have tm37 := hd ⟨37, .data⟩ (by simp) rfl
        have HX37 := hide tm37
        obtain ⟨p0_37, p1_37, pa_37, pl_37, pc_37, e37, _⟩ := tm37
        rw [e37] at HX37
        obtain ⟨vs, rfl⟩ := put_of (show vs 35 = _ from e35)
        obtain ⟨vs, rfl⟩ := put_of (show vs 36 = _ from hd ⟨36, .data⟩ (by simp) rfl)
        obtain ⟨vs, rfl⟩ := put_of (show vs 37 = _ from e37)
        obtain ⟨vs, rfl⟩ := put_of (show vs 34 = _ from hd ⟨34, .guard⟩ (by simp) rfl)
        clear e35 e37
        have HBX := hide hb
        clear hb hd
        go_simp
        refine (c_subst HX35.out HX37.out GT.out GU.out (HTB'.out.later HBX.out) Z1.out (by omega)).mono ?_
        rintro e w7 ⟨u, rfl, hu, hb7⟩
        exact hK _ _ hb7 hu
      · intro vs wx K hb hd hK
        obtain ⟨vs, rfl⟩ := put_of (show vs 34 = _ from hd ⟨34, .guard⟩ (by simp) rfl)
        obtain ⟨c0, c1, c2⟩ := cells3' hb HKT.out
        have HBX := hide hb
        clear hb hd
        go_simp
        exact hK _ _ (Below.refl _ _) ⟨_, _, _, _, _, rfl, TmAt.below HTT.out HBX.out (Nat.le_refl _) HBX.out.size⟩
      · intro vs wx K hb hd hK
        obtain ⟨vs, rfl⟩ := put_of (show vs 34 = _ from hd ⟨34, .guard⟩ (by simp) rfl)
        have HBX := hide hb
        clear hb hd
        go_simp
        exact hK _ _ (Below.refl _ _) rfl
      · intro vs wx K hb hd hK
        obtain ⟨vs, rfl⟩ := put_of (show vs 34 = _ from hd ⟨34, .guard⟩ (by simp) rfl)
        obtain ⟨c0, c1, c2⟩ := cells3' hb HKU.out
        have HBX := hide hb
        clear hb hd
        go_simp
        exact hK _ _ (Below.refl _ _) ⟨_, _, _, _, _, rfl, TmAt.below HTU.out HBX.out (Nat.le_refl _) HBX.out.size⟩
      · intro vs wx K hb hd hK
        have tm39 := hd ⟨39, .data⟩ (by simp) rfl
        have HX39 := hide tm39
        obtain ⟨p0_39, p1_39, pa_39, pl_39, pc_39, e39, _⟩ := tm39
        rw [e39] at HX39
        have tm41 := hd ⟨41, .data⟩ (by simp) rfl
        have HX41 := hide tm41
        obtain ⟨p0_41, p1_41, pa_41, pl_41, pc_41, e41, _⟩ := tm41
        rw [e41] at HX41
        obtain ⟨vs, rfl⟩ := put_of (show vs 39 = _ from e39)
        obtain ⟨vs, rfl⟩ := put_of (show vs 40 = _ from hd ⟨40, .data⟩ (by simp) rfl)
        obtain ⟨vs, rfl⟩ := put_of (show vs 41 = _ from e41)
        obtain ⟨vs, rfl⟩ := put_of (show vs 34 = _ from hd ⟨34, .guard⟩ (by simp) rfl)
        clear e39 e41
        have HBX := hide hb
        clear hb hd
        go_simp
        refine (e_rsubst HX39.out HX41.out GT.out GU.out (by omega)).mono ?_
        rintro e w7 ⟨u, rfl, hu, hb7⟩
        exact hK _ _ hb7 hu
      · intro vs wx K hb hd hK
        have tm38 := hd ⟨38, .data⟩ (by simp) rfl
        have HX38 := hide tm38
        obtain ⟨p0_38, p1_38, pa_38, pl_38, pc_38, e38, _⟩ := tm38
        rw [e38] at HX38
        have tm42 := hd ⟨42, .data⟩ (by simp) rfl
        have HX42 := hide tm42
        obtain ⟨p0_42, p1_42, pa_42, pl_42, pc_42, e42, _⟩ := tm42
        rw [e42] at HX42
        obtain ⟨vs, rfl⟩ := put_of (show vs 38 = _ from e38)
        obtain ⟨vs, rfl⟩ := put_of (show vs 42 = _ from e42)
        obtain ⟨vs, rfl⟩ := put_of (show vs 34 = _ from hd ⟨34, .guard⟩ (by simp) rfl)
        clear e38 e42
        have HBX := hide hb
        clear hb hd
        go_simp
        refine (c_same HX38.out HX42.out).mono ?_
        rintro e w7 ⟨r, rfl, hr, hb7⟩
        obtain rfl := hr.2 rfl
        exact hK _ _ hb7 rfl
      · intro vs wx K hb hd hK
        obtain ⟨vs, rfl⟩ := put_of (show vs 34 = _ from hd ⟨34, .data⟩ (by simp) rfl)
        obtain ⟨vs, rfl⟩ := put_of (show vs 43 = _ from hd ⟨43, .data⟩ (by simp) rfl)
        have HBX := hide hb
        clear hb hd
        go_simp
        exact hK _ _ (Below.refl _ _) rfl
      · intro vs wx K hb hd hK
        obtain ⟨vs, rfl⟩ := put_of (show vs 44 = _ from hd ⟨44, .data⟩ (by simp) rfl)
        have HBX := hide hb
        clear hb hd
        go_simp
        exact hK _ _ (Below.refl _ _) rfl
      · intro vs wx K hb hd hK
        obtain ⟨vs, rfl⟩ := put_of (show vs 45 = _ from hd ⟨45, .guard⟩ (by simp) rfl)
        obtain ⟨c0, c1, c2⟩ := cells3' hb HKT.out
        have HBX := hide hb
        clear hb hd
        go_simp
        exact hK _ _ (Below.refl _ _) ⟨_, _, _, _, _, rfl, TmAt.below HTT.out HBX.out (Nat.le_refl _) HBX.out.size⟩
      · intro vs wx K hb hd hK
        have tm46 := hd ⟨46, .data⟩ (by simp) rfl
        have HX46 := hide tm46
        obtain ⟨p0_46, p1_46, pa_46, pl_46, pc_46, e46, _⟩ := tm46
        rw [e46] at HX46
        obtain ⟨vs, rfl⟩ := put_of (show vs 46 = _ from e46)
        obtain ⟨vs, rfl⟩ := put_of (show vs 45 = _ from hd ⟨45, .guard⟩ (by simp) rfl)
        clear e46
        have HBX := hide hb
        clear hb hd
        go_simp
        refine (e_text HX46.out GT.out (HTA.out.later HBX.out) (HLA.out.later HBX.out) ZT.out).mono ?_
        rintro e w7 ⟨rfl, hb7⟩
        rw [HXS.out]
        exact hK _ _ hb7 rfl
      · intro vs wx K hb hd hK
        obtain ⟨vs, rfl⟩ := put_of (show vs 45 = _ from hd ⟨45, .guard⟩ (by simp) rfl)
        obtain ⟨c0, c1, c2⟩ := cells3' hb HKT.out
        have HBX := hide hb
        clear hb hd
        go_simp
        exact hK _ _ (Below.refl _ _) ⟨_, _, _, _, _, rfl, TmAt.below HTT.out HBX.out (Nat.le_refl _) HBX.out.size⟩
      · intro vs wx K hb hd hK
        have tm48 := hd ⟨48, .data⟩ (by simp) rfl
        have HX48 := hide tm48
        obtain ⟨p0_48, p1_48, pa_48, pl_48, pc_48, e48, _⟩ := tm48
        rw [e48] at HX48
        obtain ⟨vs, rfl⟩ := put_of (show vs 48 = _ from e48)
        obtain ⟨vs, rfl⟩ := put_of (show vs 45 = _ from hd ⟨45, .guard⟩ (by simp) rfl)
        clear e48
        have HBX := hide hb
        clear hb hd
        go_simp
        refine (e_rtext HX48.out SPT.out ZT.out).mono ?_
        rintro e w7 ⟨rfl, hb7⟩
        rw [HXS.out]
        exact hK _ _ hb7 rfl
      · intro vs wx K hb hd hK
        obtain ⟨vs, rfl⟩ := put_of (show vs 47 = _ from hd ⟨47, .data⟩ (by simp) rfl)
        obtain ⟨vs, rfl⟩ := put_of (show vs 49 = _ from hd ⟨49, .data⟩ (by simp) rfl)
        obtain ⟨vs, rfl⟩ := put_of (show vs 45 = _ from hd ⟨45, .guard⟩ (by simp) rfl)
        have HBX := hide hb
        clear hb hd
        go_simp
        exact hK _ _ (Below.refl _ _) rfl
      · intro vs wx K hb hd hK
        obtain ⟨vs, rfl⟩ := put_of (show vs 45 = _ from hd ⟨45, .data⟩ (by simp) rfl)
        obtain ⟨vs, rfl⟩ := put_of (show vs 50 = _ from hd ⟨50, .data⟩ (by simp) rfl)
        have HBX := hide hb
        clear hb hd
        go_simp
        exact hK _ _ (Below.refl _ _) rfl
      · intro vs wx K hb hd hK
        obtain ⟨vs, rfl⟩ := put_of (show vs 51 = _ from hd ⟨51, .data⟩ (by simp) rfl)
        have HBX := hide hb
        clear hb hd
        go_simp
        exact hK _ _ (Below.refl _ _) rfl
      · intro vs wx K hb hd hK
        obtain ⟨vs, rfl⟩ := put_of (show vs 52 = _ from hd ⟨52, .guard⟩ (by simp) rfl)
        obtain ⟨c0, c1, c2⟩ := cells3' hb HKT.out
        have HBX := hide hb
        clear hb hd
        go_simp
        exact hK _ _ (Below.refl _ _) ⟨_, _, _, _, _, rfl, TmAt.below HTT.out HBX.out (Nat.le_refl _) HBX.out.size⟩
      · intro vs wx K hb hd hK
        obtain ⟨vs, rfl⟩ := put_of (show vs 52 = _ from hd ⟨52, .guard⟩ (by simp) rfl)
        obtain ⟨c0, c1, c2⟩ := cells3' hb HKU.out
        have HBX := hide hb
        clear hb hd
        go_simp
        exact hK _ _ (Below.refl _ _) ⟨_, _, _, _, _, rfl, TmAt.below HTU.out HBX.out (Nat.le_refl _) HBX.out.size⟩
      · intro vs wx K hb hd hK
        have tm53 := hd ⟨53, .data⟩ (by simp) rfl
        have HX53 := hide tm53
        obtain ⟨p0_53, p1_53, pa_53, pl_53, pc_53, e53, _⟩ := tm53
        rw [e53] at HX53
        have tm54 := hd ⟨54, .data⟩ (by simp) rfl
        have HX54 := hide tm54
        obtain ⟨p0_54, p1_54, pa_54, pl_54, pc_54, e54, _⟩ := tm54
        rw [e54] at HX54
        obtain ⟨vs, rfl⟩ := put_of (show vs 53 = _ from e53)
        obtain ⟨vs, rfl⟩ := put_of (show vs 54 = _ from e54)
        obtain ⟨vs, rfl⟩ := put_of (show vs 52 = _ from hd ⟨52, .guard⟩ (by simp) rfl)
        clear e53 e54
        have HBX := hide hb
        clear hb hd
        go_simp
        refine (e_tsame HX53.out HX54.out GT.out GU.out).mono ?_
        rintro e w7 ⟨r, rfl, hr, hb7⟩
        obtain rfl : r = sb := Bool.eq_iff_iff.2 (hr.trans HSB.out.symm)
        exact hK _ _ hb7 rfl
      · intro vs wx K hb hd hK
        obtain ⟨vs, rfl⟩ := put_of (show vs 52 = _ from hd ⟨52, .guard⟩ (by simp) rfl)
        obtain ⟨c0, c1, c2⟩ := cells3' hb HKT.out
        have HBX := hide hb
        clear hb hd
        go_simp
        exact hK _ _ (Below.refl _ _) ⟨_, _, _, _, _, rfl, TmAt.below HTT.out HBX.out (Nat.le_refl _) HBX.out.size⟩
      · intro vs wx K hb hd hK
        obtain ⟨vs, rfl⟩ := put_of (show vs 52 = _ from hd ⟨52, .guard⟩ (by simp) rfl)
        obtain ⟨c0, c1, c2⟩ := cells3' hb HKU.out
        have HBX := hide hb
        clear hb hd
        go_simp
        exact hK _ _ (Below.refl _ _) ⟨_, _, _, _, _, rfl, TmAt.below HTU.out HBX.out (Nat.le_refl _) HBX.out.size⟩
      · intro vs wx K hb hd hK
        have tm56 := hd ⟨56, .data⟩ (by simp) rfl
        have HX56 := hide tm56
        obtain ⟨p0_56, p1_56, pa_56, pl_56, pc_56, e56, _⟩ := tm56
        rw [e56] at HX56
        have tm57 := hd ⟨57, .data⟩ (by simp) rfl
        have HX57 := hide tm57
        obtain ⟨p0_57, p1_57, pa_57, pl_57, pc_57, e57, _⟩ := tm57
        rw [e57] at HX57
        obtain ⟨vs, rfl⟩ := put_of (show vs 56 = _ from e56)
        obtain ⟨vs, rfl⟩ := put_of (show vs 57 = _ from e57)
        obtain ⟨vs, rfl⟩ := put_of (show vs 52 = _ from hd ⟨52, .guard⟩ (by simp) rfl)
        clear e56 e57
        have HBX := hide hb
        clear hb hd
        go_simp
        refine (c_same HX56.out HX57.out).mono ?_
        rintro e w7 ⟨r, rfl, hr, hb7⟩
        obtain rfl : r = sb := Bool.eq_iff_iff.2 (hr.trans HSB.out.symm)
        exact hK _ _ hb7 rfl
      · intro vs wx K hb hd hK
        obtain ⟨vs, rfl⟩ := put_of (show vs 55 = _ from hd ⟨55, .data⟩ (by simp) rfl)
        obtain ⟨vs, rfl⟩ := put_of (show vs 58 = _ from hd ⟨58, .data⟩ (by simp) rfl)
        obtain ⟨vs, rfl⟩ := put_of (show vs 52 = _ from hd ⟨52, .guard⟩ (by simp) rfl)
        have HBX := hide hb
        clear hb hd
        go_simp
        exact hK _ _ (Below.refl _ _) rfl
      · intro vs wx K hb hd hK
        obtain ⟨vs, rfl⟩ := put_of (show vs 52 = _ from hd ⟨52, .data⟩ (by simp) rfl)
        obtain ⟨vs, rfl⟩ := put_of (show vs 59 = _ from hd ⟨59, .data⟩ (by simp) rfl)
        have HBX := hide hb
        clear hb hd
        go_simp
        exact hK _ _ (Below.refl _ _) rfl
      · intro vs wx K hb hd hK
        obtain ⟨vs, rfl⟩ := put_of (show vs 60 = _ from hd ⟨60, .data⟩ (by simp) rfl)
        have HBX := hide hb
        clear hb hd
        go_simp
        exact hK _ _ (Below.refl _ _) rfl
      · intro vs wx K hb hd hK
        obtain ⟨vs, rfl⟩ := put_of (show vs 61 = _ from hd ⟨61, .guard⟩ (by simp) rfl)
        obtain ⟨c0, c1, c2⟩ := cells3' hb HKT.out
        have HBX := hide hb
        clear hb hd
        go_simp
        exact hK _ _ (Below.refl _ _) ⟨_, _, _, _, _, rfl, TmAt.below HTT.out HBX.out (Nat.le_refl _) HBX.out.size⟩
      · intro vs wx K hb hd hK
        obtain ⟨vs, rfl⟩ := put_of (show vs 61 = _ from hd ⟨61, .guard⟩ (by simp) rfl)
        obtain ⟨c0, c1, c2⟩ := cells3' hb HK0W.out
        have HBX := hide hb
        clear hb hd
        go_simp
        exact hK _ _ (Below.refl _ _) ⟨_, _, _, _, _, rfl, TmAt.below HR0W.out HBX.out (Nat.le_refl _) HBX.out.size⟩
      · intro vs wx K hb hd hK
        have tm63 := hd ⟨63, .data⟩ (by simp) rfl
        have HX63 := hide tm63
        obtain ⟨p0_63, p1_63, pa_63, pl_63, pc_63, e63, _⟩ := tm63
        rw [e63] at HX63
        obtain ⟨vs, rfl⟩ := put_of (show vs 63 = _ from e63)
        obtain ⟨vs, rfl⟩ := put_of (show vs 61 = _ from hd ⟨61, .guard⟩ (by simp) rfl)
        clear e63
        have HBX := hide hb
        clear hb hd
        go_simp
        refine (e_make (d := 6) HX63.out (by decide) (by decide) (by decide)).mono ?_
        rintro e w7 ⟨u, rfl, hu, hb7⟩
        rw [← HET.out] at hu
        exact hK _ _ hb7 hu
      · intro vs wx K hb hd hK
        have tm62 := hd ⟨62, .data⟩ (by simp) rfl
        have HX62 := hide tm62
        obtain ⟨p0_62, p1_62, pa_62, pl_62, pc_62, e62, _⟩ := tm62
        rw [e62] at HX62
        have tm64 := hd ⟨64, .data⟩ (by simp) rfl
        have HX64 := hide tm64
        obtain ⟨p0_64, p1_64, pa_64, pl_64, pc_64, e64, _⟩ := tm64
        rw [e64] at HX64
        obtain ⟨vs, rfl⟩ := put_of (show vs 62 = _ from e62)
        obtain ⟨vs, rfl⟩ := put_of (show vs 64 = _ from e64)
        obtain ⟨vs, rfl⟩ := put_of (show vs 61 = _ from hd ⟨61, .guard⟩ (by simp) rfl)
        clear e62 e64
        have HBX := hide hb
        clear hb hd
        go_simp
        refine (e_tsame HX62.out HX64.out GT.out GT.out).mono ?_
        rintro e w7 ⟨r, rfl, hr, hb7⟩
        obtain rfl := hr.2 rfl
        exact hK _ _ hb7 rfl
      · intro vs wx K hb hd hK
        obtain ⟨vs, rfl⟩ := put_of (show vs 61 = _ from hd ⟨61, .data⟩ (by simp) rfl)
        obtain ⟨vs, rfl⟩ := put_of (show vs 65 = _ from hd ⟨65, .data⟩ (by simp) rfl)
        have HBX := hide hb
        clear hb hd
        go_simp
        exact hK _ _ (Below.refl _ _) rfl
      · intro vs wx K hb hd hK
        obtain ⟨vs, rfl⟩ := put_of (show vs 66 = _ from hd ⟨66, .data⟩ (by simp) rfl)
        have HBX := hide hb
        clear hb hd
        go_simp
        exact hK _ _ (Below.refl _ _) rfl
    · intro vs wx hb hF
      obtain ⟨vs, rfl⟩ := put_of (show vs 67 = _ from hF 67 (by decide))
      have HBX := hide hb
      clear hb hF
      simp only [put, Nat.reduceEqDiff, reduceIte]
      go_wp2_with fail
      go_ret
      exact ⟨rfl, HBW.out.trans (HBX.out.mono HBW.out.size)⟩
#print axioms moves_any
end Go.Proofs.YtpmaagafcpaajaaDoor
