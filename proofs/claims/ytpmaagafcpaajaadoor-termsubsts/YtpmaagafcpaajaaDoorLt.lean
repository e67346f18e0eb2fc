/- The walk of TermSubsts. -/
import Derived.Test.YtpmaagafcpaajaaDoorLc
import Derived.Test.YtpmaagafcpaajaaDoorLd
namespace Go.Proofs.YtpmaagafcpaajaaDoor
open Go.RowKit
attribute [local go_sem] put

def substs_anyM (x0 : Value) (x1 : Value) (x2 : Value) (T U V : Tr) : Nat → Value → World → (Nat → Prop) → Prop
  | 0 => fun v _ _ => v = x0
  | 1 => fun v w M => IsM 6 T v w M
  | 2 => fun v _ _ => v = x1
  | 3 => fun v w M => IsM 4 U v w M
  | 4 => fun v _ _ => v = x2
  | 5 => fun v w M => IsM 4 V v w M
  | _ => fun _ _ _ => True
theorem substs_anyM.keep (x0 : Value) (x1 : Value) (x2 : Value) (T U V : Tr) (k : Nat) (v : Value) (w w' : World) (M M' : Nat → Prop) (h : substs_anyM x0 x1 x2 T U V k v w M) (hf : Fr M w w') (hM : ∀ q, q < w.heap.size → (M' q ↔ M q)) : substs_anyM x0 x1 x2 T U V k v w' M' := by
  unfold substs_anyM at *
  split at h <;> first | exact h | exact IsM.keep h hf hM
def substs_F7 (T U V : Tr) : Nat → Value → World → (Nat → Prop) → Prop
  | 0 => fun v w M => IsM (6) (T) v w M
  | 1 => fun v w M => IsM (4) (U) v w M
  | 2 => fun v w M => IsM (4) (shf (1) (0) 0 (U)) v w M
  | 3 => fun v w M => IsM (6 + 4) (sub (0) (shf (1) (0) 0 (U)) 0 (T)) v w M
  | 4 => fun v w M => IsM (4) (V) v w M
  | 5 => fun v w M => IsM (6 + 4 + 4) (sub (0) (V) 0 (sub (0) (shf (1) (0) 0 (U)) 0 (T))) v w M
  | _ => fun _ _ _ => True
theorem substs_F7.keep (T U V : Tr) (k : Nat) (v : Value) (w w' : World) (M M' : Nat → Prop) (h : substs_F7 T U V k v w M) (hf : Fr M w w') (hM : ∀ q, q < w.heap.size → (M' q ↔ M q)) : substs_F7 T U V k v w' M' := by
  unfold substs_F7 at *
  split at h <;> first | exact h | exact IsM.keep h hf hM
def substs_F8 (T U V : Tr) : Nat → Value → World → (Nat → Prop) → Prop
  | 0 => fun v w M => IsM (6) (T) v w M
  | 1 => fun v w M => IsM (4) (V) v w M
  | 2 => fun v w M => IsM (4) (shf (1) (0) 0 (V)) v w M
  | 3 => fun v w M => IsM (6 + 4) (sub (1) (shf (1) (0) 0 (V)) 0 (T)) v w M
  | 4 => fun v w M => IsM (4) (U) v w M
  | 5 => fun v w M => IsM (6 + 4 + 4) (sub (0) (U) 0 (sub (1) (shf (1) (0) 0 (V)) 0 (T))) v w M
  | _ => fun _ _ _ => True
theorem substs_F8.keep (T U V : Tr) (k : Nat) (v : Value) (w w' : World) (M M' : Nat → Prop) (h : substs_F8 T U V k v w M) (hf : Fr M w w') (hM : ∀ q, q < w.heap.size → (M' q ↔ M q)) : substs_F8 T U V k v w' M' := by
  unfold substs_F8 at *
  split at h <;> first | exact h | exact IsM.keep h hf hM
def substs_F10 (T U : Tr) (bx : Int) : Nat → Value → World → (Nat → Prop) → Prop
  | 0 => fun v w M => IsM (6) (T) v w M
  | 1 => fun v _ _ => v = .int .i64 (bx)
  | 2 => fun v w M => IsM (6) (shf (bx) (1) 0 (T)) v w M
  | 3 => fun v w M => IsM (4) (U) v w M
  | 4 => fun v _ _ => v = .int .i64 (bx)
  | 5 => fun v w M => IsM (4) (shf (bx) (0) 0 (U)) v w M
  | 6 => fun v w M => IsM (6 + 4) (sub (0) (shf (bx) (0) 0 (U)) 0 (shf (bx) (1) 0 (T))) v w M
  | _ => fun _ _ _ => True
theorem substs_F10.keep (T U : Tr) (bx : Int) (k : Nat) (v : Value) (w w' : World) (M M' : Nat → Prop) (h : substs_F10 T U bx k v w M) (hf : Fr M w w') (hM : ∀ q, q < w.heap.size → (M' q ↔ M q)) : substs_F10 T U bx k v w' M' := by
  unfold substs_F10 at *
  split at h <;> first | exact h | exact IsM.keep h hf hM
set_option maxRecDepth 20000 in
set_option maxHeartbeats 4000000 in
theorem substs_any (B f : Nat) (r0 : Tr) (v0 : Value) (r1 : Tr) (v1 : Value) (r2 : Tr) (v2 : Value) (by_ : Int) (w : World) (h0 : TmAt w B f r0 v0) (h1 : TmAt w B f r1 v1) (h2 : TmAt w B f r2 v2) (hB : B ≤ w.heap.size) (ht : Tabs w.heap.size w) (hl : Tl w) (hb : Tb w) :
    Calls Tryd.prog 6 #[v0, v1, v2, .int .i64 by_] w fun e w' => e = .returned (.bool true) ∧ Below w.heap.size w w' := by
  have HR0 := hide (raw64_of h0)
  have H0 := hide h0
  obtain ⟨a0, z0, rfl, _, _, o0, n0⟩ := h0.shape
  clear h0
  have HR1 := hide (raw64_of h1)
  have H1 := hide h1
  obtain ⟨a1, z1, rfl, _, _, o1, n1⟩ := h1.shape
  clear h1
  have HR2 := hide (raw64_of h2)
  have H2 := hide h2
  obtain ⟨a2, z2, rfl, _, _, o2, n2⟩ := h2.shape
  clear h2
  have HT := hide ht; have HL := hide hl; have HTB := hide hb
  clear ht hl hb
  have HA : Hid (Below w.heap.size w (((w.alloc (.cells #[.int .i64 r0.op, .int .i64 r0.n, .slice a0 r0.kids.length z0] 24)).alloc (.cells #[.int .i64 r1.op, .int .i64 r1.n, .slice a1 r1.kids.length z1] 24)).alloc (.cells #[.int .i64 r2.op, .int .i64 r2.n, .slice a2 r2.kids.length z2] 24))) := ((((Below.refl w.heap.size w).alloc (Nat.le_refl _) _).alloc (by simp) _).alloc (by simp; omega) _)
  go_enter Tryd.func6, Tryd.ntmps6
  go_wp2_with fail
  refine (known_any _ (HT.out.later HA.out) (HL.out.later HA.out)).mono ?_
  rintro e w1 ⟨rfl, hb1⟩
  obtain ⟨k0, k1, k2, hbl, hs1⟩ := box_three hb1
  have HB1 := hide hbl; have HK0_1 := hide k0; have HK1_1 := hide k1; have HK2_1 := hide k2
  clear hb1 hbl k0 k1 k2
  obtain ⟨c0, c1, c2⟩ := blk3 HK0_1.out
  go_wp2_with fail
  refine (few_any B f r0 _ w1 (TmAt.below H0.out HB1.out hB (Nat.le_refl _)) (Nat.le_trans hB HB1.out.size)).mono ?_
  rintro e w2 ⟨rfl, hb2⟩
  have HB2 : Hid (Below w.heap.size w w2) := HB1.out.trans (hb2.mono HB1.out.size)
  have hs2 := hb2.size
  have HK0_2 := hide ((hb2.block _ (size_of_block HK0_1.out)).trans HK0_1.out)
  have HK1_2 := hide ((hb2.block _ (size_of_block HK1_1.out)).trans HK1_1.out)
  have HK2_2 := hide ((hb2.block _ (size_of_block HK2_1.out)).trans HK2_1.out)
  clear hb2 c0 c1 c2 HK0_1 HK1_1 HK2_1
  by_cases hq0 : r0.size < 300
  rotate_left
  · rw [decide_eq_false hq0]
    go_wp2_with fail
    go_ret
    exact ⟨rfl, HB2.out⟩
  rw [decide_eq_true hq0]
  obtain ⟨c0, c1, c2⟩ := blk3 HK1_2.out
  go_wp2_with fail
  refine (few_any B f r1 _ w2 (TmAt.below H1.out HB2.out hB (Nat.le_refl _)) (Nat.le_trans hB HB2.out.size)).mono ?_
  rintro e w3 ⟨rfl, hb3⟩
  have HB3 : Hid (Below w.heap.size w w3) := HB2.out.trans (hb3.mono HB2.out.size)
  have hs3 := hb3.size
  have HK0_3 := hide ((hb3.block _ (size_of_block HK0_2.out)).trans HK0_2.out)
  have HK1_3 := hide ((hb3.block _ (size_of_block HK1_2.out)).trans HK1_2.out)
  have HK2_3 := hide ((hb3.block _ (size_of_block HK2_2.out)).trans HK2_2.out)
  clear hb3 c0 c1 c2 HK0_2 HK1_2 HK2_2
  by_cases hq1 : r1.size < 300
  rotate_left
  · rw [decide_eq_false hq1]
    go_wp2_with fail
    go_ret
    exact ⟨rfl, HB3.out⟩
  rw [decide_eq_true hq1]
  obtain ⟨c0, c1, c2⟩ := blk3 HK2_3.out
  go_wp2_with fail
  refine (few_any B f r2 _ w3 (TmAt.below H2.out HB3.out hB (Nat.le_refl _)) (Nat.le_trans hB HB3.out.size)).mono ?_
  rintro e w4 ⟨rfl, hb4⟩
  have HB4 : Hid (Below w.heap.size w w4) := HB3.out.trans (hb4.mono HB3.out.size)
  have hs4 := hb4.size
  have HK0_4 := hide ((hb4.block _ (size_of_block HK0_3.out)).trans HK0_3.out)
  have HK1_4 := hide ((hb4.block _ (size_of_block HK1_3.out)).trans HK1_3.out)
  have HK2_4 := hide ((hb4.block _ (size_of_block HK2_3.out)).trans HK2_3.out)
  clear hb4 c0 c1 c2 HK0_3 HK1_3 HK2_3
  by_cases hq2 : r2.size < 300
  rotate_left
  · rw [decide_eq_false hq2]
    go_wp2_with fail
    go_ret
    exact ⟨rfl, HB4.out⟩
  rw [decide_eq_true hq2]
  go_wp2_with fail
  have HR0T : Hid (TmAt w4 w4.heap.size f r0 (.agg #[.int .i64 r0.op, .int .i64 r0.n, .slice a0 r0.kids.length z0])) := TmAt.below H0.out HB4.out hB (Nat.le_trans hB HB4.out.size)
  have HR1T : Hid (TmAt w4 w4.heap.size f r1 (.agg #[.int .i64 r1.op, .int .i64 r1.n, .slice a1 r1.kids.length z1])) := TmAt.below H1.out HB4.out hB (Nat.le_trans hB HB4.out.size)
  have HR2T : Hid (TmAt w4 w4.heap.size f r2 (.agg #[.int .i64 r2.op, .int .i64 r2.n, .slice a2 r2.kids.length z2])) := TmAt.below H2.out HB4.out hB (Nat.le_trans hB HB4.out.size)
  refine wp_region_boxes (by kernel_rfl) (by kernel_rfl) (fun vs => { tmps := #[Value.agg #[Value.int IntKind.i64 r0.op, Value.int IntKind.i64 r0.n, Value.slice a0 r0.kids.length z0], Value.agg #[Value.int IntKind.i64 r1.op, Value.int IntKind.i64 r1.n, Value.slice a1 r1.kids.length z1], Value.agg #[Value.int IntKind.i64 r2.op, Value.int IntKind.i64 r2.n, Value.slice a2 r2.kids.length z2], Value.int IntKind.i64 by_, Value.pointer (some { block := w.heap.size, off := 0 }), Value.pointer (some { block := w.heap.size + 1, off := 0 }), Value.pointer (some { block := w.heap.size + 1 + 1, off := 0 }), undef, Value.bool false, vs 6, vs 7, vs 8, undef, undef, undef, undef, Value.bool true, Value.bool false, Value.agg #[Value.int IntKind.i64 r0.op, Value.int IntKind.i64 r0.n, Value.slice a0 r0.kids.length z0], Value.bool true, Value.bool false, Value.bool false, Value.agg #[Value.int IntKind.i64 r1.op, Value.int IntKind.i64 r1.n, Value.slice a1 r1.kids.length z1], Value.bool true, Value.bool false, Value.bool false, Value.bool false, Value.agg #[Value.int IntKind.i64 r2.op, Value.int IntKind.i64 r2.n, Value.slice a2 r2.kids.length z2], Value.bool true, Value.bool false, Value.bool false, vs 0, vs 1, vs 2, vs 3, vs 4, vs 5, undef, undef, undef, undef, undef, undef, undef, undef, undef, undef, undef, undef, undef, undef, undef, undef, undef, undef, undef, undef, undef, undef, undef, undef, undef, undef, undef, undef, undef, undef, undef, undef, undef, undef], defers := [] }) (fun i => [undef, undef, undef, undef, undef, undef, undef, undef, undef, undef, undef, undef].getD i undef) [(6, 1, 9), (7, 3, 10), (8, 5, 11)] (by decide) #[.int .i64 0, .int .i64 0, .slice none 0 0] 29 (substs_anyM (.agg #[.int .i64 r0.op, .int .i64 r0.n, .slice a0 r0.kids.length z0]) (.agg #[.int .i64 r1.op, .int .i64 r1.n, .slice a1 r1.kids.length z1]) (.agg #[.int .i64 r2.op, .int .i64 r2.n, .slice a2 r2.kids.length z2]) (mkT 5 4 r0) (mkT 3 3 r1) (mkT 3 3 r2)) (substs_anyM.keep (.agg #[.int .i64 r0.op, .int .i64 r0.n, .slice a0 r0.kids.length z0]) (.agg #[.int .i64 r1.op, .int .i64 r1.n, .slice a1 r1.kids.length z1]) (.agg #[.int .i64 r2.op, .int .i64 r2.n, .slice a2 r2.kids.length z2]) (mkT 5 4 r0) (mkT 3 3 r1) (mkT 3 3 r2)) ?_ ?_
  · refine ⟨⟨fun _ => ?_, fun x hx h => absurd h (by revert x; decide), fun x hx h => absurd h (by revert x; decide)⟩, ⟨fun _ => ?_, fun x hx h => absurd h (by revert x; decide), fun x hx h => absurd h (by revert x; decide)⟩, ⟨fun _ => ?_, fun x hx h => absurd h (by revert x; decide), fun x hx h => absurd h (by revert x; decide)⟩, ⟨fun _ => ?_, fun x hx h => absurd h (by revert x; decide), fun x hx h => absurd h (by revert x; decide)⟩, ⟨fun _ => ?_, fun x hx h => absurd h (by revert x; decide), fun x hx h => absurd h (by revert x; decide)⟩, ⟨fun _ => ?_, fun x hx h => absurd h (by revert x; decide), fun x hx h => absurd h (by revert x; decide)⟩, ⟨fun h => absurd h (by unfold Plainly; decide), fun x hx h => ?_, fun x hx h => absurd h (by revert x; decide)⟩, ⟨fun h => absurd h (by unfold Plainly; decide), fun x hx h => ?_, fun x hx h => absurd h (by revert x; decide)⟩, ⟨fun h => absurd h (by unfold Plainly; decide), fun x hx h => ?_, fun x hx h => absurd h (by revert x; decide)⟩, ⟨fun h => absurd h (by unfold Plainly; decide), fun x hx h => absurd h (by revert x; decide), fun x hx h => ?_⟩, ⟨fun h => absurd h (by unfold Plainly; decide), fun x hx h => absurd h (by revert x; decide), fun x hx h => ?_⟩, ⟨fun h => absurd h (by unfold Plainly; decide), fun x hx h => absurd h (by revert x; decide), fun x hx h => ?_⟩, trivial⟩
    · intro vs wx M K hb hd hM hK
      obtain ⟨c0, c1, c2⟩ := cells3' hb HK0_4.out
      clear hb hd
      go_simp
      exact hK _ _ (Below.refl _ _) rfl
    · intro vs wx M K hb hd hM hK
      obtain ⟨vs, rfl⟩ := put_of (show vs 0 = _ from hd ⟨0, .data⟩ (by simp) rfl (by unfold Plainly; decide))
      have HBX := hide hb; have HM := hide hM
      clear hb hd hM
      go_simp
      refine (c_make (d := 5) M (fun q hq => (HM.out q hq).2) (TmAt.below HR0T.out HBX.out (Nat.le_refl _) (Nat.le_refl _)) HBX.out.size (by decide) (by decide) (by decide)).mono ?_
      rintro e w7 ⟨u, rfl, hu, hb7⟩
      exact hK _ _ hb7 hu
    · intro vs wx M K hb hd hM hK
      obtain ⟨c0, c1, c2⟩ := cells3' hb HK1_4.out
      clear hb hd
      go_simp
      exact hK _ _ (Below.refl _ _) rfl
    · intro vs wx M K hb hd hM hK
      obtain ⟨vs, rfl⟩ := put_of (show vs 2 = _ from hd ⟨2, .data⟩ (by simp) rfl (by unfold Plainly; decide))
      have HBX := hide hb; have HM := hide hM
      clear hb hd hM
      go_simp
      refine (c_make (d := 3) M (fun q hq => (HM.out q hq).2) (TmAt.below HR1T.out HBX.out (Nat.le_refl _) (Nat.le_refl _)) HBX.out.size (by decide) (by decide) (by decide)).mono ?_
      rintro e w7 ⟨u, rfl, hu, hb7⟩
      exact hK _ _ hb7 hu
    · intro vs wx M K hb hd hM hK
      obtain ⟨c0, c1, c2⟩ := cells3' hb HK2_4.out
      clear hb hd
      go_simp
      exact hK _ _ (Below.refl _ _) rfl
    · intro vs wx M K hb hd hM hK
      obtain ⟨vs, rfl⟩ := put_of (show vs 4 = _ from hd ⟨4, .data⟩ (by simp) rfl (by unfold Plainly; decide))
      have HBX := hide hb; have HM := hide hM
      clear hb hd hM
      go_simp
      refine (c_make (d := 3) M (fun q hq => (HM.out q hq).2) (TmAt.below HR2T.out HBX.out (Nat.le_refl _) (Nat.le_refl _)) HBX.out.size (by decide) (by decide) (by decide)).mono ?_
      rintro e w7 ⟨u, rfl, hu, hb7⟩
      exact hK _ _ hb7 hu
    · intro vs wx K hK
      clear hx h
      go_simp
      exact hK
    · intro vs wx K hK
      clear hx h
      go_simp
      exact hK
    · intro vs wx K hK
      clear hx h
      go_simp
      exact hK
    · obtain rfl : x = (6, 1, 9) := (by revert h; revert x; decide)
      refine ⟨⟨⟨6, .data⟩, by simp, rfl, rfl⟩, ⟨⟨1, .data⟩, by simp, rfl, rfl⟩, ?_⟩
      intro vs wx M K q hF hq hz hK
      obtain ⟨p0, p1, pa, pl, pc, e1, _⟩ := (show IsM _ _ _ _ _ from hF)
      obtain ⟨vs, rfl⟩ := put_of (show vs 1 = _ from e1)
      obtain ⟨vs, rfl⟩ := put_of (show vs 6 = _ from hq)
      obtain ⟨y0, y1, y2⟩ := blk3 hz
      obtain ⟨z0, z1, z2⟩ := frz3 hz
      have HZ := hide hz
      clear hF hq hz hx h e1
      go_simp
      exact hK _ _ (fr_put3 _ _ _ _ _) (put3_blk HZ.out _ _ _) rfl
    · obtain rfl : x = (7, 3, 10) := (by revert h; revert x; decide)
      refine ⟨⟨⟨7, .data⟩, by simp, rfl, rfl⟩, ⟨⟨3, .data⟩, by simp, rfl, rfl⟩, ?_⟩
      intro vs wx M K q hF hq hz hK
      obtain ⟨p0, p1, pa, pl, pc, e1, _⟩ := (show IsM _ _ _ _ _ from hF)
      obtain ⟨vs, rfl⟩ := put_of (show vs 3 = _ from e1)
      obtain ⟨vs, rfl⟩ := put_of (show vs 7 = _ from hq)
      obtain ⟨y0, y1, y2⟩ := blk3 hz
      obtain ⟨z0, z1, z2⟩ := frz3 hz
      have HZ := hide hz
      clear hF hq hz hx h e1
      go_simp
      exact hK _ _ (fr_put3 _ _ _ _ _) (put3_blk HZ.out _ _ _) rfl
    · obtain rfl : x = (8, 5, 11) := (by revert h; revert x; decide)
      refine ⟨⟨⟨8, .data⟩, by simp, rfl, rfl⟩, ⟨⟨5, .data⟩, by simp, rfl, rfl⟩, ?_⟩
      intro vs wx M K q hF hq hz hK
      obtain ⟨p0, p1, pa, pl, pc, e1, _⟩ := (show IsM _ _ _ _ _ from hF)
      obtain ⟨vs, rfl⟩ := put_of (show vs 5 = _ from e1)
      obtain ⟨vs, rfl⟩ := put_of (show vs 8 = _ from hq)
      obtain ⟨y0, y1, y2⟩ := blk3 hz
      obtain ⟨z0, z1, z2⟩ := frz3 hz
      have HZ := hide hz
      clear hF hq hz hx h e1
      go_simp
      exact hK _ _ (fr_put3 _ _ _ _ _) (put3_blk HZ.out _ _ _) rfl
  · intro vs wx M hb hF hB
    obtain ⟨q0, cs0, b0, l0, m0, h0, g0⟩ := hB (6, 1, 9) (by simp) (by decide) (by decide)
    obtain ⟨t00, t01, t0a, t0l, t0c, rfl, tm0⟩ := (show IsM _ _ _ _ _ from hF 1 (by decide) (by unfold Plainly; decide)).box g0
    obtain ⟨vs, rfl⟩ := put_of (show vs 6 = _ from b0)
    obtain ⟨q1, cs1, b1, l1, m1, h1, g1⟩ := hB (7, 3, 10) (by simp) (by decide) (by decide)
    obtain ⟨t10, t11, t1a, t1l, t1c, rfl, tm1⟩ := (show IsM _ _ _ _ _ from hF 3 (by decide) (by unfold Plainly; decide)).box g1
    obtain ⟨vs, rfl⟩ := put_of (show vs 7 = _ from b1)
    obtain ⟨q2, cs2, b2, l2, m2, h2, g2⟩ := hB (8, 5, 11) (by simp) (by decide) (by decide)
    obtain ⟨t20, t21, t2a, t2l, t2c, rfl, tm2⟩ := (show IsM _ _ _ _ _ from hF 5 (by decide) (by unfold Plainly; decide)).box g2
    obtain ⟨vs, rfl⟩ := put_of (show vs 8 = _ from b2)
    have HBX := hide hb; have HKT := hide h0; have HTT := hide tm0; have HKU := hide h1; have HTU := hide tm1; have HKV := hide h2; have HTV := hide tm2
    clear hb hF hB h0 tm0 g0 h1 tm1 g1 h2 tm2 g2
    have HBW : Hid (Below w.heap.size w wx) := HB4.out.trans (HBX.out.mono HB4.out.size)
    have G0 := hide (Gd.mk' (d := 5) (vars := 4) HR0.out (by decide) (by decide) (by decide))
    obtain ⟨T, hT⟩ : ∃ T, T = mkT 5 4 r0 := ⟨_, rfl⟩
    have HET := hide hT
    rw [← hT] at G0 HTT
    clear hT
    have G1 := hide (Gd.mk' (d := 3) (vars := 3) HR1.out (by decide) (by decide) (by decide))
    obtain ⟨U, hU⟩ : ∃ U, U = mkT 3 3 r1 := ⟨_, rfl⟩
    have HEU := hide hU
    rw [← hU] at G1 HTU
    clear hU
    have G2 := hide (Gd.mk' (d := 3) (vars := 3) HR2.out (by decide) (by decide) (by decide))
    obtain ⟨V, hV⟩ : ∃ V, V = mkT 3 3 r2 := ⟨_, rfl⟩
    have HEV := hide hV
    rw [← hV] at G2 HTV
    clear hV
    clear HK0_4 HR0T HK1_4 HR1T HK2_4 HR2T HBX HA
    simp only [put, Nat.reduceEqDiff, reduceIte, ptr]
    clear b0 b1 b2
    generalize vs 0 = s0; generalize vs 1 = s1; generalize vs 2 = s2; generalize vs 3 = s3; generalize vs 4 = s4; generalize vs 5 = s5
    clear vs
    go_wp2_with fail
    refine (lwithin_n by_ 4 _ (by decide) (by decide)).mono ?_
    rintro e w9 ⟨rfl, h9⟩
    rw [h9]
    clear h9 w9
    have ha := wi_n by_ 4 (by decide)
    generalize wi by_ 4 = bx at *
    obtain ⟨ha0, ha1⟩ := ha
    go_wp2_with fail
    have GT := hide G0.out.1; have GU := hide G1.out.1; have GV := hide G2.out.1
    have ST : Hid (Snd 3000 T) := hide G0.out.2.1.snd; have SU : Hid (Snd 3000 U) := hide G1.out.2.1.snd; have SV : Hid (Snd 3000 V) := hide G2.out.2.1.snd
    have LT : Hid (T.lvs ≤ 1024) := hide (by rw [HET.out]; exact mk_lvs 5 4 r0)
    have LU : Hid (U.lvs ≤ 64) := hide (by rw [HEU.out]; exact mk_lvs 3 3 r1)
    have LV : Hid (V.lvs ≤ 64) := hide (by rw [HEV.out]; exact mk_lvs 3 3 r2)
    have ZT : Hid (T.size ≤ 1365) := hide G0.out.2.2; have ZU : Hid (U.size ≤ 85) := hide G1.out.2.2; have ZV : Hid (V.size ≤ 85) := hide G2.out.2.2
    have HTB' : Hid (Tb wx) := hide (HTB.out.later HBW.out)
    clear G0 G1 G2
    have GSU : Hid (Gd 4 (shf (1) (0) 0 (U))) := hide (GU.out.shf (SU.out.more (by decide)) (by omega) 0)
    have GSV : Hid (Gd 4 (shf (1) (0) 0 (V))) := hide (GV.out.shf (SV.out.more (by decide)) (by omega) 0)
    have ZSU : Hid ((shf (1) (0) 0 (U)).size ≤ 85) := hide (by rw [shf_size]; exact ZU.out)
    have ZSV : Hid ((shf (1) (0) 0 (V)).size ≤ 85) := hide (by rw [shf_size]; exact ZV.out)
    have LSU : Hid ((shf (1) (0) 0 (U)).lvs ≤ 64) := hide (by rw [lvs_shf]; exact LU.out)
    have LSV : Hid ((shf (1) (0) 0 (V)).lvs ≤ 64) := hide (by rw [lvs_shf]; exact LV.out)
    have KEY : Hid (∀ (n : Int) (s : Tr), 0 ≤ n → s.size ≤ 85 → s.lvs ≤ 64 → Snd 6000 s → T.size + s.size * cnt (fun x => decide (x = n)) 0 T ≤ 8388608 ∧ Gd 10 (sub n s 0 T) ∧ (sub n s 0 T).size ≤ 88405 ∧ (sub n s 0 T).lvs ≤ 65536 ∧ Snd 26000 (sub n s 0 T)) := hide (fun n s hn hz hl hs => by
      have h1 := size_sub_le n s 0 T ST.out
      have h2 := Nat.mul_le_mul LT.out hz
      have h3 := lvs_sub n s 0 T ST.out (m := 64) (by decide) hl
      have h4 := Nat.mul_le_mul_right 64 LT.out
      have h5 := ZT.out
      have h6 := snd_sub (n := n) (u := 0) hn (Int.le_refl _) hs ST.out (by omega)
      exact ⟨fit_lvs ZT.out LT.out hz (by decide), ⟨by omega, by decide, h6.more (by decide)⟩, by omega, by omega, h6.more (by decide)⟩)
    have SSU : Hid (Snd 6000 (shf (1) (0) 0 (U))) := hide (snd_shf SU.out (by omega) 0)
    have SSV : Hid (Snd 6000 (shf (1) (0) 0 (V))) := hide (snd_shf SV.out (by omega) 0)
    have K1 := hide (KEY.out 0 (shf (1) (0) 0 (U)) (by decide) ZSU.out LSU.out SSU.out)
    have Z1 := hide K1.out.1; have GX := hide K1.out.2.1
    have Z2 : Hid ((sub (0) (shf (1) (0) 0 (U)) 0 (T)).size + V.size * cnt (fun x => decide (x = 0)) 0 (sub (0) (shf (1) (0) 0 (U)) 0 (T)) ≤ 8388608) := hide (fit_lvs K1.out.2.2.1 K1.out.2.2.2.1 ZV.out (by decide))
    have K2 := hide (KEY.out 1 (shf (1) (0) 0 (V)) (by decide) ZSV.out LSV.out SSV.out)
    have Z3 := hide K2.out.1; have GY := hide K2.out.2.1
    have Z4 : Hid ((sub (1) (shf (1) (0) 0 (V)) 0 (T)).size + U.size * cnt (fun x => decide (x = 0)) 0 (sub (1) (shf (1) (0) 0 (V)) 0 (T)) ≤ 8388608) := hide (fit_lvs K2.out.2.2.1 K2.out.2.2.2.1 ZU.out (by decide))
    refine wp_region_boxes (by kernel_rfl) (by kernel_rfl) (fun vs => { tmps := #[Value.agg #[Value.int IntKind.i64 r0.op, Value.int IntKind.i64 r0.n, Value.slice a0 r0.kids.length z0], Value.agg #[Value.int IntKind.i64 r1.op, Value.int IntKind.i64 r1.n, Value.slice a1 r1.kids.length z1], Value.agg #[Value.int IntKind.i64 r2.op, Value.int IntKind.i64 r2.n, Value.slice a2 r2.kids.length z2], Value.int IntKind.i64 bx, Value.pointer (some { block := w.heap.size, off := 0 }), Value.pointer (some { block := w.heap.size + 1, off := 0 }), Value.pointer (some { block := w.heap.size + 1 + 1, off := 0 }), undef, Value.bool false, Value.pointer (some { block := q0, off := 0 }), Value.pointer (some { block := q1, off := 0 }), Value.pointer (some { block := q2, off := 0 }), vs 6, undef, undef, undef, Value.bool true, Value.bool false, Value.agg #[Value.int IntKind.i64 r0.op, Value.int IntKind.i64 r0.n, Value.slice a0 r0.kids.length z0], Value.bool true, Value.bool false, Value.bool false, Value.agg #[Value.int IntKind.i64 r1.op, Value.int IntKind.i64 r1.n, Value.slice a1 r1.kids.length z1], Value.bool true, Value.bool false, Value.bool false, Value.bool false, Value.agg #[Value.int IntKind.i64 r2.op, Value.int IntKind.i64 r2.n, Value.slice a2 r2.kids.length z2], Value.bool true, Value.bool false, Value.bool false, s0, s1, s2, s3, s4, s5, Value.int IntKind.i64 by_, Value.int IntKind.i64 bx, vs 0, vs 1, vs 2, vs 3, vs 4, vs 5, undef, undef, undef, undef, undef, undef, undef, undef, undef, undef, undef, undef, undef, undef, undef, undef, undef, undef, undef, undef, undef, undef, undef, undef, undef, undef], defers := [] }) (fun i => [undef, undef, undef, undef, undef, undef, undef, undef].getD i undef) [(6, 5, 7)] (by decide) #[.int .i64 0, .int .i64 0, .slice none 0 0] 29 (substs_F7 T U V) (substs_F7.keep T U V) ?_ ?_
    · refine ⟨⟨fun _ => ?_, fun x hx h => absurd h (by revert x; decide), fun x hx h => absurd h (by revert x; decide)⟩, ⟨fun _ => ?_, fun x hx h => absurd h (by revert x; decide), fun x hx h => absurd h (by revert x; decide)⟩, ⟨fun _ => ?_, fun x hx h => absurd h (by revert x; decide), fun x hx h => absurd h (by revert x; decide)⟩, ⟨fun _ => ?_, fun x hx h => absurd h (by revert x; decide), fun x hx h => absurd h (by revert x; decide)⟩, ⟨fun _ => ?_, fun x hx h => absurd h (by revert x; decide), fun x hx h => absurd h (by revert x; decide)⟩, ⟨fun _ => ?_, fun x hx h => absurd h (by revert x; decide), fun x hx h => absurd h (by revert x; decide)⟩, ⟨fun h => absurd h (by unfold Plainly; decide), fun x hx h => ?_, fun x hx h => absurd h (by revert x; decide)⟩, ⟨fun h => absurd h (by unfold Plainly; decide), fun x hx h => absurd h (by revert x; decide), fun x hx h => ?_⟩, trivial⟩
      · intro vs wx M K hb hd hM hK
        obtain ⟨c0, c1, c2⟩ := cells3' hb HKT.out
        have HBX := hide hb; have HM := hide hM
        clear hb hd hM
        go_simp
        exact hK _ _ (Below.refl _ _) (IsM.old HTT.out HBX.out HM.out)
      · intro vs wx M K hb hd hM hK
        obtain ⟨c0, c1, c2⟩ := cells3' hb HKU.out
        have HBX := hide hb; have HM := hide hM
        clear hb hd hM
        go_simp
        exact hK _ _ (Below.refl _ _) (IsM.old HTU.out HBX.out HM.out)
      · intro vs wx M K hb hd hM hK
        have tm1 := hd ⟨1, .data⟩ (by simp) rfl (by unfold Plainly; decide)
        have HX1 := hide tm1
        obtain ⟨p0_1, p1_1, pa_1, pl_1, pc_1, e1, _⟩ := tm1
        rw [e1] at HX1
        obtain ⟨vs, rfl⟩ := put_of (show vs 1 = _ from e1)
        clear e1
        have HBX := hide hb; have HM := hide hM
        clear hb hd hM
        go_simp
        refine (c_shiftM (fun q hq => (HM.out q hq).2) HX1.out GU.out (HTB'.out.later HBX.out) (by omega) (by omega)).mono ?_
        rintro e w7 ⟨u, rfl, hu, hb7⟩
        exact hK _ _ hb7 hu
      · intro vs wx M K hb hd hM hK
        have tm0 := hd ⟨0, .data⟩ (by simp) rfl (by unfold Plainly; decide)
        have HX0 := hide tm0
        obtain ⟨p0_0, p1_0, pa_0, pl_0, pc_0, e0, _⟩ := tm0
        rw [e0] at HX0
        have tm2 := hd ⟨2, .data⟩ (by simp) rfl (by unfold Plainly; decide)
        have HX2 := hide tm2
        obtain ⟨p0_2, p1_2, pa_2, pl_2, pc_2, e2, _⟩ := tm2
        rw [e2] at HX2
        obtain ⟨vs, rfl⟩ := put_of (show vs 0 = _ from e0)
        obtain ⟨vs, rfl⟩ := put_of (show vs 2 = _ from e2)
        clear e0 e2
        have HBX := hide hb; have HM := hide hM
        clear hb hd hM
        go_simp
        refine (c_substM (fun q hq => (HM.out q hq).2) HX0.out HX2.out GT.out GSU.out (HTB'.out.later HBX.out) Z1.out (by omega)).mono ?_
        rintro e w7 ⟨u, rfl, hu, hb7⟩
        exact hK _ _ hb7 hu
      · intro vs wx M K hb hd hM hK
        obtain ⟨c0, c1, c2⟩ := cells3' hb HKV.out
        have HBX := hide hb; have HM := hide hM
        clear hb hd hM
        go_simp
        exact hK _ _ (Below.refl _ _) (IsM.old HTV.out HBX.out HM.out)
      · intro vs wx M K hb hd hM hK
        have tm3 := hd ⟨3, .data⟩ (by simp) rfl (by unfold Plainly; decide)
        have HX3 := hide tm3
        obtain ⟨p0_3, p1_3, pa_3, pl_3, pc_3, e3, _⟩ := tm3
        rw [e3] at HX3
        have tm4 := hd ⟨4, .data⟩ (by simp) rfl (by unfold Plainly; decide)
        have HX4 := hide tm4
        obtain ⟨p0_4, p1_4, pa_4, pl_4, pc_4, e4, _⟩ := tm4
        rw [e4] at HX4
        obtain ⟨vs, rfl⟩ := put_of (show vs 3 = _ from e3)
        obtain ⟨vs, rfl⟩ := put_of (show vs 4 = _ from e4)
        clear e3 e4
        have HBX := hide hb; have HM := hide hM
        clear hb hd hM
        go_simp
        refine (c_substM (fun q hq => (HM.out q hq).2) HX3.out HX4.out GX.out GV.out (HTB'.out.later HBX.out) Z2.out (by omega)).mono ?_
        rintro e w7 ⟨u, rfl, hu, hb7⟩
        exact hK _ _ hb7 hu
      · intro vs wx K hK
        clear hx h
        go_simp
        exact hK
      · obtain rfl : x = (6, 5, 7) := (by revert h; revert x; decide)
        refine ⟨⟨⟨6, .data⟩, by simp, rfl, rfl⟩, ⟨⟨5, .data⟩, by simp, rfl, rfl⟩, ?_⟩
        intro vs wx M K q hF hq hz hK
        obtain ⟨p0, p1, pa, pl, pc, e1, _⟩ := (show IsM _ _ _ _ _ from hF)
        obtain ⟨vs, rfl⟩ := put_of (show vs 5 = _ from e1)
        obtain ⟨vs, rfl⟩ := put_of (show vs 6 = _ from hq)
        obtain ⟨y0, y1, y2⟩ := blk3 hz
        obtain ⟨z0, z1, z2⟩ := frz3 hz
        have HZ := hide hz
        clear hF hq hz hx h e1
        go_simp
        exact hK _ _ (fr_put3 _ _ _ _ _) (put3_blk HZ.out _ _ _) rfl
    · intro vs wy M hb hF hB
      obtain ⟨qX, csX, bX, lX, mX, hX, gX⟩ := hB (6, 5, 7) (by simp) (by decide) (by decide)
      obtain ⟨tX0, tX1, tXa, tXl, tXc, rfl, tmX⟩ := (show IsM _ _ _ _ _ from hF 5 (by decide) (by unfold Plainly; decide)).box gX
      obtain ⟨vs, rfl⟩ := put_of (show vs 6 = _ from bX)
      have HBY := hide hb; have HKX := hide hX; have HTX := hide tmX
      clear hb hF hB hX tmX gX bX
      simp only [put, Nat.reduceEqDiff, reduceIte, ptr]
      generalize vs 0 = scX0
      generalize vs 1 = scX1
      generalize vs 2 = scX2
      generalize vs 3 = scX3
      generalize vs 4 = scX4
      generalize vs 5 = scX5
      clear vs
      have HBW2 : Hid (Below wx.heap.size wx wy) := HBY
      have HKT2 := hide ((HBY.out.block _ (size_of_block HKT.out)).trans HKT.out)
      have HTT2 : Hid (TmAt wy wy.heap.size 6 T _) := hide (TmAt.below HTT.out HBY.out (Nat.le_refl _) HBY.out.size)
      have HKU2 := hide ((HBY.out.block _ (size_of_block HKU.out)).trans HKU.out)
      have HTU2 : Hid (TmAt wy wy.heap.size 4 U _) := hide (TmAt.below HTU.out HBY.out (Nat.le_refl _) HBY.out.size)
      have HKV2 := hide ((HBY.out.block _ (size_of_block HKV.out)).trans HKV.out)
      have HTV2 : Hid (TmAt wy wy.heap.size 4 V _) := hide (TmAt.below HTV.out HBY.out (Nat.le_refl _) HBY.out.size)
      have HTB2 := hide (HTB'.out.later HBY.out)
      clear HBY
      go_wp2_with fail
      refine wp_region_boxes (by kernel_rfl) (by kernel_rfl) (fun vs => { tmps := #[Value.agg #[Value.int IntKind.i64 r0.op, Value.int IntKind.i64 r0.n, Value.slice a0 r0.kids.length z0], Value.agg #[Value.int IntKind.i64 r1.op, Value.int IntKind.i64 r1.n, Value.slice a1 r1.kids.length z1], Value.agg #[Value.int IntKind.i64 r2.op, Value.int IntKind.i64 r2.n, Value.slice a2 r2.kids.length z2], Value.int IntKind.i64 bx, Value.pointer (some { block := w.heap.size, off := 0 }), Value.pointer (some { block := w.heap.size + 1, off := 0 }), Value.pointer (some { block := w.heap.size + 1 + 1, off := 0 }), undef, Value.bool false, Value.pointer (some { block := q0, off := 0 }), Value.pointer (some { block := q1, off := 0 }), Value.pointer (some { block := q2, off := 0 }), Value.pointer (some { block := qX, off := 0 }), vs 6, undef, undef, Value.bool true, Value.bool false, Value.agg #[Value.int IntKind.i64 r0.op, Value.int IntKind.i64 r0.n, Value.slice a0 r0.kids.length z0], Value.bool true, Value.bool false, Value.bool false, Value.agg #[Value.int IntKind.i64 r1.op, Value.int IntKind.i64 r1.n, Value.slice a1 r1.kids.length z1], Value.bool true, Value.bool false, Value.bool false, Value.bool false, Value.agg #[Value.int IntKind.i64 r2.op, Value.int IntKind.i64 r2.n, Value.slice a2 r2.kids.length z2], Value.bool true, Value.bool false, Value.bool false, s0, s1, s2, s3, s4, s5, Value.int IntKind.i64 by_, Value.int IntKind.i64 bx, scX0, scX1, scX2, scX3, scX4, scX5, vs 0, vs 1, vs 2, vs 3, vs 4, vs 5, undef, undef, undef, undef, undef, undef, undef, undef, undef, undef, undef, undef, undef, undef, undef, undef, undef, undef, undef, undef], defers := [] }) (fun i => [undef, undef, undef, undef, undef, undef, undef, undef].getD i undef) [(6, 5, 7)] (by decide) #[.int .i64 0, .int .i64 0, .slice none 0 0] 29 (substs_F8 T U V) (substs_F8.keep T U V) ?_ ?_
      · refine ⟨⟨fun _ => ?_, fun x hx h => absurd h (by revert x; decide), fun x hx h => absurd h (by revert x; decide)⟩, ⟨fun _ => ?_, fun x hx h => absurd h (by revert x; decide), fun x hx h => absurd h (by revert x; decide)⟩, ⟨fun _ => ?_, fun x hx h => absurd h (by revert x; decide), fun x hx h => absurd h (by revert x; decide)⟩, ⟨fun _ => ?_, fun x hx h => absurd h (by revert x; decide), fun x hx h => absurd h (by revert x; decide)⟩, ⟨fun _ => ?_, fun x hx h => absurd h (by revert x; decide), fun x hx h => absurd h (by revert x; decide)⟩, ⟨fun _ => ?_, fun x hx h => absurd h (by revert x; decide), fun x hx h => absurd h (by revert x; decide)⟩, ⟨fun h => absurd h (by unfold Plainly; decide), fun x hx h => ?_, fun x hx h => absurd h (by revert x; decide)⟩, ⟨fun h => absurd h (by unfold Plainly; decide), fun x hx h => absurd h (by revert x; decide), fun x hx h => ?_⟩, trivial⟩
        · intro vs wx M K hb hd hM hK
          obtain ⟨c0, c1, c2⟩ := cells3' hb HKT2.out
          have HBX := hide hb; have HM := hide hM
          clear hb hd hM
          go_simp
          exact hK _ _ (Below.refl _ _) (IsM.old HTT2.out HBX.out HM.out)
        · intro vs wx M K hb hd hM hK
          obtain ⟨c0, c1, c2⟩ := cells3' hb HKV2.out
          have HBX := hide hb; have HM := hide hM
          clear hb hd hM
          go_simp
          exact hK _ _ (Below.refl _ _) (IsM.old HTV2.out HBX.out HM.out)
        · intro vs wx M K hb hd hM hK
          have tm1 := hd ⟨1, .data⟩ (by simp) rfl (by unfold Plainly; decide)
          have HX1 := hide tm1
          obtain ⟨p0_1, p1_1, pa_1, pl_1, pc_1, e1, _⟩ := tm1
          rw [e1] at HX1
          obtain ⟨vs, rfl⟩ := put_of (show vs 1 = _ from e1)
          clear e1
          have HBX := hide hb; have HM := hide hM
          clear hb hd hM
          go_simp
          refine (c_shiftM (fun q hq => (HM.out q hq).2) HX1.out GV.out (HTB2.out.later HBX.out) (by omega) (by omega)).mono ?_
          rintro e w7 ⟨u, rfl, hu, hb7⟩
          exact hK _ _ hb7 hu
        · intro vs wx M K hb hd hM hK
          have tm0 := hd ⟨0, .data⟩ (by simp) rfl (by unfold Plainly; decide)
          have HX0 := hide tm0
          obtain ⟨p0_0, p1_0, pa_0, pl_0, pc_0, e0, _⟩ := tm0
          rw [e0] at HX0
          have tm2 := hd ⟨2, .data⟩ (by simp) rfl (by unfold Plainly; decide)
          have HX2 := hide tm2
          obtain ⟨p0_2, p1_2, pa_2, pl_2, pc_2, e2, _⟩ := tm2
          rw [e2] at HX2
          obtain ⟨vs, rfl⟩ := put_of (show vs 0 = _ from e0)
          obtain ⟨vs, rfl⟩ := put_of (show vs 2 = _ from e2)
          clear e0 e2
          have HBX := hide hb; have HM := hide hM
          clear hb hd hM
          go_simp
          refine (c_substM (fun q hq => (HM.out q hq).2) HX0.out HX2.out GT.out GSV.out (HTB2.out.later HBX.out) Z3.out (by omega)).mono ?_
          rintro e w7 ⟨u, rfl, hu, hb7⟩
          exact hK _ _ hb7 hu
        · intro vs wx M K hb hd hM hK
          obtain ⟨c0, c1, c2⟩ := cells3' hb HKU2.out
          have HBX := hide hb; have HM := hide hM
          clear hb hd hM
          go_simp
          exact hK _ _ (Below.refl _ _) (IsM.old HTU2.out HBX.out HM.out)
        · intro vs wx M K hb hd hM hK
          have tm3 := hd ⟨3, .data⟩ (by simp) rfl (by unfold Plainly; decide)
          have HX3 := hide tm3
          obtain ⟨p0_3, p1_3, pa_3, pl_3, pc_3, e3, _⟩ := tm3
          rw [e3] at HX3
          have tm4 := hd ⟨4, .data⟩ (by simp) rfl (by unfold Plainly; decide)
          have HX4 := hide tm4
          obtain ⟨p0_4, p1_4, pa_4, pl_4, pc_4, e4, _⟩ := tm4
          rw [e4] at HX4
          obtain ⟨vs, rfl⟩ := put_of (show vs 3 = _ from e3)
          obtain ⟨vs, rfl⟩ := put_of (show vs 4 = _ from e4)
          clear e3 e4
          have HBX := hide hb; have HM := hide hM
          clear hb hd hM
          go_simp
          refine (c_substM (fun q hq => (HM.out q hq).2) HX3.out HX4.out GY.out GU.out (HTB2.out.later HBX.out) Z4.out (by omega)).mono ?_
          rintro e w7 ⟨u, rfl, hu, hb7⟩
          exact hK _ _ hb7 hu
        · intro vs wx K hK
          clear hx h
          go_simp
          exact hK
        · obtain rfl : x = (6, 5, 7) := (by revert h; revert x; decide)
          refine ⟨⟨⟨6, .data⟩, by simp, rfl, rfl⟩, ⟨⟨5, .data⟩, by simp, rfl, rfl⟩, ?_⟩
          intro vs wx M K q hF hq hz hK
          obtain ⟨p0, p1, pa, pl, pc, e1, _⟩ := (show IsM _ _ _ _ _ from hF)
          obtain ⟨vs, rfl⟩ := put_of (show vs 5 = _ from e1)
          obtain ⟨vs, rfl⟩ := put_of (show vs 6 = _ from hq)
          obtain ⟨y0, y1, y2⟩ := blk3 hz
          obtain ⟨z0, z1, z2⟩ := frz3 hz
          have HZ := hide hz
          clear hF hq hz hx h e1
          go_simp
          exact hK _ _ (fr_put3 _ _ _ _ _) (put3_blk HZ.out _ _ _) rfl
      · intro vs wz M hb hF hB
        obtain ⟨qY, csY, bY, lY, mY, hY, gY⟩ := hB (6, 5, 7) (by simp) (by decide) (by decide)
        obtain ⟨tY0, tY1, tYa, tYl, tYc, rfl, tmY⟩ := (show IsM _ _ _ _ _ from hF 5 (by decide) (by unfold Plainly; decide)).box gY
        obtain ⟨vs, rfl⟩ := put_of (show vs 6 = _ from bY)
        have HBY := hide hb; have HKY := hide hY; have HTY := hide tmY
        clear hb hF hB hY tmY gY bY
        simp only [put, Nat.reduceEqDiff, reduceIte, ptr]
        generalize vs 0 = scY0
        generalize vs 1 = scY1
        generalize vs 2 = scY2
        generalize vs 3 = scY3
        generalize vs 4 = scY4
        generalize vs 5 = scY5
        clear vs
        obtain ⟨X, hX⟩ : ∃ X, X = sub (0) (V) 0 (sub (0) (shf (1) (0) 0 (U)) 0 (T)) := ⟨_, rfl⟩
        obtain ⟨Y, hY⟩ : ∃ Y, Y = sub (0) (U) 0 (sub (1) (shf (1) (0) 0 (V)) 0 (T)) := ⟨_, rfl⟩
        have EXY : Hid (X = Y) := hide (by rw [hX, hY]; exact sub_sub U V 0 T ST.out SU.out SV.out (Int.le_refl _))
        rw [← hX] at HTX
        rw [← hY] at HTY
        clear hX hY
        have HKX2 := hide ((HBY.out.block _ (size_of_block HKX.out)).trans HKX.out)
        have HTX2 : Hid (TmAt wz wz.heap.size (6 + 4 + 4) X _) := hide (TmAt.below HTX.out HBY.out (Nat.le_refl _) HBY.out.size)
        clear HKX HTX
        have HKT3 := hide ((HBY.out.block _ (size_of_block HKT2.out)).trans HKT2.out)
        have HTT3 : Hid (TmAt wz wz.heap.size 6 T _) := hide (TmAt.below HTT2.out HBY.out (Nat.le_refl _) HBY.out.size)
        clear HKT2 HTT2
        have HKU3 := hide ((HBY.out.block _ (size_of_block HKU2.out)).trans HKU2.out)
        have HTU3 : Hid (TmAt wz wz.heap.size 4 U _) := hide (TmAt.below HTU2.out HBY.out (Nat.le_refl _) HBY.out.size)
        clear HKU2 HTU2
        have HKV3 := hide ((HBY.out.block _ (size_of_block HKV2.out)).trans HKV2.out)
        have HTV3 : Hid (TmAt wz wz.heap.size 4 V _) := hide (TmAt.below HTV2.out HBY.out (Nat.le_refl _) HBY.out.size)
        clear HKV2 HTV2
        have HTB3 := hide (HTB2.out.later HBY.out)
        have HB3 : Hid (Below w.heap.size w wz) := (HBW.out.trans (HBW2.out.mono HBW.out.size)).trans (HBY.out.mono (HBW.out.trans (HBW2.out.mono HBW.out.size)).size)
        obtain ⟨c0, c1, c2⟩ := blk3 HKT3.out
        obtain ⟨d0, d1, d2⟩ := blk3 HKU3.out
        have Z5 : Hid (T.size + U.size * cnt (fun x => decide (x = 0)) 0 T ≤ 8388608) := hide (fit_lvs ZT.out LT.out ZU.out (by decide))
        have K3 := hide (KEY.out 0 U (by decide) ZU.out LU.out (SU.out.more (by decide)))
        have GZ := hide K3.out.2.1
        go_wp2_with fail
        refine (c_subst (f := 6) (g := 4) (IsT.of HTT3.out) (IsT.of HTU3.out) GT.out GU.out HTB3.out Z5.out (by decide)).mono ?_
        rintro e w10 ⟨u, rfl, hu, hb10⟩
        obtain ⟨g0, g1, ga, gl, gc, rfl, hut⟩ := hu
        have HU10 := hide hut; have HB10 := hide hb10
        clear hut hb10 c0 c1 c2 d0 d1 d2
        go_wp2_with fail
        refine (c_shift (f := 10) ⟨_, _, _, _, _, rfl, HU10.out⟩ GZ.out (HTB3.out.later HB10.out) ⟨ha0, by omega⟩ (by decide)).mono ?_
        rintro e w11 ⟨u, rfl, hu, hb11⟩
        obtain ⟨e0, e1, ea, el, ec, rfl, hut⟩ := hu
        have HU11 := hide hut
        have HB11 : Hid (Below wz.heap.size wz w11) := HB10.out.trans (hb11.mono HB10.out.size)
        clear hut hb11
        go_wp2_with fail
        have HBV : Hid (Below wz.heap.size wz (w11.alloc (.cells #[.int .i64 e0, .int .i64 e1, .slice ea el ec] 29))) := hide (HB11.out.trans ((later_alloc w11 _).mono HB11.out.size))
        have HKS : Hid ((w11.alloc (.cells #[.int .i64 e0, .int .i64 e1, .slice ea el ec] 29)).heap[w11.heap.size]? = some (.cells #[.int .i64 e0, .int .i64 e1, .slice ea el ec] 29 (0, 0))) := hide (heap_alloc_new w11 _)
        obtain ⟨S, hS⟩ : ∃ S, S = shf bx 0 0 (sub 0 U 0 T) := ⟨_, rfl⟩
        have HTS : Hid (TmAt (w11.alloc (.cells #[.int .i64 e0, .int .i64 e1, .slice ea el ec] 29)) (w11.alloc (.cells #[.int .i64 e0, .int .i64 e1, .slice ea el ec] 29)).heap.size 10 S (.agg #[.int .i64 e0, .int .i64 e1, .slice ea el ec])) := hide (by rw [hS]; exact TmAt.below HU11.out (later_alloc w11 _) (Nat.le_refl _) (by simp))
        generalize w11.alloc (.cells #[.int .i64 e0, .int .i64 e1, .slice ea el ec] 29) = wv at *
        generalize w11.heap.size = qS at *
        clear HB11 HU11 HB10 HU10
        have HKT4 := hide ((HBV.out.block _ (size_of_block HKT3.out)).trans HKT3.out)
        have HTT4 : Hid (TmAt wv wv.heap.size 6 T _) := hide (TmAt.below HTT3.out HBV.out (Nat.le_refl _) HBV.out.size)
        clear HKT3 HTT3
        have HKU4 := hide ((HBV.out.block _ (size_of_block HKU3.out)).trans HKU3.out)
        have HTU4 : Hid (TmAt wv wv.heap.size 4 U _) := hide (TmAt.below HTU3.out HBV.out (Nat.le_refl _) HBV.out.size)
        clear HKU3 HTU3
        have HKX4 := hide ((HBV.out.block _ (size_of_block HKX2.out)).trans HKX2.out)
        have HTX4 : Hid (TmAt wv wv.heap.size (6 + 4 + 4) X _) := hide (TmAt.below HTX2.out HBV.out (Nat.le_refl _) HBV.out.size)
        have HKY4 := hide ((HBV.out.block _ (size_of_block HKY.out)).trans HKY.out)
        have HTY4 : Hid (TmAt wv wv.heap.size (6 + 4 + 4) Y _) := hide (TmAt.below HTY.out HBV.out (Nat.le_refl _) HBV.out.size)
        have HTB4 := hide (HTB3.out.later HBV.out)
        have HB4 : Hid (Below w.heap.size w wv) := HB3.out.trans (HBV.out.mono HB3.out.size)
        have GST : Hid (Gd 6 (shf (bx) (1) 0 (T))) := hide (GT.out.shf (ST.out.more (by decide)) (by omega) 0)
        have GSU2 : Hid (Gd 4 (shf (bx) (0) 0 (U))) := hide (GU.out.shf (SU.out.more (by decide)) (by omega) 0)
        have Z6 : Hid ((shf (bx) (1) 0 (T)).size + (shf (bx) (0) 0 (U)).size * cnt (fun x => decide (x = 0)) 0 (shf (bx) (1) 0 (T)) ≤ 8388608) := hide (fit_lvs (by rw [shf_size]; exact ZT.out) (by rw [lvs_shf]; exact LT.out) (by rw [shf_size]; exact ZU.out) (by decide))
        have ESW : Hid (S = sub 0 (shf bx 0 0 U) 0 (shf bx 1 0 T)) := hide (by rw [hS]; exact shf_sub U bx 0 T ST.out ha0 (Int.le_refl _))
        clear hS HBY HBW2 HBV HKX2 HTX2 HKY HTY HKV3 HTV3
        refine wp_region_boxes (by kernel_rfl) (by kernel_rfl) (fun vs => { tmps := #[Value.agg #[Value.int IntKind.i64 r0.op, Value.int IntKind.i64 r0.n, Value.slice a0 r0.kids.length z0], Value.agg #[Value.int IntKind.i64 r1.op, Value.int IntKind.i64 r1.n, Value.slice a1 r1.kids.length z1], Value.agg #[Value.int IntKind.i64 r2.op, Value.int IntKind.i64 r2.n, Value.slice a2 r2.kids.length z2], Value.int IntKind.i64 bx, Value.pointer (some { block := w.heap.size, off := 0 }), Value.pointer (some { block := w.heap.size + 1, off := 0 }), Value.pointer (some { block := w.heap.size + 1 + 1, off := 0 }), undef, Value.bool false, Value.pointer (some { block := q0, off := 0 }), Value.pointer (some { block := q1, off := 0 }), Value.pointer (some { block := q2, off := 0 }), Value.pointer (some { block := qX, off := 0 }), Value.pointer (some { block := qY, off := 0 }), Value.pointer (some { block := qS, off := 0 }), vs 7, Value.bool true, Value.bool false, Value.agg #[Value.int IntKind.i64 r0.op, Value.int IntKind.i64 r0.n, Value.slice a0 r0.kids.length z0], Value.bool true, Value.bool false, Value.bool false, Value.agg #[Value.int IntKind.i64 r1.op, Value.int IntKind.i64 r1.n, Value.slice a1 r1.kids.length z1], Value.bool true, Value.bool false, Value.bool false, Value.bool false, Value.agg #[Value.int IntKind.i64 r2.op, Value.int IntKind.i64 r2.n, Value.slice a2 r2.kids.length z2], Value.bool true, Value.bool false, Value.bool false, s0, s1, s2, s3, s4, s5, Value.int IntKind.i64 by_, Value.int IntKind.i64 bx, scX0, scX1, scX2, scX3, scX4, scX5, scY0, scY1, scY2, scY3, scY4, scY5, Value.agg #[Value.int IntKind.i64 t00, Value.int IntKind.i64 t01, Value.slice t0a t0l t0c], Value.agg #[Value.int IntKind.i64 t10, Value.int IntKind.i64 t11, Value.slice t1a t1l t1c], Value.agg #[Value.int IntKind.i64 g0, Value.int IntKind.i64 g1, Value.slice ga gl gc], Value.int IntKind.i64 bx, Value.agg #[Value.int IntKind.i64 e0, Value.int IntKind.i64 e1, Value.slice ea el ec], vs 0, vs 1, vs 2, vs 3, vs 4, vs 5, vs 6, undef, undef, undef, undef, undef, undef, undef, undef], defers := [] }) (fun i => [undef, undef, undef, undef, undef, undef, undef, undef, undef].getD i undef) [(7, 6, 8)] (by decide) #[.int .i64 0, .int .i64 0, .slice none 0 0] 29 (substs_F10 T U bx) (substs_F10.keep T U bx) ?_ ?_
        · refine ⟨⟨fun _ => ?_, fun x hx h => absurd h (by revert x; decide), fun x hx h => absurd h (by revert x; decide)⟩, ⟨fun _ => ?_, fun x hx h => absurd h (by revert x; decide), fun x hx h => absurd h (by revert x; decide)⟩, ⟨fun _ => ?_, fun x hx h => absurd h (by revert x; decide), fun x hx h => absurd h (by revert x; decide)⟩, ⟨fun _ => ?_, fun x hx h => absurd h (by revert x; decide), fun x hx h => absurd h (by revert x; decide)⟩, ⟨fun _ => ?_, fun x hx h => absurd h (by revert x; decide), fun x hx h => absurd h (by revert x; decide)⟩, ⟨fun _ => ?_, fun x hx h => absurd h (by revert x; decide), fun x hx h => absurd h (by revert x; decide)⟩, ⟨fun _ => ?_, fun x hx h => absurd h (by revert x; decide), fun x hx h => absurd h (by revert x; decide)⟩, ⟨fun h => absurd h (by unfold Plainly; decide), fun x hx h => ?_, fun x hx h => absurd h (by revert x; decide)⟩, ⟨fun h => absurd h (by unfold Plainly; decide), fun x hx h => absurd h (by revert x; decide), fun x hx h => ?_⟩, trivial⟩
          · intro vs wx M K hb hd hM hK
            obtain ⟨c0, c1, c2⟩ := cells3' hb HKT4.out
            have HBX := hide hb; have HM := hide hM
            clear hb hd hM
            go_simp
            exact hK _ _ (Below.refl _ _) (IsM.old HTT4.out HBX.out HM.out)
          · intro vs wx M K hb hd hM hK
            have HBX := hide hb; have HM := hide hM
            clear hb hd hM
            go_simp
            exact hK _ _ (Below.refl _ _) rfl
          · intro vs wx M K hb hd hM hK
            have tm0 := hd ⟨0, .data⟩ (by simp) rfl (by unfold Plainly; decide)
            have HX0 := hide tm0
            obtain ⟨p0_0, p1_0, pa_0, pl_0, pc_0, e0, _⟩ := tm0
            rw [e0] at HX0
            obtain ⟨vs, rfl⟩ := put_of (show vs 0 = _ from e0)
            obtain ⟨vs, rfl⟩ := put_of (show vs 1 = _ from hd ⟨1, .data⟩ (by simp) rfl (by unfold Plainly; decide))
            clear e0
            have HBX := hide hb; have HM := hide hM
            clear hb hd hM
            go_simp
            refine (c_shiftM (fun q hq => (HM.out q hq).2) HX0.out GT.out (HTB4.out.later HBX.out) (by omega) (by omega)).mono ?_
            rintro e w7 ⟨u, rfl, hu, hb7⟩
            exact hK _ _ hb7 hu
          · intro vs wx M K hb hd hM hK
            obtain ⟨c0, c1, c2⟩ := cells3' hb HKU4.out
            have HBX := hide hb; have HM := hide hM
            clear hb hd hM
            go_simp
            exact hK _ _ (Below.refl _ _) (IsM.old HTU4.out HBX.out HM.out)
          · intro vs wx M K hb hd hM hK
            have HBX := hide hb; have HM := hide hM
            clear hb hd hM
            go_simp
            exact hK _ _ (Below.refl _ _) rfl
          · intro vs wx M K hb hd hM hK
            have tm3 := hd ⟨3, .data⟩ (by simp) rfl (by unfold Plainly; decide)
            have HX3 := hide tm3
            obtain ⟨p0_3, p1_3, pa_3, pl_3, pc_3, e3, _⟩ := tm3
            rw [e3] at HX3
            obtain ⟨vs, rfl⟩ := put_of (show vs 3 = _ from e3)
            obtain ⟨vs, rfl⟩ := put_of (show vs 4 = _ from hd ⟨4, .data⟩ (by simp) rfl (by unfold Plainly; decide))
            clear e3
            have HBX := hide hb; have HM := hide hM
            clear hb hd hM
            go_simp
            refine (c_shiftM (fun q hq => (HM.out q hq).2) HX3.out GU.out (HTB4.out.later HBX.out) (by omega) (by omega)).mono ?_
            rintro e w7 ⟨u, rfl, hu, hb7⟩
            exact hK _ _ hb7 hu
          · intro vs wx M K hb hd hM hK
            have tm2 := hd ⟨2, .data⟩ (by simp) rfl (by unfold Plainly; decide)
            have HX2 := hide tm2
            obtain ⟨p0_2, p1_2, pa_2, pl_2, pc_2, e2, _⟩ := tm2
            rw [e2] at HX2
            have tm5 := hd ⟨5, .data⟩ (by simp) rfl (by unfold Plainly; decide)
            have HX5 := hide tm5
            obtain ⟨p0_5, p1_5, pa_5, pl_5, pc_5, e5, _⟩ := tm5
            rw [e5] at HX5
            obtain ⟨vs, rfl⟩ := put_of (show vs 2 = _ from e2)
            obtain ⟨vs, rfl⟩ := put_of (show vs 5 = _ from e5)
            clear e2 e5
            have HBX := hide hb; have HM := hide hM
            clear hb hd hM
            go_simp
            refine (c_substM (fun q hq => (HM.out q hq).2) HX2.out HX5.out GST.out GSU2.out (HTB4.out.later HBX.out) Z6.out (by omega)).mono ?_
            rintro e w7 ⟨u, rfl, hu, hb7⟩
            exact hK _ _ hb7 hu
          · intro vs wx K hK
            clear hx h
            go_simp
            exact hK
          · obtain rfl : x = (7, 6, 8) := (by revert h; revert x; decide)
            refine ⟨⟨⟨7, .data⟩, by simp, rfl, rfl⟩, ⟨⟨6, .data⟩, by simp, rfl, rfl⟩, ?_⟩
            intro vs wx M K q hF hq hz hK
            obtain ⟨p0, p1, pa, pl, pc, e1, _⟩ := (show IsM _ _ _ _ _ from hF)
            obtain ⟨vs, rfl⟩ := put_of (show vs 6 = _ from e1)
            obtain ⟨vs, rfl⟩ := put_of (show vs 7 = _ from hq)
            obtain ⟨y0, y1, y2⟩ := blk3 hz
            obtain ⟨z0, z1, z2⟩ := frz3 hz
            have HZ := hide hz
            clear hF hq hz hx h e1
            go_simp
            exact hK _ _ (fr_put3 _ _ _ _ _) (put3_blk HZ.out _ _ _) rfl
        · intro vs wq M hb hF hB
          obtain ⟨qQ, csQ, bQ, lQ, mQ, hQ, gQ⟩ := hB (7, 6, 8) (by simp) (by decide) (by decide)
          obtain ⟨tQ0, tQ1, tQa, tQl, tQc, rfl, tmQ⟩ := (show IsM _ _ _ _ _ from hF 6 (by decide) (by unfold Plainly; decide)).box gQ
          obtain ⟨vs, rfl⟩ := put_of (show vs 7 = _ from bQ)
          have HBY := hide hb; have HKQ := hide hQ; have HTQ := hide tmQ
          clear hb hF hB hQ tmQ gQ bQ
          simp only [put, Nat.reduceEqDiff, reduceIte, ptr]
          generalize vs 0 = scQ0
          generalize vs 1 = scQ1
          generalize vs 2 = scQ2
          generalize vs 3 = scQ3
          generalize vs 4 = scQ4
          generalize vs 5 = scQ5
          generalize vs 6 = scQ6
          clear vs
          have HKX5 := hide ((HBY.out.block _ (size_of_block HKX4.out)).trans HKX4.out)
          have HTX5 : Hid (TmAt wq wq.heap.size (6 + 4 + 4) X _) := hide (TmAt.below HTX4.out HBY.out (Nat.le_refl _) HBY.out.size)
          have HKY5 := hide ((HBY.out.block _ (size_of_block HKY4.out)).trans HKY4.out)
          have HTY5 : Hid (TmAt wq wq.heap.size (6 + 4 + 4) Y _) := hide (TmAt.below HTY4.out HBY.out (Nat.le_refl _) HBY.out.size)
          have HKS5 := hide ((HBY.out.block _ (size_of_block HKS.out)).trans HKS.out)
          have HTS5 : Hid (TmAt wq wq.heap.size 10 S _) := hide (TmAt.below HTS.out HBY.out (Nat.le_refl _) HBY.out.size)
          have HB5 : Hid (Below w.heap.size w wq) := HB4.out.trans (HBY.out.mono HB4.out.size)
          obtain ⟨c0, c1, c2⟩ := blk3 HKX5.out
          obtain ⟨d0, d1, d2⟩ := blk3 HKY5.out
          go_wp2_with fail
          refine (c_same (IsT.of HTX5.out) (IsT.of HTY5.out)).mono ?_
          rintro e w12 ⟨r, rfl, hr, hb12⟩
          obtain rfl := hr.2 EXY.out
          have HB12 := hide hb12
          have s1 := (HB12.out.block _ (size_of_block HKS5.out)).trans HKS5.out
          have s2 := (HB12.out.block _ (size_of_block HKQ.out)).trans HKQ.out
          clear hb12 hr c0 c1 c2 d0 d1 d2
          obtain ⟨c0, c1, c2⟩ := blk3 s1
          obtain ⟨d0, d1, d2⟩ := blk3 s2
          clear s1 s2
          go_wp2_with fail
          refine (c_same (IsT.of (TmAt.below HTS5.out HB12.out (Nat.le_refl _) HB12.out.size)) (IsT.of (TmAt.below HTQ.out HB12.out (Nat.le_refl _) HB12.out.size))).mono ?_
          rintro e w13 ⟨r, rfl, hr, hb13⟩
          obtain rfl := hr.2 ESW.out
          have HB13 : Hid (Below w.heap.size w w13) := (HB5.out.trans (HB12.out.mono HB5.out.size)).trans (hb13.mono (HB5.out.trans (HB12.out.mono HB5.out.size)).size)
          clear hb13 hr
          go_wp2_with fail
          go_ret
          exact ⟨rfl, HB13.out⟩
#print axioms substs_any
end Go.Proofs.YtpmaagafcpaajaaDoor
