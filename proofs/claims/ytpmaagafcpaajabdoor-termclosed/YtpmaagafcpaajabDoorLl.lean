/- The walk of TermClosed. -/
import Derived.Test.YtpmaagafcpaajabDoorLc
import Derived.Test.YtpmaagafcpaajabDoorLd
namespace Go.Proofs.YtpmaagafcpaajabDoor
open Go.RowKit
attribute [local go_sem] put

def closed_anyM (x0 : Value) (x1 : Value) (x2 : Value) (T U V : Tr) : Nat → Value → World → (Nat → Prop) → Prop
  | 0 => fun v _ _ => v = x0
  | 1 => fun v w M => IsM 7 T v w M
  | 2 => fun v _ _ => v = x1
  | 3 => fun v w M => IsM 4 U v w M
  | 4 => fun v _ _ => v = x2
  | 5 => fun v w M => IsM 4 V v w M
  | _ => fun _ _ _ => True
theorem closed_anyM.keep (x0 : Value) (x1 : Value) (x2 : Value) (T U V : Tr) (k : Nat) (v : Value) (w w' : World) (M M' : Nat → Prop) (h : closed_anyM x0 x1 x2 T U V k v w M) (hf : Fr M w w') (hM : ∀ q, q < w.heap.size → (M' q ↔ M q)) : closed_anyM x0 x1 x2 T U V k v w' M' := by
  unfold closed_anyM at *
  split at h <;> first | exact h | exact IsM.keep h hf hM
def closed_Fa (T U V : Tr) (nx : Int) : Nat → Value → World → Prop
  | 0 => fun v w => IsT (7) (T) v w
  | 1 => fun v _ => v = .int .i64 (nx)
  | 2 => fun v _ => v = .bool (false)
  | 3 => fun v _ => v = .bool (true)
  | 4 => fun v _ => v = .bool (true)
  | 5 => fun v w => IsT (7) (T) v w
  | 6 => fun v _ => v = .int .i64 (nx)
  | 7 => fun v w => IsT (4) (U) v w
  | 8 => fun v w => IsT (7 + 4) (sub (nx) (U) 0 (T)) v w
  | 9 => fun v w => IsT (7) (T) v w
  | 10 => fun v _ => v = .int .i64 (nx)
  | 11 => fun v w => IsT (4) (V) v w
  | 12 => fun v w => IsT (7 + 4) (sub (nx) (V) 0 (T)) v w
  | 13 => fun v _ => v = .bool (true)
  | 14 => fun v _ => v = .bool (false)
  | 15 => fun v _ => v = .bool (false)
  | _ => fun _ _ => True
theorem closed_Fa.keep (T U V : Tr) (nx : Int) (i : Nat) (v : Value) (w w' : World) (h : closed_Fa T U V nx i v w) (hb : Below w.heap.size w w') : closed_Fa T U V nx i v w' := by
  unfold closed_Fa at *
  split at h <;> first | exact h | exact IsT.keep h hb
def closed_Ga (T _U _V : Tr) (nx : Int) : Nat → Value → World → Prop
  | 0 => fun v w => IsT (7) (T) v w
  | 1 => fun v _ => v = .int .i64 (nx)
  | 2 => fun v _ => v = .bool (false)
  | 3 => fun v _ => v = .bool (true)
  | 4 => fun v _ => v = .bool (true)
  | 5 => fun v _ => v = undef
  | 6 => fun v _ => v = undef
  | 7 => fun v _ => v = undef
  | 8 => fun v _ => v = undef
  | 9 => fun v _ => v = undef
  | 10 => fun v _ => v = undef
  | 11 => fun v _ => v = undef
  | 12 => fun v _ => v = undef
  | 13 => fun v _ => v = undef
  | 14 => fun v _ => v = undef
  | 15 => fun v _ => v = undef
  | 16 => fun v _ => v = undef
  | 17 => fun v _ => v = undef
  | 18 => fun v _ => v = .bool (true)
  | 19 => fun v _ => v = .bool (true)
  | _ => fun _ _ => True
theorem closed_Ga.keep (T U V : Tr) (nx : Int) (i : Nat) (v : Value) (w w' : World) (h : closed_Ga T U V nx i v w) (hb : Below w.heap.size w w') : closed_Ga T U V nx i v w' := by
  unfold closed_Ga at *
  split at h <;> first | exact h | exact IsT.keep h hb
def closed_Fb (T U V : Tr) (nx : Int) : Nat → Value → World → Prop
  | 0 => fun v w => IsT (7) (T) v w
  | 1 => fun v _ => v = .int .i64 (nx)
  | 2 => fun v _ => v = .bool (false)
  | 3 => fun v _ => v = .bool (true)
  | 4 => fun v _ => v = .bool (true)
  | 5 => fun v w => IsT (7) (T) v w
  | 6 => fun v _ => v = .int .i64 (nx)
  | 7 => fun v w => IsT (4) (U) v w
  | 8 => fun v w => IsT (7 + 4) (sub (nx) (U) 0 (T)) v w
  | 9 => fun v w => IsT (7) (T) v w
  | 10 => fun v _ => v = .int .i64 (nx)
  | 11 => fun v w => IsT (4) (V) v w
  | 12 => fun v w => IsT (7 + 4) (sub (nx) (V) 0 (T)) v w
  | 13 => fun v _ => v = .bool (true)
  | 14 => fun v _ => v = .bool (false)
  | 15 => fun v _ => v = .bool (false)
  | _ => fun _ _ => True
theorem closed_Fb.keep (T U V : Tr) (nx : Int) (i : Nat) (v : Value) (w w' : World) (h : closed_Fb T U V nx i v w) (hb : Below w.heap.size w w') : closed_Fb T U V nx i v w' := by
  unfold closed_Fb at *
  split at h <;> first | exact h | exact IsT.keep h hb
def closed_Gb (T U _V : Tr) (nx : Int) : Nat → Value → World → Prop
  | 0 => fun v w => IsT (7) (T) v w
  | 1 => fun v _ => v = .int .i64 (nx)
  | 2 => fun v _ => v = .bool (true)
  | 3 => fun v _ => v = .bool (false)
  | 4 => fun v _ => v = .bool (false)
  | 5 => fun v w => IsT (7) (T) v w
  | 6 => fun v _ => v = .int .i64 (nx)
  | 7 => fun v w => IsT (4) (U) v w
  | 8 => fun v w => IsT (7 + 4) (sub (nx) (U) 0 (T)) v w
  | 9 => fun v w => IsT (7) (T) v w
  | 10 => fun v _ => v = .bool (true)
  | 11 => fun v _ => v = .bool (true)
  | 12 => fun v w => IsT (7) (T) v w
  | 13 => fun v _ => v = .int .i64 (nx)
  | 14 => fun v w => IsT (7) (shf (5) (nx) 0 (T)) v w
  | 15 => fun v w => IsT (7) (T) v w
  | 16 => fun v _ => v = .bool (true)
  | 17 => fun v _ => v = .bool (true)
  | 18 => fun v _ => v = .bool (true)
  | 19 => fun v _ => v = .bool (true)
  | _ => fun _ _ => True
theorem closed_Gb.keep (T U V : Tr) (nx : Int) (i : Nat) (v : Value) (w w' : World) (h : closed_Gb T U V nx i v w) (hb : Below w.heap.size w w') : closed_Gb T U V nx i v w' := by
  unfold closed_Gb at *
  split at h <;> first | exact h | exact IsT.keep h hb
def closed_Fc (T _U _V : Tr) (nx : Int) : Nat → Value → World → Prop
  | 0 => fun v w => IsT (7) (T) v w
  | 1 => fun v _ => v = .int .i64 (nx)
  | 2 => fun v _ => v = .bool (true)
  | 3 => fun v _ => v = .bool (false)
  | 4 => fun v _ => v = .bool (false)
  | 5 => fun v _ => v = undef
  | 6 => fun v _ => v = undef
  | 7 => fun v _ => v = undef
  | 8 => fun v _ => v = undef
  | 9 => fun v _ => v = undef
  | 10 => fun v _ => v = undef
  | 11 => fun v _ => v = undef
  | 12 => fun v _ => v = undef
  | 13 => fun v _ => v = undef
  | 14 => fun v _ => v = undef
  | 15 => fun v _ => v = .bool (false)
  | _ => fun _ _ => True
theorem closed_Fc.keep (T U V : Tr) (nx : Int) (i : Nat) (v : Value) (w w' : World) (h : closed_Fc T U V nx i v w) (hb : Below w.heap.size w w') : closed_Fc T U V nx i v w' := by
  unfold closed_Fc at *
  split at h <;> first | exact h | exact IsT.keep h hb
def closed_Gc (T _U _V : Tr) (nx : Int) : Nat → Value → World → Prop
  | 0 => fun v w => IsT (7) (T) v w
  | 1 => fun v _ => v = .int .i64 (nx)
  | 2 => fun v _ => v = .bool (false)
  | 3 => fun v _ => v = .bool (true)
  | 4 => fun v _ => v = .bool (true)
  | 5 => fun v _ => v = undef
  | 6 => fun v _ => v = undef
  | 7 => fun v _ => v = undef
  | 8 => fun v _ => v = undef
  | 9 => fun v _ => v = undef
  | 10 => fun v _ => v = undef
  | 11 => fun v _ => v = undef
  | 12 => fun v _ => v = undef
  | 13 => fun v _ => v = undef
  | 14 => fun v _ => v = undef
  | 15 => fun v _ => v = undef
  | 16 => fun v _ => v = undef
  | 17 => fun v _ => v = undef
  | 18 => fun v _ => v = .bool (true)
  | 19 => fun v _ => v = .bool (true)
  | _ => fun _ _ => True
theorem closed_Gc.keep (T U V : Tr) (nx : Int) (i : Nat) (v : Value) (w w' : World) (h : closed_Gc T U V nx i v w) (hb : Below w.heap.size w w') : closed_Gc T U V nx i v w' := by
  unfold closed_Gc at *
  split at h <;> first | exact h | exact IsT.keep h hb
set_option maxRecDepth 20000 in
set_option maxHeartbeats 4000000 in
theorem closed_any (B f : Nat) (r0 : Tr) (v0 : Value) (r1 : Tr) (v1 : Value) (r2 : Tr) (v2 : Value) (n : Int) (w : World) (h0 : TmAt w B f r0 v0) (h1 : TmAt w B f r1 v1) (h2 : TmAt w B f r2 v2) (hB : B ≤ w.heap.size) (ht : Tabs w.heap.size w) (hl : Tl w) (hb : Tb w) :
    Calls Tryd.prog 7 #[v0, v1, v2, .int .i64 n] w fun e w' => e = .returned (.bool true) ∧ Below w.heap.size w w' := by
  have HR0 := hide (raw64_of h0)
  have H0 := hide h0
  obtain ⟨a0, z0, rfl, _, _, o0, n0⟩ := h0.shape
  clear h0
  have HR1 := hide (raw64_of h1)
  have H1 := hide h1
  obtain ⟨a1, z1, rfl, _, _, o1, n1⟩ := h1.shape
  clear h1
  have HR2 := hide (raw64_of h2)
  have H2 := hide h2
  obtain ⟨a2, z2, rfl, _, _, o2, n2⟩ := h2.shape
  clear h2
  have HT := hide ht; have HL := hide hl; have HTB := hide hb
  clear ht hl hb
  have HA : Hid (Below w.heap.size w (((w.alloc (.cells #[.int .i64 r0.op, .int .i64 r0.n, .slice a0 r0.kids.length z0] 39)).alloc (.cells #[.int .i64 r1.op, .int .i64 r1.n, .slice a1 r1.kids.length z1] 39)).alloc (.cells #[.int .i64 r2.op, .int .i64 r2.n, .slice a2 r2.kids.length z2] 39))) := ((((Below.refl w.heap.size w).alloc (Nat.le_refl _) _).alloc (by simp) _).alloc (by simp; omega) _)
  go_enter Tryd.func7, Tryd.ntmps7
  go_wp2_with fail
  refine (known_any _ (HT.out.later HA.out) (HL.out.later HA.out)).mono ?_
  rintro e w1 ⟨rfl, hb1⟩
  obtain ⟨k0, k1, k2, hbl, hs1⟩ := box_three hb1
  have HB1 := hide hbl; have HK0_1 := hide k0; have HK1_1 := hide k1; have HK2_1 := hide k2
  clear hb1 hbl k0 k1 k2
  obtain ⟨c0, c1, c2⟩ := blk3 HK0_1.out
  go_wp2_with fail
  refine (few_any B f r0 _ w1 (TmAt.below H0.out HB1.out hB (Nat.le_refl _)) (Nat.le_trans hB HB1.out.size)).mono ?_
  rintro e w2 ⟨rfl, hb2⟩
  have HB2 : Hid (Below w.heap.size w w2) := HB1.out.trans (hb2.mono HB1.out.size)
  have hs2 := hb2.size
  have HK0_2 := hide ((hb2.block _ (size_of_block HK0_1.out)).trans HK0_1.out)
  have HK1_2 := hide ((hb2.block _ (size_of_block HK1_1.out)).trans HK1_1.out)
  have HK2_2 := hide ((hb2.block _ (size_of_block HK2_1.out)).trans HK2_1.out)
  clear hb2 c0 c1 c2 HK0_1 HK1_1 HK2_1
  by_cases hq0 : r0.size < 300
  rotate_left
  · rw [decide_eq_false hq0]
    go_wp2_with fail
    go_ret
    exact ⟨rfl, HB2.out⟩
  rw [decide_eq_true hq0]
  obtain ⟨c0, c1, c2⟩ := blk3 HK1_2.out
  go_wp2_with fail
  refine (few_any B f r1 _ w2 (TmAt.below H1.out HB2.out hB (Nat.le_refl _)) (Nat.le_trans hB HB2.out.size)).mono ?_
  rintro e w3 ⟨rfl, hb3⟩
  have HB3 : Hid (Below w.heap.size w w3) := HB2.out.trans (hb3.mono HB2.out.size)
  have hs3 := hb3.size
  have HK0_3 := hide ((hb3.block _ (size_of_block HK0_2.out)).trans HK0_2.out)
  have HK1_3 := hide ((hb3.block _ (size_of_block HK1_2.out)).trans HK1_2.out)
  have HK2_3 := hide ((hb3.block _ (size_of_block HK2_2.out)).trans HK2_2.out)
  clear hb3 c0 c1 c2 HK0_2 HK1_2 HK2_2
  by_cases hq1 : r1.size < 300
  rotate_left
  · rw [decide_eq_false hq1]
    go_wp2_with fail
    go_ret
    exact ⟨rfl, HB3.out⟩
  rw [decide_eq_true hq1]
  obtain ⟨c0, c1, c2⟩ := blk3 HK2_3.out
  go_wp2_with fail
  refine (few_any B f r2 _ w3 (TmAt.below H2.out HB3.out hB (Nat.le_refl _)) (Nat.le_trans hB HB3.out.size)).mono ?_
  rintro e w4 ⟨rfl, hb4⟩
  have HB4 : Hid (Below w.heap.size w w4) := HB3.out.trans (hb4.mono HB3.out.size)
  have hs4 := hb4.size
  have HK0_4 := hide ((hb4.block _ (size_of_block HK0_3.out)).trans HK0_3.out)
  have HK1_4 := hide ((hb4.block _ (size_of_block HK1_3.out)).trans HK1_3.out)
  have HK2_4 := hide ((hb4.block _ (size_of_block HK2_3.out)).trans HK2_3.out)
  clear hb4 c0 c1 c2 HK0_3 HK1_3 HK2_3
  by_cases hq2 : r2.size < 300
  rotate_left
  · rw [decide_eq_false hq2]
    go_wp2_with fail
    go_ret
    exact ⟨rfl, HB4.out⟩
  rw [decide_eq_true hq2]
  go_wp2_with fail
  have HR0T : Hid (TmAt w4 w4.heap.size f r0 (.agg #[.int .i64 r0.op, .int .i64 r0.n, .slice a0 r0.kids.length z0])) := TmAt.below H0.out HB4.out hB (Nat.le_trans hB HB4.out.size)
  have HR1T : Hid (TmAt w4 w4.heap.size f r1 (.agg #[.int .i64 r1.op, .int .i64 r1.n, .slice a1 r1.kids.length z1])) := TmAt.below H1.out HB4.out hB (Nat.le_trans hB HB4.out.size)
  have HR2T : Hid (TmAt w4 w4.heap.size f r2 (.agg #[.int .i64 r2.op, .int .i64 r2.n, .slice a2 r2.kids.length z2])) := TmAt.below H2.out HB4.out hB (Nat.le_trans hB HB4.out.size)
  refine wp_region_boxes (by kernel_rfl) (by kernel_rfl) (fun vs => { tmps := #[Value.agg #[Value.int IntKind.i64 r0.op, Value.int IntKind.i64 r0.n, Value.slice a0 r0.kids.length z0], Value.agg #[Value.int IntKind.i64 r1.op, Value.int IntKind.i64 r1.n, Value.slice a1 r1.kids.length z1], Value.agg #[Value.int IntKind.i64 r2.op, Value.int IntKind.i64 r2.n, Value.slice a2 r2.kids.length z2], Value.int IntKind.i64 n, Value.pointer (some { block := w.heap.size, off := 0 }), Value.pointer (some { block := w.heap.size + 1, off := 0 }), Value.pointer (some { block := w.heap.size + 1 + 1, off := 0 }), undef, Value.bool false, vs 6, vs 7, vs 8, Value.bool true, Value.bool false, Value.agg #[Value.int IntKind.i64 r0.op, Value.int IntKind.i64 r0.n, Value.slice a0 r0.kids.length z0], Value.bool true, Value.bool false, Value.bool false, Value.agg #[Value.int IntKind.i64 r1.op, Value.int IntKind.i64 r1.n, Value.slice a1 r1.kids.length z1], Value.bool true, Value.bool false, Value.bool false, Value.bool false, Value.agg #[Value.int IntKind.i64 r2.op, Value.int IntKind.i64 r2.n, Value.slice a2 r2.kids.length z2], Value.bool true, Value.bool false, Value.bool false, vs 0, vs 1, vs 2, vs 3, vs 4, vs 5, undef, undef, undef, undef, undef, undef, undef, undef, undef, undef, undef, undef, undef, undef, undef, undef, undef, undef, undef, undef, undef, undef, undef, undef, undef, undef, undef, undef, undef, undef, undef, undef, undef, undef, undef, undef, undef], defers := [] }) (fun i => [undef, undef, undef, undef, undef, undef, undef, undef, undef, undef, undef, undef].getD i undef) [(6, 1, 9), (7, 3, 10), (8, 5, 11)] (by decide) #[.int .i64 0, .int .i64 0, .slice none 0 0] 26 (closed_anyM (.agg #[.int .i64 r0.op, .int .i64 r0.n, .slice a0 r0.kids.length z0]) (.agg #[.int .i64 r1.op, .int .i64 r1.n, .slice a1 r1.kids.length z1]) (.agg #[.int .i64 r2.op, .int .i64 r2.n, .slice a2 r2.kids.length z2]) (mkT 6 3 r0) (mkT 3 2 r1) (mkT 3 2 r2)) (closed_anyM.keep (.agg #[.int .i64 r0.op, .int .i64 r0.n, .slice a0 r0.kids.length z0]) (.agg #[.int .i64 r1.op, .int .i64 r1.n, .slice a1 r1.kids.length z1]) (.agg #[.int .i64 r2.op, .int .i64 r2.n, .slice a2 r2.kids.length z2]) (mkT 6 3 r0) (mkT 3 2 r1) (mkT 3 2 r2)) ?_ ?_
  · refine ⟨⟨fun _ => ?_, fun x hx h => absurd h (by revert x; decide), fun x hx h => absurd h (by revert x; decide)⟩, ⟨fun _ => ?_, fun x hx h => absurd h (by revert x; decide), fun x hx h => absurd h (by revert x; decide)⟩, ⟨fun _ => ?_, fun x hx h => absurd h (by revert x; decide), fun x hx h => absurd h (by revert x; decide)⟩, ⟨fun _ => ?_, fun x hx h => absurd h (by revert x; decide), fun x hx h => absurd h (by revert x; decide)⟩, ⟨fun _ => ?_, fun x hx h => absurd h (by revert x; decide), fun x hx h => absurd h (by revert x; decide)⟩, ⟨fun _ => ?_, fun x hx h => absurd h (by revert x; decide), fun x hx h => absurd h (by revert x; decide)⟩, ⟨fun h => absurd h (by unfold Plainly; decide), fun x hx h => ?_, fun x hx h => absurd h (by revert x; decide)⟩, ⟨fun h => absurd h (by unfold Plainly; decide), fun x hx h => ?_, fun x hx h => absurd h (by revert x; decide)⟩, ⟨fun h => absurd h (by unfold Plainly; decide), fun x hx h => ?_, fun x hx h => absurd h (by revert x; decide)⟩, ⟨fun h => absurd h (by unfold Plainly; decide), fun x hx h => absurd h (by revert x; decide), fun x hx h => ?_⟩, ⟨fun h => absurd h (by unfold Plainly; decide), fun x hx h => absurd h (by revert x; decide), fun x hx h => ?_⟩, ⟨fun h => absurd h (by unfold Plainly; decide), fun x hx h => absurd h (by revert x; decide), fun x hx h => ?_⟩, trivial⟩
    · intro vs wx M K hb hd hM hK
      obtain ⟨c0, c1, c2⟩ := cells3' hb HK0_4.out
      clear hb hd
      go_simp
      exact hK _ _ (Below.refl _ _) rfl
    · intro vs wx M K hb hd hM hK
      obtain ⟨vs, rfl⟩ := put_of (show vs 0 = _ from hd ⟨0, .data⟩ (by simp) rfl (by unfold Plainly; decide))
      have HBX := hide hb; have HM := hide hM
      clear hb hd hM
      go_simp
      refine (c_make (d := 6) M (fun q hq => (HM.out q hq).2) (TmAt.below HR0T.out HBX.out (Nat.le_refl _) (Nat.le_refl _)) HBX.out.size (by decide) (by decide) (by decide)).mono ?_
      rintro e w7 ⟨u, rfl, hu, hb7⟩
      exact hK _ _ hb7 hu
    · intro vs wx M K hb hd hM hK
      obtain ⟨c0, c1, c2⟩ := cells3' hb HK1_4.out
      clear hb hd
      go_simp
      exact hK _ _ (Below.refl _ _) rfl
    · intro vs wx M K hb hd hM hK
      obtain ⟨vs, rfl⟩ := put_of (show vs 2 = _ from hd ⟨2, .data⟩ (by simp) rfl (by unfold Plainly; decide))
      have HBX := hide hb; have HM := hide hM
      clear hb hd hM
      go_simp
      refine (c_make (d := 3) M (fun q hq => (HM.out q hq).2) (TmAt.below HR1T.out HBX.out (Nat.le_refl _) (Nat.le_refl _)) HBX.out.size (by decide) (by decide) (by decide)).mono ?_
      rintro e w7 ⟨u, rfl, hu, hb7⟩
      exact hK _ _ hb7 hu
    · intro vs wx M K hb hd hM hK
      obtain ⟨c0, c1, c2⟩ := cells3' hb HK2_4.out
      clear hb hd
      go_simp
      exact hK _ _ (Below.refl _ _) rfl
    · intro vs wx M K hb hd hM hK
      obtain ⟨vs, rfl⟩ := put_of (show vs 4 = _ from hd ⟨4, .data⟩ (by simp) rfl (by unfold Plainly; decide))
      have HBX := hide hb; have HM := hide hM
      clear hb hd hM
      go_simp
      refine (c_make (d := 3) M (fun q hq => (HM.out q hq).2) (TmAt.below HR2T.out HBX.out (Nat.le_refl _) (Nat.le_refl _)) HBX.out.size (by decide) (by decide) (by decide)).mono ?_
      rintro e w7 ⟨u, rfl, hu, hb7⟩
      exact hK _ _ hb7 hu
    · intro vs wx K hK
      clear hx h
      go_simp
      exact hK
    · intro vs wx K hK
      clear hx h
      go_simp
      exact hK
    · intro vs wx K hK
      clear hx h
      go_simp
      exact hK
    · obtain rfl : x = (6, 1, 9) := (by revert h; revert x; decide)
      refine ⟨⟨⟨6, .data⟩, by simp, rfl, rfl⟩, ⟨⟨1, .data⟩, by simp, rfl, rfl⟩, ?_⟩
      intro vs wx M K q hF hq hz hK
      obtain ⟨p0, p1, pa, pl, pc, e1, _⟩ := (show IsM _ _ _ _ _ from hF)
      obtain ⟨vs, rfl⟩ := put_of (show vs 1 = _ from e1)
      obtain ⟨vs, rfl⟩ := put_of (show vs 6 = _ from hq)
      obtain ⟨y0, y1, y2⟩ := blk3 hz
      obtain ⟨z0, z1, z2⟩ := frz3 hz
      have HZ := hide hz
      clear hF hq hz hx h e1
      go_simp
      exact hK _ _ (fr_put3 _ _ _ _ _) (put3_blk HZ.out _ _ _) rfl
    · obtain rfl : x = (7, 3, 10) := (by revert h; revert x; decide)
      refine ⟨⟨⟨7, .data⟩, by simp, rfl, rfl⟩, ⟨⟨3, .data⟩, by simp, rfl, rfl⟩, ?_⟩
      intro vs wx M K q hF hq hz hK
      obtain ⟨p0, p1, pa, pl, pc, e1, _⟩ := (show IsM _ _ _ _ _ from hF)
      obtain ⟨vs, rfl⟩ := put_of (show vs 3 = _ from e1)
      obtain ⟨vs, rfl⟩ := put_of (show vs 7 = _ from hq)
      obtain ⟨y0, y1, y2⟩ := blk3 hz
      obtain ⟨z0, z1, z2⟩ := frz3 hz
      have HZ := hide hz
      clear hF hq hz hx h e1
      go_simp
      exact hK _ _ (fr_put3 _ _ _ _ _) (put3_blk HZ.out _ _ _) rfl
    · obtain rfl : x = (8, 5, 11) := (by revert h; revert x; decide)
      refine ⟨⟨⟨8, .data⟩, by simp, rfl, rfl⟩, ⟨⟨5, .data⟩, by simp, rfl, rfl⟩, ?_⟩
      intro vs wx M K q hF hq hz hK
      obtain ⟨p0, p1, pa, pl, pc, e1, _⟩ := (show IsM _ _ _ _ _ from hF)
      obtain ⟨vs, rfl⟩ := put_of (show vs 5 = _ from e1)
      obtain ⟨vs, rfl⟩ := put_of (show vs 8 = _ from hq)
      obtain ⟨y0, y1, y2⟩ := blk3 hz
      obtain ⟨z0, z1, z2⟩ := frz3 hz
      have HZ := hide hz
      clear hF hq hz hx h e1
      go_simp
      exact hK _ _ (fr_put3 _ _ _ _ _) (put3_blk HZ.out _ _ _) rfl
  · intro vs wx M hb hF hB
    obtain ⟨q0, cs0, b0, l0, m0, h0, g0⟩ := hB (6, 1, 9) (by simp) (by decide) (by decide)
    obtain ⟨t00, t01, t0a, t0l, t0c, rfl, tm0⟩ := (show IsM _ _ _ _ _ from hF 1 (by decide) (by unfold Plainly; decide)).box g0
    obtain ⟨vs, rfl⟩ := put_of (show vs 6 = _ from b0)
    obtain ⟨q1, cs1, b1, l1, m1, h1, g1⟩ := hB (7, 3, 10) (by simp) (by decide) (by decide)
    obtain ⟨t10, t11, t1a, t1l, t1c, rfl, tm1⟩ := (show IsM _ _ _ _ _ from hF 3 (by decide) (by unfold Plainly; decide)).box g1
    obtain ⟨vs, rfl⟩ := put_of (show vs 7 = _ from b1)
    obtain ⟨q2, cs2, b2, l2, m2, h2, g2⟩ := hB (8, 5, 11) (by simp) (by decide) (by decide)
    obtain ⟨t20, t21, t2a, t2l, t2c, rfl, tm2⟩ := (show IsM _ _ _ _ _ from hF 5 (by decide) (by unfold Plainly; decide)).box g2
    obtain ⟨vs, rfl⟩ := put_of (show vs 8 = _ from b2)
    have HBX := hide hb; have HKT := hide h0; have HTT := hide tm0; have HKU := hide h1; have HTU := hide tm1; have HKV := hide h2; have HTV := hide tm2
    clear hb hF hB h0 tm0 g0 h1 tm1 g1 h2 tm2 g2
    have HBW : Hid (Below w.heap.size w wx) := HB4.out.trans (HBX.out.mono HB4.out.size)
    have G0 := hide (Gd.mk' (d := 6) (vars := 3) HR0.out (by decide) (by decide) (by decide))
    obtain ⟨T, hT⟩ : ∃ T, T = mkT 6 3 r0 := ⟨_, rfl⟩
    have HET := hide hT
    rw [← hT] at G0 HTT
    clear hT
    have G1 := hide (Gd.mk' (d := 3) (vars := 2) HR1.out (by decide) (by decide) (by decide))
    obtain ⟨U, hU⟩ : ∃ U, U = mkT 3 2 r1 := ⟨_, rfl⟩
    have HEU := hide hU
    rw [← hU] at G1 HTU
    clear hU
    have G2 := hide (Gd.mk' (d := 3) (vars := 2) HR2.out (by decide) (by decide) (by decide))
    obtain ⟨V, hV⟩ : ∃ V, V = mkT 3 2 r2 := ⟨_, rfl⟩
    have HEV := hide hV
    rw [← hV] at G2 HTV
    clear hV
    clear HK0_4 HR0T HK1_4 HR1T HK2_4 HR2T HBX HA
    simp only [put, Nat.reduceEqDiff, reduceIte, ptr]
    clear b0 b1 b2
    generalize vs 0 = s0; generalize vs 1 = s1; generalize vs 2 = s2; generalize vs 3 = s3; generalize vs 4 = s4; generalize vs 5 = s5
    clear vs
    go_wp2_with fail
    refine (lwithin_n n 6 _ (by decide) (by decide)).mono ?_
    rintro e w9 ⟨rfl, h9⟩
    rw [h9]
    clear h9 w9
    have ha := wi_n n 6 (by decide)
    generalize wi n 6 = nx at *
    obtain ⟨ha0, ha1⟩ := ha
    go_wp2_with fail
    have GT := hide G0.out.1; have GU := hide G1.out.1; have GV := hide G2.out.1
    have ST : Hid (Snd 3000 T) := hide G0.out.2.1.snd
    have Z1 : Hid (T.size + U.size * cnt (fun x => decide (x = nx)) 0 T ≤ 8388608) := hide (fit_le G0.out.2.2 G1.out.2.2 (by decide))
    have Z2 : Hid (T.size + V.size * cnt (fun x => decide (x = nx)) 0 T ≤ 8388608) := hide (fit_le G0.out.2.2 G2.out.2.2 (by decide))
    have HTB' : Hid (Tb wx) := hide (HTB.out.later HBW.out)
    have FB : Hid (bel nx 0 T = true → fre nx 0 T = false) := hide (fun h => (bel_iff nx 0 T).1 h nx (Int.le_refl _))
    have ES : Hid (fre nx 0 T = false → sub nx U 0 T = sub nx V 0 T) := hide (fun h => sub_none nx U V 0 T h)
    have EB : Hid (bel nx 0 T = true → sub nx U 0 T = T ∧ shf 5 nx 0 T = T) := hide (fun h => ⟨sub_bel nx U 0 T h, shf_bel 5 nx 0 T ST.out h⟩)
    clear G0 G1 G2
    obtain ⟨fv, hfv⟩ : ∃ fv, fv = fre nx 0 T := ⟨_, rfl⟩
    obtain ⟨bv, hbv⟩ : ∃ bv, bv = bel nx 0 T := ⟨_, rfl⟩
    have HFV : Hid (fre nx 0 T = fv) := hide hfv.symm
    have HBV : Hid (bel nx 0 T = bv) := hide hbv.symm
    clear hfv hbv
    cases fv
    cases bv
    · skip
      have E1 : Hid (sub (nx) (U) 0 (T) = sub (nx) (V) 0 (T)) := hide (ES.out HFV.out)
      refine wp_region_vals (by kernel_rfl) (by kernel_rfl) (fun vs => { tmps := #[Value.agg #[Value.int IntKind.i64 r0.op, Value.int IntKind.i64 r0.n, Value.slice a0 r0.kids.length z0], Value.agg #[Value.int IntKind.i64 r1.op, Value.int IntKind.i64 r1.n, Value.slice a1 r1.kids.length z1], Value.agg #[Value.int IntKind.i64 r2.op, Value.int IntKind.i64 r2.n, Value.slice a2 r2.kids.length z2], Value.int IntKind.i64 nx, Value.pointer (some { block := w.heap.size, off := 0 }), Value.pointer (some { block := w.heap.size + 1, off := 0 }), Value.pointer (some { block := w.heap.size + 1 + 1, off := 0 }), undef, Value.bool false, Value.pointer (some { block := q0, off := 0 }), Value.pointer (some { block := q1, off := 0 }), Value.pointer (some { block := q2, off := 0 }), Value.bool true, Value.bool false, Value.agg #[Value.int IntKind.i64 r0.op, Value.int IntKind.i64 r0.n, Value.slice a0 r0.kids.length z0], Value.bool true, Value.bool false, Value.bool false, Value.agg #[Value.int IntKind.i64 r1.op, Value.int IntKind.i64 r1.n, Value.slice a1 r1.kids.length z1], Value.bool true, Value.bool false, Value.bool false, Value.bool false, Value.agg #[Value.int IntKind.i64 r2.op, Value.int IntKind.i64 r2.n, Value.slice a2 r2.kids.length z2], Value.bool true, Value.bool false, Value.bool false, s0, s1, s2, s3, s4, s5, Value.int IntKind.i64 n, Value.int IntKind.i64 nx, vs 0, vs 1, vs 2, vs 3, vs 4, vs 5, vs 6, vs 7, vs 8, vs 9, vs 10, vs 11, vs 12, vs 13, vs 14, vs 15, undef, undef, undef, undef, undef, undef, undef, undef, undef, undef, undef, undef, undef, undef, undef, undef, undef, undef, undef], defers := [] }) (fun i => [undef, undef, undef, undef, undef, undef, undef, undef, undef, undef, undef, undef, undef, undef, undef, undef].getD i undef) (closed_Fa T U V nx) (closed_Fa.keep T U V nx) ?_ ?_
      · refine ⟨?_, ?_, ?_, ?_, ?_, ?_, ?_, ?_, ?_, ?_, ?_, ?_, ?_, ?_, ?_, ?_, trivial⟩
        · intro vs wx K hb hd hK
          obtain ⟨c0, c1, c2⟩ := cells3' hb HKT.out
          have HBX := hide hb
          clear hb hd
          go_simp
          exact hK _ _ (Below.refl _ _) ⟨_, _, _, _, _, rfl, TmAt.below HTT.out HBX.out (Nat.le_refl _) HBX.out.size⟩
        · intro vs wx K hb hd hK
          have HBX := hide hb
          clear hb hd
          go_simp
          exact hK _ _ (Below.refl _ _) rfl
        · intro vs wx K hb hd hK
          have tm0 := hd ⟨0, .data⟩ (by simp) rfl
          have HX0 := hide tm0
          obtain ⟨p0_0, p1_0, pa_0, pl_0, pc_0, e0, _⟩ := tm0
          rw [e0] at HX0
          obtain ⟨vs, rfl⟩ := put_of (show vs 0 = _ from e0)
          obtain ⟨vs, rfl⟩ := put_of (show vs 1 = _ from hd ⟨1, .data⟩ (by simp) rfl)
          clear e0
          have HBX := hide hb
          clear hb hd
          go_simp
          refine (c_free HX0.out GT.out (HTB'.out.later HBX.out) (by omega)).mono ?_
          rintro e w7 ⟨rfl, hb7⟩
          rw [HFV.out]
          exact hK _ _ hb7 rfl
        · intro vs wx K hb hd hK
          obtain ⟨vs, rfl⟩ := put_of (show vs 2 = _ from hd ⟨2, .data⟩ (by simp) rfl)
          have HBX := hide hb
          clear hb hd
          go_simp
          exact hK _ _ (Below.refl _ _) rfl
        · intro vs wx K hb hd hK
          obtain ⟨vs, rfl⟩ := put_of (show vs 3 = _ from hd ⟨3, .data⟩ (by simp) rfl)
          have HBX := hide hb
          clear hb hd
          go_simp
          exact hK _ _ (Below.refl _ _) rfl
        · intro vs wx K hb hd hK
          obtain ⟨vs, rfl⟩ := put_of (show vs 4 = _ from hd ⟨4, .guard⟩ (by simp) rfl)
          obtain ⟨c0, c1, c2⟩ := cells3' hb HKT.out
          have HBX := hide hb
          clear hb hd
          go_simp
          exact hK _ _ (Below.refl _ _) ⟨_, _, _, _, _, rfl, TmAt.below HTT.out HBX.out (Nat.le_refl _) HBX.out.size⟩
        · intro vs wx K hb hd hK
          obtain ⟨vs, rfl⟩ := put_of (show vs 4 = _ from hd ⟨4, .guard⟩ (by simp) rfl)
          have HBX := hide hb
          clear hb hd
          go_simp
          exact hK _ _ (Below.refl _ _) rfl
        · intro vs wx K hb hd hK
          obtain ⟨vs, rfl⟩ := put_of (show vs 4 = _ from hd ⟨4, .guard⟩ (by simp) rfl)
          obtain ⟨c0, c1, c2⟩ := cells3' hb HKU.out
          have HBX := hide hb
          clear hb hd
          go_simp
          exact hK _ _ (Below.refl _ _) ⟨_, _, _, _, _, rfl, TmAt.below HTU.out HBX.out (Nat.le_refl _) HBX.out.size⟩
        · intro vs wx K hb hd hK
          have tm5 := hd ⟨5, .data⟩ (by simp) rfl
          have HX5 := hide tm5
          obtain ⟨p0_5, p1_5, pa_5, pl_5, pc_5, e5, _⟩ := tm5
          rw [e5] at HX5
          have tm7 := hd ⟨7, .data⟩ (by simp) rfl
          have HX7 := hide tm7
          obtain ⟨p0_7, p1_7, pa_7, pl_7, pc_7, e7, _⟩ := tm7
          rw [e7] at HX7
          obtain ⟨vs, rfl⟩ := put_of (show vs 5 = _ from e5)
          obtain ⟨vs, rfl⟩ := put_of (show vs 6 = _ from hd ⟨6, .data⟩ (by simp) rfl)
          obtain ⟨vs, rfl⟩ := put_of (show vs 7 = _ from e7)
          obtain ⟨vs, rfl⟩ := put_of (show vs 4 = _ from hd ⟨4, .guard⟩ (by simp) rfl)
          clear e5 e7
          have HBX := hide hb
          clear hb hd
          go_simp
          refine (c_subst HX5.out HX7.out GT.out GU.out (HTB'.out.later HBX.out) Z1.out (by omega)).mono ?_
          rintro e w7 ⟨u, rfl, hu, hb7⟩
          exact hK _ _ hb7 hu
        · intro vs wx K hb hd hK
          obtain ⟨vs, rfl⟩ := put_of (show vs 4 = _ from hd ⟨4, .guard⟩ (by simp) rfl)
          obtain ⟨c0, c1, c2⟩ := cells3' hb HKT.out
          have HBX := hide hb
          clear hb hd
          go_simp
          exact hK _ _ (Below.refl _ _) ⟨_, _, _, _, _, rfl, TmAt.below HTT.out HBX.out (Nat.le_refl _) HBX.out.size⟩
        · intro vs wx K hb hd hK
          obtain ⟨vs, rfl⟩ := put_of (show vs 4 = _ from hd ⟨4, .guard⟩ (by simp) rfl)
          have HBX := hide hb
          clear hb hd
          go_simp
          exact hK _ _ (Below.refl _ _) rfl
        · intro vs wx K hb hd hK
          obtain ⟨vs, rfl⟩ := put_of (show vs 4 = _ from hd ⟨4, .guard⟩ (by simp) rfl)
          obtain ⟨c0, c1, c2⟩ := cells3' hb HKV.out
          have HBX := hide hb
          clear hb hd
          go_simp
          exact hK _ _ (Below.refl _ _) ⟨_, _, _, _, _, rfl, TmAt.below HTV.out HBX.out (Nat.le_refl _) HBX.out.size⟩
        · intro vs wx K hb hd hK
          have tm9 := hd ⟨9, .data⟩ (by simp) rfl
          have HX9 := hide tm9
          obtain ⟨p0_9, p1_9, pa_9, pl_9, pc_9, e9, _⟩ := tm9
          rw [e9] at HX9
          have tm11 := hd ⟨11, .data⟩ (by simp) rfl
          have HX11 := hide tm11
          obtain ⟨p0_11, p1_11, pa_11, pl_11, pc_11, e11, _⟩ := tm11
          rw [e11] at HX11
          obtain ⟨vs, rfl⟩ := put_of (show vs 9 = _ from e9)
          obtain ⟨vs, rfl⟩ := put_of (show vs 10 = _ from hd ⟨10, .data⟩ (by simp) rfl)
          obtain ⟨vs, rfl⟩ := put_of (show vs 11 = _ from e11)
          obtain ⟨vs, rfl⟩ := put_of (show vs 4 = _ from hd ⟨4, .guard⟩ (by simp) rfl)
          clear e9 e11
          have HBX := hide hb
          clear hb hd
          go_simp
          refine (c_subst HX9.out HX11.out GT.out GV.out (HTB'.out.later HBX.out) Z2.out (by omega)).mono ?_
          rintro e w7 ⟨u, rfl, hu, hb7⟩
          exact hK _ _ hb7 hu
        · intro vs wx K hb hd hK
          have tm8 := hd ⟨8, .data⟩ (by simp) rfl
          have HX8 := hide tm8
          obtain ⟨p0_8, p1_8, pa_8, pl_8, pc_8, e8, _⟩ := tm8
          rw [e8] at HX8
          have tm12 := hd ⟨12, .data⟩ (by simp) rfl
          have HX12 := hide tm12
          obtain ⟨p0_12, p1_12, pa_12, pl_12, pc_12, e12, _⟩ := tm12
          rw [e12] at HX12
          obtain ⟨vs, rfl⟩ := put_of (show vs 8 = _ from e8)
          obtain ⟨vs, rfl⟩ := put_of (show vs 12 = _ from e12)
          obtain ⟨vs, rfl⟩ := put_of (show vs 4 = _ from hd ⟨4, .guard⟩ (by simp) rfl)
          clear e8 e12
          have HBX := hide hb
          clear hb hd
          go_simp
          refine (c_same HX8.out HX12.out).mono ?_
          rintro e w7 ⟨r, rfl, hr, hb7⟩
          obtain rfl := hr.2 E1.out
          exact hK _ _ hb7 rfl
        · intro vs wx K hb hd hK
          obtain ⟨vs, rfl⟩ := put_of (show vs 13 = _ from hd ⟨13, .data⟩ (by simp) rfl)
          obtain ⟨vs, rfl⟩ := put_of (show vs 4 = _ from hd ⟨4, .guard⟩ (by simp) rfl)
          have HBX := hide hb
          clear hb hd
          go_simp
          exact hK _ _ (Below.refl _ _) rfl
        · intro vs wx K hb hd hK
          obtain ⟨vs, rfl⟩ := put_of (show vs 4 = _ from hd ⟨4, .data⟩ (by simp) rfl)
          obtain ⟨vs, rfl⟩ := put_of (show vs 14 = _ from hd ⟨14, .data⟩ (by simp) rfl)
          have HBX := hide hb
          clear hb hd
          go_simp
          exact hK _ _ (Below.refl _ _) rfl
      · intro vs wy hb hF
        obtain ⟨vs, rfl⟩ := put_of (show vs 15 = _ from hF 15 (by decide))
        have HBY := hide hb
        clear hb hF
        simp only [put, Nat.reduceEqDiff, reduceIte]
        generalize vs 0 = sd0
        generalize vs 1 = sd1
        generalize vs 2 = sd2
        generalize vs 3 = sd3
        generalize vs 4 = sd4
        generalize vs 5 = sd5
        generalize vs 6 = sd6
        generalize vs 7 = sd7
        generalize vs 8 = sd8
        generalize vs 9 = sd9
        generalize vs 10 = sd10
        generalize vs 11 = sd11
        generalize vs 12 = sd12
        generalize vs 13 = sd13
        generalize vs 14 = sd14
        clear vs
        have HKT2 := hide ((HBY.out.block _ (size_of_block HKT.out)).trans HKT.out)
        have HTT2 : Hid (TmAt wy wy.heap.size 7 T _) := hide (TmAt.below HTT.out HBY.out (Nat.le_refl _) HBY.out.size)
        clear HKT HTT
        have HKU2 := hide ((HBY.out.block _ (size_of_block HKU.out)).trans HKU.out)
        have HTU2 : Hid (TmAt wy wy.heap.size 4 U _) := hide (TmAt.below HTU.out HBY.out (Nat.le_refl _) HBY.out.size)
        clear HKU HTU
        have HKV2 := hide ((HBY.out.block _ (size_of_block HKV.out)).trans HKV.out)
        have HTV2 : Hid (TmAt wy wy.heap.size 4 V _) := hide (TmAt.below HTV.out HBY.out (Nat.le_refl _) HBY.out.size)
        clear HKV HTV
        have HTB2 := hide (HTB'.out.later HBY.out)
        have HB2 : Hid (Below w.heap.size w wy) := HBW.out.trans (HBY.out.mono HBW.out.size)
        clear HBY
        go_wp2_with fail
        refine wp_region_vals (by kernel_rfl) (by kernel_rfl) (fun vs => { tmps := #[Value.agg #[Value.int IntKind.i64 r0.op, Value.int IntKind.i64 r0.n, Value.slice a0 r0.kids.length z0], Value.agg #[Value.int IntKind.i64 r1.op, Value.int IntKind.i64 r1.n, Value.slice a1 r1.kids.length z1], Value.agg #[Value.int IntKind.i64 r2.op, Value.int IntKind.i64 r2.n, Value.slice a2 r2.kids.length z2], Value.int IntKind.i64 nx, Value.pointer (some { block := w.heap.size, off := 0 }), Value.pointer (some { block := w.heap.size + 1, off := 0 }), Value.pointer (some { block := w.heap.size + 1 + 1, off := 0 }), undef, vs 19, Value.pointer (some { block := q0, off := 0 }), Value.pointer (some { block := q1, off := 0 }), Value.pointer (some { block := q2, off := 0 }), Value.bool true, Value.bool false, Value.agg #[Value.int IntKind.i64 r0.op, Value.int IntKind.i64 r0.n, Value.slice a0 r0.kids.length z0], Value.bool true, Value.bool false, Value.bool false, Value.agg #[Value.int IntKind.i64 r1.op, Value.int IntKind.i64 r1.n, Value.slice a1 r1.kids.length z1], Value.bool true, Value.bool false, Value.bool false, Value.bool false, Value.agg #[Value.int IntKind.i64 r2.op, Value.int IntKind.i64 r2.n, Value.slice a2 r2.kids.length z2], Value.bool true, Value.bool false, Value.bool false, s0, s1, s2, s3, s4, s5, Value.int IntKind.i64 n, Value.int IntKind.i64 nx, sd0, sd1, sd2, sd3, sd4, sd5, sd6, sd7, sd8, sd9, sd10, sd11, sd12, sd13, sd14, Value.bool false, vs 0, vs 1, vs 2, vs 3, vs 4, vs 5, vs 6, vs 7, vs 8, vs 9, vs 10, vs 11, vs 12, vs 13, vs 14, vs 15, vs 16, vs 17, vs 18], defers := [] }) (fun i => [undef, undef, undef, undef, undef, undef, undef, undef, undef, undef, undef, undef, undef, undef, undef, undef, undef, undef, undef, Value.bool false].getD i undef) (closed_Ga T U V nx) (closed_Ga.keep T U V nx) ?_ ?_
        · refine ⟨?_, ?_, ?_, ?_, ?_, ?_, ?_, ?_, ?_, ?_, ?_, ?_, ?_, ?_, ?_, ?_, ?_, ?_, ?_, ?_, trivial⟩
          · intro vs wx K hb hd hK
            obtain ⟨c0, c1, c2⟩ := cells3' hb HKT2.out
            have HBX := hide hb
            clear hb hd
            go_simp
            exact hK _ _ (Below.refl _ _) ⟨_, _, _, _, _, rfl, TmAt.below HTT2.out HBX.out (Nat.le_refl _) HBX.out.size⟩
          · intro vs wx K hb hd hK
            have HBX := hide hb
            clear hb hd
            go_simp
            exact hK _ _ (Below.refl _ _) rfl
          · intro vs wx K hb hd hK
            have tm0 := hd ⟨0, .data⟩ (by simp) rfl
            have HX0 := hide tm0
            obtain ⟨p0_0, p1_0, pa_0, pl_0, pc_0, e0, _⟩ := tm0
            rw [e0] at HX0
            obtain ⟨vs, rfl⟩ := put_of (show vs 0 = _ from e0)
            obtain ⟨vs, rfl⟩ := put_of (show vs 1 = _ from hd ⟨1, .data⟩ (by simp) rfl)
            clear e0
            have HBX := hide hb
            clear hb hd
            go_simp
            refine (c_below HX0.out GT.out (HTB2.out.later HBX.out) (by omega)).mono ?_
            rintro e w7 ⟨rfl, hb7⟩
            rw [HBV.out]
            exact hK _ _ hb7 rfl
          · intro vs wx K hb hd hK
            obtain ⟨vs, rfl⟩ := put_of (show vs 2 = _ from hd ⟨2, .data⟩ (by simp) rfl)
            have HBX := hide hb
            clear hb hd
            go_simp
            exact hK _ _ (Below.refl _ _) rfl
          · intro vs wx K hb hd hK
            obtain ⟨vs, rfl⟩ := put_of (show vs 3 = _ from hd ⟨3, .data⟩ (by simp) rfl)
            have HBX := hide hb
            clear hb hd
            go_simp
            exact hK _ _ (Below.refl _ _) rfl
          · intro vs wx K hb hd hK
            obtain ⟨vs, rfl⟩ := put_of (show vs 4 = _ from hd ⟨4, .guard⟩ (by simp) rfl)
            clear hb hd
            go_simp
            exact hK _ _ (Below.refl _ _) rfl
          · intro vs wx K hb hd hK
            obtain ⟨vs, rfl⟩ := put_of (show vs 4 = _ from hd ⟨4, .guard⟩ (by simp) rfl)
            clear hb hd
            go_simp
            exact hK _ _ (Below.refl _ _) rfl
          · intro vs wx K hb hd hK
            obtain ⟨vs, rfl⟩ := put_of (show vs 4 = _ from hd ⟨4, .guard⟩ (by simp) rfl)
            clear hb hd
            go_simp
            exact hK _ _ (Below.refl _ _) rfl
          · intro vs wx K hb hd hK
            obtain ⟨vs, rfl⟩ := put_of (show vs 4 = _ from hd ⟨4, .guard⟩ (by simp) rfl)
            clear hb hd
            go_simp
            exact hK _ _ (Below.refl _ _) rfl
          · intro vs wx K hb hd hK
            obtain ⟨vs, rfl⟩ := put_of (show vs 4 = _ from hd ⟨4, .guard⟩ (by simp) rfl)
            clear hb hd
            go_simp
            exact hK _ _ (Below.refl _ _) rfl
          · intro vs wx K hb hd hK
            obtain ⟨vs, rfl⟩ := put_of (show vs 4 = _ from hd ⟨4, .guard⟩ (by simp) rfl)
            clear hb hd
            go_simp
            exact hK _ _ (Below.refl _ _) rfl
          · intro vs wx K hb hd hK
            obtain ⟨vs, rfl⟩ := put_of (show vs 4 = _ from hd ⟨4, .guard⟩ (by simp) rfl)
            clear hb hd
            go_simp
            exact hK _ _ (Below.refl _ _) rfl
          · intro vs wx K hb hd hK
            obtain ⟨vs, rfl⟩ := put_of (show vs 11 = _ from hd ⟨11, .guard⟩ (by simp) rfl)
            clear hb hd
            go_simp
            exact hK _ _ (Below.refl _ _) rfl
          · intro vs wx K hb hd hK
            obtain ⟨vs, rfl⟩ := put_of (show vs 11 = _ from hd ⟨11, .guard⟩ (by simp) rfl)
            clear hb hd
            go_simp
            exact hK _ _ (Below.refl _ _) rfl
          · intro vs wx K hb hd hK
            obtain ⟨vs, rfl⟩ := put_of (show vs 11 = _ from hd ⟨11, .guard⟩ (by simp) rfl)
            clear hb hd
            go_simp
            exact hK _ _ (Below.refl _ _) rfl
          · intro vs wx K hb hd hK
            obtain ⟨vs, rfl⟩ := put_of (show vs 11 = _ from hd ⟨11, .guard⟩ (by simp) rfl)
            clear hb hd
            go_simp
            exact hK _ _ (Below.refl _ _) rfl
          · intro vs wx K hb hd hK
            obtain ⟨vs, rfl⟩ := put_of (show vs 11 = _ from hd ⟨11, .guard⟩ (by simp) rfl)
            clear hb hd
            go_simp
            exact hK _ _ (Below.refl _ _) rfl
          · intro vs wx K hb hd hK
            obtain ⟨vs, rfl⟩ := put_of (show vs 4 = _ from hd ⟨4, .guard⟩ (by simp) rfl)
            clear hb hd
            go_simp
            exact hK _ _ (Below.refl _ _) rfl
          · intro vs wx K hb hd hK
            obtain ⟨vs, rfl⟩ := put_of (show vs 4 = _ from hd ⟨4, .data⟩ (by simp) rfl)
            obtain ⟨vs, rfl⟩ := put_of (show vs 17 = _ from hd ⟨17, .data⟩ (by simp) rfl)
            have HBX := hide hb
            clear hb hd
            go_simp
            exact hK _ _ (Below.refl _ _) rfl
          · intro vs wx K hb hd hK
            obtain ⟨vs, rfl⟩ := put_of (show vs 18 = _ from hd ⟨18, .data⟩ (by simp) rfl)
            have HBX := hide hb
            clear hb hd
            go_simp
            exact hK _ _ (Below.refl _ _) rfl
        · intro vs wx hb hF
          obtain ⟨vs, rfl⟩ := put_of (show vs 19 = _ from hF 19 (by decide))
          have HBX := hide hb
          clear hb hF
          simp only [put, Nat.reduceEqDiff, reduceIte]
          go_wp2_with fail
          go_ret
          exact ⟨rfl, HB2.out.trans (HBX.out.mono HB2.out.size)⟩
    · skip
      have E1 : Hid (sub (nx) (U) 0 (T) = sub (nx) (V) 0 (T)) := hide (ES.out HFV.out)
      have E2 : Hid (sub (nx) (U) 0 (T) = T) := hide (EB.out HBV.out).1
      have E3 : Hid (shf (5) (nx) 0 (T) = T) := hide (EB.out HBV.out).2
      refine wp_region_vals (by kernel_rfl) (by kernel_rfl) (fun vs => { tmps := #[Value.agg #[Value.int IntKind.i64 r0.op, Value.int IntKind.i64 r0.n, Value.slice a0 r0.kids.length z0], Value.agg #[Value.int IntKind.i64 r1.op, Value.int IntKind.i64 r1.n, Value.slice a1 r1.kids.length z1], Value.agg #[Value.int IntKind.i64 r2.op, Value.int IntKind.i64 r2.n, Value.slice a2 r2.kids.length z2], Value.int IntKind.i64 nx, Value.pointer (some { block := w.heap.size, off := 0 }), Value.pointer (some { block := w.heap.size + 1, off := 0 }), Value.pointer (some { block := w.heap.size + 1 + 1, off := 0 }), undef, Value.bool false, Value.pointer (some { block := q0, off := 0 }), Value.pointer (some { block := q1, off := 0 }), Value.pointer (some { block := q2, off := 0 }), Value.bool true, Value.bool false, Value.agg #[Value.int IntKind.i64 r0.op, Value.int IntKind.i64 r0.n, Value.slice a0 r0.kids.length z0], Value.bool true, Value.bool false, Value.bool false, Value.agg #[Value.int IntKind.i64 r1.op, Value.int IntKind.i64 r1.n, Value.slice a1 r1.kids.length z1], Value.bool true, Value.bool false, Value.bool false, Value.bool false, Value.agg #[Value.int IntKind.i64 r2.op, Value.int IntKind.i64 r2.n, Value.slice a2 r2.kids.length z2], Value.bool true, Value.bool false, Value.bool false, s0, s1, s2, s3, s4, s5, Value.int IntKind.i64 n, Value.int IntKind.i64 nx, vs 0, vs 1, vs 2, vs 3, vs 4, vs 5, vs 6, vs 7, vs 8, vs 9, vs 10, vs 11, vs 12, vs 13, vs 14, vs 15, undef, undef, undef, undef, undef, undef, undef, undef, undef, undef, undef, undef, undef, undef, undef, undef, undef, undef, undef], defers := [] }) (fun i => [undef, undef, undef, undef, undef, undef, undef, undef, undef, undef, undef, undef, undef, undef, undef, undef].getD i undef) (closed_Fb T U V nx) (closed_Fb.keep T U V nx) ?_ ?_
      · refine ⟨?_, ?_, ?_, ?_, ?_, ?_, ?_, ?_, ?_, ?_, ?_, ?_, ?_, ?_, ?_, ?_, trivial⟩
        · intro vs wx K hb hd hK
          obtain ⟨c0, c1, c2⟩ := cells3' hb HKT.out
          have HBX := hide hb
          clear hb hd
          go_simp
          exact hK _ _ (Below.refl _ _) ⟨_, _, _, _, _, rfl, TmAt.below HTT.out HBX.out (Nat.le_refl _) HBX.out.size⟩
        · intro vs wx K hb hd hK
          have HBX := hide hb
          clear hb hd
          go_simp
          exact hK _ _ (Below.refl _ _) rfl
        · intro vs wx K hb hd hK
          have tm0 := hd ⟨0, .data⟩ (by simp) rfl
          have HX0 := hide tm0
          obtain ⟨p0_0, p1_0, pa_0, pl_0, pc_0, e0, _⟩ := tm0
          rw [e0] at HX0
          obtain ⟨vs, rfl⟩ := put_of (show vs 0 = _ from e0)
          obtain ⟨vs, rfl⟩ := put_of (show vs 1 = _ from hd ⟨1, .data⟩ (by simp) rfl)
          clear e0
          have HBX := hide hb
          clear hb hd
          go_simp
          refine (c_free HX0.out GT.out (HTB'.out.later HBX.out) (by omega)).mono ?_
          rintro e w7 ⟨rfl, hb7⟩
          rw [HFV.out]
          exact hK _ _ hb7 rfl
        · intro vs wx K hb hd hK
          obtain ⟨vs, rfl⟩ := put_of (show vs 2 = _ from hd ⟨2, .data⟩ (by simp) rfl)
          have HBX := hide hb
          clear hb hd
          go_simp
          exact hK _ _ (Below.refl _ _) rfl
        · intro vs wx K hb hd hK
          obtain ⟨vs, rfl⟩ := put_of (show vs 3 = _ from hd ⟨3, .data⟩ (by simp) rfl)
          have HBX := hide hb
          clear hb hd
          go_simp
          exact hK _ _ (Below.refl _ _) rfl
        · intro vs wx K hb hd hK
          obtain ⟨vs, rfl⟩ := put_of (show vs 4 = _ from hd ⟨4, .guard⟩ (by simp) rfl)
          obtain ⟨c0, c1, c2⟩ := cells3' hb HKT.out
          have HBX := hide hb
          clear hb hd
          go_simp
          exact hK _ _ (Below.refl _ _) ⟨_, _, _, _, _, rfl, TmAt.below HTT.out HBX.out (Nat.le_refl _) HBX.out.size⟩
        · intro vs wx K hb hd hK
          obtain ⟨vs, rfl⟩ := put_of (show vs 4 = _ from hd ⟨4, .guard⟩ (by simp) rfl)
          have HBX := hide hb
          clear hb hd
          go_simp
          exact hK _ _ (Below.refl _ _) rfl
        · intro vs wx K hb hd hK
          obtain ⟨vs, rfl⟩ := put_of (show vs 4 = _ from hd ⟨4, .guard⟩ (by simp) rfl)
          obtain ⟨c0, c1, c2⟩ := cells3' hb HKU.out
          have HBX := hide hb
          clear hb hd
          go_simp
          exact hK _ _ (Below.refl _ _) ⟨_, _, _, _, _, rfl, TmAt.below HTU.out HBX.out (Nat.le_refl _) HBX.out.size⟩
        · intro vs wx K hb hd hK
          have tm5 := hd ⟨5, .data⟩ (by simp) rfl
          have HX5 := hide tm5
          obtain ⟨p0_5, p1_5, pa_5, pl_5, pc_5, e5, _⟩ := tm5
          rw [e5] at HX5
          have tm7 := hd ⟨7, .data⟩ (by simp) rfl
          have HX7 := hide tm7
          obtain ⟨p0_7, p1_7, pa_7, pl_7, pc_7, e7, _⟩ := tm7
          rw [e7] at HX7
          obtain ⟨vs, rfl⟩ := put_of (show vs 5 = _ from e5)
          obtain ⟨vs, rfl⟩ := put_of (show vs 6 = _ from hd ⟨6, .data⟩ (by simp) rfl)
          obtain ⟨vs, rfl⟩ := put_of (show vs 7 = _ from e7)
          obtain ⟨vs, rfl⟩ := put_of (show vs 4 = _ from hd ⟨4, .guard⟩ (by simp) rfl)
          clear e5 e7
          have HBX := hide hb
          clear hb hd
          go_simp
          refine (c_subst HX5.out HX7.out GT.out GU.out (HTB'.out.later HBX.out) Z1.out (by omega)).mono ?_
          rintro e w7 ⟨u, rfl, hu, hb7⟩
          exact hK _ _ hb7 hu
        · intro vs wx K hb hd hK
          obtain ⟨vs, rfl⟩ := put_of (show vs 4 = _ from hd ⟨4, .guard⟩ (by simp) rfl)
          obtain ⟨c0, c1, c2⟩ := cells3' hb HKT.out
          have HBX := hide hb
          clear hb hd
          go_simp
          exact hK _ _ (Below.refl _ _) ⟨_, _, _, _, _, rfl, TmAt.below HTT.out HBX.out (Nat.le_refl _) HBX.out.size⟩
        · intro vs wx K hb hd hK
          obtain ⟨vs, rfl⟩ := put_of (show vs 4 = _ from hd ⟨4, .guard⟩ (by simp) rfl)
          have HBX := hide hb
          clear hb hd
          go_simp
          exact hK _ _ (Below.refl _ _) rfl
        · intro vs wx K hb hd hK
          obtain ⟨vs, rfl⟩ := put_of (show vs 4 = _ from hd ⟨4, .guard⟩ (by simp) rfl)
          obtain ⟨c0, c1, c2⟩ := cells3' hb HKV.out
          have HBX := hide hb
          clear hb hd
          go_simp
          exact hK _ _ (Below.refl _ _) ⟨_, _, _, _, _, rfl, TmAt.below HTV.out HBX.out (Nat.le_refl _) HBX.out.size⟩
        · intro vs wx K hb hd hK
          have tm9 := hd ⟨9, .data⟩ (by simp) rfl
          have HX9 := hide tm9
          obtain ⟨p0_9, p1_9, pa_9, pl_9, pc_9, e9, _⟩ := tm9
          rw [e9] at HX9
          have tm11 := hd ⟨11, .data⟩ (by simp) rfl
          have HX11 := hide tm11
          obtain ⟨p0_11, p1_11, pa_11, pl_11, pc_11, e11, _⟩ := tm11
          rw [e11] at HX11
          obtain ⟨vs, rfl⟩ := put_of (show vs 9 = _ from e9)
          obtain ⟨vs, rfl⟩ := put_of (show vs 10 = _ from hd ⟨10, .data⟩ (by simp) rfl)
          obtain ⟨vs, rfl⟩ := put_of (show vs 11 = _ from e11)
          obtain ⟨vs, rfl⟩ := put_of (show vs 4 = _ from hd ⟨4, .guard⟩ (by simp) rfl)
          clear e9 e11
          have HBX := hide hb
          clear hb hd
          go_simp
          refine (c_subst HX9.out HX11.out GT.out GV.out (HTB'.out.later HBX.out) Z2.out (by omega)).mono ?_
          rintro e w7 ⟨u, rfl, hu, hb7⟩
          exact hK _ _ hb7 hu
        · intro vs wx K hb hd hK
          have tm8 := hd ⟨8, .data⟩ (by simp) rfl
          have HX8 := hide tm8
          obtain ⟨p0_8, p1_8, pa_8, pl_8, pc_8, e8, _⟩ := tm8
          rw [e8] at HX8
          have tm12 := hd ⟨12, .data⟩ (by simp) rfl
          have HX12 := hide tm12
          obtain ⟨p0_12, p1_12, pa_12, pl_12, pc_12, e12, _⟩ := tm12
          rw [e12] at HX12
          obtain ⟨vs, rfl⟩ := put_of (show vs 8 = _ from e8)
          obtain ⟨vs, rfl⟩ := put_of (show vs 12 = _ from e12)
          obtain ⟨vs, rfl⟩ := put_of (show vs 4 = _ from hd ⟨4, .guard⟩ (by simp) rfl)
          clear e8 e12
          have HBX := hide hb
          clear hb hd
          go_simp
          refine (c_same HX8.out HX12.out).mono ?_
          rintro e w7 ⟨r, rfl, hr, hb7⟩
          obtain rfl := hr.2 E1.out
          exact hK _ _ hb7 rfl
        · intro vs wx K hb hd hK
          obtain ⟨vs, rfl⟩ := put_of (show vs 13 = _ from hd ⟨13, .data⟩ (by simp) rfl)
          obtain ⟨vs, rfl⟩ := put_of (show vs 4 = _ from hd ⟨4, .guard⟩ (by simp) rfl)
          have HBX := hide hb
          clear hb hd
          go_simp
          exact hK _ _ (Below.refl _ _) rfl
        · intro vs wx K hb hd hK
          obtain ⟨vs, rfl⟩ := put_of (show vs 4 = _ from hd ⟨4, .data⟩ (by simp) rfl)
          obtain ⟨vs, rfl⟩ := put_of (show vs 14 = _ from hd ⟨14, .data⟩ (by simp) rfl)
          have HBX := hide hb
          clear hb hd
          go_simp
          exact hK _ _ (Below.refl _ _) rfl
      · intro vs wy hb hF
        obtain ⟨vs, rfl⟩ := put_of (show vs 15 = _ from hF 15 (by decide))
        have HBY := hide hb
        clear hb hF
        simp only [put, Nat.reduceEqDiff, reduceIte]
        generalize vs 0 = sd0
        generalize vs 1 = sd1
        generalize vs 2 = sd2
        generalize vs 3 = sd3
        generalize vs 4 = sd4
        generalize vs 5 = sd5
        generalize vs 6 = sd6
        generalize vs 7 = sd7
        generalize vs 8 = sd8
        generalize vs 9 = sd9
        generalize vs 10 = sd10
        generalize vs 11 = sd11
        generalize vs 12 = sd12
        generalize vs 13 = sd13
        generalize vs 14 = sd14
        clear vs
        have HKT2 := hide ((HBY.out.block _ (size_of_block HKT.out)).trans HKT.out)
        have HTT2 : Hid (TmAt wy wy.heap.size 7 T _) := hide (TmAt.below HTT.out HBY.out (Nat.le_refl _) HBY.out.size)
        clear HKT HTT
        have HKU2 := hide ((HBY.out.block _ (size_of_block HKU.out)).trans HKU.out)
        have HTU2 : Hid (TmAt wy wy.heap.size 4 U _) := hide (TmAt.below HTU.out HBY.out (Nat.le_refl _) HBY.out.size)
        clear HKU HTU
        have HKV2 := hide ((HBY.out.block _ (size_of_block HKV.out)).trans HKV.out)
        have HTV2 : Hid (TmAt wy wy.heap.size 4 V _) := hide (TmAt.below HTV.out HBY.out (Nat.le_refl _) HBY.out.size)
        clear HKV HTV
        have HTB2 := hide (HTB'.out.later HBY.out)
        have HB2 : Hid (Below w.heap.size w wy) := HBW.out.trans (HBY.out.mono HBW.out.size)
        clear HBY
        go_wp2_with fail
        refine wp_region_vals (by kernel_rfl) (by kernel_rfl) (fun vs => { tmps := #[Value.agg #[Value.int IntKind.i64 r0.op, Value.int IntKind.i64 r0.n, Value.slice a0 r0.kids.length z0], Value.agg #[Value.int IntKind.i64 r1.op, Value.int IntKind.i64 r1.n, Value.slice a1 r1.kids.length z1], Value.agg #[Value.int IntKind.i64 r2.op, Value.int IntKind.i64 r2.n, Value.slice a2 r2.kids.length z2], Value.int IntKind.i64 nx, Value.pointer (some { block := w.heap.size, off := 0 }), Value.pointer (some { block := w.heap.size + 1, off := 0 }), Value.pointer (some { block := w.heap.size + 1 + 1, off := 0 }), undef, vs 19, Value.pointer (some { block := q0, off := 0 }), Value.pointer (some { block := q1, off := 0 }), Value.pointer (some { block := q2, off := 0 }), Value.bool true, Value.bool false, Value.agg #[Value.int IntKind.i64 r0.op, Value.int IntKind.i64 r0.n, Value.slice a0 r0.kids.length z0], Value.bool true, Value.bool false, Value.bool false, Value.agg #[Value.int IntKind.i64 r1.op, Value.int IntKind.i64 r1.n, Value.slice a1 r1.kids.length z1], Value.bool true, Value.bool false, Value.bool false, Value.bool false, Value.agg #[Value.int IntKind.i64 r2.op, Value.int IntKind.i64 r2.n, Value.slice a2 r2.kids.length z2], Value.bool true, Value.bool false, Value.bool false, s0, s1, s2, s3, s4, s5, Value.int IntKind.i64 n, Value.int IntKind.i64 nx, sd0, sd1, sd2, sd3, sd4, sd5, sd6, sd7, sd8, sd9, sd10, sd11, sd12, sd13, sd14, Value.bool false, vs 0, vs 1, vs 2, vs 3, vs 4, vs 5, vs 6, vs 7, vs 8, vs 9, vs 10, vs 11, vs 12, vs 13, vs 14, vs 15, vs 16, vs 17, vs 18], defers := [] }) (fun i => [undef, undef, undef, undef, undef, undef, undef, undef, undef, undef, undef, undef, undef, undef, undef, undef, undef, undef, undef, Value.bool false].getD i undef) (closed_Gb T U V nx) (closed_Gb.keep T U V nx) ?_ ?_
        · refine ⟨?_, ?_, ?_, ?_, ?_, ?_, ?_, ?_, ?_, ?_, ?_, ?_, ?_, ?_, ?_, ?_, ?_, ?_, ?_, ?_, trivial⟩
          · intro vs wx K hb hd hK
            obtain ⟨c0, c1, c2⟩ := cells3' hb HKT2.out
            have HBX := hide hb
            clear hb hd
            go_simp
            exact hK _ _ (Below.refl _ _) ⟨_, _, _, _, _, rfl, TmAt.below HTT2.out HBX.out (Nat.le_refl _) HBX.out.size⟩
          · intro vs wx K hb hd hK
            have HBX := hide hb
            clear hb hd
            go_simp
            exact hK _ _ (Below.refl _ _) rfl
          · intro vs wx K hb hd hK
            have tm0 := hd ⟨0, .data⟩ (by simp) rfl
            have HX0 := hide tm0
            obtain ⟨p0_0, p1_0, pa_0, pl_0, pc_0, e0, _⟩ := tm0
            rw [e0] at HX0
            obtain ⟨vs, rfl⟩ := put_of (show vs 0 = _ from e0)
            obtain ⟨vs, rfl⟩ := put_of (show vs 1 = _ from hd ⟨1, .data⟩ (by simp) rfl)
            clear e0
            have HBX := hide hb
            clear hb hd
            go_simp
            refine (c_below HX0.out GT.out (HTB2.out.later HBX.out) (by omega)).mono ?_
            rintro e w7 ⟨rfl, hb7⟩
            rw [HBV.out]
            exact hK _ _ hb7 rfl
          · intro vs wx K hb hd hK
            obtain ⟨vs, rfl⟩ := put_of (show vs 2 = _ from hd ⟨2, .data⟩ (by simp) rfl)
            have HBX := hide hb
            clear hb hd
            go_simp
            exact hK _ _ (Below.refl _ _) rfl
          · intro vs wx K hb hd hK
            obtain ⟨vs, rfl⟩ := put_of (show vs 3 = _ from hd ⟨3, .data⟩ (by simp) rfl)
            have HBX := hide hb
            clear hb hd
            go_simp
            exact hK _ _ (Below.refl _ _) rfl
          · intro vs wx K hb hd hK
            obtain ⟨vs, rfl⟩ := put_of (show vs 4 = _ from hd ⟨4, .guard⟩ (by simp) rfl)
            obtain ⟨c0, c1, c2⟩ := cells3' hb HKT2.out
            have HBX := hide hb
            clear hb hd
            go_simp
            exact hK _ _ (Below.refl _ _) ⟨_, _, _, _, _, rfl, TmAt.below HTT2.out HBX.out (Nat.le_refl _) HBX.out.size⟩
          · intro vs wx K hb hd hK
            obtain ⟨vs, rfl⟩ := put_of (show vs 4 = _ from hd ⟨4, .guard⟩ (by simp) rfl)
            have HBX := hide hb
            clear hb hd
            go_simp
            exact hK _ _ (Below.refl _ _) rfl
          · intro vs wx K hb hd hK
            obtain ⟨vs, rfl⟩ := put_of (show vs 4 = _ from hd ⟨4, .guard⟩ (by simp) rfl)
            obtain ⟨c0, c1, c2⟩ := cells3' hb HKU2.out
            have HBX := hide hb
            clear hb hd
            go_simp
            exact hK _ _ (Below.refl _ _) ⟨_, _, _, _, _, rfl, TmAt.below HTU2.out HBX.out (Nat.le_refl _) HBX.out.size⟩
          · intro vs wx K hb hd hK
            have tm5 := hd ⟨5, .data⟩ (by simp) rfl
            have HX5 := hide tm5
            obtain ⟨p0_5, p1_5, pa_5, pl_5, pc_5, e5, _⟩ := tm5
            rw [e5] at HX5
            have tm7 := hd ⟨7, .data⟩ (by simp) rfl
            have HX7 := hide tm7
            obtain ⟨p0_7, p1_7, pa_7, pl_7, pc_7, e7, _⟩ := tm7
            rw [e7] at HX7
            obtain ⟨vs, rfl⟩ := put_of (show vs 5 = _ from e5)
            obtain ⟨vs, rfl⟩ := put_of (show vs 6 = _ from hd ⟨6, .data⟩ (by simp) rfl)
            obtain ⟨vs, rfl⟩ := put_of (show vs 7 = _ from e7)
            obtain ⟨vs, rfl⟩ := put_of (show vs 4 = _ from hd ⟨4, .guard⟩ (by simp) rfl)
            clear e5 e7
            have HBX := hide hb
            clear hb hd
            go_simp
            refine (c_subst HX5.out HX7.out GT.out GU.out (HTB2.out.later HBX.out) Z1.out (by omega)).mono ?_
            rintro e w7 ⟨u, rfl, hu, hb7⟩
            exact hK _ _ hb7 hu
          · intro vs wx K hb hd hK
            obtain ⟨vs, rfl⟩ := put_of (show vs 4 = _ from hd ⟨4, .guard⟩ (by simp) rfl)
            obtain ⟨c0, c1, c2⟩ := cells3' hb HKT2.out
            have HBX := hide hb
            clear hb hd
            go_simp
            exact hK _ _ (Below.refl _ _) ⟨_, _, _, _, _, rfl, TmAt.below HTT2.out HBX.out (Nat.le_refl _) HBX.out.size⟩
          · intro vs wx K hb hd hK
            have tm8 := hd ⟨8, .data⟩ (by simp) rfl
            have HX8 := hide tm8
            obtain ⟨p0_8, p1_8, pa_8, pl_8, pc_8, e8, _⟩ := tm8
            rw [e8] at HX8
            have tm9 := hd ⟨9, .data⟩ (by simp) rfl
            have HX9 := hide tm9
            obtain ⟨p0_9, p1_9, pa_9, pl_9, pc_9, e9, _⟩ := tm9
            rw [e9] at HX9
            obtain ⟨vs, rfl⟩ := put_of (show vs 8 = _ from e8)
            obtain ⟨vs, rfl⟩ := put_of (show vs 9 = _ from e9)
            obtain ⟨vs, rfl⟩ := put_of (show vs 4 = _ from hd ⟨4, .guard⟩ (by simp) rfl)
            clear e8 e9
            have HBX := hide hb
            clear hb hd
            go_simp
            refine (c_same HX8.out HX9.out).mono ?_
            rintro e w7 ⟨r, rfl, hr, hb7⟩
            obtain rfl := hr.2 E2.out
            exact hK _ _ hb7 rfl
          · intro vs wx K hb hd hK
            obtain ⟨vs, rfl⟩ := put_of (show vs 10 = _ from hd ⟨10, .data⟩ (by simp) rfl)
            obtain ⟨vs, rfl⟩ := put_of (show vs 4 = _ from hd ⟨4, .guard⟩ (by simp) rfl)
            have HBX := hide hb
            clear hb hd
            go_simp
            exact hK _ _ (Below.refl _ _) rfl
          · intro vs wx K hb hd hK
            obtain ⟨vs, rfl⟩ := put_of (show vs 11 = _ from hd ⟨11, .guard⟩ (by simp) rfl)
            obtain ⟨c0, c1, c2⟩ := cells3' hb HKT2.out
            have HBX := hide hb
            clear hb hd
            go_simp
            exact hK _ _ (Below.refl _ _) ⟨_, _, _, _, _, rfl, TmAt.below HTT2.out HBX.out (Nat.le_refl _) HBX.out.size⟩
          · intro vs wx K hb hd hK
            obtain ⟨vs, rfl⟩ := put_of (show vs 11 = _ from hd ⟨11, .guard⟩ (by simp) rfl)
            have HBX := hide hb
            clear hb hd
            go_simp
            exact hK _ _ (Below.refl _ _) rfl
          · intro vs wx K hb hd hK
            have tm12 := hd ⟨12, .data⟩ (by simp) rfl
            have HX12 := hide tm12
            obtain ⟨p0_12, p1_12, pa_12, pl_12, pc_12, e12, _⟩ := tm12
            rw [e12] at HX12
            obtain ⟨vs, rfl⟩ := put_of (show vs 12 = _ from e12)
            obtain ⟨vs, rfl⟩ := put_of (show vs 13 = _ from hd ⟨13, .data⟩ (by simp) rfl)
            obtain ⟨vs, rfl⟩ := put_of (show vs 11 = _ from hd ⟨11, .guard⟩ (by simp) rfl)
            clear e12
            have HBX := hide hb
            clear hb hd
            go_simp
            refine (c_shift HX12.out GT.out (HTB2.out.later HBX.out) (by omega) (by omega)).mono ?_
            rintro e w7 ⟨u, rfl, hu, hb7⟩
            exact hK _ _ hb7 hu
          · intro vs wx K hb hd hK
            obtain ⟨vs, rfl⟩ := put_of (show vs 11 = _ from hd ⟨11, .guard⟩ (by simp) rfl)
            obtain ⟨c0, c1, c2⟩ := cells3' hb HKT2.out
            have HBX := hide hb
            clear hb hd
            go_simp
            exact hK _ _ (Below.refl _ _) ⟨_, _, _, _, _, rfl, TmAt.below HTT2.out HBX.out (Nat.le_refl _) HBX.out.size⟩
          · intro vs wx K hb hd hK
            have tm14 := hd ⟨14, .data⟩ (by simp) rfl
            have HX14 := hide tm14
            obtain ⟨p0_14, p1_14, pa_14, pl_14, pc_14, e14, _⟩ := tm14
            rw [e14] at HX14
            have tm15 := hd ⟨15, .data⟩ (by simp) rfl
            have HX15 := hide tm15
            obtain ⟨p0_15, p1_15, pa_15, pl_15, pc_15, e15, _⟩ := tm15
            rw [e15] at HX15
            obtain ⟨vs, rfl⟩ := put_of (show vs 14 = _ from e14)
            obtain ⟨vs, rfl⟩ := put_of (show vs 15 = _ from e15)
            obtain ⟨vs, rfl⟩ := put_of (show vs 11 = _ from hd ⟨11, .guard⟩ (by simp) rfl)
            clear e14 e15
            have HBX := hide hb
            clear hb hd
            go_simp
            refine (c_same HX14.out HX15.out).mono ?_
            rintro e w7 ⟨r, rfl, hr, hb7⟩
            obtain rfl := hr.2 E3.out
            exact hK _ _ hb7 rfl
          · intro vs wx K hb hd hK
            obtain ⟨vs, rfl⟩ := put_of (show vs 11 = _ from hd ⟨11, .data⟩ (by simp) rfl)
            obtain ⟨vs, rfl⟩ := put_of (show vs 16 = _ from hd ⟨16, .data⟩ (by simp) rfl)
            obtain ⟨vs, rfl⟩ := put_of (show vs 4 = _ from hd ⟨4, .guard⟩ (by simp) rfl)
            have HBX := hide hb
            clear hb hd
            go_simp
            exact hK _ _ (Below.refl _ _) rfl
          · intro vs wx K hb hd hK
            obtain ⟨vs, rfl⟩ := put_of (show vs 4 = _ from hd ⟨4, .data⟩ (by simp) rfl)
            obtain ⟨vs, rfl⟩ := put_of (show vs 17 = _ from hd ⟨17, .data⟩ (by simp) rfl)
            have HBX := hide hb
            clear hb hd
            go_simp
            exact hK _ _ (Below.refl _ _) rfl
          · intro vs wx K hb hd hK
            obtain ⟨vs, rfl⟩ := put_of (show vs 18 = _ from hd ⟨18, .data⟩ (by simp) rfl)
            have HBX := hide hb
            clear hb hd
            go_simp
            exact hK _ _ (Below.refl _ _) rfl
        · intro vs wx hb hF
          obtain ⟨vs, rfl⟩ := put_of (show vs 19 = _ from hF 19 (by decide))
          have HBX := hide hb
          clear hb hF
          simp only [put, Nat.reduceEqDiff, reduceIte]
          go_wp2_with fail
          go_ret
          exact ⟨rfl, HB2.out.trans (HBX.out.mono HB2.out.size)⟩
    have hbf : bv = false := by
      cases bv with
      | false => rfl
      | true => have := FB.out HBV.out; rw [HFV.out] at this; cases this
    subst hbf
    · skip
      refine wp_region_vals (by kernel_rfl) (by kernel_rfl) (fun vs => { tmps := #[Value.agg #[Value.int IntKind.i64 r0.op, Value.int IntKind.i64 r0.n, Value.slice a0 r0.kids.length z0], Value.agg #[Value.int IntKind.i64 r1.op, Value.int IntKind.i64 r1.n, Value.slice a1 r1.kids.length z1], Value.agg #[Value.int IntKind.i64 r2.op, Value.int IntKind.i64 r2.n, Value.slice a2 r2.kids.length z2], Value.int IntKind.i64 nx, Value.pointer (some { block := w.heap.size, off := 0 }), Value.pointer (some { block := w.heap.size + 1, off := 0 }), Value.pointer (some { block := w.heap.size + 1 + 1, off := 0 }), undef, Value.bool false, Value.pointer (some { block := q0, off := 0 }), Value.pointer (some { block := q1, off := 0 }), Value.pointer (some { block := q2, off := 0 }), Value.bool true, Value.bool false, Value.agg #[Value.int IntKind.i64 r0.op, Value.int IntKind.i64 r0.n, Value.slice a0 r0.kids.length z0], Value.bool true, Value.bool false, Value.bool false, Value.agg #[Value.int IntKind.i64 r1.op, Value.int IntKind.i64 r1.n, Value.slice a1 r1.kids.length z1], Value.bool true, Value.bool false, Value.bool false, Value.bool false, Value.agg #[Value.int IntKind.i64 r2.op, Value.int IntKind.i64 r2.n, Value.slice a2 r2.kids.length z2], Value.bool true, Value.bool false, Value.bool false, s0, s1, s2, s3, s4, s5, Value.int IntKind.i64 n, Value.int IntKind.i64 nx, vs 0, vs 1, vs 2, vs 3, vs 4, vs 5, vs 6, vs 7, vs 8, vs 9, vs 10, vs 11, vs 12, vs 13, vs 14, vs 15, undef, undef, undef, undef, undef, undef, undef, undef, undef, undef, undef, undef, undef, undef, undef, undef, undef, undef, undef], defers := [] }) (fun i => [undef, undef, undef, undef, undef, undef, undef, undef, undef, undef, undef, undef, undef, undef, undef, undef].getD i undef) (closed_Fc T U V nx) (closed_Fc.keep T U V nx) ?_ ?_
      · refine ⟨?_, ?_, ?_, ?_, ?_, ?_, ?_, ?_, ?_, ?_, ?_, ?_, ?_, ?_, ?_, ?_, trivial⟩
        · intro vs wx K hb hd hK
          obtain ⟨c0, c1, c2⟩ := cells3' hb HKT.out
          have HBX := hide hb
          clear hb hd
          go_simp
          exact hK _ _ (Below.refl _ _) ⟨_, _, _, _, _, rfl, TmAt.below HTT.out HBX.out (Nat.le_refl _) HBX.out.size⟩
        · intro vs wx K hb hd hK
          have HBX := hide hb
          clear hb hd
          go_simp
          exact hK _ _ (Below.refl _ _) rfl
        · intro vs wx K hb hd hK
          have tm0 := hd ⟨0, .data⟩ (by simp) rfl
          have HX0 := hide tm0
          obtain ⟨p0_0, p1_0, pa_0, pl_0, pc_0, e0, _⟩ := tm0
          rw [e0] at HX0
          obtain ⟨vs, rfl⟩ := put_of (show vs 0 = _ from e0)
          obtain ⟨vs, rfl⟩ := put_of (show vs 1 = _ from hd ⟨1, .data⟩ (by simp) rfl)
          clear e0
          have HBX := hide hb
          clear hb hd
          go_simp
          refine (c_free HX0.out GT.out (HTB'.out.later HBX.out) (by omega)).mono ?_
          rintro e w7 ⟨rfl, hb7⟩
          rw [HFV.out]
          exact hK _ _ hb7 rfl
        · intro vs wx K hb hd hK
          obtain ⟨vs, rfl⟩ := put_of (show vs 2 = _ from hd ⟨2, .data⟩ (by simp) rfl)
          have HBX := hide hb
          clear hb hd
          go_simp
          exact hK _ _ (Below.refl _ _) rfl
        · intro vs wx K hb hd hK
          obtain ⟨vs, rfl⟩ := put_of (show vs 3 = _ from hd ⟨3, .data⟩ (by simp) rfl)
          have HBX := hide hb
          clear hb hd
          go_simp
          exact hK _ _ (Below.refl _ _) rfl
        · intro vs wx K hb hd hK
          obtain ⟨vs, rfl⟩ := put_of (show vs 4 = _ from hd ⟨4, .guard⟩ (by simp) rfl)
          clear hb hd
          go_simp
          exact hK _ _ (Below.refl _ _) rfl
        · intro vs wx K hb hd hK
          obtain ⟨vs, rfl⟩ := put_of (show vs 4 = _ from hd ⟨4, .guard⟩ (by simp) rfl)
          clear hb hd
          go_simp
          exact hK _ _ (Below.refl _ _) rfl
        · intro vs wx K hb hd hK
          obtain ⟨vs, rfl⟩ := put_of (show vs 4 = _ from hd ⟨4, .guard⟩ (by simp) rfl)
          clear hb hd
          go_simp
          exact hK _ _ (Below.refl _ _) rfl
        · intro vs wx K hb hd hK
          obtain ⟨vs, rfl⟩ := put_of (show vs 4 = _ from hd ⟨4, .guard⟩ (by simp) rfl)
          clear hb hd
          go_simp
          exact hK _ _ (Below.refl _ _) rfl
        · intro vs wx K hb hd hK
          obtain ⟨vs, rfl⟩ := put_of (show vs 4 = _ from hd ⟨4, .guard⟩ (by simp) rfl)
          clear hb hd
          go_simp
          exact hK _ _ (Below.refl _ _) rfl
        · intro vs wx K hb hd hK
          obtain ⟨vs, rfl⟩ := put_of (show vs 4 = _ from hd ⟨4, .guard⟩ (by simp) rfl)
          clear hb hd
          go_simp
          exact hK _ _ (Below.refl _ _) rfl
        · intro vs wx K hb hd hK
          obtain ⟨vs, rfl⟩ := put_of (show vs 4 = _ from hd ⟨4, .guard⟩ (by simp) rfl)
          clear hb hd
          go_simp
          exact hK _ _ (Below.refl _ _) rfl
        · intro vs wx K hb hd hK
          obtain ⟨vs, rfl⟩ := put_of (show vs 4 = _ from hd ⟨4, .guard⟩ (by simp) rfl)
          clear hb hd
          go_simp
          exact hK _ _ (Below.refl _ _) rfl
        · intro vs wx K hb hd hK
          obtain ⟨vs, rfl⟩ := put_of (show vs 4 = _ from hd ⟨4, .guard⟩ (by simp) rfl)
          clear hb hd
          go_simp
          exact hK _ _ (Below.refl _ _) rfl
        · intro vs wx K hb hd hK
          obtain ⟨vs, rfl⟩ := put_of (show vs 4 = _ from hd ⟨4, .guard⟩ (by simp) rfl)
          clear hb hd
          go_simp
          exact hK _ _ (Below.refl _ _) rfl
        · intro vs wx K hb hd hK
          obtain ⟨vs, rfl⟩ := put_of (show vs 4 = _ from hd ⟨4, .data⟩ (by simp) rfl)
          obtain ⟨vs, rfl⟩ := put_of (show vs 14 = _ from hd ⟨14, .data⟩ (by simp) rfl)
          have HBX := hide hb
          clear hb hd
          go_simp
          exact hK _ _ (Below.refl _ _) rfl
      · intro vs wy hb hF
        obtain ⟨vs, rfl⟩ := put_of (show vs 15 = _ from hF 15 (by decide))
        have HBY := hide hb
        clear hb hF
        simp only [put, Nat.reduceEqDiff, reduceIte]
        generalize vs 0 = sd0
        generalize vs 1 = sd1
        generalize vs 2 = sd2
        generalize vs 3 = sd3
        generalize vs 4 = sd4
        generalize vs 5 = sd5
        generalize vs 6 = sd6
        generalize vs 7 = sd7
        generalize vs 8 = sd8
        generalize vs 9 = sd9
        generalize vs 10 = sd10
        generalize vs 11 = sd11
        generalize vs 12 = sd12
        generalize vs 13 = sd13
        generalize vs 14 = sd14
        clear vs
        have HKT2 := hide ((HBY.out.block _ (size_of_block HKT.out)).trans HKT.out)
        have HTT2 : Hid (TmAt wy wy.heap.size 7 T _) := hide (TmAt.below HTT.out HBY.out (Nat.le_refl _) HBY.out.size)
        clear HKT HTT
        have HKU2 := hide ((HBY.out.block _ (size_of_block HKU.out)).trans HKU.out)
        have HTU2 : Hid (TmAt wy wy.heap.size 4 U _) := hide (TmAt.below HTU.out HBY.out (Nat.le_refl _) HBY.out.size)
        clear HKU HTU
        have HKV2 := hide ((HBY.out.block _ (size_of_block HKV.out)).trans HKV.out)
        have HTV2 : Hid (TmAt wy wy.heap.size 4 V _) := hide (TmAt.below HTV.out HBY.out (Nat.le_refl _) HBY.out.size)
        clear HKV HTV
        have HTB2 := hide (HTB'.out.later HBY.out)
        have HB2 : Hid (Below w.heap.size w wy) := HBW.out.trans (HBY.out.mono HBW.out.size)
        clear HBY
        go_wp2_with fail
        refine wp_region_vals (by kernel_rfl) (by kernel_rfl) (fun vs => { tmps := #[Value.agg #[Value.int IntKind.i64 r0.op, Value.int IntKind.i64 r0.n, Value.slice a0 r0.kids.length z0], Value.agg #[Value.int IntKind.i64 r1.op, Value.int IntKind.i64 r1.n, Value.slice a1 r1.kids.length z1], Value.agg #[Value.int IntKind.i64 r2.op, Value.int IntKind.i64 r2.n, Value.slice a2 r2.kids.length z2], Value.int IntKind.i64 nx, Value.pointer (some { block := w.heap.size, off := 0 }), Value.pointer (some { block := w.heap.size + 1, off := 0 }), Value.pointer (some { block := w.heap.size + 1 + 1, off := 0 }), undef, vs 19, Value.pointer (some { block := q0, off := 0 }), Value.pointer (some { block := q1, off := 0 }), Value.pointer (some { block := q2, off := 0 }), Value.bool true, Value.bool false, Value.agg #[Value.int IntKind.i64 r0.op, Value.int IntKind.i64 r0.n, Value.slice a0 r0.kids.length z0], Value.bool true, Value.bool false, Value.bool false, Value.agg #[Value.int IntKind.i64 r1.op, Value.int IntKind.i64 r1.n, Value.slice a1 r1.kids.length z1], Value.bool true, Value.bool false, Value.bool false, Value.bool false, Value.agg #[Value.int IntKind.i64 r2.op, Value.int IntKind.i64 r2.n, Value.slice a2 r2.kids.length z2], Value.bool true, Value.bool false, Value.bool false, s0, s1, s2, s3, s4, s5, Value.int IntKind.i64 n, Value.int IntKind.i64 nx, sd0, sd1, sd2, sd3, sd4, sd5, sd6, sd7, sd8, sd9, sd10, sd11, sd12, sd13, sd14, Value.bool false, vs 0, vs 1, vs 2, vs 3, vs 4, vs 5, vs 6, vs 7, vs 8, vs 9, vs 10, vs 11, vs 12, vs 13, vs 14, vs 15, vs 16, vs 17, vs 18], defers := [] }) (fun i => [undef, undef, undef, undef, undef, undef, undef, undef, undef, undef, undef, undef, undef, undef, undef, undef, undef, undef, undef, Value.bool false].getD i undef) (closed_Gc T U V nx) (closed_Gc.keep T U V nx) ?_ ?_
        · refine ⟨?_, ?_, ?_, ?_, ?_, ?_, ?_, ?_, ?_, ?_, ?_, ?_, ?_, ?_, ?_, ?_, ?_, ?_, ?_, ?_, trivial⟩
          · intro vs wx K hb hd hK
            obtain ⟨c0, c1, c2⟩ := cells3' hb HKT2.out
            have HBX := hide hb
            clear hb hd
            go_simp
            exact hK _ _ (Below.refl _ _) ⟨_, _, _, _, _, rfl, TmAt.below HTT2.out HBX.out (Nat.le_refl _) HBX.out.size⟩
          · intro vs wx K hb hd hK
            have HBX := hide hb
            clear hb hd
            go_simp
            exact hK _ _ (Below.refl _ _) rfl
          · intro vs wx K hb hd hK
            have tm0 := hd ⟨0, .data⟩ (by simp) rfl
            have HX0 := hide tm0
            obtain ⟨p0_0, p1_0, pa_0, pl_0, pc_0, e0, _⟩ := tm0
            rw [e0] at HX0
            obtain ⟨vs, rfl⟩ := put_of (show vs 0 = _ from e0)
            obtain ⟨vs, rfl⟩ := put_of (show vs 1 = _ from hd ⟨1, .data⟩ (by simp) rfl)
            clear e0
            have HBX := hide hb
            clear hb hd
            go_simp
            refine (c_below HX0.out GT.out (HTB2.out.later HBX.out) (by omega)).mono ?_
            rintro e w7 ⟨rfl, hb7⟩
            rw [HBV.out]
            exact hK _ _ hb7 rfl
          · intro vs wx K hb hd hK
            obtain ⟨vs, rfl⟩ := put_of (show vs 2 = _ from hd ⟨2, .data⟩ (by simp) rfl)
            have HBX := hide hb
            clear hb hd
            go_simp
            exact hK _ _ (Below.refl _ _) rfl
          · intro vs wx K hb hd hK
            obtain ⟨vs, rfl⟩ := put_of (show vs 3 = _ from hd ⟨3, .data⟩ (by simp) rfl)
            have HBX := hide hb
            clear hb hd
            go_simp
            exact hK _ _ (Below.refl _ _) rfl
          · intro vs wx K hb hd hK
            obtain ⟨vs, rfl⟩ := put_of (show vs 4 = _ from hd ⟨4, .guard⟩ (by simp) rfl)
            clear hb hd
            go_simp
            exact hK _ _ (Below.refl _ _) rfl
          · intro vs wx K hb hd hK
            obtain ⟨vs, rfl⟩ := put_of (show vs 4 = _ from hd ⟨4, .guard⟩ (by simp) rfl)
            clear hb hd
            go_simp
            exact hK _ _ (Below.refl _ _) rfl
          · intro vs wx K hb hd hK
            obtain ⟨vs, rfl⟩ := put_of (show vs 4 = _ from hd ⟨4, .guard⟩ (by simp) rfl)
            clear hb hd
            go_simp
            exact hK _ _ (Below.refl _ _) rfl
          · intro vs wx K hb hd hK
            obtain ⟨vs, rfl⟩ := put_of (show vs 4 = _ from hd ⟨4, .guard⟩ (by simp) rfl)
            clear hb hd
            go_simp
            exact hK _ _ (Below.refl _ _) rfl
          · intro vs wx K hb hd hK
            obtain ⟨vs, rfl⟩ := put_of (show vs 4 = _ from hd ⟨4, .guard⟩ (by simp) rfl)
            clear hb hd
            go_simp
            exact hK _ _ (Below.refl _ _) rfl
          · intro vs wx K hb hd hK
            obtain ⟨vs, rfl⟩ := put_of (show vs 4 = _ from hd ⟨4, .guard⟩ (by simp) rfl)
            clear hb hd
            go_simp
            exact hK _ _ (Below.refl _ _) rfl
          · intro vs wx K hb hd hK
            obtain ⟨vs, rfl⟩ := put_of (show vs 4 = _ from hd ⟨4, .guard⟩ (by simp) rfl)
            clear hb hd
            go_simp
            exact hK _ _ (Below.refl _ _) rfl
          · intro vs wx K hb hd hK
            obtain ⟨vs, rfl⟩ := put_of (show vs 11 = _ from hd ⟨11, .guard⟩ (by simp) rfl)
            clear hb hd
            go_simp
            exact hK _ _ (Below.refl _ _) rfl
          · intro vs wx K hb hd hK
            obtain ⟨vs, rfl⟩ := put_of (show vs 11 = _ from hd ⟨11, .guard⟩ (by simp) rfl)
            clear hb hd
            go_simp
            exact hK _ _ (Below.refl _ _) rfl
          · intro vs wx K hb hd hK
            obtain ⟨vs, rfl⟩ := put_of (show vs 11 = _ from hd ⟨11, .guard⟩ (by simp) rfl)
            clear hb hd
            go_simp
            exact hK _ _ (Below.refl _ _) rfl
          · intro vs wx K hb hd hK
            obtain ⟨vs, rfl⟩ := put_of (show vs 11 = _ from hd ⟨11, .guard⟩ (by simp) rfl)
            clear hb hd
            go_simp
            exact hK _ _ (Below.refl _ _) rfl
          · intro vs wx K hb hd hK
            obtain ⟨vs, rfl⟩ := put_of (show vs 11 = _ from hd ⟨11, .guard⟩ (by simp) rfl)
            clear hb hd
            go_simp
            exact hK _ _ (Below.refl _ _) rfl
          · intro vs wx K hb hd hK
            obtain ⟨vs, rfl⟩ := put_of (show vs 4 = _ from hd ⟨4, .guard⟩ (by simp) rfl)
            clear hb hd
            go_simp
            exact hK _ _ (Below.refl _ _) rfl
          · intro vs wx K hb hd hK
            obtain ⟨vs, rfl⟩ := put_of (show vs 4 = _ from hd ⟨4, .data⟩ (by simp) rfl)
            obtain ⟨vs, rfl⟩ := put_of (show vs 17 = _ from hd ⟨17, .data⟩ (by simp) rfl)
            have HBX := hide hb
            clear hb hd
            go_simp
            exact hK _ _ (Below.refl _ _) rfl
          · intro vs wx K hb hd hK
            obtain ⟨vs, rfl⟩ := put_of (show vs 18 = _ from hd ⟨18, .data⟩ (by simp) rfl)
            have HBX := hide hb
            clear hb hd
            go_simp
            exact hK _ _ (Below.refl _ _) rfl
        · intro vs wx hb hF
          obtain ⟨vs, rfl⟩ := put_of (show vs 19 = _ from hF 19 (by decide))
          have HBX := hide hb
          clear hb hF
          simp only [put, Nat.reduceEqDiff, reduceIte]
          go_wp2_with fail
          go_ret
          exact ⟨rfl, HB2.out.trans (HBX.out.mono HB2.out.size)⟩
#print axioms closed_any
end Go.Proofs.YtpmaagafcpaajabDoor
