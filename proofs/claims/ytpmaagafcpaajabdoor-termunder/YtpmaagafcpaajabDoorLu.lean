/- The walk of TermUnder. -/
import Derived.Test.YtpmaagafcpaajabDoorLc
import Derived.Test.YtpmaagafcpaajabDoorLd
namespace Go.Proofs.YtpmaagafcpaajabDoor
open Go.RowKit
attribute [local go_sem] put

theorem tm_open {w : World} {D : Nat → Prop} {f : Nat} {t : Tr} {p0 p1 : Int} {pa : Option Addr} {pl pc : Nat} (h : TmD w D (f + 1) t (.agg #[.int .i64 p0, .int .i64 p1, .slice pa pl pc])) : p0 = t.op ∧ p1 = t.n ∧ pl = t.kids.length ∧ t.kids.length ≤ maxLen ∧ RowAt w D (TmD w D f) t.kids pa pc := by
  obtain ⟨a, cap, hv, _, _, hrow⟩ := h
  simp only [Value.agg.injEq, Array.mk.injEq, List.cons.injEq, Value.slice.injEq, Value.int.injEq, true_and, and_true] at hv
  obtain ⟨rfl, rfl, rfl, rfl, rfl⟩ := hv
  exact ⟨rfl, rfl, rfl, Nat.le_trans hrow.1 hrow.2.1, hrow⟩
theorem cellsE {w0 wx : World} {b o : Nat} {x y z : Value} (hb : Below w0.heap.size w0 wx) (h : w0.cell? ⟨b, o, none⟩ = some x ∧ w0.cell? ⟨b, o + 1, none⟩ = some y ∧ w0.cell? ⟨b, o + 2, none⟩ = some z) : wx.cell? ⟨b, o, none⟩ = some x ∧ wx.cell? ⟨b, o + 1, none⟩ = some y ∧ wx.cell? ⟨b, o + 2, none⟩ = some z := by
  have hl := World.block_lt_of_cell? w0 _ h.1
  exact ⟨(hb.cell (p := ⟨b, o, none⟩) hl).trans h.1, (hb.cell (p := ⟨b, o + 1, none⟩) hl).trans h.2.1, (hb.cell (p := ⟨b, o + 2, none⟩) hl).trans h.2.2⟩

def under_anyM (x0 : Value) (x1 : Value) (T U : Tr) : Nat → Value → World → (Nat → Prop) → Prop
  | 0 => fun v _ _ => v = x0
  | 1 => fun v w M => IsM 7 T v w M
  | 2 => fun v _ _ => v = x1
  | 3 => fun v w M => IsM 4 U v w M
  | _ => fun _ _ _ => True
theorem under_anyM.keep (x0 : Value) (x1 : Value) (T U : Tr) (k : Nat) (v : Value) (w w' : World) (M M' : Nat → Prop) (h : under_anyM x0 x1 T U k v w M) (hf : Fr M w w') (hM : ∀ q, q < w.heap.size → (M' q ↔ M q)) : under_anyM x0 x1 T U k v w' M' := by
  unfold under_anyM at *
  split at h <;> first | exact h | exact IsM.keep h hf hM
def under_F (T U : Tr) (nx bx : Int) : Nat → Value → World → (Nat → Prop) → Prop
  | 0 => fun v w M => IsM (7) (T) v w M
  | 1 => fun v _ _ => v = .int .i64 (bx)
  | 2 => fun v _ _ => v = .int .i64 (nx)
  | 3 => fun v w M => IsM (7) (shf (bx) (nx) 0 (T)) v w M
  | 4 => fun v w M => IsM (7) (T) v w M
  | 5 => fun v _ _ => v = .int .i64 (nx)
  | 6 => fun v w M => IsM (4) (U) v w M
  | 7 => fun v w M => IsM (7 + 4) (sub (nx) (U) 0 (T)) v w M
  | _ => fun _ _ _ => True
theorem under_F.keep (T U : Tr) (nx bx : Int) (k : Nat) (v : Value) (w w' : World) (M M' : Nat → Prop) (h : under_F T U nx bx k v w M) (hf : Fr M w w') (hM : ∀ q, q < w.heap.size → (M' q ↔ M q)) : under_F T U nx bx k v w' M' := by
  unfold under_F at *
  split at h <;> first | exact h | exact IsM.keep h hf hM
def under_G (U P PX PY : Tr) (nx bx bn : Int) (k len q0 qX qY bT oT bX oX bY oY zT zX zY : Nat) : Nat → Value → World → Prop
  | 0 => fun v _ => v = .pointer (some ⟨qX, 2, none⟩)
  | 1 => fun v _ => v = .slice (some ⟨bX, oX, none⟩) len zX
  | 2 => fun v _ => v = .int .i64 ((k : Nat))
  | 3 => fun v _ => v = .pointer (some ⟨bX, oX + k * 3, none⟩)
  | 4 => fun v w => IsT (6) (PX) v w
  | 5 => fun v _ => v = .pointer (some ⟨q0, 2, none⟩)
  | 6 => fun v _ => v = .slice (some ⟨bT, oT, none⟩) len zT
  | 7 => fun v _ => v = .int .i64 ((k : Nat))
  | 8 => fun v _ => v = .pointer (some ⟨bT, oT + k * 3, none⟩)
  | 9 => fun v w => IsT (6) (P) v w
  | 10 => fun v _ => v = .int .i64 (bx)
  | 11 => fun v _ => v = .int .i64 (nx)
  | 12 => fun v _ => v = .int .i64 (bn)
  | 13 => fun v _ => v = .int .i64 (nx + bn)
  | 14 => fun v w => IsT (6) (shf (bx) (nx + bn) 0 (P)) v w
  | 15 => fun v _ => v = .bool (true)
  | 16 => fun v _ => v = .bool (false)
  | 17 => fun v _ => v = .bool (false)
  | 18 => fun v _ => v = .pointer (some ⟨qY, 2, none⟩)
  | 19 => fun v _ => v = .slice (some ⟨bY, oY, none⟩) len zY
  | 20 => fun v _ => v = .int .i64 ((k : Nat))
  | 21 => fun v _ => v = .pointer (some ⟨bY, oY + k * 3, none⟩)
  | 22 => fun v w => IsT (10) (PY) v w
  | 23 => fun v _ => v = .pointer (some ⟨q0, 2, none⟩)
  | 24 => fun v _ => v = .slice (some ⟨bT, oT, none⟩) len zT
  | 25 => fun v _ => v = .int .i64 ((k : Nat))
  | 26 => fun v _ => v = .pointer (some ⟨bT, oT + k * 3, none⟩)
  | 27 => fun v w => IsT (6) (P) v w
  | 28 => fun v _ => v = .int .i64 (nx)
  | 29 => fun v _ => v = .int .i64 (bn)
  | 30 => fun v _ => v = .int .i64 (nx + bn)
  | 31 => fun v w => IsT (4) (U) v w
  | 32 => fun v _ => v = .int .i64 (bn)
  | 33 => fun v w => IsT (4) (shf (bn) (0) 0 (U)) v w
  | 34 => fun v w => IsT (6 + 4) (sub (nx + bn) (shf (bn) (0) 0 (U)) 0 (P)) v w
  | 35 => fun v _ => v = .bool (true)
  | 36 => fun v _ => v = .bool (false)
  | 37 => fun v _ => v = .bool (false)
  | _ => fun _ _ => True
theorem under_G.keep (U P PX PY : Tr) (nx bx bn : Int) (k len q0 qX qY bT oT bX oX bY oY zT zX zY : Nat) (i : Nat) (v : Value) (w w' : World) (h : under_G U P PX PY nx bx bn k len q0 qX qY bT oT bX oX bY oY zT zX zY i v w) (hb : Below w.heap.size w w') : under_G U P PX PY nx bx bn k len q0 qX qY bT oT bX oX bY oY zT zX zY i v w' := by
  unfold under_G at *
  split at h <;> first | exact h | exact IsT.keep h hb
set_option maxRecDepth 20000 in
set_option maxHeartbeats 4000000 in
theorem under_any (B f : Nat) (r0 : Tr) (v0 : Value) (r1 : Tr) (v1 : Value) (n by_ : Int) (w : World) (h0 : TmAt w B f r0 v0) (h1 : TmAt w B f r1 v1) (hB : B ≤ w.heap.size) (ht : Tabs w.heap.size w) (hl : Tl w) (hb : Tb w) :
    Calls Tryd.prog 6 #[v0, v1, .int .i64 n, .int .i64 by_] w fun e w' => e = .returned (.bool true) ∧ Below w.heap.size w w' := by
  have HR0 := hide (raw64_of h0)
  have H0 := hide h0
  obtain ⟨a0, z0, rfl, _, _, o0, n0⟩ := h0.shape
  clear h0
  have HR1 := hide (raw64_of h1)
  have H1 := hide h1
  obtain ⟨a1, z1, rfl, _, _, o1, n1⟩ := h1.shape
  clear h1
  have HT := hide ht; have HL := hide hl; have HTB := hide hb
  clear ht hl hb
  have HA : Hid (Below w.heap.size w ((w.alloc (.cells #[.int .i64 r0.op, .int .i64 r0.n, .slice a0 r0.kids.length z0] 39)).alloc (.cells #[.int .i64 r1.op, .int .i64 r1.n, .slice a1 r1.kids.length z1] 39))) := (((Below.refl w.heap.size w).alloc (Nat.le_refl _) _).alloc (by simp) _)
  go_enter Tryd.func6, Tryd.ntmps6
  go_wp2_with fail
  refine (known_any _ (HT.out.later HA.out) (HL.out.later HA.out)).mono ?_
  rintro e w1 ⟨rfl, hb1⟩
  obtain ⟨k0, k1, hbl, hs1⟩ := box_two hb1
  have HB1 := hide hbl; have HK0_1 := hide k0; have HK1_1 := hide k1
  clear hb1 hbl k0 k1
  obtain ⟨c0, c1, c2⟩ := blk3 HK0_1.out
  go_wp2_with fail
  refine (few_any B f r0 _ w1 (TmAt.below H0.out HB1.out hB (Nat.le_refl _)) (Nat.le_trans hB HB1.out.size)).mono ?_
  rintro e w2 ⟨rfl, hb2⟩
  have HB2 : Hid (Below w.heap.size w w2) := HB1.out.trans (hb2.mono HB1.out.size)
  have hs2 := hb2.size
  have HK0_2 := hide ((hb2.block _ (size_of_block HK0_1.out)).trans HK0_1.out)
  have HK1_2 := hide ((hb2.block _ (size_of_block HK1_1.out)).trans HK1_1.out)
  clear hb2 c0 c1 c2 HK0_1 HK1_1
  by_cases hq0 : r0.size < 300
  rotate_left
  · rw [decide_eq_false hq0]
    go_wp2_with fail
    go_ret
    exact ⟨rfl, HB2.out⟩
  rw [decide_eq_true hq0]
  obtain ⟨c0, c1, c2⟩ := blk3 HK1_2.out
  go_wp2_with fail
  refine (few_any B f r1 _ w2 (TmAt.below H1.out HB2.out hB (Nat.le_refl _)) (Nat.le_trans hB HB2.out.size)).mono ?_
  rintro e w3 ⟨rfl, hb3⟩
  have HB3 : Hid (Below w.heap.size w w3) := HB2.out.trans (hb3.mono HB2.out.size)
  have hs3 := hb3.size
  have HK0_3 := hide ((hb3.block _ (size_of_block HK0_2.out)).trans HK0_2.out)
  have HK1_3 := hide ((hb3.block _ (size_of_block HK1_2.out)).trans HK1_2.out)
  clear hb3 c0 c1 c2 HK0_2 HK1_2
  by_cases hq1 : r1.size < 300
  rotate_left
  · rw [decide_eq_false hq1]
    go_wp2_with fail
    go_ret
    exact ⟨rfl, HB3.out⟩
  rw [decide_eq_true hq1]
  go_wp2_with fail
  have HR0T : Hid (TmAt w3 w3.heap.size f r0 (.agg #[.int .i64 r0.op, .int .i64 r0.n, .slice a0 r0.kids.length z0])) := TmAt.below H0.out HB3.out hB (Nat.le_trans hB HB3.out.size)
  have HR1T : Hid (TmAt w3 w3.heap.size f r1 (.agg #[.int .i64 r1.op, .int .i64 r1.n, .slice a1 r1.kids.length z1])) := TmAt.below H1.out HB3.out hB (Nat.le_trans hB HB3.out.size)
  refine wp_region_boxes (by kernel_rfl) (by kernel_rfl) (fun vs => { tmps := #[Value.agg #[Value.int IntKind.i64 r0.op, Value.int IntKind.i64 r0.n, Value.slice a0 r0.kids.length z0], Value.agg #[Value.int IntKind.i64 r1.op, Value.int IntKind.i64 r1.n, Value.slice a1 r1.kids.length z1], Value.int IntKind.i64 n, Value.int IntKind.i64 by_, Value.pointer (some { block := w.heap.size, off := 0 }), Value.pointer (some { block := w.heap.size + 1, off := 0 }), undef, undef, Value.bool false, vs 4, vs 5, undef, undef, undef, undef, Value.bool true, Value.bool false, Value.agg #[Value.int IntKind.i64 r0.op, Value.int IntKind.i64 r0.n, Value.slice a0 r0.kids.length z0], Value.bool true, Value.bool false, Value.bool false, Value.agg #[Value.int IntKind.i64 r1.op, Value.int IntKind.i64 r1.n, Value.slice a1 r1.kids.length z1], Value.bool true, Value.bool false, Value.bool false, vs 0, vs 1, vs 2, vs 3, undef, undef, undef, undef, undef, undef, undef, undef, undef, undef, undef, undef, undef, undef, undef, undef, undef, undef, undef, undef, undef, undef, undef, undef, undef, undef, undef, undef, undef, undef, undef, undef, undef, undef, undef, undef, undef, undef, undef, undef, undef, undef, undef, undef, undef, undef, undef, undef, undef, undef, undef, undef, undef, undef, undef, undef, undef, undef, undef, undef, undef, undef, undef, undef, undef, undef, undef, undef, undef, undef, undef, undef, undef, undef, undef, undef, undef, undef, undef, undef, undef, undef, undef, undef, undef, undef, undef, undef, undef, undef, undef, undef, undef, undef], defers := [] }) (fun i => [undef, undef, undef, undef, undef, undef, undef, undef].getD i undef) [(4, 1, 6), (5, 3, 7)] (by decide) #[.int .i64 0, .int .i64 0, .slice none 0 0] 26 (under_anyM (.agg #[.int .i64 r0.op, .int .i64 r0.n, .slice a0 r0.kids.length z0]) (.agg #[.int .i64 r1.op, .int .i64 r1.n, .slice a1 r1.kids.length z1]) (mkT 6 3 r0) (mkT 3 2 r1)) (under_anyM.keep (.agg #[.int .i64 r0.op, .int .i64 r0.n, .slice a0 r0.kids.length z0]) (.agg #[.int .i64 r1.op, .int .i64 r1.n, .slice a1 r1.kids.length z1]) (mkT 6 3 r0) (mkT 3 2 r1)) ?_ ?_
  · refine ⟨⟨fun _ => ?_, fun x hx h => absurd h (by revert x; decide), fun x hx h => absurd h (by revert x; decide)⟩, ⟨fun _ => ?_, fun x hx h => absurd h (by revert x; decide), fun x hx h => absurd h (by revert x; decide)⟩, ⟨fun _ => ?_, fun x hx h => absurd h (by revert x; decide), fun x hx h => absurd h (by revert x; decide)⟩, ⟨fun _ => ?_, fun x hx h => absurd h (by revert x; decide), fun x hx h => absurd h (by revert x; decide)⟩, ⟨fun h => absurd h (by unfold Plainly; decide), fun x hx h => ?_, fun x hx h => absurd h (by revert x; decide)⟩, ⟨fun h => absurd h (by unfold Plainly; decide), fun x hx h => ?_, fun x hx h => absurd h (by revert x; decide)⟩, ⟨fun h => absurd h (by unfold Plainly; decide), fun x hx h => absurd h (by revert x; decide), fun x hx h => ?_⟩, ⟨fun h => absurd h (by unfold Plainly; decide), fun x hx h => absurd h (by revert x; decide), fun x hx h => ?_⟩, trivial⟩
    · intro vs wx M K hb hd hM hK
      obtain ⟨c0, c1, c2⟩ := cells3' hb HK0_3.out
      clear hb hd
      go_simp
      exact hK _ _ (Below.refl _ _) rfl
    · intro vs wx M K hb hd hM hK
      obtain ⟨vs, rfl⟩ := put_of (show vs 0 = _ from hd ⟨0, .data⟩ (by simp) rfl (by unfold Plainly; decide))
      have HBX := hide hb; have HM := hide hM
      clear hb hd hM
      go_simp
      refine (c_make (d := 6) M (fun q hq => (HM.out q hq).2) (TmAt.below HR0T.out HBX.out (Nat.le_refl _) (Nat.le_refl _)) HBX.out.size (by decide) (by decide) (by decide)).mono ?_
      rintro e w7 ⟨u, rfl, hu, hb7⟩
      exact hK _ _ hb7 hu
    · intro vs wx M K hb hd hM hK
      obtain ⟨c0, c1, c2⟩ := cells3' hb HK1_3.out
      clear hb hd
      go_simp
      exact hK _ _ (Below.refl _ _) rfl
    · intro vs wx M K hb hd hM hK
      obtain ⟨vs, rfl⟩ := put_of (show vs 2 = _ from hd ⟨2, .data⟩ (by simp) rfl (by unfold Plainly; decide))
      have HBX := hide hb; have HM := hide hM
      clear hb hd hM
      go_simp
      refine (c_make (d := 3) M (fun q hq => (HM.out q hq).2) (TmAt.below HR1T.out HBX.out (Nat.le_refl _) (Nat.le_refl _)) HBX.out.size (by decide) (by decide) (by decide)).mono ?_
      rintro e w7 ⟨u, rfl, hu, hb7⟩
      exact hK _ _ hb7 hu
    · intro vs wx K hK
      clear hx h
      go_simp
      exact hK
    · intro vs wx K hK
      clear hx h
      go_simp
      exact hK
    · obtain rfl : x = (4, 1, 6) := (by revert h; revert x; decide)
      refine ⟨⟨⟨4, .data⟩, by simp, rfl, rfl⟩, ⟨⟨1, .data⟩, by simp, rfl, rfl⟩, ?_⟩
      intro vs wx M K q hF hq hz hK
      obtain ⟨p0, p1, pa, pl, pc, e1, _⟩ := (show IsM _ _ _ _ _ from hF)
      obtain ⟨vs, rfl⟩ := put_of (show vs 1 = _ from e1)
      obtain ⟨vs, rfl⟩ := put_of (show vs 4 = _ from hq)
      obtain ⟨y0, y1, y2⟩ := blk3 hz
      obtain ⟨z0, z1, z2⟩ := frz3 hz
      have HZ := hide hz
      clear hF hq hz hx h e1
      go_simp
      exact hK _ _ (fr_put3 _ _ _ _ _) (put3_blk HZ.out _ _ _) rfl
    · obtain rfl : x = (5, 3, 7) := (by revert h; revert x; decide)
      refine ⟨⟨⟨5, .data⟩, by simp, rfl, rfl⟩, ⟨⟨3, .data⟩, by simp, rfl, rfl⟩, ?_⟩
      intro vs wx M K q hF hq hz hK
      obtain ⟨p0, p1, pa, pl, pc, e1, _⟩ := (show IsM _ _ _ _ _ from hF)
      obtain ⟨vs, rfl⟩ := put_of (show vs 3 = _ from e1)
      obtain ⟨vs, rfl⟩ := put_of (show vs 5 = _ from hq)
      obtain ⟨y0, y1, y2⟩ := blk3 hz
      obtain ⟨z0, z1, z2⟩ := frz3 hz
      have HZ := hide hz
      clear hF hq hz hx h e1
      go_simp
      exact hK _ _ (fr_put3 _ _ _ _ _) (put3_blk HZ.out _ _ _) rfl
  · intro vs wx M hb hF hB
    obtain ⟨q0, cs0, b0, l0, m0, h0, g0⟩ := hB (4, 1, 6) (by simp) (by decide) (by decide)
    obtain ⟨t00, t01, t0a, t0l, t0c, rfl, tm0⟩ := (show IsM _ _ _ _ _ from hF 1 (by decide) (by unfold Plainly; decide)).box g0
    obtain ⟨vs, rfl⟩ := put_of (show vs 4 = _ from b0)
    obtain ⟨q1, cs1, b1, l1, m1, h1, g1⟩ := hB (5, 3, 7) (by simp) (by decide) (by decide)
    obtain ⟨t10, t11, t1a, t1l, t1c, rfl, tm1⟩ := (show IsM _ _ _ _ _ from hF 3 (by decide) (by unfold Plainly; decide)).box g1
    obtain ⟨vs, rfl⟩ := put_of (show vs 5 = _ from b1)
    have HBX := hide hb; have HKT := hide h0; have HTT := hide tm0; have HKU := hide h1; have HTU := hide tm1
    clear hb hF hB h0 tm0 g0 h1 tm1 g1
    have HBW : Hid (Below w.heap.size w wx) := HB3.out.trans (HBX.out.mono HB3.out.size)
    have G0 := hide (Gd.mk' (d := 6) (vars := 3) HR0.out (by decide) (by decide) (by decide))
    obtain ⟨T, hT⟩ : ∃ T, T = mkT 6 3 r0 := ⟨_, rfl⟩
    have HET := hide hT
    rw [← hT] at G0 HTT
    clear hT
    have G1 := hide (Gd.mk' (d := 3) (vars := 2) HR1.out (by decide) (by decide) (by decide))
    obtain ⟨U, hU⟩ : ∃ U, U = mkT 3 2 r1 := ⟨_, rfl⟩
    have HEU := hide hU
    rw [← hU] at G1 HTU
    clear hU
    clear HK0_3 HR0T HK1_3 HR1T HBX HA
    simp only [put, Nat.reduceEqDiff, reduceIte, ptr]
    clear b0 b1
    generalize vs 0 = s0; generalize vs 1 = s1; generalize vs 2 = s2; generalize vs 3 = s3
    clear vs
    go_wp2_with fail
    refine (lwithin_n n 4 _ (by decide) (by decide)).mono ?_
    rintro e w9 ⟨rfl, h9⟩
    rw [h9]
    clear h9 w9
    have ha := wi_n n 4 (by decide)
    generalize wi n 4 = nx at *
    go_wp2_with fail
    refine (lwithin_n by_ 4 _ (by decide) (by decide)).mono ?_
    rintro e w9 ⟨rfl, h9⟩
    rw [h9]
    clear h9 w9
    have hb := wi_n by_ 4 (by decide)
    generalize wi by_ 4 = bx at *
    obtain ⟨ha0, ha1⟩ := ha
    obtain ⟨hb0, hb1⟩ := hb
    go_wp2_with fail
    have GT := hide G0.out.1; have GU := hide G1.out.1
    have ST : Hid (Snd 3000 T) := hide G0.out.2.1.snd; have SU : Hid (Snd 3000 U) := hide G1.out.2.1.snd
    have ZT : Hid (T.size ≤ 5461) := hide G0.out.2.2; have ZU : Hid (U.size ≤ 85) := hide G1.out.2.2
    have Z1 : Hid (T.size + U.size * cnt (fun x => decide (x = nx)) 0 T ≤ 8388608) := hide (fit_le ZT.out ZU.out (by decide))
    have HTB' : Hid (Tb wx) := hide (HTB.out.later HBW.out)
    clear G0 G1
    refine wp_region_boxes (by kernel_rfl) (by kernel_rfl) (fun vs => { tmps := #[Value.agg #[Value.int IntKind.i64 r0.op, Value.int IntKind.i64 r0.n, Value.slice a0 r0.kids.length z0], Value.agg #[Value.int IntKind.i64 r1.op, Value.int IntKind.i64 r1.n, Value.slice a1 r1.kids.length z1], Value.int IntKind.i64 nx, Value.int IntKind.i64 bx, Value.pointer (some { block := w.heap.size, off := 0 }), Value.pointer (some { block := w.heap.size + 1, off := 0 }), undef, undef, Value.bool false, Value.pointer (some { block := q0, off := 0 }), Value.pointer (some { block := q1, off := 0 }), vs 8, vs 9, undef, undef, Value.bool true, Value.bool false, Value.agg #[Value.int IntKind.i64 r0.op, Value.int IntKind.i64 r0.n, Value.slice a0 r0.kids.length z0], Value.bool true, Value.bool false, Value.bool false, Value.agg #[Value.int IntKind.i64 r1.op, Value.int IntKind.i64 r1.n, Value.slice a1 r1.kids.length z1], Value.bool true, Value.bool false, Value.bool false, s0, s1, s2, s3, Value.int IntKind.i64 n, Value.int IntKind.i64 nx, Value.int IntKind.i64 by_, Value.int IntKind.i64 bx, vs 0, vs 1, vs 2, vs 3, vs 4, vs 5, vs 6, vs 7, undef, undef, undef, undef, undef, undef, undef, undef, undef, undef, undef, undef, undef, undef, undef, undef, undef, undef, undef, undef, undef, undef, undef, undef, undef, undef, undef, undef, undef, undef, undef, undef, undef, undef, undef, undef, undef, undef, undef, undef, undef, undef, undef, undef, undef, undef, undef, undef, undef, undef, undef, undef, undef, undef, undef, undef, undef, undef, undef, undef, undef, undef, undef, undef, undef, undef, undef, undef, undef, undef, undef, undef, undef, undef, undef, undef, undef, undef, undef, undef, undef, undef], defers := [] }) (fun i => [undef, undef, undef, undef, undef, undef, undef, undef, undef, undef, undef, undef].getD i undef) [(8, 3, 10), (9, 7, 11)] (by decide) #[.int .i64 0, .int .i64 0, .slice none 0 0] 26 (under_F T U nx bx) (under_F.keep T U nx bx) ?_ ?_
    · refine ⟨⟨fun _ => ?_, fun x hx h => absurd h (by revert x; decide), fun x hx h => absurd h (by revert x; decide)⟩, ⟨fun _ => ?_, fun x hx h => absurd h (by revert x; decide), fun x hx h => absurd h (by revert x; decide)⟩, ⟨fun _ => ?_, fun x hx h => absurd h (by revert x; decide), fun x hx h => absurd h (by revert x; decide)⟩, ⟨fun _ => ?_, fun x hx h => absurd h (by revert x; decide), fun x hx h => absurd h (by revert x; decide)⟩, ⟨fun _ => ?_, fun x hx h => absurd h (by revert x; decide), fun x hx h => absurd h (by revert x; decide)⟩, ⟨fun _ => ?_, fun x hx h => absurd h (by revert x; decide), fun x hx h => absurd h (by revert x; decide)⟩, ⟨fun _ => ?_, fun x hx h => absurd h (by revert x; decide), fun x hx h => absurd h (by revert x; decide)⟩, ⟨fun _ => ?_, fun x hx h => absurd h (by revert x; decide), fun x hx h => absurd h (by revert x; decide)⟩, ⟨fun h => absurd h (by unfold Plainly; decide), fun x hx h => ?_, fun x hx h => absurd h (by revert x; decide)⟩, ⟨fun h => absurd h (by unfold Plainly; decide), fun x hx h => ?_, fun x hx h => absurd h (by revert x; decide)⟩, ⟨fun h => absurd h (by unfold Plainly; decide), fun x hx h => absurd h (by revert x; decide), fun x hx h => ?_⟩, ⟨fun h => absurd h (by unfold Plainly; decide), fun x hx h => absurd h (by revert x; decide), fun x hx h => ?_⟩, trivial⟩
      · intro vs wx M K hb hd hM hK
        obtain ⟨c0, c1, c2⟩ := cells3' hb HKT.out
        have HBX := hide hb; have HM := hide hM
        clear hb hd hM
        go_simp
        exact hK _ _ (Below.refl _ _) (IsM.old HTT.out HBX.out HM.out)
      · intro vs wx M K hb hd hM hK
        have HBX := hide hb; have HM := hide hM
        clear hb hd hM
        go_simp
        exact hK _ _ (Below.refl _ _) rfl
      · intro vs wx M K hb hd hM hK
        have HBX := hide hb; have HM := hide hM
        clear hb hd hM
        go_simp
        exact hK _ _ (Below.refl _ _) rfl
      · intro vs wx M K hb hd hM hK
        have tm0 := hd ⟨0, .data⟩ (by simp) rfl (by unfold Plainly; decide)
        have HX0 := hide tm0
        obtain ⟨p0_0, p1_0, pa_0, pl_0, pc_0, e0, _⟩ := tm0
        rw [e0] at HX0
        obtain ⟨vs, rfl⟩ := put_of (show vs 0 = _ from e0)
        obtain ⟨vs, rfl⟩ := put_of (show vs 1 = _ from hd ⟨1, .data⟩ (by simp) rfl (by unfold Plainly; decide))
        obtain ⟨vs, rfl⟩ := put_of (show vs 2 = _ from hd ⟨2, .data⟩ (by simp) rfl (by unfold Plainly; decide))
        clear e0
        have HBX := hide hb; have HM := hide hM
        clear hb hd hM
        go_simp
        refine (c_shiftM (fun q hq => (HM.out q hq).2) HX0.out GT.out (HTB'.out.later HBX.out) (by omega) (by omega)).mono ?_
        rintro e w7 ⟨u, rfl, hu, hb7⟩
        exact hK _ _ hb7 hu
      · intro vs wx M K hb hd hM hK
        obtain ⟨c0, c1, c2⟩ := cells3' hb HKT.out
        have HBX := hide hb; have HM := hide hM
        clear hb hd hM
        go_simp
        exact hK _ _ (Below.refl _ _) (IsM.old HTT.out HBX.out HM.out)
      · intro vs wx M K hb hd hM hK
        have HBX := hide hb; have HM := hide hM
        clear hb hd hM
        go_simp
        exact hK _ _ (Below.refl _ _) rfl
      · intro vs wx M K hb hd hM hK
        obtain ⟨c0, c1, c2⟩ := cells3' hb HKU.out
        have HBX := hide hb; have HM := hide hM
        clear hb hd hM
        go_simp
        exact hK _ _ (Below.refl _ _) (IsM.old HTU.out HBX.out HM.out)
      · intro vs wx M K hb hd hM hK
        have tm4 := hd ⟨4, .data⟩ (by simp) rfl (by unfold Plainly; decide)
        have HX4 := hide tm4
        obtain ⟨p0_4, p1_4, pa_4, pl_4, pc_4, e4, _⟩ := tm4
        rw [e4] at HX4
        have tm6 := hd ⟨6, .data⟩ (by simp) rfl (by unfold Plainly; decide)
        have HX6 := hide tm6
        obtain ⟨p0_6, p1_6, pa_6, pl_6, pc_6, e6, _⟩ := tm6
        rw [e6] at HX6
        obtain ⟨vs, rfl⟩ := put_of (show vs 4 = _ from e4)
        obtain ⟨vs, rfl⟩ := put_of (show vs 5 = _ from hd ⟨5, .data⟩ (by simp) rfl (by unfold Plainly; decide))
        obtain ⟨vs, rfl⟩ := put_of (show vs 6 = _ from e6)
        clear e4 e6
        have HBX := hide hb; have HM := hide hM
        clear hb hd hM
        go_simp
        refine (c_substM (fun q hq => (HM.out q hq).2) HX4.out HX6.out GT.out GU.out (HTB'.out.later HBX.out) Z1.out (by omega)).mono ?_
        rintro e w7 ⟨u, rfl, hu, hb7⟩
        exact hK _ _ hb7 hu
      · intro vs wx K hK
        clear hx h
        go_simp
        exact hK
      · intro vs wx K hK
        clear hx h
        go_simp
        exact hK
      · obtain rfl : x = (8, 3, 10) := (by revert h; revert x; decide)
        refine ⟨⟨⟨8, .data⟩, by simp, rfl, rfl⟩, ⟨⟨3, .data⟩, by simp, rfl, rfl⟩, ?_⟩
        intro vs wx M K q hF hq hz hK
        obtain ⟨p0, p1, pa, pl, pc, e1, _⟩ := (show IsM _ _ _ _ _ from hF)
        obtain ⟨vs, rfl⟩ := put_of (show vs 3 = _ from e1)
        obtain ⟨vs, rfl⟩ := put_of (show vs 8 = _ from hq)
        obtain ⟨y0, y1, y2⟩ := blk3 hz
        obtain ⟨z0, z1, z2⟩ := frz3 hz
        have HZ := hide hz
        clear hF hq hz hx h e1
        go_simp
        exact hK _ _ (fr_put3 _ _ _ _ _) (put3_blk HZ.out _ _ _) rfl
      · obtain rfl : x = (9, 7, 11) := (by revert h; revert x; decide)
        refine ⟨⟨⟨9, .data⟩, by simp, rfl, rfl⟩, ⟨⟨7, .data⟩, by simp, rfl, rfl⟩, ?_⟩
        intro vs wx M K q hF hq hz hK
        obtain ⟨p0, p1, pa, pl, pc, e1, _⟩ := (show IsM _ _ _ _ _ from hF)
        obtain ⟨vs, rfl⟩ := put_of (show vs 7 = _ from e1)
        obtain ⟨vs, rfl⟩ := put_of (show vs 9 = _ from hq)
        obtain ⟨y0, y1, y2⟩ := blk3 hz
        obtain ⟨z0, z1, z2⟩ := frz3 hz
        have HZ := hide hz
        clear hF hq hz hx h e1
        go_simp
        exact hK _ _ (fr_put3 _ _ _ _ _) (put3_blk HZ.out _ _ _) rfl
    · intro vs wy M hb hF hB
      obtain ⟨qX, csX, bX, lX, mX, hX, gX⟩ := hB (8, 3, 10) (by simp) (by decide) (by decide)
      obtain ⟨tX0, tX1, tXa, tXl, tXc, rfl, tmX⟩ := (show IsM _ _ _ _ _ from hF 3 (by decide) (by unfold Plainly; decide)).box gX
      obtain ⟨qY, csY, bY, lY, mY, hY, gY⟩ := hB (9, 7, 11) (by simp) (by decide) (by decide)
      obtain ⟨tY0, tY1, tYa, tYl, tYc, rfl, tmY⟩ := (show IsM _ _ _ _ _ from hF 7 (by decide) (by unfold Plainly; decide)).box gY
      obtain ⟨vs, rfl⟩ := put_of (show vs 8 = _ from bX)
      obtain ⟨vs, rfl⟩ := put_of (show vs 9 = _ from bY)
      have HBY := hide hb; have HKX := hide hX; have HTX := hide tmX; have HKY := hide hY; have HTY := hide tmY
      clear hb hF hB hX tmX gX bX hY tmY gY bY
      simp only [put, Nat.reduceEqDiff, reduceIte, ptr]
      generalize vs 0 = scX0
      generalize vs 1 = scX1
      generalize vs 2 = scX2
      generalize vs 3 = scX3
      generalize vs 4 = scX4
      generalize vs 5 = scX5
      generalize vs 6 = scX6
      generalize vs 7 = scX7
      clear vs
      obtain ⟨X, hX⟩ : ∃ X, X = shf (bx) (nx) 0 (T) := ⟨_, rfl⟩
      obtain ⟨Y, hY⟩ : ∃ Y, Y = sub (nx) (U) 0 (T) := ⟨_, rfl⟩
      rw [← hX] at HTX
      rw [← hY] at HTY
      have HX := hide hX; have HY := hide hY
      clear hX hY
      have HKT2 := hide ((HBY.out.block _ (size_of_block HKT.out)).trans HKT.out)
      have HTT2 : Hid (TmAt wy wy.heap.size 7 T _) := hide (TmAt.below HTT.out HBY.out (Nat.le_refl _) HBY.out.size)
      clear HKT HTT
      have HKU2 := hide ((HBY.out.block _ (size_of_block HKU.out)).trans HKU.out)
      have HTU2 : Hid (TmAt wy wy.heap.size 4 U _) := hide (TmAt.below HTU.out HBY.out (Nat.le_refl _) HBY.out.size)
      clear HKU HTU
      have HTB2 := hide (HTB'.out.later HBY.out)
      have HB2 : Hid (Below w.heap.size w wy) := HBW.out.trans (HBY.out.mono HBW.out.size)
      clear HBY
      obtain ⟨i1, i2, i3, i4, i5⟩ := tm_open (f := 6) HTT2.out
      obtain ⟨j1, j2, j3, j4, j5⟩ := tm_open (f := 6) HTX.out
      obtain ⟨k1, k2, k3, k4, k5⟩ := tm_open (f := 10) HTY.out
      subst i1 i2 i3 j1 j2 j3 k1 k2 k3
      have HRT := hide i5; have HRX := hide j5; have HRY := hide k5
      unfold maxLen at i4
      clear i5 j5 k5 j4 k4
      obtain ⟨c0, c1, c2⟩ := blk3 HKT2.out
      obtain ⟨d0, d1, d2⟩ := blk3 HKX.out
      obtain ⟨e0, e1, e2⟩ := blk3 HKY.out
      by_cases ho : T.op = 1
      · go_wp2_with fail
        go_ret
        exact ⟨rfl, HB2.out⟩
      have hob := ne_beq ho
      have hXo : X.op = T.op := by rw [HX.out, shf_op]
      have hXl : X.kids.length = T.kids.length := by rw [HX.out, shf_len]
      have hYo : Y.op = T.op := by rw [HY.out, sub_non _ _ _ ho]
      have hYl : Y.kids.length = T.kids.length := by rw [HY.out, sub_non _ _ _ ho]; simp
      have HXK : Hid (∀ (k : Nat) (h : k < X.kids.length) (h2 : k < T.kids.length), X.kids[k] = shf bx (nx + (bnd T.op (k : Nat) : Nat)) 0 T.kids[k]) := hide (fun k h h2 => by
        have h3 : X.kids = T.kids.mapIdx (fun j x => shf bx nx (0 + (bnd T.op ((j : Nat) : Int) : Nat)) x) := by rw [HX.out, shf_non _ _ _ ho]
        have h4 : X.kids[k] = shf bx nx (0 + (bnd T.op (k : Nat) : Nat)) T.kids[k] := by rw [List.getElem_of_eq h3, List.getElem_mapIdx]
        rw [h4]
        exact shf_at _ _ _ _ _ _ (by omega))
      have HYK : Hid (∀ (k : Nat) (h : k < Y.kids.length) (h2 : k < T.kids.length), Y.kids[k] = sub (nx + (bnd T.op (k : Nat) : Nat)) (shf (bnd T.op (k : Nat) : Nat) 0 0 U) 0 T.kids[k]) := hide (fun k h h2 => by
        have h3 : Y.kids = T.kids.mapIdx (fun j x => sub nx U (0 + (bnd T.op ((j : Nat) : Int) : Nat)) x) := by rw [HY.out, sub_non _ _ _ ho]
        have h4 : Y.kids[k] = sub nx U (0 + (bnd T.op (k : Nat) : Nat)) T.kids[k] := by rw [List.getElem_of_eq h3, List.getElem_mapIdx]
        rw [h4]
        exact sub_at _ _ _ _ _ _ _ (by omega) (Int.le_refl _) (by omega) (by omega))
      rw [hXo, hXl] at HKX HTX
      rw [hXo] at d0
      rw [hXl] at d2
      rw [hYo, hYl] at HKY HTY
      rw [hYo] at e0
      rw [hYl] at e2
      have HXL := hide hXl; have HYL := hide hYl; have HO := hide ho
      clear hXo hXl hYo hYl ho
      go_wp2_with fail
      clear c0 c1 c2 d0 d1 d2 e0 e1 e2
      go_loopw [13, 14] (fun i _ wr => ∃ k : Nat, k ≤ T.kids.length ∧ i = .int .i64 k ∧ Hid (Below wy.heap.size wy wr)) (fun i _ _ => T.kids.length - (intOf i).toNat)
      case atStart => exact ⟨0, Nat.zero_le _, rfl, Below.refl _ _⟩
      case round =>
        obtain ⟨k, hk, rfl, HBR⟩ := hrel
        have HB3 : Hid (Below w.heap.size w wr) := HB2.out.trans (HBR.out.mono HB2.out.size)
        have HTB3 := hide (HTB2.out.later HBR.out)
        have HKT3 := hide ((HBR.out.block _ (size_of_block HKT2.out)).trans HKT2.out)
        have HKU3 := hide ((HBR.out.block _ (size_of_block HKU2.out)).trans HKU2.out)
        have HTU3 : Hid (TmAt wr wr.heap.size 4 U _) := hide (TmAt.below HTU2.out HBR.out (Nat.le_refl _) HBR.out.size)
        have HKX3 := hide ((HBR.out.block _ (size_of_block HKX.out)).trans HKX.out)
        have HKY3 := hide ((HBR.out.block _ (size_of_block HKY.out)).trans HKY.out)
        obtain ⟨c0, c1, c2⟩ := blk3 HKT3.out
        by_cases hlt : k < T.kids.length
        rotate_left
        · go_wp2_with fail
          go_ret
          exact ⟨rfl, HB3.out⟩
        obtain ⟨bT, oT, aT, cT, rfl, lT, t0, t1, t2, tt⟩ := HRT.out.form hlt
        have hltX : k < X.kids.length := by rw [HXL.out]; exact hlt
        have hltY : k < Y.kids.length := by rw [HYL.out]; exact hlt
        obtain ⟨bX, oX, aX, cX, rfl, lX, x0, x1, x2, xt⟩ := HRX.out.form hltX
        obtain ⟨bY, oY, aY, cY, rfl, lY, y0, y1, y2, yt⟩ := HRY.out.form hltY
        have HPX := hide (HXK.out k hltX hlt)
        have HPY := hide (HYK.out k hltY hlt)
        have GP : Hid (Gd 6 T.kids[k]) := hide ⟨by have h1 := Tr.kid_size (List.getElem_mem hlt); have := GT.out.size; omega, by decide, GT.out.snd.kid (List.getElem_mem hlt)⟩
        have ZP : Hid (T.kids[k].size ≤ 5461) := hide (by have h1 := Tr.kid_size (List.getElem_mem hlt); have := ZT.out; omega)
        obtain ⟨P, hP⟩ : ∃ P, P = T.kids[k] := ⟨_, rfl⟩
        obtain ⟨PX, hPX⟩ : ∃ PX, PX = X.kids[k] := ⟨_, rfl⟩
        obtain ⟨PY, hPY⟩ : ∃ PY, PY = Y.kids[k] := ⟨_, rfl⟩
        rw [← hP] at t0 t1 t2 tt HPX HPY GP ZP
        rw [← hPX] at x0 x1 x2 xt HPX
        rw [← hPY] at y0 y1 y2 yt HPY
        clear hP hPX hPY
        have ET := hide (cellsE HBR.out ⟨t0, t1, t2⟩); have EX := hide (cellsE HBR.out ⟨x0, x1, x2⟩); have EY := hide (cellsE HBR.out ⟨y0, y1, y2⟩)
        have KT : Hid (TmAt wr wr.heap.size 6 P _) := hide (TmAt.below tt HBR.out (Nat.le_refl _) HBR.out.size)
        have KX : Hid (TmAt wr wr.heap.size 6 PX _) := hide (TmAt.below xt HBR.out (Nat.le_refl _) HBR.out.size)
        have KY : Hid (TmAt wr wr.heap.size 10 PY _) := hide (TmAt.below yt HBR.out (Nat.le_refl _) HBR.out.size)
        clear t0 t1 t2 tt x0 x1 x2 xt y0 y1 y2 yt lT lX lY
        obtain ⟨bn, hbn⟩ : ∃ bn : Int, bn = (bnd T.op (k : Nat) : Nat) := ⟨_, rfl⟩
        have hbn0 : 0 ≤ bn := by omega
        have hbn2 : bn ≤ 2 := by have := bnd_le T.op (k : Nat); omega
        rw [← hbn] at HPX HPY
        go_wp2_with fail
        refine (tbinders_any T.op (k : Nat) _ HTB3.out).mono ?_
        rintro e w9 ⟨rfl, h9⟩
        rw [h9, ← hbn]
        clear h9 w9 hbn c0 c1 c2
        have hwn : IntKind.i64.wrap (nx + bn) = nx + bn := by rw [IntKind.wrap_i64]; omega
        have GSU : Hid (Gd 4 (shf (bn) (0) 0 (U))) := hide (GU.out.shf (SU.out.more (by decide)) (by omega) 0)
        have Z2 : Hid (P.size + (shf (bn) (0) 0 (U)).size * cnt (fun x => decide (x = nx + bn)) 0 P ≤ 8388608) := hide (fit_le ZP.out (by rw [shf_size]; exact ZU.out) (by decide))
        have hk0 : (0 : Int) ≤ (k : Int) := by omega
        have hk1 : (k : Int) < (T.kids.length : Int) := by omega
        go_wp2_with fail
        refine wp_region_vals (by kernel_rfl) (by kernel_rfl) (fun vs => { tmps := #[Value.agg #[Value.int IntKind.i64 r0.op, Value.int IntKind.i64 r0.n, Value.slice a0 r0.kids.length z0], Value.agg #[Value.int IntKind.i64 r1.op, Value.int IntKind.i64 r1.n, Value.slice a1 r1.kids.length z1], Value.int IntKind.i64 nx, Value.int IntKind.i64 bx, Value.pointer (some { block := w.heap.size, off := 0 }), Value.pointer (some { block := w.heap.size + 1, off := 0 }), undef, undef, u8, Value.pointer (some { block := q0, off := 0 }), Value.pointer (some { block := q1, off := 0 }), Value.pointer (some { block := qX, off := 0 }), Value.pointer (some { block := qY, off := 0 }), Value.int IntKind.i64 ↑k, Value.int IntKind.i64 bn, Value.bool true, Value.bool false, Value.agg #[Value.int IntKind.i64 r0.op, Value.int IntKind.i64 r0.n, Value.slice a0 r0.kids.length z0], Value.bool true, Value.bool false, Value.bool false, Value.agg #[Value.int IntKind.i64 r1.op, Value.int IntKind.i64 r1.n, Value.slice a1 r1.kids.length z1], Value.bool true, Value.bool false, Value.bool false, s0, s1, s2, s3, Value.int IntKind.i64 n, Value.int IntKind.i64 nx, Value.int IntKind.i64 by_, Value.int IntKind.i64 bx, scX0, scX1, scX2, scX3, scX4, scX5, scX6, scX7, Value.pointer (some { block := q0, off := 0 }), Value.int IntKind.i64 T.op, Value.bool false, Value.pointer (some { block := qX, off := 2 }), Value.slice (some { block := bX, off := oX }) T.kids.length tXc, Value.int IntKind.i64 ↑T.kids.length, Value.pointer (some { block := q0, off := 2 }), Value.slice (some { block := bT, off := oT }) T.kids.length t0c, Value.int IntKind.i64 ↑T.kids.length, Value.bool false, Value.bool false, Value.pointer (some { block := qY, off := 2 }), Value.slice (some { block := bY, off := oY }) T.kids.length tYc, Value.int IntKind.i64 ↑T.kids.length, Value.pointer (some { block := q0, off := 2 }), Value.slice (some { block := bT, off := oT }) T.kids.length t0c, Value.int IntKind.i64 ↑T.kids.length, Value.bool false, Value.bool false, Value.bool false, Value.pointer (some { block := qX, off := 0 }), Value.int IntKind.i64 T.op, Value.pointer (some { block := q0, off := 0 }), Value.int IntKind.i64 T.op, Value.bool false, Value.bool false, Value.bool false, Value.pointer (some { block := qY, off := 0 }), Value.int IntKind.i64 T.op, Value.pointer (some { block := q0, off := 0 }), Value.int IntKind.i64 T.op, Value.bool false, Value.bool false, Value.int IntKind.i64 ↑k, Value.pointer (some { block := q0, off := 2 }), Value.slice (some { block := bT, off := oT }) T.kids.length t0c, Value.int IntKind.i64 ↑T.kids.length, Value.bool true, u79, u80, Value.pointer (some { block := q0, off := 0 }), Value.int IntKind.i64 T.op, Value.int IntKind.i64 ↑k, Value.int IntKind.i64 bn, vs 0, vs 1, vs 2, vs 3, vs 4, vs 5, vs 6, vs 7, vs 8, vs 9, vs 10, vs 11, vs 12, vs 13, vs 14, vs 15, vs 16, vs 17, vs 18, vs 19, vs 20, vs 21, vs 22, vs 23, vs 24, vs 25, vs 26, vs 27, vs 28, vs 29, vs 30, vs 31, vs 32, vs 33, vs 34, vs 35, vs 36, vs 37], defers := [] }) (fun i => [u85, u86, u87, u88, u89, u90, u91, u92, u93, u94, u95, u96, u97, u98, u99, u100, u101, u102, u103, u104, u105, u106, u107, u108, u109, u110, u111, u112, u113, u114, u115, u116, u117, u118, u119, u120, u121, u122].getD i undef) (under_G U P PX PY nx bx bn k T.kids.length q0 qX qY bT oT bX oX bY oY t0c tXc tYc) (under_G.keep U P PX PY nx bx bn k T.kids.length q0 qX qY bT oT bX oX bY oY t0c tXc tYc) ?_ ?_
        · refine ⟨?_, ?_, ?_, ?_, ?_, ?_, ?_, ?_, ?_, ?_, ?_, ?_, ?_, ?_, ?_, ?_, ?_, ?_, ?_, ?_, ?_, ?_, ?_, ?_, ?_, ?_, ?_, ?_, ?_, ?_, ?_, ?_, ?_, ?_, ?_, ?_, ?_, ?_, trivial⟩
          · intro vs wx K hb hd hK
            have HBX := hide hb
            clear hb hd
            go_simp
            exact hK _ _ (Below.refl _ _) rfl
          · intro vs wx K hb hd hK
            obtain ⟨vs, rfl⟩ := put_of (show vs 0 = _ from hd ⟨0, .data⟩ (by simp) rfl)
            obtain ⟨c0, c1, c2⟩ := cells3' hb HKX3.out
            have HBX := hide hb
            clear hb hd
            go_simp
            exact hK _ _ (Below.refl _ _) rfl
          · intro vs wx K hb hd hK
            have HBX := hide hb
            clear hb hd
            go_simp
            exact hK _ _ (Below.refl _ _) rfl
          · intro vs wx K hb hd hK
            obtain ⟨vs, rfl⟩ := put_of (show vs 1 = _ from hd ⟨1, .data⟩ (by simp) rfl)
            obtain ⟨vs, rfl⟩ := put_of (show vs 2 = _ from hd ⟨2, .data⟩ (by simp) rfl)
            have HBX := hide hb
            clear hb hd
            go_simp
            exact hK _ _ (Below.refl _ _) rfl
          · intro vs wx K hb hd hK
            obtain ⟨vs, rfl⟩ := put_of (show vs 3 = _ from hd ⟨3, .data⟩ (by simp) rfl)
            obtain ⟨c0, c1, c2⟩ := cellsE hb EX.out
            have HBX := hide hb
            clear hb hd
            go_simp
            exact hK _ _ (Below.refl _ _) ⟨_, _, _, _, _, rfl, TmAt.below KX.out HBX.out (Nat.le_refl _) HBX.out.size⟩
          · intro vs wx K hb hd hK
            have HBX := hide hb
            clear hb hd
            go_simp
            exact hK _ _ (Below.refl _ _) rfl
          · intro vs wx K hb hd hK
            obtain ⟨vs, rfl⟩ := put_of (show vs 5 = _ from hd ⟨5, .data⟩ (by simp) rfl)
            obtain ⟨c0, c1, c2⟩ := cells3' hb HKT3.out
            have HBX := hide hb
            clear hb hd
            go_simp
            exact hK _ _ (Below.refl _ _) rfl
          · intro vs wx K hb hd hK
            have HBX := hide hb
            clear hb hd
            go_simp
            exact hK _ _ (Below.refl _ _) rfl
          · intro vs wx K hb hd hK
            obtain ⟨vs, rfl⟩ := put_of (show vs 6 = _ from hd ⟨6, .data⟩ (by simp) rfl)
            obtain ⟨vs, rfl⟩ := put_of (show vs 7 = _ from hd ⟨7, .data⟩ (by simp) rfl)
            have HBX := hide hb
            clear hb hd
            go_simp
            exact hK _ _ (Below.refl _ _) rfl
          · intro vs wx K hb hd hK
            obtain ⟨vs, rfl⟩ := put_of (show vs 8 = _ from hd ⟨8, .data⟩ (by simp) rfl)
            obtain ⟨c0, c1, c2⟩ := cellsE hb ET.out
            have HBX := hide hb
            clear hb hd
            go_simp
            exact hK _ _ (Below.refl _ _) ⟨_, _, _, _, _, rfl, TmAt.below KT.out HBX.out (Nat.le_refl _) HBX.out.size⟩
          · intro vs wx K hb hd hK
            have HBX := hide hb
            clear hb hd
            go_simp
            exact hK _ _ (Below.refl _ _) rfl
          · intro vs wx K hb hd hK
            have HBX := hide hb
            clear hb hd
            go_simp
            exact hK _ _ (Below.refl _ _) rfl
          · intro vs wx K hb hd hK
            have HBX := hide hb
            clear hb hd
            go_simp
            exact hK _ _ (Below.refl _ _) rfl
          · intro vs wx K hb hd hK
            obtain ⟨vs, rfl⟩ := put_of (show vs 11 = _ from hd ⟨11, .data⟩ (by simp) rfl)
            obtain ⟨vs, rfl⟩ := put_of (show vs 12 = _ from hd ⟨12, .data⟩ (by simp) rfl)
            have HBX := hide hb
            clear hb hd
            go_simp
            exact hK _ _ (Below.refl _ _) rfl
          · intro vs wx K hb hd hK
            have tm9 := hd ⟨9, .data⟩ (by simp) rfl
            have HX9 := hide tm9
            obtain ⟨p0_9, p1_9, pa_9, pl_9, pc_9, e9, _⟩ := tm9
            rw [e9] at HX9
            obtain ⟨vs, rfl⟩ := put_of (show vs 9 = _ from e9)
            obtain ⟨vs, rfl⟩ := put_of (show vs 10 = _ from hd ⟨10, .data⟩ (by simp) rfl)
            obtain ⟨vs, rfl⟩ := put_of (show vs 13 = _ from hd ⟨13, .data⟩ (by simp) rfl)
            clear e9
            have HBX := hide hb
            clear hb hd
            go_simp
            refine (c_shift HX9.out GP.out (HTB3.out.later HBX.out) (by omega) (by omega)).mono ?_
            rintro e w7 ⟨u, rfl, hu, hb7⟩
            exact hK _ _ hb7 hu
          · intro vs wx K hb hd hK
            have tm4 := hd ⟨4, .data⟩ (by simp) rfl
            have HX4 := hide tm4
            obtain ⟨p0_4, p1_4, pa_4, pl_4, pc_4, e4, _⟩ := tm4
            rw [e4] at HX4
            have tm14 := hd ⟨14, .data⟩ (by simp) rfl
            have HX14 := hide tm14
            obtain ⟨p0_14, p1_14, pa_14, pl_14, pc_14, e14, _⟩ := tm14
            rw [e14] at HX14
            obtain ⟨vs, rfl⟩ := put_of (show vs 4 = _ from e4)
            obtain ⟨vs, rfl⟩ := put_of (show vs 14 = _ from e14)
            clear e4 e14
            have HBX := hide hb
            clear hb hd
            go_simp
            refine (c_same HX4.out HX14.out).mono ?_
            rintro e w7 ⟨r, rfl, hr, hb7⟩
            obtain rfl := hr.2 HPX.out
            exact hK _ _ hb7 rfl
          · intro vs wx K hb hd hK
            obtain ⟨vs, rfl⟩ := put_of (show vs 15 = _ from hd ⟨15, .data⟩ (by simp) rfl)
            have HBX := hide hb
            clear hb hd
            go_simp
            exact hK _ _ (Below.refl _ _) rfl
          · intro vs wx K hb hd hK
            obtain ⟨vs, rfl⟩ := put_of (show vs 16 = _ from hd ⟨16, .data⟩ (by simp) rfl)
            have HBX := hide hb
            clear hb hd
            go_simp
            exact hK _ _ (Below.refl _ _) rfl
          · intro vs wx K hb hd hK
            obtain ⟨vs, rfl⟩ := put_of (show vs 17 = _ from hd ⟨17, .guard⟩ (by simp) rfl)
            have HBX := hide hb
            clear hb hd
            go_simp
            exact hK _ _ (Below.refl _ _) rfl
          · intro vs wx K hb hd hK
            obtain ⟨vs, rfl⟩ := put_of (show vs 18 = _ from hd ⟨18, .data⟩ (by simp) rfl)
            obtain ⟨vs, rfl⟩ := put_of (show vs 17 = _ from hd ⟨17, .guard⟩ (by simp) rfl)
            obtain ⟨c0, c1, c2⟩ := cells3' hb HKY3.out
            have HBX := hide hb
            clear hb hd
            go_simp
            exact hK _ _ (Below.refl _ _) rfl
          · intro vs wx K hb hd hK
            obtain ⟨vs, rfl⟩ := put_of (show vs 17 = _ from hd ⟨17, .guard⟩ (by simp) rfl)
            have HBX := hide hb
            clear hb hd
            go_simp
            exact hK _ _ (Below.refl _ _) rfl
          · intro vs wx K hb hd hK
            obtain ⟨vs, rfl⟩ := put_of (show vs 19 = _ from hd ⟨19, .data⟩ (by simp) rfl)
            obtain ⟨vs, rfl⟩ := put_of (show vs 20 = _ from hd ⟨20, .data⟩ (by simp) rfl)
            obtain ⟨vs, rfl⟩ := put_of (show vs 17 = _ from hd ⟨17, .guard⟩ (by simp) rfl)
            have HBX := hide hb
            clear hb hd
            go_simp
            exact hK _ _ (Below.refl _ _) rfl
          · intro vs wx K hb hd hK
            obtain ⟨vs, rfl⟩ := put_of (show vs 21 = _ from hd ⟨21, .data⟩ (by simp) rfl)
            obtain ⟨vs, rfl⟩ := put_of (show vs 17 = _ from hd ⟨17, .guard⟩ (by simp) rfl)
            obtain ⟨c0, c1, c2⟩ := cellsE hb EY.out
            have HBX := hide hb
            clear hb hd
            go_simp
            exact hK _ _ (Below.refl _ _) ⟨_, _, _, _, _, rfl, TmAt.below KY.out HBX.out (Nat.le_refl _) HBX.out.size⟩
          · intro vs wx K hb hd hK
            obtain ⟨vs, rfl⟩ := put_of (show vs 17 = _ from hd ⟨17, .guard⟩ (by simp) rfl)
            have HBX := hide hb
            clear hb hd
            go_simp
            exact hK _ _ (Below.refl _ _) rfl
          · intro vs wx K hb hd hK
            obtain ⟨vs, rfl⟩ := put_of (show vs 23 = _ from hd ⟨23, .data⟩ (by simp) rfl)
            obtain ⟨vs, rfl⟩ := put_of (show vs 17 = _ from hd ⟨17, .guard⟩ (by simp) rfl)
            obtain ⟨c0, c1, c2⟩ := cells3' hb HKT3.out
            have HBX := hide hb
            clear hb hd
            go_simp
            exact hK _ _ (Below.refl _ _) rfl
          · intro vs wx K hb hd hK
            obtain ⟨vs, rfl⟩ := put_of (show vs 17 = _ from hd ⟨17, .guard⟩ (by simp) rfl)
            have HBX := hide hb
            clear hb hd
            go_simp
            exact hK _ _ (Below.refl _ _) rfl
          · intro vs wx K hb hd hK
            obtain ⟨vs, rfl⟩ := put_of (show vs 24 = _ from hd ⟨24, .data⟩ (by simp) rfl)
            obtain ⟨vs, rfl⟩ := put_of (show vs 25 = _ from hd ⟨25, .data⟩ (by simp) rfl)
            obtain ⟨vs, rfl⟩ := put_of (show vs 17 = _ from hd ⟨17, .guard⟩ (by simp) rfl)
            have HBX := hide hb
            clear hb hd
            go_simp
            exact hK _ _ (Below.refl _ _) rfl
          · intro vs wx K hb hd hK
            obtain ⟨vs, rfl⟩ := put_of (show vs 26 = _ from hd ⟨26, .data⟩ (by simp) rfl)
            obtain ⟨vs, rfl⟩ := put_of (show vs 17 = _ from hd ⟨17, .guard⟩ (by simp) rfl)
            obtain ⟨c0, c1, c2⟩ := cellsE hb ET.out
            have HBX := hide hb
            clear hb hd
            go_simp
            exact hK _ _ (Below.refl _ _) ⟨_, _, _, _, _, rfl, TmAt.below KT.out HBX.out (Nat.le_refl _) HBX.out.size⟩
          · intro vs wx K hb hd hK
            obtain ⟨vs, rfl⟩ := put_of (show vs 17 = _ from hd ⟨17, .guard⟩ (by simp) rfl)
            have HBX := hide hb
            clear hb hd
            go_simp
            exact hK _ _ (Below.refl _ _) rfl
          · intro vs wx K hb hd hK
            obtain ⟨vs, rfl⟩ := put_of (show vs 17 = _ from hd ⟨17, .guard⟩ (by simp) rfl)
            have HBX := hide hb
            clear hb hd
            go_simp
            exact hK _ _ (Below.refl _ _) rfl
          · intro vs wx K hb hd hK
            obtain ⟨vs, rfl⟩ := put_of (show vs 28 = _ from hd ⟨28, .data⟩ (by simp) rfl)
            obtain ⟨vs, rfl⟩ := put_of (show vs 29 = _ from hd ⟨29, .data⟩ (by simp) rfl)
            obtain ⟨vs, rfl⟩ := put_of (show vs 17 = _ from hd ⟨17, .guard⟩ (by simp) rfl)
            have HBX := hide hb
            clear hb hd
            go_simp
            exact hK _ _ (Below.refl _ _) rfl
          · intro vs wx K hb hd hK
            obtain ⟨vs, rfl⟩ := put_of (show vs 17 = _ from hd ⟨17, .guard⟩ (by simp) rfl)
            obtain ⟨c0, c1, c2⟩ := cells3' hb HKU3.out
            have HBX := hide hb
            clear hb hd
            go_simp
            exact hK _ _ (Below.refl _ _) ⟨_, _, _, _, _, rfl, TmAt.below HTU3.out HBX.out (Nat.le_refl _) HBX.out.size⟩
          · intro vs wx K hb hd hK
            obtain ⟨vs, rfl⟩ := put_of (show vs 17 = _ from hd ⟨17, .guard⟩ (by simp) rfl)
            have HBX := hide hb
            clear hb hd
            go_simp
            exact hK _ _ (Below.refl _ _) rfl
          · intro vs wx K hb hd hK
            have tm31 := hd ⟨31, .data⟩ (by simp) rfl
            have HX31 := hide tm31
            obtain ⟨p0_31, p1_31, pa_31, pl_31, pc_31, e31, _⟩ := tm31
            rw [e31] at HX31
            obtain ⟨vs, rfl⟩ := put_of (show vs 31 = _ from e31)
            obtain ⟨vs, rfl⟩ := put_of (show vs 32 = _ from hd ⟨32, .data⟩ (by simp) rfl)
            obtain ⟨vs, rfl⟩ := put_of (show vs 17 = _ from hd ⟨17, .guard⟩ (by simp) rfl)
            clear e31
            have HBX := hide hb
            clear hb hd
            go_simp
            refine (c_shift HX31.out GU.out (HTB3.out.later HBX.out) (by omega) (by omega)).mono ?_
            rintro e w7 ⟨u, rfl, hu, hb7⟩
            exact hK _ _ hb7 hu
          · intro vs wx K hb hd hK
            have tm27 := hd ⟨27, .data⟩ (by simp) rfl
            have HX27 := hide tm27
            obtain ⟨p0_27, p1_27, pa_27, pl_27, pc_27, e27, _⟩ := tm27
            rw [e27] at HX27
            have tm33 := hd ⟨33, .data⟩ (by simp) rfl
            have HX33 := hide tm33
            obtain ⟨p0_33, p1_33, pa_33, pl_33, pc_33, e33, _⟩ := tm33
            rw [e33] at HX33
            obtain ⟨vs, rfl⟩ := put_of (show vs 27 = _ from e27)
            obtain ⟨vs, rfl⟩ := put_of (show vs 30 = _ from hd ⟨30, .data⟩ (by simp) rfl)
            obtain ⟨vs, rfl⟩ := put_of (show vs 33 = _ from e33)
            obtain ⟨vs, rfl⟩ := put_of (show vs 17 = _ from hd ⟨17, .guard⟩ (by simp) rfl)
            clear e27 e33
            have HBX := hide hb
            clear hb hd
            go_simp
            refine (c_subst HX27.out HX33.out GP.out GSU.out (HTB3.out.later HBX.out) Z2.out (by omega)).mono ?_
            rintro e w7 ⟨u, rfl, hu, hb7⟩
            exact hK _ _ hb7 hu
          · intro vs wx K hb hd hK
            have tm22 := hd ⟨22, .data⟩ (by simp) rfl
            have HX22 := hide tm22
            obtain ⟨p0_22, p1_22, pa_22, pl_22, pc_22, e22, _⟩ := tm22
            rw [e22] at HX22
            have tm34 := hd ⟨34, .data⟩ (by simp) rfl
            have HX34 := hide tm34
            obtain ⟨p0_34, p1_34, pa_34, pl_34, pc_34, e34, _⟩ := tm34
            rw [e34] at HX34
            obtain ⟨vs, rfl⟩ := put_of (show vs 22 = _ from e22)
            obtain ⟨vs, rfl⟩ := put_of (show vs 34 = _ from e34)
            obtain ⟨vs, rfl⟩ := put_of (show vs 17 = _ from hd ⟨17, .guard⟩ (by simp) rfl)
            clear e22 e34
            have HBX := hide hb
            clear hb hd
            go_simp
            refine (c_same HX22.out HX34.out).mono ?_
            rintro e w7 ⟨r, rfl, hr, hb7⟩
            obtain rfl := hr.2 HPY.out
            exact hK _ _ hb7 rfl
          · intro vs wx K hb hd hK
            obtain ⟨vs, rfl⟩ := put_of (show vs 35 = _ from hd ⟨35, .data⟩ (by simp) rfl)
            obtain ⟨vs, rfl⟩ := put_of (show vs 17 = _ from hd ⟨17, .guard⟩ (by simp) rfl)
            have HBX := hide hb
            clear hb hd
            go_simp
            exact hK _ _ (Below.refl _ _) rfl
          · intro vs wx K hb hd hK
            obtain ⟨vs, rfl⟩ := put_of (show vs 17 = _ from hd ⟨17, .data⟩ (by simp) rfl)
            obtain ⟨vs, rfl⟩ := put_of (show vs 36 = _ from hd ⟨36, .data⟩ (by simp) rfl)
            have HBX := hide hb
            clear hb hd
            go_simp
            exact hK _ _ (Below.refl _ _) rfl
        · intro vs wx hb hF
          obtain ⟨vs, rfl⟩ := put_of (show vs 37 = _ from hF 37 (by decide))
          have HBX := hide hb
          clear hb hF
          simp only [put, Nat.reduceEqDiff, reduceIte]
          go_wp2_with fail
          go_roundw
          case rel => exact ⟨k + 1, by omega, by go_num, HBR.out.trans (HBX.out.mono HBR.out.size)⟩
          case measure => simp [intOf]; omega
#print axioms under_any
end Go.Proofs.YtpmaagafcpaajabDoor
