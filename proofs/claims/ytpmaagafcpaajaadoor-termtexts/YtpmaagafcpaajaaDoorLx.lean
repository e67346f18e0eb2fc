/- The walk of TermTexts. -/
import Derived.Test.YtpmaagafcpaajaaDoorLc
import Derived.Test.YtpmaagafcpaajaaDoorLd
import Derived.Test.YtpmaagafcpaajaaDoorAl
import Derived.Test.YtpmaagafcpaajaaDoorTi
namespace Go.Proofs.YtpmaagafcpaajaaDoor
open Go.RowKit
attribute [local go_sem] put

theorem c_text {f : Nat} {t : Tr} {v : Value} {w : World} (h : IsT f t v w) (hg : Gd f t) (ht : Tabs w.heap.size w) (hl : Tl w) (hz : (txtT t).length ≤ 140737488355328) :
    Calls Tryd.prog 30 #[v] w fun e w' => e = .returned (.string ⟨⟨txtT t⟩⟩) ∧ Below w.heap.size w w' :=
  text_any w.heap.size f t v w h.tm (Nat.le_refl _) hg.size hg.fuel ht hl hz
theorem c_tsame {f g : Nat} {t s : Tr} {v u : Value} {w : World} (h : IsT f t v w) (hs : IsT g s u w) (hg : Gd f t) (hgs : Gd g s) :
    Calls Tryd.prog 32 #[v, u] w fun e w' => ∃ r, e = .returned (.bool r) ∧ (r = true ↔ t = s) ∧ Below w.heap.size w w' :=
  tsame_any w.heap.size (max f g) t s v u w (TmAt.more h.tm (Nat.le_max_left _ _)) (TmAt.more hs.tm (Nat.le_max_right _ _)) (Nat.le_refl _) hg.size (by have := hg.fuel; have := hgs.fuel; omega)
theorem shp_i64 {t : Tr} (h : Shp t) : ∀ x ∈ t.pre, I64 x.op ∧ I64 x.n := by
  intro x hx
  obtain ⟨h1, h2, _, h4, h5⟩ := h x hx
  unfold I64
  unfold loN at h4
  unfold hiN at h5
  refine ⟨by omega, ?_⟩
  split at h4 <;> (repeat' (split at h5)) <;> omega

def texts_anyM (x0 : Value) (x1 : Value) (T U : Tr) : Nat → Value → World → (Nat → Prop) → Prop
  | 0 => fun v _ _ => v = x0
  | 1 => fun v w M => IsM 6 T v w M
  | 2 => fun v _ _ => v = x1
  | 3 => fun v w M => IsM 6 U v w M
  | _ => fun _ _ _ => True
theorem texts_anyM.keep (x0 : Value) (x1 : Value) (T U : Tr) (k : Nat) (v : Value) (w w' : World) (M M' : Nat → Prop) (h : texts_anyM x0 x1 T U k v w M) (hf : Fr M w w') (hM : ∀ q, q < w.heap.size → (M' q ↔ M q)) : texts_anyM x0 x1 T U k v w' M' := by
  unfold texts_anyM at *
  split at h <;> first | exact h | exact IsM.keep h hf hM
def texts_Fa (T U : Tr) (xs ys : List UInt8) : Nat → Value → World → Prop
  | 0 => fun v w => IsT (6) (T) v w
  | 1 => fun v _ => v = .string (⟨⟨xs⟩⟩)
  | 2 => fun v w => IsT (6) (U) v w
  | 3 => fun v _ => v = .string (⟨⟨ys⟩⟩)
  | 4 => fun v _ => v = .bool (true)
  | 5 => fun v w => IsT (6) (T) v w
  | 6 => fun v w => IsT (6) (U) v w
  | 7 => fun v _ => v = .bool (true)
  | 8 => fun v _ => v = .bool (true)
  | 9 => fun v _ => v = .bool (true)
  | 10 => fun v w => IsT (6) (T) v w
  | 11 => fun v w => IsT (6) (U) v w
  | 12 => fun v _ => v = .bool (true)
  | 13 => fun v w => IsT (6) (T) v w
  | 14 => fun v w => IsT (6) (U) v w
  | 15 => fun v _ => v = .bool (true)
  | 16 => fun v _ => v = .bool (true)
  | 17 => fun v _ => v = .bool (true)
  | 18 => fun v _ => v = .bool (true)
  | _ => fun _ _ => True
theorem texts_Fa.keep (T U : Tr) (xs ys : List UInt8) (i : Nat) (v : Value) (w w' : World) (h : texts_Fa T U xs ys i v w) (hb : Below w.heap.size w w') : texts_Fa T U xs ys i v w' := by
  unfold texts_Fa at *
  split at h <;> first | exact h | exact IsT.keep h hb
def texts_Fb (T U : Tr) (xs ys : List UInt8) : Nat → Value → World → Prop
  | 0 => fun v w => IsT (6) (T) v w
  | 1 => fun v _ => v = .string (⟨⟨xs⟩⟩)
  | 2 => fun v w => IsT (6) (U) v w
  | 3 => fun v _ => v = .string (⟨⟨ys⟩⟩)
  | 4 => fun v _ => v = .bool (false)
  | 5 => fun v w => IsT (6) (T) v w
  | 6 => fun v w => IsT (6) (U) v w
  | 7 => fun v _ => v = .bool (false)
  | 8 => fun v _ => v = .bool (true)
  | 9 => fun v _ => v = .bool (true)
  | 10 => fun v w => IsT (6) (T) v w
  | 11 => fun v w => IsT (6) (U) v w
  | 12 => fun v _ => v = .bool (false)
  | 13 => fun v w => IsT (6) (T) v w
  | 14 => fun v w => IsT (6) (U) v w
  | 15 => fun v _ => v = .bool (false)
  | 16 => fun v _ => v = .bool (true)
  | 17 => fun v _ => v = .bool (true)
  | 18 => fun v _ => v = .bool (true)
  | _ => fun _ _ => True
theorem texts_Fb.keep (T U : Tr) (xs ys : List UInt8) (i : Nat) (v : Value) (w w' : World) (h : texts_Fb T U xs ys i v w) (hb : Below w.heap.size w w') : texts_Fb T U xs ys i v w' := by
  unfold texts_Fb at *
  split at h <;> first | exact h | exact IsT.keep h hb
set_option maxRecDepth 20000 in
set_option maxHeartbeats 4000000 in
theorem texts_any (B f : Nat) (r0 : Tr) (v0 : Value) (r1 : Tr) (v1 : Value)  (w : World) (h0 : TmAt w B f r0 v0) (h1 : TmAt w B f r1 v1) (hB : B ≤ w.heap.size) (ht : Tabs w.heap.size w) (hl : Tl w) :
    Calls Tryd.prog 8 #[v0, v1] w fun e w' => e = .returned (.bool true) ∧ Below w.heap.size w w' := by
  have HR0 := hide (raw64_of h0)
  have H0 := hide h0
  obtain ⟨a0, z0, rfl, _, _, o0, n0⟩ := h0.shape
  clear h0
  have HR1 := hide (raw64_of h1)
  have H1 := hide h1
  obtain ⟨a1, z1, rfl, _, _, o1, n1⟩ := h1.shape
  clear h1
  have HT := hide ht; have HL := hide hl
  clear ht hl
  have HA : Hid (Below w.heap.size w ((w.alloc (.cells #[.int .i64 r0.op, .int .i64 r0.n, .slice a0 r0.kids.length z0] 24)).alloc (.cells #[.int .i64 r1.op, .int .i64 r1.n, .slice a1 r1.kids.length z1] 24))) := (((Below.refl w.heap.size w).alloc (Nat.le_refl _) _).alloc (by simp) _)
  go_enter Tryd.func8, Tryd.ntmps8
  go_wp2_with fail
  refine (known_any _ (HT.out.later HA.out) (HL.out.later HA.out)).mono ?_
  rintro e w1 ⟨rfl, hb1⟩
  obtain ⟨k0, k1, hbl, hs1⟩ := box_two hb1
  have HB1 := hide hbl; have HK0_1 := hide k0; have HK1_1 := hide k1
  clear hb1 hbl k0 k1
  obtain ⟨c0, c1, c2⟩ := blk3 HK0_1.out
  go_wp2_with fail
  refine (few_any B f r0 _ w1 (TmAt.below H0.out HB1.out hB (Nat.le_refl _)) (Nat.le_trans hB HB1.out.size)).mono ?_
  rintro e w2 ⟨rfl, hb2⟩
  have HB2 : Hid (Below w.heap.size w w2) := HB1.out.trans (hb2.mono HB1.out.size)
  have hs2 := hb2.size
  have HK0_2 := hide ((hb2.block _ (size_of_block HK0_1.out)).trans HK0_1.out)
  have HK1_2 := hide ((hb2.block _ (size_of_block HK1_1.out)).trans HK1_1.out)
  clear hb2 c0 c1 c2 HK0_1 HK1_1
  by_cases hq0 : r0.size < 300
  rotate_left
  · rw [decide_eq_false hq0]
    go_wp2_with fail
    go_ret
    exact ⟨rfl, HB2.out⟩
  rw [decide_eq_true hq0]
  obtain ⟨c0, c1, c2⟩ := blk3 HK1_2.out
  go_wp2_with fail
  refine (few_any B f r1 _ w2 (TmAt.below H1.out HB2.out hB (Nat.le_refl _)) (Nat.le_trans hB HB2.out.size)).mono ?_
  rintro e w3 ⟨rfl, hb3⟩
  have HB3 : Hid (Below w.heap.size w w3) := HB2.out.trans (hb3.mono HB2.out.size)
  have hs3 := hb3.size
  have HK0_3 := hide ((hb3.block _ (size_of_block HK0_2.out)).trans HK0_2.out)
  have HK1_3 := hide ((hb3.block _ (size_of_block HK1_2.out)).trans HK1_2.out)
  clear hb3 c0 c1 c2 HK0_2 HK1_2
  by_cases hq1 : r1.size < 300
  rotate_left
  · rw [decide_eq_false hq1]
    go_wp2_with fail
    go_ret
    exact ⟨rfl, HB3.out⟩
  rw [decide_eq_true hq1]
  go_wp2_with fail
  have HR0T : Hid (TmAt w3 w3.heap.size f r0 (.agg #[.int .i64 r0.op, .int .i64 r0.n, .slice a0 r0.kids.length z0])) := TmAt.below H0.out HB3.out hB (Nat.le_trans hB HB3.out.size)
  have HR1T : Hid (TmAt w3 w3.heap.size f r1 (.agg #[.int .i64 r1.op, .int .i64 r1.n, .slice a1 r1.kids.length z1])) := TmAt.below H1.out HB3.out hB (Nat.le_trans hB HB3.out.size)
  refine wp_region_boxes (by kernel_rfl) (by kernel_rfl) (fun vs => { tmps := #[Value.agg #[Value.int IntKind.i64 r0.op, Value.int IntKind.i64 r0.n, Value.slice a0 r0.kids.length z0], Value.agg #[Value.int IntKind.i64 r1.op, Value.int IntKind.i64 r1.n, Value.slice a1 r1.kids.length z1], Value.pointer (some { block := w.heap.size, off := 0 }), Value.pointer (some { block := w.heap.size + 1, off := 0 }), Value.bool false, vs 4, vs 5, Value.bool true, Value.bool false, Value.agg #[Value.int IntKind.i64 r0.op, Value.int IntKind.i64 r0.n, Value.slice a0 r0.kids.length z0], Value.bool true, Value.bool false, Value.bool false, Value.agg #[Value.int IntKind.i64 r1.op, Value.int IntKind.i64 r1.n, Value.slice a1 r1.kids.length z1], Value.bool true, Value.bool false, Value.bool false, vs 0, vs 1, vs 2, vs 3, undef, undef, undef, undef, undef, undef, undef, undef, undef, undef, undef, undef, undef, undef, undef, undef, undef, undef], defers := [] }) (fun i => [undef, undef, undef, undef, undef, undef, undef, undef].getD i undef) [(4, 1, 6), (5, 3, 7)] (by decide) #[.int .i64 0, .int .i64 0, .slice none 0 0] 29 (texts_anyM (.agg #[.int .i64 r0.op, .int .i64 r0.n, .slice a0 r0.kids.length z0]) (.agg #[.int .i64 r1.op, .int .i64 r1.n, .slice a1 r1.kids.length z1]) (mkT 5 3 r0) (mkT 5 3 r1)) (texts_anyM.keep (.agg #[.int .i64 r0.op, .int .i64 r0.n, .slice a0 r0.kids.length z0]) (.agg #[.int .i64 r1.op, .int .i64 r1.n, .slice a1 r1.kids.length z1]) (mkT 5 3 r0) (mkT 5 3 r1)) ?_ ?_
  · refine ⟨⟨fun _ => ?_, fun x hx h => absurd h (by revert x; decide), fun x hx h => absurd h (by revert x; decide)⟩, ⟨fun _ => ?_, fun x hx h => absurd h (by revert x; decide), fun x hx h => absurd h (by revert x; decide)⟩, ⟨fun _ => ?_, fun x hx h => absurd h (by revert x; decide), fun x hx h => absurd h (by revert x; decide)⟩, ⟨fun _ => ?_, fun x hx h => absurd h (by revert x; decide), fun x hx h => absurd h (by revert x; decide)⟩, ⟨fun h => absurd h (by unfold Plainly; decide), fun x hx h => ?_, fun x hx h => absurd h (by revert x; decide)⟩, ⟨fun h => absurd h (by unfold Plainly; decide), fun x hx h => ?_, fun x hx h => absurd h (by revert x; decide)⟩, ⟨fun h => absurd h (by unfold Plainly; decide), fun x hx h => absurd h (by revert x; decide), fun x hx h => ?_⟩, ⟨fun h => absurd h (by unfold Plainly; decide), fun x hx h => absurd h (by revert x; decide), fun x hx h => ?_⟩, trivial⟩
    · intro vs wx M K hb hd hM hK
      obtain ⟨c0, c1, c2⟩ := cells3' hb HK0_3.out
      clear hb hd
      go_simp
      exact hK _ _ (Below.refl _ _) rfl
    · intro vs wx M K hb hd hM hK
      obtain ⟨vs, rfl⟩ := put_of (show vs 0 = _ from hd ⟨0, .data⟩ (by simp) rfl (by unfold Plainly; decide))
      have HBX := hide hb; have HM := hide hM
      clear hb hd hM
      go_simp
      refine (c_make (d := 5) M (fun q hq => (HM.out q hq).2) (TmAt.below HR0T.out HBX.out (Nat.le_refl _) (Nat.le_refl _)) HBX.out.size (by decide) (by decide) (by decide)).mono ?_
      rintro e w7 ⟨u, rfl, hu, hb7⟩
      exact hK _ _ hb7 hu
    · intro vs wx M K hb hd hM hK
      obtain ⟨c0, c1, c2⟩ := cells3' hb HK1_3.out
      clear hb hd
      go_simp
      exact hK _ _ (Below.refl _ _) rfl
    · intro vs wx M K hb hd hM hK
      obtain ⟨vs, rfl⟩ := put_of (show vs 2 = _ from hd ⟨2, .data⟩ (by simp) rfl (by unfold Plainly; decide))
      have HBX := hide hb; have HM := hide hM
      clear hb hd hM
      go_simp
      refine (c_make (d := 5) M (fun q hq => (HM.out q hq).2) (TmAt.below HR1T.out HBX.out (Nat.le_refl _) (Nat.le_refl _)) HBX.out.size (by decide) (by decide) (by decide)).mono ?_
      rintro e w7 ⟨u, rfl, hu, hb7⟩
      exact hK _ _ hb7 hu
    · intro vs wx K hK
      clear hx h
      go_simp
      exact hK
    · intro vs wx K hK
      clear hx h
      go_simp
      exact hK
    · obtain rfl : x = (4, 1, 6) := (by revert h; revert x; decide)
      refine ⟨⟨⟨4, .data⟩, by simp, rfl, rfl⟩, ⟨⟨1, .data⟩, by simp, rfl, rfl⟩, ?_⟩
      intro vs wx M K q hF hq hz hK
      obtain ⟨p0, p1, pa, pl, pc, e1, _⟩ := (show IsM _ _ _ _ _ from hF)
      obtain ⟨vs, rfl⟩ := put_of (show vs 1 = _ from e1)
      obtain ⟨vs, rfl⟩ := put_of (show vs 4 = _ from hq)
      obtain ⟨y0, y1, y2⟩ := blk3 hz
      obtain ⟨z0, z1, z2⟩ := frz3 hz
      have HZ := hide hz
      clear hF hq hz hx h e1
      go_simp
      exact hK _ _ (fr_put3 _ _ _ _ _) (put3_blk HZ.out _ _ _) rfl
    · obtain rfl : x = (5, 3, 7) := (by revert h; revert x; decide)
      refine ⟨⟨⟨5, .data⟩, by simp, rfl, rfl⟩, ⟨⟨3, .data⟩, by simp, rfl, rfl⟩, ?_⟩
      intro vs wx M K q hF hq hz hK
      obtain ⟨p0, p1, pa, pl, pc, e1, _⟩ := (show IsM _ _ _ _ _ from hF)
      obtain ⟨vs, rfl⟩ := put_of (show vs 3 = _ from e1)
      obtain ⟨vs, rfl⟩ := put_of (show vs 5 = _ from hq)
      obtain ⟨y0, y1, y2⟩ := blk3 hz
      obtain ⟨z0, z1, z2⟩ := frz3 hz
      have HZ := hide hz
      clear hF hq hz hx h e1
      go_simp
      exact hK _ _ (fr_put3 _ _ _ _ _) (put3_blk HZ.out _ _ _) rfl
  · intro vs wx M hb hF hB
    obtain ⟨q0, cs0, b0, l0, m0, h0, g0⟩ := hB (4, 1, 6) (by simp) (by decide) (by decide)
    obtain ⟨t00, t01, t0a, t0l, t0c, rfl, tm0⟩ := (show IsM _ _ _ _ _ from hF 1 (by decide) (by unfold Plainly; decide)).box g0
    obtain ⟨vs, rfl⟩ := put_of (show vs 4 = _ from b0)
    obtain ⟨q1, cs1, b1, l1, m1, h1, g1⟩ := hB (5, 3, 7) (by simp) (by decide) (by decide)
    obtain ⟨t10, t11, t1a, t1l, t1c, rfl, tm1⟩ := (show IsM _ _ _ _ _ from hF 3 (by decide) (by unfold Plainly; decide)).box g1
    obtain ⟨vs, rfl⟩ := put_of (show vs 5 = _ from b1)
    have HBX := hide hb; have HKT := hide h0; have HTT := hide tm0; have HKU := hide h1; have HTU := hide tm1
    clear hb hF hB h0 tm0 g0 h1 tm1 g1
    have HBW : Hid (Below w.heap.size w wx) := HB3.out.trans (HBX.out.mono HB3.out.size)
    have G0 := hide (Gd.mk' (d := 5) (vars := 3) HR0.out (by decide) (by decide) (by decide))
    obtain ⟨T, hT⟩ : ∃ T, T = mkT 5 3 r0 := ⟨_, rfl⟩
    have HET := hide hT
    rw [← hT] at G0 HTT
    clear hT
    have G1 := hide (Gd.mk' (d := 5) (vars := 3) HR1.out (by decide) (by decide) (by decide))
    obtain ⟨U, hU⟩ : ∃ U, U = mkT 5 3 r1 := ⟨_, rfl⟩
    have HEU := hide hU
    rw [← hU] at G1 HTU
    clear hU
    clear HK0_3 HR0T HK1_3 HR1T HBX HA
    simp only [put, Nat.reduceEqDiff, reduceIte, ptr]
    clear b0 b1
    generalize vs 0 = s0; generalize vs 1 = s1; generalize vs 2 = s2; generalize vs 3 = s3
    clear vs
    go_wp2_with fail
    have GT := hide G0.out.1; have GU := hide G1.out.1
    have ZT : Hid ((txtT T).length ≤ 140737488355328) := hide (by have h1 := txt_len T (shp_i64 G0.out.2.1); have h2 := G0.out.2.2; have h3 : most 5 = 1365 := (by decide); omega)
    have ZU : Hid ((txtT U).length ≤ 140737488355328) := hide (by have h1 := txt_len U (shp_i64 G1.out.2.1); have h2 := G1.out.2.2; have h3 : most 5 = 1365 := (by decide); omega)
    have EI : Hid (txtT T = txtT U → T = U) := hide (fun h => txt_inj G0.out.2.1 G1.out.2.1 h)
    have HTA : Hid (Tabs wx.heap.size wx) := hide (HT.out.later HBW.out)
    have HLA : Hid (Tl wx) := hide (HL.out.later HBW.out)
    clear G0 G1
    obtain ⟨xs, hxs⟩ : ∃ xs, xs = txtT T := ⟨_, rfl⟩
    obtain ⟨ys, hys⟩ : ∃ ys, ys = txtT U := ⟨_, rfl⟩
    have HXS : Hid (txtT T = xs) := hide hxs.symm
    have HYS : Hid (txtT U = ys) := hide hys.symm
    rw [HXS.out, HYS.out] at EI
    clear hxs hys
    by_cases heq : T = U
    · have HEQ := hide heq
      have hxy : xs = ys := by rw [← HXS.out, ← HYS.out, heq]
      have HSE : Hid ((xs == ys) = true) := hide (by rw [hxy]; exact beq_self_eq_true _)
      clear heq hxy
      refine wp_region_vals (by kernel_rfl) (by kernel_rfl) (fun vs => { tmps := #[Value.agg #[Value.int IntKind.i64 r0.op, Value.int IntKind.i64 r0.n, Value.slice a0 r0.kids.length z0], Value.agg #[Value.int IntKind.i64 r1.op, Value.int IntKind.i64 r1.n, Value.slice a1 r1.kids.length z1], Value.pointer (some { block := w.heap.size, off := 0 }), Value.pointer (some { block := w.heap.size + 1, off := 0 }), vs 18, Value.pointer (some { block := q0, off := 0 }), Value.pointer (some { block := q1, off := 0 }), Value.bool true, Value.bool false, Value.agg #[Value.int IntKind.i64 r0.op, Value.int IntKind.i64 r0.n, Value.slice a0 r0.kids.length z0], Value.bool true, Value.bool false, Value.bool false, Value.agg #[Value.int IntKind.i64 r1.op, Value.int IntKind.i64 r1.n, Value.slice a1 r1.kids.length z1], Value.bool true, Value.bool false, Value.bool false, s0, s1, s2, s3, vs 0, vs 1, vs 2, vs 3, vs 4, vs 5, vs 6, vs 7, vs 8, vs 9, vs 10, vs 11, vs 12, vs 13, vs 14, vs 15, vs 16, vs 17], defers := [] }) (fun i => [undef, undef, undef, undef, undef, undef, undef, undef, undef, undef, undef, undef, undef, undef, undef, undef, undef, undef, Value.bool false].getD i undef) (texts_Fa T U xs ys) (texts_Fa.keep T U xs ys) ?_ ?_
      · refine ⟨?_, ?_, ?_, ?_, ?_, ?_, ?_, ?_, ?_, ?_, ?_, ?_, ?_, ?_, ?_, ?_, ?_, ?_, ?_, trivial⟩
        · intro vs wx K hb hd hK
          obtain ⟨c0, c1, c2⟩ := cells3' hb HKT.out
          have HBX := hide hb
          clear hb hd
          go_simp
          exact hK _ _ (Below.refl _ _) ⟨_, _, _, _, _, rfl, TmAt.below HTT.out HBX.out (Nat.le_refl _) HBX.out.size⟩
        · intro vs wx K hb hd hK
          have tm0 := hd ⟨0, .data⟩ (by simp) rfl
          have HX0 := hide tm0
          obtain ⟨p0_0, p1_0, pa_0, pl_0, pc_0, e0, _⟩ := tm0
          rw [e0] at HX0
          obtain ⟨vs, rfl⟩ := put_of (show vs 0 = _ from e0)
          clear e0
          have HBX := hide hb
          clear hb hd
          go_simp
          refine (c_text HX0.out GT.out (HTA.out.later HBX.out) (HLA.out.later HBX.out) ZT.out).mono ?_
          rintro e w7 ⟨rfl, hb7⟩
          rw [HXS.out]
          exact hK _ _ hb7 rfl
        · intro vs wx K hb hd hK
          obtain ⟨c0, c1, c2⟩ := cells3' hb HKU.out
          have HBX := hide hb
          clear hb hd
          go_simp
          exact hK _ _ (Below.refl _ _) ⟨_, _, _, _, _, rfl, TmAt.below HTU.out HBX.out (Nat.le_refl _) HBX.out.size⟩
        · intro vs wx K hb hd hK
          have tm2 := hd ⟨2, .data⟩ (by simp) rfl
          have HX2 := hide tm2
          obtain ⟨p0_2, p1_2, pa_2, pl_2, pc_2, e2, _⟩ := tm2
          rw [e2] at HX2
          obtain ⟨vs, rfl⟩ := put_of (show vs 2 = _ from e2)
          clear e2
          have HBX := hide hb
          clear hb hd
          go_simp
          refine (c_text HX2.out GU.out (HTA.out.later HBX.out) (HLA.out.later HBX.out) ZU.out).mono ?_
          rintro e w7 ⟨rfl, hb7⟩
          rw [HYS.out]
          exact hK _ _ hb7 rfl
        · intro vs wx K hb hd hK
          obtain ⟨vs, rfl⟩ := put_of (show vs 1 = _ from hd ⟨1, .data⟩ (by simp) rfl)
          obtain ⟨vs, rfl⟩ := put_of (show vs 3 = _ from hd ⟨3, .data⟩ (by simp) rfl)
          have HBX := hide hb
          clear hb hd
          go_simp
          exact hK _ _ (Below.refl _ _) (congrArg Value.bool HSE.out)
        · intro vs wx K hb hd hK
          obtain ⟨c0, c1, c2⟩ := cells3' hb HKT.out
          have HBX := hide hb
          clear hb hd
          go_simp
          exact hK _ _ (Below.refl _ _) ⟨_, _, _, _, _, rfl, TmAt.below HTT.out HBX.out (Nat.le_refl _) HBX.out.size⟩
        · intro vs wx K hb hd hK
          obtain ⟨c0, c1, c2⟩ := cells3' hb HKU.out
          have HBX := hide hb
          clear hb hd
          go_simp
          exact hK _ _ (Below.refl _ _) ⟨_, _, _, _, _, rfl, TmAt.below HTU.out HBX.out (Nat.le_refl _) HBX.out.size⟩
        · intro vs wx K hb hd hK
          have tm5 := hd ⟨5, .data⟩ (by simp) rfl
          have HX5 := hide tm5
          obtain ⟨p0_5, p1_5, pa_5, pl_5, pc_5, e5, _⟩ := tm5
          rw [e5] at HX5
          have tm6 := hd ⟨6, .data⟩ (by simp) rfl
          have HX6 := hide tm6
          obtain ⟨p0_6, p1_6, pa_6, pl_6, pc_6, e6, _⟩ := tm6
          rw [e6] at HX6
          obtain ⟨vs, rfl⟩ := put_of (show vs 5 = _ from e5)
          obtain ⟨vs, rfl⟩ := put_of (show vs 6 = _ from e6)
          clear e5 e6
          have HBX := hide hb
          clear hb hd
          go_simp
          refine (c_same HX5.out HX6.out).mono ?_
          rintro e w7 ⟨r, rfl, hr, hb7⟩
          obtain rfl : r = true := hr.2 HEQ.out
          exact hK _ _ hb7 rfl
        · intro vs wx K hb hd hK
          obtain ⟨vs, rfl⟩ := put_of (show vs 4 = _ from hd ⟨4, .data⟩ (by simp) rfl)
          obtain ⟨vs, rfl⟩ := put_of (show vs 7 = _ from hd ⟨7, .data⟩ (by simp) rfl)
          have HBX := hide hb
          clear hb hd
          go_simp
          exact hK _ _ (Below.refl _ _) rfl
        · intro vs wx K hb hd hK
          obtain ⟨vs, rfl⟩ := put_of (show vs 8 = _ from hd ⟨8, .data⟩ (by simp) rfl)
          have HBX := hide hb
          clear hb hd
          go_simp
          exact hK _ _ (Below.refl _ _) rfl
        · intro vs wx K hb hd hK
          obtain ⟨vs, rfl⟩ := put_of (show vs 9 = _ from hd ⟨9, .guard⟩ (by simp) rfl)
          obtain ⟨c0, c1, c2⟩ := cells3' hb HKT.out
          have HBX := hide hb
          clear hb hd
          go_simp
          exact hK _ _ (Below.refl _ _) ⟨_, _, _, _, _, rfl, TmAt.below HTT.out HBX.out (Nat.le_refl _) HBX.out.size⟩
        · intro vs wx K hb hd hK
          obtain ⟨vs, rfl⟩ := put_of (show vs 9 = _ from hd ⟨9, .guard⟩ (by simp) rfl)
          obtain ⟨c0, c1, c2⟩ := cells3' hb HKU.out
          have HBX := hide hb
          clear hb hd
          go_simp
          exact hK _ _ (Below.refl _ _) ⟨_, _, _, _, _, rfl, TmAt.below HTU.out HBX.out (Nat.le_refl _) HBX.out.size⟩
        · intro vs wx K hb hd hK
          have tm10 := hd ⟨10, .data⟩ (by simp) rfl
          have HX10 := hide tm10
          obtain ⟨p0_10, p1_10, pa_10, pl_10, pc_10, e10, _⟩ := tm10
          rw [e10] at HX10
          have tm11 := hd ⟨11, .data⟩ (by simp) rfl
          have HX11 := hide tm11
          obtain ⟨p0_11, p1_11, pa_11, pl_11, pc_11, e11, _⟩ := tm11
          rw [e11] at HX11
          obtain ⟨vs, rfl⟩ := put_of (show vs 10 = _ from e10)
          obtain ⟨vs, rfl⟩ := put_of (show vs 11 = _ from e11)
          obtain ⟨vs, rfl⟩ := put_of (show vs 9 = _ from hd ⟨9, .guard⟩ (by simp) rfl)
          clear e10 e11
          have HBX := hide hb
          clear hb hd
          go_simp
          refine (c_tsame HX10.out HX11.out GT.out GU.out).mono ?_
          rintro e w7 ⟨r, rfl, hr, hb7⟩
          obtain rfl : r = true := hr.2 HEQ.out
          exact hK _ _ hb7 rfl
        · intro vs wx K hb hd hK
          obtain ⟨vs, rfl⟩ := put_of (show vs 9 = _ from hd ⟨9, .guard⟩ (by simp) rfl)
          obtain ⟨c0, c1, c2⟩ := cells3' hb HKT.out
          have HBX := hide hb
          clear hb hd
          go_simp
          exact hK _ _ (Below.refl _ _) ⟨_, _, _, _, _, rfl, TmAt.below HTT.out HBX.out (Nat.le_refl _) HBX.out.size⟩
        · intro vs wx K hb hd hK
          obtain ⟨vs, rfl⟩ := put_of (show vs 9 = _ from hd ⟨9, .guard⟩ (by simp) rfl)
          obtain ⟨c0, c1, c2⟩ := cells3' hb HKU.out
          have HBX := hide hb
          clear hb hd
          go_simp
          exact hK _ _ (Below.refl _ _) ⟨_, _, _, _, _, rfl, TmAt.below HTU.out HBX.out (Nat.le_refl _) HBX.out.size⟩
        · intro vs wx K hb hd hK
          have tm13 := hd ⟨13, .data⟩ (by simp) rfl
          have HX13 := hide tm13
          obtain ⟨p0_13, p1_13, pa_13, pl_13, pc_13, e13, _⟩ := tm13
          rw [e13] at HX13
          have tm14 := hd ⟨14, .data⟩ (by simp) rfl
          have HX14 := hide tm14
          obtain ⟨p0_14, p1_14, pa_14, pl_14, pc_14, e14, _⟩ := tm14
          rw [e14] at HX14
          obtain ⟨vs, rfl⟩ := put_of (show vs 13 = _ from e13)
          obtain ⟨vs, rfl⟩ := put_of (show vs 14 = _ from e14)
          obtain ⟨vs, rfl⟩ := put_of (show vs 9 = _ from hd ⟨9, .guard⟩ (by simp) rfl)
          clear e13 e14
          have HBX := hide hb
          clear hb hd
          go_simp
          refine (c_same HX13.out HX14.out).mono ?_
          rintro e w7 ⟨r, rfl, hr, hb7⟩
          obtain rfl : r = true := hr.2 HEQ.out
          exact hK _ _ hb7 rfl
        · intro vs wx K hb hd hK
          obtain ⟨vs, rfl⟩ := put_of (show vs 12 = _ from hd ⟨12, .data⟩ (by simp) rfl)
          obtain ⟨vs, rfl⟩ := put_of (show vs 15 = _ from hd ⟨15, .data⟩ (by simp) rfl)
          obtain ⟨vs, rfl⟩ := put_of (show vs 9 = _ from hd ⟨9, .guard⟩ (by simp) rfl)
          have HBX := hide hb
          clear hb hd
          go_simp
          exact hK _ _ (Below.refl _ _) rfl
        · intro vs wx K hb hd hK
          obtain ⟨vs, rfl⟩ := put_of (show vs 9 = _ from hd ⟨9, .data⟩ (by simp) rfl)
          obtain ⟨vs, rfl⟩ := put_of (show vs 16 = _ from hd ⟨16, .data⟩ (by simp) rfl)
          have HBX := hide hb
          clear hb hd
          go_simp
          exact hK _ _ (Below.refl _ _) rfl
        · intro vs wx K hb hd hK
          obtain ⟨vs, rfl⟩ := put_of (show vs 17 = _ from hd ⟨17, .data⟩ (by simp) rfl)
          have HBX := hide hb
          clear hb hd
          go_simp
          exact hK _ _ (Below.refl _ _) rfl
      · intro vs wx hb hF
        obtain ⟨vs, rfl⟩ := put_of (show vs 18 = _ from hF 18 (by decide))
        have HBX := hide hb
        clear hb hF
        simp only [put, Nat.reduceEqDiff, reduceIte]
        go_wp2_with fail
        go_ret
        exact ⟨rfl, HBW.out.trans (HBX.out.mono HBW.out.size)⟩
    · have HEQ := hide heq
      have HSE : Hid ((xs == ys) = false) := hide (beq_eq_false_iff_ne.2 (fun h => heq (EI.out h)))
      clear heq
      refine wp_region_vals (by kernel_rfl) (by kernel_rfl) (fun vs => { tmps := #[Value.agg #[Value.int IntKind.i64 r0.op, Value.int IntKind.i64 r0.n, Value.slice a0 r0.kids.length z0], Value.agg #[Value.int IntKind.i64 r1.op, Value.int IntKind.i64 r1.n, Value.slice a1 r1.kids.length z1], Value.pointer (some { block := w.heap.size, off := 0 }), Value.pointer (some { block := w.heap.size + 1, off := 0 }), vs 18, Value.pointer (some { block := q0, off := 0 }), Value.pointer (some { block := q1, off := 0 }), Value.bool true, Value.bool false, Value.agg #[Value.int IntKind.i64 r0.op, Value.int IntKind.i64 r0.n, Value.slice a0 r0.kids.length z0], Value.bool true, Value.bool false, Value.bool false, Value.agg #[Value.int IntKind.i64 r1.op, Value.int IntKind.i64 r1.n, Value.slice a1 r1.kids.length z1], Value.bool true, Value.bool false, Value.bool false, s0, s1, s2, s3, vs 0, vs 1, vs 2, vs 3, vs 4, vs 5, vs 6, vs 7, vs 8, vs 9, vs 10, vs 11, vs 12, vs 13, vs 14, vs 15, vs 16, vs 17], defers := [] }) (fun i => [undef, undef, undef, undef, undef, undef, undef, undef, undef, undef, undef, undef, undef, undef, undef, undef, undef, undef, Value.bool false].getD i undef) (texts_Fb T U xs ys) (texts_Fb.keep T U xs ys) ?_ ?_
      · refine ⟨?_, ?_, ?_, ?_, ?_, ?_, ?_, ?_, ?_, ?_, ?_, ?_, ?_, ?_, ?_, ?_, ?_, ?_, ?_, trivial⟩
        · intro vs wx K hb hd hK
          obtain ⟨c0, c1, c2⟩ := cells3' hb HKT.out
          have HBX := hide hb
          clear hb hd
          go_simp
          exact hK _ _ (Below.refl _ _) ⟨_, _, _, _, _, rfl, TmAt.below HTT.out HBX.out (Nat.le_refl _) HBX.out.size⟩
        · intro vs wx K hb hd hK
          have tm0 := hd ⟨0, .data⟩ (by simp) rfl
          have HX0 := hide tm0
          obtain ⟨p0_0, p1_0, pa_0, pl_0, pc_0, e0, _⟩ := tm0
          rw [e0] at HX0
          obtain ⟨vs, rfl⟩ := put_of (show vs 0 = _ from e0)
          clear e0
          have HBX := hide hb
          clear hb hd
          go_simp
          refine (c_text HX0.out GT.out (HTA.out.later HBX.out) (HLA.out.later HBX.out) ZT.out).mono ?_
          rintro e w7 ⟨rfl, hb7⟩
          rw [HXS.out]
          exact hK _ _ hb7 rfl
        · intro vs wx K hb hd hK
          obtain ⟨c0, c1, c2⟩ := cells3' hb HKU.out
          have HBX := hide hb
          clear hb hd
          go_simp
          exact hK _ _ (Below.refl _ _) ⟨_, _, _, _, _, rfl, TmAt.below HTU.out HBX.out (Nat.le_refl _) HBX.out.size⟩
        · intro vs wx K hb hd hK
          have tm2 := hd ⟨2, .data⟩ (by simp) rfl
          have HX2 := hide tm2
          obtain ⟨p0_2, p1_2, pa_2, pl_2, pc_2, e2, _⟩ := tm2
          rw [e2] at HX2
          obtain ⟨vs, rfl⟩ := put_of (show vs 2 = _ from e2)
          clear e2
          have HBX := hide hb
          clear hb hd
          go_simp
          refine (c_text HX2.out GU.out (HTA.out.later HBX.out) (HLA.out.later HBX.out) ZU.out).mono ?_
          rintro e w7 ⟨rfl, hb7⟩
          rw [HYS.out]
          exact hK _ _ hb7 rfl
        · intro vs wx K hb hd hK
          obtain ⟨vs, rfl⟩ := put_of (show vs 1 = _ from hd ⟨1, .data⟩ (by simp) rfl)
          obtain ⟨vs, rfl⟩ := put_of (show vs 3 = _ from hd ⟨3, .data⟩ (by simp) rfl)
          have HBX := hide hb
          clear hb hd
          go_simp
          exact hK _ _ (Below.refl _ _) (congrArg Value.bool HSE.out)
        · intro vs wx K hb hd hK
          obtain ⟨c0, c1, c2⟩ := cells3' hb HKT.out
          have HBX := hide hb
          clear hb hd
          go_simp
          exact hK _ _ (Below.refl _ _) ⟨_, _, _, _, _, rfl, TmAt.below HTT.out HBX.out (Nat.le_refl _) HBX.out.size⟩
        · intro vs wx K hb hd hK
          obtain ⟨c0, c1, c2⟩ := cells3' hb HKU.out
          have HBX := hide hb
          clear hb hd
          go_simp
          exact hK _ _ (Below.refl _ _) ⟨_, _, _, _, _, rfl, TmAt.below HTU.out HBX.out (Nat.le_refl _) HBX.out.size⟩
        · intro vs wx K hb hd hK
          have tm5 := hd ⟨5, .data⟩ (by simp) rfl
          have HX5 := hide tm5
          obtain ⟨p0_5, p1_5, pa_5, pl_5, pc_5, e5, _⟩ := tm5
          rw [e5] at HX5
          have tm6 := hd ⟨6, .data⟩ (by simp) rfl
          have HX6 := hide tm6
          obtain ⟨p0_6, p1_6, pa_6, pl_6, pc_6, e6, _⟩ := tm6
          rw [e6] at HX6
          obtain ⟨vs, rfl⟩ := put_of (show vs 5 = _ from e5)
          obtain ⟨vs, rfl⟩ := put_of (show vs 6 = _ from e6)
          clear e5 e6
          have HBX := hide hb
          clear hb hd
          go_simp
          refine (c_same HX5.out HX6.out).mono ?_
          rintro e w7 ⟨r, rfl, hr, hb7⟩
          obtain rfl : r = false := (by cases r with | false => rfl | true => exact absurd (hr.1 rfl) HEQ.out)
          exact hK _ _ hb7 rfl
        · intro vs wx K hb hd hK
          obtain ⟨vs, rfl⟩ := put_of (show vs 4 = _ from hd ⟨4, .data⟩ (by simp) rfl)
          obtain ⟨vs, rfl⟩ := put_of (show vs 7 = _ from hd ⟨7, .data⟩ (by simp) rfl)
          have HBX := hide hb
          clear hb hd
          go_simp
          exact hK _ _ (Below.refl _ _) rfl
        · intro vs wx K hb hd hK
          obtain ⟨vs, rfl⟩ := put_of (show vs 8 = _ from hd ⟨8, .data⟩ (by simp) rfl)
          have HBX := hide hb
          clear hb hd
          go_simp
          exact hK _ _ (Below.refl _ _) rfl
        · intro vs wx K hb hd hK
          obtain ⟨vs, rfl⟩ := put_of (show vs 9 = _ from hd ⟨9, .guard⟩ (by simp) rfl)
          obtain ⟨c0, c1, c2⟩ := cells3' hb HKT.out
          have HBX := hide hb
          clear hb hd
          go_simp
          exact hK _ _ (Below.refl _ _) ⟨_, _, _, _, _, rfl, TmAt.below HTT.out HBX.out (Nat.le_refl _) HBX.out.size⟩
        · intro vs wx K hb hd hK
          obtain ⟨vs, rfl⟩ := put_of (show vs 9 = _ from hd ⟨9, .guard⟩ (by simp) rfl)
          obtain ⟨c0, c1, c2⟩ := cells3' hb HKU.out
          have HBX := hide hb
          clear hb hd
          go_simp
          exact hK _ _ (Below.refl _ _) ⟨_, _, _, _, _, rfl, TmAt.below HTU.out HBX.out (Nat.le_refl _) HBX.out.size⟩
        · intro vs wx K hb hd hK
          have tm10 := hd ⟨10, .data⟩ (by simp) rfl
          have HX10 := hide tm10
          obtain ⟨p0_10, p1_10, pa_10, pl_10, pc_10, e10, _⟩ := tm10
          rw [e10] at HX10
          have tm11 := hd ⟨11, .data⟩ (by simp) rfl
          have HX11 := hide tm11
          obtain ⟨p0_11, p1_11, pa_11, pl_11, pc_11, e11, _⟩ := tm11
          rw [e11] at HX11
          obtain ⟨vs, rfl⟩ := put_of (show vs 10 = _ from e10)
          obtain ⟨vs, rfl⟩ := put_of (show vs 11 = _ from e11)
          obtain ⟨vs, rfl⟩ := put_of (show vs 9 = _ from hd ⟨9, .guard⟩ (by simp) rfl)
          clear e10 e11
          have HBX := hide hb
          clear hb hd
          go_simp
          refine (c_tsame HX10.out HX11.out GT.out GU.out).mono ?_
          rintro e w7 ⟨r, rfl, hr, hb7⟩
          obtain rfl : r = false := (by cases r with | false => rfl | true => exact absurd (hr.1 rfl) HEQ.out)
          exact hK _ _ hb7 rfl
        · intro vs wx K hb hd hK
          obtain ⟨vs, rfl⟩ := put_of (show vs 9 = _ from hd ⟨9, .guard⟩ (by simp) rfl)
          obtain ⟨c0, c1, c2⟩ := cells3' hb HKT.out
          have HBX := hide hb
          clear hb hd
          go_simp
          exact hK _ _ (Below.refl _ _) ⟨_, _, _, _, _, rfl, TmAt.below HTT.out HBX.out (Nat.le_refl _) HBX.out.size⟩
        · intro vs wx K hb hd hK
          obtain ⟨vs, rfl⟩ := put_of (show vs 9 = _ from hd ⟨9, .guard⟩ (by simp) rfl)
          obtain ⟨c0, c1, c2⟩ := cells3' hb HKU.out
          have HBX := hide hb
          clear hb hd
          go_simp
          exact hK _ _ (Below.refl _ _) ⟨_, _, _, _, _, rfl, TmAt.below HTU.out HBX.out (Nat.le_refl _) HBX.out.size⟩
        · intro vs wx K hb hd hK
          have tm13 := hd ⟨13, .data⟩ (by simp) rfl
          have HX13 := hide tm13
          obtain ⟨p0_13, p1_13, pa_13, pl_13, pc_13, e13, _⟩ := tm13
          rw [e13] at HX13
          have tm14 := hd ⟨14, .data⟩ (by simp) rfl
          have HX14 := hide tm14
          obtain ⟨p0_14, p1_14, pa_14, pl_14, pc_14, e14, _⟩ := tm14
          rw [e14] at HX14
          obtain ⟨vs, rfl⟩ := put_of (show vs 13 = _ from e13)
          obtain ⟨vs, rfl⟩ := put_of (show vs 14 = _ from e14)
          obtain ⟨vs, rfl⟩ := put_of (show vs 9 = _ from hd ⟨9, .guard⟩ (by simp) rfl)
          clear e13 e14
          have HBX := hide hb
          clear hb hd
          go_simp
          refine (c_same HX13.out HX14.out).mono ?_
          rintro e w7 ⟨r, rfl, hr, hb7⟩
          obtain rfl : r = false := (by cases r with | false => rfl | true => exact absurd (hr.1 rfl) HEQ.out)
          exact hK _ _ hb7 rfl
        · intro vs wx K hb hd hK
          obtain ⟨vs, rfl⟩ := put_of (show vs 12 = _ from hd ⟨12, .data⟩ (by simp) rfl)
          obtain ⟨vs, rfl⟩ := put_of (show vs 15 = _ from hd ⟨15, .data⟩ (by simp) rfl)
          obtain ⟨vs, rfl⟩ := put_of (show vs 9 = _ from hd ⟨9, .guard⟩ (by simp) rfl)
          have HBX := hide hb
          clear hb hd
          go_simp
          exact hK _ _ (Below.refl _ _) rfl
        · intro vs wx K hb hd hK
          obtain ⟨vs, rfl⟩ := put_of (show vs 9 = _ from hd ⟨9, .data⟩ (by simp) rfl)
          obtain ⟨vs, rfl⟩ := put_of (show vs 16 = _ from hd ⟨16, .data⟩ (by simp) rfl)
          have HBX := hide hb
          clear hb hd
          go_simp
          exact hK _ _ (Below.refl _ _) rfl
        · intro vs wx K hb hd hK
          obtain ⟨vs, rfl⟩ := put_of (show vs 17 = _ from hd ⟨17, .data⟩ (by simp) rfl)
          have HBX := hide hb
          clear hb hd
          go_simp
          exact hK _ _ (Below.refl _ _) rfl
      · intro vs wx hb hF
        obtain ⟨vs, rfl⟩ := put_of (show vs 18 = _ from hF 18 (by decide))
        have HBX := hide hb
        clear hb hF
        simp only [put, Nat.reduceEqDiff, reduceIte]
        go_wp2_with fail
        go_ret
        exact ⟨rfl, HBW.out.trans (HBX.out.mono HBW.out.size)⟩
#print axioms texts_any
end Go.Proofs.YtpmaagafcpaajaaDoor
