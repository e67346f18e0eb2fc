/- The walk of TermFree. -/
import Derived.Test.YtpmaagafcpaajaaDoorLc
import Derived.Test.YtpmaagafcpaajaaDoorLd
import Derived.Test.YtpmaagafcpaajaaDoorRf
namespace Go.Proofs.YtpmaagafcpaajaaDoor
open Go.RowKit
attribute [local go_sem] put

theorem c_rfree {f : Nat} {t : Tr} {v : Value} {n : Int} {w : World} (h : IsT f t v w) (hf : f ≤ 1000) (hn : 0 ≤ n ∧ n ≤ 1000) :
    Calls Tryd.prog 22 #[v, .int .i64 n] w fun e w' => e = .returned (.bool (fre n 0 t)) ∧ Below w.heap.size w w' := by
  have := rfree_any w.heap.size f t v n 0 w h.tm (Nat.le_refl _) (by omega) (by omega)
  rwa [Int.add_zero] at this

def free_anyM (x0 : Value) (x1 : Value) (T U : Tr) : Nat → Value → World → (Nat → Prop) → Prop
  | 0 => fun v _ _ => v = x0
  | 1 => fun v w M => IsM 7 T v w M
  | 2 => fun v _ _ => v = x1
  | 3 => fun v w M => IsM 5 U v w M
  | _ => fun _ _ _ => True
theorem free_anyM.keep (x0 : Value) (x1 : Value) (T U : Tr) (k : Nat) (v : Value) (w w' : World) (M M' : Nat → Prop) (h : free_anyM x0 x1 T U k v w M) (hf : Fr M w w') (hM : ∀ q, q < w.heap.size → (M' q ↔ M q)) : free_anyM x0 x1 T U k v w' M' := by
  unfold free_anyM at *
  split at h <;> first | exact h | exact IsM.keep h hf hM
def free_Fa (T _U S : Tr) (ix : Int) : Nat → Value → World → Prop
  | 0 => fun v w => IsT (12) (S) v w
  | 1 => fun v _ => v = .int .i64 (ix)
  | 2 => fun v _ => v = .bool (false)
  | 3 => fun v w => IsT (7) (T) v w
  | 4 => fun v _ => v = .int .i64 (ix)
  | 5 => fun v _ => v = .int .i64 (ix + 1)
  | 6 => fun v _ => v = .bool (false)
  | 7 => fun v _ => v = .bool (false)
  | 8 => fun v w => IsT (7) (T) v w
  | 9 => fun v _ => v = .bool (false)
  | 10 => fun v _ => v = .bool (false)
  | 11 => fun v _ => v = undef
  | 12 => fun v _ => v = undef
  | 13 => fun v _ => v = undef
  | 14 => fun v _ => v = .bool (false)
  | 15 => fun v _ => v = .bool (false)
  | 16 => fun v _ => v = .bool (false)
  | _ => fun _ _ => True
theorem free_Fa.keep (T U S : Tr) (ix : Int) (i : Nat) (v : Value) (w w' : World) (h : free_Fa T U S ix i v w) (hb : Below w.heap.size w w') : free_Fa T U S ix i v w' := by
  unfold free_Fa at *
  split at h <;> first | exact h | exact IsT.keep h hb
def free_Fb (T U S : Tr) (ix : Int) : Nat → Value → World → Prop
  | 0 => fun v w => IsT (12) (S) v w
  | 1 => fun v _ => v = .int .i64 (ix)
  | 2 => fun v _ => v = .bool (false)
  | 3 => fun v w => IsT (7) (T) v w
  | 4 => fun v _ => v = .int .i64 (ix)
  | 5 => fun v _ => v = .int .i64 (ix + 1)
  | 6 => fun v _ => v = .bool (false)
  | 7 => fun v _ => v = .bool (false)
  | 8 => fun v w => IsT (7) (T) v w
  | 9 => fun v _ => v = .bool (true)
  | 10 => fun v _ => v = .bool (true)
  | 11 => fun v w => IsT (5) (U) v w
  | 12 => fun v _ => v = .int .i64 (ix)
  | 13 => fun v _ => v = .bool (false)
  | 14 => fun v _ => v = .bool (false)
  | 15 => fun v _ => v = .bool (false)
  | 16 => fun v _ => v = .bool (false)
  | _ => fun _ _ => True
theorem free_Fb.keep (T U S : Tr) (ix : Int) (i : Nat) (v : Value) (w w' : World) (h : free_Fb T U S ix i v w) (hb : Below w.heap.size w w') : free_Fb T U S ix i v w' := by
  unfold free_Fb at *
  split at h <;> first | exact h | exact IsT.keep h hb
def free_Fc (T U S : Tr) (ix : Int) : Nat → Value → World → Prop
  | 0 => fun v w => IsT (12) (S) v w
  | 1 => fun v _ => v = .int .i64 (ix)
  | 2 => fun v _ => v = .bool (true)
  | 3 => fun v w => IsT (7) (T) v w
  | 4 => fun v _ => v = .int .i64 (ix)
  | 5 => fun v _ => v = .int .i64 (ix + 1)
  | 6 => fun v _ => v = .bool (false)
  | 7 => fun v _ => v = .bool (false)
  | 8 => fun v w => IsT (7) (T) v w
  | 9 => fun v _ => v = .bool (true)
  | 10 => fun v _ => v = .bool (true)
  | 11 => fun v w => IsT (5) (U) v w
  | 12 => fun v _ => v = .int .i64 (ix)
  | 13 => fun v _ => v = .bool (true)
  | 14 => fun v _ => v = .bool (true)
  | 15 => fun v _ => v = .bool (true)
  | 16 => fun v _ => v = .bool (false)
  | _ => fun _ _ => True
theorem free_Fc.keep (T U S : Tr) (ix : Int) (i : Nat) (v : Value) (w w' : World) (h : free_Fc T U S ix i v w) (hb : Below w.heap.size w w') : free_Fc T U S ix i v w' := by
  unfold free_Fc at *
  split at h <;> first | exact h | exact IsT.keep h hb
def free_Fd (T _U S : Tr) (ix : Int) : Nat → Value → World → Prop
  | 0 => fun v w => IsT (12) (S) v w
  | 1 => fun v _ => v = .int .i64 (ix)
  | 2 => fun v _ => v = .bool (true)
  | 3 => fun v w => IsT (7) (T) v w
  | 4 => fun v _ => v = .int .i64 (ix)
  | 5 => fun v _ => v = .int .i64 (ix + 1)
  | 6 => fun v _ => v = .bool (true)
  | 7 => fun v _ => v = .bool (true)
  | 8 => fun v _ => v = undef
  | 9 => fun v _ => v = undef
  | 10 => fun v _ => v = undef
  | 11 => fun v _ => v = undef
  | 12 => fun v _ => v = undef
  | 13 => fun v _ => v = undef
  | 14 => fun v _ => v = undef
  | 15 => fun v _ => v = .bool (true)
  | 16 => fun v _ => v = .bool (false)
  | _ => fun _ _ => True
theorem free_Fd.keep (T U S : Tr) (ix : Int) (i : Nat) (v : Value) (w w' : World) (h : free_Fd T U S ix i v w) (hb : Below w.heap.size w w') : free_Fd T U S ix i v w' := by
  unfold free_Fd at *
  split at h <;> first | exact h | exact IsT.keep h hb
set_option maxRecDepth 20000 in
set_option maxHeartbeats 4000000 in
theorem free_any (B f : Nat) (r0 : Tr) (v0 : Value) (r1 : Tr) (v1 : Value) (n : Int) (w : World) (h0 : TmAt w B f r0 v0) (h1 : TmAt w B f r1 v1) (hB : B ≤ w.heap.size) (ht : Tabs w.heap.size w) (hl : Tl w) (hb : Tb w) :
    Calls Tryd.prog 7 #[v0, v1, .int .i64 n] w fun e w' => e = .returned (.bool true) ∧ Below w.heap.size w w' := by
  have HR0 := hide (raw64_of h0)
  have H0 := hide h0
  obtain ⟨a0, z0, rfl, _, _, o0, n0⟩ := h0.shape
  clear h0
  have HR1 := hide (raw64_of h1)
  have H1 := hide h1
  obtain ⟨a1, z1, rfl, _, _, o1, n1⟩ := h1.shape
  clear h1
  have HT := hide ht; have HL := hide hl; have HTB := hide hb
  clear ht hl hb
  have HA : Hid (Below w.heap.size w ((w.alloc (.cells #[.int .i64 r0.op, .int .i64 r0.n, .slice a0 r0.kids.length z0] 24)).alloc (.cells #[.int .i64 r1.op, .int .i64 r1.n, .slice a1 r1.kids.length z1] 24))) := (((Below.refl w.heap.size w).alloc (Nat.le_refl _) _).alloc (by simp) _)
  go_enter Tryd.func7, Tryd.ntmps7
  go_wp2_with fail
  refine (known_any _ (HT.out.later HA.out) (HL.out.later HA.out)).mono ?_
  rintro e w1 ⟨rfl, hb1⟩
  obtain ⟨k0, k1, hbl, hs1⟩ := box_two hb1
  have HB1 := hide hbl; have HK0_1 := hide k0; have HK1_1 := hide k1
  clear hb1 hbl k0 k1
  obtain ⟨c0, c1, c2⟩ := blk3 HK0_1.out
  go_wp2_with fail
  refine (few_any B f r0 _ w1 (TmAt.below H0.out HB1.out hB (Nat.le_refl _)) (Nat.le_trans hB HB1.out.size)).mono ?_
  rintro e w2 ⟨rfl, hb2⟩
  have HB2 : Hid (Below w.heap.size w w2) := HB1.out.trans (hb2.mono HB1.out.size)
  have hs2 := hb2.size
  have HK0_2 := hide ((hb2.block _ (size_of_block HK0_1.out)).trans HK0_1.out)
  have HK1_2 := hide ((hb2.block _ (size_of_block HK1_1.out)).trans HK1_1.out)
  clear hb2 c0 c1 c2 HK0_1 HK1_1
  by_cases hq0 : r0.size < 300
  rotate_left
  · rw [decide_eq_false hq0]
    go_wp2_with fail
    go_ret
    exact ⟨rfl, HB2.out⟩
  rw [decide_eq_true hq0]
  obtain ⟨c0, c1, c2⟩ := blk3 HK1_2.out
  go_wp2_with fail
  refine (few_any B f r1 _ w2 (TmAt.below H1.out HB2.out hB (Nat.le_refl _)) (Nat.le_trans hB HB2.out.size)).mono ?_
  rintro e w3 ⟨rfl, hb3⟩
  have HB3 : Hid (Below w.heap.size w w3) := HB2.out.trans (hb3.mono HB2.out.size)
  have hs3 := hb3.size
  have HK0_3 := hide ((hb3.block _ (size_of_block HK0_2.out)).trans HK0_2.out)
  have HK1_3 := hide ((hb3.block _ (size_of_block HK1_2.out)).trans HK1_2.out)
  clear hb3 c0 c1 c2 HK0_2 HK1_2
  by_cases hq1 : r1.size < 300
  rotate_left
  · rw [decide_eq_false hq1]
    go_wp2_with fail
    go_ret
    exact ⟨rfl, HB3.out⟩
  rw [decide_eq_true hq1]
  go_wp2_with fail
  have HR0T : Hid (TmAt w3 w3.heap.size f r0 (.agg #[.int .i64 r0.op, .int .i64 r0.n, .slice a0 r0.kids.length z0])) := TmAt.below H0.out HB3.out hB (Nat.le_trans hB HB3.out.size)
  have HR1T : Hid (TmAt w3 w3.heap.size f r1 (.agg #[.int .i64 r1.op, .int .i64 r1.n, .slice a1 r1.kids.length z1])) := TmAt.below H1.out HB3.out hB (Nat.le_trans hB HB3.out.size)
  refine wp_region_boxes (by kernel_rfl) (by kernel_rfl) (fun vs => { tmps := #[Value.agg #[Value.int IntKind.i64 r0.op, Value.int IntKind.i64 r0.n, Value.slice a0 r0.kids.length z0], Value.agg #[Value.int IntKind.i64 r1.op, Value.int IntKind.i64 r1.n, Value.slice a1 r1.kids.length z1], Value.int IntKind.i64 n, Value.pointer (some { block := w.heap.size, off := 0 }), Value.pointer (some { block := w.heap.size + 1, off := 0 }), undef, Value.bool false, vs 4, vs 5, undef, undef, undef, undef, Value.bool true, Value.bool false, Value.agg #[Value.int IntKind.i64 r0.op, Value.int IntKind.i64 r0.n, Value.slice a0 r0.kids.length z0], Value.bool true, Value.bool false, Value.bool false, Value.agg #[Value.int IntKind.i64 r1.op, Value.int IntKind.i64 r1.n, Value.slice a1 r1.kids.length z1], Value.bool true, Value.bool false, Value.bool false, vs 0, vs 1, vs 2, vs 3, undef, undef, undef, undef, undef, undef, undef, undef, undef, undef, undef, undef, undef, undef, undef, undef, undef, undef, undef, undef, undef, undef, undef, undef, undef, undef, undef, undef, undef, undef, undef, undef, undef, undef, undef, undef, undef, undef, undef, undef, undef, undef, undef], defers := [] }) (fun i => [undef, undef, undef, undef, undef, undef, undef, undef].getD i undef) [(4, 1, 6), (5, 3, 7)] (by decide) #[.int .i64 0, .int .i64 0, .slice none 0 0] 29 (free_anyM (.agg #[.int .i64 r0.op, .int .i64 r0.n, .slice a0 r0.kids.length z0]) (.agg #[.int .i64 r1.op, .int .i64 r1.n, .slice a1 r1.kids.length z1]) (mkT 6 3 r0) (mkT 4 3 r1)) (free_anyM.keep (.agg #[.int .i64 r0.op, .int .i64 r0.n, .slice a0 r0.kids.length z0]) (.agg #[.int .i64 r1.op, .int .i64 r1.n, .slice a1 r1.kids.length z1]) (mkT 6 3 r0) (mkT 4 3 r1)) ?_ ?_
  · refine ⟨⟨fun _ => ?_, fun x hx h => absurd h (by revert x; decide), fun x hx h => absurd h (by revert x; decide)⟩, ⟨fun _ => ?_, fun x hx h => absurd h (by revert x; decide), fun x hx h => absurd h (by revert x; decide)⟩, ⟨fun _ => ?_, fun x hx h => absurd h (by revert x; decide), fun x hx h => absurd h (by revert x; decide)⟩, ⟨fun _ => ?_, fun x hx h => absurd h (by revert x; decide), fun x hx h => absurd h (by revert x; decide)⟩, ⟨fun h => absurd h (by unfold Plainly; decide), fun x hx h => ?_, fun x hx h => absurd h (by revert x; decide)⟩, ⟨fun h => absurd h (by unfold Plainly; decide), fun x hx h => ?_, fun x hx h => absurd h (by revert x; decide)⟩, ⟨fun h => absurd h (by unfold Plainly; decide), fun x hx h => absurd h (by revert x; decide), fun x hx h => ?_⟩, ⟨fun h => absurd h (by unfold Plainly; decide), fun x hx h => absurd h (by revert x; decide), fun x hx h => ?_⟩, trivial⟩
    · intro vs wx M K hb hd hM hK
      obtain ⟨c0, c1, c2⟩ := cells3' hb HK0_3.out
      clear hb hd
      go_simp
      exact hK _ _ (Below.refl _ _) rfl
    · intro vs wx M K hb hd hM hK
      obtain ⟨vs, rfl⟩ := put_of (show vs 0 = _ from hd ⟨0, .data⟩ (by simp) rfl (by unfold Plainly; decide))
      have HBX := hide hb; have HM := hide hM
      clear hb hd hM
      go_simp
      refine (c_make (d := 6) M (fun q hq => (HM.out q hq).2) (TmAt.below HR0T.out HBX.out (Nat.le_refl _) (Nat.le_refl _)) HBX.out.size (by decide) (by decide) (by decide)).mono ?_
      rintro e w7 ⟨u, rfl, hu, hb7⟩
      exact hK _ _ hb7 hu
    · intro vs wx M K hb hd hM hK
      obtain ⟨c0, c1, c2⟩ := cells3' hb HK1_3.out
      clear hb hd
      go_simp
      exact hK _ _ (Below.refl _ _) rfl
    · intro vs wx M K hb hd hM hK
      obtain ⟨vs, rfl⟩ := put_of (show vs 2 = _ from hd ⟨2, .data⟩ (by simp) rfl (by unfold Plainly; decide))
      have HBX := hide hb; have HM := hide hM
      clear hb hd hM
      go_simp
      refine (c_make (d := 4) M (fun q hq => (HM.out q hq).2) (TmAt.below HR1T.out HBX.out (Nat.le_refl _) (Nat.le_refl _)) HBX.out.size (by decide) (by decide) (by decide)).mono ?_
      rintro e w7 ⟨u, rfl, hu, hb7⟩
      exact hK _ _ hb7 hu
    · intro vs wx K hK
      clear hx h
      go_simp
      exact hK
    · intro vs wx K hK
      clear hx h
      go_simp
      exact hK
    · obtain rfl : x = (4, 1, 6) := (by revert h; revert x; decide)
      refine ⟨⟨⟨4, .data⟩, by simp, rfl, rfl⟩, ⟨⟨1, .data⟩, by simp, rfl, rfl⟩, ?_⟩
      intro vs wx M K q hF hq hz hK
      obtain ⟨p0, p1, pa, pl, pc, e1, _⟩ := (show IsM _ _ _ _ _ from hF)
      obtain ⟨vs, rfl⟩ := put_of (show vs 1 = _ from e1)
      obtain ⟨vs, rfl⟩ := put_of (show vs 4 = _ from hq)
      obtain ⟨y0, y1, y2⟩ := blk3 hz
      obtain ⟨z0, z1, z2⟩ := frz3 hz
      have HZ := hide hz
      clear hF hq hz hx h e1
      go_simp
      exact hK _ _ (fr_put3 _ _ _ _ _) (put3_blk HZ.out _ _ _) rfl
    · obtain rfl : x = (5, 3, 7) := (by revert h; revert x; decide)
      refine ⟨⟨⟨5, .data⟩, by simp, rfl, rfl⟩, ⟨⟨3, .data⟩, by simp, rfl, rfl⟩, ?_⟩
      intro vs wx M K q hF hq hz hK
      obtain ⟨p0, p1, pa, pl, pc, e1, _⟩ := (show IsM _ _ _ _ _ from hF)
      obtain ⟨vs, rfl⟩ := put_of (show vs 3 = _ from e1)
      obtain ⟨vs, rfl⟩ := put_of (show vs 5 = _ from hq)
      obtain ⟨y0, y1, y2⟩ := blk3 hz
      obtain ⟨z0, z1, z2⟩ := frz3 hz
      have HZ := hide hz
      clear hF hq hz hx h e1
      go_simp
      exact hK _ _ (fr_put3 _ _ _ _ _) (put3_blk HZ.out _ _ _) rfl
  · intro vs wx M hb hF hB
    obtain ⟨q0, cs0, b0, l0, m0, h0, g0⟩ := hB (4, 1, 6) (by simp) (by decide) (by decide)
    obtain ⟨t00, t01, t0a, t0l, t0c, rfl, tm0⟩ := (show IsM _ _ _ _ _ from hF 1 (by decide) (by unfold Plainly; decide)).box g0
    obtain ⟨vs, rfl⟩ := put_of (show vs 4 = _ from b0)
    obtain ⟨q1, cs1, b1, l1, m1, h1, g1⟩ := hB (5, 3, 7) (by simp) (by decide) (by decide)
    obtain ⟨t10, t11, t1a, t1l, t1c, rfl, tm1⟩ := (show IsM _ _ _ _ _ from hF 3 (by decide) (by unfold Plainly; decide)).box g1
    obtain ⟨vs, rfl⟩ := put_of (show vs 5 = _ from b1)
    have HBX := hide hb; have HKT := hide h0; have HTT := hide tm0; have HKU := hide h1; have HTU := hide tm1
    clear hb hF hB h0 tm0 g0 h1 tm1 g1
    have HBW : Hid (Below w.heap.size w wx) := HB3.out.trans (HBX.out.mono HB3.out.size)
    have G0 := hide (Gd.mk' (d := 6) (vars := 3) HR0.out (by decide) (by decide) (by decide))
    obtain ⟨T, hT⟩ : ∃ T, T = mkT 6 3 r0 := ⟨_, rfl⟩
    have HET := hide hT
    rw [← hT] at G0 HTT
    clear hT
    have G1 := hide (Gd.mk' (d := 4) (vars := 3) HR1.out (by decide) (by decide) (by decide))
    obtain ⟨U, hU⟩ : ∃ U, U = mkT 4 3 r1 := ⟨_, rfl⟩
    have HEU := hide hU
    rw [← hU] at G1 HTU
    clear hU
    clear HK0_3 HR0T HK1_3 HR1T HBX HA
    simp only [put, Nat.reduceEqDiff, reduceIte, ptr]
    clear b0 b1
    generalize vs 0 = s0; generalize vs 1 = s1; generalize vs 2 = s2; generalize vs 3 = s3
    clear vs
    go_wp2_with fail
    refine (lwithin_n n 8 _ (by decide) (by decide)).mono ?_
    rintro e w9 ⟨rfl, h9⟩
    rw [h9]
    clear h9 w9
    have ha := wi_n n 8 (by decide)
    generalize wi n 8 = nx at *
    obtain ⟨ha0, ha1⟩ := ha
    have GT := hide G0.out.1; have GU := hide G1.out.1
    have ST : Hid (Snd 3000 T) := hide G0.out.2.1.snd
    have SU : Hid (Snd 3000 U) := hide G1.out.2.1.snd
    have Z1 : Hid (T.size + U.size * cnt (fun x => decide (x = 0)) 0 T ≤ 8388608) := hide (fit_le G0.out.2.2 G1.out.2.2 (by decide))
    have BT : Hid (bel 4 0 T = true) := hide (by rw [HET.out]; exact mk_bel 6 3 0 r0 (by decide))
    have ZX : Hid (Gd 12 (sub 0 U 0 T)) := hide ⟨by
      have h1 := size_sub_le 0 U 0 T ST.out
      have h2 : T.lvs ≤ 4096 := by rw [HET.out]; exact mk_lvs 6 3 r0
      have h3 := Nat.mul_le_mul h2 G1.out.2.2
      have h4 : T.size ≤ 5461 := G0.out.2.2
      have h5 : most 4 = 341 := by decide
      omega, by decide, (snd_sub (by decide) (Int.le_refl _) SU.out ST.out (by have h4 : T.size ≤ 5461 := G0.out.2.2; omega)).more (by decide)⟩
    have HTB' : Hid (Tb wx) := hide (HTB.out.later HBW.out)
    clear G0 G1
    go_wp2_with fail
    go_loopw [9, 10] (fun s i wr => ∃ (nb : Bool) (ix : Int), s = .bool nb ∧ i = .int .i64 ix ∧ nx ≤ ix ∧ ix ≤ 12 ∧ Hid (nb = true ↔ ∀ j, nx ≤ j → j < ix → fre j 0 T = false) ∧ Hid (Below wx.heap.size wx wr)) (fun _ i _ => (12 - intOf i).toNat)
    case atStart => exact ⟨true, nx, rfl, rfl, by omega, by omega, ⟨fun _ j h1 h2 => by omega, fun _ => rfl⟩, Below.refl _ _⟩
    case round =>
      obtain ⟨nb, ix, rfl, rfl, hi0, hi1, HNB, HBR⟩ := hrel
      have hc := cells3' HBR.out HKT.out
      obtain ⟨c0, c1, c2⟩ := hc
      by_cases hlt : ix < 12
      · cases nb with
        | true =>
          go_wp2_with fail
          refine (c_free (f := 7) (IsT.of (TmAt.below HTT.out HBR.out (Nat.le_refl _) HBR.out.size)) GT.out (HTB'.out.later HBR.out) (by omega)).mono ?_
          rintro e w5 ⟨rfl, hb5⟩
          have HB5 : Hid (Below wx.heap.size wx w5) := HBR.out.trans (hb5.mono HBR.out.size)
          clear hb5 c0 c1 c2
          obtain ⟨fv, hfv⟩ : ∃ fv, fv = fre ix 0 T := ⟨_, rfl⟩
          rw [← hfv]
          have HFV := hide hfv
          clear hfv
          cases fv with
          | true =>
            go_wp2_with fail
            go_roundw
            case rel => exact ⟨false, ix + 1, rfl, by go_num, by omega, by omega, ⟨(fun h => by cases h), fun h => by have := h ix hi0 (by omega); rw [← HFV.out] at this; cases this⟩, HB5.out⟩
            case measure => simp [intOf]; omega
          | false =>
            go_wp2_with fail
            go_roundw
            case rel =>
              refine ⟨true, ix + 1, rfl, by go_num, by omega, by omega, ⟨fun _ j h1 h2 => ?_, fun _ => rfl⟩, HB5.out⟩
              by_cases hj : j = ix
              · rw [hj]; exact HFV.out.symm
              · exact HNB.out.1 (by trivial) j h1 (by omega)
            case measure => simp [intOf]; omega
        | false =>
          go_wp2_with fail
          go_roundw
          case rel => exact ⟨false, ix + 1, rfl, by go_num, by omega, by omega, ⟨(fun h => by cases h), fun h => HNB.out.2 (fun j h1 h2 => h j h1 (by omega))⟩, HBR.out⟩
          case measure => simp [intOf]; omega
      · have hix : ix = 12 := by omega
        subst hix
        have HNN : Hid (bel nx 0 T = nb) := hide (by
          rw [Bool.eq_iff_iff, bel_iff, HNB.out]
          constructor
          · intro h j h1 _; exact h j h1
          · intro h j h1
            by_cases h2 : j < 12
            · exact h j h1 h2
            · exact (bel_iff 4 0 T).1 BT.out j (by omega))
        clear HNB
        obtain ⟨d0, d1, d2⟩ := cells3' HBR.out HKU.out
        go_wp2_with fail
        refine (c_subst (f := 7) (g := 5) (IsT.of (TmAt.below HTT.out HBR.out (Nat.le_refl _) HBR.out.size)) (IsT.of (TmAt.below HTU.out HBR.out (Nat.le_refl _) HBR.out.size)) GT.out GU.out (HTB'.out.later HBR.out) Z1.out (by decide)).mono ?_
        rintro e w10 ⟨u, rfl, hu, hb10⟩
        obtain ⟨g0, g1, ga, gl, gc, rfl, hut⟩ := hu
        have HU10 := hide hut
        have HB10 : Hid (Below wx.heap.size wx w10) := HBR.out.trans (hb10.mono HBR.out.size)
        clear hut hb10 c0 c1 c2 d0 d1 d2
        go_wp2_with fail
        have HBV : Hid (Below wx.heap.size wx (w10.alloc (.cells #[.int .i64 g0, .int .i64 g1, .slice ga gl gc] 29))) := hide (HB10.out.trans ((later_alloc w10 _).mono HB10.out.size))
        have HKS : Hid ((w10.alloc (.cells #[.int .i64 g0, .int .i64 g1, .slice ga gl gc] 29)).heap[w10.heap.size]? = some (.cells #[.int .i64 g0, .int .i64 g1, .slice ga gl gc] 29 (0, 0))) := hide (heap_alloc_new w10 _)
        obtain ⟨S, hS⟩ : ∃ S, S = sub 0 U 0 T := ⟨_, rfl⟩
        have GS : Hid (Gd 12 S) := hide (by rw [hS]; exact ZX.out)
        have EFS : Hid (∀ i, 0 ≤ i → fre i 0 S = (fre (i + 1) 0 T || fre 0 0 T && fre i 0 U)) := hide (fun i hi => by rw [hS]; exact fre_sub i U 0 T hi (Int.le_refl _))
        have HTS : Hid (TmAt (w10.alloc (.cells #[.int .i64 g0, .int .i64 g1, .slice ga gl gc] 29)) (w10.alloc (.cells #[.int .i64 g0, .int .i64 g1, .slice ga gl gc] 29)).heap.size 12 S (.agg #[.int .i64 g0, .int .i64 g1, .slice ga gl gc])) := hide (by rw [hS]; exact TmAt.below HU10.out (later_alloc w10 _) (Nat.le_refl _) (by simp))
        generalize w10.alloc (.cells #[.int .i64 g0, .int .i64 g1, .slice ga gl gc] 29) = wv at *
        generalize w10.heap.size = qS at *
        clear HB10 HU10 HBR ZX Z1 hS
        have HKT2 := hide ((HBV.out.block _ (size_of_block HKT.out)).trans HKT.out)
        have HTT2 : Hid (TmAt wv wv.heap.size 7 T _) := hide (TmAt.below HTT.out HBV.out (Nat.le_refl _) HBV.out.size)
        clear HKT HTT
        have HKU2 := hide ((HBV.out.block _ (size_of_block HKU.out)).trans HKU.out)
        have HTU2 : Hid (TmAt wv wv.heap.size 5 U _) := hide (TmAt.below HTU.out HBV.out (Nat.le_refl _) HBV.out.size)
        clear HKU HTU
        have HTB2 := hide (HTB'.out.later HBV.out)
        have HB2 : Hid (Below w.heap.size w wv) := HBW.out.trans (HBV.out.mono HBW.out.size)
        clear HBV
        go_loopw [12] (fun i wr => ∃ ix : Int, i = .int .i64 ix ∧ 0 ≤ ix ∧ ix ≤ 8 ∧ Hid (Below wv.heap.size wv wr)) (fun i _ => (8 - intOf i).toNat)
        case atStart => exact ⟨0, rfl, by omega, by omega, Below.refl _ _⟩
        case round =>
          obtain ⟨ix, rfl, hi0, hi1, HBR⟩ := hrel
          have HKT3 := hide ((HBR.out.block _ (size_of_block HKT2.out)).trans HKT2.out)
          have HTT3 : Hid (TmAt wr wr.heap.size 7 T _) := hide (TmAt.below HTT2.out HBR.out (Nat.le_refl _) HBR.out.size)
          clear HKT2 HTT2
          have HKU3 := hide ((HBR.out.block _ (size_of_block HKU2.out)).trans HKU2.out)
          have HTU3 : Hid (TmAt wr wr.heap.size 5 U _) := hide (TmAt.below HTU2.out HBR.out (Nat.le_refl _) HBR.out.size)
          clear HKU2 HTU2
          have HKS3 := hide ((HBR.out.block _ (size_of_block HKS.out)).trans HKS.out)
          have HTS3 : Hid (TmAt wr wr.heap.size 12 S _) := hide (TmAt.below HTS.out HBR.out (Nat.le_refl _) HBR.out.size)
          clear HKS HTS
          have HTB3 := hide (HTB2.out.later HBR.out)
          have HB3 : Hid (Below w.heap.size w wr) := HB2.out.trans (HBR.out.mono HB2.out.size)
          by_cases hlt : ix < 8
          rotate_left
          · obtain ⟨c0, c1, c2⟩ := blk3 HKT3.out
            go_wp2_with fail
            refine (c_below (f := 7) (IsT.of HTT3.out) GT.out HTB3.out (by omega)).mono ?_
            rintro e w5 ⟨rfl, hb5⟩
            rw [HNN.out]
            have HB5 : Hid (Below w.heap.size w w5) := HB3.out.trans (hb5.mono HB3.out.size)
            clear hb5
            cases nb with
            | true =>
              go_wp2_with fail
              go_ret
              exact ⟨rfl, HB5.out⟩
            | false =>
              go_wp2_with fail
              go_ret
              exact ⟨rfl, HB5.out⟩
          have hw1 : IntKind.i64.wrap (ix + 1) = ix + 1 := by rw [IntKind.wrap_i64]; omega
          go_wp2_with fail
          obtain ⟨fa, hfa⟩ : ∃ fa, fa = fre (ix + 1) 0 T := ⟨_, rfl⟩
          obtain ⟨fb, hfb⟩ : ∃ fb, fb = fre 0 0 T := ⟨_, rfl⟩
          obtain ⟨fc, hfc⟩ : ∃ fc, fc = fre ix 0 U := ⟨_, rfl⟩
          have HFA : Hid (fre (ix + 1) 0 T = fa) := hide hfa.symm
          have HFB : Hid (fre 0 0 T = fb) := hide hfb.symm
          have HFC : Hid (fre ix 0 U = fc) := hide hfc.symm
          clear hfa hfb hfc
          have HFS : Hid (fre ix 0 S = (fa || fb && fc)) := hide (by rw [EFS.out ix hi0, HFA.out, HFB.out, HFC.out])
          cases fa
          · cases fb
            · skip
              have HFS2 : Hid (fre ix 0 S = false) := hide (by rw [HFS.out]; first | rfl | simp)
              refine wp_region_vals (by kernel_rfl) (by kernel_rfl) (fun vs => { tmps := #[Value.agg #[Value.int IntKind.i64 r0.op, Value.int IntKind.i64 r0.n, Value.slice a0 r0.kids.length z0], Value.agg #[Value.int IntKind.i64 r1.op, Value.int IntKind.i64 r1.n, Value.slice a1 r1.kids.length z1], Value.int IntKind.i64 nx, Value.pointer (some { block := w.heap.size, off := 0 }), Value.pointer (some { block := w.heap.size + 1, off := 0 }), undef, u6, Value.pointer (some { block := q0, off := 0 }), Value.pointer (some { block := q1, off := 0 }), Value.bool nb, Value.int IntKind.i64 12, Value.pointer (some { block := qS, off := 0 }), Value.int IntKind.i64 ix, Value.bool true, Value.bool false, Value.agg #[Value.int IntKind.i64 r0.op, Value.int IntKind.i64 r0.n, Value.slice a0 r0.kids.length z0], Value.bool true, Value.bool false, Value.bool false, Value.agg #[Value.int IntKind.i64 r1.op, Value.int IntKind.i64 r1.n, Value.slice a1 r1.kids.length z1], Value.bool true, Value.bool false, Value.bool false, s0, s1, s2, s3, Value.int IntKind.i64 n, Value.int IntKind.i64 nx, Value.int IntKind.i64 nx, Value.int IntKind.i64 12, Value.bool false, u32, u33, u34, u35, u36, u37, u38, u39, u40, Value.agg #[Value.int IntKind.i64 t00, Value.int IntKind.i64 t01, Value.slice t0a t0l t0c], Value.agg #[Value.int IntKind.i64 t10, Value.int IntKind.i64 t11, Value.slice t1a t1l t1c], Value.agg #[Value.int IntKind.i64 g0, Value.int IntKind.i64 g1, Value.slice ga gl gc], Value.int IntKind.i64 ix, Value.bool true, u46, u47, vs 0, vs 1, vs 2, vs 3, vs 4, vs 5, vs 6, vs 7, vs 8, vs 9, vs 10, vs 11, vs 12, vs 13, vs 14, vs 15, vs 16, undef, undef, undef, undef, undef], defers := [] }) (fun i => [u48, u49, u50, u51, u52, u53, u54, u55, u56, u57, u58, u59, u60, u61, u62, u63, u64].getD i undef) (free_Fa T U S ix) (free_Fa.keep T U S ix) ?_ ?_
              · refine ⟨?_, ?_, ?_, ?_, ?_, ?_, ?_, ?_, ?_, ?_, ?_, ?_, ?_, ?_, ?_, ?_, ?_, trivial⟩
                · intro vs wx K hb hd hK
                  obtain ⟨c0, c1, c2⟩ := cells3' hb HKS3.out
                  have HBX := hide hb
                  clear hb hd
                  go_simp
                  exact hK _ _ (Below.refl _ _) ⟨_, _, _, _, _, rfl, TmAt.below HTS3.out HBX.out (Nat.le_refl _) HBX.out.size⟩
                · intro vs wx K hb hd hK
                  have HBX := hide hb
                  clear hb hd
                  go_simp
                  exact hK _ _ (Below.refl _ _) rfl
                · intro vs wx K hb hd hK
                  have tm0 := hd ⟨0, .data⟩ (by simp) rfl
                  have HX0 := hide tm0
                  obtain ⟨p0_0, p1_0, pa_0, pl_0, pc_0, e0, _⟩ := tm0
                  rw [e0] at HX0
                  obtain ⟨vs, rfl⟩ := put_of (show vs 0 = _ from e0)
                  obtain ⟨vs, rfl⟩ := put_of (show vs 1 = _ from hd ⟨1, .data⟩ (by simp) rfl)
                  clear e0
                  have HBX := hide hb
                  clear hb hd
                  go_simp
                  refine (c_free HX0.out GS.out (HTB3.out.later HBX.out) (by omega)).mono ?_
                  rintro e w7 ⟨rfl, hb7⟩
                  rw [HFS2.out]
                  exact hK _ _ hb7 rfl
                · intro vs wx K hb hd hK
                  obtain ⟨c0, c1, c2⟩ := cells3' hb HKT3.out
                  have HBX := hide hb
                  clear hb hd
                  go_simp
                  exact hK _ _ (Below.refl _ _) ⟨_, _, _, _, _, rfl, TmAt.below HTT3.out HBX.out (Nat.le_refl _) HBX.out.size⟩
                · intro vs wx K hb hd hK
                  have HBX := hide hb
                  clear hb hd
                  go_simp
                  exact hK _ _ (Below.refl _ _) rfl
                · intro vs wx K hb hd hK
                  obtain ⟨vs, rfl⟩ := put_of (show vs 4 = _ from hd ⟨4, .data⟩ (by simp) rfl)
                  have HBX := hide hb
                  clear hb hd
                  go_simp
                  exact hK _ _ (Below.refl _ _) rfl
                · intro vs wx K hb hd hK
                  have tm3 := hd ⟨3, .data⟩ (by simp) rfl
                  have HX3 := hide tm3
                  obtain ⟨p0_3, p1_3, pa_3, pl_3, pc_3, e3, _⟩ := tm3
                  rw [e3] at HX3
                  obtain ⟨vs, rfl⟩ := put_of (show vs 3 = _ from e3)
                  obtain ⟨vs, rfl⟩ := put_of (show vs 5 = _ from hd ⟨5, .data⟩ (by simp) rfl)
                  clear e3
                  have HBX := hide hb
                  clear hb hd
                  go_simp
                  refine (c_rfree HX3.out (by decide) (by omega)).mono ?_
                  rintro e w7 ⟨rfl, hb7⟩
                  rw [HFA.out]
                  exact hK _ _ hb7 rfl
                · intro vs wx K hb hd hK
                  obtain ⟨vs, rfl⟩ := put_of (show vs 6 = _ from hd ⟨6, .data⟩ (by simp) rfl)
                  have HBX := hide hb
                  clear hb hd
                  go_simp
                  exact hK _ _ (Below.refl _ _) rfl
                · intro vs wx K hb hd hK
                  obtain ⟨vs, rfl⟩ := put_of (show vs 7 = _ from hd ⟨7, .guard⟩ (by simp) rfl)
                  obtain ⟨c0, c1, c2⟩ := cells3' hb HKT3.out
                  have HBX := hide hb
                  clear hb hd
                  go_simp
                  exact hK _ _ (Below.refl _ _) ⟨_, _, _, _, _, rfl, TmAt.below HTT3.out HBX.out (Nat.le_refl _) HBX.out.size⟩
                · intro vs wx K hb hd hK
                  have tm8 := hd ⟨8, .data⟩ (by simp) rfl
                  have HX8 := hide tm8
                  obtain ⟨p0_8, p1_8, pa_8, pl_8, pc_8, e8, _⟩ := tm8
                  rw [e8] at HX8
                  obtain ⟨vs, rfl⟩ := put_of (show vs 8 = _ from e8)
                  obtain ⟨vs, rfl⟩ := put_of (show vs 7 = _ from hd ⟨7, .guard⟩ (by simp) rfl)
                  clear e8
                  have HBX := hide hb
                  clear hb hd
                  go_simp
                  refine (c_rfree HX8.out (by decide) (by omega)).mono ?_
                  rintro e w7 ⟨rfl, hb7⟩
                  rw [HFB.out]
                  exact hK _ _ hb7 rfl
                · intro vs wx K hb hd hK
                  obtain ⟨vs, rfl⟩ := put_of (show vs 9 = _ from hd ⟨9, .data⟩ (by simp) rfl)
                  obtain ⟨vs, rfl⟩ := put_of (show vs 7 = _ from hd ⟨7, .guard⟩ (by simp) rfl)
                  have HBX := hide hb
                  clear hb hd
                  go_simp
                  exact hK _ _ (Below.refl _ _) rfl
                · intro vs wx K hb hd hK
                  obtain ⟨vs, rfl⟩ := put_of (show vs 10 = _ from hd ⟨10, .guard⟩ (by simp) rfl)
                  clear hb hd
                  go_simp
                  exact hK _ _ (Below.refl _ _) rfl
                · intro vs wx K hb hd hK
                  obtain ⟨vs, rfl⟩ := put_of (show vs 10 = _ from hd ⟨10, .guard⟩ (by simp) rfl)
                  clear hb hd
                  go_simp
                  exact hK _ _ (Below.refl _ _) rfl
                · intro vs wx K hb hd hK
                  obtain ⟨vs, rfl⟩ := put_of (show vs 10 = _ from hd ⟨10, .guard⟩ (by simp) rfl)
                  clear hb hd
                  go_simp
                  exact hK _ _ (Below.refl _ _) rfl
                · intro vs wx K hb hd hK
                  obtain ⟨vs, rfl⟩ := put_of (show vs 10 = _ from hd ⟨10, .data⟩ (by simp) rfl)
                  obtain ⟨vs, rfl⟩ := put_of (show vs 13 = _ from hd ⟨13, .data⟩ (by simp) rfl)
                  obtain ⟨vs, rfl⟩ := put_of (show vs 7 = _ from hd ⟨7, .guard⟩ (by simp) rfl)
                  have HBX := hide hb
                  clear hb hd
                  go_simp
                  exact hK _ _ (Below.refl _ _) rfl
                · intro vs wx K hb hd hK
                  obtain ⟨vs, rfl⟩ := put_of (show vs 7 = _ from hd ⟨7, .data⟩ (by simp) rfl)
                  obtain ⟨vs, rfl⟩ := put_of (show vs 14 = _ from hd ⟨14, .data⟩ (by simp) rfl)
                  have HBX := hide hb
                  clear hb hd
                  go_simp
                  exact hK _ _ (Below.refl _ _) rfl
                · intro vs wx K hb hd hK
                  obtain ⟨vs, rfl⟩ := put_of (show vs 2 = _ from hd ⟨2, .data⟩ (by simp) rfl)
                  obtain ⟨vs, rfl⟩ := put_of (show vs 15 = _ from hd ⟨15, .data⟩ (by simp) rfl)
                  have HBX := hide hb
                  clear hb hd
                  go_simp
                  exact hK _ _ (Below.refl _ _) rfl
              · intro vs wx hb hF
                obtain ⟨vs, rfl⟩ := put_of (show vs 16 = _ from hF 16 (by decide))
                have HBX := hide hb
                clear hb hF
                simp only [put, Nat.reduceEqDiff, reduceIte]
                go_wp2_with fail
                go_roundw
                case rel => exact ⟨ix + 1, by go_num, by omega, by omega, HBR.out.trans (HBX.out.mono HBR.out.size)⟩
                case measure => simp [intOf]; omega
            · cases fc
              · skip
                have HFS2 : Hid (fre ix 0 S = false) := hide (by rw [HFS.out]; first | rfl | simp)
                refine wp_region_vals (by kernel_rfl) (by kernel_rfl) (fun vs => { tmps := #[Value.agg #[Value.int IntKind.i64 r0.op, Value.int IntKind.i64 r0.n, Value.slice a0 r0.kids.length z0], Value.agg #[Value.int IntKind.i64 r1.op, Value.int IntKind.i64 r1.n, Value.slice a1 r1.kids.length z1], Value.int IntKind.i64 nx, Value.pointer (some { block := w.heap.size, off := 0 }), Value.pointer (some { block := w.heap.size + 1, off := 0 }), undef, u6, Value.pointer (some { block := q0, off := 0 }), Value.pointer (some { block := q1, off := 0 }), Value.bool nb, Value.int IntKind.i64 12, Value.pointer (some { block := qS, off := 0 }), Value.int IntKind.i64 ix, Value.bool true, Value.bool false, Value.agg #[Value.int IntKind.i64 r0.op, Value.int IntKind.i64 r0.n, Value.slice a0 r0.kids.length z0], Value.bool true, Value.bool false, Value.bool false, Value.agg #[Value.int IntKind.i64 r1.op, Value.int IntKind.i64 r1.n, Value.slice a1 r1.kids.length z1], Value.bool true, Value.bool false, Value.bool false, s0, s1, s2, s3, Value.int IntKind.i64 n, Value.int IntKind.i64 nx, Value.int IntKind.i64 nx, Value.int IntKind.i64 12, Value.bool false, u32, u33, u34, u35, u36, u37, u38, u39, u40, Value.agg #[Value.int IntKind.i64 t00, Value.int IntKind.i64 t01, Value.slice t0a t0l t0c], Value.agg #[Value.int IntKind.i64 t10, Value.int IntKind.i64 t11, Value.slice t1a t1l t1c], Value.agg #[Value.int IntKind.i64 g0, Value.int IntKind.i64 g1, Value.slice ga gl gc], Value.int IntKind.i64 ix, Value.bool true, u46, u47, vs 0, vs 1, vs 2, vs 3, vs 4, vs 5, vs 6, vs 7, vs 8, vs 9, vs 10, vs 11, vs 12, vs 13, vs 14, vs 15, vs 16, undef, undef, undef, undef, undef], defers := [] }) (fun i => [u48, u49, u50, u51, u52, u53, u54, u55, u56, u57, u58, u59, u60, u61, u62, u63, u64].getD i undef) (free_Fb T U S ix) (free_Fb.keep T U S ix) ?_ ?_
                · refine ⟨?_, ?_, ?_, ?_, ?_, ?_, ?_, ?_, ?_, ?_, ?_, ?_, ?_, ?_, ?_, ?_, ?_, trivial⟩
                  · intro vs wx K hb hd hK
                    obtain ⟨c0, c1, c2⟩ := cells3' hb HKS3.out
                    have HBX := hide hb
                    clear hb hd
                    go_simp
                    exact hK _ _ (Below.refl _ _) ⟨_, _, _, _, _, rfl, TmAt.below HTS3.out HBX.out (Nat.le_refl _) HBX.out.size⟩
                  · intro vs wx K hb hd hK
                    have HBX := hide hb
                    clear hb hd
                    go_simp
                    exact hK _ _ (Below.refl _ _) rfl
                  · intro vs wx K hb hd hK
                    have tm0 := hd ⟨0, .data⟩ (by simp) rfl
                    have HX0 := hide tm0
                    obtain ⟨p0_0, p1_0, pa_0, pl_0, pc_0, e0, _⟩ := tm0
                    rw [e0] at HX0
                    obtain ⟨vs, rfl⟩ := put_of (show vs 0 = _ from e0)
                    obtain ⟨vs, rfl⟩ := put_of (show vs 1 = _ from hd ⟨1, .data⟩ (by simp) rfl)
                    clear e0
                    have HBX := hide hb
                    clear hb hd
                    go_simp
                    refine (c_free HX0.out GS.out (HTB3.out.later HBX.out) (by omega)).mono ?_
                    rintro e w7 ⟨rfl, hb7⟩
                    rw [HFS2.out]
                    exact hK _ _ hb7 rfl
                  · intro vs wx K hb hd hK
                    obtain ⟨c0, c1, c2⟩ := cells3' hb HKT3.out
                    have HBX := hide hb
                    clear hb hd
                    go_simp
                    exact hK _ _ (Below.refl _ _) ⟨_, _, _, _, _, rfl, TmAt.below HTT3.out HBX.out (Nat.le_refl _) HBX.out.size⟩
                  · intro vs wx K hb hd hK
                    have HBX := hide hb
                    clear hb hd
                    go_simp
                    exact hK _ _ (Below.refl _ _) rfl
                  · intro vs wx K hb hd hK
                    obtain ⟨vs, rfl⟩ := put_of (show vs 4 = _ from hd ⟨4, .data⟩ (by simp) rfl)
                    have HBX := hide hb
                    clear hb hd
                    go_simp
                    exact hK _ _ (Below.refl _ _) rfl
                  · intro vs wx K hb hd hK
                    have tm3 := hd ⟨3, .data⟩ (by simp) rfl
                    have HX3 := hide tm3
                    obtain ⟨p0_3, p1_3, pa_3, pl_3, pc_3, e3, _⟩ := tm3
                    rw [e3] at HX3
                    obtain ⟨vs, rfl⟩ := put_of (show vs 3 = _ from e3)
                    obtain ⟨vs, rfl⟩ := put_of (show vs 5 = _ from hd ⟨5, .data⟩ (by simp) rfl)
                    clear e3
                    have HBX := hide hb
                    clear hb hd
                    go_simp
                    refine (c_rfree HX3.out (by decide) (by omega)).mono ?_
                    rintro e w7 ⟨rfl, hb7⟩
                    rw [HFA.out]
                    exact hK _ _ hb7 rfl
                  · intro vs wx K hb hd hK
                    obtain ⟨vs, rfl⟩ := put_of (show vs 6 = _ from hd ⟨6, .data⟩ (by simp) rfl)
                    have HBX := hide hb
                    clear hb hd
                    go_simp
                    exact hK _ _ (Below.refl _ _) rfl
                  · intro vs wx K hb hd hK
                    obtain ⟨vs, rfl⟩ := put_of (show vs 7 = _ from hd ⟨7, .guard⟩ (by simp) rfl)
                    obtain ⟨c0, c1, c2⟩ := cells3' hb HKT3.out
                    have HBX := hide hb
                    clear hb hd
                    go_simp
                    exact hK _ _ (Below.refl _ _) ⟨_, _, _, _, _, rfl, TmAt.below HTT3.out HBX.out (Nat.le_refl _) HBX.out.size⟩
                  · intro vs wx K hb hd hK
                    have tm8 := hd ⟨8, .data⟩ (by simp) rfl
                    have HX8 := hide tm8
                    obtain ⟨p0_8, p1_8, pa_8, pl_8, pc_8, e8, _⟩ := tm8
                    rw [e8] at HX8
                    obtain ⟨vs, rfl⟩ := put_of (show vs 8 = _ from e8)
                    obtain ⟨vs, rfl⟩ := put_of (show vs 7 = _ from hd ⟨7, .guard⟩ (by simp) rfl)
                    clear e8
                    have HBX := hide hb
                    clear hb hd
                    go_simp
                    refine (c_rfree HX8.out (by decide) (by omega)).mono ?_
                    rintro e w7 ⟨rfl, hb7⟩
                    rw [HFB.out]
                    exact hK _ _ hb7 rfl
                  · intro vs wx K hb hd hK
                    obtain ⟨vs, rfl⟩ := put_of (show vs 9 = _ from hd ⟨9, .data⟩ (by simp) rfl)
                    obtain ⟨vs, rfl⟩ := put_of (show vs 7 = _ from hd ⟨7, .guard⟩ (by simp) rfl)
                    have HBX := hide hb
                    clear hb hd
                    go_simp
                    exact hK _ _ (Below.refl _ _) rfl
                  · intro vs wx K hb hd hK
                    obtain ⟨vs, rfl⟩ := put_of (show vs 10 = _ from hd ⟨10, .guard⟩ (by simp) rfl)
                    obtain ⟨c0, c1, c2⟩ := cells3' hb HKU3.out
                    have HBX := hide hb
                    clear hb hd
                    go_simp
                    exact hK _ _ (Below.refl _ _) ⟨_, _, _, _, _, rfl, TmAt.below HTU3.out HBX.out (Nat.le_refl _) HBX.out.size⟩
                  · intro vs wx K hb hd hK
                    obtain ⟨vs, rfl⟩ := put_of (show vs 10 = _ from hd ⟨10, .guard⟩ (by simp) rfl)
                    have HBX := hide hb
                    clear hb hd
                    go_simp
                    exact hK _ _ (Below.refl _ _) rfl
                  · intro vs wx K hb hd hK
                    have tm11 := hd ⟨11, .data⟩ (by simp) rfl
                    have HX11 := hide tm11
                    obtain ⟨p0_11, p1_11, pa_11, pl_11, pc_11, e11, _⟩ := tm11
                    rw [e11] at HX11
                    obtain ⟨vs, rfl⟩ := put_of (show vs 11 = _ from e11)
                    obtain ⟨vs, rfl⟩ := put_of (show vs 12 = _ from hd ⟨12, .data⟩ (by simp) rfl)
                    obtain ⟨vs, rfl⟩ := put_of (show vs 10 = _ from hd ⟨10, .guard⟩ (by simp) rfl)
                    clear e11
                    have HBX := hide hb
                    clear hb hd
                    go_simp
                    refine (c_rfree HX11.out (by decide) (by omega)).mono ?_
                    rintro e w7 ⟨rfl, hb7⟩
                    rw [HFC.out]
                    exact hK _ _ hb7 rfl
                  · intro vs wx K hb hd hK
                    obtain ⟨vs, rfl⟩ := put_of (show vs 10 = _ from hd ⟨10, .data⟩ (by simp) rfl)
                    obtain ⟨vs, rfl⟩ := put_of (show vs 13 = _ from hd ⟨13, .data⟩ (by simp) rfl)
                    obtain ⟨vs, rfl⟩ := put_of (show vs 7 = _ from hd ⟨7, .guard⟩ (by simp) rfl)
                    have HBX := hide hb
                    clear hb hd
                    go_simp
                    exact hK _ _ (Below.refl _ _) rfl
                  · intro vs wx K hb hd hK
                    obtain ⟨vs, rfl⟩ := put_of (show vs 7 = _ from hd ⟨7, .data⟩ (by simp) rfl)
                    obtain ⟨vs, rfl⟩ := put_of (show vs 14 = _ from hd ⟨14, .data⟩ (by simp) rfl)
                    have HBX := hide hb
                    clear hb hd
                    go_simp
                    exact hK _ _ (Below.refl _ _) rfl
                  · intro vs wx K hb hd hK
                    obtain ⟨vs, rfl⟩ := put_of (show vs 2 = _ from hd ⟨2, .data⟩ (by simp) rfl)
                    obtain ⟨vs, rfl⟩ := put_of (show vs 15 = _ from hd ⟨15, .data⟩ (by simp) rfl)
                    have HBX := hide hb
                    clear hb hd
                    go_simp
                    exact hK _ _ (Below.refl _ _) rfl
                · intro vs wx hb hF
                  obtain ⟨vs, rfl⟩ := put_of (show vs 16 = _ from hF 16 (by decide))
                  have HBX := hide hb
                  clear hb hF
                  simp only [put, Nat.reduceEqDiff, reduceIte]
                  go_wp2_with fail
                  go_roundw
                  case rel => exact ⟨ix + 1, by go_num, by omega, by omega, HBR.out.trans (HBX.out.mono HBR.out.size)⟩
                  case measure => simp [intOf]; omega
              · skip
                have HFS2 : Hid (fre ix 0 S = true) := hide (by rw [HFS.out]; first | rfl | simp)
                refine wp_region_vals (by kernel_rfl) (by kernel_rfl) (fun vs => { tmps := #[Value.agg #[Value.int IntKind.i64 r0.op, Value.int IntKind.i64 r0.n, Value.slice a0 r0.kids.length z0], Value.agg #[Value.int IntKind.i64 r1.op, Value.int IntKind.i64 r1.n, Value.slice a1 r1.kids.length z1], Value.int IntKind.i64 nx, Value.pointer (some { block := w.heap.size, off := 0 }), Value.pointer (some { block := w.heap.size + 1, off := 0 }), undef, u6, Value.pointer (some { block := q0, off := 0 }), Value.pointer (some { block := q1, off := 0 }), Value.bool nb, Value.int IntKind.i64 12, Value.pointer (some { block := qS, off := 0 }), Value.int IntKind.i64 ix, Value.bool true, Value.bool false, Value.agg #[Value.int IntKind.i64 r0.op, Value.int IntKind.i64 r0.n, Value.slice a0 r0.kids.length z0], Value.bool true, Value.bool false, Value.bool false, Value.agg #[Value.int IntKind.i64 r1.op, Value.int IntKind.i64 r1.n, Value.slice a1 r1.kids.length z1], Value.bool true, Value.bool false, Value.bool false, s0, s1, s2, s3, Value.int IntKind.i64 n, Value.int IntKind.i64 nx, Value.int IntKind.i64 nx, Value.int IntKind.i64 12, Value.bool false, u32, u33, u34, u35, u36, u37, u38, u39, u40, Value.agg #[Value.int IntKind.i64 t00, Value.int IntKind.i64 t01, Value.slice t0a t0l t0c], Value.agg #[Value.int IntKind.i64 t10, Value.int IntKind.i64 t11, Value.slice t1a t1l t1c], Value.agg #[Value.int IntKind.i64 g0, Value.int IntKind.i64 g1, Value.slice ga gl gc], Value.int IntKind.i64 ix, Value.bool true, u46, u47, vs 0, vs 1, vs 2, vs 3, vs 4, vs 5, vs 6, vs 7, vs 8, vs 9, vs 10, vs 11, vs 12, vs 13, vs 14, vs 15, vs 16, undef, undef, undef, undef, undef], defers := [] }) (fun i => [u48, u49, u50, u51, u52, u53, u54, u55, u56, u57, u58, u59, u60, u61, u62, u63, u64].getD i undef) (free_Fc T U S ix) (free_Fc.keep T U S ix) ?_ ?_
                · refine ⟨?_, ?_, ?_, ?_, ?_, ?_, ?_, ?_, ?_, ?_, ?_, ?_, ?_, ?_, ?_, ?_, ?_, trivial⟩
                  · intro vs wx K hb hd hK
                    obtain ⟨c0, c1, c2⟩ := cells3' hb HKS3.out
                    have HBX := hide hb
                    clear hb hd
                    go_simp
                    exact hK _ _ (Below.refl _ _) ⟨_, _, _, _, _, rfl, TmAt.below HTS3.out HBX.out (Nat.le_refl _) HBX.out.size⟩
                  · intro vs wx K hb hd hK
                    have HBX := hide hb
                    clear hb hd
                    go_simp
                    exact hK _ _ (Below.refl _ _) rfl
                  · intro vs wx K hb hd hK
                    have tm0 := hd ⟨0, .data⟩ (by simp) rfl
                    have HX0 := hide tm0
                    obtain ⟨p0_0, p1_0, pa_0, pl_0, pc_0, e0, _⟩ := tm0
                    rw [e0] at HX0
                    obtain ⟨vs, rfl⟩ := put_of (show vs 0 = _ from e0)
                    obtain ⟨vs, rfl⟩ := put_of (show vs 1 = _ from hd ⟨1, .data⟩ (by simp) rfl)
                    clear e0
                    have HBX := hide hb
                    clear hb hd
                    go_simp
                    refine (c_free HX0.out GS.out (HTB3.out.later HBX.out) (by omega)).mono ?_
                    rintro e w7 ⟨rfl, hb7⟩
                    rw [HFS2.out]
                    exact hK _ _ hb7 rfl
                  · intro vs wx K hb hd hK
                    obtain ⟨c0, c1, c2⟩ := cells3' hb HKT3.out
                    have HBX := hide hb
                    clear hb hd
                    go_simp
                    exact hK _ _ (Below.refl _ _) ⟨_, _, _, _, _, rfl, TmAt.below HTT3.out HBX.out (Nat.le_refl _) HBX.out.size⟩
                  · intro vs wx K hb hd hK
                    have HBX := hide hb
                    clear hb hd
                    go_simp
                    exact hK _ _ (Below.refl _ _) rfl
                  · intro vs wx K hb hd hK
                    obtain ⟨vs, rfl⟩ := put_of (show vs 4 = _ from hd ⟨4, .data⟩ (by simp) rfl)
                    have HBX := hide hb
                    clear hb hd
                    go_simp
                    exact hK _ _ (Below.refl _ _) rfl
                  · intro vs wx K hb hd hK
                    have tm3 := hd ⟨3, .data⟩ (by simp) rfl
                    have HX3 := hide tm3
                    obtain ⟨p0_3, p1_3, pa_3, pl_3, pc_3, e3, _⟩ := tm3
                    rw [e3] at HX3
                    obtain ⟨vs, rfl⟩ := put_of (show vs 3 = _ from e3)
                    obtain ⟨vs, rfl⟩ := put_of (show vs 5 = _ from hd ⟨5, .data⟩ (by simp) rfl)
                    clear e3
                    have HBX := hide hb
                    clear hb hd
                    go_simp
                    refine (c_rfree HX3.out (by decide) (by omega)).mono ?_
                    rintro e w7 ⟨rfl, hb7⟩
                    rw [HFA.out]
                    exact hK _ _ hb7 rfl
                  · intro vs wx K hb hd hK
                    obtain ⟨vs, rfl⟩ := put_of (show vs 6 = _ from hd ⟨6, .data⟩ (by simp) rfl)
                    have HBX := hide hb
                    clear hb hd
                    go_simp
                    exact hK _ _ (Below.refl _ _) rfl
                  · intro vs wx K hb hd hK
                    obtain ⟨vs, rfl⟩ := put_of (show vs 7 = _ from hd ⟨7, .guard⟩ (by simp) rfl)
                    obtain ⟨c0, c1, c2⟩ := cells3' hb HKT3.out
                    have HBX := hide hb
                    clear hb hd
                    go_simp
                    exact hK _ _ (Below.refl _ _) ⟨_, _, _, _, _, rfl, TmAt.below HTT3.out HBX.out (Nat.le_refl _) HBX.out.size⟩
                  · intro vs wx K hb hd hK
                    have tm8 := hd ⟨8, .data⟩ (by simp) rfl
                    have HX8 := hide tm8
                    obtain ⟨p0_8, p1_8, pa_8, pl_8, pc_8, e8, _⟩ := tm8
                    rw [e8] at HX8
                    obtain ⟨vs, rfl⟩ := put_of (show vs 8 = _ from e8)
                    obtain ⟨vs, rfl⟩ := put_of (show vs 7 = _ from hd ⟨7, .guard⟩ (by simp) rfl)
                    clear e8
                    have HBX := hide hb
                    clear hb hd
                    go_simp
                    refine (c_rfree HX8.out (by decide) (by omega)).mono ?_
                    rintro e w7 ⟨rfl, hb7⟩
                    rw [HFB.out]
                    exact hK _ _ hb7 rfl
                  · intro vs wx K hb hd hK
                    obtain ⟨vs, rfl⟩ := put_of (show vs 9 = _ from hd ⟨9, .data⟩ (by simp) rfl)
                    obtain ⟨vs, rfl⟩ := put_of (show vs 7 = _ from hd ⟨7, .guard⟩ (by simp) rfl)
                    have HBX := hide hb
                    clear hb hd
                    go_simp
                    exact hK _ _ (Below.refl _ _) rfl
                  · intro vs wx K hb hd hK
                    obtain ⟨vs, rfl⟩ := put_of (show vs 10 = _ from hd ⟨10, .guard⟩ (by simp) rfl)
                    obtain ⟨c0, c1, c2⟩ := cells3' hb HKU3.out
                    have HBX := hide hb
                    clear hb hd
                    go_simp
                    exact hK _ _ (Below.refl _ _) ⟨_, _, _, _, _, rfl, TmAt.below HTU3.out HBX.out (Nat.le_refl _) HBX.out.size⟩
                  · intro vs wx K hb hd hK
                    obtain ⟨vs, rfl⟩ := put_of (show vs 10 = _ from hd ⟨10, .guard⟩ (by simp) rfl)
                    have HBX := hide hb
                    clear hb hd
                    go_simp
                    exact hK _ _ (Below.refl _ _) rfl
                  · intro vs wx K hb hd hK
                    have tm11 := hd ⟨11, .data⟩ (by simp) rfl
                    have HX11 := hide tm11
                    obtain ⟨p0_11, p1_11, pa_11, pl_11, pc_11, e11, _⟩ := tm11
                    rw [e11] at HX11
                    obtain ⟨vs, rfl⟩ := put_of (show vs 11 = _ from e11)
                    obtain ⟨vs, rfl⟩ := put_of (show vs 12 = _ from hd ⟨12, .data⟩ (by simp) rfl)
                    obtain ⟨vs, rfl⟩ := put_of (show vs 10 = _ from hd ⟨10, .guard⟩ (by simp) rfl)
                    clear e11
                    have HBX := hide hb
                    clear hb hd
                    go_simp
                    refine (c_rfree HX11.out (by decide) (by omega)).mono ?_
                    rintro e w7 ⟨rfl, hb7⟩
                    rw [HFC.out]
                    exact hK _ _ hb7 rfl
                  · intro vs wx K hb hd hK
                    obtain ⟨vs, rfl⟩ := put_of (show vs 10 = _ from hd ⟨10, .data⟩ (by simp) rfl)
                    obtain ⟨vs, rfl⟩ := put_of (show vs 13 = _ from hd ⟨13, .data⟩ (by simp) rfl)
                    obtain ⟨vs, rfl⟩ := put_of (show vs 7 = _ from hd ⟨7, .guard⟩ (by simp) rfl)
                    have HBX := hide hb
                    clear hb hd
                    go_simp
                    exact hK _ _ (Below.refl _ _) rfl
                  · intro vs wx K hb hd hK
                    obtain ⟨vs, rfl⟩ := put_of (show vs 7 = _ from hd ⟨7, .data⟩ (by simp) rfl)
                    obtain ⟨vs, rfl⟩ := put_of (show vs 14 = _ from hd ⟨14, .data⟩ (by simp) rfl)
                    have HBX := hide hb
                    clear hb hd
                    go_simp
                    exact hK _ _ (Below.refl _ _) rfl
                  · intro vs wx K hb hd hK
                    obtain ⟨vs, rfl⟩ := put_of (show vs 2 = _ from hd ⟨2, .data⟩ (by simp) rfl)
                    obtain ⟨vs, rfl⟩ := put_of (show vs 15 = _ from hd ⟨15, .data⟩ (by simp) rfl)
                    have HBX := hide hb
                    clear hb hd
                    go_simp
                    exact hK _ _ (Below.refl _ _) rfl
                · intro vs wx hb hF
                  obtain ⟨vs, rfl⟩ := put_of (show vs 16 = _ from hF 16 (by decide))
                  have HBX := hide hb
                  clear hb hF
                  simp only [put, Nat.reduceEqDiff, reduceIte]
                  go_wp2_with fail
                  go_roundw
                  case rel => exact ⟨ix + 1, by go_num, by omega, by omega, HBR.out.trans (HBX.out.mono HBR.out.size)⟩
                  case measure => simp [intOf]; omega
          · skip
            have HFS2 : Hid (fre ix 0 S = true) := hide (by rw [HFS.out]; first | rfl | simp)
            refine wp_region_vals (by kernel_rfl) (by kernel_rfl) (fun vs => { tmps := #[Value.agg #[Value.int IntKind.i64 r0.op, Value.int IntKind.i64 r0.n, Value.slice a0 r0.kids.length z0], Value.agg #[Value.int IntKind.i64 r1.op, Value.int IntKind.i64 r1.n, Value.slice a1 r1.kids.length z1], Value.int IntKind.i64 nx, Value.pointer (some { block := w.heap.size, off := 0 }), Value.pointer (some { block := w.heap.size + 1, off := 0 }), undef, u6, Value.pointer (some { block := q0, off := 0 }), Value.pointer (some { block := q1, off := 0 }), Value.bool nb, Value.int IntKind.i64 12, Value.pointer (some { block := qS, off := 0 }), Value.int IntKind.i64 ix, Value.bool true, Value.bool false, Value.agg #[Value.int IntKind.i64 r0.op, Value.int IntKind.i64 r0.n, Value.slice a0 r0.kids.length z0], Value.bool true, Value.bool false, Value.bool false, Value.agg #[Value.int IntKind.i64 r1.op, Value.int IntKind.i64 r1.n, Value.slice a1 r1.kids.length z1], Value.bool true, Value.bool false, Value.bool false, s0, s1, s2, s3, Value.int IntKind.i64 n, Value.int IntKind.i64 nx, Value.int IntKind.i64 nx, Value.int IntKind.i64 12, Value.bool false, u32, u33, u34, u35, u36, u37, u38, u39, u40, Value.agg #[Value.int IntKind.i64 t00, Value.int IntKind.i64 t01, Value.slice t0a t0l t0c], Value.agg #[Value.int IntKind.i64 t10, Value.int IntKind.i64 t11, Value.slice t1a t1l t1c], Value.agg #[Value.int IntKind.i64 g0, Value.int IntKind.i64 g1, Value.slice ga gl gc], Value.int IntKind.i64 ix, Value.bool true, u46, u47, vs 0, vs 1, vs 2, vs 3, vs 4, vs 5, vs 6, vs 7, vs 8, vs 9, vs 10, vs 11, vs 12, vs 13, vs 14, vs 15, vs 16, undef, undef, undef, undef, undef], defers := [] }) (fun i => [u48, u49, u50, u51, u52, u53, u54, u55, u56, u57, u58, u59, u60, u61, u62, u63, u64].getD i undef) (free_Fd T U S ix) (free_Fd.keep T U S ix) ?_ ?_
            · refine ⟨?_, ?_, ?_, ?_, ?_, ?_, ?_, ?_, ?_, ?_, ?_, ?_, ?_, ?_, ?_, ?_, ?_, trivial⟩
              · intro vs wx K hb hd hK
                obtain ⟨c0, c1, c2⟩ := cells3' hb HKS3.out
                have HBX := hide hb
                clear hb hd
                go_simp
                exact hK _ _ (Below.refl _ _) ⟨_, _, _, _, _, rfl, TmAt.below HTS3.out HBX.out (Nat.le_refl _) HBX.out.size⟩
              · intro vs wx K hb hd hK
                have HBX := hide hb
                clear hb hd
                go_simp
                exact hK _ _ (Below.refl _ _) rfl
              · intro vs wx K hb hd hK
                have tm0 := hd ⟨0, .data⟩ (by simp) rfl
                have HX0 := hide tm0
                obtain ⟨p0_0, p1_0, pa_0, pl_0, pc_0, e0, _⟩ := tm0
                rw [e0] at HX0
                obtain ⟨vs, rfl⟩ := put_of (show vs 0 = _ from e0)
                obtain ⟨vs, rfl⟩ := put_of (show vs 1 = _ from hd ⟨1, .data⟩ (by simp) rfl)
                clear e0
                have HBX := hide hb
                clear hb hd
                go_simp
                refine (c_free HX0.out GS.out (HTB3.out.later HBX.out) (by omega)).mono ?_
                rintro e w7 ⟨rfl, hb7⟩
                rw [HFS2.out]
                exact hK _ _ hb7 rfl
              · intro vs wx K hb hd hK
                obtain ⟨c0, c1, c2⟩ := cells3' hb HKT3.out
                have HBX := hide hb
                clear hb hd
                go_simp
                exact hK _ _ (Below.refl _ _) ⟨_, _, _, _, _, rfl, TmAt.below HTT3.out HBX.out (Nat.le_refl _) HBX.out.size⟩
              · intro vs wx K hb hd hK
                have HBX := hide hb
                clear hb hd
                go_simp
                exact hK _ _ (Below.refl _ _) rfl
              · intro vs wx K hb hd hK
                obtain ⟨vs, rfl⟩ := put_of (show vs 4 = _ from hd ⟨4, .data⟩ (by simp) rfl)
                have HBX := hide hb
                clear hb hd
                go_simp
                exact hK _ _ (Below.refl _ _) rfl
              · intro vs wx K hb hd hK
                have tm3 := hd ⟨3, .data⟩ (by simp) rfl
                have HX3 := hide tm3
                obtain ⟨p0_3, p1_3, pa_3, pl_3, pc_3, e3, _⟩ := tm3
                rw [e3] at HX3
                obtain ⟨vs, rfl⟩ := put_of (show vs 3 = _ from e3)
                obtain ⟨vs, rfl⟩ := put_of (show vs 5 = _ from hd ⟨5, .data⟩ (by simp) rfl)
                clear e3
                have HBX := hide hb
                clear hb hd
                go_simp
                refine (c_rfree HX3.out (by decide) (by omega)).mono ?_
                rintro e w7 ⟨rfl, hb7⟩
                rw [HFA.out]
                exact hK _ _ hb7 rfl
              · intro vs wx K hb hd hK
                obtain ⟨vs, rfl⟩ := put_of (show vs 6 = _ from hd ⟨6, .data⟩ (by simp) rfl)
                have HBX := hide hb
                clear hb hd
                go_simp
                exact hK _ _ (Below.refl _ _) rfl
              · intro vs wx K hb hd hK
                obtain ⟨vs, rfl⟩ := put_of (show vs 7 = _ from hd ⟨7, .guard⟩ (by simp) rfl)
                clear hb hd
                go_simp
                exact hK _ _ (Below.refl _ _) rfl
              · intro vs wx K hb hd hK
                obtain ⟨vs, rfl⟩ := put_of (show vs 7 = _ from hd ⟨7, .guard⟩ (by simp) rfl)
                clear hb hd
                go_simp
                exact hK _ _ (Below.refl _ _) rfl
              · intro vs wx K hb hd hK
                obtain ⟨vs, rfl⟩ := put_of (show vs 7 = _ from hd ⟨7, .guard⟩ (by simp) rfl)
                clear hb hd
                go_simp
                exact hK _ _ (Below.refl _ _) rfl
              · intro vs wx K hb hd hK
                obtain ⟨vs, rfl⟩ := put_of (show vs 10 = _ from hd ⟨10, .guard⟩ (by simp) rfl)
                clear hb hd
                go_simp
                exact hK _ _ (Below.refl _ _) rfl
              · intro vs wx K hb hd hK
                obtain ⟨vs, rfl⟩ := put_of (show vs 10 = _ from hd ⟨10, .guard⟩ (by simp) rfl)
                clear hb hd
                go_simp
                exact hK _ _ (Below.refl _ _) rfl
              · intro vs wx K hb hd hK
                obtain ⟨vs, rfl⟩ := put_of (show vs 10 = _ from hd ⟨10, .guard⟩ (by simp) rfl)
                clear hb hd
                go_simp
                exact hK _ _ (Below.refl _ _) rfl
              · intro vs wx K hb hd hK
                obtain ⟨vs, rfl⟩ := put_of (show vs 7 = _ from hd ⟨7, .guard⟩ (by simp) rfl)
                clear hb hd
                go_simp
                exact hK _ _ (Below.refl _ _) rfl
              · intro vs wx K hb hd hK
                obtain ⟨vs, rfl⟩ := put_of (show vs 7 = _ from hd ⟨7, .data⟩ (by simp) rfl)
                obtain ⟨vs, rfl⟩ := put_of (show vs 14 = _ from hd ⟨14, .data⟩ (by simp) rfl)
                have HBX := hide hb
                clear hb hd
                go_simp
                exact hK _ _ (Below.refl _ _) rfl
              · intro vs wx K hb hd hK
                obtain ⟨vs, rfl⟩ := put_of (show vs 2 = _ from hd ⟨2, .data⟩ (by simp) rfl)
                obtain ⟨vs, rfl⟩ := put_of (show vs 15 = _ from hd ⟨15, .data⟩ (by simp) rfl)
                have HBX := hide hb
                clear hb hd
                go_simp
                exact hK _ _ (Below.refl _ _) rfl
            · intro vs wx hb hF
              obtain ⟨vs, rfl⟩ := put_of (show vs 16 = _ from hF 16 (by decide))
              have HBX := hide hb
              clear hb hF
              simp only [put, Nat.reduceEqDiff, reduceIte]
              go_wp2_with fail
              go_roundw
              case rel => exact ⟨ix + 1, by go_num, by omega, by omega, HBR.out.trans (HBX.out.mono HBR.out.size)⟩
              case measure => simp [intOf]; omega
#print axioms free_any
end Go.Proofs.YtpmaagafcpaajaaDoor
