/- The walk of TermSizes. -/
import Derived.Test.YtpmaagafcpaajabDoorLc
import Derived.Test.YtpmaagafcpaajabDoorLd
import Derived.Test.YtpmaagafcpaajabDoorPx
namespace Go.Proofs.YtpmaagafcpaajabDoor
open Go.RowKit
attribute [local go_sem] put

theorem c_places {f : Nat} {t : Tr} {v : Value} {n : Int} {w : World} (h : IsT f t v w) (hg : Gd f t) (hf : f ≤ 1000) (hn : 0 ≤ n ∧ n ≤ 1000) :
    Calls Tryd.prog 19 #[v, .int .i64 n] w fun e w' => e = .returned (.int .i64 (plc n 0 t : Nat)) ∧ Below w.heap.size w w' := by
  have := places_any w.heap.size f t v n 0 w h.tm (Nat.le_refl _) hg.size (by omega) (by omega)
  rwa [Int.add_zero] at this

def sizes_anyM (x0 : Value) (x1 : Value) (T U : Tr) : Nat → Value → World → (Nat → Prop) → Prop
  | 0 => fun v _ _ => v = x0
  | 1 => fun v w M => IsM 7 T v w M
  | 2 => fun v _ _ => v = x1
  | 3 => fun v w M => IsM 5 U v w M
  | _ => fun _ _ _ => True
theorem sizes_anyM.keep (x0 : Value) (x1 : Value) (T U : Tr) (k : Nat) (v : Value) (w w' : World) (M M' : Nat → Prop) (h : sizes_anyM x0 x1 T U k v w M) (hf : Fr M w w') (hM : ∀ q, q < w.heap.size → (M' q ↔ M q)) : sizes_anyM x0 x1 T U k v w' M' := by
  unfold sizes_anyM at *
  split at h <;> first | exact h | exact IsM.keep h hf hM
def sizes_F (T U : Tr) (sz uz pz xz : Nat) : Nat → Value → World → Prop
  | 0 => fun v w => IsT (7) (T) v w
  | 1 => fun v _ => v = .int .i64 ((sz : Nat))
  | 2 => fun v _ => v = .int .i64 ((sz : Nat))
  | 3 => fun v _ => v = .bool (true)
  | 4 => fun v _ => v = .bool (true)
  | 5 => fun v w => IsT (7) (T) v w
  | 6 => fun v w => IsT (7) (shf (3) (0) 0 (T)) v w
  | 7 => fun v _ => v = .int .i64 ((sz : Nat))
  | 8 => fun v _ => v = .int .i64 ((sz : Nat))
  | 9 => fun v _ => v = .bool (true)
  | 10 => fun v _ => v = .bool (true)
  | 11 => fun v _ => v = .bool (true)
  | 12 => fun v w => IsT (7) (T) v w
  | 13 => fun v w => IsT (5) (U) v w
  | 14 => fun v w => IsT (7 + 5) (sub (0) (U) 0 (T)) v w
  | 15 => fun v _ => v = .int .i64 ((xz : Nat))
  | 16 => fun v _ => v = .int .i64 ((sz : Nat))
  | 17 => fun v w => IsT (7) (T) v w
  | 18 => fun v _ => v = .int .i64 ((pz : Nat))
  | 19 => fun v w => IsT (5) (U) v w
  | 20 => fun v _ => v = .int .i64 ((uz : Nat))
  | 21 => fun v _ => v = .int .i64 (((uz : Nat) : Int) - 1)
  | 22 => fun v _ => v = .int .i64 (((pz : Nat) : Int) * (((uz : Nat) : Int) - 1))
  | 23 => fun v _ => v = .int .i64 (((sz : Nat) : Int) + ((pz : Nat) : Int) * (((uz : Nat) : Int) - 1))
  | 24 => fun v _ => v = .bool (true)
  | 25 => fun v _ => v = .bool (true)
  | 26 => fun v _ => v = .bool (true)
  | _ => fun _ _ => True
theorem sizes_F.keep (T U : Tr) (sz uz pz xz : Nat) (i : Nat) (v : Value) (w w' : World) (h : sizes_F T U sz uz pz xz i v w) (hb : Below w.heap.size w w') : sizes_F T U sz uz pz xz i v w' := by
  unfold sizes_F at *
  split at h <;> first | exact h | exact IsT.keep h hb
set_option maxRecDepth 20000 in
set_option maxHeartbeats 4000000 in
theorem sizes_any (B f : Nat) (r0 : Tr) (v0 : Value) (r1 : Tr) (v1 : Value)  (w : World) (h0 : TmAt w B f r0 v0) (h1 : TmAt w B f r1 v1) (hB : B ≤ w.heap.size) (ht : Tabs w.heap.size w) (hl : Tl w) (hb : Tb w) :
    Calls Tryd.prog 5 #[v0, v1] w fun e w' => e = .returned (.bool true) ∧ Below w.heap.size w w' := by
  have HR0 := hide (raw64_of h0)
  have H0 := hide h0
  obtain ⟨a0, z0, rfl, _, _, o0, n0⟩ := h0.shape
  clear h0
  have HR1 := hide (raw64_of h1)
  have H1 := hide h1
  obtain ⟨a1, z1, rfl, _, _, o1, n1⟩ := h1.shape
  clear h1
  have HT := hide ht; have HL := hide hl; have HTB := hide hb
  clear ht hl hb
  have HA : Hid (Below w.heap.size w ((w.alloc (.cells #[.int .i64 r0.op, .int .i64 r0.n, .slice a0 r0.kids.length z0] 39)).alloc (.cells #[.int .i64 r1.op, .int .i64 r1.n, .slice a1 r1.kids.length z1] 39))) := (((Below.refl w.heap.size w).alloc (Nat.le_refl _) _).alloc (by simp) _)
  go_enter Tryd.func5, Tryd.ntmps5
  go_wp2_with fail
  refine (known_any _ (HT.out.later HA.out) (HL.out.later HA.out)).mono ?_
  rintro e w1 ⟨rfl, hb1⟩
  obtain ⟨k0, k1, hbl, hs1⟩ := box_two hb1
  have HB1 := hide hbl; have HK0_1 := hide k0; have HK1_1 := hide k1
  clear hb1 hbl k0 k1
  obtain ⟨c0, c1, c2⟩ := blk3 HK0_1.out
  go_wp2_with fail
  refine (few_any B f r0 _ w1 (TmAt.below H0.out HB1.out hB (Nat.le_refl _)) (Nat.le_trans hB HB1.out.size)).mono ?_
  rintro e w2 ⟨rfl, hb2⟩
  have HB2 : Hid (Below w.heap.size w w2) := HB1.out.trans (hb2.mono HB1.out.size)
  have hs2 := hb2.size
  have HK0_2 := hide ((hb2.block _ (size_of_block HK0_1.out)).trans HK0_1.out)
  have HK1_2 := hide ((hb2.block _ (size_of_block HK1_1.out)).trans HK1_1.out)
  clear hb2 c0 c1 c2 HK0_1 HK1_1
  by_cases hq0 : r0.size < 300
  rotate_left
  · rw [decide_eq_false hq0]
    go_wp2_with fail
    go_ret
    exact ⟨rfl, HB2.out⟩
  rw [decide_eq_true hq0]
  obtain ⟨c0, c1, c2⟩ := blk3 HK1_2.out
  go_wp2_with fail
  refine (few_any B f r1 _ w2 (TmAt.below H1.out HB2.out hB (Nat.le_refl _)) (Nat.le_trans hB HB2.out.size)).mono ?_
  rintro e w3 ⟨rfl, hb3⟩
  have HB3 : Hid (Below w.heap.size w w3) := HB2.out.trans (hb3.mono HB2.out.size)
  have hs3 := hb3.size
  have HK0_3 := hide ((hb3.block _ (size_of_block HK0_2.out)).trans HK0_2.out)
  have HK1_3 := hide ((hb3.block _ (size_of_block HK1_2.out)).trans HK1_2.out)
  clear hb3 c0 c1 c2 HK0_2 HK1_2
  by_cases hq1 : r1.size < 300
  rotate_left
  · rw [decide_eq_false hq1]
    go_wp2_with fail
    go_ret
    exact ⟨rfl, HB3.out⟩
  rw [decide_eq_true hq1]
  go_wp2_with fail
  have HR0T : Hid (TmAt w3 w3.heap.size f r0 (.agg #[.int .i64 r0.op, .int .i64 r0.n, .slice a0 r0.kids.length z0])) := TmAt.below H0.out HB3.out hB (Nat.le_trans hB HB3.out.size)
  have HR1T : Hid (TmAt w3 w3.heap.size f r1 (.agg #[.int .i64 r1.op, .int .i64 r1.n, .slice a1 r1.kids.length z1])) := TmAt.below H1.out HB3.out hB (Nat.le_trans hB HB3.out.size)
  refine wp_region_boxes (by kernel_rfl) (by kernel_rfl) (fun vs => { tmps := #[Value.agg #[Value.int IntKind.i64 r0.op, Value.int IntKind.i64 r0.n, Value.slice a0 r0.kids.length z0], Value.agg #[Value.int IntKind.i64 r1.op, Value.int IntKind.i64 r1.n, Value.slice a1 r1.kids.length z1], Value.pointer (some { block := w.heap.size, off := 0 }), Value.pointer (some { block := w.heap.size + 1, off := 0 }), Value.bool false, vs 4, vs 5, undef, undef, Value.bool true, Value.bool false, Value.agg #[Value.int IntKind.i64 r0.op, Value.int IntKind.i64 r0.n, Value.slice a0 r0.kids.length z0], Value.bool true, Value.bool false, Value.bool false, Value.agg #[Value.int IntKind.i64 r1.op, Value.int IntKind.i64 r1.n, Value.slice a1 r1.kids.length z1], Value.bool true, Value.bool false, Value.bool false, vs 0, vs 1, vs 2, vs 3, undef, undef, undef, undef, undef, undef, undef, undef, undef, undef, undef, undef, undef, undef, undef, undef, undef, undef, undef, undef, undef, undef, undef, undef, undef, undef, undef, undef, undef, undef, undef, undef, undef, undef, undef, undef, undef, undef, undef, undef, undef], defers := [] }) (fun i => [undef, undef, undef, undef, undef, undef, undef, undef].getD i undef) [(4, 1, 6), (5, 3, 7)] (by decide) #[.int .i64 0, .int .i64 0, .slice none 0 0] 26 (sizes_anyM (.agg #[.int .i64 r0.op, .int .i64 r0.n, .slice a0 r0.kids.length z0]) (.agg #[.int .i64 r1.op, .int .i64 r1.n, .slice a1 r1.kids.length z1]) (mkT 6 2 r0) (mkT 4 2 r1)) (sizes_anyM.keep (.agg #[.int .i64 r0.op, .int .i64 r0.n, .slice a0 r0.kids.length z0]) (.agg #[.int .i64 r1.op, .int .i64 r1.n, .slice a1 r1.kids.length z1]) (mkT 6 2 r0) (mkT 4 2 r1)) ?_ ?_
  · refine ⟨⟨fun _ => ?_, fun x hx h => absurd h (by revert x; decide), fun x hx h => absurd h (by revert x; decide)⟩, ⟨fun _ => ?_, fun x hx h => absurd h (by revert x; decide), fun x hx h => absurd h (by revert x; decide)⟩, ⟨fun _ => ?_, fun x hx h => absurd h (by revert x; decide), fun x hx h => absurd h (by revert x; decide)⟩, ⟨fun _ => ?_, fun x hx h => absurd h (by revert x; decide), fun x hx h => absurd h (by revert x; decide)⟩, ⟨fun h => absurd h (by unfold Plainly; decide), fun x hx h => ?_, fun x hx h => absurd h (by revert x; decide)⟩, ⟨fun h => absurd h (by unfold Plainly; decide), fun x hx h => ?_, fun x hx h => absurd h (by revert x; decide)⟩, ⟨fun h => absurd h (by unfold Plainly; decide), fun x hx h => absurd h (by revert x; decide), fun x hx h => ?_⟩, ⟨fun h => absurd h (by unfold Plainly; decide), fun x hx h => absurd h (by revert x; decide), fun x hx h => ?_⟩, trivial⟩
    · intro vs wx M K hb hd hM hK
      obtain ⟨c0, c1, c2⟩ := cells3' hb HK0_3.out
      clear hb hd
      go_simp
      exact hK _ _ (Below.refl _ _) rfl
    · intro vs wx M K hb hd hM hK
      obtain ⟨vs, rfl⟩ := put_of (show vs 0 = _ from hd ⟨0, .data⟩ (by simp) rfl (by unfold Plainly; decide))
      have HBX := hide hb; have HM := hide hM
      clear hb hd hM
      go_simp
      refine (c_make (d := 6) M (fun q hq => (HM.out q hq).2) (TmAt.below HR0T.out HBX.out (Nat.le_refl _) (Nat.le_refl _)) HBX.out.size (by decide) (by decide) (by decide)).mono ?_
      rintro e w7 ⟨u, rfl, hu, hb7⟩
      exact hK _ _ hb7 hu
    · intro vs wx M K hb hd hM hK
      obtain ⟨c0, c1, c2⟩ := cells3' hb HK1_3.out
      clear hb hd
      go_simp
      exact hK _ _ (Below.refl _ _) rfl
    · intro vs wx M K hb hd hM hK
      obtain ⟨vs, rfl⟩ := put_of (show vs 2 = _ from hd ⟨2, .data⟩ (by simp) rfl (by unfold Plainly; decide))
      have HBX := hide hb; have HM := hide hM
      clear hb hd hM
      go_simp
      refine (c_make (d := 4) M (fun q hq => (HM.out q hq).2) (TmAt.below HR1T.out HBX.out (Nat.le_refl _) (Nat.le_refl _)) HBX.out.size (by decide) (by decide) (by decide)).mono ?_
      rintro e w7 ⟨u, rfl, hu, hb7⟩
      exact hK _ _ hb7 hu
    · intro vs wx K hK
      clear hx h
      go_simp
      exact hK
    · intro vs wx K hK
      clear hx h
      go_simp
      exact hK
    · obtain rfl : x = (4, 1, 6) := (by revert h; revert x; decide)
      refine ⟨⟨⟨4, .data⟩, by simp, rfl, rfl⟩, ⟨⟨1, .data⟩, by simp, rfl, rfl⟩, ?_⟩
      intro vs wx M K q hF hq hz hK
      obtain ⟨p0, p1, pa, pl, pc, e1, _⟩ := (show IsM _ _ _ _ _ from hF)
      obtain ⟨vs, rfl⟩ := put_of (show vs 1 = _ from e1)
      obtain ⟨vs, rfl⟩ := put_of (show vs 4 = _ from hq)
      obtain ⟨y0, y1, y2⟩ := blk3 hz
      obtain ⟨z0, z1, z2⟩ := frz3 hz
      have HZ := hide hz
      clear hF hq hz hx h e1
      go_simp
      exact hK _ _ (fr_put3 _ _ _ _ _) (put3_blk HZ.out _ _ _) rfl
    · obtain rfl : x = (5, 3, 7) := (by revert h; revert x; decide)
      refine ⟨⟨⟨5, .data⟩, by simp, rfl, rfl⟩, ⟨⟨3, .data⟩, by simp, rfl, rfl⟩, ?_⟩
      intro vs wx M K q hF hq hz hK
      obtain ⟨p0, p1, pa, pl, pc, e1, _⟩ := (show IsM _ _ _ _ _ from hF)
      obtain ⟨vs, rfl⟩ := put_of (show vs 3 = _ from e1)
      obtain ⟨vs, rfl⟩ := put_of (show vs 5 = _ from hq)
      obtain ⟨y0, y1, y2⟩ := blk3 hz
      obtain ⟨z0, z1, z2⟩ := frz3 hz
      have HZ := hide hz
      clear hF hq hz hx h e1
      go_simp
      exact hK _ _ (fr_put3 _ _ _ _ _) (put3_blk HZ.out _ _ _) rfl
  · intro vs wx M hb hF hB
    obtain ⟨q0, cs0, b0, l0, m0, h0, g0⟩ := hB (4, 1, 6) (by simp) (by decide) (by decide)
    obtain ⟨t00, t01, t0a, t0l, t0c, rfl, tm0⟩ := (show IsM _ _ _ _ _ from hF 1 (by decide) (by unfold Plainly; decide)).box g0
    obtain ⟨vs, rfl⟩ := put_of (show vs 4 = _ from b0)
    obtain ⟨q1, cs1, b1, l1, m1, h1, g1⟩ := hB (5, 3, 7) (by simp) (by decide) (by decide)
    obtain ⟨t10, t11, t1a, t1l, t1c, rfl, tm1⟩ := (show IsM _ _ _ _ _ from hF 3 (by decide) (by unfold Plainly; decide)).box g1
    obtain ⟨vs, rfl⟩ := put_of (show vs 5 = _ from b1)
    have HBX := hide hb; have HKT := hide h0; have HTT := hide tm0; have HKU := hide h1; have HTU := hide tm1
    clear hb hF hB h0 tm0 g0 h1 tm1 g1
    have HBW : Hid (Below w.heap.size w wx) := HB3.out.trans (HBX.out.mono HB3.out.size)
    have G0 := hide (Gd.mk' (d := 6) (vars := 2) HR0.out (by decide) (by decide) (by decide))
    obtain ⟨T, hT⟩ : ∃ T, T = mkT 6 2 r0 := ⟨_, rfl⟩
    have HET := hide hT
    rw [← hT] at G0 HTT
    clear hT
    have G1 := hide (Gd.mk' (d := 4) (vars := 2) HR1.out (by decide) (by decide) (by decide))
    obtain ⟨U, hU⟩ : ∃ U, U = mkT 4 2 r1 := ⟨_, rfl⟩
    have HEU := hide hU
    rw [← hU] at G1 HTU
    clear hU
    clear HK0_3 HR0T HK1_3 HR1T HBX HA
    simp only [put, Nat.reduceEqDiff, reduceIte, ptr]
    clear b0 b1
    generalize vs 0 = s0; generalize vs 1 = s1; generalize vs 2 = s2; generalize vs 3 = s3
    clear vs
    have GT := hide G0.out.1; have GU := hide G1.out.1
    have ST : Hid (Snd 3000 T) := hide G0.out.2.1.snd
    have SU : Hid (Snd 3000 U) := hide G1.out.2.1.snd
    have Z1 : Hid (T.size + U.size * cnt (fun x => decide (x = 0)) 0 T ≤ 8388608) := hide (fit_le G0.out.2.2 G1.out.2.2 (by decide))
    have ZX : Hid (Gd 12 (sub (0) (U) 0 (T))) := hide ⟨by
      have h1 := size_sub_le 0 U 0 T ST.out
      have h2 : T.lvs ≤ 4096 := by rw [HET.out]; exact mk_lvs 6 2 r0
      have h3 := Nat.mul_le_mul h2 G1.out.2.2
      have h4 : T.size ≤ 5461 := G0.out.2.2
      have h5 : most 4 = 341 := by decide
      omega, by decide, (snd_sub (by decide) (Int.le_refl _) SU.out ST.out (by have h4 : T.size ≤ 5461 := G0.out.2.2; omega)).more (by decide)⟩
    have GSH : Hid (Gd 7 (shf (3) (0) 0 (T))) := hide (GT.out.shf (ST.out.more (by decide)) (by omega) 0)
    have HTB' : Hid (Tb wx) := hide (HTB.out.later HBW.out)
    have ESZ : Hid ((sub (0) (U) 0 (T)).size + plc 0 0 T = T.size + plc 0 0 T * U.size) := hide (size_sub 0 U 0 T ST.out)
    have ZT : Hid (T.size ≤ 5461) := hide G0.out.2.2
    have ZU : Hid (U.size ≤ 341) := hide G1.out.2.2
    have ZP : Hid (plc 0 0 T ≤ 5461) := hide (Nat.le_trans (plc_size 0 T 0) ZT.out)
    clear G0 G1
    obtain ⟨tp, tn, tks, rfl⟩ : ∃ o n ks, T = ⟨o, n, ks⟩ := ⟨T.op, T.n, T.kids, (Tr.eta T).symm⟩
    have HSH := hide HTT.out
    obtain ⟨ta', tc', hval, _, _, hrow⟩ := HSH.out
    have hvl : t0a = ta' ∧ t0l = tks.length ∧ t0c = tc' := by
      simp only [Value.agg.injEq, Array.mk.injEq, List.cons.injEq, Value.slice.injEq, and_true] at hval
      exact ⟨hval.2.2.1, hval.2.2.2.1, hval.2.2.2.2⟩
    obtain ⟨rfl, rfl, rfl⟩ := hvl
    have HROW := hide hrow
    have hlm : tks.length ≤ maxLen := Nat.le_trans hrow.1 hrow.2.1
    unfold maxLen at hlm
    clear hrow hval HSH
    obtain ⟨c0, c1, c2⟩ := blk3 HKT.out
    go_wp2_with fail
    go_loopw [7, 8] (fun s i wr => ∃ k : Nat, k ≤ tks.length ∧ i = .int .i64 k ∧ s = .int .i64 (szTo ⟨tp, tn, tks⟩ k : Nat) ∧ Hid (Below wx.heap.size wx wr)) (fun _ i _ => tks.length - (intOf i).toNat)
    case atStart => exact ⟨0, Nat.zero_le _, rfl, rfl, Below.refl _ _⟩
    case round =>
      obtain ⟨k, hk, rfl, rfl, HBR⟩ := hrel
      clear c0 c1 c2
      obtain ⟨c0, c1, c2⟩ := cells3' HBR.out HKT.out
      by_cases hlt : k < tks.length
      · obtain ⟨b, off, ka, kc, rfl, hbB, f0, f1, f2, hr⟩ := HROW.out.form hlt
        have e0 := (HBR.out.cell (p := ⟨b, off + k * 3, none⟩) hbB).trans f0
        have e1 := (HBR.out.cell (p := ⟨b, off + k * 3 + 1, none⟩) hbB).trans f1
        have e2 := (HBR.out.cell (p := ⟨b, off + k * 3 + 2, none⟩) hbB).trans f2
        have HS := hide (szTo_succ ⟨tp, tn, tks⟩ k hlt)
        have HL := hide (szTo_le ⟨tp, tn, tks⟩ (k + 1))
        have GK : Hid (Gd 6 tks[k]) := hide ⟨by have h1 := Tr.kid_size (t := ⟨tp, tn, tks⟩) (List.getElem_mem hlt); have := GT.out.size; omega, by decide, GT.out.snd.kid (List.getElem_mem hlt)⟩
        have HRK := hide hr
        clear f0 f1 f2 hr
        obtain ⟨p, hp⟩ : ∃ p, p = tks[k] := ⟨_, rfl⟩
        have HS' : Hid (szTo ⟨tp, tn, tks⟩ (k + 1) = szTo ⟨tp, tn, tks⟩ k + p.size) := hide (by rw [hp]; exact HS.out)
        rw [← hp] at e0 e1 e2 GK HRK
        clear hp HS
        obtain ⟨c, hc⟩ : ∃ c : Nat, c = szTo ⟨tp, tn, tks⟩ k := ⟨_, rfl⟩
        rw [← hc] at HS' ⊢
        clear hc
        obtain ⟨c3, hc3⟩ : ∃ c3 : Nat, c3 = p.size := ⟨_, rfl⟩
        have hw2 : (c : Int) + (c3 : Int) ≤ 5461 := by have h1 := HS'.out; have h2 := HL.out; have h3 := ZT.out; rw [← hc3] at h1; omega
        go_wp2_with fail
        refine (c_size (f := 6) (IsT.of (TmAt.below HRK.out HBR.out (Nat.le_refl _) HBR.out.size)) GK.out).mono ?_
        rintro e w5 ⟨rfl, hb5⟩
        rw [← hc3]
        rw [← hc3] at HS'
        have HB5 : Hid (Below wx.heap.size wx w5) := HBR.out.trans (hb5.mono HBR.out.size)
        clear hb5 hc3
        go_wp2_with fail
        go_roundw
        case rel => exact ⟨k + 1, by omega, by go_num, by rw [HS'.out, Int.natCast_add], HB5.out⟩
        case measure => simp [intOf]; omega
      · have hke : k = tks.length := by omega
        subst hke
        go_wp2_with fail
        have HSE : Hid (szTo ⟨tp, tn, tks⟩ tks.length = (⟨tp, tn, tks⟩ : Tr).size) := hide (szTo_end ⟨tp, tn, tks⟩)
        rw [HSE.out]
        clear HROW
        generalize (⟨tp, tn, tks⟩ : Tr) = T at *
        clear c0 c1 c2
        have HKT2 := hide ((HBR.out.block _ (size_of_block HKT.out)).trans HKT.out)
        have HTT2 : Hid (TmAt wr wr.heap.size 7 T _) := hide (TmAt.below HTT.out HBR.out (Nat.le_refl _) HBR.out.size)
        clear HKT HTT
        have HKU2 := hide ((HBR.out.block _ (size_of_block HKU.out)).trans HKU.out)
        have HTU2 : Hid (TmAt wr wr.heap.size 5 U _) := hide (TmAt.below HTU.out HBR.out (Nat.le_refl _) HBR.out.size)
        clear HKU HTU
        have HTB2 := hide (HTB'.out.later HBR.out)
        have HB2 : Hid (Below w.heap.size w wr) := HBW.out.trans (HBR.out.mono HBW.out.size)
        obtain ⟨sz, hsz⟩ : ∃ sz : Nat, sz = T.size := ⟨_, rfl⟩
        obtain ⟨uz, huz⟩ : ∃ uz : Nat, uz = U.size := ⟨_, rfl⟩
        obtain ⟨pz, hpz⟩ : ∃ pz : Nat, pz = plc 0 0 T := ⟨_, rfl⟩
        obtain ⟨xz, hxz⟩ : ∃ xz : Nat, xz = (sub (0) (U) 0 (T)).size := ⟨_, rfl⟩
        have HSZ : Hid (T.size = sz) := hide hsz.symm
        have HUZ : Hid (U.size = uz) := hide huz.symm
        have HPZ : Hid (plc 0 0 T = pz) := hide hpz.symm
        have HXZ : Hid ((sub (0) (U) 0 (T)).size = xz) := hide hxz.symm
        have HSS : Hid ((shf (3) (0) 0 (T)).size = sz) := hide (by rw [shf_size]; exact hsz.symm)
        rw [← hsz]
        clear hsz huz hpz hxz
        have hz1 : (uz : Int) ≤ 341 := by have := ZU.out; rw [HUZ.out] at this; omega
        have hz2 : (pz : Int) ≤ 5461 := by have := ZP.out; rw [HPZ.out] at this; omega
        have hz3 : (sz : Int) ≤ 5461 := by have := ZT.out; rw [HSZ.out] at this; omega
        have huz1 : 1 ≤ (uz : Int) := by have := U.size_pos; rw [HUZ.out] at this; omega
        have hmul : 0 ≤ (pz : Int) * ((uz : Int) - 1) ∧ (pz : Int) * ((uz : Int) - 1) ≤ 5461 * 341 := ⟨Int.mul_nonneg (by omega) (by omega), Int.le_trans (Int.mul_le_mul_of_nonneg_right hz2 (by omega)) (Int.mul_le_mul_of_nonneg_left (by omega) (by decide))⟩
        have hw1 : IntKind.i64.wrap ((uz : Int) - 1) = (uz : Int) - 1 := by rw [IntKind.wrap_i64]; omega
        have hw2 : IntKind.i64.wrap ((pz : Int) * ((uz : Int) - 1)) = (pz : Int) * ((uz : Int) - 1) := by rw [IntKind.wrap_i64]; omega
        have hw3 : IntKind.i64.wrap ((sz : Int) + (pz : Int) * ((uz : Int) - 1)) = (sz : Int) + (pz : Int) * ((uz : Int) - 1) := by rw [IntKind.wrap_i64]; omega
        have hxe : (xz : Int) = (sz : Int) + (pz : Int) * ((uz : Int) - 1) := by
          have h := ESZ.out
          rw [HSZ.out, HUZ.out, HPZ.out, HXZ.out] at h
          have h2 : ((xz + pz : Nat) : Int) = ((sz + pz * uz : Nat) : Int) := by rw [h]
          rw [Int.natCast_add, Int.natCast_add, Int.natCast_mul] at h2
          rw [Int.mul_sub, Int.mul_one]
          omega
        have HXE : Hid (((xz : Int) == (sz : Int) + (pz : Int) * ((uz : Int) - 1)) = true) := hide (by rw [hxe]; exact beq_self_eq_true _)
        clear hxe hmul
        refine wp_region_vals (by kernel_rfl) (by kernel_rfl) (fun vs => { tmps := #[Value.agg #[Value.int IntKind.i64 r0.op, Value.int IntKind.i64 r0.n, Value.slice a0 r0.kids.length z0], Value.agg #[Value.int IntKind.i64 r1.op, Value.int IntKind.i64 r1.n, Value.slice a1 r1.kids.length z1], Value.pointer (some { block := w.heap.size, off := 0 }), Value.pointer (some { block := w.heap.size + 1, off := 0 }), vs 26, Value.pointer (some { block := q0, off := 0 }), Value.pointer (some { block := q1, off := 0 }), Value.int IntKind.i64 ↑sz, Value.int IntKind.i64 ↑tks.length, Value.bool true, Value.bool false, Value.agg #[Value.int IntKind.i64 r0.op, Value.int IntKind.i64 r0.n, Value.slice a0 r0.kids.length z0], Value.bool true, Value.bool false, Value.bool false, Value.agg #[Value.int IntKind.i64 r1.op, Value.int IntKind.i64 r1.n, Value.slice a1 r1.kids.length z1], Value.bool true, Value.bool false, Value.bool false, s0, s1, s2, s3, Value.int IntKind.i64 ↑tks.length, Value.pointer (some { block := q0, off := 2 }), Value.slice t0a tks.length t0c, Value.int IntKind.i64 ↑tks.length, Value.bool false, u28, u29, u30, u31, u32, u33, u34, u35, u36, u37, vs 0, vs 1, vs 2, vs 3, vs 4, vs 5, vs 6, vs 7, vs 8, vs 9, vs 10, vs 11, vs 12, vs 13, vs 14, vs 15, vs 16, vs 17, vs 18, vs 19, vs 20, vs 21, vs 22, vs 23, vs 24, vs 25], defers := [] }) (fun i => [undef, undef, undef, undef, undef, undef, undef, undef, undef, undef, undef, undef, undef, undef, undef, undef, undef, undef, undef, undef, undef, undef, undef, undef, undef, undef, Value.bool false].getD i undef) (sizes_F T U sz uz pz xz) (sizes_F.keep T U sz uz pz xz) ?_ ?_
        · refine ⟨?_, ?_, ?_, ?_, ?_, ?_, ?_, ?_, ?_, ?_, ?_, ?_, ?_, ?_, ?_, ?_, ?_, ?_, ?_, ?_, ?_, ?_, ?_, ?_, ?_, ?_, ?_, trivial⟩
          · intro vs wx K hb hd hK
            obtain ⟨c0, c1, c2⟩ := cells3' hb HKT2.out
            have HBX := hide hb
            clear hb hd
            go_simp
            exact hK _ _ (Below.refl _ _) ⟨_, _, _, _, _, rfl, TmAt.below HTT2.out HBX.out (Nat.le_refl _) HBX.out.size⟩
          · intro vs wx K hb hd hK
            have tm0 := hd ⟨0, .data⟩ (by simp) rfl
            have HX0 := hide tm0
            obtain ⟨p0_0, p1_0, pa_0, pl_0, pc_0, e0, _⟩ := tm0
            rw [e0] at HX0
            obtain ⟨vs, rfl⟩ := put_of (show vs 0 = _ from e0)
            clear e0
            have HBX := hide hb
            clear hb hd
            go_simp
            refine (c_size HX0.out GT.out).mono ?_
            rintro e w7 ⟨rfl, hb7⟩
            rw [HSZ.out]
            exact hK _ _ hb7 rfl
          · intro vs wx K hb hd hK
            have HBX := hide hb
            clear hb hd
            go_simp
            exact hK _ _ (Below.refl _ _) rfl
          · intro vs wx K hb hd hK
            obtain ⟨vs, rfl⟩ := put_of (show vs 1 = _ from hd ⟨1, .data⟩ (by simp) rfl)
            obtain ⟨vs, rfl⟩ := put_of (show vs 2 = _ from hd ⟨2, .data⟩ (by simp) rfl)
            have HBX := hide hb
            clear hb hd
            go_simp
            exact hK _ _ (Below.refl _ _) rfl
          · intro vs wx K hb hd hK
            obtain ⟨vs, rfl⟩ := put_of (show vs 3 = _ from hd ⟨3, .data⟩ (by simp) rfl)
            have HBX := hide hb
            clear hb hd
            go_simp
            exact hK _ _ (Below.refl _ _) rfl
          · intro vs wx K hb hd hK
            obtain ⟨vs, rfl⟩ := put_of (show vs 4 = _ from hd ⟨4, .guard⟩ (by simp) rfl)
            obtain ⟨c0, c1, c2⟩ := cells3' hb HKT2.out
            have HBX := hide hb
            clear hb hd
            go_simp
            exact hK _ _ (Below.refl _ _) ⟨_, _, _, _, _, rfl, TmAt.below HTT2.out HBX.out (Nat.le_refl _) HBX.out.size⟩
          · intro vs wx K hb hd hK
            have tm5 := hd ⟨5, .data⟩ (by simp) rfl
            have HX5 := hide tm5
            obtain ⟨p0_5, p1_5, pa_5, pl_5, pc_5, e5, _⟩ := tm5
            rw [e5] at HX5
            obtain ⟨vs, rfl⟩ := put_of (show vs 5 = _ from e5)
            obtain ⟨vs, rfl⟩ := put_of (show vs 4 = _ from hd ⟨4, .guard⟩ (by simp) rfl)
            clear e5
            have HBX := hide hb
            clear hb hd
            go_simp
            refine (c_shift HX5.out GT.out (HTB2.out.later HBX.out) (by omega) (by omega)).mono ?_
            rintro e w7 ⟨u, rfl, hu, hb7⟩
            exact hK _ _ hb7 hu
          · intro vs wx K hb hd hK
            have tm6 := hd ⟨6, .data⟩ (by simp) rfl
            have HX6 := hide tm6
            obtain ⟨p0_6, p1_6, pa_6, pl_6, pc_6, e6, _⟩ := tm6
            rw [e6] at HX6
            obtain ⟨vs, rfl⟩ := put_of (show vs 6 = _ from e6)
            obtain ⟨vs, rfl⟩ := put_of (show vs 4 = _ from hd ⟨4, .guard⟩ (by simp) rfl)
            clear e6
            have HBX := hide hb
            clear hb hd
            go_simp
            refine (c_size HX6.out GSH.out).mono ?_
            rintro e w7 ⟨rfl, hb7⟩
            rw [HSS.out]
            exact hK _ _ hb7 rfl
          · intro vs wx K hb hd hK
            obtain ⟨vs, rfl⟩ := put_of (show vs 4 = _ from hd ⟨4, .guard⟩ (by simp) rfl)
            have HBX := hide hb
            clear hb hd
            go_simp
            exact hK _ _ (Below.refl _ _) rfl
          · intro vs wx K hb hd hK
            obtain ⟨vs, rfl⟩ := put_of (show vs 7 = _ from hd ⟨7, .data⟩ (by simp) rfl)
            obtain ⟨vs, rfl⟩ := put_of (show vs 8 = _ from hd ⟨8, .data⟩ (by simp) rfl)
            obtain ⟨vs, rfl⟩ := put_of (show vs 4 = _ from hd ⟨4, .guard⟩ (by simp) rfl)
            have HBX := hide hb
            clear hb hd
            go_simp
            exact hK _ _ (Below.refl _ _) rfl
          · intro vs wx K hb hd hK
            obtain ⟨vs, rfl⟩ := put_of (show vs 4 = _ from hd ⟨4, .data⟩ (by simp) rfl)
            obtain ⟨vs, rfl⟩ := put_of (show vs 9 = _ from hd ⟨9, .data⟩ (by simp) rfl)
            have HBX := hide hb
            clear hb hd
            go_simp
            exact hK _ _ (Below.refl _ _) rfl
          · intro vs wx K hb hd hK
            obtain ⟨vs, rfl⟩ := put_of (show vs 10 = _ from hd ⟨10, .data⟩ (by simp) rfl)
            have HBX := hide hb
            clear hb hd
            go_simp
            exact hK _ _ (Below.refl _ _) rfl
          · intro vs wx K hb hd hK
            obtain ⟨vs, rfl⟩ := put_of (show vs 11 = _ from hd ⟨11, .guard⟩ (by simp) rfl)
            obtain ⟨c0, c1, c2⟩ := cells3' hb HKT2.out
            have HBX := hide hb
            clear hb hd
            go_simp
            exact hK _ _ (Below.refl _ _) ⟨_, _, _, _, _, rfl, TmAt.below HTT2.out HBX.out (Nat.le_refl _) HBX.out.size⟩
          · intro vs wx K hb hd hK
            obtain ⟨vs, rfl⟩ := put_of (show vs 11 = _ from hd ⟨11, .guard⟩ (by simp) rfl)
            obtain ⟨c0, c1, c2⟩ := cells3' hb HKU2.out
            have HBX := hide hb
            clear hb hd
            go_simp
            exact hK _ _ (Below.refl _ _) ⟨_, _, _, _, _, rfl, TmAt.below HTU2.out HBX.out (Nat.le_refl _) HBX.out.size⟩
          · intro vs wx K hb hd hK
            have tm12 := hd ⟨12, .data⟩ (by simp) rfl
            have HX12 := hide tm12
            obtain ⟨p0_12, p1_12, pa_12, pl_12, pc_12, e12, _⟩ := tm12
            rw [e12] at HX12
            have tm13 := hd ⟨13, .data⟩ (by simp) rfl
            have HX13 := hide tm13
            obtain ⟨p0_13, p1_13, pa_13, pl_13, pc_13, e13, _⟩ := tm13
            rw [e13] at HX13
            obtain ⟨vs, rfl⟩ := put_of (show vs 12 = _ from e12)
            obtain ⟨vs, rfl⟩ := put_of (show vs 13 = _ from e13)
            obtain ⟨vs, rfl⟩ := put_of (show vs 11 = _ from hd ⟨11, .guard⟩ (by simp) rfl)
            clear e12 e13
            have HBX := hide hb
            clear hb hd
            go_simp
            refine (c_subst HX12.out HX13.out GT.out GU.out (HTB2.out.later HBX.out) Z1.out (by omega)).mono ?_
            rintro e w7 ⟨u, rfl, hu, hb7⟩
            exact hK _ _ hb7 hu
          · intro vs wx K hb hd hK
            have tm14 := hd ⟨14, .data⟩ (by simp) rfl
            have HX14 := hide tm14
            obtain ⟨p0_14, p1_14, pa_14, pl_14, pc_14, e14, _⟩ := tm14
            rw [e14] at HX14
            obtain ⟨vs, rfl⟩ := put_of (show vs 14 = _ from e14)
            obtain ⟨vs, rfl⟩ := put_of (show vs 11 = _ from hd ⟨11, .guard⟩ (by simp) rfl)
            clear e14
            have HBX := hide hb
            clear hb hd
            go_simp
            refine (c_size HX14.out ZX.out).mono ?_
            rintro e w7 ⟨rfl, hb7⟩
            rw [HXZ.out]
            exact hK _ _ hb7 rfl
          · intro vs wx K hb hd hK
            obtain ⟨vs, rfl⟩ := put_of (show vs 11 = _ from hd ⟨11, .guard⟩ (by simp) rfl)
            have HBX := hide hb
            clear hb hd
            go_simp
            exact hK _ _ (Below.refl _ _) rfl
          · intro vs wx K hb hd hK
            obtain ⟨vs, rfl⟩ := put_of (show vs 11 = _ from hd ⟨11, .guard⟩ (by simp) rfl)
            obtain ⟨c0, c1, c2⟩ := cells3' hb HKT2.out
            have HBX := hide hb
            clear hb hd
            go_simp
            exact hK _ _ (Below.refl _ _) ⟨_, _, _, _, _, rfl, TmAt.below HTT2.out HBX.out (Nat.le_refl _) HBX.out.size⟩
          · intro vs wx K hb hd hK
            have tm17 := hd ⟨17, .data⟩ (by simp) rfl
            have HX17 := hide tm17
            obtain ⟨p0_17, p1_17, pa_17, pl_17, pc_17, e17, _⟩ := tm17
            rw [e17] at HX17
            obtain ⟨vs, rfl⟩ := put_of (show vs 17 = _ from e17)
            obtain ⟨vs, rfl⟩ := put_of (show vs 11 = _ from hd ⟨11, .guard⟩ (by simp) rfl)
            clear e17
            have HBX := hide hb
            clear hb hd
            go_simp
            refine (c_places HX17.out GT.out (by decide) (by decide)).mono ?_
            rintro e w7 ⟨rfl, hb7⟩
            rw [HPZ.out]
            exact hK _ _ hb7 rfl
          · intro vs wx K hb hd hK
            obtain ⟨vs, rfl⟩ := put_of (show vs 11 = _ from hd ⟨11, .guard⟩ (by simp) rfl)
            obtain ⟨c0, c1, c2⟩ := cells3' hb HKU2.out
            have HBX := hide hb
            clear hb hd
            go_simp
            exact hK _ _ (Below.refl _ _) ⟨_, _, _, _, _, rfl, TmAt.below HTU2.out HBX.out (Nat.le_refl _) HBX.out.size⟩
          · intro vs wx K hb hd hK
            have tm19 := hd ⟨19, .data⟩ (by simp) rfl
            have HX19 := hide tm19
            obtain ⟨p0_19, p1_19, pa_19, pl_19, pc_19, e19, _⟩ := tm19
            rw [e19] at HX19
            obtain ⟨vs, rfl⟩ := put_of (show vs 19 = _ from e19)
            obtain ⟨vs, rfl⟩ := put_of (show vs 11 = _ from hd ⟨11, .guard⟩ (by simp) rfl)
            clear e19
            have HBX := hide hb
            clear hb hd
            go_simp
            refine (c_size HX19.out GU.out).mono ?_
            rintro e w7 ⟨rfl, hb7⟩
            rw [HUZ.out]
            exact hK _ _ hb7 rfl
          · intro vs wx K hb hd hK
            obtain ⟨vs, rfl⟩ := put_of (show vs 20 = _ from hd ⟨20, .data⟩ (by simp) rfl)
            obtain ⟨vs, rfl⟩ := put_of (show vs 11 = _ from hd ⟨11, .guard⟩ (by simp) rfl)
            have HBX := hide hb
            clear hb hd
            go_simp
            exact hK _ _ (Below.refl _ _) rfl
          · intro vs wx K hb hd hK
            obtain ⟨vs, rfl⟩ := put_of (show vs 18 = _ from hd ⟨18, .data⟩ (by simp) rfl)
            obtain ⟨vs, rfl⟩ := put_of (show vs 21 = _ from hd ⟨21, .data⟩ (by simp) rfl)
            obtain ⟨vs, rfl⟩ := put_of (show vs 11 = _ from hd ⟨11, .guard⟩ (by simp) rfl)
            have HBX := hide hb
            clear hb hd
            go_simp
            exact hK _ _ (Below.refl _ _) rfl
          · intro vs wx K hb hd hK
            obtain ⟨vs, rfl⟩ := put_of (show vs 16 = _ from hd ⟨16, .data⟩ (by simp) rfl)
            obtain ⟨vs, rfl⟩ := put_of (show vs 22 = _ from hd ⟨22, .data⟩ (by simp) rfl)
            obtain ⟨vs, rfl⟩ := put_of (show vs 11 = _ from hd ⟨11, .guard⟩ (by simp) rfl)
            have HBX := hide hb
            clear hb hd
            go_simp
            exact hK _ _ (Below.refl _ _) rfl
          · intro vs wx K hb hd hK
            obtain ⟨vs, rfl⟩ := put_of (show vs 15 = _ from hd ⟨15, .data⟩ (by simp) rfl)
            obtain ⟨vs, rfl⟩ := put_of (show vs 23 = _ from hd ⟨23, .data⟩ (by simp) rfl)
            obtain ⟨vs, rfl⟩ := put_of (show vs 11 = _ from hd ⟨11, .guard⟩ (by simp) rfl)
            have HBX := hide hb
            clear hb hd
            go_simp
            exact hK _ _ (Below.refl _ _) (congrArg Value.bool HXE.out)
          · intro vs wx K hb hd hK
            obtain ⟨vs, rfl⟩ := put_of (show vs 11 = _ from hd ⟨11, .data⟩ (by simp) rfl)
            obtain ⟨vs, rfl⟩ := put_of (show vs 24 = _ from hd ⟨24, .data⟩ (by simp) rfl)
            have HBX := hide hb
            clear hb hd
            go_simp
            exact hK _ _ (Below.refl _ _) rfl
          · intro vs wx K hb hd hK
            obtain ⟨vs, rfl⟩ := put_of (show vs 25 = _ from hd ⟨25, .data⟩ (by simp) rfl)
            have HBX := hide hb
            clear hb hd
            go_simp
            exact hK _ _ (Below.refl _ _) rfl
        · intro vs wx hb hF
          obtain ⟨vs, rfl⟩ := put_of (show vs 26 = _ from hF 26 (by decide))
          have HBX := hide hb
          clear hb hF
          simp only [put, Nat.reduceEqDiff, reduceIte]
          go_wp2_with fail
          go_ret
          exact ⟨rfl, HB2.out.trans (HBX.out.mono HB2.out.size)⟩
#print axioms sizes_any
end Go.Proofs.YtpmaagafcpaajabDoor
