/- is; known. -/
import Derived.Test.YtjiecahopdaghabDoorBz
import Derived.Test.YtjiecahopdaghabDoorEn
namespace Go.Proofs.YtjiecahopdaghabDoor
open Go.RowKit
attribute [local go_sem] put

/-- The chapter's example. -/
abbrev knownT : Tr := ⟨8, 0, [⟨7, 0, [⟨6, 0, [natT, natT]⟩, numT 2, zeroT]⟩]⟩
theorem known_norm : normM 40 knownT = some (numT 2, 0) := by kernel_rfl

theorem isR_node {D : Nat → Prop} {op : Int} {ts : List Tr} {a : Option Addr} {l c : Nat} {w : World} (ho : I64 op) (h : IsR D ts (.slice a l c) w) : IsD D ⟨op, 0, ts⟩ (.agg #[.int .i64 op, .int .i64 0, .slice a l c]) w := by
  obtain ⟨a', f, e, hr⟩ := h
  simp only [Value.slice.injEq] at e
  obtain ⟨rfl, rfl, rfl⟩ := e
  exact IsD.of (f := f + 1) ⟨a, ts.length, rfl, ho, i64_zero, hr⟩

set_option maxRecDepth 20000 in
set_option maxHeartbeats 1000000 in
theorem e_is {D : Nat → Prop} {T S : Tr} {v u : Value} {w : World} {g : Nat} (h : IsD D T v w) (k : IsD D S u w) (hz : T.size ≤ 1000000) (ht : Tb w) (he : normM g T = some (S, 0)) :
    Calls Tryd.prog 13 #[v, u] w fun e w' => e = .returned (.bool true) ∧ Below w.heap.size w w' := by
  have H := hide h; have K := hide k; have HT := hide ht; have HE := hide he; have HZ := hide hz
  obtain ⟨a0, b0, c0, d0, e0, rfl, _⟩ := h
  obtain ⟨a1, b1, c1, d1, e1, rfl, _⟩ := k
  clear ht he hz
  obtain ⟨g0, g1, gb, gs⟩ := alloc2 w (.cells #[.int .i64 a0, .int .i64 b0, .slice c0 d0 e0] 26) (.cells #[.int .i64 a1, .int .i64 b1, .slice c1 d1 e1] 26)
  go_enter Tryd.func13, Tryd.ntmps13
  go_upto_region 1 with fail
  obtain ⟨W, hW⟩ : ∃ W, W = ((w.alloc (.cells #[.int .i64 a0, .int .i64 b0, .slice c0 d0 e0] 26)).alloc (.cells #[.int .i64 a1, .int .i64 b1, .slice c1 d1 e1] 26)) := ⟨_, rfl⟩
  rw [← hW] at g0 g1 gb gs ⊢
  clear hW
  have H0 := hide ((H.out.mono (D' := fun _ => True) (fun _ _ _ => trivial)).keep gb)
  have H1 := hide ((K.out.mono (D' := fun _ => True) (fun _ _ _ => trivial)).keep gb)
  have G1 := hide g1; have GB := hide gb
  obtain ⟨x0, x1, x2⟩ := blk3 g0
  have HC := hide (e_normal (D := fun _ => True) (fun _ _ => trivial) H0.out HZ.out (HT.out.later gb) HE.out)
  clear g0 g1 gb
  go_wp2_with fail
  refine HC.out.mono ?_
  rintro e w2 ⟨u, rfl, hu, hb2⟩
  have HU := hide hu
  obtain ⟨p0, p1, pa, pl, pc, rfl, _⟩ := hu
  have g1 := (hb2.block _ (size_of_block G1.out)).trans G1.out
  have g2 := (Below.heap_alloc w2 (.cells #[.int .i64 p0, .int .i64 p1, .slice pa pl pc] 26) _ (size_of_block g1)).trans g1
  obtain ⟨y0, y1, y2⟩ := blk3 g2
  have HB2 := hide (GB.out.trans (hb2.mono GB.out.size))
  have HB3 := hide (later_alloc w2 (.cells #[.int .i64 p0, .int .i64 p1, .slice pa pl pc] 26))
  have HS := hide (e_same (HU.out.keep HB3.out) ((H1.out.keep hb2).keep HB3.out))
  clear g1 g2 hb2
  go_wp2_with fail
  refine HS.out.mono ?_
  rintro e w3 ⟨r, rfl, hr, hb3⟩
  obtain rfl := hr.2 rfl
  have HB4 := hide (HB2.out.trans ((HB3.out.trans (hb3.mono HB3.out.size)).mono HB2.out.size))
  clear hb3 hr
  go_wp2_with fail
  go_ret
  exact ⟨rfl, HB4.out⟩

def known_F2  : Nat → Value → World → (Nat → Prop) → Prop
  | 0 => fun v w M => IsD (fun k => ¬ M k) (⟨6, 0, [natT, natT]⟩) v w
  | 1 => fun v w M => IsD (fun k => ¬ M k) (numT (2)) v w
  | 2 => fun v w M => IsD (fun k => ¬ M k) (zeroT) v w
  | 3 => fun v w M => IsR (fun k => ¬ M k) [⟨6, 0, [natT, natT]⟩, numT (2), zeroT] v w
  | 4 => fun v w M => IsD (fun k => ¬ M k) (⟨7, 0, [⟨6, 0, [natT, natT]⟩, numT (2), zeroT]⟩) v w
  | 5 => fun v w M => IsR (fun k => ¬ M k) [⟨7, 0, [⟨6, 0, [natT, natT]⟩, numT (2), zeroT]⟩] v w
  | 6 => fun v w M => IsD (fun k => ¬ M k) (⟨8, 0, [⟨7, 0, [⟨6, 0, [natT, natT]⟩, numT (2), zeroT]⟩]⟩) v w
  | 7 => fun v w M => ∃ u, v = .tuple #[u, .int .i64 (0)] ∧ IsD (fun k => ¬ M k) (numT 2) u w
  | 8 => fun v w M => ∃ u, v = .tuple #[u, .int .i64 (0)] ∧ IsD (fun k => ¬ M k) (numT 2) u w
  | 9 => fun v w M => IsD (fun k => ¬ M k) (numT 2) v w
  | 10 => fun v _ _ => v = .int .i64 (0)
  | 13 => fun v _ _ => v = .int .i64 (0)
  | _ => fun _ _ _ => True
theorem known_F2.keep  (k : Nat) (v : Value) (w w' : World) (M M' : Nat → Prop) (h : known_F2  k v w M) (hf : Fr M w w') (hM : ∀ q, q < w.heap.size → (M' q ↔ M q)) : known_F2  k v w' M' := by
  unfold known_F2 at *
  split at h <;> first | exact h | exact IsD.frM h hf hM | exact IsR.frM h hf hM | (obtain ⟨u, e, h⟩ := h; exact ⟨u, e, h.frM hf hM⟩)
def known_F3 (D : Nat → Prop)  : Nat → Value → World → Prop
  | 0 => fun v _ => v = .int .i64 (0)
  | 1 => fun v _ => v = .bool (true)
  | 2 => fun v _ => v = .bool (true)
  | 3 => fun v w => IsD D (numT 2) v w
  | 4 => fun v w => IsD D (numT (2)) v w
  | 5 => fun v _ => v = .bool (true)
  | 6 => fun v _ => v = .bool (true)
  | 7 => fun v _ => v = .bool (true)
  | _ => fun _ _ => True
theorem known_F3.keep (D : Nat → Prop)  (i : Nat) (v : Value) (w w' : World) (h : known_F3 D  i v w) (hb : Below w.heap.size w w') : known_F3 D  i v w' := by
  unfold known_F3 at *
  split at h <;> first | exact h | exact IsD.keep h hb | exact IsR.keep h hb | (obtain ⟨u, e, h⟩ := h; exact ⟨u, e, h.keep hb⟩)
set_option maxRecDepth 20000 in
set_option maxHeartbeats 1000000 in
theorem e_known {w : World} (ht : Tb w) : Calls Tryd.prog 8 #[] w fun e w' => e = .returned (.bool true) ∧ Below w.heap.size w w' := by
  have HT := hide ht
  clear ht
  go_enter Tryd.func8, Tryd.ntmps8
  go_upto_region 2 with fail
  obtain ⟨g0, g1, g2, gb, gs⟩ := alloc3 w (.cells #[.int .i64 10, .int .i64 0, .slice none 0 0, .int .i64 10, .int .i64 0, .slice none 0 0] 26) (.cells #[.int .i64 11, .int .i64 0, .slice none 0 0] 26) (.cells #[.int .i64 6, .int .i64 0, .slice (some ⟨w.heap.size, 0, none⟩) 2 2] 26)
  have r0 := row2 (D := fun _ => True) (w := w) (T := natT) (S := natT) (x0 := .int .i64 10) (x1 := .int .i64 0) (x2 := .slice none 0 0) (y0 := .int .i64 10) (y1 := .int .i64 0) (y2 := .slice none 0 0) (fun _ _ => trivial) (IsD.of (tmd_leaf 0 ⟨by decide, by decide⟩ i64_zero)) (IsD.of (tmd_leaf 0 ⟨by decide, by decide⟩ i64_zero))
  have r1 := (r0.keep (later_alloc _ (.cells #[.int .i64 11, .int .i64 0, .slice none 0 0] 26))).keep (later_alloc _ (.cells #[.int .i64 6, .int .i64 0, .slice (some ⟨w.heap.size, 0, none⟩) 2 2] 26))
  obtain ⟨W, hW⟩ : ∃ W, W = (((w.alloc (.cells #[.int .i64 10, .int .i64 0, .slice none 0 0, .int .i64 10, .int .i64 0, .slice none 0 0] 26)).alloc (.cells #[.int .i64 11, .int .i64 0, .slice none 0 0] 26)).alloc (.cells #[.int .i64 6, .int .i64 0, .slice (some ⟨w.heap.size, 0, none⟩) 2 2] 26)) := ⟨_, rfl⟩
  rw [← hW] at g0 g1 g2 gb gs r1 ⊢
  clear hW r0 g0
  have HBZ := hide g1
  have HBS : Hid (W.heap[w.heap.size + 1 + 1]? = some (.cells #[.int .i64 6, .int .i64 0, .slice (some ⟨w.heap.size, 0, none⟩) 2 2] 26)) := hide g2
  have HTZ : Hid (IsD (fun _ => True) zeroT (.agg #[.int .i64 11, .int .i64 0, .slice none 0 0]) W) := hide (IsD.of (tmd_leaf 0 ⟨by decide, by decide⟩ i64_zero))
  have HTS : Hid (IsD (fun _ => True) ⟨6, 0, [natT, natT]⟩ (.agg #[.int .i64 6, .int .i64 0, .slice (some ⟨w.heap.size, 0, none⟩) 2 2]) W) := hide (isR_node ⟨by decide, by decide⟩ r1)
  have HTB := hide (HT.out.later gb)
  have GB := hide gb
  clear g1 g2 gb gs r1
  refine wp_region_boxes2 (by kernel_rfl) (by kernel_rfl) (fun vs => { tmps := #[Value.bool false, Value.pointer (some ⟨w.heap.size + 1, 0, none⟩), Value.pointer (some ⟨w.heap.size + 1 + 1, 0, none⟩), vs 11, vs 13, Value.agg #[Value.int IntKind.i64 11, Value.int IntKind.i64 0, Value.slice none 0 0], Value.agg #[Value.int IntKind.i64 10, Value.int IntKind.i64 0, Value.slice none 0 0], Value.agg #[Value.int IntKind.i64 10, Value.int IntKind.i64 0, Value.slice none 0 0], Value.slice (some ⟨w.heap.size, 0, none⟩) 2 2, Value.agg #[Value.int IntKind.i64 6, Value.int IntKind.i64 0, Value.slice (some ⟨w.heap.size, 0, none⟩) 2 2], vs 8, vs 0, vs 1, vs 2, vs 3, vs 4, vs 5, vs 6, vs 7, vs 9, vs 10, undef, undef, undef, undef, undef, undef, undef], defers := [] }) (fun i => [undef, undef, undef, undef, undef, undef, undef, undef, undef, undef, undef, undef, undef, undef].getD i undef) [(11, 9, 12)] (by decide) #[.int .i64 0, .int .i64 0, .slice none 0 0] 26 (known_F2 ) (known_F2.keep ) ?_ ?_
  · refine ⟨⟨fun _ => ?_, fun x hx h => absurd h (by revert x; decide), fun x hx h => absurd h (by revert x; decide)⟩, ⟨fun _ => ?_, fun x hx h => absurd h (by revert x; decide), fun x hx h => absurd h (by revert x; decide)⟩, ⟨fun _ => ?_, fun x hx h => absurd h (by revert x; decide), fun x hx h => absurd h (by revert x; decide)⟩, ⟨fun _ => ?_, fun x hx h => absurd h (by revert x; decide), fun x hx h => absurd h (by revert x; decide)⟩, ⟨fun _ => ?_, fun x hx h => absurd h (by revert x; decide), fun x hx h => absurd h (by revert x; decide)⟩, ⟨fun _ => ?_, fun x hx h => absurd h (by revert x; decide), fun x hx h => absurd h (by revert x; decide)⟩, ⟨fun _ => ?_, fun x hx h => absurd h (by revert x; decide), fun x hx h => absurd h (by revert x; decide)⟩, ⟨fun _ => ?_, fun x hx h => absurd h (by revert x; decide), fun x hx h => absurd h (by revert x; decide)⟩, ⟨fun _ => ?_, fun x hx h => absurd h (by revert x; decide), fun x hx h => absurd h (by revert x; decide)⟩, ⟨fun _ => ?_, fun x hx h => absurd h (by revert x; decide), fun x hx h => absurd h (by revert x; decide)⟩, ⟨fun _ => ?_, fun x hx h => absurd h (by revert x; decide), fun x hx h => absurd h (by revert x; decide)⟩, ⟨fun h => absurd h (by unfold Plainly; decide), fun x hx h => ?_, fun x hx h => absurd h (by revert x; decide)⟩, ⟨fun h => absurd h (by unfold Plainly; decide), fun x hx h => absurd h (by revert x; decide), fun x hx h => ?_⟩, ⟨fun _ => ?_, fun x hx h => absurd h (by revert x; decide), fun x hx h => absurd h (by revert x; decide)⟩, trivial⟩
    · intro vs wx M K hb hd hM hK
      obtain ⟨c0, c1, c2⟩ := blk3 ((hb.block _ (size_of_block HBS.out)).trans HBS.out)
      have HDM : Hid (∀ k, wx.heap.size ≤ k → ¬ M k) := hide (fun k hk h => absurd (hM k h).2 (by omega))
      have HM := hide hM
      have HBX := hide hb
      clear hb hd hM
      go_simp
      exact hK _ _ (Below.refl _ _) (HTS.out.outer HBX.out (fun q hq => (HM.out q hq).1))
    · intro vs wx M K hb hd hM hK
      have HDM : Hid (∀ k, wx.heap.size ≤ k → ¬ M k) := hide (fun k hk h => absurd (hM k h).2 (by omega))
      have HM := hide hM
      have HBX := hide hb
      clear hb hd hM
      go_simp
      refine (e_num (D := (fun k => ¬ M k)) (fun k hk => HDM.out k hk) (n := 2) (by decide)).mono ?_
      rintro e w7 ⟨u, rfl, hu, hb7⟩
      exact hK _ _ hb7 hu
    · intro vs wx M K hb hd hM hK
      obtain ⟨c0, c1, c2⟩ := blk3 ((hb.block _ (size_of_block HBZ.out)).trans HBZ.out)
      have HDM : Hid (∀ k, wx.heap.size ≤ k → ¬ M k) := hide (fun k hk h => absurd (hM k h).2 (by omega))
      have HM := hide hM
      have HBX := hide hb
      clear hb hd hM
      go_simp
      exact hK _ _ (Below.refl _ _) (HTZ.out.outer HBX.out (fun q hq => (HM.out q hq).1))
    · intro vs wx M K hb hd hM hK
      have tm0 := hd ⟨0, .data⟩ (by simp) rfl (by unfold Plainly; decide)
      have HX0 := hide tm0
      obtain ⟨p0_0, p1_0, pa_0, pl_0, pc_0, e0, _⟩ := tm0
      rw [e0] at HX0
      have tm1 := hd ⟨1, .data⟩ (by simp) rfl (by unfold Plainly; decide)
      have HX1 := hide tm1
      obtain ⟨p0_1, p1_1, pa_1, pl_1, pc_1, e1, _⟩ := tm1
      rw [e1] at HX1
      have tm2 := hd ⟨2, .data⟩ (by simp) rfl (by unfold Plainly; decide)
      have HX2 := hide tm2
      obtain ⟨p0_2, p1_2, pa_2, pl_2, pc_2, e2, _⟩ := tm2
      rw [e2] at HX2
      obtain ⟨vs, rfl⟩ := put_of (show vs 0 = _ from e0)
      obtain ⟨vs, rfl⟩ := put_of (show vs 1 = _ from e1)
      obtain ⟨vs, rfl⟩ := put_of (show vs 2 = _ from e2)
      clear e0 e1 e2
      have HDM : Hid (∀ k, wx.heap.size ≤ k → ¬ M k) := hide (fun k hk h => absurd (hM k h).2 (by omega))
      have HM := hide hM
      have HBX := hide hb
      clear hb hd hM
      go_simp
      exact hK _ _ (later_alloc _ _) (row3 (fun k hk => HDM.out k hk) HX0.out HX1.out HX2.out)
    · intro vs wx M K hb hd hM hK
      have tm3 := hd ⟨3, .data⟩ (by simp) rfl (by unfold Plainly; decide)
      have HX3 := hide tm3
      obtain ⟨ra_3, rf_3, e3, _⟩ := tm3
      rw [e3] at HX3
      simp only [List.length_cons, List.length_nil, Nat.zero_add, Nat.reduceAdd] at e3 HX3
      obtain ⟨vs, rfl⟩ := put_of (show vs 3 = _ from e3)
      clear e3
      have HDM : Hid (∀ k, wx.heap.size ≤ k → ¬ M k) := hide (fun k hk h => absurd (hM k h).2 (by omega))
      have HM := hide hM
      have HBX := hide hb
      clear hb hd hM
      go_simp
      refine (e_t (D := (fun k => ¬ M k)) ⟨by decide, by decide⟩ HX3.out).mono ?_
      rintro e w7 ⟨u, rfl, hu, hb7⟩
      exact hK _ _ hb7 hu
    · intro vs wx M K hb hd hM hK
      have tm4 := hd ⟨4, .data⟩ (by simp) rfl (by unfold Plainly; decide)
      have HX4 := hide tm4
      obtain ⟨p0_4, p1_4, pa_4, pl_4, pc_4, e4, _⟩ := tm4
      rw [e4] at HX4
      obtain ⟨vs, rfl⟩ := put_of (show vs 4 = _ from e4)
      clear e4
      have HDM : Hid (∀ k, wx.heap.size ≤ k → ¬ M k) := hide (fun k hk h => absurd (hM k h).2 (by omega))
      have HM := hide hM
      have HBX := hide hb
      clear hb hd hM
      go_simp
      exact hK _ _ (later_alloc _ _) (row1 (fun k hk => HDM.out k hk) HX4.out)
    · intro vs wx M K hb hd hM hK
      have tm5 := hd ⟨5, .data⟩ (by simp) rfl (by unfold Plainly; decide)
      have HX5 := hide tm5
      obtain ⟨ra_5, rf_5, e5, _⟩ := tm5
      rw [e5] at HX5
      simp only [List.length_cons, List.length_nil, Nat.zero_add] at e5 HX5
      obtain ⟨vs, rfl⟩ := put_of (show vs 5 = _ from e5)
      clear e5
      have HDM : Hid (∀ k, wx.heap.size ≤ k → ¬ M k) := hide (fun k hk h => absurd (hM k h).2 (by omega))
      have HM := hide hM
      have HBX := hide hb
      clear hb hd hM
      go_simp
      refine (e_t (D := (fun k => ¬ M k)) ⟨by decide, by decide⟩ HX5.out).mono ?_
      rintro e w7 ⟨u, rfl, hu, hb7⟩
      exact hK _ _ hb7 hu
    · intro vs wx M K hb hd hM hK
      have tm6 := hd ⟨6, .data⟩ (by simp) rfl (by unfold Plainly; decide)
      have HX6 := hide tm6
      obtain ⟨p0_6, p1_6, pa_6, pl_6, pc_6, e6, _⟩ := tm6
      rw [e6] at HX6
      obtain ⟨vs, rfl⟩ := put_of (show vs 6 = _ from e6)
      clear e6
      have HDM : Hid (∀ k, wx.heap.size ≤ k → ¬ M k) := hide (fun k hk h => absurd (hM k h).2 (by omega))
      have HM := hide hM
      have HBX := hide hb
      clear hb hd hM
      go_simp
      refine (e_normal (fun k hk => HDM.out k hk) HX6.out (by simp [Tr.size, numT]) (HTB.out.later HBX.out) known_norm).mono ?_
      rintro e w7 ⟨u, rfl, hu, hb7⟩
      exact hK _ _ hb7 ⟨u, rfl, hu⟩
    · intro vs wx M K hb hd hM hK
      have tm7 := hd ⟨7, .data⟩ (by simp) rfl (by unfold Plainly; decide)
      obtain ⟨tu_7, e7, hx7⟩ := tm7
      have HX7 := hide hx7
      clear hx7
      obtain ⟨vs, rfl⟩ := put_of (show vs 7 = _ from e7)
      clear e7
      have HDM : Hid (∀ k, wx.heap.size ≤ k → ¬ M k) := hide (fun k hk h => absurd (hM k h).2 (by omega))
      have HM := hide hM
      have HBX := hide hb
      clear hb hd hM
      go_simp
      exact hK _ _ (Below.refl _ _) ⟨_, rfl, HX7.out⟩
    · intro vs wx M K hb hd hM hK
      have tm8 := hd ⟨8, .data⟩ (by simp) rfl (by unfold Plainly; decide)
      obtain ⟨tu_8, e8, hx8⟩ := tm8
      have HX8 := hide hx8
      clear hx8
      obtain ⟨vs, rfl⟩ := put_of (show vs 8 = _ from e8)
      clear e8
      have HDM : Hid (∀ k, wx.heap.size ≤ k → ¬ M k) := hide (fun k hk h => absurd (hM k h).2 (by omega))
      have HM := hide hM
      have HBX := hide hb
      clear hb hd hM
      go_simp
      exact hK _ _ (Below.refl _ _) HX8.out
    · intro vs wx M K hb hd hM hK
      have tm8 := hd ⟨8, .data⟩ (by simp) rfl (by unfold Plainly; decide)
      obtain ⟨tu_8, e8, hx8⟩ := tm8
      have HX8 := hide hx8
      clear hx8
      obtain ⟨vs, rfl⟩ := put_of (show vs 8 = _ from e8)
      clear e8
      have HDM : Hid (∀ k, wx.heap.size ≤ k → ¬ M k) := hide (fun k hk h => absurd (hM k h).2 (by omega))
      have HM := hide hM
      have HBX := hide hb
      clear hb hd hM
      go_simp
      exact hK _ _ (Below.refl _ _) rfl
    · intro vs wx K hK
      clear hx h
      go_simp
      exact hK
    · obtain rfl : x = (11, 9, 12) := (by revert h; revert x; decide)
      refine ⟨⟨⟨11, .data⟩, by simp, rfl, rfl⟩, ⟨⟨9, .data⟩, by simp, rfl, rfl⟩, ?_⟩
      intro vs wx M K q hF hq hz hK
      obtain ⟨p0, p1, pa, pl, pc, e1, _⟩ := (show IsD _ _ _ _ from hF)
      obtain ⟨vs, rfl⟩ := put_of (show vs 9 = _ from e1)
      obtain ⟨vs, rfl⟩ := put_of (show vs 11 = _ from hq)
      obtain ⟨y0, y1, y2⟩ := blk3 hz
      obtain ⟨z0, z1, z2⟩ := frz3 hz
      have HZ := hide hz
      clear hF hq hz hx h e1
      go_simp
      exact hK _ _ (fr_put3 _ _ _ _ _) (put3_blk HZ.out _ _ _ _ _ rfl rfl rfl) rfl
    · intro vs wx M K hb hd hM hK
      obtain ⟨vs, rfl⟩ := put_of (show vs 10 = _ from hd ⟨10, .data⟩ (by simp) rfl (by unfold Plainly; decide))
      have HDM : Hid (∀ k, wx.heap.size ≤ k → ¬ M k) := hide (fun k hk h => absurd (hM k h).2 (by omega))
      have HM := hide hM
      have HBX := hide hb
      clear hb hd hM
      go_simp
      exact hK _ _ (Below.refl _ _) rfl
  · intro vs wy M hb hF hB
    obtain ⟨qN, csN, bN, lN, mN, hN, gN⟩ := hB (11, 9, 12) (by simp) (by decide) (by decide)
    obtain ⟨tN0, tN1, tNa, tNl, tNc, rfl, tmN⟩ := (show IsD _ _ _ _ from hF 9 (by decide) (by unfold Plainly; decide)).box gN
    obtain ⟨vs, rfl⟩ := put_of (show vs 13 = _ from (by have t : _ = Value.int IntKind.i64 (0) := hF 13 (by decide) (by unfold Plainly; decide); simpa [put] using t))
    obtain ⟨vs, rfl⟩ := put_of (show vs 11 = _ from (by simpa [put] using bN))
    have HBY := hide hb; have HKN := hide hN; have HTN := hide tmN
    clear hb hF hB hN tmN gN bN
    simp only [put, Nat.reduceEqDiff, reduceIte, ptr]
    generalize vs 0 = scN0
    generalize vs 1 = scN1
    generalize vs 2 = scN2
    generalize vs 3 = scN3
    generalize vs 4 = scN4
    generalize vs 5 = scN5
    generalize vs 6 = scN6
    generalize vs 7 = scN7
    generalize vs 8 = scN8
    generalize vs 9 = scN9
    generalize vs 10 = scN10
    clear vs
    go_upto_region 3 with fail
    have HTT : Hid (∀ k, wy.heap.size ≤ k → (fun _ => True) k) := hide (fun _ _ => trivial)
    refine wp_region_vals (by kernel_rfl) (by kernel_rfl) (fun vs => { tmps := #[vs 7, Value.pointer (some ⟨w.heap.size + 1, 0, none⟩), Value.pointer (some ⟨w.heap.size + 1 + 1, 0, none⟩), Value.pointer (some ⟨qN, 0, none⟩), Value.int IntKind.i64 0, Value.agg #[Value.int IntKind.i64 11, Value.int IntKind.i64 0, Value.slice none 0 0], Value.agg #[Value.int IntKind.i64 10, Value.int IntKind.i64 0, Value.slice none 0 0], Value.agg #[Value.int IntKind.i64 10, Value.int IntKind.i64 0, Value.slice none 0 0], Value.slice (some ⟨w.heap.size, 0, none⟩) 2 2, Value.agg #[Value.int IntKind.i64 6, Value.int IntKind.i64 0, Value.slice (some ⟨w.heap.size, 0, none⟩) 2 2], scN8, scN0, scN1, scN2, scN3, scN4, scN5, scN6, scN7, scN9, scN10, vs 0, vs 1, vs 2, vs 3, vs 4, vs 5, vs 6], defers := [] }) (fun i => [undef, undef, undef, undef, undef, undef, undef, Value.bool false].getD i undef) (known_F3 (fun _ => True) ) (known_F3.keep (fun _ => True) ) ?_ ?_
    · refine ⟨?_, ?_, ?_, ?_, ?_, ?_, ?_, ?_, trivial⟩
      · intro vs wx K hb hd hK
        have HBX := hide hb
        clear hb hd
        go_simp
        exact hK _ _ (Below.refl _ _) rfl
      · intro vs wx K hb hd hK
        obtain ⟨vs, rfl⟩ := put_of (show vs 0 = _ from hd ⟨0, .data⟩ (by simp) rfl)
        have HBX := hide hb
        clear hb hd
        go_simp
        exact hK _ _ (Below.refl _ _) rfl
      · intro vs wx K hb hd hK
        obtain ⟨vs, rfl⟩ := put_of (show vs 1 = _ from hd ⟨1, .data⟩ (by simp) rfl)
        have HBX := hide hb
        clear hb hd
        go_simp
        exact hK _ _ (Below.refl _ _) rfl
      · intro vs wx K hb hd hK
        obtain ⟨vs, rfl⟩ := put_of (show vs 2 = _ from hd ⟨2, .guard⟩ (by simp) rfl)
        obtain ⟨c0, c1, c2⟩ := blk3 ((hb.block _ (size_of_block HKN.out)).trans HKN.out)
        have HBX := hide hb
        clear hb hd
        go_simp
        exact hK _ _ (Below.refl _ _) (HTN.out.keep HBX.out)
      · intro vs wx K hb hd hK
        obtain ⟨vs, rfl⟩ := put_of (show vs 2 = _ from hd ⟨2, .guard⟩ (by simp) rfl)
        have HBX := hide hb
        clear hb hd
        go_simp
        refine (e_num (D := (fun _ => True)) (fun k hk => HTT.out k (Nat.le_trans HBX.out.size hk)) (n := 2) (by decide)).mono ?_
        rintro e w7 ⟨u, rfl, hu, hb7⟩
        exact hK _ _ hb7 hu
      · intro vs wx K hb hd hK
        have tm3 := hd ⟨3, .data⟩ (by simp) rfl
        have HX3 := hide tm3
        obtain ⟨p0_3, p1_3, pa_3, pl_3, pc_3, e3, _⟩ := tm3
        rw [e3] at HX3
        have tm4 := hd ⟨4, .data⟩ (by simp) rfl
        have HX4 := hide tm4
        obtain ⟨p0_4, p1_4, pa_4, pl_4, pc_4, e4, _⟩ := tm4
        rw [e4] at HX4
        obtain ⟨vs, rfl⟩ := put_of (show vs 3 = _ from e3)
        obtain ⟨vs, rfl⟩ := put_of (show vs 4 = _ from e4)
        obtain ⟨vs, rfl⟩ := put_of (show vs 2 = _ from hd ⟨2, .guard⟩ (by simp) rfl)
        clear e3 e4
        have HBX := hide hb
        clear hb hd
        go_simp
        refine (e_same HX3.out HX4.out).mono ?_
        rintro e w7 ⟨r, rfl, hr, hb7⟩
        obtain rfl := hr.2 rfl
        exact hK _ _ hb7 rfl
      · intro vs wx K hb hd hK
        obtain ⟨vs, rfl⟩ := put_of (show vs 2 = _ from hd ⟨2, .data⟩ (by simp) rfl)
        obtain ⟨vs, rfl⟩ := put_of (show vs 5 = _ from hd ⟨5, .data⟩ (by simp) rfl)
        have HBX := hide hb
        clear hb hd
        go_simp
        exact hK _ _ (Below.refl _ _) rfl
      · intro vs wx K hb hd hK
        obtain ⟨vs, rfl⟩ := put_of (show vs 6 = _ from hd ⟨6, .data⟩ (by simp) rfl)
        have HBX := hide hb
        clear hb hd
        go_simp
        exact hK _ _ (Below.refl _ _) rfl
    · intro vs wx hb hF
      obtain ⟨vs, rfl⟩ := put_of (show vs 7 = _ from hF 7 (by decide))
      have HBX := hide hb
      clear hb hF
      simp only [put, Nat.reduceEqDiff, reduceIte]
      go_wp2_with fail
      go_ret
      exact ⟨rfl, (GB.out.trans (HBY.out.mono GB.out.size)).trans (HBX.out.mono (Nat.le_trans GB.out.size HBY.out.size))⟩
#print axioms e_known
end Go.Proofs.YtjiecahopdaghabDoor
