/- Functions that make terms: nat, lam, app, plus, times. -/
import Derived.Test.YtjiecahopdaghabDoorEl
namespace Go.Proofs.YtjiecahopdaghabDoor
open Go.RowKit
attribute [local go_sem] put

def nat_F (D : Nat → Prop)  : Nat → Value → World → Prop
  | 0 => fun v w => IsD D (⟨10, 0, []⟩) v w
  | _ => fun _ _ => True
theorem nat_F.keep (D : Nat → Prop)  (i : Nat) (v : Value) (w w' : World) (h : nat_F D  i v w) (hb : Below w.heap.size w w') : nat_F D  i v w' := by
  unfold nat_F at *
  split at h <;> first | exact h | exact IsD.keep h hb | exact IsR.keep h hb | (obtain ⟨u, e, h⟩ := h; exact ⟨u, e, h.keep hb⟩)
set_option maxRecDepth 20000 in
set_option maxHeartbeats 1000000 in
theorem e_nat {D : Nat → Prop} {w : World} (hD : ∀ k, w.heap.size ≤ k → D k) : Calls Tryd.prog 16 #[] w (TmOut D w (natT)) := by
  have HDD := hide hD
  clear hD
  go_enter Tryd.func16, Tryd.ntmps16
  go_upto_region 1 with fail
  obtain ⟨g0, gb, gs⟩ := alloc1 w (.cells #[.int .i64 0, .int .i64 0, .slice none 0 0] 26)
  obtain ⟨W, hW⟩ : ∃ W, W = (w.alloc (.cells #[.int .i64 0, .int .i64 0, .slice none 0 0] 26)) := ⟨_, rfl⟩
  rw [← hW] at g0 gb gs ⊢
  clear hW
  have GB := hide gb; have GS := hide gs
  have G0 := hide g0
  have HD1 : Hid (∀ k, W.heap.size ≤ k → (fun k => D k ∧ k ≠ w.heap.size + 0) k) := hide (fun k hk => ⟨HDD.out k (by omega), by omega⟩)
  clear g0 gb gs
  refine wp_plain_last (by kernel_rfl) 1 (by kernel_rfl) (fun vs => { tmps := #[Value.pointer (some ⟨w.heap.size, 0, none⟩), vs 0], defers := [] }) (fun i => [undef, undef].getD i undef) (nat_F (fun k => D k ∧ k ≠ w.heap.size + 0) ) (nat_F.keep (fun k => D k ∧ k ≠ w.heap.size + 0) ) (BoxR (fun k => D k ∧ k ≠ w.heap.size + 0) W (w.heap.size) (natT)) ?_ ?_
  · refine ⟨LastStep.early (by decide) ?_, LastStep.last ?_, trivial⟩
    · intro vs wx K hb hd hK
      have HBX := hide hb
      clear hb hd
      go_simp
      refine (e_t (D := (fun k => D k ∧ k ≠ w.heap.size + 0)) ⟨by decide, by decide⟩ (isR_nil (D := (fun k => D k ∧ k ≠ w.heap.size + 0)))).mono ?_
      rintro e w7 ⟨u, rfl, hu, hb7⟩
      exact hK _ _ hb7 hu
    · intro vs wx K hb hF hK
      have tm := hF 0 (by decide)
      have HX := hide tm
      obtain ⟨p0, p1, pa, pl, pc, e, _⟩ := tm
      rw [e] at HX
      obtain ⟨vs, rfl⟩ := put_of (show vs 0 = _ from e)
      clear e hF
      have y := (hb.block _ (size_of_block G0.out)).trans G0.out
      obtain ⟨y0, y1, y2⟩ := blk3 y
      obtain ⟨z0, z1, z2⟩ := frz3 y
      have HBX := hide hb; have HY := hide y
      clear hb y
      go_simp
      exact hK (put vs 0 (.agg #[.int .i64 p0, .int .i64 p1, .slice pa pl pc])) _ ⟨p0, p1, pa, pl, pc, wx, rfl, HBX.out, HX.out, HY.out⟩
  · intro vs wx hR
    obtain ⟨p0, p1, pa, pl, pc, w9, rfl, hb, ht, hq⟩ := hR
    obtain ⟨y0, y1, y2⟩ := blk3 hq
    have HO := hide (box_out (q := w.heap.size) (by omega) GB.out hb ht)
    clear hb ht hq
    go_wp2_with fail
    refine bodyPost_ret (v := .agg #[.int .i64 p0, .int .i64 p1, .slice pa pl pc]) (by simp [results, Tryd.results16, go_sem, y0, y1, y2]) rfl HO.out

def lam_F (D : Nat → Prop) (T : Tr) : Nat → Value → World → Prop
  | 0 => fun v w => IsD D (natT) v w
  | 1 => fun v w => IsD D (T) v w
  | 2 => fun v w => IsR D [natT, T] v w
  | 3 => fun v w => IsD D (⟨4, 0, [natT, T]⟩) v w
  | _ => fun _ _ => True
theorem lam_F.keep (D : Nat → Prop) (T : Tr) (i : Nat) (v : Value) (w w' : World) (h : lam_F D T i v w) (hb : Below w.heap.size w w') : lam_F D T i v w' := by
  unfold lam_F at *
  split at h <;> first | exact h | exact IsD.keep h hb | exact IsR.keep h hb | (obtain ⟨u, e, h⟩ := h; exact ⟨u, e, h.keep hb⟩)
set_option maxRecDepth 20000 in
set_option maxHeartbeats 1000000 in
theorem e_lam {D : Nat → Prop} {T : Tr} {v0 : Value} {w : World} (hD : ∀ k, w.heap.size ≤ k → D k) (h0 : IsD D T v0 w) : Calls Tryd.prog 18 #[v0] w (TmOut D w (lamT T)) := by
  have H0 := hide h0
  obtain ⟨a0, b0, c0, d0, e0, rfl, _⟩ := h0
  have HDD := hide hD
  clear hD
  go_enter Tryd.func18, Tryd.ntmps18
  go_upto_region 1 with fail
  obtain ⟨g0, g1, gb, gs⟩ := alloc2 w (.cells #[.int .i64 a0, .int .i64 b0, .slice c0 d0 e0] 26) (.cells #[.int .i64 0, .int .i64 0, .slice none 0 0] 26)
  obtain ⟨W, hW⟩ : ∃ W, W = ((w.alloc (.cells #[.int .i64 a0, .int .i64 b0, .slice c0 d0 e0] 26)).alloc (.cells #[.int .i64 0, .int .i64 0, .slice none 0 0] 26)) := ⟨_, rfl⟩
  rw [← hW] at g0 g1 gb gs ⊢
  clear hW
  have GB := hide gb; have GS := hide gs
  have G0 := hide g0
  have G1 := hide g1
  have P0 : Hid (IsD (fun k => D k ∧ k ≠ w.heap.size + 1) T _ W) := hide ((H0.out.mono (fun k hk h => ⟨h, by omega⟩)).keep gb)
  have HD1 : Hid (∀ k, W.heap.size ≤ k → (fun k => D k ∧ k ≠ w.heap.size + 1) k) := hide (fun k hk => ⟨HDD.out k (by omega), by omega⟩)
  clear g0 g1 gb gs
  refine wp_drawn_last (by kernel_rfl) (by kernel_rfl) 4 (by kernel_rfl) (by kernel_rfl) (fun vs => { tmps := #[Value.agg #[Value.int IntKind.i64 a0, Value.int IntKind.i64 b0, Value.slice c0 d0 e0], Value.pointer (some ⟨w.heap.size, 0, none⟩), Value.pointer (some ⟨w.heap.size + 1, 0, none⟩), vs 0, vs 1, vs 2, vs 3], defers := [] }) (fun i => [undef, undef, undef, undef, undef].getD i undef) (lam_F (fun k => D k ∧ k ≠ w.heap.size + 1) T) (lam_F.keep (fun k => D k ∧ k ≠ w.heap.size + 1) T) (BoxR (fun k => D k ∧ k ≠ w.heap.size + 1) W (w.heap.size + 1) (lamT T)) ?_ ?_
  · refine ⟨LastStep.early (by decide) ?_, LastStep.early (by decide) ?_, LastStep.early (by decide) ?_, LastStep.early (by decide) ?_, LastStep.last ?_, trivial⟩
    · intro vs wx K hb hd hK
      have HBX := hide hb
      clear hb hd
      go_simp
      refine (e_nat (D := (fun k => D k ∧ k ≠ w.heap.size + 1)) (fun k hk => HD1.out k (Nat.le_trans HBX.out.size hk))).mono ?_
      rintro e w7 ⟨u, rfl, hu, hb7⟩
      exact hK _ _ hb7 hu
    · intro vs wx K hb hd hK
      obtain ⟨c0, c1, c2⟩ := blk3 ((hb.block _ (size_of_block G0.out)).trans G0.out)
      have HBX := hide hb
      clear hb hd
      go_simp
      exact hK _ _ (Below.refl _ _) (P0.out.keep HBX.out)
    · intro vs wx K hb hd hK
      have tm0 := hd ⟨0, .data⟩ (by simp) rfl
      have HX0 := hide tm0
      obtain ⟨p0_0, p1_0, pa_0, pl_0, pc_0, e0, _⟩ := tm0
      rw [e0] at HX0
      have tm1 := hd ⟨1, .data⟩ (by simp) rfl
      have HX1 := hide tm1
      obtain ⟨p0_1, p1_1, pa_1, pl_1, pc_1, e1, _⟩ := tm1
      rw [e1] at HX1
      obtain ⟨vs, rfl⟩ := put_of (show vs 0 = _ from e0)
      obtain ⟨vs, rfl⟩ := put_of (show vs 1 = _ from e1)
      clear e0 e1
      have HBX := hide hb
      clear hb hd
      go_simp
      exact hK _ _ (later_alloc _ _) (row2 (fun k hk => HD1.out k (Nat.le_trans HBX.out.size hk)) HX0.out HX1.out)
    · intro vs wx K hb hd hK
      have tm2 := hd ⟨2, .data⟩ (by simp) rfl
      have HX2 := hide tm2
      obtain ⟨ra_2, rf_2, e2, _⟩ := tm2
      rw [e2] at HX2
      simp only [List.length_cons, List.length_nil, Nat.zero_add, Nat.reduceAdd] at e2 HX2
      obtain ⟨vs, rfl⟩ := put_of (show vs 2 = _ from e2)
      clear e2
      have HBX := hide hb
      clear hb hd
      go_simp
      refine (e_t (D := (fun k => D k ∧ k ≠ w.heap.size + 1)) ⟨by decide, by decide⟩ HX2.out).mono ?_
      rintro e w7 ⟨u, rfl, hu, hb7⟩
      exact hK _ _ hb7 hu
    · intro vs wx K hb hF hK
      have tm := hF 3 (by decide)
      have HX := hide tm
      obtain ⟨p0, p1, pa, pl, pc, e, _⟩ := tm
      rw [e] at HX
      obtain ⟨vs, rfl⟩ := put_of (show vs 3 = _ from e)
      clear e hF
      have y := (hb.block _ (size_of_block G1.out)).trans G1.out
      obtain ⟨y0, y1, y2⟩ := blk3 y
      obtain ⟨z0, z1, z2⟩ := frz3 y
      have HBX := hide hb; have HY := hide y
      clear hb y
      go_simp
      exact hK (put vs 3 (.agg #[.int .i64 p0, .int .i64 p1, .slice pa pl pc])) _ ⟨p0, p1, pa, pl, pc, wx, rfl, HBX.out, HX.out, HY.out⟩
  · intro vs wx hR
    obtain ⟨p0, p1, pa, pl, pc, w9, rfl, hb, ht, hq⟩ := hR
    obtain ⟨y0, y1, y2⟩ := blk3 hq
    have HO := hide (box_out (q := w.heap.size + 1) (by omega) GB.out hb ht)
    clear hb ht hq
    go_wp2_with fail
    refine bodyPost_ret (v := .agg #[.int .i64 p0, .int .i64 p1, .slice pa pl pc]) (by simp [results, Tryd.results18, go_sem, y0, y1, y2]) rfl HO.out

def app_F (D : Nat → Prop) (T S : Tr) : Nat → Value → World → Prop
  | 0 => fun v w => IsD D (T) v w
  | 1 => fun v w => IsD D (S) v w
  | 2 => fun v w => IsR D [T, S] v w
  | 3 => fun v w => IsD D (⟨5, 0, [T, S]⟩) v w
  | _ => fun _ _ => True
theorem app_F.keep (D : Nat → Prop) (T S : Tr) (i : Nat) (v : Value) (w w' : World) (h : app_F D T S i v w) (hb : Below w.heap.size w w') : app_F D T S i v w' := by
  unfold app_F at *
  split at h <;> first | exact h | exact IsD.keep h hb | exact IsR.keep h hb | (obtain ⟨u, e, h⟩ := h; exact ⟨u, e, h.keep hb⟩)
set_option maxRecDepth 20000 in
set_option maxHeartbeats 1000000 in
theorem e_app {D : Nat → Prop} {T S : Tr} {v0 v1 : Value} {w : World} (hD : ∀ k, w.heap.size ≤ k → D k) (h0 : IsD D T v0 w) (h1 : IsD D S v1 w) : Calls Tryd.prog 15 #[v0, v1] w (TmOut D w (appT T S)) := by
  have H0 := hide h0
  obtain ⟨a0, b0, c0, d0, e0, rfl, _⟩ := h0
  have H1 := hide h1
  obtain ⟨a1, b1, c1, d1, e1, rfl, _⟩ := h1
  have HDD := hide hD
  clear hD
  go_enter Tryd.func15, Tryd.ntmps15
  go_upto_region 1 with fail
  obtain ⟨g0, g1, g2, gb, gs⟩ := alloc3 w (.cells #[.int .i64 a0, .int .i64 b0, .slice c0 d0 e0] 26) (.cells #[.int .i64 a1, .int .i64 b1, .slice c1 d1 e1] 26) (.cells #[.int .i64 0, .int .i64 0, .slice none 0 0] 26)
  obtain ⟨W, hW⟩ : ∃ W, W = (((w.alloc (.cells #[.int .i64 a0, .int .i64 b0, .slice c0 d0 e0] 26)).alloc (.cells #[.int .i64 a1, .int .i64 b1, .slice c1 d1 e1] 26)).alloc (.cells #[.int .i64 0, .int .i64 0, .slice none 0 0] 26)) := ⟨_, rfl⟩
  rw [← hW] at g0 g1 g2 gb gs ⊢
  clear hW
  have GB := hide gb; have GS := hide gs
  have G0 := hide g0
  have G1 := hide g1
  have G2 := hide g2
  have P0 : Hid (IsD (fun k => D k ∧ k ≠ w.heap.size + 2) T _ W) := hide ((H0.out.mono (fun k hk h => ⟨h, by omega⟩)).keep gb)
  have P1 : Hid (IsD (fun k => D k ∧ k ≠ w.heap.size + 2) S _ W) := hide ((H1.out.mono (fun k hk h => ⟨h, by omega⟩)).keep gb)
  have HD1 : Hid (∀ k, W.heap.size ≤ k → (fun k => D k ∧ k ≠ w.heap.size + 2) k) := hide (fun k hk => ⟨HDD.out k (by omega), by omega⟩)
  clear g0 g1 g2 gb gs
  refine wp_plain_last (by kernel_rfl) 4 (by kernel_rfl) (fun vs => { tmps := #[Value.agg #[Value.int IntKind.i64 a0, Value.int IntKind.i64 b0, Value.slice c0 d0 e0], Value.agg #[Value.int IntKind.i64 a1, Value.int IntKind.i64 b1, Value.slice c1 d1 e1], Value.pointer (some ⟨w.heap.size, 0, none⟩), Value.pointer (some ⟨w.heap.size + 1, 0, none⟩), Value.pointer (some ⟨w.heap.size + 1 + 1, 0, none⟩), vs 0, vs 1, vs 2, vs 3], defers := [] }) (fun i => [undef, undef, undef, undef, undef].getD i undef) (app_F (fun k => D k ∧ k ≠ w.heap.size + 2) T S) (app_F.keep (fun k => D k ∧ k ≠ w.heap.size + 2) T S) (BoxR (fun k => D k ∧ k ≠ w.heap.size + 2) W (w.heap.size + 2) (appT T S)) ?_ ?_
  · refine ⟨LastStep.early (by decide) ?_, LastStep.early (by decide) ?_, LastStep.early (by decide) ?_, LastStep.early (by decide) ?_, LastStep.last ?_, trivial⟩
    · intro vs wx K hb hd hK
      obtain ⟨c0, c1, c2⟩ := blk3 ((hb.block _ (size_of_block G0.out)).trans G0.out)
      have HBX := hide hb
      clear hb hd
      go_simp
      exact hK _ _ (Below.refl _ _) (P0.out.keep HBX.out)
    · intro vs wx K hb hd hK
      obtain ⟨c0, c1, c2⟩ := blk3 ((hb.block _ (size_of_block G1.out)).trans G1.out)
      have HBX := hide hb
      clear hb hd
      go_simp
      exact hK _ _ (Below.refl _ _) (P1.out.keep HBX.out)
    · intro vs wx K hb hd hK
      have tm0 := hd ⟨0, .data⟩ (by simp) rfl
      have HX0 := hide tm0
      obtain ⟨p0_0, p1_0, pa_0, pl_0, pc_0, e0, _⟩ := tm0
      rw [e0] at HX0
      have tm1 := hd ⟨1, .data⟩ (by simp) rfl
      have HX1 := hide tm1
      obtain ⟨p0_1, p1_1, pa_1, pl_1, pc_1, e1, _⟩ := tm1
      rw [e1] at HX1
      obtain ⟨vs, rfl⟩ := put_of (show vs 0 = _ from e0)
      obtain ⟨vs, rfl⟩ := put_of (show vs 1 = _ from e1)
      clear e0 e1
      have HBX := hide hb
      clear hb hd
      go_simp
      exact hK _ _ (later_alloc _ _) (row2 (fun k hk => HD1.out k (Nat.le_trans HBX.out.size hk)) HX0.out HX1.out)
    · intro vs wx K hb hd hK
      have tm2 := hd ⟨2, .data⟩ (by simp) rfl
      have HX2 := hide tm2
      obtain ⟨ra_2, rf_2, e2, _⟩ := tm2
      rw [e2] at HX2
      simp only [List.length_cons, List.length_nil, Nat.zero_add, Nat.reduceAdd] at e2 HX2
      obtain ⟨vs, rfl⟩ := put_of (show vs 2 = _ from e2)
      clear e2
      have HBX := hide hb
      clear hb hd
      go_simp
      refine (e_t (D := (fun k => D k ∧ k ≠ w.heap.size + 2)) ⟨by decide, by decide⟩ HX2.out).mono ?_
      rintro e w7 ⟨u, rfl, hu, hb7⟩
      exact hK _ _ hb7 hu
    · intro vs wx K hb hF hK
      have tm := hF 3 (by decide)
      have HX := hide tm
      obtain ⟨p0, p1, pa, pl, pc, e, _⟩ := tm
      rw [e] at HX
      obtain ⟨vs, rfl⟩ := put_of (show vs 3 = _ from e)
      clear e hF
      have y := (hb.block _ (size_of_block G2.out)).trans G2.out
      obtain ⟨y0, y1, y2⟩ := blk3 y
      obtain ⟨z0, z1, z2⟩ := frz3 y
      have HBX := hide hb; have HY := hide y
      clear hb y
      go_simp
      exact hK (put vs 3 (.agg #[.int .i64 p0, .int .i64 p1, .slice pa pl pc])) _ ⟨p0, p1, pa, pl, pc, wx, rfl, HBX.out, HX.out, HY.out⟩
  · intro vs wx hR
    obtain ⟨p0, p1, pa, pl, pc, w9, rfl, hb, ht, hq⟩ := hR
    obtain ⟨y0, y1, y2⟩ := blk3 hq
    have HO := hide (box_out (q := w.heap.size + 2) (by omega) GB.out hb ht)
    clear hb ht hq
    go_wp2_with fail
    refine bodyPost_ret (v := .agg #[.int .i64 p0, .int .i64 p1, .slice pa pl pc]) (by simp [results, Tryd.results15, go_sem, y0, y1, y2]) rfl HO.out

def plus_F (D : Nat → Prop) (T S : Tr) : Nat → Value → World → Prop
  | 0 => fun v w => IsD D (natT) v w
  | 1 => fun v w => IsD D (S) v w
  | 2 => fun v w => IsD D (⟨1, 0, []⟩) v w
  | 3 => fun v w => IsR D [⟨1, 0, []⟩] v w
  | 4 => fun v w => IsD D (⟨12, 0, [⟨1, 0, []⟩]⟩) v w
  | 5 => fun v w => IsD D (T) v w
  | 6 => fun v w => IsR D [natT, S, ⟨12, 0, [⟨1, 0, []⟩]⟩, T] v w
  | 7 => fun v w => IsD D (⟨13, 0, [natT, S, ⟨12, 0, [⟨1, 0, []⟩]⟩, T]⟩) v w
  | _ => fun _ _ => True
theorem plus_F.keep (D : Nat → Prop) (T S : Tr) (i : Nat) (v : Value) (w w' : World) (h : plus_F D T S i v w) (hb : Below w.heap.size w w') : plus_F D T S i v w' := by
  unfold plus_F at *
  split at h <;> first | exact h | exact IsD.keep h hb | exact IsR.keep h hb | (obtain ⟨u, e, h⟩ := h; exact ⟨u, e, h.keep hb⟩)
set_option maxRecDepth 20000 in
set_option maxHeartbeats 1000000 in
theorem e_plus {D : Nat → Prop} {T S : Tr} {v0 v1 : Value} {w : World} (hD : ∀ k, w.heap.size ≤ k → D k) (h0 : IsD D T v0 w) (h1 : IsD D S v1 w) : Calls Tryd.prog 11 #[v0, v1] w (TmOut D w (plusT T S)) := by
  have H0 := hide h0
  obtain ⟨a0, b0, c0, d0, e0, rfl, _⟩ := h0
  have H1 := hide h1
  obtain ⟨a1, b1, c1, d1, e1, rfl, _⟩ := h1
  have HDD := hide hD
  clear hD
  go_enter Tryd.func11, Tryd.ntmps11
  go_upto_region 1 with fail
  obtain ⟨g0, g1, g2, gb, gs⟩ := alloc3 w (.cells #[.int .i64 a0, .int .i64 b0, .slice c0 d0 e0] 26) (.cells #[.int .i64 a1, .int .i64 b1, .slice c1 d1 e1] 26) (.cells #[.int .i64 0, .int .i64 0, .slice none 0 0] 26)
  obtain ⟨W, hW⟩ : ∃ W, W = (((w.alloc (.cells #[.int .i64 a0, .int .i64 b0, .slice c0 d0 e0] 26)).alloc (.cells #[.int .i64 a1, .int .i64 b1, .slice c1 d1 e1] 26)).alloc (.cells #[.int .i64 0, .int .i64 0, .slice none 0 0] 26)) := ⟨_, rfl⟩
  rw [← hW] at g0 g1 g2 gb gs ⊢
  clear hW
  have GB := hide gb; have GS := hide gs
  have G0 := hide g0
  have G1 := hide g1
  have G2 := hide g2
  have P0 : Hid (IsD (fun k => D k ∧ k ≠ w.heap.size + 2) T _ W) := hide ((H0.out.mono (fun k hk h => ⟨h, by omega⟩)).keep gb)
  have P1 : Hid (IsD (fun k => D k ∧ k ≠ w.heap.size + 2) S _ W) := hide ((H1.out.mono (fun k hk h => ⟨h, by omega⟩)).keep gb)
  have HD1 : Hid (∀ k, W.heap.size ≤ k → (fun k => D k ∧ k ≠ w.heap.size + 2) k) := hide (fun k hk => ⟨HDD.out k (by omega), by omega⟩)
  clear g0 g1 g2 gb gs
  refine wp_drawn_last (by kernel_rfl) (by kernel_rfl) 8 (by kernel_rfl) (by kernel_rfl) (fun vs => { tmps := #[Value.agg #[Value.int IntKind.i64 a0, Value.int IntKind.i64 b0, Value.slice c0 d0 e0], Value.agg #[Value.int IntKind.i64 a1, Value.int IntKind.i64 b1, Value.slice c1 d1 e1], Value.pointer (some ⟨w.heap.size, 0, none⟩), Value.pointer (some ⟨w.heap.size + 1, 0, none⟩), Value.pointer (some ⟨w.heap.size + 1 + 1, 0, none⟩), vs 0, vs 1, vs 2, vs 3, vs 4, vs 5, vs 6, vs 7], defers := [] }) (fun i => [undef, undef, undef, undef, undef, undef, undef, undef, undef].getD i undef) (plus_F (fun k => D k ∧ k ≠ w.heap.size + 2) T S) (plus_F.keep (fun k => D k ∧ k ≠ w.heap.size + 2) T S) (BoxR (fun k => D k ∧ k ≠ w.heap.size + 2) W (w.heap.size + 2) (plusT T S)) ?_ ?_
  · refine ⟨LastStep.early (by decide) ?_, LastStep.early (by decide) ?_, LastStep.early (by decide) ?_, LastStep.early (by decide) ?_, LastStep.early (by decide) ?_, LastStep.early (by decide) ?_, LastStep.early (by decide) ?_, LastStep.early (by decide) ?_, LastStep.last ?_, trivial⟩
    · intro vs wx K hb hd hK
      have HBX := hide hb
      clear hb hd
      go_simp
      refine (e_nat (D := (fun k => D k ∧ k ≠ w.heap.size + 2)) (fun k hk => HD1.out k (Nat.le_trans HBX.out.size hk))).mono ?_
      rintro e w7 ⟨u, rfl, hu, hb7⟩
      exact hK _ _ hb7 hu
    · intro vs wx K hb hd hK
      obtain ⟨c0, c1, c2⟩ := blk3 ((hb.block _ (size_of_block G1.out)).trans G1.out)
      have HBX := hide hb
      clear hb hd
      go_simp
      exact hK _ _ (Below.refl _ _) (P1.out.keep HBX.out)
    · intro vs wx K hb hd hK
      have HBX := hide hb
      clear hb hd
      go_simp
      refine (e_v (D := (fun k => D k ∧ k ≠ w.heap.size + 2)) ⟨by decide, by decide⟩ _).mono ?_
      rintro e w7 ⟨u, rfl, hu, hb7⟩
      exact hK _ _ hb7 hu
    · intro vs wx K hb hd hK
      have tm2 := hd ⟨2, .data⟩ (by simp) rfl
      have HX2 := hide tm2
      obtain ⟨p0_2, p1_2, pa_2, pl_2, pc_2, e2, _⟩ := tm2
      rw [e2] at HX2
      obtain ⟨vs, rfl⟩ := put_of (show vs 2 = _ from e2)
      clear e2
      have HBX := hide hb
      clear hb hd
      go_simp
      exact hK _ _ (later_alloc _ _) (row1 (fun k hk => HD1.out k (Nat.le_trans HBX.out.size hk)) HX2.out)
    · intro vs wx K hb hd hK
      have tm3 := hd ⟨3, .data⟩ (by simp) rfl
      have HX3 := hide tm3
      obtain ⟨ra_3, rf_3, e3, _⟩ := tm3
      rw [e3] at HX3
      simp only [List.length_cons, List.length_nil, Nat.zero_add] at e3 HX3
      obtain ⟨vs, rfl⟩ := put_of (show vs 3 = _ from e3)
      clear e3
      have HBX := hide hb
      clear hb hd
      go_simp
      refine (e_t (D := (fun k => D k ∧ k ≠ w.heap.size + 2)) ⟨by decide, by decide⟩ HX3.out).mono ?_
      rintro e w7 ⟨u, rfl, hu, hb7⟩
      exact hK _ _ hb7 hu
    · intro vs wx K hb hd hK
      obtain ⟨c0, c1, c2⟩ := blk3 ((hb.block _ (size_of_block G0.out)).trans G0.out)
      have HBX := hide hb
      clear hb hd
      go_simp
      exact hK _ _ (Below.refl _ _) (P0.out.keep HBX.out)
    · intro vs wx K hb hd hK
      have tm0 := hd ⟨0, .data⟩ (by simp) rfl
      have HX0 := hide tm0
      obtain ⟨p0_0, p1_0, pa_0, pl_0, pc_0, e0, _⟩ := tm0
      rw [e0] at HX0
      have tm1 := hd ⟨1, .data⟩ (by simp) rfl
      have HX1 := hide tm1
      obtain ⟨p0_1, p1_1, pa_1, pl_1, pc_1, e1, _⟩ := tm1
      rw [e1] at HX1
      have tm4 := hd ⟨4, .data⟩ (by simp) rfl
      have HX4 := hide tm4
      obtain ⟨p0_4, p1_4, pa_4, pl_4, pc_4, e4, _⟩ := tm4
      rw [e4] at HX4
      have tm5 := hd ⟨5, .data⟩ (by simp) rfl
      have HX5 := hide tm5
      obtain ⟨p0_5, p1_5, pa_5, pl_5, pc_5, e5, _⟩ := tm5
      rw [e5] at HX5
      obtain ⟨vs, rfl⟩ := put_of (show vs 0 = _ from e0)
      obtain ⟨vs, rfl⟩ := put_of (show vs 1 = _ from e1)
      obtain ⟨vs, rfl⟩ := put_of (show vs 4 = _ from e4)
      obtain ⟨vs, rfl⟩ := put_of (show vs 5 = _ from e5)
      clear e0 e1 e4 e5
      have HBX := hide hb
      clear hb hd
      go_simp
      exact hK _ _ (later_alloc _ _) (row4 (fun k hk => HD1.out k (Nat.le_trans HBX.out.size hk)) HX0.out HX1.out HX4.out HX5.out)
    · intro vs wx K hb hd hK
      have tm6 := hd ⟨6, .data⟩ (by simp) rfl
      have HX6 := hide tm6
      obtain ⟨ra_6, rf_6, e6, _⟩ := tm6
      rw [e6] at HX6
      simp only [List.length_cons, List.length_nil, Nat.zero_add, Nat.reduceAdd] at e6 HX6
      obtain ⟨vs, rfl⟩ := put_of (show vs 6 = _ from e6)
      clear e6
      have HBX := hide hb
      clear hb hd
      go_simp
      refine (e_t (D := (fun k => D k ∧ k ≠ w.heap.size + 2)) ⟨by decide, by decide⟩ HX6.out).mono ?_
      rintro e w7 ⟨u, rfl, hu, hb7⟩
      exact hK _ _ hb7 hu
    · intro vs wx K hb hF hK
      have tm := hF 7 (by decide)
      have HX := hide tm
      obtain ⟨p0, p1, pa, pl, pc, e, _⟩ := tm
      rw [e] at HX
      obtain ⟨vs, rfl⟩ := put_of (show vs 7 = _ from e)
      clear e hF
      have y := (hb.block _ (size_of_block G2.out)).trans G2.out
      obtain ⟨y0, y1, y2⟩ := blk3 y
      obtain ⟨z0, z1, z2⟩ := frz3 y
      have HBX := hide hb; have HY := hide y
      clear hb y
      go_simp
      exact hK (put vs 7 (.agg #[.int .i64 p0, .int .i64 p1, .slice pa pl pc])) _ ⟨p0, p1, pa, pl, pc, wx, rfl, HBX.out, HX.out, HY.out⟩
  · intro vs wx hR
    obtain ⟨p0, p1, pa, pl, pc, w9, rfl, hb, ht, hq⟩ := hR
    obtain ⟨y0, y1, y2⟩ := blk3 hq
    have HO := hide (box_out (q := w.heap.size + 2) (by omega) GB.out hb ht)
    clear hb ht hq
    go_wp2_with fail
    refine bodyPost_ret (v := .agg #[.int .i64 p0, .int .i64 p1, .slice pa pl pc]) (by simp [results, Tryd.results11, go_sem, y0, y1, y2]) rfl HO.out

def times_F (D : Nat → Prop) (T S : Tr) : Nat → Value → World → Prop
  | 0 => fun v w => IsD D (natT) v w
  | 1 => fun v w => IsD D (⟨11, 0, []⟩) v w
  | 2 => fun v w => IsD D (S) v w
  | 3 => fun v w => IsD D (shf 2 0 0 (S)) v w
  | 4 => fun v w => IsD D (⟨1, 0, []⟩) v w
  | 5 => fun v w => IsD D (plusT (shf 2 0 0 (S)) (⟨1, 0, []⟩)) v w
  | 6 => fun v w => IsD D (T) v w
  | 7 => fun v w => IsR D [natT, ⟨11, 0, []⟩, plusT (shf 2 0 0 (S)) (⟨1, 0, []⟩), T] v w
  | 8 => fun v w => IsD D (⟨13, 0, [natT, ⟨11, 0, []⟩, plusT (shf 2 0 0 (S)) (⟨1, 0, []⟩), T]⟩) v w
  | _ => fun _ _ => True
theorem times_F.keep (D : Nat → Prop) (T S : Tr) (i : Nat) (v : Value) (w w' : World) (h : times_F D T S i v w) (hb : Below w.heap.size w w') : times_F D T S i v w' := by
  unfold times_F at *
  split at h <;> first | exact h | exact IsD.keep h hb | exact IsR.keep h hb | (obtain ⟨u, e, h⟩ := h; exact ⟨u, e, h.keep hb⟩)
end Go.Proofs.YtjiecahopdaghabDoor
