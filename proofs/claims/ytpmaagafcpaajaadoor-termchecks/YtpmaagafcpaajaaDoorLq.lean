/- The walk of TermChecks. -/
import Derived.Test.YtpmaagafcpaajaaDoorLc
import Derived.Test.YtpmaagafcpaajaaDoorTq
import Derived.Test.YtpmaagafcpaajaaDoorCc
import Derived.Test.YtpmaagafcpaajaaDoorRk
import Derived.Test.YtpmaagafcpaajaaDoorPl
import Derived.Test.YtpmaagafcpaajaaDoorLe
import Derived.Test.YtpmaagafcpaajaaDoorOx
namespace Go.Proofs.YtpmaagafcpaajaaDoor
open Go.RowKit
attribute [local go_sem] put

def ckF (T : Tr) (at_ op n : Int) : Nat → Value → World → (Nat → Prop) → Prop
  | 0 => fun v w M => IsM 7 T v w M
  | 1 => fun v _ _ => v = .int .i64 at_
  | 2 => fun v w M => IsM 7 T v w M
  | 3 => fun v _ _ => v = .int .i64 (T.size : Nat)
  | 4 => fun v _ _ => v = .int .i64 (wi at_ (T.size : Nat))
  | 5 => fun v _ _ => v = .int .i64 op
  | 6 => fun v _ _ => v = .int .i64 (wi op 33)
  | 7 => fun v _ _ => v = .int .i64 (wi op 33 - 1)
  | 8 => fun v _ _ => v = .int .i64 n
  | 9 => fun v w M => ∃ X, IsM 7 X v w M
  | _ => fun _ _ _ => True
theorem ckF.keep (T : Tr) (at_ op n : Int) (k : Nat) (v : Value) (w w' : World) (M M' : Nat → Prop) (h : ckF T at_ op n k v w M) (hf : Fr M w w') (hM : ∀ q, q < w.heap.size → (M' q ↔ M q)) : ckF T at_ op n k v w' M' := by
  unfold ckF at *
  split at h <;> first | exact h | exact IsM.keep h hf hM | (obtain ⟨X, hX⟩ := h; exact ⟨X, hX.keep hf hM⟩)

/-- A row of three terms. -/
def Three (v : Value) (w : World) : Prop := ∃ q, v = .slice (some ⟨q, 0, none⟩) 3 3 ∧ q < w.heap.size ∧ ∀ i, i < 3 → ∃ (g : Nat) (t : Tr) (p0 p1 : Int) (pa : Option Addr) (pl pc : Nat), w.cell? ⟨q, i * 3, none⟩ = some (.int .i64 p0) ∧ w.cell? ⟨q, i * 3 + 1, none⟩ = some (.int .i64 p1) ∧ w.cell? ⟨q, i * 3 + 2, none⟩ = some (.slice pa pl pc) ∧ TmAt w w.heap.size g t (.agg #[.int .i64 p0, .int .i64 p1, .slice pa pl pc])
theorem Three.keep {v : Value} {w w' : World} (h : Three v w) (hb : Below w.heap.size w w') : Three v w' := by
  obtain ⟨q, e, hq, h⟩ := h
  refine ⟨q, e, Nat.lt_of_lt_of_le hq hb.size, fun i hi => ?_⟩
  obtain ⟨g, t, p0, p1, pa, pl, pc, c0, c1, c2, ht⟩ := h i hi
  exact ⟨g, t, p0, p1, pa, pl, pc, (hb.cell (p := ⟨q, i * 3, none⟩) hq).trans c0, (hb.cell (p := ⟨q, i * 3 + 1, none⟩) hq).trans c1, (hb.cell (p := ⟨q, i * 3 + 2, none⟩) hq).trans c2, TmAt.below ht hb (Nat.le_refl _) hb.size⟩
def cgF (f : Nat) (T X r : Tr) : Nat → Value → World → Prop
  | 0 => fun v w => IsT 7 T v w
  | 1 => fun v w => IsT 7 X v w
  | 2 => fun v w => IsT f r v w
  | 3 => fun v w => IsT f r.plain v w
  | 4 => fun v w => Three v w
  | 5 => fun v w => Three v w
  | _ => fun _ _ => True
theorem cgF.keep (f : Nat) (T X r : Tr) (k : Nat) (v : Value) (w w' : World) (h : cgF f T X r k v w) (hb : Below w.heap.size w w') : cgF f T X r k v w' := by
  unfold cgF at *
  split at h <;> first | exact h | exact IsT.keep h hb | exact Three.keep h hb
def chF (q k : Nat) (x : Value) (c : Int) : Nat → Value → World → Prop
  | 0 => fun v _ => v = .slice (some ⟨q, 0, none⟩) 3 3
  | 1 => fun v _ => v = .int .i64 k
  | 2 => fun v _ => v = .pointer (some ⟨q, k * 3, none⟩)
  | 3 => fun v _ => v = x
  | 4 => fun v _ => v = .int .i64 c
  | 5 => fun v _ => v = .slice (some ⟨q, 0, none⟩) 3 3
  | 6 => fun v _ => v = .int .i64 k
  | 7 => fun v _ => v = .pointer (some ⟨q, k * 3, none⟩)
  | 8 => fun v _ => v = x
  | 9 => fun v _ => v = .int .i64 c
  | 10 => fun v _ => v = .bool false
  | _ => fun _ _ => True
theorem chF.keep (q k : Nat) (x : Value) (c : Int) (i : Nat) (v : Value) (w w' : World) (h : chF q k x c i v w) (_ : Below w.heap.size w w') : chF q k x c i v w' := by
  unfold chF at *
  split at h <;> exact h
theorem three_of {w : World} {t0 t1 x0 x1 y0 y1 : Int} {ta xa ya : Option Addr} {tl tc xl xc yl yc f : Nat} {T X Y : Tr} (hT : IsT 7 T (.agg #[.int .i64 t0, .int .i64 t1, .slice ta tl tc]) w) (hX : IsT 7 X (.agg #[.int .i64 x0, .int .i64 x1, .slice xa xl xc]) w) (hY : IsT f Y (.agg #[.int .i64 y0, .int .i64 y1, .slice ya yl yc]) w) :
    Three (.slice (some ⟨w.heap.size, 0, none⟩) 3 3) (w.alloc (.cells #[.int .i64 t0, .int .i64 t1, .slice ta tl tc, .int .i64 x0, .int .i64 x1, .slice xa xl xc, .int .i64 y0, .int .i64 y1, .slice ya yl yc] 29)) := by
  have hb := later_alloc w (.cells #[.int .i64 t0, .int .i64 t1, .slice ta tl tc, .int .i64 x0, .int .i64 x1, .slice xa xl xc, .int .i64 y0, .int .i64 y1, .slice ya yl yc] 29)
  have hn := heap_alloc_new w (.cells #[.int .i64 t0, .int .i64 t1, .slice ta tl tc, .int .i64 x0, .int .i64 x1, .slice xa xl xc, .int .i64 y0, .int .i64 y1, .slice ya yl yc] 29)
  refine ⟨_, rfl, by simp, fun i hi => ?_⟩
  match i, hi with
  | 0, _ => exact ⟨7, T, t0, t1, ta, tl, tc, cell_of_block hn 0, cell_of_block hn 1, cell_of_block hn 2, TmAt.below hT.tm hb (Nat.le_refl _) hb.size⟩
  | 1, _ => exact ⟨7, X, x0, x1, xa, xl, xc, cell_of_block hn 3, cell_of_block hn 4, cell_of_block hn 5, TmAt.below hX.tm hb (Nat.le_refl _) hb.size⟩
  | 2, _ => exact ⟨f, Y, y0, y1, ya, yl, yc, cell_of_block hn 6, cell_of_block hn 7, cell_of_block hn 8, TmAt.below hY.tm hb (Nat.le_refl _) hb.size⟩
  | i + 3, h => exact absurd h (by omega)

set_option maxRecDepth 20000 in
set_option maxHeartbeats 4000000 in
theorem checks_any (B f : Nat) (r0 : Tr) (v0 : Value) (at_ op n kid : Int) (w : World) (h0 : TmAt w B f r0 v0) (hB : B ≤ w.heap.size) (ht : Tabs w.heap.size w) (hl : Tl w) (hb : Tb w) (hk : Tk w) (h64 : I64 n) :
    Calls Tryd.prog 3 #[v0, .int .i64 at_, .int .i64 op, .int .i64 n, .int .i64 kid] w fun e w' => e = .returned (.bool true) ∧ Below w.heap.size w w' := by
  have HTK := hide hk; have H64 := hide h64
  clear hk h64
  have HR0 := hide (raw64_of h0)
  have H0 := hide h0
  obtain ⟨a0, z0, rfl, _, _, o0, n0⟩ := h0.shape
  clear h0
  have HT := hide ht; have HL := hide hl; have HTB := hide hb
  clear ht hl hb
  have HA : Hid (Below w.heap.size w (w.alloc (.cells #[.int .i64 r0.op, .int .i64 r0.n, .slice a0 r0.kids.length z0] 24))) := ((Below.refl w.heap.size w).alloc (Nat.le_refl _) _)
  go_enter Tryd.func3, Tryd.ntmps3
  go_wp2_with fail
  refine (known_any _ (HT.out.later HA.out) (HL.out.later HA.out)).mono ?_
  rintro e w1 ⟨rfl, hb1⟩
  have hb1 : Below (w.heap.size + 1) (w.alloc (.cells #[.int .i64 r0.op, .int .i64 r0.n, .slice a0 r0.kids.length z0] 24)) w1 := by rw [World.size_alloc] at hb1; exact hb1
  have hbl := below_box hb1
  have k0 := (hb1.block w.heap.size (by omega)).trans (heap_alloc_new w _)
  have hs1 : w.heap.size + 1 ≤ w1.heap.size := by have := hb1.size; rw [World.size_alloc] at this; exact this
  have HB1 := hide hbl; have HK0_1 := hide k0
  clear hb1 hbl k0
  obtain ⟨c0, c1, c2⟩ := blk3 HK0_1.out
  go_wp2_with fail
  refine (few_any B f r0 _ w1 (TmAt.below H0.out HB1.out hB (Nat.le_refl _)) (Nat.le_trans hB HB1.out.size)).mono ?_
  rintro e w2 ⟨rfl, hb2⟩
  have HB2 : Hid (Below w.heap.size w w2) := HB1.out.trans (hb2.mono HB1.out.size)
  have hs2 := hb2.size
  have HK0_2 := hide ((hb2.block _ (size_of_block HK0_1.out)).trans HK0_1.out)
  clear hb2 c0 c1 c2 HK0_1
  by_cases hq0 : r0.size < 300
  rotate_left
  · rw [decide_eq_false hq0]
    go_wp2_with fail
    go_ret
    exact ⟨rfl, HB2.out⟩
  rw [decide_eq_true hq0]
  have HR0T : Hid (TmAt w2 w2.heap.size f r0 (.agg #[.int .i64 r0.op, .int .i64 r0.n, .slice a0 r0.kids.length z0])) := TmAt.below H0.out HB2.out hB (Nat.le_trans hB HB2.out.size)
  obtain ⟨c0, c1, c2⟩ := blk3 HK0_2.out
  go_wp2_with fail
  refine (c_make (d := 6) (vars := 3) (fun _ => False) (fun _ h => h.elim) HR0T.out (Nat.le_refl _) (by decide) (by decide) (by decide)).mono ?_
  rintro e w3 ⟨u, rfl, ⟨t0, t1, ta, tl, tc, rfl, tm3⟩, hb3⟩
  have hs3 := hb3.size
  have HTT3 : Hid (TmAt w3 w3.heap.size 7 (mkT 6 3 r0) (.agg #[.int .i64 t0, .int .i64 t1, .slice ta tl tc])) := hide (tm3.keep (fun _ _ => rfl) (fun q hq => hq.1) _ _ _)
  have HK3 := hide ((hb3.block _ (size_of_block HK0_2.out)).trans HK0_2.out)
  have HB3 : Hid (Below w.heap.size w w3) := HB2.out.trans (hb3.mono HB2.out.size)
  have HR3 : Hid (TmAt w3 w3.heap.size f r0 (.agg #[.int .i64 r0.op, .int .i64 r0.n, .slice a0 r0.kids.length z0])) := TmAt.below HR0T.out hb3 (Nat.le_refl _) hb3.size
  clear hb3 tm3 c0 c1 c2 HK0_2 HR0T
  go_wp2_with fail
  have GT : Hid (Gd 7 (mkT 6 3 r0) ∧ Shp (mkT 6 3 r0) ∧ (mkT 6 3 r0).size ≤ most 6) := hide (Gd.mk' (d := 6) (vars := 3) HR0.out (by decide) (by decide) (by decide))
  obtain ⟨T, hT⟩ : ∃ T, T = mkT 6 3 r0 := ⟨_, rfl⟩
  rw [← hT] at GT HTT3
  have ZT : Hid (T.size ≤ 5461) := hide GT.out.2.2
  clear hT GT
  obtain ⟨W4, hW4⟩ : ∃ W4, W4 = w3.alloc (.cells #[.int .i64 t0, .int .i64 t1, .slice ta tl tc] 29) := ⟨_, rfl⟩
  have HB34 : Hid (Below w3.heap.size w3 W4) := hide (by rw [hW4]; exact later_alloc _ _)
  have HKT : Hid (W4.heap[w3.heap.size]? = some (.cells #[.int .i64 t0, .int .i64 t1, .slice ta tl tc] 29 (0, 0))) := hide (by rw [hW4]; exact heap_alloc_new _ _)
  rw [← hW4]
  clear hW4
  have HKR : Hid (W4.heap[w.heap.size]? = _) := hide ((HB34.out.block _ (size_of_block HK3.out)).trans HK3.out)
  have HTT : Hid (TmAt W4 W4.heap.size 7 T _) := hide (TmAt.below HTT3.out HB34.out (Nat.le_refl _) HB34.out.size)
  have HTR : Hid (TmAt W4 W4.heap.size f r0 _) := hide (TmAt.below HR3.out HB34.out (Nat.le_refl _) HB34.out.size)
  have HB4 : Hid (Below w.heap.size w W4) := HB3.out.trans (HB34.out.mono HB3.out.size)
  clear HB34 HK3 HTT3 HR3 HB3
  have hwo := wi_n op 33 (by decide)
  obtain ⟨hwo0, hwo1⟩ := hwo
  have hTz := ZT.out
  have hTp := T.size_pos
  have hwa := wi_n at_ (T.size : Nat) (by omega)
  obtain ⟨hwa0, hwa1⟩ := hwa
  obtain ⟨ox, hox⟩ : ∃ ox, ox = wi op 33 := ⟨_, rfl⟩
  obtain ⟨ax, hax⟩ : ∃ ax, ax = wi at_ (T.size : Nat) := ⟨_, rfl⟩
  have HOX := hide hox; have HAX := hide hax
  rw [← hox] at hwo0 hwo1; rw [← hax] at hwa0 hwa1
  clear hox hax
  refine wp_region_boxes (by kernel_rfl) (by kernel_rfl) (fun vs => { tmps := #[Value.agg #[Value.int IntKind.i64 r0.op, Value.int IntKind.i64 r0.n, Value.slice a0 r0.kids.length z0], Value.int IntKind.i64 at_, Value.int IntKind.i64 op, Value.int IntKind.i64 n, Value.int IntKind.i64 kid, Value.pointer (some { block := w.heap.size, off := 0 }), undef, undef, undef, undef, Value.bool false, Value.pointer (some { block := w3.heap.size, off := 0 }), vs 10, undef, undef, undef, undef, Value.bool true, Value.bool false, Value.agg #[Value.int IntKind.i64 r0.op, Value.int IntKind.i64 r0.n, Value.slice a0 r0.kids.length z0], Value.bool true, Value.bool false, Value.agg #[Value.int IntKind.i64 r0.op, Value.int IntKind.i64 r0.n, Value.slice a0 r0.kids.length z0], Value.agg #[Value.int IntKind.i64 t0, Value.int IntKind.i64 t1, Value.slice ta tl tc], vs 0, vs 1, vs 2, vs 3, vs 4, vs 5, vs 6, vs 7, vs 8, vs 9, undef, undef, undef, undef, undef, undef, undef, undef, undef, undef, undef, undef, undef, undef, undef, undef, undef, undef, undef, undef, undef, undef, undef, undef, undef, undef, undef, undef, undef, undef, undef, undef, undef, undef, undef, undef, undef, undef, undef, undef, undef, undef], defers := [] }) (fun i => [undef, undef, undef, undef, undef, undef, undef, undef, undef, undef, undef, undef].getD i undef) [(10, 9, 11)] (by decide) #[.int .i64 0, .int .i64 0, .slice none 0 0] 29 (ckF T at_ op n) (ckF.keep T at_ op n) ?_ ?_
  · refine ⟨⟨fun _ => ?_, fun x hx h => absurd h (by revert x; decide), fun x hx h => absurd h (by revert x; decide)⟩, ⟨fun _ => ?_, fun x hx h => absurd h (by revert x; decide), fun x hx h => absurd h (by revert x; decide)⟩, ⟨fun _ => ?_, fun x hx h => absurd h (by revert x; decide), fun x hx h => absurd h (by revert x; decide)⟩, ⟨fun _ => ?_, fun x hx h => absurd h (by revert x; decide), fun x hx h => absurd h (by revert x; decide)⟩, ⟨fun _ => ?_, fun x hx h => absurd h (by revert x; decide), fun x hx h => absurd h (by revert x; decide)⟩, ⟨fun _ => ?_, fun x hx h => absurd h (by revert x; decide), fun x hx h => absurd h (by revert x; decide)⟩, ⟨fun _ => ?_, fun x hx h => absurd h (by revert x; decide), fun x hx h => absurd h (by revert x; decide)⟩, ⟨fun _ => ?_, fun x hx h => absurd h (by revert x; decide), fun x hx h => absurd h (by revert x; decide)⟩, ⟨fun _ => ?_, fun x hx h => absurd h (by revert x; decide), fun x hx h => absurd h (by revert x; decide)⟩, ⟨fun _ => ?_, fun x hx h => absurd h (by revert x; decide), fun x hx h => absurd h (by revert x; decide)⟩, ⟨fun h => absurd h (by unfold Plainly; decide), fun x hx h => ?_, fun x hx h => absurd h (by revert x; decide)⟩, ⟨fun h => absurd h (by unfold Plainly; decide), fun x hx h => absurd h (by revert x; decide), fun x hx h => ?_⟩, trivial⟩
    · intro vs wx M K hb hd hM hK
      obtain ⟨c0, c1, c2⟩ := cells3' hb HKT.out
      have HBX := hide hb; have HM := hide hM
      clear hb hd hM
      go_simp
      exact hK _ _ (Below.refl _ _) (IsM.old HTT.out HBX.out HM.out)
    · intro vs wx M K hb hd hM hK
      have HBX := hide hb; have HM := hide hM
      clear hb hd hM
      go_simp
      exact hK _ _ (Below.refl _ _) rfl
    · intro vs wx M K hb hd hM hK
      obtain ⟨c0, c1, c2⟩ := cells3' hb HKT.out
      have HBX := hide hb; have HM := hide hM
      clear hb hd hM
      go_simp
      exact hK _ _ (Below.refl _ _) (IsM.old HTT.out HBX.out HM.out)
    · intro vs wx M K hb hd hM hK
      have tm2 := hd ⟨2, .data⟩ (by simp) rfl (by unfold Plainly; decide)
      have HX2 := hide tm2
      obtain ⟨p0_2, p1_2, pa_2, pl_2, pc_2, e2, _⟩ := tm2
      rw [e2] at HX2
      obtain ⟨vs, rfl⟩ := put_of (show vs 2 = _ from e2)
      clear e2
      have HBX := hide hb; have HM := hide hM
      clear hb hd hM
      go_simp
      refine (e_rsize HX2.out.t (by omega)).mono ?_
      rintro e w7 ⟨rfl, hb7⟩
      exact hK _ _ hb7 rfl
    · intro vs wx M K hb hd hM hK
      obtain ⟨vs, rfl⟩ := put_of (show vs 1 = _ from hd ⟨1, .data⟩ (by simp) rfl (by unfold Plainly; decide))
      obtain ⟨vs, rfl⟩ := put_of (show vs 3 = _ from hd ⟨3, .data⟩ (by simp) rfl (by unfold Plainly; decide))
      have HBX := hide hb; have HM := hide hM
      clear hb hd hM
      go_simp
      refine (lwithin_n at_ (T.size : Nat) _ (by omega) (by omega)).mono ?_
      rintro e w7 ⟨rfl, rfl⟩
      exact hK _ _ (Below.refl _ _) rfl
    · intro vs wx M K hb hd hM hK
      have HBX := hide hb; have HM := hide hM
      clear hb hd hM
      go_simp
      exact hK _ _ (Below.refl _ _) rfl
    · intro vs wx M K hb hd hM hK
      obtain ⟨vs, rfl⟩ := put_of (show vs 5 = _ from hd ⟨5, .data⟩ (by simp) rfl (by unfold Plainly; decide))
      have HBX := hide hb; have HM := hide hM
      clear hb hd hM
      go_simp
      refine (lwithin_n op 33 _ (by decide) (by decide)).mono ?_
      rintro e w7 ⟨rfl, rfl⟩
      exact hK _ _ (Below.refl _ _) rfl
    · intro vs wx M K hb hd hM hK
      have e6 := hd ⟨6, .data⟩ (by simp) rfl (by unfold Plainly; decide)
      simp only [ckF] at e6
      rw [← HOX.out] at e6
      obtain ⟨vs, rfl⟩ := put_of (show vs 6 = _ from e6)
      have HBX := hide hb; have HM := hide hM
      clear hb hd hM
      go_simp
      refine hK _ _ (Below.refl _ _) ?_
      show Value.int .i64 _ = Value.int .i64 (wi op 33 - 1)
      rw [← HOX.out]
      exact congrArg (Value.int .i64) (by rw [IntKind.wrap_i64]; omega)
    · intro vs wx M K hb hd hM hK
      have HBX := hide hb; have HM := hide hM
      clear hb hd hM
      go_simp
      exact hK _ _ (Below.refl _ _) rfl
    · intro vs wx M K hb hd hM hK
      have tm0 := hd ⟨0, .data⟩ (by simp) rfl (by unfold Plainly; decide)
      have HX0 := hide tm0
      obtain ⟨p0_0, p1_0, pa_0, pl_0, pc_0, e0, _⟩ := tm0
      rw [e0] at HX0
      obtain ⟨vs, rfl⟩ := put_of (show vs 0 = _ from e0)
      clear e0
      have e4 := hd ⟨4, .data⟩ (by simp) rfl (by unfold Plainly; decide)
      simp only [ckF] at e4
      rw [← HAX.out] at e4
      obtain ⟨vs, rfl⟩ := put_of (show vs 4 = _ from e4)
      have e7 := hd ⟨7, .data⟩ (by simp) rfl (by unfold Plainly; decide)
      simp only [ckF] at e7
      rw [← HOX.out] at e7
      obtain ⟨vs, rfl⟩ := put_of (show vs 7 = _ from e7)
      obtain ⟨vs, rfl⟩ := put_of (show vs 8 = _ from hd ⟨8, .data⟩ (by simp) rfl (by unfold Plainly; decide))
      clear e4 e7
      have HBX := hide hb; have HM := hide hM
      clear hb hd hM
      go_simp
      obtain ⟨y0, y1, ya, yl, yc, ey, hy⟩ := HX0.out
      have HY := hide hy
      rw [← ey] at HY
      refine (turned_any 7 T _ (fun q => q < wx.heap.size ∧ ¬ M q) ax (ox - 1) n wx HY.out (fun q hq => hq.1) (by omega) hwa0 hwa1 ⟨by omega, by omega⟩ H64.out).mono ?_
      rintro e w7 ⟨X, x0, x1, xa, xl, xc, rfl, ht7, hb7⟩
      refine hK _ _ hb7 ⟨X, x0, x1, xa, xl, xc, rfl, ht7.keep (fun _ _ => rfl) (fun q hq => ?_) _ _ _⟩
      have h7 := hb7.size
      rcases hq with hq | hq
      · exact ⟨by omega, hq.2⟩
      · exact ⟨hq.2, fun h => by have := (HM.out q h).2; omega⟩
    · intro vs wx K hK
      clear hx h
      go_simp
      exact hK
    · obtain rfl : x = (10, 9, 11) := (by revert h; revert x; decide)
      refine ⟨⟨⟨10, .data⟩, by simp, rfl, rfl⟩, ⟨⟨9, .data⟩, by simp, rfl, rfl⟩, ?_⟩
      intro vs wx M K q hF hq hz hK
      obtain ⟨X, p0, p1, pa, pl, pc, e1, _⟩ := hF
      obtain ⟨vs, rfl⟩ := put_of (show vs 9 = _ from e1)
      obtain ⟨vs, rfl⟩ := put_of (show vs 10 = _ from hq)
      obtain ⟨y0, y1, y2⟩ := blk3 hz
      obtain ⟨z0, z1, z2⟩ := frz3 hz
      have HZ := hide hz
      clear hq hz hx h e1
      go_simp
      exact hK _ _ (fr_put3 _ _ _ _ _) (put3_blk HZ.out _ _ _) rfl
  · intro vs wy M hb hF hB
    obtain ⟨qX, csX, bX, lX, mX, hX, gX⟩ := hB (10, 9, 11) (by simp) (by decide) (by decide)
    obtain ⟨X, hX9⟩ := hF 9 (by decide) (by unfold Plainly; decide)
    obtain ⟨x0, x1, xa, xl, xc, rfl, tmX⟩ := IsM.box hX9 gX
    obtain ⟨vs, rfl⟩ := put_of (show vs 10 = _ from bX)
    have HKX := hide hX; have HTX := hide tmX
    have HKT2 := hide ((hb.block _ (size_of_block HKT.out)).trans HKT.out)
    have HKR2 := hide ((hb.block _ (size_of_block HKR.out)).trans HKR.out)
    have HTT2 : Hid (TmAt wy wy.heap.size 7 T _) := hide (TmAt.below HTT.out hb (Nat.le_refl _) hb.size)
    have HTR2 : Hid (TmAt wy wy.heap.size f r0 _) := hide (TmAt.below HTR.out hb (Nat.le_refl _) hb.size)
    have HB5 : Hid (Below w.heap.size w wy) := HB4.out.trans (hb.mono HB4.out.size)
    clear hb hF hB hX tmX gX bX hX9 HKT HKR HTT HTR HB4
    simp only [put, Nat.reduceEqDiff, reduceIte, ptr]
    generalize vs 0 = s0; generalize vs 1 = s1; generalize vs 2 = s2; generalize vs 3 = s3; generalize vs 4 = s4; generalize vs 5 = s5; generalize vs 6 = s6; generalize vs 7 = s7; generalize vs 8 = s8; generalize vs 9 = s9
    clear vs
    go_wp2_with fail
    refine wp_region_vals (by kernel_rfl) (by kernel_rfl) (fun vs => { tmps := #[Value.agg #[Value.int IntKind.i64 r0.op, Value.int IntKind.i64 r0.n, Value.slice a0 r0.kids.length z0], Value.int IntKind.i64 at_, Value.int IntKind.i64 op, Value.int IntKind.i64 n, Value.int IntKind.i64 kid, Value.pointer (some { block := w.heap.size, off := 0 }), undef, undef, undef, undef, Value.bool false, Value.pointer (some { block := w3.heap.size, off := 0 }), Value.pointer (some { block := qX, off := 0 }), vs 5, undef, undef, undef, Value.bool true, Value.bool false, Value.agg #[Value.int IntKind.i64 r0.op, Value.int IntKind.i64 r0.n, Value.slice a0 r0.kids.length z0], Value.bool true, Value.bool false, Value.agg #[Value.int IntKind.i64 r0.op, Value.int IntKind.i64 r0.n, Value.slice a0 r0.kids.length z0], Value.agg #[Value.int IntKind.i64 t0, Value.int IntKind.i64 t1, Value.slice ta tl tc], s0, s1, s2, s3, s4, s5, s6, s7, s8, s9, vs 0, vs 1, vs 2, vs 3, vs 4, undef, undef, undef, undef, undef, undef, undef, undef, undef, undef, undef, undef, undef, undef, undef, undef, undef, undef, undef, undef, undef, undef, undef, undef, undef, undef, undef, undef, undef, undef, undef, undef, undef, undef, undef, undef, undef], defers := [] }) (fun i => [undef, undef, undef, undef, undef, undef].getD i undef) (cgF f T X r0) (cgF.keep f T X r0) ?_ ?_
    · refine ⟨?_, ?_, ?_, ?_, ?_, ?_, trivial⟩
      · intro vs wx K hb hd hK
        obtain ⟨c0, c1, c2⟩ := cells3' hb HKT2.out
        have HBX := hide hb
        clear hb hd
        go_simp
        exact hK _ _ (Below.refl _ _) ⟨_, _, _, _, _, rfl, TmAt.below HTT2.out HBX.out (Nat.le_refl _) HBX.out.size⟩
      · intro vs wx K hb hd hK
        obtain ⟨c0, c1, c2⟩ := cells3' hb HKX.out
        have HBX := hide hb
        clear hb hd
        go_simp
        exact hK _ _ (Below.refl _ _) ⟨_, _, _, _, _, rfl, TmAt.below HTX.out HBX.out (Nat.le_refl _) HBX.out.size⟩
      · intro vs wx K hb hd hK
        obtain ⟨c0, c1, c2⟩ := cells3' hb HKR2.out
        have HBX := hide hb
        clear hb hd
        go_simp
        exact hK _ _ (Below.refl _ _) ⟨_, _, _, _, _, rfl, TmAt.below HTR2.out HBX.out (Nat.le_refl _) HBX.out.size⟩
      · intro vs wx K hb hd hK
        have tm2 := hd ⟨2, .data⟩ (by simp) rfl 
        have HX2 := hide tm2
        obtain ⟨p0_2, p1_2, pa_2, pl_2, pc_2, e2, _⟩ := tm2
        rw [e2] at HX2
        obtain ⟨vs, rfl⟩ := put_of (show vs 2 = _ from e2)
        clear e2
        have HBX := hide hb
        clear hb hd
        go_simp
        refine (plain_any wx.heap.size f r0 _ wx HX2.out.tm (Nat.le_refl _)).mono ?_
        rintro e w7 ⟨y0, y1, ya, yl, yc, rfl, ht7, hb7⟩
        exact hK _ _ hb7 ⟨_, _, _, _, _, rfl, ht7.keep (fun _ _ => rfl) (fun q hq => hq.2) _ _ _⟩
      · intro vs wx K hb hd hK
        have tm0 := hd ⟨0, .data⟩ (by simp) rfl 
        have HX0 := hide tm0
        obtain ⟨p0_0, p1_0, pa_0, pl_0, pc_0, e0, _⟩ := tm0
        rw [e0] at HX0
        obtain ⟨vs, rfl⟩ := put_of (show vs 0 = _ from e0)
        clear e0
        have tm1 := hd ⟨1, .data⟩ (by simp) rfl 
        have HX1 := hide tm1
        obtain ⟨p0_1, p1_1, pa_1, pl_1, pc_1, e1, _⟩ := tm1
        rw [e1] at HX1
        obtain ⟨vs, rfl⟩ := put_of (show vs 1 = _ from e1)
        clear e1
        have tm3 := hd ⟨3, .data⟩ (by simp) rfl 
        have HX3 := hide tm3
        obtain ⟨p0_3, p1_3, pa_3, pl_3, pc_3, e3, _⟩ := tm3
        rw [e3] at HX3
        obtain ⟨vs, rfl⟩ := put_of (show vs 3 = _ from e3)
        clear e3
        have HBX := hide hb
        clear hb hd
        go_simp
        exact hK _ _ (later_alloc _ _) (three_of HX0.out HX1.out HX3.out)
      · intro vs wx K hb hd hK
        have h4 := hd ⟨4, .data⟩ (by simp) rfl
        have H4 := hide h4
        obtain ⟨q, e4, _⟩ := h4
        rw [e4] at H4
        obtain ⟨vs, rfl⟩ := put_of (show vs 4 = _ from e4)
        clear e4
        have HBX := hide hb
        clear hb hd
        go_simp
        exact hK _ _ (Below.refl _ _) H4.out
    · intro vs wz hb hF
      have h5 := hF 5 (by decide)
      have H5 := hide h5
      obtain ⟨q, e5, _⟩ := h5
      rw [e5] at H5
      obtain ⟨vs, rfl⟩ := put_of (show vs 5 = _ from e5)
      have HB6 : Hid (Below w.heap.size w wz) := HB5.out.trans (hb.mono HB5.out.size)
      clear hb hF e5 HKX HTX HKT2 HKR2 HTT2 HTR2 HB5
      simp only [put, Nat.reduceEqDiff, reduceIte]
      generalize vs 0 = u0; generalize vs 1 = u1; generalize vs 2 = u2; generalize vs 3 = u3; generalize vs 4 = u4
      clear vs
      go_wp2_with fail
      go_loopw [14] (fun i wr => ∃ k : Nat, k ≤ 3 ∧ i = .int .i64 k ∧ Hid (Below wz.heap.size wz wr)) (fun i _ => 3 - (intOf i).toNat)
      case atStart => exact ⟨0, by decide, rfl, Below.refl _ _⟩
      case round =>
        obtain ⟨k, hk, rfl, HBR⟩ := hrel
        have HB7 : Hid (Below w.heap.size w wr) := HB6.out.trans (HBR.out.mono HB6.out.size)
        by_cases hlt : k < 3
        · obtain ⟨q', eq', hq', h3⟩ := Three.keep (show Three _ wz from H5.out) HBR.out
          simp only [Value.slice.injEq, Option.some.injEq, Addr.mk.injEq, and_true] at eq'
          subst eq'
          obtain ⟨g, Y, p0, p1, pa, pl, pc, c0, c1, c2, htY⟩ := h3 k hlt
          have HTY := hide htY
          have HC0 := hide c0; have HC1 := hide c1; have HC2 := hide c2
          have HTK7 : Hid (Tk wr) := hide (HTK.out.later HB7.out)
          obtain ⟨ck, hck⟩ : ∃ ck : Int, ck = ((chk 120 0 Y).1 : Nat) := ⟨_, rfl⟩
          have HCK := hide hck
          clear htY h3 c0 c1 c2 hck
          have i1 : (0 : Int) ≤ (k : Int) := by omega
          have i2 : (k : Int) < 3 := by omega
          go_wp2_with fail
          refine wp_region_vals (by kernel_rfl) (by kernel_rfl) (fun vs => { tmps := #[Value.agg #[Value.int IntKind.i64 r0.op, Value.int IntKind.i64 r0.n, Value.slice a0 r0.kids.length z0], Value.int IntKind.i64 at_, Value.int IntKind.i64 op, Value.int IntKind.i64 n, Value.int IntKind.i64 kid, Value.pointer (some { block := w.heap.size, off := 0 }), undef, undef, undef, undef, u10, Value.pointer (some { block := w3.heap.size, off := 0 }), Value.pointer (some { block := qX, off := 0 }), Value.slice (some { block := q, off := 0 }) 3 3, Value.int IntKind.i64 ↑k, undef, undef, Value.bool true, Value.bool false, Value.agg #[Value.int IntKind.i64 r0.op, Value.int IntKind.i64 r0.n, Value.slice a0 r0.kids.length z0], Value.bool true, Value.bool false, Value.agg #[Value.int IntKind.i64 r0.op, Value.int IntKind.i64 r0.n, Value.slice a0 r0.kids.length z0], Value.agg #[Value.int IntKind.i64 t0, Value.int IntKind.i64 t1, Value.slice ta tl tc], s0, s1, s2, s3, s4, s5, s6, s7, s8, s9, u0, u1, u2, u3, u4, Value.int IntKind.i64 ↑k, Value.bool true, u41, u42, vs 0, vs 1, vs 2, vs 3, vs 4, vs 5, vs 6, vs 7, vs 8, vs 9, vs 10, undef, undef, undef, undef, undef, undef, undef, undef, undef, undef, undef, undef, undef, undef, undef, undef, undef, undef, undef, undef, undef, undef], defers := [] }) (fun i => [u43, u44, u45, u46, u47, u48, u49, u50, u51, u52, u53].getD i undef) (chF q k (.agg #[.int .i64 p0, .int .i64 p1, .slice pa pl pc]) ck) (chF.keep q k _ ck) ?_ ?_
          · refine ⟨?_, ?_, ?_, ?_, ?_, ?_, ?_, ?_, ?_, ?_, ?_, trivial⟩
            · intro vs wx K hb hd hK
              have HBX := hide hb
              clear hb hd
              go_simp
              exact hK _ _ (Below.refl _ _) rfl
            · intro vs wx K hb hd hK
              have HBX := hide hb
              clear hb hd
              go_simp
              exact hK _ _ (Below.refl _ _) rfl
            · intro vs wx K hb hd hK
              obtain ⟨vs, rfl⟩ := put_of (show vs 0 = _ from hd ⟨0, .data⟩ (by simp) rfl )
              obtain ⟨vs, rfl⟩ := put_of (show vs 1 = _ from hd ⟨1, .data⟩ (by simp) rfl )
              have HBX := hide hb
              clear hb hd
              go_simp
              exact hK _ _ (Below.refl _ _) rfl
            · intro vs wx K hb hd hK
              obtain ⟨vs, rfl⟩ := put_of (show vs 2 = _ from hd ⟨2, .data⟩ (by simp) rfl )
              have d0 := (hb.cell (p := ⟨q, k * 3, none⟩) hq').trans HC0.out
              have d1 := (hb.cell (p := ⟨q, k * 3 + 1, none⟩) hq').trans HC1.out
              have d2 := (hb.cell (p := ⟨q, k * 3 + 2, none⟩) hq').trans HC2.out
              have HBX := hide hb
              clear hb hd
              go_simp
              exact hK _ _ (Below.refl _ _) rfl
            · intro vs wx K hb hd hK
              obtain ⟨vs, rfl⟩ := put_of (show vs 3 = _ from hd ⟨3, .data⟩ (by simp) rfl )
              have HBX := hide hb
              clear hb hd
              go_simp
              have HTX7 : Hid (Tk wx) := hide (HTK7.out.later HBX.out)
              refine (tcheck_any wx.heap.size g Y _ wx (TmAt.below HTY.out HBX.out (Nat.le_refl _) HBX.out.size) (Nat.le_refl _) HTX7.out HTX7.out.size).mono ?_
              rintro e w7 ⟨rfl, hb7⟩
              rw [← HCK.out]
              exact hK _ _ hb7 rfl
            · intro vs wx K hb hd hK
              have HBX := hide hb
              clear hb hd
              go_simp
              exact hK _ _ (Below.refl _ _) rfl
            · intro vs wx K hb hd hK
              have HBX := hide hb
              clear hb hd
              go_simp
              exact hK _ _ (Below.refl _ _) rfl
            · intro vs wx K hb hd hK
              obtain ⟨vs, rfl⟩ := put_of (show vs 5 = _ from hd ⟨5, .data⟩ (by simp) rfl )
              obtain ⟨vs, rfl⟩ := put_of (show vs 6 = _ from hd ⟨6, .data⟩ (by simp) rfl )
              have HBX := hide hb
              clear hb hd
              go_simp
              exact hK _ _ (Below.refl _ _) rfl
            · intro vs wx K hb hd hK
              obtain ⟨vs, rfl⟩ := put_of (show vs 7 = _ from hd ⟨7, .data⟩ (by simp) rfl )
              have d0 := (hb.cell (p := ⟨q, k * 3, none⟩) hq').trans HC0.out
              have d1 := (hb.cell (p := ⟨q, k * 3 + 1, none⟩) hq').trans HC1.out
              have d2 := (hb.cell (p := ⟨q, k * 3 + 2, none⟩) hq').trans HC2.out
              have HBX := hide hb
              clear hb hd
              go_simp
              exact hK _ _ (Below.refl _ _) rfl
            · intro vs wx K hb hd hK
              obtain ⟨vs, rfl⟩ := put_of (show vs 8 = _ from hd ⟨8, .data⟩ (by simp) rfl )
              have HBX := hide hb
              clear hb hd
              go_simp
              refine (rcheck_any wx.heap.size g Y _ wx (TmAt.below HTY.out HBX.out (Nat.le_refl _) HBX.out.size) (Nat.le_refl _)).mono ?_
              rintro e w7 ⟨rfl, hb7⟩
              rw [← HCK.out]
              exact hK _ _ hb7 rfl
            · intro vs wx K hb hd hK
              obtain ⟨vs, rfl⟩ := put_of (show vs 4 = _ from hd ⟨4, .data⟩ (by simp) rfl )
              obtain ⟨vs, rfl⟩ := put_of (show vs 9 = _ from hd ⟨9, .data⟩ (by simp) rfl )
              have HBX := hide hb
              clear hb hd
              go_simp
              exact hK _ _ (Below.refl _ _) rfl
          · intro vs wc hb hF
            obtain ⟨vs, rfl⟩ := put_of (show vs 10 = _ from hF 10 (by decide))
            have HB8 : Hid (Below wz.heap.size wz wc) := HBR.out.trans (hb.mono HBR.out.size)
            clear hb hF
            simp only [put, Nat.reduceEqDiff, reduceIte]
            generalize vs 0 = y0; generalize vs 1 = y1; generalize vs 2 = y2; generalize vs 3 = y3; generalize vs 4 = y4; generalize vs 5 = y5; generalize vs 6 = y6; generalize vs 7 = y7; generalize vs 8 = y8; generalize vs 9 = y9
            clear vs
            go_wp2_with fail
            go_roundw
            case rel => exact ⟨k + 1, by omega, by go_num, HB8⟩
            case measure => simp [intOf]; omega
        · have HTB7 : Hid (Tb wr) := hide (HTB.out.later HB7.out)
          clear H5 HBR
          obtain ⟨wv, hwv⟩ : ∃ wv, wv = wr := ⟨_, rfl⟩
          rw [← hwv] at HB7 HTB7 ⊢
          clear hwv wr
          go_wp2_with fail
          go_loopw [15, 16] (fun o _ wr => ∃ oi : Int, o = .int .i64 oi ∧ -1 ≤ oi ∧ oi ≤ 33 ∧ Hid (Tb wr) ∧ Hid (Below w.heap.size w wr)) (fun o _ _ => (33 - intOf o).toNat)
          case atStart => exact ⟨-1, rfl, by decide, by decide, HTB7, HB7⟩
          case round =>
            clear HTB7 HB7
            obtain ⟨oi, rfl, ho0, ho1, HTB7, HB7⟩ := hrel
            by_cases hlo : oi < 33
            · go_wp2_with fail
              go_loopw [16] (fun kv wq => ∃ ki : Int, kv = .int .i64 ki ∧ -1 ≤ ki ∧ ki ≤ 5 ∧ Hid (Tb wq) ∧ Hid (Below w.heap.size w wq)) (fun kv _ => (5 - intOf kv).toNat)
              case atStart => exact ⟨-1, rfl, by decide, by decide, HTB7, HB7⟩
              case round =>
                clear HTB7 HB7
                obtain ⟨ki, rfl, hk0, hk1, HTB7, HB7⟩ := hrel
                by_cases hlk : ki < 5
                · obtain ⟨bv, hbv⟩ : ∃ bv : Int, bv = (bnd oi ki : Nat) := ⟨_, rfl⟩
                  have HBV := hide hbv
                  clear hbv
                  go_wp2_with fail
                  refine (tbinders_any oi ki _ HTB7.out).mono ?_
                  rintro e w7 ⟨rfl, h7⟩
                  rw [h7, ← HBV.out]
                  clear h7 w7
                  go_wp2_with fail
                  refine (rbinders_any oi ki _).mono ?_
                  rintro e w7 ⟨rfl, h7⟩
                  rw [h7, ← HBV.out]
                  clear h7 w7
                  go_wp2_with fail
                  go_roundw
                  case rel => exact ⟨ki + 1, by go_num, by omega, by omega, HTB7, HB7⟩
                  case measure => simp [intOf]; omega
                · go_wp2_with fail
                  go_roundw
                  case rel => exact ⟨oi + 1, by go_num, by omega, by omega, HTB7, HB7⟩
                  case measure => simp [intOf]; omega
            · go_wp2_with fail
              refine (tbinders_any op kid _ HTB7.out).mono ?_
              rintro e w7 ⟨rfl, h7⟩
              rw [h7]
              clear h7 w7
              go_wp2_with fail
              refine (rbinders_any op kid _).mono ?_
              rintro e w7 ⟨rfl, h7⟩
              rw [h7]
              clear h7 w7
              go_wp2_with fail
              go_ret
              exact ⟨rfl, HB7.out⟩
#print axioms checks_any
end Go.Proofs.YtpmaagafcpaajaaDoor
