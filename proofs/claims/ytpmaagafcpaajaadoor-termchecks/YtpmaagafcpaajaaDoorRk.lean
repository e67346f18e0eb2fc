/- The document's Check. -/
import Derived.Test.YtpmaagafcpaajaaDoorCc
import Derived.Test.YtpmaagafcpaajaaDoorRn
import Derived.Deep.DeepCutAuto
import Derived.Deep.CutBlock
namespace Go.Proofs.YtpmaagafcpaajaaDoor
open Go.RowKit
attribute [local go_sem] put

theorem put2 {w : World} {mb : Nat} {x y : Value} {T : TypeId} (h : w.heap[mb]? = some (.cells #[x, y] T (0, 0))) (u : Value) : (w.setCell ⟨mb, 0, none⟩ u).heap[mb]? = some (.cells #[u, y] T (0, 0)) ∧ (w.setCell ⟨mb, 1, none⟩ u).heap[mb]? = some (.cells #[x, u] T (0, 0)) :=
  ⟨by rw [heap_setCell_same _ _ _ _ _ _ h]; rfl, by rw [heap_setCell_same _ _ _ _ _ _ h]; rfl⟩
theorem put2_alloc {w : World} {mb : Nat} {x y : Value} {T : TypeId} (h : w.heap[mb]? = some (.cells #[x, y] T (0, 0))) (u : Value) (o : Obj) : ((w.setCell ⟨mb, 0, none⟩ u).alloc o).heap[mb]? = some (.cells #[u, y] T (0, 0)) := by
  rw [Below.heap_alloc _ o mb (by have := size_of_block h; simpa [World.setCell] using this)]; exact (put2 h u).1

set_option maxRecDepth 20000 in
set_option maxHeartbeats 4000000 in
theorem arity_no (op : Int) (w : World) (h : ¬ (1 ≤ op ∧ op ≤ 30)) :
    Calls Tryd.prog 35 #[.int .i64 op] w fun e w' => e = .returned (.int .i64 (-1)) ∧ w' = w := by
  have q1 : (op == 1) = false := beq_eq_false_iff_ne.2 (by omega)
  have q2 : (op == 2) = false := beq_eq_false_iff_ne.2 (by omega)
  have q3 : (op == 3) = false := beq_eq_false_iff_ne.2 (by omega)
  have q4 : (op == 4) = false := beq_eq_false_iff_ne.2 (by omega)
  have q5 : (op == 5) = false := beq_eq_false_iff_ne.2 (by omega)
  have q6 : (op == 6) = false := beq_eq_false_iff_ne.2 (by omega)
  have q7 : (op == 7) = false := beq_eq_false_iff_ne.2 (by omega)
  have q8 : (op == 8) = false := beq_eq_false_iff_ne.2 (by omega)
  have q9 : (op == 9) = false := beq_eq_false_iff_ne.2 (by omega)
  have q10 : (op == 10) = false := beq_eq_false_iff_ne.2 (by omega)
  have q11 : (op == 11) = false := beq_eq_false_iff_ne.2 (by omega)
  have q12 : (op == 12) = false := beq_eq_false_iff_ne.2 (by omega)
  have q13 : (op == 13) = false := beq_eq_false_iff_ne.2 (by omega)
  have q14 : (op == 14) = false := beq_eq_false_iff_ne.2 (by omega)
  have q15 : (op == 15) = false := beq_eq_false_iff_ne.2 (by omega)
  have q16 : (op == 16) = false := beq_eq_false_iff_ne.2 (by omega)
  have q17 : (op == 17) = false := beq_eq_false_iff_ne.2 (by omega)
  have q18 : (op == 18) = false := beq_eq_false_iff_ne.2 (by omega)
  have q19 : (op == 19) = false := beq_eq_false_iff_ne.2 (by omega)
  have q20 : (op == 20) = false := beq_eq_false_iff_ne.2 (by omega)
  have q21 : (op == 21) = false := beq_eq_false_iff_ne.2 (by omega)
  have q22 : (op == 22) = false := beq_eq_false_iff_ne.2 (by omega)
  have q23 : (op == 23) = false := beq_eq_false_iff_ne.2 (by omega)
  have q24 : (op == 24) = false := beq_eq_false_iff_ne.2 (by omega)
  have q25 : (op == 25) = false := beq_eq_false_iff_ne.2 (by omega)
  have q26 : (op == 26) = false := beq_eq_false_iff_ne.2 (by omega)
  have q27 : (op == 27) = false := beq_eq_false_iff_ne.2 (by omega)
  have q28 : (op == 28) = false := beq_eq_false_iff_ne.2 (by omega)
  have q29 : (op == 29) = false := beq_eq_false_iff_ne.2 (by omega)
  have q30 : (op == 30) = false := beq_eq_false_iff_ne.2 (by omega)
  clear h
  go_enter Tryd.func35, Tryd.ntmps35
  go_wp2
  go_ret
  exact ⟨rfl, rfl⟩
/-- Arity, whatever it is asked. -/
theorem arity_all (op : Int) (w : World) : Calls Tryd.prog 35 #[.int .i64 op] w fun e w' => e = .returned (.int .i64 (if 1 ≤ op ∧ op ≤ 30 then ((ar op : Nat) : Int) else -1)) ∧ w' = w := by
  by_cases h : 1 ≤ op ∧ op ≤ 30
  · rw [if_pos h]; exact arity_any op w h.1 h.2
  · rw [if_neg h]; exact arity_no op w h

/-- What the document's walk answers, so many levels left. -/
def RwC (l : Nat) : Prop := ∀ (B mb f : Nat) (t : Tr) (v : Value) (c : Nat) (deep : Int) (w : World), TmAt w B f t v → B ≤ mb → w.heap[mb]? = some (.cells #[.int .i64 (c : Nat), .int .i64 0] 57 (0, 0)) → c ≤ 3000 → 0 ≤ deep → deep + l = 121 →
    Calls Tryd.prog 38 #[.pointer (some ⟨mb, 0, none⟩), v, .int .i64 deep] w fun e w' => e = .returned (.tuple #[]) ∧ w'.heap[mb]? = some (.cells #[.int .i64 ((chk l c t).2 : Nat), .int .i64 ((chk l c t).1 : Nat)] 57 (0, 0)) ∧ Fr (fun k => k = mb) w w'

/-- Behind the switch. -/
def CutK (w : World) (mb l c : Nat) (t : Tr) (a : Option Addr) (cap : Nat) (RR : Nat × Nat) (wx : World) : Prop :=
  ∃ e0 : Nat, wx.heap[mb]? = some (.cells #[.int .i64 (c + 1 : Nat), .int .i64 (e0 : Nat)] 57 (0, 0)) ∧ wx.heap[w.heap.size]? = some (.cells #[.int .i64 t.op, .int .i64 t.n, .slice a t.kids.length cap] 29 (0, 0)) ∧ Fr (fun k => k = mb) w wx ∧ e0 ≤ 5 ∧ (e0 = 0 → ∃ l', l = l' + 1 ∧ RR = chkL (chk l') (c + 1) t.kids ∧ c + 1 ≤ 3000) ∧ (e0 ≠ 0 → RR = (e0, c + 1))

def rk_Fa (t : Tr) (a : Option Addr) (cap q0 : Nat) (av : Int) : Nat → Value → World → Prop
  | 0 => fun v _ => v = .pointer (some ⟨q0, 0, none⟩)
  | 1 => fun v _ => v = .int .i64 (t.op)
  | 2 => fun v _ => v = .int .i64 (av)
  | 3 => fun v _ => v = .pointer (some ⟨q0, 2, none⟩)
  | 4 => fun v _ => v = .slice a t.kids.length cap
  | 5 => fun v _ => v = .int .i64 (((t.kids.length : Nat)))
  | 6 => fun v _ => v = .bool (true)
  | 7 => fun v _ => v = .bool (true)
  | 8 => fun v _ => v = undef
  | 9 => fun v _ => v = undef
  | 10 => fun v _ => v = undef
  | 11 => fun v _ => v = undef
  | 12 => fun v _ => v = undef
  | 13 => fun v _ => v = undef
  | 14 => fun v _ => v = .bool (true)
  | 15 => fun v _ => v = .bool (true)
  | _ => fun _ _ => True
theorem rk_Fa.keep (t : Tr) (a : Option Addr) (cap q0 : Nat) (av : Int) (i : Nat) (v : Value) (w w' : World) (h : rk_Fa t a cap q0 av i v w) (_ : Below w.heap.size w w') : rk_Fa t a cap q0 av i v w' := by
  unfold rk_Fa at *
  split at h <;> exact h
def rk_Fb (t : Tr) (a : Option Addr) (cap q0 : Nat) (av : Int) : Nat → Value → World → Prop
  | 0 => fun v _ => v = .pointer (some ⟨q0, 0, none⟩)
  | 1 => fun v _ => v = .int .i64 (t.op)
  | 2 => fun v _ => v = .int .i64 (av)
  | 3 => fun v _ => v = .pointer (some ⟨q0, 2, none⟩)
  | 4 => fun v _ => v = .slice a t.kids.length cap
  | 5 => fun v _ => v = .int .i64 (((t.kids.length : Nat)))
  | 6 => fun v _ => v = .bool (false)
  | 7 => fun v _ => v = .bool (false)
  | 8 => fun v _ => v = .pointer (some ⟨q0, 0, none⟩)
  | 9 => fun v _ => v = .int .i64 (t.op)
  | 10 => fun v _ => v = .pointer (some ⟨q0, 1, none⟩)
  | 11 => fun v _ => v = .int .i64 (t.n)
  | 12 => fun v _ => v = .bool (false)
  | 13 => fun v _ => v = .bool (true)
  | 14 => fun v _ => v = .bool (true)
  | 15 => fun v _ => v = .bool (true)
  | _ => fun _ _ => True
theorem rk_Fb.keep (t : Tr) (a : Option Addr) (cap q0 : Nat) (av : Int) (i : Nat) (v : Value) (w w' : World) (h : rk_Fb t a cap q0 av i v w) (_ : Below w.heap.size w w') : rk_Fb t a cap q0 av i v w' := by
  unfold rk_Fb at *
  split at h <;> exact h
def rk_Fc (t : Tr) (a : Option Addr) (cap q0 : Nat) (av : Int) : Nat → Value → World → Prop
  | 0 => fun v _ => v = .pointer (some ⟨q0, 0, none⟩)
  | 1 => fun v _ => v = .int .i64 (t.op)
  | 2 => fun v _ => v = .int .i64 (av)
  | 3 => fun v _ => v = .pointer (some ⟨q0, 2, none⟩)
  | 4 => fun v _ => v = .slice a t.kids.length cap
  | 5 => fun v _ => v = .int .i64 (((t.kids.length : Nat)))
  | 6 => fun v _ => v = .bool (false)
  | 7 => fun v _ => v = .bool (false)
  | 8 => fun v _ => v = .pointer (some ⟨q0, 0, none⟩)
  | 9 => fun v _ => v = .int .i64 (t.op)
  | 10 => fun v _ => v = .pointer (some ⟨q0, 1, none⟩)
  | 11 => fun v _ => v = .int .i64 (t.n)
  | 12 => fun v _ => v = .bool (true)
  | 13 => fun v _ => v = .bool (false)
  | 14 => fun v _ => v = .bool (false)
  | 15 => fun v _ => v = .bool (false)
  | _ => fun _ _ => True
theorem rk_Fc.keep (t : Tr) (a : Option Addr) (cap q0 : Nat) (av : Int) (i : Nat) (v : Value) (w w' : World) (h : rk_Fc t a cap q0 av i v w) (_ : Below w.heap.size w w') : rk_Fc t a cap q0 av i v w' := by
  unfold rk_Fc at *
  split at h <;> exact h
set_option maxRecDepth 20000 in
set_option maxHeartbeats 2000000 in
theorem rwalk_all (l : Nat) (ih : ∀ l', l = l' + 1 → RwC l') : RwC l := by
  intro B mb f t v c deep w h hB hmb hc hd0 hd
  obtain ⟨g, rfl⟩ : ∃ g, f = g + 1 := by cases f with | zero => exact h.elim | succ g => exact ⟨g, rfl⟩
  obtain ⟨a, cap, rfl, hop, hn, hrow⟩ := h
  have IH := hide ih; clear ih
  have HR := hide hrow
  have hlm : t.kids.length ≤ maxLen := Nat.le_trans hrow.1 hrow.2.1
  clear hrow
  unfold maxLen at hlm
  have hmw := size_of_block hmb
  have c0 : ∀ o, (w.alloc o).cell? ⟨mb, 0, none⟩ = some (.int .i64 (c : Nat)) := fun o => (cell_of_block ((Below.heap_alloc w o mb hmw).trans hmb) 0).trans rfl
  have z0 : ∀ o, (w.alloc o).frozen? ⟨mb, 0, none⟩ = false := fun o => frozen_of_block ((Below.heap_alloc w o mb hmw).trans hmb) 0
  have HM := hide hmb; have HD := hide hd
  clear hmb hd
  have hcc : (c : Int) ≤ 3000 := by omega
  obtain ⟨RR, hRR⟩ : ∃ RR, RR = chk l c t := ⟨_, rfl⟩
  rw [← hRR]
  have HRR := hide hRR
  clear hRR
  have HF0 : Hid (Fr (fun k => k = mb) w ((w.setCell ⟨mb, 0, none⟩ (.int .i64 ((c : Int) + 1))).alloc (.cells #[.int .i64 t.op, .int .i64 t.n, .slice a t.kids.length cap] 29))) := (Fr.setCell (M := fun k => k = mb) (Fr.refl _ _) (p := ⟨mb, 0, none⟩) rfl _).alloc _
  have HB0 : Hid (((w.setCell ⟨mb, 0, none⟩ (.int .i64 ((c : Int) + 1))).alloc (.cells #[.int .i64 t.op, .int .i64 t.n, .slice a t.kids.length cap] 29)).heap[mb]? = some (.cells #[.int .i64 (c + 1 : Nat), .int .i64 (0 : Nat)] 57 (0, 0))) := put2_alloc HM.out _ _
  have HX0 : Hid (((w.setCell ⟨mb, 0, none⟩ (.int .i64 ((c : Int) + 1))).alloc (.cells #[.int .i64 t.op, .int .i64 t.n, .slice a t.kids.length cap] 29)).heap[w.heap.size]? = some (.cells #[.int .i64 t.op, .int .i64 t.n, .slice a t.kids.length cap] 29 (0, 0))) := hide (by
    have := heap_alloc_new (w.setCell ⟨mb, 0, none⟩ (.int .i64 ((c : Int) + 1))) (.cells #[.int .i64 t.op, .int .i64 t.n, .slice a t.kids.length cap] 29)
    rw [show (w.setCell ⟨mb, 0, none⟩ (.int .i64 ((c : Int) + 1))).heap.size = w.heap.size by simp [World.setCell]] at this
    exact this)
  go_enter Tryd.func38, Tryd.ntmps38
  go_upto_block 0 with fail
  obtain ⟨WW, hWW⟩ : ∃ WW, WW = ((w.setCell ⟨mb, 0, none⟩ (.int .i64 ((c : Int) + 1))).alloc (.cells #[.int .i64 t.op, .int .i64 t.n, .slice a t.kids.length cap] 29)) := ⟨_, rfl⟩
  rw [← hWW] at HF0 HB0 HX0 ⊢
  clear hWW c0 z0
  have k0 : WW.cell? ⟨mb, 0, none⟩ = some (.int .i64 ((c : Int) + 1)) := (cell_of_block HB0.out 0).trans rfl
  have f1 : WW.frozen? ⟨mb, 1, none⟩ = false := frozen_of_block HB0.out 1
  have k1 : WW.cell? ⟨mb, 1, none⟩ = some (.int .i64 0) := (cell_of_block HB0.out 1).trans rfl
  obtain ⟨y0, y1, y2⟩ := blk3 HX0.out
  go_cut [6] (fun _ wx => CutK w mb l c t a cap RR wx)
  case first =>
    by_cases h5 : l = 0 ∨ 3000 < c + 1
    · have HH : Hid (RR = (5, c + 1)) := hide (by
        rw [HRR.out]
        cases l with
        | zero => rfl
        | succ l => rw [chk, if_pos (by omega)])
      have HFIN : Hid (∀ wx, wx = WW.setCell ⟨mb, 1, none⟩ (.int .i64 5) → CutK w mb l c t a cap RR wx) := hide (by
        rintro wx rfl
        exact ⟨5, (put2 HB0.out _).2, by rw [heap_setCell_other _ _ _ _ (show w.heap.size ≠ mb by omega)]; exact HX0.out, HF0.out.setCell (p := ⟨mb, 1, none⟩) rfl _, by omega, (fun h => absurd h (by decide)), (fun _ => HH.out)⟩)
      by_cases h3 : 3000 < c + 1
      · have h3i : (3000 : Int) < (c : Int) + 1 := by omega
        clear h5 h3
        go_wp2_with fail
        go_meet
        case rel => exact HFIN.out _ rfl
      · have h3i : (c : Int) + 1 ≤ 3000 := by omega
        have hd1 : (120 : Int) < deep := by have := HD.out; omega
        clear h5 h3
        go_wp2_with fail
        go_meet
        case rel => exact HFIN.out _ rfl
    · obtain ⟨l', hl'⟩ : ∃ l', l = l' + 1 := ⟨l - 1, by omega⟩
      have HLL := hide hl'
      have h3i : (c : Int) + 1 ≤ 3000 := by omega
      have h3n : c + 1 ≤ 3000 := by omega
      have hd1 : deep ≤ 120 := by have := HD.out; omega
      have HRB : Hid (RR = if OkN t.op t.n t.kids.length then chkL (chk l') (c + 1) t.kids else (1, c + 1)) := hide (by rw [HRR.out, hl', chk, if_neg (by omega)])
      have HBAD : Hid (¬ OkN t.op t.n t.kids.length → ∀ wx, Below WW.heap.size WW wx → CutK w mb l c t a cap RR (wx.setCell ⟨mb, 1, none⟩ (.int .i64 1))) := hide (by
        intro hno wx hb
        exact ⟨1, (put2 ((hb.block _ (size_of_block HB0.out)).trans HB0.out) _).2, by rw [heap_setCell_other _ _ _ _ (show w.heap.size ≠ mb by omega)]; exact (hb.block _ (size_of_block HX0.out)).trans HX0.out, (HF0.out.trans (Fr.of_below hb)).setCell (p := ⟨mb, 1, none⟩) rfl _, by omega, (fun h => absurd h (by decide)), (fun _ => by rw [HRB.out, if_neg hno])⟩)
      have HOKK : Hid (OkN t.op t.n t.kids.length → ∀ wx, Below WW.heap.size WW wx → CutK w mb l c t a cap RR wx) := hide (by
        intro hok wx hb
        exact ⟨0, (hb.block _ (size_of_block HB0.out)).trans HB0.out, (hb.block _ (size_of_block HX0.out)).trans HX0.out, HF0.out.trans (Fr.of_below hb), by omega, (fun _ => ⟨l', HLL.out, by rw [HRB.out, if_pos hok], h3n⟩), (fun h => absurd rfl h)⟩)
      clear h5 hl'
      obtain ⟨av, hav⟩ : ∃ av : Int, av = if 1 ≤ t.op ∧ t.op ≤ 30 then ((ar t.op : Nat) : Int) else -1 := ⟨_, rfl⟩
      have HAR : Hid (∀ w', Calls Tryd.prog 35 #[.int .i64 t.op] w' fun e w'' => e = .returned (.int .i64 av) ∧ w'' = w') := hide (fun w' => by rw [hav]; exact arity_all t.op w')
      have HNU : Hid (∀ w', Calls Tryd.prog 56 #[.int .i64 t.op, .int .i64 t.n] w' fun e w'' => e = .returned (.bool (decide (loN t.op ≤ t.n ∧ t.n ≤ hiN t.op))) ∧ w'' = w') := hide (fun w' => number_any t.op t.n w' hn)
      have HAV := hide hav
      clear hav
      go_wp2_with fail
      by_cases hq : av = (t.kids.length : Int)
      rotate_left
      · have HNEQ : Hid ((av != (t.kids.length : Int)) = true) := hide (bne_iff_ne.2 hq)
        have HNO : Hid (¬ OkN t.op t.n t.kids.length) := hide (fun h => hq (by rw [HAV.out, if_pos ⟨h.1, h.2.1⟩, h.2.2.1]))
        clear hq
        refine wp_region_vals (by kernel_rfl) (by kernel_rfl) (fun vs => { tmps := #[Value.pointer (some { block := mb, off := 0 }), Value.agg #[Value.int IntKind.i64 t.op, Value.int IntKind.i64 t.n, Value.slice a t.kids.length cap], Value.int IntKind.i64 deep, undef, Value.pointer (some { block := w.heap.size, off := 0 }), undef, undef, Value.pointer (some { block := mb, off := 0 }), Value.pointer (some { block := mb, off := 0 }), Value.pointer (some { block := mb, off := 0 }), Value.int IntKind.i64 ↑c, Value.int IntKind.i64 (↑c + 1), Value.pointer (some { block := mb, off := 0 }), Value.pointer (some { block := mb, off := 0 }), Value.bool (decide ((3000 : Int) < (c : Int) + 1) || decide (120 < deep)), Value.pointer (some { block := mb, off := 0 }), Value.pointer (some { block := mb, off := 0 }), Value.pointer (some { block := mb, off := 0 }), Value.int IntKind.i64 (↑c + 1), Value.bool (decide ((3000 : Int) < (c : Int) + 1)), Value.bool (decide ((3000 : Int) < (c : Int) + 1)), Value.int IntKind.i64 deep, Value.bool (decide (120 < deep)), Value.bool (decide ((3000 : Int) < (c : Int) + 1) || decide (120 < deep)), undef, undef, undef, vs 15, vs 0, vs 1, vs 2, vs 3, vs 4, vs 5, vs 6, vs 7, vs 8, vs 9, vs 10, vs 11, vs 12, vs 13, vs 14, undef, undef, undef, undef, undef, undef, undef, undef, undef, undef, undef, undef, undef, undef, undef, undef, undef, undef, undef, undef, undef, undef, undef, undef, undef, undef], defers := [] }) (fun i => [undef, undef, undef, undef, undef, undef, undef, undef, undef, undef, undef, undef, undef, undef, undef, undef].getD i undef) (rk_Fa t a cap w.heap.size av) (rk_Fa.keep t a cap w.heap.size av) ?_ ?_
        · refine ⟨?_, ?_, ?_, ?_, ?_, ?_, ?_, ?_, ?_, ?_, ?_, ?_, ?_, ?_, ?_, ?_, trivial⟩
          · intro vs wx K hb hd hK
            have HBX := hide hb
            clear hb hd
            go_simp
            exact hK _ _ (Below.refl _ _) rfl
          · intro vs wx K hb hd hK
            obtain ⟨vs, rfl⟩ := put_of (show vs 0 = _ from hd ⟨0, .data⟩ (by simp) rfl)
            obtain ⟨c0, c1, c2⟩ := cells3' hb HX0.out
            have HBX := hide hb
            clear hb hd
            go_simp
            exact hK _ _ (Below.refl _ _) rfl
          · intro vs wx K hb hd hK
            obtain ⟨vs, rfl⟩ := put_of (show vs 1 = _ from hd ⟨1, .data⟩ (by simp) rfl)
            have HBX := hide hb
            clear hb hd
            go_simp
            refine (HAR.out _).mono ?_
            rintro e w7 ⟨rfl, h7⟩
            rw [h7]
            exact hK _ _ (Below.refl _ _) rfl
          · intro vs wx K hb hd hK
            have HBX := hide hb
            clear hb hd
            go_simp
            exact hK _ _ (Below.refl _ _) rfl
          · intro vs wx K hb hd hK
            obtain ⟨vs, rfl⟩ := put_of (show vs 3 = _ from hd ⟨3, .data⟩ (by simp) rfl)
            obtain ⟨c0, c1, c2⟩ := cells3' hb HX0.out
            have HBX := hide hb
            clear hb hd
            go_simp
            exact hK _ _ (Below.refl _ _) rfl
          · intro vs wx K hb hd hK
            obtain ⟨vs, rfl⟩ := put_of (show vs 4 = _ from hd ⟨4, .data⟩ (by simp) rfl)
            have HBX := hide hb
            clear hb hd
            go_simp
            exact hK _ _ (Below.refl _ _) rfl
          · intro vs wx K hb hd hK
            obtain ⟨vs, rfl⟩ := put_of (show vs 2 = _ from hd ⟨2, .data⟩ (by simp) rfl)
            obtain ⟨vs, rfl⟩ := put_of (show vs 5 = _ from hd ⟨5, .data⟩ (by simp) rfl)
            have HBX := hide hb
            clear hb hd
            go_simp
            exact hK _ _ (Below.refl _ _) (congrArg Value.bool HNEQ.out)
          · intro vs wx K hb hd hK
            obtain ⟨vs, rfl⟩ := put_of (show vs 6 = _ from hd ⟨6, .data⟩ (by simp) rfl)
            have HBX := hide hb
            clear hb hd
            go_simp
            exact hK _ _ (Below.refl _ _) rfl
          · intro vs wx K hb hd hK
            obtain ⟨vs, rfl⟩ := put_of (show vs 7 = _ from hd ⟨7, .guard⟩ (by simp) rfl)
            clear hb hd
            go_simp
            exact hK _ _ (Below.refl _ _) rfl
          · intro vs wx K hb hd hK
            obtain ⟨vs, rfl⟩ := put_of (show vs 7 = _ from hd ⟨7, .guard⟩ (by simp) rfl)
            clear hb hd
            go_simp
            exact hK _ _ (Below.refl _ _) rfl
          · intro vs wx K hb hd hK
            obtain ⟨vs, rfl⟩ := put_of (show vs 7 = _ from hd ⟨7, .guard⟩ (by simp) rfl)
            clear hb hd
            go_simp
            exact hK _ _ (Below.refl _ _) rfl
          · intro vs wx K hb hd hK
            obtain ⟨vs, rfl⟩ := put_of (show vs 7 = _ from hd ⟨7, .guard⟩ (by simp) rfl)
            clear hb hd
            go_simp
            exact hK _ _ (Below.refl _ _) rfl
          · intro vs wx K hb hd hK
            obtain ⟨vs, rfl⟩ := put_of (show vs 7 = _ from hd ⟨7, .guard⟩ (by simp) rfl)
            clear hb hd
            go_simp
            exact hK _ _ (Below.refl _ _) rfl
          · intro vs wx K hb hd hK
            obtain ⟨vs, rfl⟩ := put_of (show vs 7 = _ from hd ⟨7, .guard⟩ (by simp) rfl)
            clear hb hd
            go_simp
            exact hK _ _ (Below.refl _ _) rfl
          · intro vs wx K hb hd hK
            obtain ⟨vs, rfl⟩ := put_of (show vs 7 = _ from hd ⟨7, .data⟩ (by simp) rfl)
            obtain ⟨vs, rfl⟩ := put_of (show vs 13 = _ from hd ⟨13, .data⟩ (by simp) rfl)
            have HBX := hide hb
            clear hb hd
            go_simp
            exact hK _ _ (Below.refl _ _) rfl
          · intro vs wx K hb hd hK
            obtain ⟨vs, rfl⟩ := put_of (show vs 14 = _ from hd ⟨14, .data⟩ (by simp) rfl)
            have HBX := hide hb
            clear hb hd
            go_simp
            exact hK _ _ (Below.refl _ _) rfl
        · intro vs wx hb hF
          obtain ⟨vs, rfl⟩ := put_of (show vs 15 = _ from hF 15 (by decide))
          have m1 : wx.cell? ⟨mb, 1, none⟩ = some (.int .i64 0) := (cell_of_block ((hb.block _ (size_of_block HB0.out)).trans HB0.out) 1).trans rfl
          have m2 : wx.frozen? ⟨mb, 1, none⟩ = false := frozen_of_block ((hb.block _ (size_of_block HB0.out)).trans HB0.out) 1
          have HBX := hide hb
          clear hb hF
          simp only [put, Nat.reduceEqDiff, reduceIte]
          go_wp2_with fail
          go_meet
          case rel => exact HBAD.out HNO.out _ HBX.out
      · have HNEQ : Hid ((av != (t.kids.length : Int)) = false) := hide (by rw [bne_eq_false_iff_eq]; exact hq)
        have HRG : Hid ((1 ≤ t.op ∧ t.op ≤ 30) ∧ t.kids.length = ar t.op) := hide (by
          by_cases hr : 1 ≤ t.op ∧ t.op ≤ 30
          · refine ⟨hr, ?_⟩
            rw [HAV.out, if_pos hr] at hq
            omega
          · rw [HAV.out, if_neg hr] at hq
            omega)
        clear hq
        by_cases hnb : loN t.op ≤ t.n ∧ t.n ≤ hiN t.op
        · have HNB : Hid (decide (loN t.op ≤ t.n ∧ t.n ≤ hiN t.op) = true) := hide (decide_eq_true hnb)
          have HYES : Hid (OkN t.op t.n t.kids.length) := hide ⟨HRG.out.1.1, HRG.out.1.2, HRG.out.2, hnb.1, hnb.2⟩
          clear hnb
          refine wp_region_vals (by kernel_rfl) (by kernel_rfl) (fun vs => { tmps := #[Value.pointer (some { block := mb, off := 0 }), Value.agg #[Value.int IntKind.i64 t.op, Value.int IntKind.i64 t.n, Value.slice a t.kids.length cap], Value.int IntKind.i64 deep, undef, Value.pointer (some { block := w.heap.size, off := 0 }), undef, undef, Value.pointer (some { block := mb, off := 0 }), Value.pointer (some { block := mb, off := 0 }), Value.pointer (some { block := mb, off := 0 }), Value.int IntKind.i64 ↑c, Value.int IntKind.i64 (↑c + 1), Value.pointer (some { block := mb, off := 0 }), Value.pointer (some { block := mb, off := 0 }), Value.bool (decide ((3000 : Int) < (c : Int) + 1) || decide (120 < deep)), Value.pointer (some { block := mb, off := 0 }), Value.pointer (some { block := mb, off := 0 }), Value.pointer (some { block := mb, off := 0 }), Value.int IntKind.i64 (↑c + 1), Value.bool (decide ((3000 : Int) < (c : Int) + 1)), Value.bool (decide ((3000 : Int) < (c : Int) + 1)), Value.int IntKind.i64 deep, Value.bool (decide (120 < deep)), Value.bool (decide ((3000 : Int) < (c : Int) + 1) || decide (120 < deep)), undef, undef, undef, vs 15, vs 0, vs 1, vs 2, vs 3, vs 4, vs 5, vs 6, vs 7, vs 8, vs 9, vs 10, vs 11, vs 12, vs 13, vs 14, undef, undef, undef, undef, undef, undef, undef, undef, undef, undef, undef, undef, undef, undef, undef, undef, undef, undef, undef, undef, undef, undef, undef, undef, undef, undef], defers := [] }) (fun i => [undef, undef, undef, undef, undef, undef, undef, undef, undef, undef, undef, undef, undef, undef, undef, undef].getD i undef) (rk_Fc t a cap w.heap.size av) (rk_Fc.keep t a cap w.heap.size av) ?_ ?_
          · refine ⟨?_, ?_, ?_, ?_, ?_, ?_, ?_, ?_, ?_, ?_, ?_, ?_, ?_, ?_, ?_, ?_, trivial⟩
            · intro vs wx K hb hd hK
              have HBX := hide hb
              clear hb hd
              go_simp
              exact hK _ _ (Below.refl _ _) rfl
            · intro vs wx K hb hd hK
              obtain ⟨vs, rfl⟩ := put_of (show vs 0 = _ from hd ⟨0, .data⟩ (by simp) rfl)
              obtain ⟨c0, c1, c2⟩ := cells3' hb HX0.out
              have HBX := hide hb
              clear hb hd
              go_simp
              exact hK _ _ (Below.refl _ _) rfl
            · intro vs wx K hb hd hK
              obtain ⟨vs, rfl⟩ := put_of (show vs 1 = _ from hd ⟨1, .data⟩ (by simp) rfl)
              have HBX := hide hb
              clear hb hd
              go_simp
              refine (HAR.out _).mono ?_
              rintro e w7 ⟨rfl, h7⟩
              rw [h7]
              exact hK _ _ (Below.refl _ _) rfl
            · intro vs wx K hb hd hK
              have HBX := hide hb
              clear hb hd
              go_simp
              exact hK _ _ (Below.refl _ _) rfl
            · intro vs wx K hb hd hK
              obtain ⟨vs, rfl⟩ := put_of (show vs 3 = _ from hd ⟨3, .data⟩ (by simp) rfl)
              obtain ⟨c0, c1, c2⟩ := cells3' hb HX0.out
              have HBX := hide hb
              clear hb hd
              go_simp
              exact hK _ _ (Below.refl _ _) rfl
            · intro vs wx K hb hd hK
              obtain ⟨vs, rfl⟩ := put_of (show vs 4 = _ from hd ⟨4, .data⟩ (by simp) rfl)
              have HBX := hide hb
              clear hb hd
              go_simp
              exact hK _ _ (Below.refl _ _) rfl
            · intro vs wx K hb hd hK
              obtain ⟨vs, rfl⟩ := put_of (show vs 2 = _ from hd ⟨2, .data⟩ (by simp) rfl)
              obtain ⟨vs, rfl⟩ := put_of (show vs 5 = _ from hd ⟨5, .data⟩ (by simp) rfl)
              have HBX := hide hb
              clear hb hd
              go_simp
              exact hK _ _ (Below.refl _ _) (congrArg Value.bool HNEQ.out)
            · intro vs wx K hb hd hK
              obtain ⟨vs, rfl⟩ := put_of (show vs 6 = _ from hd ⟨6, .data⟩ (by simp) rfl)
              have HBX := hide hb
              clear hb hd
              go_simp
              exact hK _ _ (Below.refl _ _) rfl
            · intro vs wx K hb hd hK
              obtain ⟨vs, rfl⟩ := put_of (show vs 7 = _ from hd ⟨7, .guard⟩ (by simp) rfl)
              have HBX := hide hb
              clear hb hd
              go_simp
              exact hK _ _ (Below.refl _ _) rfl
            · intro vs wx K hb hd hK
              obtain ⟨vs, rfl⟩ := put_of (show vs 8 = _ from hd ⟨8, .data⟩ (by simp) rfl)
              obtain ⟨vs, rfl⟩ := put_of (show vs 7 = _ from hd ⟨7, .guard⟩ (by simp) rfl)
              obtain ⟨c0, c1, c2⟩ := cells3' hb HX0.out
              have HBX := hide hb
              clear hb hd
              go_simp
              exact hK _ _ (Below.refl _ _) rfl
            · intro vs wx K hb hd hK
              obtain ⟨vs, rfl⟩ := put_of (show vs 7 = _ from hd ⟨7, .guard⟩ (by simp) rfl)
              have HBX := hide hb
              clear hb hd
              go_simp
              exact hK _ _ (Below.refl _ _) rfl
            · intro vs wx K hb hd hK
              obtain ⟨vs, rfl⟩ := put_of (show vs 10 = _ from hd ⟨10, .data⟩ (by simp) rfl)
              obtain ⟨vs, rfl⟩ := put_of (show vs 7 = _ from hd ⟨7, .guard⟩ (by simp) rfl)
              obtain ⟨c0, c1, c2⟩ := cells3' hb HX0.out
              have HBX := hide hb
              clear hb hd
              go_simp
              exact hK _ _ (Below.refl _ _) rfl
            · intro vs wx K hb hd hK
              obtain ⟨vs, rfl⟩ := put_of (show vs 9 = _ from hd ⟨9, .data⟩ (by simp) rfl)
              obtain ⟨vs, rfl⟩ := put_of (show vs 11 = _ from hd ⟨11, .data⟩ (by simp) rfl)
              obtain ⟨vs, rfl⟩ := put_of (show vs 7 = _ from hd ⟨7, .guard⟩ (by simp) rfl)
              have HBX := hide hb
              clear hb hd
              go_simp
              refine (HNU.out _).mono ?_
              rintro e w7 ⟨rfl, h7⟩
              rw [h7, HNB.out]
              exact hK _ _ (Below.refl _ _) rfl
            · intro vs wx K hb hd hK
              obtain ⟨vs, rfl⟩ := put_of (show vs 12 = _ from hd ⟨12, .data⟩ (by simp) rfl)
              obtain ⟨vs, rfl⟩ := put_of (show vs 7 = _ from hd ⟨7, .guard⟩ (by simp) rfl)
              have HBX := hide hb
              clear hb hd
              go_simp
              exact hK _ _ (Below.refl _ _) rfl
            · intro vs wx K hb hd hK
              obtain ⟨vs, rfl⟩ := put_of (show vs 7 = _ from hd ⟨7, .data⟩ (by simp) rfl)
              obtain ⟨vs, rfl⟩ := put_of (show vs 13 = _ from hd ⟨13, .data⟩ (by simp) rfl)
              have HBX := hide hb
              clear hb hd
              go_simp
              exact hK _ _ (Below.refl _ _) rfl
            · intro vs wx K hb hd hK
              obtain ⟨vs, rfl⟩ := put_of (show vs 14 = _ from hd ⟨14, .data⟩ (by simp) rfl)
              have HBX := hide hb
              clear hb hd
              go_simp
              exact hK _ _ (Below.refl _ _) rfl
          · intro vs wx hb hF
            obtain ⟨vs, rfl⟩ := put_of (show vs 15 = _ from hF 15 (by decide))
            have m1 : wx.cell? ⟨mb, 1, none⟩ = some (.int .i64 0) := (cell_of_block ((hb.block _ (size_of_block HB0.out)).trans HB0.out) 1).trans rfl
            have m2 : wx.frozen? ⟨mb, 1, none⟩ = false := frozen_of_block ((hb.block _ (size_of_block HB0.out)).trans HB0.out) 1
            have HBX := hide hb
            clear hb hF
            simp only [put, Nat.reduceEqDiff, reduceIte]
            go_wp2_with fail
            go_meet
            case rel => exact HOKK.out HYES.out _ HBX.out

        · have HNB : Hid (decide (loN t.op ≤ t.n ∧ t.n ≤ hiN t.op) = false) := hide (decide_eq_false hnb)
          have HNO : Hid (¬ OkN t.op t.n t.kids.length) := hide (fun h => hnb ⟨h.2.2.2.1, h.2.2.2.2⟩)
          clear hnb
          refine wp_region_vals (by kernel_rfl) (by kernel_rfl) (fun vs => { tmps := #[Value.pointer (some { block := mb, off := 0 }), Value.agg #[Value.int IntKind.i64 t.op, Value.int IntKind.i64 t.n, Value.slice a t.kids.length cap], Value.int IntKind.i64 deep, undef, Value.pointer (some { block := w.heap.size, off := 0 }), undef, undef, Value.pointer (some { block := mb, off := 0 }), Value.pointer (some { block := mb, off := 0 }), Value.pointer (some { block := mb, off := 0 }), Value.int IntKind.i64 ↑c, Value.int IntKind.i64 (↑c + 1), Value.pointer (some { block := mb, off := 0 }), Value.pointer (some { block := mb, off := 0 }), Value.bool (decide ((3000 : Int) < (c : Int) + 1) || decide (120 < deep)), Value.pointer (some { block := mb, off := 0 }), Value.pointer (some { block := mb, off := 0 }), Value.pointer (some { block := mb, off := 0 }), Value.int IntKind.i64 (↑c + 1), Value.bool (decide ((3000 : Int) < (c : Int) + 1)), Value.bool (decide ((3000 : Int) < (c : Int) + 1)), Value.int IntKind.i64 deep, Value.bool (decide (120 < deep)), Value.bool (decide ((3000 : Int) < (c : Int) + 1) || decide (120 < deep)), undef, undef, undef, vs 15, vs 0, vs 1, vs 2, vs 3, vs 4, vs 5, vs 6, vs 7, vs 8, vs 9, vs 10, vs 11, vs 12, vs 13, vs 14, undef, undef, undef, undef, undef, undef, undef, undef, undef, undef, undef, undef, undef, undef, undef, undef, undef, undef, undef, undef, undef, undef, undef, undef, undef, undef], defers := [] }) (fun i => [undef, undef, undef, undef, undef, undef, undef, undef, undef, undef, undef, undef, undef, undef, undef, undef].getD i undef) (rk_Fb t a cap w.heap.size av) (rk_Fb.keep t a cap w.heap.size av) ?_ ?_
          · refine ⟨?_, ?_, ?_, ?_, ?_, ?_, ?_, ?_, ?_, ?_, ?_, ?_, ?_, ?_, ?_, ?_, trivial⟩
            · intro vs wx K hb hd hK
              have HBX := hide hb
              clear hb hd
              go_simp
              exact hK _ _ (Below.refl _ _) rfl
            · intro vs wx K hb hd hK
              obtain ⟨vs, rfl⟩ := put_of (show vs 0 = _ from hd ⟨0, .data⟩ (by simp) rfl)
              obtain ⟨c0, c1, c2⟩ := cells3' hb HX0.out
              have HBX := hide hb
              clear hb hd
              go_simp
              exact hK _ _ (Below.refl _ _) rfl
            · intro vs wx K hb hd hK
              obtain ⟨vs, rfl⟩ := put_of (show vs 1 = _ from hd ⟨1, .data⟩ (by simp) rfl)
              have HBX := hide hb
              clear hb hd
              go_simp
              refine (HAR.out _).mono ?_
              rintro e w7 ⟨rfl, h7⟩
              rw [h7]
              exact hK _ _ (Below.refl _ _) rfl
            · intro vs wx K hb hd hK
              have HBX := hide hb
              clear hb hd
              go_simp
              exact hK _ _ (Below.refl _ _) rfl
            · intro vs wx K hb hd hK
              obtain ⟨vs, rfl⟩ := put_of (show vs 3 = _ from hd ⟨3, .data⟩ (by simp) rfl)
              obtain ⟨c0, c1, c2⟩ := cells3' hb HX0.out
              have HBX := hide hb
              clear hb hd
              go_simp
              exact hK _ _ (Below.refl _ _) rfl
            · intro vs wx K hb hd hK
              obtain ⟨vs, rfl⟩ := put_of (show vs 4 = _ from hd ⟨4, .data⟩ (by simp) rfl)
              have HBX := hide hb
              clear hb hd
              go_simp
              exact hK _ _ (Below.refl _ _) rfl
            · intro vs wx K hb hd hK
              obtain ⟨vs, rfl⟩ := put_of (show vs 2 = _ from hd ⟨2, .data⟩ (by simp) rfl)
              obtain ⟨vs, rfl⟩ := put_of (show vs 5 = _ from hd ⟨5, .data⟩ (by simp) rfl)
              have HBX := hide hb
              clear hb hd
              go_simp
              exact hK _ _ (Below.refl _ _) (congrArg Value.bool HNEQ.out)
            · intro vs wx K hb hd hK
              obtain ⟨vs, rfl⟩ := put_of (show vs 6 = _ from hd ⟨6, .data⟩ (by simp) rfl)
              have HBX := hide hb
              clear hb hd
              go_simp
              exact hK _ _ (Below.refl _ _) rfl
            · intro vs wx K hb hd hK
              obtain ⟨vs, rfl⟩ := put_of (show vs 7 = _ from hd ⟨7, .guard⟩ (by simp) rfl)
              have HBX := hide hb
              clear hb hd
              go_simp
              exact hK _ _ (Below.refl _ _) rfl
            · intro vs wx K hb hd hK
              obtain ⟨vs, rfl⟩ := put_of (show vs 8 = _ from hd ⟨8, .data⟩ (by simp) rfl)
              obtain ⟨vs, rfl⟩ := put_of (show vs 7 = _ from hd ⟨7, .guard⟩ (by simp) rfl)
              obtain ⟨c0, c1, c2⟩ := cells3' hb HX0.out
              have HBX := hide hb
              clear hb hd
              go_simp
              exact hK _ _ (Below.refl _ _) rfl
            · intro vs wx K hb hd hK
              obtain ⟨vs, rfl⟩ := put_of (show vs 7 = _ from hd ⟨7, .guard⟩ (by simp) rfl)
              have HBX := hide hb
              clear hb hd
              go_simp
              exact hK _ _ (Below.refl _ _) rfl
            · intro vs wx K hb hd hK
              obtain ⟨vs, rfl⟩ := put_of (show vs 10 = _ from hd ⟨10, .data⟩ (by simp) rfl)
              obtain ⟨vs, rfl⟩ := put_of (show vs 7 = _ from hd ⟨7, .guard⟩ (by simp) rfl)
              obtain ⟨c0, c1, c2⟩ := cells3' hb HX0.out
              have HBX := hide hb
              clear hb hd
              go_simp
              exact hK _ _ (Below.refl _ _) rfl
            · intro vs wx K hb hd hK
              obtain ⟨vs, rfl⟩ := put_of (show vs 9 = _ from hd ⟨9, .data⟩ (by simp) rfl)
              obtain ⟨vs, rfl⟩ := put_of (show vs 11 = _ from hd ⟨11, .data⟩ (by simp) rfl)
              obtain ⟨vs, rfl⟩ := put_of (show vs 7 = _ from hd ⟨7, .guard⟩ (by simp) rfl)
              have HBX := hide hb
              clear hb hd
              go_simp
              refine (HNU.out _).mono ?_
              rintro e w7 ⟨rfl, h7⟩
              rw [h7, HNB.out]
              exact hK _ _ (Below.refl _ _) rfl
            · intro vs wx K hb hd hK
              obtain ⟨vs, rfl⟩ := put_of (show vs 12 = _ from hd ⟨12, .data⟩ (by simp) rfl)
              obtain ⟨vs, rfl⟩ := put_of (show vs 7 = _ from hd ⟨7, .guard⟩ (by simp) rfl)
              have HBX := hide hb
              clear hb hd
              go_simp
              exact hK _ _ (Below.refl _ _) rfl
            · intro vs wx K hb hd hK
              obtain ⟨vs, rfl⟩ := put_of (show vs 7 = _ from hd ⟨7, .data⟩ (by simp) rfl)
              obtain ⟨vs, rfl⟩ := put_of (show vs 13 = _ from hd ⟨13, .data⟩ (by simp) rfl)
              have HBX := hide hb
              clear hb hd
              go_simp
              exact hK _ _ (Below.refl _ _) rfl
            · intro vs wx K hb hd hK
              obtain ⟨vs, rfl⟩ := put_of (show vs 14 = _ from hd ⟨14, .data⟩ (by simp) rfl)
              have HBX := hide hb
              clear hb hd
              go_simp
              exact hK _ _ (Below.refl _ _) rfl
          · intro vs wx hb hF
            obtain ⟨vs, rfl⟩ := put_of (show vs 15 = _ from hF 15 (by decide))
            have m1 : wx.cell? ⟨mb, 1, none⟩ = some (.int .i64 0) := (cell_of_block ((hb.block _ (size_of_block HB0.out)).trans HB0.out) 1).trans rfl
            have m2 : wx.frozen? ⟨mb, 1, none⟩ = false := frozen_of_block ((hb.block _ (size_of_block HB0.out)).trans HB0.out) 1
            have HBX := hide hb
            clear hb hF
            simp only [put, Nat.reduceEqDiff, reduceIte]
            go_wp2_with fail
            go_meet
            case rel => exact HBAD.out HNO.out _ HBX.out

  case rest =>
    clear HF0 HB0 HX0 k0 k1 f1 y0 y1 y2 HRR
    obtain ⟨e0, hb0, hx0, hf0, he5, hz, hnz⟩ := hcut
    have HB0 := hide hb0; have HX0 := hide hx0; have HF0 := hide hf0; have HZ := hide hz; have HNZ := hide hnz
    clear hb0 hx0 hf0 hz hnz
    go_wp2_with fail
    go_loopw [6] (fun i wr => ∃ k ck ek : Nat, k ≤ t.kids.length ∧ i = .int .i64 k ∧ ek ≤ 5 ∧ Hid (wr.heap[mb]? = some (.cells #[.int .i64 (ck : Nat), .int .i64 (ek : Nat)] 57 (0, 0))) ∧ Hid (wr.heap[w.heap.size]? = some (.cells #[.int .i64 t.op, .int .i64 t.n, .slice a t.kids.length cap] 29 (0, 0))) ∧ Hid (Fr (fun k => k = mb) w wr) ∧ Hid (ek = 0 → ∃ l', l = l' + 1 ∧ RR = chkL (chk l') ck (t.kids.drop k) ∧ ck ≤ 3000) ∧ Hid (ek ≠ 0 → RR = (ek, ck))) (fun i _ => t.kids.length - (intOf i).toNat)
    case atStart => exact ⟨0, c + 1, e0, Nat.zero_le _, rfl, he5, HB0, HX0, HF0, by rw [List.drop_zero]; exact HZ, HNZ⟩
    case round =>
      obtain ⟨k, ck, ek, hk, rfl, hek, HBX, HXX, HFX, HZX, HNX⟩ := hrel
      clear HB0 HX0 HF0 HZ HNZ
      have k1 : wr.cell? ⟨mb, 1, none⟩ = some (.int .i64 (ek : Nat)) := (cell_of_block HBX.out 1).trans rfl
      obtain ⟨y0, y1, y2⟩ := blk3 HXX.out
      by_cases hlt : k < t.kids.length
      · by_cases h0 : ek = 0
        · subst h0
          obtain ⟨l', hl', hrr, hck⟩ := HZX.out rfl
          have HLL := hide hl'; have HRX := hide hrr
          clear hl' hrr
          obtain ⟨b, off, ka, kc, rfl, hbB, e0', e1, e2, hr⟩ := HR.out.form hlt
          have hbm : b ≠ mb := by omega
          have hbw : b < w.heap.size := by omega
          have g0 := (HFX.out.cell (i := off + k * 3) hbw hbm).trans e0'
          have g1 := (HFX.out.cell (i := off + k * 3 + 1) hbw hbm).trans e1
          have g2 := (HFX.out.cell (i := off + k * 3 + 2) hbw hbm).trans e2
          have HK := hide (TmAt.fr hr HFX.out (by omega) (fun q hq => by show ¬ q = mb; omega))
          have HDR : Hid (t.kids.drop k = t.kids[k] :: t.kids.drop (k + 1)) := hide (List.drop_eq_getElem_cons hlt)
          clear hr e0' e1 e2
          obtain ⟨p, hp⟩ : ∃ p, p = t.kids[k] := ⟨_, rfl⟩
          rw [← hp] at g0 g1 g2 HK HDR
          clear hp
          obtain ⟨ee, hee⟩ : ∃ ee, ee = (chk l' ck p).1 := ⟨_, rfl⟩
          obtain ⟨cc, hccc⟩ : ∃ cc, cc = (chk l' ck p).2 := ⟨_, rfl⟩
          have HEE := hide hee; have HCC := hide hccc
          have hee5 : ee ≤ 5 := by rw [hee]; exact chk_err l' ck p
          clear hee hccc
          have HC : Hid (Calls Tryd.prog 38 #[.pointer (some ⟨mb, 0, none⟩), .agg #[.int .i64 p.op, .int .i64 p.n, .slice ka p.kids.length kc], .int .i64 (deep + 1)] wr fun e w' => e = .returned (.tuple #[]) ∧ w'.heap[mb]? = some (.cells #[.int .i64 (cc : Nat), .int .i64 (ee : Nat)] 57 (0, 0)) ∧ Fr (fun k => k = mb) wr w') := hide (by
            rw [HEE.out, HCC.out]
            exact IH.out l' HLL.out B mb g p _ ck (deep + 1) wr HK.out hB HBX.out hck (by omega) (by have := HD.out; have := HLL.out; omega))
          have hd1 : deep ≤ 121 := by have := HD.out; omega
          go_wp2_with fail
          refine HC.out.mono ?_
          rintro e w2 ⟨rfl, hb2, hf2⟩
          have HB2 := hide hb2
          have HX2 := hide ((hf2.block _ (size_of_block HXX.out) (show ¬ w.heap.size = mb by omega)).trans HXX.out)
          have HF2 : Hid (Fr (fun k => k = mb) w w2) := HFX.out.trans hf2
          have HOK : Hid (ee = 0 → cc ≤ 3000) := hide (fun h => by rw [HCC.out]; exact chk_ok l' ck p (HEE.out.symm.trans h))
          have HNE : Hid (RR = if ee = 0 then chkL (chk l') cc (t.kids.drop (k + 1)) else (ee, cc)) := hide (by
            rw [HRX.out, HDR.out, chkL, ← HEE.out, ← HCC.out]
            split
            · rfl
            · rw [HEE.out, HCC.out])
          clear hb2 hf2
          go_wp2_with fail
          go_roundw
          case rel => exact ⟨k + 1, cc, ee, by omega, by go_num, hee5, HB2, HX2, HF2, (fun h => ⟨l', HLL.out, by rw [HNE.out, if_pos h], HOK.out h⟩), (fun h => by rw [HNE.out, if_neg h])⟩
          case measure => simp [intOf]; omega
        · have hne : ((ek : Int) == 0) = false := by rw [beq_eq_false_iff_ne]; omega
          have hx := HNX.out h0
          have HXE := hide hx
          clear h0 hx
          go_wp2_with fail
          go_end0
          exact ⟨rfl, by rw [HXE.out]; exact HBX.out, HFX.out⟩
      · have hx : RR = (ek, ck) := by
          by_cases h0 : ek = 0
          · subst h0
            obtain ⟨l', _, hrr, _⟩ := HZX.out rfl
            rw [hrr, List.drop_eq_nil_of_le (by omega), chkL]
          · exact HNX.out h0
        have HXE := hide hx
        clear hx
        go_wp2_with fail
        go_end0
        exact ⟨rfl, by rw [HXE.out]; exact HBX.out, HFX.out⟩

theorem rwalk_any (l : Nat) : RwC l := by
  induction l with
  | zero => exact rwalk_all 0 (fun l' h => by omega)
  | succ l ih => exact rwalk_all (l + 1) (fun l' h => by obtain rfl : l = l' := (by omega); exact ih)

set_option maxRecDepth 20000 in
set_option maxHeartbeats 1000000 in
theorem rcheck_any (B f : Nat) (t : Tr) (v : Value) (w : World) (h : TmAt w B f t v) (hB : B ≤ w.heap.size) :
    Calls Tryd.prog 17 #[v] w fun e w' => e = .returned (.int .i64 ((chk 120 0 t).1 : Nat)) ∧ Below w.heap.size w w' := by
  have HT := hide h
  obtain ⟨a, cap, rfl, _, _, hop, hn⟩ := h.shape
  clear h
  obtain ⟨res, hres⟩ : ∃ res, res = (chk 120 0 t).1 := ⟨_, rfl⟩
  rw [← hres]
  have HRE := hide hres
  clear hres
  go_enter Tryd.func17, Tryd.ntmps17
  go_wp2_with fail
  have HN : Hid (((w.alloc (.cells #[.int .i64 t.op, .int .i64 t.n, .slice a t.kids.length cap] 29)).alloc (.cells #[.int .i64 0, .int .i64 0] 57)).heap[w.heap.size + 1]? = some (.cells #[.int .i64 (0 : Nat), .int .i64 0] 57 (0, 0))) := hide (by
    have := heap_alloc_new (w.alloc (.cells #[.int .i64 t.op, .int .i64 t.n, .slice a t.kids.length cap] 29)) (.cells #[.int .i64 0, .int .i64 0] 57)
    rw [World.size_alloc] at this
    exact this)
  have HA : Hid (Below w.heap.size w ((w.alloc (.cells #[.int .i64 t.op, .int .i64 t.n, .slice a t.kids.length cap] 29)).alloc (.cells #[.int .i64 0, .int .i64 0] 57))) := ((Below.refl _ _).alloc (Nat.le_refl _) _).alloc (by simp) _
  refine (rwalk_any 120 B (w.heap.size + 1) f t _ 0 1 _ (TmAt.below HT.out HA.out hB (Nat.le_refl _)) (by omega) HN.out (by omega) (by omega) (by omega)).mono ?_
  rintro e w1 ⟨rfl, hb1, hf1⟩
  have k1 : w1.cell? ⟨w.heap.size + 1, 1, none⟩ = some (.int .i64 (res : Nat)) := (by rw [HRE.out]; exact (cell_of_block hb1 1).trans rfl)
  have HB : Hid (Below w.heap.size w w1) := HA.out.trans (hf1.below (by simp; omega) (fun k hk => by subst hk; omega))
  clear hb1 hf1
  go_wp2_with fail
  go_ret
  exact ⟨rfl, HB.out⟩
#print axioms rcheck_any
end Go.Proofs.YtpmaagafcpaajaaDoor
