/- The meter; Size, fits. -/
import Derived.Test.YtjiecahopdaghaaDoorTb
import Derived.Test.YtjiecahopdaghaaDoorSz
namespace Go.Proofs.YtjiecahopdaghaaDoor
open Go.RowKit

theorem put1 {w : World} {mb : Nat} {x0 : Value} {T : TypeId} (h : w.heap[mb]? = some (.cells #[x0] T (0, 0))) (x : Value) : (w.setCell ⟨mb, 0, none⟩ x).heap[mb]? = some (.cells #[x] T (0, 0)) := by
  rw [heap_setCell_same _ _ _ _ _ _ h]; rfl
theorem put1_alloc {w : World} {mb : Nat} {x0 : Value} {T : TypeId} (h : w.heap[mb]? = some (.cells #[x0] T (0, 0))) (x : Value) (o : Obj) : ((w.setCell ⟨mb, 0, none⟩ x).alloc o).heap[mb]? = some (.cells #[x] T (0, 0)) := by
  rw [Below.heap_alloc _ o mb (by have := size_of_block h; simpa [World.setCell] using this)]; exact put1 h x

set_option maxRecDepth 20000 in
set_option maxHeartbeats 1000000 in
theorem takes_any (B mb f : Nat) : ∀ (t : Tr) (v : Value) (n : Nat) (deep : Int) (w : World), TmAt w B f t v → B ≤ mb → w.heap[mb]? = some (.cells #[.int .i64 (n : Nat)] 146 (0, 0)) → n + t.size ≤ 8388608 → 0 ≤ deep → deep + f ≤ 262144 →
    Calls Tryd.prog 106 #[.pointer (some ⟨mb, 0, none⟩), v, .int .i64 deep] w fun e w' => e = .returned (.bool true) ∧ w'.heap[mb]? = some (.cells #[.int .i64 (n + t.size : Nat)] 146 (0, 0)) ∧ Fr (fun k => k = mb) w w' := by
  induction f with
  | zero => intro t v n deep w h; exact h.elim
  | succ f ih =>
    rintro t v n deep w ⟨a, cap, rfl, hop, hn, hrow⟩ hB hmb hsz hd0 hd1
    have IH := hide ih; clear ih
    have HR := hide hrow
    have hlm : t.kids.length ≤ maxLen := Nat.le_trans hrow.1 hrow.2.1
    clear hrow
    unfold maxLen at hlm
    have hmw := size_of_block hmb
    have c0 : ∀ o, (w.alloc o).cell? ⟨mb, 0, none⟩ = some (.int .i64 (n : Nat)) := fun o => (cell_of_block ((Below.heap_alloc w o mb hmw).trans hmb) 0).trans rfl
    have z0 : ∀ o, (w.alloc o).frozen? ⟨mb, 0, none⟩ = false := fun o => frozen_of_block ((Below.heap_alloc w o mb hmw).trans hmb) 0
    have d0 : ∀ x o, ((w.setCell ⟨mb, 0, none⟩ x).alloc o).cell? ⟨mb, 0, none⟩ = some x := fun x o => (cell_of_block (put1_alloc hmb x o) 0).trans rfl
    have HM := hide hmb
    clear hmb
    have h1 := t.size_pos
    have q1 : decide ((8388608 : Int) < (n : Int) + 1) = false := decide_eq_false (by omega)
    have q2 : decide ((262144 : Int) < deep) = false := decide_eq_false (by omega)
    have HSZ := hide hsz; have HD1 := hide hd1
    have hnn : (n : Int) ≤ 8388608 := by omega
    have hdd : deep ≤ 262144 := by omega
    clear hsz hd1 h1
    go_enter Tryd.func106, Tryd.ntmps106
    go_wp2_with fail
    have HB0 : Hid (((w.setCell ⟨mb, 0, none⟩ (.int .i64 ((n : Int) + 1))).alloc (.cells #[.int .i64 t.op, .int .i64 t.n, .slice a t.kids.length cap] 31)).heap[mb]? = some (.cells #[.int .i64 (n + szTo t 0 : Nat)] 146 (0, 0))) := put1_alloc HM.out _ _
    have HF0 : Hid (Fr (fun k => k = mb) w ((w.setCell ⟨mb, 0, none⟩ (.int .i64 ((n : Int) + 1))).alloc (.cells #[.int .i64 t.op, .int .i64 t.n, .slice a t.kids.length cap] 31))) := (Fr.setCell (M := fun k => k = mb) (Fr.refl _ _) (p := ⟨mb, 0, none⟩) rfl _).alloc _
    go_loopw [28] (fun i wr => ∃ k : Nat, k ≤ t.kids.length ∧ i = .int .i64 k ∧ Hid (wr.heap[mb]? = some (.cells #[.int .i64 (n + szTo t k : Nat)] 146 (0, 0))) ∧ Hid (Fr (fun k => k = mb) w wr)) (fun i _ => t.kids.length - (intOf i).toNat)
    case atStart => exact ⟨0, Nat.zero_le _, rfl, HB0, HF0⟩
    case round =>
      obtain ⟨k, hk, rfl, HBX, HFX⟩ := hrel
      clear HB0 HF0 c0 z0 d0 q1
      by_cases hlt : k < t.kids.length
      · obtain ⟨b, off, ka, kc, rfl, hbB, e0, e1, e2, hr⟩ := HR.out.form hlt
        have HS := hide (szTo_succ t k hlt)
        have HL := hide (szTo_le t (k + 1))
        have hbm : b ≠ mb := by omega
        have hbw : b < w.heap.size := by omega
        have f0 := (HFX.out.cell (i := off + k * 3) hbw hbm).trans e0
        have f1 := (HFX.out.cell (i := off + k * 3 + 1) hbw hbm).trans e1
        have f2 := (HFX.out.cell (i := off + k * 3 + 2) hbw hbm).trans e2
        have HK := hide (TmAt.fr hr HFX.out (by omega) (fun q hq => by show ¬ q = mb; omega))
        clear hr e0 e1 e2
        go_wp2_with fail
        refine (IH.out t.kids[k] _ (n + szTo t k) (deep + 1) _ (TmAt.below HK.out (later_alloc wr _) (by have := size_of_block HBX.out; omega) (Nat.le_refl _)) hB ((Below.heap_alloc wr _ mb (size_of_block HBX.out)).trans HBX.out) (by have := HS.out; have := HL.out; have := HSZ.out; omega) (by omega) (by have := HD1.out; omega)).mono ?_
        rintro e w1 ⟨rfl, hb1, hf1⟩
        have HB1 : Hid (w1.heap[mb]? = some (.cells #[.int .i64 (n + szTo t (k + 1) : Nat)] 146 (0, 0))) := by rw [HS.out, ← Nat.add_assoc]; exact hb1
        have HF1 : Hid (Fr (fun k => k = mb) w w1) := (HFX.out.alloc _).trans hf1
        clear hb1 hf1
        go_wp2_with fail
        go_roundw
        case rel => exact ⟨k + 1, by omega, by go_num, HB1, HF1⟩
        case measure => simp [intOf]; omega
      · go_wp2_with fail
        go_ret
        exact ⟨rfl, by rw [← szTo_end, show t.kids.length = k by omega]; exact HBX.out, HFX.out⟩

set_option maxRecDepth 20000 in
set_option maxHeartbeats 1000000 in
theorem measured_any (B f : Nat) (t : Tr) (v : Value) (w : World) (h : TmAt w B f t v) (hB : B ≤ w.heap.size) (hs : t.size ≤ 8388608) (hf : f ≤ 200000) :
    Calls Tryd.prog 100 #[v] w fun e w' => e = .returned (.int .i64 (t.size : Nat)) ∧ Below w.heap.size w w' := by
  obtain ⟨g, rfl⟩ : ∃ g, f = g + 1 := by cases f with | zero => exact h.elim | succ g => exact ⟨g, rfl⟩
  have HT := hide h
  obtain ⟨a, cap, rfl, hop, hn, hrow⟩ := h
  clear hrow
  have HS := hide hs; have HF := hide hf
  clear hs hf
  have HSP := hide t.size_pos
  go_enter Tryd.func100, Tryd.ntmps100
  go_wp2_with fail
  have HN : Hid (((w.alloc (.cells #[.int .i64 t.op, .int .i64 t.n, .slice a t.kids.length cap] 31)).alloc (.cells #[.int .i64 0] 146)).heap[w.heap.size + 1]? = some (.cells #[.int .i64 (0 : Nat)] 146 (0, 0))) := by
    have := heap_alloc_new (w.alloc (.cells #[.int .i64 t.op, .int .i64 t.n, .slice a t.kids.length cap] 31)) (.cells #[.int .i64 0] 146)
    rw [World.size_alloc] at this
    exact this
  have HA : Hid (Below w.heap.size w ((w.alloc (.cells #[.int .i64 t.op, .int .i64 t.n, .slice a t.kids.length cap] 31)).alloc (.cells #[.int .i64 0] 146))) := ((Below.refl _ _).alloc (Nat.le_refl _) _).alloc (by simp) _
  refine (takes_any B (w.heap.size + 1) (g + 1) t _ 0 1 _ (TmAt.below HT.out HA.out hB (Nat.le_refl _)) (by omega) HN.out (by have := HS.out; omega) (by omega) (by have := HF.out; omega)).mono ?_
  rintro e w1 ⟨rfl, hb1, hf1⟩
  rw [Nat.zero_add] at hb1
  have c1 : w1.cell? ⟨w.heap.size + 1, 0, none⟩ = some (.int .i64 (t.size : Nat)) := (cell_of_block hb1 0).trans rfl
  have HB : Hid (Below w.heap.size w w1) := HA.out.trans (hf1.below (by simp; omega) (fun k hk => by subst hk; omega))
  clear hb1 hf1
  go_wp2_with fail
  go_ret
  exact ⟨rfl, HB.out⟩

set_option maxRecDepth 20000 in
set_option maxHeartbeats 1000000 in
theorem fits_any (B f : Nat) (t : Tr) (v : Value) (w : World) (h : TmAt w B f t v) (hB : B ≤ w.heap.size) (hs : t.size ≤ 8388608) (hf : f ≤ 200000) :
    Calls Tryd.prog 91 #[v] w fun e w' => e = .returned (.bool true) ∧ Below w.heap.size w w' := by
  have HT := hide h
  obtain ⟨a, cap, rfl, _, _, hop, hn⟩ := h.shape
  have h1 := t.size_pos
  have HS := hide hs; have HF := hide hf
  clear hs hf h
  go_enter Tryd.func91, Tryd.ntmps91
  go_wp2_with fail
  refine (measured_any B f t _ _ (TmAt.below HT.out (later_alloc w _) hB (Nat.le_refl _)) (by rw [World.size_alloc]; omega) HS.out HF.out).mono ?_
  rintro e w1 ⟨rfl, hb1⟩
  have HB : Hid (Below w.heap.size w w1) := below_box (by simpa using hb1)
  go_wp2_with fail
  go_ret
  exact ⟨ret_bool (decide_eq_true (by omega)), HB.out⟩

#print axioms fits_any
end Go.Proofs.YtjiecahopdaghaaDoor
