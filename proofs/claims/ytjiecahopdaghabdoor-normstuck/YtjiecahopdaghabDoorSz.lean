/- Size: how many nodes a term has. -/
import Derived.Test.YtjiecahopdaghabDoorWa
namespace Go.Proofs.YtjiecahopdaghabDoor
open Go.RowKit

/-- One, and the sizes of the first k kids. -/
def szTo (t : Tr) (k : Nat) : Nat := 1 + ((t.kids.take k).map Tr.size).sum
theorem szTo_succ (t : Tr) (k : Nat) (hk : k < t.kids.length) : szTo t (k + 1) = szTo t k + (t.kids[k]).size := by
  unfold szTo
  rw [List.take_succ_eq_append_getElem hk]
  simp only [List.map_append, List.sum_append, List.map_cons, List.map_nil, List.sum_cons, List.sum_nil]
  omega
theorem szTo_end (t : Tr) : szTo t t.kids.length = t.size := by unfold szTo; rw [List.take_length, Tr.size_eq]
theorem szTo_le (t : Tr) (k : Nat) : szTo t k ≤ t.size := by
  have h1 := sum_take_le (t.kids.map Tr.size) k
  rw [← List.map_take] at h1
  rw [Tr.size_eq]
  unfold szTo
  omega

set_option maxRecDepth 20000 in
set_option maxHeartbeats 400000 in
theorem size_any (B f : Nat) : ∀ (t : Tr) (v : Value) (w : World), TmAt w B f t v → B ≤ w.heap.size → t.size ≤ 1000000 →
    Calls Tryd.prog 32 #[v] w fun e w' => e = .returned (.int .i64 (t.size : Nat)) ∧ Below w.heap.size w w' := by
  induction f with
  | zero => intro t v w h; exact h.elim
  | succ f ih =>
    rintro t v w ⟨a, cap, rfl, hop, hn, hrow⟩ hB hsz
    have IH := hide ih; clear ih
    have HR := hide hrow
    have hlm : t.kids.length ≤ maxLen := Nat.le_trans hrow.1 hrow.2.1
    clear hrow
    unfold maxLen at hlm
    go_enter Tryd.func32, Tryd.ntmps32
    go_wp2_with fail
    go_loopw [3, 4] (fun n i wr => ∃ k : Nat, k ≤ t.kids.length ∧ i = .int .i64 k ∧ n = .int .i64 (szTo t k : Nat) ∧ Below (w.heap.size + 1) (w.alloc (.cells #[.int .i64 t.op, .int .i64 t.n, .slice a t.kids.length cap] 26)) wr) (fun _ i _ => t.kids.length - (intOf i).toNat)
    case atStart => exact ⟨0, Nat.zero_le _, rfl, rfl, Below.refl _ _⟩
    case round =>
      obtain ⟨k, hk, rfl, rfl, hb⟩ := hrel
      have hc0 := szTo_le t k
      obtain ⟨hq0, hq1, hq2⟩ := box3 hb
      have hs0 := hb.size
      simp at hs0
      by_cases hlt : k < t.kids.length
      · obtain ⟨b, off, rfl, hbB, hx⟩ := HR.out.2.2 (by intro h; simp [h] at hlt)
        obtain ⟨x0, x1, x2, e0, e1, e2, hr⟩ := hx k hlt
        have HS := hide (szTo_succ t k hlt)
        have HL := hide (szTo_le t (k + 1))
        have HK := hide hr
        clear hx hr
        have hbw : b < w.heap.size := Nat.lt_of_lt_of_le hbB hB
        have f0 : wr.cell? ⟨b, off + k * 3, none⟩ = some x0 := by rw [oldcell hb hbw]; exact e0
        have f1 : wr.cell? ⟨b, off + k * 3 + 1, none⟩ = some x1 := by rw [oldcell hb hbw]; exact e1
        have f2 : wr.cell? ⟨b, off + k * 3 + 2, none⟩ = some x2 := by rw [oldcell hb hbw]; exact e2
        clear e0 e1 e2
        have hkz : szTo t k + (t.kids[k]).size ≤ 1000000 := by have := HS.out; have := HL.out; omega
        go_wp2_with fail
        refine (IH.out _ _ wr (TmAt.below HK.out (below_box hb) hB (Nat.le_refl _)) (by omega) (by omega)).mono ?_
        rintro e w1 ⟨rfl, hb1⟩
        go_wp2_with fail
        go_roundw
        case rel => exact ⟨k + 1, by omega, by go_num, by rw [HS.out]; go_num, hb.trans (hb1.mono (by omega))⟩
        case measure => simp [intOf]; omega
      · go_wp2_with fail
        go_ret
        exact ⟨ret_int (by rw [← szTo_end, show t.kids.length = k by omega]), below_box hb⟩
#print axioms size_any
end Go.Proofs.YtjiecahopdaghabDoor
