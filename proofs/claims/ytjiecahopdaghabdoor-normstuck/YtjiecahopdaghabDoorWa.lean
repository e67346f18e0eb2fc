/- within, Count and Few: what each call returns, and that it leaves old memory as it was. -/
import Derived.Test.YtjiecahopdaghabDoorChecked
import Derived.Test.YtjiecahopdaghabDoorKa
namespace Go.Proofs.YtjiecahopdaghabDoor
open Go.RowKit

def wi (a n : Int) : Int := if a.tmod n < 0 then a.tmod n + n else a.tmod n

theorem ret_int {k : IntKind} {a b : Int} (h : a = b) : Ending.returned (.int k a) = .returned (.int k b) := by rw [h]

theorem ret_bool {a b : Bool} (h : a = b) : Ending.returned (.bool a) = .returned (.bool b) := by rw [h]

theorem tmod256 (a : Int) : -256 < a.tmod 256 ∧ a.tmod 256 < 256 := by
  constructor
  · have := Int.lt_tmod_of_pos a (show (0 : Int) < 256 by decide); omega
  · exact Int.tmod_lt_of_pos a (by decide)

theorem wi_256 (a : Int) : 0 ≤ wi a 256 ∧ wi a 256 < 256 := by
  have := tmod256 a
  unfold wi; split <;> omega

set_option maxHeartbeats 400000 in
theorem count_any (B f : Nat) : ∀ (t : Tr) (v : Value) (m : Nat) (w : World), TmAt w B f t v → B ≤ w.heap.size → 1 ≤ m → m ≤ 300 →
    Calls Tryd.prog 39 #[v, .int .i64 m] w fun e w' => e = .returned (.int .i64 (min t.size m : Nat)) ∧ Below w.heap.size w w' := by
  induction f with
  | zero => intro t v m w h; exact h.elim
  | succ f ih =>
    rintro t v m w ⟨a, cap, rfl, hop, hn, hrow⟩ hB hm1 hm2
    have IH := hide ih; clear ih
    have HR := hide hrow
    have hlm : t.kids.length ≤ maxLen := Nat.le_trans hrow.1 hrow.2.1
    clear hrow
    unfold maxLen at hlm
    have hz : Hid (cntTo t m 0 = 1) := cntTo_zero t m hm1
    go_enter Tryd.func39, Tryd.ntmps39
    go_wp2_with fail
    go_loopw [5, 6] (fun n i wr => ∃ k : Nat, k ≤ t.kids.length ∧ i = .int .i64 k ∧ n = .int .i64 (cntTo t m k : Nat) ∧ Below (w.heap.size + 1) (w.alloc (.cells #[.int .i64 t.op, .int .i64 t.n, .slice a t.kids.length cap] 42)) wr) (fun _ i _ => t.kids.length - (intOf i).toNat)
    case atStart => exact ⟨0, Nat.zero_le _, rfl, by rw [hz.out]; rfl, Below.refl _ _⟩
    case round =>
      obtain ⟨k, hk, rfl, rfl, hb⟩ := hrel
      have hc0 := cntTo_le t m k
      have hc1 := cntTo_pos t m k hm1
      obtain ⟨hq0, hq1, hq2⟩ := box3 hb
      have hsz := hb.size
      simp at hsz
      by_cases hlt : k < t.kids.length
      · by_cases hcm : cntTo t m k < m
        · obtain ⟨b, off, rfl, hbB, hx⟩ := HR.out.2.2 (by intro h; simp [h] at hlt)
          obtain ⟨x0, x1, x2, e0, e1, e2, hr⟩ := hx k hlt
          have hs := cntTo_succ t m k hlt hcm
          have HS := hide hs
          have HK := hide hr
          clear hx hs hr
          have hbw : b < w.heap.size := by omega
          have f0 : wr.cell? ⟨b, off + k * 3, none⟩ = some x0 := by rw [oldcell hb hbw]; exact e0
          have f1 : wr.cell? ⟨b, off + k * 3 + 1, none⟩ = some x1 := by rw [oldcell hb hbw]; exact e1
          have f2 : wr.cell? ⟨b, off + k * 3 + 2, none⟩ = some x2 := by rw [oldcell hb hbw]; exact e2
          clear e0 e1 e2
          go_wp2_with fail
          rw [show ((m : Int) - (cntTo t m k : Int)) = ((m - cntTo t m k : Nat) : Int) from by omega]
          refine (IH.out _ _ (m - cntTo t m k) wr (TmAt.below HK.out (below_box hb) hB (Nat.le_refl _)) (by omega) (by omega) (by omega)).mono ?_
          rintro e w1 ⟨rfl, hb1⟩
          go_wp2_with fail
          go_roundw
          case rel => exact ⟨k + 1, by omega, by go_num, by rw [HS.out]; go_num, hb.trans (hb1.mono (by omega))⟩
          case measure => simp [intOf]; omega
        · go_wp2_with fail
          go_ret
          exact ⟨ret_int (by rw [cntTo_full t m k (by omega)]), below_box hb⟩
      · go_wp2_with fail
        go_ret
        exact ⟨ret_int (by rw [← cntTo_end, show t.kids.length = k by omega]), below_box hb⟩

set_option maxHeartbeats 400000 in
theorem few_any (B f : Nat) (t : Tr) (v : Value) (w : World) (h : TmAt w B f t v) (hB : B ≤ w.heap.size) :
    Calls Tryd.prog 22 #[v] w fun e w' => e = .returned (.bool (decide (t.size < 300))) ∧ Below w.heap.size w w' := by
  obtain ⟨g, rfl⟩ : ∃ g, f = g + 1 := by cases f with | zero => exact h.elim | succ g => exact ⟨g, rfl⟩
  obtain ⟨a, cap, rfl, hop, hn, hrow⟩ := h
  have HR := hide hrow; clear hrow
  go_enter Tryd.func22, Tryd.ntmps22
  go_wp2_with fail
  refine (count_any B (g + 1) t _ 300 _ (TmAt.below (w := w) ⟨a, cap, rfl, hop, hn, HR.out⟩ ((Below.refl _ _).alloc (Nat.le_refl _) _) hB (Nat.le_refl _)) (by simp; omega) (by omega) (by omega)).mono ?_
  rintro e w1 ⟨rfl, hb1⟩
  go_wp2_with fail
  go_ret
  refine ⟨?_, (((Below.refl _ _).alloc (Nat.le_refl _) _).trans (hb1.mono (by simp)))⟩
  exact ret_bool (by rw [Bool.eq_iff_iff, decide_eq_true_iff, decide_eq_true_iff]; omega)
#print axioms few_any
end Go.Proofs.YtjiecahopdaghabDoor
