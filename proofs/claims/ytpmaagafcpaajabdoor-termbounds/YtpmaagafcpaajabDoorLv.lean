/- The walk of TermBounds: the tower. -/
import Derived.Test.YtpmaagafcpaajabDoorCc
import Derived.Test.YtpmaagafcpaajabDoorWv
import Derived.Test.YtpmaagafcpaajabDoorLd
import Derived.Test.YtpmaagafcpaajabDoorLb
namespace Go.Proofs.YtpmaagafcpaajabDoor
open Go.RowKit

def tow : Nat → Tr
  | 0 => ⟨11, 0, []⟩
  | j + 1 => ⟨12, 0, [tow j]⟩
theorem chk_tow : ∀ (l j c : Nat), c + j + 1 ≤ 3000 → chk l c (tow j) = if j < l then (0, c + j + 1) else (5, c + l + 1)
  | 0, j, c, _ => by rw [chk, if_neg (by omega)]
  | l + 1, 0, c, h => by
    rw [chk, if_neg (by omega), if_pos (show OkN (tow 0).op (tow 0).n (tow 0).kids.length by decide), if_pos (by omega)]
    rfl
  | l + 1, j + 1, c, h => by
    rw [chk, if_neg (by omega), if_pos (show OkN (tow (j + 1)).op (tow (j + 1)).n (tow (j + 1)).kids.length by show OkN 12 0 1; decide)]
    show chkL (chk l) (c + 1) [tow j] = _
    rw [chkL, chk_tow l j (c + 1) (by omega)]
    by_cases hj : j < l
    · rw [if_pos hj, if_pos rfl, if_pos (by omega), chkL]
      simp; omega
    · rw [if_neg hj, if_neg (by simp), if_neg (by omega)]
      simp; omega
theorem bcheck' (f : Nat) (t : Tr) (v : Value) (w0 w : World) (r : Int) (h : TmAt w w.heap.size f t v) (ht : Tk w0) (hb : Below w0.heap.size w0 w) (hr : ((chk 120 0 t).1 : Int) = r) :
    Calls Tryd.prog 10 #[v] w fun e w' => e = .returned (.int .i64 r) ∧ Below w0.heap.size w0 w' := by
  refine (tcheck_any w.heap.size f t v w h (Nat.le_refl _) (ht.later hb) (Nat.le_trans ht.size hb.size)).mono ?_
  rintro e w1 ⟨rfl, hb1⟩
  exact ⟨by rw [hr], hb.trans (hb1.mono hb.size)⟩

theorem froz (w : World) (o : Obj) {b i : Nat} {x y z : Value} (h : w.heap[b]? = some (.cells #[x, y, z] 26 (0, 0))) : (w.alloc o).frozen? ⟨b, i, none⟩ = false :=
  frozen_of_block ((Below.heap_alloc w o b (size_of_block h)).trans h) i

theorem froz3 (w : World) {b : Nat} {x y z : Value} (h : w.heap[b]? = some (.cells #[x, y, z] 26 (0, 0))) : (∀ o, (w.alloc o).frozen? ⟨b, 0, none⟩ = false) ∧ (∀ o, (w.alloc o).frozen? ⟨b, 1, none⟩ = false) ∧ (∀ o, (w.alloc o).frozen? ⟨b, 2, none⟩ = false) ∧
    (∀ o, (w.alloc o).cell? ⟨b, 0, none⟩ = some x) ∧ (∀ o, (w.alloc o).cell? ⟨b, 1, none⟩ = some y) ∧ (∀ o, (w.alloc o).cell? ⟨b, 2, none⟩ = some z) :=
  ⟨fun o => froz w o h, fun o => froz w o h, fun o => froz w o h, fun o => (blk3 ((Below.heap_alloc w o b (size_of_block h)).trans h)).1, fun o => (blk3 ((Below.heap_alloc w o b (size_of_block h)).trans h)).2.1, fun o => (blk3 ((Below.heap_alloc w o b (size_of_block h)).trans h)).2.2⟩

theorem tow_step {wr : World} {b j : Nat} {o n : Int} {a : Option Addr} {l c : Nat} (hx : wr.heap[b]? = some (.cells #[.int .i64 o, .int .i64 n, .slice a l c] 26 (0, 0))) (hd : TmD wr (fun k => k ≠ b ∧ k < wr.heap.size) (j + 1) (tow j) (.agg #[.int .i64 o, .int .i64 n, .slice a l c])) {w' : World}
    (hw : w' = (((wr.alloc (.cells #[.int .i64 o, .int .i64 n, .slice a l c] 26)).setCell ⟨b, 0, none⟩ (.int .i64 12)).setCell ⟨b, 1, none⟩ (.int .i64 0)).setCell ⟨b, 2, none⟩ (.slice (some ⟨wr.heap.size, 0, none⟩) 1 1)) :
    w'.heap[b]? = some (.cells #[.int .i64 12, .int .i64 0, .slice (some ⟨wr.heap.size, 0, none⟩) 1 1] 26 (0, 0)) ∧ TmD w' (fun k => k ≠ b ∧ k < w'.heap.size) (j + 1 + 1) (tow (j + 1)) (.agg #[.int .i64 12, .int .i64 0, .slice (some ⟨wr.heap.size, 0, none⟩) 1 1]) := by
  have hlt := size_of_block hx
  have hs : w'.heap.size = wr.heap.size + 1 := by rw [hw]; simp [World.setCell]
  have hne : wr.heap.size ≠ b := by omega
  have hb : w'.heap[wr.heap.size]? = some (.cells #[.int .i64 o, .int .i64 n, .slice a l c] 26 (0, 0)) := by
    rw [hw, heap_setCell_other _ _ _ _ hne, heap_setCell_other _ _ _ _ hne, heap_setCell_other _ _ _ _ hne]
    exact heap_alloc_new _ _
  have hk : ∀ q, (q ≠ b ∧ q < wr.heap.size) → w'.heap[q]? = wr.heap[q]? := by
    intro q hq
    rw [hw, heap_setCell_other _ _ _ _ hq.1, heap_setCell_other _ _ _ _ hq.1, heap_setCell_other _ _ _ _ hq.1]
    exact Below.heap_alloc wr _ q hq.2
  refine ⟨by rw [hw]; exact put3_blk ((Below.heap_alloc wr _ b hlt).trans hx) _ _ _, some ⟨wr.heap.size, 0, none⟩, 1, rfl, (show I64 12 from i64_lit (by decide)), (show I64 0 from i64_lit (by decide)), ?_⟩
  refine row_blk (ts := [tow j]) hb ⟨hne, by rw [hs]; omega⟩ (by unfold maxLen; simp) fun i hi => ?_
  obtain rfl : i = 0 := by simp at hi; omega
  exact ⟨_, _, _, rfl, rfl, rfl, hd.keep hk (fun q hq => ⟨hq.1, by rw [hs]; omega⟩) _ _ _⟩

set_option maxRecDepth 20000 in
set_option maxHeartbeats 1000000 in
theorem bounds_7t (x far : Int) (w : World) (hw : wi x 9 = 7) (ht : Tabs w.heap.size w) (hl : Tl w) (hk : Tk w) :
    Calls Tryd.prog 3 #[.int .i64 x, .bool true, .int .i64 far] w fun e w' => e = .returned (.bool true) ∧ Below w.heap.size w w' := by
  obtain ⟨y, hy⟩ : ∃ y, y = wi far 1000 := ⟨_, rfl⟩
  have hy0 : 0 ≤ y := by rw [hy]; exact (wi_n far 1000 (by decide)).1
  have hy1 : y < 1000 := by rw [hy]; exact (wi_n far 1000 (by decide)).2
  obtain ⟨m, hm⟩ : ∃ m : Nat, wi (1 + y) 9 = (m : Int) := ⟨(wi (1 + y) 9).toNat, by have := (wi_n (1 + y) 9 (by decide)).1; omega⟩
  have hm9 : m < 9 := by have := (wi_n (1 + y) 9 (by decide)).2; omega
  have HT := hide ht; have HL := hide hl; have HK := hide hk
  clear ht hl hk
  go_enter Tryd.func3, Tryd.ntmps3
  go_wp2_with fail
  refine (known_any _ HT.out HL.out).mono ?_
  rintro e w1 ⟨rfl, hb1⟩
  have HB := hide hb1
  clear hb1
  go_wp2_with fail
  refine (lwithin_n _ _ _ (by decide) (by decide)).mono ?_
  rintro e w2 ⟨rfl, h2⟩
  rw [h2]
  rw [← hy]
  clear h2 hy w2
  go_wp2_with fail
  refine (lwithin_n _ _ _ (by decide) (by decide)).mono ?_
  rintro e w2 ⟨rfl, h2⟩
  rw [h2]
  rw [hw]
  clear h2 w2
  go_wp2_with fail
  have HN := hide (heap_alloc_new w1 (.cells #[.int .i64 11, .int .i64 0, .slice none 0 0] 26))
  have HBN := hide (HB.out.alloc HB.out.size (.cells #[.int .i64 11, .int .i64 0, .slice none 0 0] 26))
  have hwb := HB.out.size
  go_loopw [10] (fun i wr => ∃ j : Nat, i = .int .i64 ((j : Int) + 1) ∧ j ≤ 119 + m ∧ (∃ o n a l c, Hid (wr.heap[w1.heap.size]? = some (.cells #[.int .i64 o, .int .i64 n, .slice a l c] 26 (0, 0))) ∧ Hid (TmD wr (fun k => k ≠ w1.heap.size ∧ k < wr.heap.size) (j + 1) (tow j) (.agg #[.int .i64 o, .int .i64 n, .slice a l c]))) ∧ Hid (Below w.heap.size w wr)) (fun i _ => 200 - (intOf i).toNat)
  case atStart => exact ⟨0, rfl, Nat.zero_le _, ⟨11, 0, none, 0, 0, HN, hide (tm_leaf 0 (i64_lit (by decide)) (i64_lit (by decide)))⟩, HBN⟩
  case round =>
    obtain ⟨j, rfl, hj, ⟨o, n, a, l, c, HX, HD⟩, HBR⟩ := hrel
    clear HN HBN
    obtain ⟨c0, c1, c2⟩ := blk3 HX.out
    go_wp2_with fail
    refine (lwithin_n _ _ _ (by decide) (by decide)).mono ?_
    rintro e w2 ⟨rfl, h2⟩
    rw [h2]
    rw [hm]
    clear h2 w2
    by_cases hlt : j < 119 + m
    · have zz := froz3 wr HX.out
      obtain ⟨z0, z1, z2, y0, y1, y2⟩ := zz
      have HST := hide (tow_step HX.out HD.out rfl)
      have HBS : Hid (Below w.heap.size w ((((wr.alloc (.cells #[.int .i64 o, .int .i64 n, .slice a l c] 26)).setCell ⟨w1.heap.size, 0, none⟩ (.int .i64 12)).setCell ⟨w1.heap.size, 1, none⟩ (.int .i64 0)).setCell ⟨w1.heap.size, 2, none⟩ (.slice (some ⟨wr.heap.size, 0, none⟩) 1 1))) := hide ((((HBR.out.alloc HBR.out.size _).setCell hwb _).setCell hwb _).setCell hwb _)
      go_wp2_with fail
      go_roundw
      case rel => exact ⟨j + 1, by go_num, by omega, ⟨12, 0, _, 1, 1, HST.out.1, HST.out.2⟩, HBS⟩
      case measure => simp [intOf]; omega
    · have hj2 : j = 119 + m := by omega
      subst hj2
      go_wp2_with fail
      refine (lwithin_n _ _ _ (by decide) (by decide)).mono ?_
      rintro e w2 ⟨rfl, h2⟩
      rw [h2]
      rw [hm]
      clear h2 w2
      have HTW := hide (show TmAt wr wr.heap.size (119 + m + 1) (tow (119 + m)) _ from HD.out.keep (fun _ _ => rfl) (fun q hq => hq.2) _ _ _)
      by_cases h0 : m = 0
      · subst h0
        go_wp2_with fail
        refine (bcheck' _ _ _ w _ 0 HTW.out HK.out HBR.out (by rw [chk_tow _ _ _ (by omega), if_pos (by omega)]; rfl)).mono ?_
        rintro e w3 ⟨rfl, hb3⟩
        have HB3 := hide hb3
        clear hb3
        go_wp2_with fail
        go_ret
        exact ⟨rfl, HB3.out⟩
      · have hm1 : (0 : Int) < (m : Int) := by omega
        go_wp2_with fail
        refine (bcheck' _ _ _ w _ 5 HTW.out HK.out HBR.out (by rw [chk_tow _ _ _ (by omega), if_neg (by omega)]; rfl)).mono ?_
        rintro e w3 ⟨rfl, hb3⟩
        have HB3 := hide hb3
        clear hb3
        go_wp2_with fail
        go_ret
        exact ⟨rfl, HB3.out⟩
set_option maxRecDepth 20000 in
set_option maxHeartbeats 1000000 in
theorem bounds_7f (x far : Int) (w : World) (hw : wi x 9 = 7) (ht : Tabs w.heap.size w) (hl : Tl w) (hk : Tk w) :
    Calls Tryd.prog 3 #[.int .i64 x, .bool false, .int .i64 far] w fun e w' => e = .returned (.bool true) ∧ Below w.heap.size w w' := by
  obtain ⟨m, hm⟩ : ∃ m : Nat, wi (0) 9 = (m : Int) := ⟨(wi (0) 9).toNat, by have := (wi_n (0) 9 (by decide)).1; omega⟩
  have hm9 : m < 9 := by have := (wi_n (0) 9 (by decide)).2; omega
  have HT := hide ht; have HL := hide hl; have HK := hide hk
  clear ht hl hk
  go_enter Tryd.func3, Tryd.ntmps3
  go_wp2_with fail
  refine (known_any _ HT.out HL.out).mono ?_
  rintro e w1 ⟨rfl, hb1⟩
  have HB := hide hb1
  clear hb1
  go_wp2_with fail
  refine (lwithin_n _ _ _ (by decide) (by decide)).mono ?_
  rintro e w2 ⟨rfl, h2⟩
  rw [h2]
  rw [hw]
  clear h2 w2
  go_wp2_with fail
  have HN := hide (heap_alloc_new w1 (.cells #[.int .i64 11, .int .i64 0, .slice none 0 0] 26))
  have HBN := hide (HB.out.alloc HB.out.size (.cells #[.int .i64 11, .int .i64 0, .slice none 0 0] 26))
  have hwb := HB.out.size
  go_loopw [10] (fun i wr => ∃ j : Nat, i = .int .i64 ((j : Int) + 1) ∧ j ≤ 119 + m ∧ (∃ o n a l c, Hid (wr.heap[w1.heap.size]? = some (.cells #[.int .i64 o, .int .i64 n, .slice a l c] 26 (0, 0))) ∧ Hid (TmD wr (fun k => k ≠ w1.heap.size ∧ k < wr.heap.size) (j + 1) (tow j) (.agg #[.int .i64 o, .int .i64 n, .slice a l c]))) ∧ Hid (Below w.heap.size w wr)) (fun i _ => 200 - (intOf i).toNat)
  case atStart => exact ⟨0, rfl, Nat.zero_le _, ⟨11, 0, none, 0, 0, HN, hide (tm_leaf 0 (i64_lit (by decide)) (i64_lit (by decide)))⟩, HBN⟩
  case round =>
    obtain ⟨j, rfl, hj, ⟨o, n, a, l, c, HX, HD⟩, HBR⟩ := hrel
    clear HN HBN
    obtain ⟨c0, c1, c2⟩ := blk3 HX.out
    go_wp2_with fail
    refine (lwithin_n _ _ _ (by decide) (by decide)).mono ?_
    rintro e w2 ⟨rfl, h2⟩
    rw [h2]
    rw [hm]
    clear h2 w2
    by_cases hlt : j < 119 + m
    · have zz := froz3 wr HX.out
      obtain ⟨z0, z1, z2, y0, y1, y2⟩ := zz
      have HST := hide (tow_step HX.out HD.out rfl)
      have HBS : Hid (Below w.heap.size w ((((wr.alloc (.cells #[.int .i64 o, .int .i64 n, .slice a l c] 26)).setCell ⟨w1.heap.size, 0, none⟩ (.int .i64 12)).setCell ⟨w1.heap.size, 1, none⟩ (.int .i64 0)).setCell ⟨w1.heap.size, 2, none⟩ (.slice (some ⟨wr.heap.size, 0, none⟩) 1 1))) := hide ((((HBR.out.alloc HBR.out.size _).setCell hwb _).setCell hwb _).setCell hwb _)
      go_wp2_with fail
      go_roundw
      case rel => exact ⟨j + 1, by go_num, by omega, ⟨12, 0, _, 1, 1, HST.out.1, HST.out.2⟩, HBS⟩
      case measure => simp [intOf]; omega
    · have hj2 : j = 119 + m := by omega
      subst hj2
      go_wp2_with fail
      refine (lwithin_n _ _ _ (by decide) (by decide)).mono ?_
      rintro e w2 ⟨rfl, h2⟩
      rw [h2]
      rw [hm]
      clear h2 w2
      have HTW := hide (show TmAt wr wr.heap.size (119 + m + 1) (tow (119 + m)) _ from HD.out.keep (fun _ _ => rfl) (fun q hq => hq.2) _ _ _)
      by_cases h0 : m = 0
      · subst h0
        go_wp2_with fail
        refine (bcheck' _ _ _ w _ 0 HTW.out HK.out HBR.out (by rw [chk_tow _ _ _ (by omega), if_pos (by omega)]; rfl)).mono ?_
        rintro e w3 ⟨rfl, hb3⟩
        have HB3 := hide hb3
        clear hb3
        go_wp2_with fail
        go_ret
        exact ⟨rfl, HB3.out⟩
      · have hm1 : (0 : Int) < (m : Int) := by omega
        go_wp2_with fail
        refine (bcheck' _ _ _ w _ 5 HTW.out HK.out HBR.out (by rw [chk_tow _ _ _ (by omega), if_neg (by omega)]; rfl)).mono ?_
        rintro e w3 ⟨rfl, hb3⟩
        have HB3 := hide hb3
        clear hb3
        go_wp2_with fail
        go_ret
        exact ⟨rfl, HB3.out⟩

theorem bounds_any (x far : Int) (above : Bool) (w : World) (ht : Tabs w.heap.size w) (hl : Tl w) (hk : Tk w) :
    Calls Tryd.prog 3 #[.int .i64 x, .bool above, .int .i64 far] w fun e w' => e = .returned (.bool true) ∧ Below w.heap.size w w' := by
  have h9 := wi_n x 9 (by decide)
  obtain h | h | h | h | h | h | h | h | h : wi x 9 = 0 ∨ wi x 9 = 1 ∨ wi x 9 = 2 ∨ wi x 9 = 3 ∨ wi x 9 = 4 ∨ wi x 9 = 5 ∨ wi x 9 = 6 ∨ wi x 9 = 7 ∨ wi x 9 = 8 := by omega
  · cases above
    · exact bounds_0f x far w h ht hl hk
    · exact bounds_0t x far w h ht hl hk
  · cases above
    · exact bounds_1f x far w h ht hl hk
    · exact bounds_1t x far w h ht hl hk
  · cases above
    · exact bounds_2f x far w h ht hl hk
    · exact bounds_2t x far w h ht hl hk
  · cases above
    · exact bounds_3f x far w h ht hl hk
    · exact bounds_3t x far w h ht hl hk
  · cases above
    · exact bounds_4f x far w h ht hl hk
    · exact bounds_4t x far w h ht hl hk
  · cases above
    · exact bounds_5f x far w h ht hl hk
    · exact bounds_5t x far w h ht hl hk
  · cases above
    · exact bounds_6f x far w h ht hl hk
    · exact bounds_6t x far w h ht hl hk
  · cases above
    · exact bounds_7f x far w h ht hl hk
    · exact bounds_7t x far w h ht hl hk
  · cases above
    · exact bounds_8f x far w h ht hl hk
    · exact bounds_8t x far w h ht hl hk
#print axioms bounds_any
end Go.Proofs.YtpmaagafcpaajabDoor
