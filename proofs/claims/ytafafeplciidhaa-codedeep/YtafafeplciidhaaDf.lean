/- CodeDeep: the walk of the statement's function. -/
import Derived.Test.YtafafeplciidhaaDe
namespace Go.Proofs.Ytafafeplciidhaa
open Go.RowKit

attribute [local go_sem ↓] Go.wp_at_zero Go.wp_at_succ

theorem tower_step {w wr : World} {tb k yl yc : Nat} {y0 y1 : Int} {ya : Option Addr} (HBT : wr.heap[tb]? = some (.cells #[.int .i64 y0, .int .i64 y1, .slice ya yl yc] 29 (0, 0)))
    (HTM : TmD wr (fun q => tb < q ∧ q < wr.heap.size) (k + 1) (tower k) (.agg #[.int .i64 y0, .int .i64 y1, .slice ya yl yc])) (HBL : Below w.heap.size w wr) (hs : w.heap.size ≤ tb) :
    ((((wr.setCell ⟨tb, 0, none⟩ (.int .i64 12)).setCell ⟨tb, 1, none⟩ (.int .i64 0)).setCell ⟨tb, 2, none⟩ (.slice (some ⟨wr.heap.size, 0, none⟩) 1 1)).alloc (.cells #[.int .i64 y0, .int .i64 y1, .slice ya yl yc] 29)).heap[tb]? = some (.cells #[.int .i64 12, .int .i64 0, .slice (some ⟨wr.heap.size, 0, none⟩) 1 1] 29 (0, 0)) ∧
    TmD ((((wr.setCell ⟨tb, 0, none⟩ (.int .i64 12)).setCell ⟨tb, 1, none⟩ (.int .i64 0)).setCell ⟨tb, 2, none⟩ (.slice (some ⟨wr.heap.size, 0, none⟩) 1 1)).alloc (.cells #[.int .i64 y0, .int .i64 y1, .slice ya yl yc] 29)) (fun q => tb < q ∧ q < ((((wr.setCell ⟨tb, 0, none⟩ (.int .i64 12)).setCell ⟨tb, 1, none⟩ (.int .i64 0)).setCell ⟨tb, 2, none⟩ (.slice (some ⟨wr.heap.size, 0, none⟩) 1 1)).alloc (.cells #[.int .i64 y0, .int .i64 y1, .slice ya yl yc] 29)).heap.size) (k + 1 + 1) (tower (k + 1)) (.agg #[.int .i64 12, .int .i64 0, .slice (some ⟨wr.heap.size, 0, none⟩) 1 1]) ∧ Below w.heap.size w ((((wr.setCell ⟨tb, 0, none⟩ (.int .i64 12)).setCell ⟨tb, 1, none⟩ (.int .i64 0)).setCell ⟨tb, 2, none⟩ (.slice (some ⟨wr.heap.size, 0, none⟩) 1 1)).alloc (.cells #[.int .i64 y0, .int .i64 y1, .slice ya yl yc] 29)) := by
  have hts := size_of_block HBT
  have h3 := heap_setCell_same _ _ 2 _ _ (.slice (some ⟨wr.heap.size, 0, none⟩) 1 1) (heap_setCell_same _ _ 1 _ _ (.int .i64 0) (heap_setCell_same _ _ 0 _ _ (.int .i64 12) HBT))
  have hb : Below w.heap.size w (((wr.setCell ⟨tb, 0, none⟩ (.int .i64 12)).setCell ⟨tb, 1, none⟩ (.int .i64 0)).setCell ⟨tb, 2, none⟩ (.slice (some ⟨wr.heap.size, 0, none⟩) 1 1)) := ((HBL.setCell (by exact hs) _).setCell (by exact hs) _).setCell (by exact hs) _
  have oth : ∀ q, q ≠ tb → (((wr.setCell ⟨tb, 0, none⟩ (.int .i64 12)).setCell ⟨tb, 1, none⟩ (.int .i64 0)).setCell ⟨tb, 2, none⟩ (.slice (some ⟨wr.heap.size, 0, none⟩) 1 1)).heap[q]? = wr.heap[q]? := fun q hq => by
    rw [heap_setCell_other _ _ _ _ (show q ≠ tb from hq), heap_setCell_other _ _ _ _ (show q ≠ tb from hq), heap_setCell_other _ _ _ _ (show q ≠ tb from hq)]
  have hsz : (((wr.setCell ⟨tb, 0, none⟩ (.int .i64 12)).setCell ⟨tb, 1, none⟩ (.int .i64 0)).setCell ⟨tb, 2, none⟩ (.slice (some ⟨wr.heap.size, 0, none⟩) 1 1)).heap.size = wr.heap.size := by simp [World.setCell]
  generalize ((wr.setCell ⟨tb, 0, none⟩ (.int .i64 12)).setCell ⟨tb, 1, none⟩ (.int .i64 0)).setCell ⟨tb, 2, none⟩ (.slice (some ⟨wr.heap.size, 0, none⟩) 1 1) = W at *
  have hnew := heap_alloc_new W (.cells #[.int .i64 y0, .int .i64 y1, .slice ya yl yc] 29)
  rw [hsz] at hnew
  have hs2 : (W.alloc (.cells #[.int .i64 y0, .int .i64 y1, .slice ya yl yc] 29)).heap.size = wr.heap.size + 1 := by rw [World.size_alloc, hsz]
  refine ⟨(Below.heap_alloc _ _ _ (by omega)).trans h3, ⟨_, _, rfl, by unfold I64; simp only [tower]; omega, by unfold I64; simp only [tower]; omega, Nat.le_refl _, by unfold maxLen; omega, fun _ => ⟨wr.heap.size, 0, rfl, ⟨hts, by omega⟩, fun i hi => ?_⟩⟩, hb.alloc (by have := HBL.size; omega) _⟩
  have hi0 : i = 0 := by simp [tower] at hi; omega
  subst hi0
  obtain ⟨e0, e1, e2⟩ := blk3 hnew
  exact ⟨_, _, _, e0, e1, e2, TmD.keep (fun q hq => (Below.heap_alloc _ _ _ (by omega)).trans (oth q (by omega))) (fun q hq => ⟨hq.1, by omega⟩) _ _ _ HTM⟩

set_option linter.unusedSimpArgs false in
set_option maxRecDepth 20000 in
set_option maxHeartbeats 4000000 in
theorem deep_any (n0 cut : Int) (wide : Bool) (w : World) :
    Calls Try.prog 5 #[.int .i64 n0, .bool wide, .int .i64 cut] w fun e w' => e = .returned (.bool true) ∧ Below w.heap.size w w' := by
  go_enter Try.func5, Try.ntmps5
  go_wp2_with fail
  refine (known_any _).mono ?_
  rintro e w1 ⟨rfl, hb1⟩
  have HB1 := hide hb1
  have hs1 := hb1.size
  clear hb1
  go_wp2_with fail
  refine (within_n n0 5 _ (by decide) (by decide)).mono ?_
  rintro e w2 ⟨rfl, h2⟩
  rw [h2]
  clear h2
  have hwi := wi_n n0 5 (by decide)
  obtain ⟨n, hn⟩ : ∃ n : Nat, wi n0 5 = n := ⟨(wi n0 5).toNat, by omega⟩
  have hn5 : n < 5 := by omega
  rw [hn]
  clear hwi hn
  go_upto_if 26 with fail
  have hx1 : (w1.alloc (.cells #[.int .i64 11, .int .i64 0, .slice none 0 0] 29)).heap[w1.heap.size]? = some (.cells #[.int .i64 11, .int .i64 0, .slice none 0 0] 29 (0, 0)) := heap_alloc_new w1 _
  have hx2 : Below w.heap.size w (w1.alloc (.cells #[.int .i64 11, .int .i64 0, .slice none 0 0] 29)) := HB1.out.alloc hs1 _
  have hx3 : (w1.alloc (.cells #[.int .i64 11, .int .i64 0, .slice none 0 0] 29)).heap.size = w1.heap.size + 1 := by simp
  generalize w1.alloc (.cells #[.int .i64 11, .int .i64 0, .slice none 0 0] 29) = W at *
  generalize w1.heap.size = tb at *
  have HX1 := hide hx1; have HX2 := hide hx2; have HX3 := hide hx3
  clear hx1 hx2 hx3 HB1
  go_cut [8, 9, 10, 11, 12] (fun _ _ _ _ _ wx => TallAt w n tb wx)
  case first =>
    cases wide with
    | false =>
      go_wp2_with fail
      have hw117 : IntKind.i64.wrap (117 + (n : Int)) = 117 + (n : Int) := by rw [IntKind.wrap_i64]; omega
      go_loopw [12] (fun i wr => ∃ (k : Nat) (y0 y1 : Int) (ya : Option Addr) (yl yc : Nat), k ≤ 117 + n ∧ i = .int .i64 k ∧ wr.heap[tb]? = some (.cells #[.int .i64 y0, .int .i64 y1, .slice ya yl yc] 29 (0, 0)) ∧ TmD wr (fun q => tb < q ∧ q < wr.heap.size) (k + 1) (tower k) (.agg #[.int .i64 y0, .int .i64 y1, .slice ya yl yc]) ∧ Below w.heap.size w wr) (fun i _ => 117 + n - (intOf i).toNat)
      case atStart => exact ⟨0, 11, 0, none, 0, 0, by omega, rfl, HX1.out, ⟨none, 0, rfl, by unfold I64; simp only [tower]; omega, by unfold I64; simp only [tower]; omega, RowAt.nil (by unfold maxLen; omega)⟩, HX2.out⟩
      case round =>
        obtain ⟨k, y0, y1, ya, yl, yc, hk, rfl, hbt, htm, hbl⟩ := hrel
        have HBT := hide hbt; have HTM := hide htm; have HBL := hide hbl
        have hts := size_of_block hbt
        obtain ⟨c0, c1, c2⟩ := blk3 hbt
        have ha : ∀ o, (wr.alloc o).heap[tb]? = some (.cells #[.int .i64 y0, .int .i64 y1, .slice ya yl yc] 29 (0, 0)) := fun o => (Below.heap_alloc _ _ _ hts).trans hbt
        have d0 := fun o => (blk3 (ha o)).1; have d1 := fun o => (blk3 (ha o)).2.1; have d2 := fun o => (blk3 (ha o)).2.2
        have z0 := fun o => frozen_of_block (ha o) 0; have z1 := fun o => frozen_of_block (ha o) 1; have z2 := fun o => frozen_of_block (ha o) 2
        have v0 := frozen_of_block hbt 0; have v1 := frozen_of_block hbt 1; have v2 := frozen_of_block hbt 2
        clear hbt htm hbl ha
        by_cases hlt : k < 117 + n
        · have hlt' : (k : Int) < 117 + (n : Int) := by omega
          obtain ⟨g1, g2, g3⟩ := tower_step HBT.out HTM.out HBL.out hs1
          have G1 := hide g1; have G2 := hide g2; have G3 := hide g3
          clear g1 g2 g3
          go_wp2_with fail
          go_roundw
          case rel => exact ⟨k + 1, _, _, _, _, _, by omega, by go_num, G1.out, G2.out, G3.out⟩
          case measure => simp [intOf]; omega
        · have hke : k = 117 + n := by omega
          subst hke
          go_wp2_with fail
          go_meet
          case rel =>
            rcases tower_tall n with h | h
            · exact ⟨tower (117 + n), y0, y1, ya, yl, yc, HBT.out, TmD.more (TmD.keep (fun _ _ => rfl) (fun q hq => hq.2) _ _ _ HTM.out) (by omega), h, HBL.out⟩
            · omega
    | true =>
      obtain ⟨i, hi, hz0, hz1, hz2⟩ := info_parts Try.info29
      have hw2997 : IntKind.i64.wrap (2997 + (n : Int)) = 2997 + (n : Int) := by rw [IntKind.wrap_i64]; omega
      go_wp2_with fail
      go_loopw [8, 9, 10, 11] (fun i _ _ _ wr => ∃ (kk : Nat) (ts : List Tr) (ta : Option Addr) (tc : Nat) (xs : List Value), i = .int .i64 kk ∧ Fans (2997 + n) kk ts ∧ wr.heap[tb]? = some (.cells #[.int .i64 11, .int .i64 0, .slice ta ts.length tc] 29 (0, 0)) ∧ wr.ownsRow (tb + 1) 29 3 (.slice ta ts.length tc) ts.length xs ∧
        KidsAt wr (fun q => tb + 1 ≤ q ∧ q < wr.heap.size ∧ some q ≠ (Value.slice ta ts.length tc).ownBlock) 2 ts xs ∧ Below w.heap.size w wr) (fun i _ _ _ _ => (intOf i).toNat)
      case atStart => exact ⟨2997 + n, [], none, 0, [], by go_num, ⟨by simp, by simp, fun _ => by simp, fun x hx => by cases hx⟩, HX1.out, ⟨rfl, Or.inl ⟨rfl, rfl⟩⟩, KidsAt.nil _ _ _, HX2.out⟩
      case round =>
        obtain ⟨kk, ts, ta, tc, xs, rfl, hfs, hbt, hown, hkd, hbl⟩ := hrel
        obtain ⟨wo, rfl⟩ : ∃ x, x = wr := ⟨_, rfl⟩
        have HFS := hide hfs; have HBT := hide hbt; have HOW := hide hown; have HKD := hide hkd; have HBL := hide hbl
        have hts := size_of_block hbt
        have hkb : kk ≤ 3001 := by have := hfs.1; omega
        clear hfs hbt hown hkd hbl
        by_cases hpos : 0 < kk
        · obtain ⟨m, hm⟩ : ∃ m : Nat, m + 1 = min kk 250 := ⟨min kk 250 - 1, by omega⟩
          have hmi : (if (250 : Int) < (kk : Int) then (250 : Int) else (kk : Int)) = (m : Int) + 1 := by split <;> omega
          go_upto_block 2 with fail
          clear hmi
          have hx1 : (wo.alloc (.cells #[.int .i64 5, .int .i64 0, .slice none 0 0] 29)).heap[wo.heap.size]? = some (.cells #[.int .i64 5, .int .i64 0, .slice none 0 0] 29 (0, 0)) := heap_alloc_new wo _
          have hx2 : Below wo.heap.size wo (wo.alloc (.cells #[.int .i64 5, .int .i64 0, .slice none 0 0] 29)) := (Below.refl _ _).alloc (Nat.le_refl _) _
          generalize wo.alloc (.cells #[.int .i64 5, .int .i64 0, .slice none 0 0] 29) = W9 at *
          have HY1 := hide hx1; have HY2 := hide hx2
          clear hx1 hx2
          go_cut [11] (fun _ wx => ∃ ka kc, wx.heap[wo.heap.size]? = some (.cells #[.int .i64 5, .int .i64 0, .slice ka m kc] 29 (0, 0)) ∧ TmD wx (fun q => wo.heap.size ≤ q ∧ q < wx.heap.size) 2 (fan m) (.agg #[.int .i64 5, .int .i64 0, .slice ka m kc]) ∧ Below wo.heap.size wo wx)
          case first =>
            generalize hxb : wo.heap.size = xb at *
            have HXB := hide hxb
            clear hxb
            go_wp2_with fail
            go_loopw [11] (fun i wq => ∃ (k : Nat) (ka : Option Addr) (kc : Nat) (ys : List Value), k ≤ m ∧ i = .int .i64 ((k + 1 : Nat) : Int) ∧ wq.heap[xb]? = some (.cells #[.int .i64 5, .int .i64 0, .slice ka k kc] 29 (0, 0)) ∧ wq.ownsRow (xb + 1) 29 3 (.slice ka k kc) k ys ∧
              KidsAt wq (fun q => xb + 1 ≤ q ∧ q < wq.heap.size ∧ some q ≠ (Value.slice ka k kc).ownBlock) 1 (List.replicate k leaf) ys ∧ Below xb wo wq) (fun i _ => m + 1 - (intOf i).toNat)
            case atStart => exact ⟨0, none, 0, [], by omega, rfl, HY1.out, ⟨rfl, Or.inl ⟨rfl, rfl⟩⟩, KidsAt.nil _ _ _, HY2.out⟩
            case round =>
              obtain ⟨k, ka, kc, ys, hk, rfl, hxt, hxo, hxk, hxl⟩ := hrel
              obtain ⟨wq, rfl⟩ : ∃ x, x = wr := ⟨_, rfl⟩
              have HXT := hide hxt; have HXO := hide hxo; have HXK := hide hxk; have HXL := hide hxl
              have hxs := size_of_block hxt
              obtain ⟨c0, c1, c2⟩ := blk3 hxt
              have HOB : Hid ((wq.alloc (.cells #[.int .i64 7, .int .i64 0, .slice none 0 0] 29)).ownsRow (xb + 1) 29 3 (.slice ka k kc) k ys) := hxo.alloc _
              have HNB : Hid (∀ q u, ([.int .i64 7, .int .i64 0, .slice none 0 0] : List Value)[q]? = some u → (wq.alloc (.cells #[.int .i64 7, .int .i64 0, .slice none 0 0] 29)).cell? ((⟨wq.heap.size, 0, none⟩ : Addr).add q) = some u) := World.news_of_block (heap_alloc_new wq _)
              clear hxt hxo hxk hxl
              by_cases hlt : k < m
              · have hlt' : ((k + 1 : Nat) : Int) < (m : Int) + 1 := by omega
                go_wp2_with (at_builtin
                             refine wpList_append_lies _ rfl (.tmp 40) (.tmp 42) 27 rfl (xb + 1) 29 i (.agg #[.int .i64 0, .int .i64 0, .slice none 0 0]) 3 40 Try.underlying27 hi hz0 hz1 hz2 rfl (by decide) (.slice ka k kc) k ys rfl HOB.out ⟨wq.heap.size, 0, none⟩ 1 1 [.int .i64 7, .int .i64 0, .slice none 0 0] rfl rfl HNB.out (fun u hu => by simp at hu; rcases hu with rfl | rfl | rfl <;> rfl) (by omega) (by unfold maxLen; omega) (by omega) (by simp; omega) (wq.heap.size + 1) (by simp) ?_
                             intro g6 cap6 w6 hown6 hgrow6 hat6 hlt6
                             have hb6 : Hid (w6.heap[xb]? = some (.cells #[.int .i64 5, .int .i64 0, .slice ka k kc] 29 (0, 0))) := (hgrow6.block xb (by simp; omega) (fun e => by have := HXO.out.lt _ e.symm; omega)).trans ((Below.heap_alloc _ _ _ hxs).trans HXT.out)
                             have d6 : w6.cell? ⟨xb, 2, none⟩ = some (.slice ka k kc) := (cell_of_block hb6.out 2).trans rfl
                             have z6 : w6.frozen? ⟨xb, 2, none⟩ = false := frozen_of_block hb6.out 2
                             have HO6 := hide hown6
                             have HG6 := hide hgrow6
                             have HA6 := hide hat6
                             clear hown6 hgrow6 hat6 hlt6)
                obtain ⟨g1, g2, g3, g4⟩ := box_grow HXT.out HXO.out HXK.out (leaf_at _ _) (Below.refl _ _) HO6.out HG6.out HA6.out
                have G1 := hide g1; have G2 := hide g2; have G3 := hide g3; have G4 := hide (HXL.out.trans g4)
                clear g1 g2 g3 g4
                go_roundw
                case rel => exact ⟨k + 1, _, _, _, by omega, by go_num, G1.out, G2.out, by rw [List.replicate_succ']; exact G3.out, G4.out⟩
                case measure => simp [intOf]; omega
              · have hke : k = m := by omega
                subst hke
                go_wp2_with fail
                go_meet
                case rel =>
                  refine ⟨ka, kc, HXT.out, ?_, HXL.out⟩
                  obtain ⟨a', c', hv, hrow⟩ := HXK.out.row (D' := fun q => xb ≤ q ∧ q < wq.heap.size) HXO.out (by simp) (fun q hq => by have := HXO.out.lt q hq; omega) (fun x u hx => hx.keep (fun _ _ => rfl) (fun q hq => ⟨by omega, hq.2.1⟩) _ _ _)
                  simp only [List.length_replicate] at hv
                  cases hv
                  exact ⟨ka, kc, by simp [fan], by unfold I64 fan; simp only; omega, by unfold I64 fan; simp only; omega, hrow⟩
          case rest =>
            obtain ⟨ka, kc, hxt, htm, hbx⟩ := hcut
            have hxs := size_of_block hxt
            have hts5 : wc.heap[tb]? = some (.cells #[.int .i64 11, .int .i64 0, .slice ta ts.length tc] 29 (0, 0)) := (hbx.block tb hts).trans HBT.out
            obtain ⟨c0, c1, c2⟩ := blk3 hxt
            obtain ⟨d0, d1, d2⟩ := blk3 hts5
            have HTM := hide htm; have HBX := hide hbx; have HT5 := hide hts5
            have HOB : Hid ((wc.alloc (.cells #[.int .i64 5, .int .i64 0, .slice ka m kc] 29)).ownsRow (tb + 1) 29 3 (.slice ta ts.length tc) ts.length xs) := (World.ownsRow.alloc (HOW.out.kept (row := none) ⟨hbx.os, hbx.tape, hbx.output, hbx.size, fun q hq _ => hbx.block q hq⟩ (by cases (Value.slice ta ts.length tc).ownBlock with | none => exact Or.inl rfl | some k => exact Or.inr (by simp))) _)
            have HNB : Hid (∀ q u, ([.int .i64 5, .int .i64 0, .slice ka m kc] : List Value)[q]? = some u → (wc.alloc (.cells #[.int .i64 5, .int .i64 0, .slice ka m kc] 29)).cell? ((⟨wc.heap.size, 0, none⟩ : Addr).add q) = some u) := World.news_of_block (heap_alloc_new wc _)
            have htl : ts.length ≤ 13 := HFS.out.2.1
            have hsc : tb < wc.heap.size := size_of_block hts5
            clear hxt htm hbx hts5
            have hwk : IntKind.i64.wrap ((kk : Int) - ((m : Int) + 1)) = ((kk - (m + 1) : Nat) : Int) := by rw [IntKind.wrap_i64]; omega
            go_wp2_with (at_builtin
                         refine wpList_append_lies _ rfl (.tmp 46) (.tmp 48) 27 rfl (tb + 1) 29 i (.agg #[.int .i64 0, .int .i64 0, .slice none 0 0]) 3 40 Try.underlying27 hi hz0 hz1 hz2 rfl (by decide) (.slice ta ts.length tc) ts.length xs rfl HOB.out ⟨wc.heap.size, 0, none⟩ 1 1 [.int .i64 5, .int .i64 0, .slice ka m kc] rfl rfl HNB.out (fun u hu => by simp at hu; rcases hu with rfl | rfl | rfl <;> rfl) (by omega) (by unfold maxLen; omega) (by omega) (by simp; omega) (wc.heap.size + 1) (by simp) ?_
                         intro g6 cap6 w6 hown6 hgrow6 hat6 hlt6
                         have hb6 : Hid (w6.heap[tb]? = some (.cells #[.int .i64 11, .int .i64 0, .slice ta ts.length tc] 29 (0, 0))) := (hgrow6.block tb (by simp; omega) (fun e => by have := HOW.out.lt _ e.symm; omega)).trans ((Below.heap_alloc _ _ _ hsc).trans HT5.out)
                         have d6 : w6.cell? ⟨tb, 2, none⟩ = some (.slice ta ts.length tc) := (cell_of_block hb6.out 2).trans rfl
                         have z6 : w6.frozen? ⟨tb, 2, none⟩ = false := frozen_of_block hb6.out 2
                         have HO6 := hide hown6
                         have HG6 := hide hgrow6
                         have HA6 := hide hat6
                         clear hown6 hgrow6 hat6 hlt6)
            obtain ⟨g1, g2, g3, g4⟩ := box_grow HBT.out HOW.out HKD.out HTM.out HBX.out HO6.out HG6.out HA6.out
            have G1 := hide g1; have G2 := hide g2; have G3 := hide g3; have G4 := hide (HBL.out.trans (g4.mono hs1))
            have G5 := hide (HFS.out.more (by omega) hm)
            clear g1 g2 g3 g4
            go_roundw
            case rel =>
              have hlen2 : (ts ++ [fan m]).length = ts.length + 1 := by simp
              refine ⟨kk - (m + 1), ts ++ [fan m], some ⟨g6, 0, none⟩, cap6, _, by go_num, G5.out, by rw [hlen2]; exact G1.out, by rw [hlen2]; exact G2.out, by rw [hlen2]; exact G3.out, G4.out⟩
            case measure => simp [intOf]; omega
        · have hk0 : kk = 0 := by omega
          subst hk0
          go_wp2_with fail
          go_meet
          case rel =>
            obtain ⟨a', c', hv, hrow⟩ := HKD.out.row (D' := fun q => q < wo.heap.size) HOW.out rfl (fun q hq => (HOW.out.lt q hq).2) (fun x u hx => hx.keep (fun _ _ => rfl) (fun q hq => hq.2.1) _ _ _)
            cases hv
            exact ⟨⟨11, 0, ts⟩, 11, 0, ta, ts.length, tc, HBT.out, TmD.more (f := 3) ⟨ta, tc, rfl, by unfold I64; simp only; omega, by unfold I64; simp only; omega, hrow⟩ (by omega), HFS.out.tall hn5, HBL.out⟩
  case rest =>
    obtain ⟨T, y0, y1, ya, yl, yc, hbt, htm, htall, hbl⟩ := hcut
    obtain ⟨wx, rfl⟩ : ∃ x, x = wc := ⟨_, rfl⟩
    obtain ⟨c0, c1, c2⟩ := blk3 hbt
    have hts := size_of_block hbt
    have HBT := hide hbt; have HTM := hide htm; have HTALL := hide htall; have HBL := hide hbl
    have hsl := htall.1; have hsu := htall.2.1
    have HND := hide htall.2.2.1
    clear hbt htm htall hbl HX1 HX2 HX3
    go_wp2_with fail
    refine (rbytes_any wx.heap.size 130 T _ _ HTM.out (Nat.le_refl _) (by omega) (fun x hx => (HND.out x hx).2.2.2)).mono ?_
    rintro e w4 ⟨r4, rfl, how4, hb4⟩
    have hs4 := hb4.size
    have HLEN : Hid ((enc T).length = T.size * 10) := enc_length T
    have HBY := hide (enc_range T HND.out)
    have HWH : Hid (∀ er t, ReadAs (enc T) er t → ((n : Int) ≤ 2 → er = 0 ∧ t = T) ∧ (2 < (n : Int) → er = 5 ∧ t.kids.length = 0)) := fun er t h => h.whole HTALL.out
    have HPT : Hid (∀ m er t, ReadAs ((enc T).take m) er t → 2 < (n : Int) → t.kids.length = 0) := fun m er t h => h.part HTALL.out
    obtain ⟨g4, c4, rfl⟩ : ∃ g4 c4, r4 = .slice (some ⟨g4, 0, none⟩) (T.size * 10) c4 := by
      rcases how4.2 with ⟨_, h0⟩ | ⟨g, cap', cur, hv, _⟩
      · omega
      · exact ⟨g, cap', hv⟩
    have hcc : T.size * 10 ≤ c4 ∧ c4 ≤ maxLen := by
      obtain ⟨a', c', h1, h2, h3⟩ := owns_form how4
      simp only [Value.slice.injEq] at h1
      obtain ⟨_, _, rfl⟩ := h1
      exact ⟨h2, h3⟩
    have HLF := hide (lf_own how4 HLEN.out.symm rfl)
    have HB4 := hide hb4
    clear how4 hb4 HTALL
    generalize enc T = E at *
    generalize hN : T.size * 10 = N at *
    have hN1 : 1000 ≤ N := by omega
    have hN2 : N ≤ 40000 := by omega
    clear hN
    go_wp2_with fail
    refine (parse_any _ E w4 HLF.out.left HBY.out).mono ?_
    intro e w5 hpo
    obtain ⟨er, t5, p0, p1, pa, pl, pc, rfl, hr5, ht5, hb5⟩ := out_of hpo
    have HW5 := hide (HWH.out _ _ hr5)
    have HT5 := hide ht5; have HB5 := hide hb5
    have hs5 := hb5.size
    have HPL := hide (agg_len ht5)
    have her := hr5.lt
    clear hpo hr5 ht5 hb5 HWH c0 c1 c2
    have hwi := wi_n cut 40 (by decide)
    obtain ⟨q, hq⟩ : ∃ q : Nat, wi cut 40 = q := ⟨(wi cut 40).toNat, by omega⟩
    have hq40 : q < 40 := by omega
    clear hwi
    have hsub : IntKind.i64.wrap ((N : Int) - (q : Int)) = ((N - q : Nat) : Int) := by rw [IntKind.wrap_i64]; omega
    have hmN : N - q ≤ c4 := by omega
    go_wp2_with fail
    refine (within_n cut 40 _ (by decide) (by decide)).mono ?_
    rintro e w6 ⟨rfl, h6⟩
    rw [h6, hq]
    clear h6
    have HB5' : Hid (Below w4.heap.size w4 (w5.alloc (.cells #[.int .i64 p0, .int .i64 p1, .slice pa pl pc] 29))) := HB5.out.alloc hs5 _
    have HLFT := hide (lf_take (m := N - q) HLF.out (by rw [HLEN.out]; omega))
    have HBT2 : Hid (Byt (E.take (N - q))) := fun x hx => HBY.out x (List.mem_of_mem_take hx)
    go_wp2_with fail
    refine (parse_any _ (E.take (N - q)) _ (HLFT.out.keep HB5'.out).left HBT2.out).mono ?_
    intro e w7 hpo
    obtain ⟨er2, t7, z0, z1, za, zl, zc, rfl, hr7, ht7, hb7⟩ := out_of hpo
    have hb7' : Below (w5.heap.size + 1) (w5.alloc (.cells #[.int .i64 p0, .int .i64 p1, .slice pa pl pc] 29)) w7 := by
      have := hb7
      rwa [World.size_alloc] at this
    have hs7 : w5.heap.size + 1 ≤ w7.heap.size := by have := hb7'.size; simpa using this
    have HXP : Hid (w7.heap[w5.heap.size]? = some (.cells #[.int .i64 p0, .int .i64 p1, .slice pa pl pc] 29 (0, 0))) := (hb7'.block _ (by omega)).trans (heap_alloc_new w5 _)
    have HB57 : Hid (Below w5.heap.size w5 w7) := ((Below.refl _ _).alloc (Nat.le_refl _) _).trans (hb7'.mono (by omega))
    have HB47 : Hid (Below w4.heap.size w4 w7) := HB5.out.trans (HB57.out.mono hs5)
    have HR7 := hide hr7
    have HPL7 : Hid (2 < (n : Int) → zl = 0) := fun h => by rw [agg_len ht7]; exact HPT.out _ _ _ hr7 h
    have her2 := hr7.lt
    clear hpo hr7 ht7 hb7 hb7' HB5' HPT
    go_wp2_with fail
    refine (within_n cut 40 _ (by decide) (by decide)).mono ?_
    rintro e w8 ⟨rfl, h8⟩
    rw [h8, hq]
    clear h8
    have HB47' : Hid (Below w4.heap.size w4 (w7.alloc (.cells #[.int .i64 z0, .int .i64 z1, .slice za zl zc] 29))) := HB47.out.alloc (by omega) _
    go_wp2_with fail
    refine (rparse_any _ (E.take (N - q)) _ (HLFT.out.keep HB47'.out).left HBT2.out).mono ?_
    intro e w9 hpo
    obtain ⟨er3, t9, x0, x1, xa, xl, xc, rfl, hr9, ht9, hb9⟩ := out_of hpo
    obtain ⟨rfl, rfl⟩ := HR7.out.one hr9
    have hb9' : Below (w7.heap.size + 1) (w7.alloc (.cells #[.int .i64 z0, .int .i64 z1, .slice za zl zc] 29)) w9 := by
      have := hb9
      rwa [World.size_alloc] at this
    have hs9 : w7.heap.size + 1 ≤ w9.heap.size := by have := hb9'.size; simpa using this
    have HXZ : Hid (w9.heap[w7.heap.size]? = some (.cells #[.int .i64 z0, .int .i64 z1, .slice za zl zc] 29 (0, 0))) := (hb9'.block _ (by omega)).trans (heap_alloc_new w7 _)
    have HB79 : Hid (Below w7.heap.size w7 w9) := ((Below.refl _ _).alloc (Nat.le_refl _) _).trans (hb9'.mono (by omega))
    have HB9A : Hid (Below w9.heap.size w9 (w9.alloc (.cells #[.int .i64 x0, .int .i64 x1, .slice xa xl xc] 29))) := (Below.refl _ _).alloc (Nat.le_refl _) _
    have HB7A : Hid (Below w7.heap.size w7 (w9.alloc (.cells #[.int .i64 x0, .int .i64 x1, .slice xa xl xc] 29))) := HB79.out.trans (HB9A.out.mono (by omega))
    have HB5A : Hid (Below w5.heap.size w5 (w9.alloc (.cells #[.int .i64 x0, .int .i64 x1, .slice xa xl xc] 29))) := HB57.out.trans (HB7A.out.mono (by omega))
    have HBXA : Hid (Below wx.heap.size wx (w9.alloc (.cells #[.int .i64 x0, .int .i64 x1, .slice xa xl xc] 29))) := HB4.out.trans ((HB5.out.trans (HB5A.out.mono hs5)).mono hs4)
    obtain ⟨a0, a1, a2⟩ := blk3 ((HB7A.out.block _ (by omega)).trans HXP.out)
    obtain ⟨b0, b1, b2⟩ := blk3 ((HB9A.out.block _ (by omega)).trans HXZ.out)
    obtain ⟨c0, c1, c2⟩ := blk3 ((HBXA.out.block _ hts).trans HBT.out)
    have HTA : Hid (TmAt (w9.alloc (.cells #[.int .i64 x0, .int .i64 x1, .slice xa xl xc] 29)) w9.heap.size 130 t5 (.agg #[.int .i64 p0, .int .i64 p1, .slice pa pl pc])) := TmAt.more (TmAt.below HT5.out HB5A.out (Nat.le_refl _) (by omega)) (by omega)
    have HTB : Hid (TmAt (w9.alloc (.cells #[.int .i64 x0, .int .i64 x1, .slice xa xl xc] 29)) w9.heap.size 130 T (.agg #[.int .i64 y0, .int .i64 y1, .slice ya yl yc])) := TmAt.below HTM.out HBXA.out (Nat.le_refl _) (by omega)
    have HFIN : Hid (Below w.heap.size w (w9.alloc (.cells #[.int .i64 x0, .int .i64 x1, .slice xa xl xc] 29))) := HBL.out.trans (HBXA.out.mono HBL.out.size)
    clear hpo hr9 ht9 hb9 hb9' HB47' HBXA HB5A HB7A HB9A HB79 HXZ HXP HB57 HB47 HR7 HLFT HBT2 HLF HLEN HBY
    by_cases hov : 2 < (n : Int)
    · obtain ⟨rfl, hk5⟩ := HW5.out.2 hov
      obtain rfl := HPL7.out hov
      have hpl0 : pl = 0 := by rw [HPL.out]; exact hk5
      subst hpl0
      clear HPL hk5 HW5
      cases wide
      all_goals
        go_wp2_with fail
        go_ret
        exact ⟨rfl, HFIN.out⟩
    · obtain ⟨rfl, rfl⟩ := HW5.out.1 (by omega)
      clear HPL HW5
      cases wide
      all_goals
        go_wp2_with fail
        refine (same_any w9.heap.size 130 t5 t5 _ _ _ HTA.out HTB.out (by simp)).mono ?_
        rintro e w10 ⟨r, rfl, hr, hb10⟩
        obtain rfl := hr.2 rfl
        go_wp2_with fail
        go_ret
        exact ⟨rfl, HFIN.out.trans (hb10.mono HFIN.out.size)⟩
end Go.Proofs.Ytafafeplciidhaa
