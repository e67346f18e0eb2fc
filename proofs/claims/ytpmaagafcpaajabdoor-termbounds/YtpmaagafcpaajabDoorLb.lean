/- The walk of TermBounds, but for the tower. -/
import Derived.Test.YtpmaagafcpaajabDoorCc
import Derived.Test.YtpmaagafcpaajabDoorWv
import Derived.Test.YtpmaagafcpaajabDoorLd
namespace Go.Proofs.YtpmaagafcpaajabDoor
open Go.RowKit

theorem bcheck (f : Nat) (t : Tr) (v : Value) (w0 w : World) (r : Int) (h : TmAt w w.heap.size f t v) (ht : Tk w0) (hb : Below w0.heap.size w0 w) (hr : ((chk 120 0 t).1 : Int) = r) :
    Calls Tryd.prog 10 #[v] w fun e w' => e = .returned (.int .i64 r) ∧ Below w0.heap.size w0 w' := by
  refine (tcheck_any w.heap.size f t v w h (Nat.le_refl _) (ht.later hb) (Nat.le_trans ht.size hb.size)).mono ?_
  rintro e w1 ⟨rfl, hb1⟩
  exact ⟨by rw [hr], hb.trans (hb1.mono hb.size)⟩
theorem chk_bad {t : Tr} (h : ¬ OkN t.op t.n t.kids.length) : ((chk 120 0 t).1 : Int) = 1 := by
  rw [chk, if_neg (by omega), if_neg h]; rfl
theorem new2 (w : World) (o : Obj) (cs : Array Value) (T : TypeId) : ((w.alloc o).alloc (.cells cs T)).heap[w.heap.size + 1]? = some (.cells cs T (0, 0)) := by
  have := heap_alloc_new (w.alloc o) (.cells cs T)
  rw [World.size_alloc] at this
  exact this
theorem tm_two {w : World} {b : Nat} {o n : Int} {fr : Nat × Nat} {T : TypeId} (hb : w.heap[b]? = some (.cells #[.int .i64 11, .int .i64 0, .slice none 0 0, .int .i64 11, .int .i64 0, .slice none 0 0] T fr)) (ho : I64 o) (hn : I64 n) :
    TmAt w w.heap.size 2 ⟨o, n, [⟨11, 0, []⟩, ⟨11, 0, []⟩]⟩ (.agg #[.int .i64 o, .int .i64 n, .slice (some ⟨b, 0, none⟩) 2 2]) := by
  refine ⟨some ⟨b, 0, none⟩, 2, rfl, ho, hn, row_blk (ts := [⟨11, 0, []⟩, ⟨11, 0, []⟩]) hb (size_of_block hb) (by unfold maxLen; simp) fun i hi => ?_⟩
  obtain rfl | rfl : i = 0 ∨ i = 1 := by simp at hi; omega
  · exact ⟨_, _, _, rfl, rfl, rfl, tm_leaf 0 (i64_lit (by decide)) (i64_lit (by decide))⟩
  · exact ⟨_, _, _, rfl, rfl, rfl, tm_leaf 0 (i64_lit (by decide)) (i64_lit (by decide))⟩
theorem tm_one {w : World} {b : Nat} {o n : Int} {fr : Nat × Nat} {T : TypeId} (hb : w.heap[b]? = some (.cells #[.int .i64 11, .int .i64 0, .slice none 0 0] T fr)) (ho : I64 o) (hn : I64 n) :
    TmAt w w.heap.size 2 ⟨o, n, [⟨11, 0, []⟩]⟩ (.agg #[.int .i64 o, .int .i64 n, .slice (some ⟨b, 0, none⟩) 1 1]) := by
  refine ⟨some ⟨b, 0, none⟩, 1, rfl, ho, hn, row_blk (ts := [⟨11, 0, []⟩]) hb (size_of_block hb) (by unfold maxLen; simp) fun i hi => ?_⟩
  obtain rfl : i = 0 := by simp at hi; omega
  exact ⟨_, _, _, rfl, rfl, rfl, tm_leaf 0 (i64_lit (by decide)) (i64_lit (by decide))⟩

set_option maxRecDepth 20000 in
set_option maxHeartbeats 1000000 in
theorem bounds_0t (x far : Int) (w : World) (hw : wi x 9 = 0) (ht : Tabs w.heap.size w) (hl : Tl w) (hk : Tk w) :
    Calls Tryd.prog 3 #[.int .i64 x, .bool true, .int .i64 far] w fun e w' => e = .returned (.bool true) ∧ Below w.heap.size w w' := by
  obtain ⟨y, hy⟩ : ∃ y, y = wi far 1000 := ⟨_, rfl⟩
  have hy0 : 0 ≤ y := by rw [hy]; exact (wi_n far 1000 (by decide)).1
  have hy1 : y < 1000 := by rw [hy]; exact (wi_n far 1000 (by decide)).2
  have HT := hide ht; have HL := hide hl; have HK := hide hk
  clear ht hl hk
  go_enter Tryd.func3, Tryd.ntmps3
  go_wp2_with fail
  refine (known_any _ HT.out HL.out).mono ?_
  rintro e w1 ⟨rfl, hb1⟩
  have HB := hide hb1
  clear hb1
  go_wp2_with fail
  refine (lwithin_n _ _ _ (by decide) (by decide)).mono ?_
  rintro e w2 ⟨rfl, h2⟩
  rw [h2]
  rw [← hy]
  clear h2 hy w2
  go_wp2_with fail
  refine (lwithin_n _ _ _ (by decide) (by decide)).mono ?_
  rintro e w2 ⟨rfl, h2⟩
  rw [h2]
  rw [hw]
  clear h2 w2
  go_wp2_with fail
  refine (bcheck 1 ⟨1, _, []⟩ _ w _ 1 (tm_leaf 0 (i64_lit (by decide)) (by unfold I64; omega)) HK.out ?bel (chk_bad (by unfold OkN loN hiN ar; simp; try omega))).mono ?_
  case bel => exact HB.out.alloc HB.out.size _
  rintro e w3 ⟨rfl, hb3⟩
  have HB3 := hide hb3
  clear hb3
  go_wp2_with fail
  go_ret
  exact ⟨rfl, HB3.out⟩

set_option maxRecDepth 20000 in
set_option maxHeartbeats 1000000 in
theorem bounds_0f (x far : Int) (w : World) (hw : wi x 9 = 0) (ht : Tabs w.heap.size w) (hl : Tl w) (hk : Tk w) :
    Calls Tryd.prog 3 #[.int .i64 x, .bool false, .int .i64 far] w fun e w' => e = .returned (.bool true) ∧ Below w.heap.size w w' := by
  obtain ⟨y, hy⟩ : ∃ y, y = wi far 1000 := ⟨_, rfl⟩
  have hy0 : 0 ≤ y := by rw [hy]; exact (wi_n far 1000 (by decide)).1
  have hy1 : y < 1000 := by rw [hy]; exact (wi_n far 1000 (by decide)).2
  have HT := hide ht; have HL := hide hl; have HK := hide hk
  clear ht hl hk
  go_enter Tryd.func3, Tryd.ntmps3
  go_wp2_with fail
  refine (known_any _ HT.out HL.out).mono ?_
  rintro e w1 ⟨rfl, hb1⟩
  have HB := hide hb1
  clear hb1
  go_wp2_with fail
  refine (lwithin_n _ _ _ (by decide) (by decide)).mono ?_
  rintro e w2 ⟨rfl, h2⟩
  rw [h2]
  rw [hw]
  clear h2 w2
  go_wp2_with fail
  refine (bcheck 1 ⟨1, 3000, []⟩ _ w _ 0 (tm_leaf 0 (i64_lit (by decide)) (i64_lit (by decide))) HK.out ?bel (by kernel_rfl)).mono ?_
  case bel => exact HB.out.alloc HB.out.size _
  rintro e w3 ⟨rfl, hb3⟩
  have HB3 := hide hb3
  clear hb3
  go_wp2_with fail
  go_ret
  exact ⟨rfl, HB3.out⟩

set_option maxRecDepth 20000 in
set_option maxHeartbeats 1000000 in
theorem bounds_1t (x far : Int) (w : World) (hw : wi x 9 = 1) (ht : Tabs w.heap.size w) (hl : Tl w) (hk : Tk w) :
    Calls Tryd.prog 3 #[.int .i64 x, .bool true, .int .i64 far] w fun e w' => e = .returned (.bool true) ∧ Below w.heap.size w w' := by
  obtain ⟨y, hy⟩ : ∃ y, y = wi far 1000 := ⟨_, rfl⟩
  have hy0 : 0 ≤ y := by rw [hy]; exact (wi_n far 1000 (by decide)).1
  have hy1 : y < 1000 := by rw [hy]; exact (wi_n far 1000 (by decide)).2
  have HT := hide ht; have HL := hide hl; have HK := hide hk
  clear ht hl hk
  go_enter Tryd.func3, Tryd.ntmps3
  go_wp2_with fail
  refine (known_any _ HT.out HL.out).mono ?_
  rintro e w1 ⟨rfl, hb1⟩
  have HB := hide hb1
  clear hb1
  go_wp2_with fail
  refine (lwithin_n _ _ _ (by decide) (by decide)).mono ?_
  rintro e w2 ⟨rfl, h2⟩
  rw [h2]
  rw [← hy]
  clear h2 hy w2
  go_wp2_with fail
  refine (lwithin_n _ _ _ (by decide) (by decide)).mono ?_
  rintro e w2 ⟨rfl, h2⟩
  rw [h2]
  rw [hw]
  clear h2 w2
  go_wp2_with fail
  refine (bcheck 1 ⟨1, _, []⟩ _ w _ 1 (tm_leaf 0 (i64_lit (by decide)) (by unfold I64; omega)) HK.out ?bel (chk_bad (by unfold OkN loN hiN ar; simp; try omega))).mono ?_
  case bel => exact HB.out.alloc HB.out.size _
  rintro e w3 ⟨rfl, hb3⟩
  have HB3 := hide hb3
  clear hb3
  go_wp2_with fail
  go_ret
  exact ⟨rfl, HB3.out⟩

set_option maxRecDepth 20000 in
set_option maxHeartbeats 1000000 in
theorem bounds_1f (x far : Int) (w : World) (hw : wi x 9 = 1) (ht : Tabs w.heap.size w) (hl : Tl w) (hk : Tk w) :
    Calls Tryd.prog 3 #[.int .i64 x, .bool false, .int .i64 far] w fun e w' => e = .returned (.bool true) ∧ Below w.heap.size w w' := by
  obtain ⟨y, hy⟩ : ∃ y, y = wi far 1000 := ⟨_, rfl⟩
  have hy0 : 0 ≤ y := by rw [hy]; exact (wi_n far 1000 (by decide)).1
  have hy1 : y < 1000 := by rw [hy]; exact (wi_n far 1000 (by decide)).2
  have HT := hide ht; have HL := hide hl; have HK := hide hk
  clear ht hl hk
  go_enter Tryd.func3, Tryd.ntmps3
  go_wp2_with fail
  refine (known_any _ HT.out HL.out).mono ?_
  rintro e w1 ⟨rfl, hb1⟩
  have HB := hide hb1
  clear hb1
  go_wp2_with fail
  refine (lwithin_n _ _ _ (by decide) (by decide)).mono ?_
  rintro e w2 ⟨rfl, h2⟩
  rw [h2]
  rw [hw]
  clear h2 w2
  go_wp2_with fail
  refine (bcheck 1 ⟨1, 0, []⟩ _ w _ 0 (tm_leaf 0 (i64_lit (by decide)) (i64_lit (by decide))) HK.out ?bel (by kernel_rfl)).mono ?_
  case bel => exact HB.out.alloc HB.out.size _
  rintro e w3 ⟨rfl, hb3⟩
  have HB3 := hide hb3
  clear hb3
  go_wp2_with fail
  go_ret
  exact ⟨rfl, HB3.out⟩

set_option maxRecDepth 20000 in
set_option maxHeartbeats 1000000 in
theorem bounds_2t (x far : Int) (w : World) (hw : wi x 9 = 2) (ht : Tabs w.heap.size w) (hl : Tl w) (hk : Tk w) :
    Calls Tryd.prog 3 #[.int .i64 x, .bool true, .int .i64 far] w fun e w' => e = .returned (.bool true) ∧ Below w.heap.size w w' := by
  obtain ⟨y, hy⟩ : ∃ y, y = wi far 1000 := ⟨_, rfl⟩
  have hy0 : 0 ≤ y := by rw [hy]; exact (wi_n far 1000 (by decide)).1
  have hy1 : y < 1000 := by rw [hy]; exact (wi_n far 1000 (by decide)).2
  have HT := hide ht; have HL := hide hl; have HK := hide hk
  clear ht hl hk
  go_enter Tryd.func3, Tryd.ntmps3
  go_wp2_with fail
  refine (known_any _ HT.out HL.out).mono ?_
  rintro e w1 ⟨rfl, hb1⟩
  have HB := hide hb1
  clear hb1
  go_wp2_with fail
  refine (lwithin_n _ _ _ (by decide) (by decide)).mono ?_
  rintro e w2 ⟨rfl, h2⟩
  rw [h2]
  rw [← hy]
  clear h2 hy w2
  go_wp2_with fail
  refine (lwithin_n _ _ _ (by decide) (by decide)).mono ?_
  rintro e w2 ⟨rfl, h2⟩
  rw [h2]
  rw [hw]
  clear h2 w2
  go_wp2_with fail
  refine (bcheck 1 ⟨2, _, []⟩ _ w _ 1 (tm_leaf 0 (i64_lit (by decide)) (by unfold I64; omega)) HK.out ?bel (chk_bad (by unfold OkN loN hiN ar; simp; try omega))).mono ?_
  case bel => exact HB.out.alloc HB.out.size _
  rintro e w3 ⟨rfl, hb3⟩
  have HB3 := hide hb3
  clear hb3
  go_wp2_with fail
  go_ret
  exact ⟨rfl, HB3.out⟩

set_option maxRecDepth 20000 in
set_option maxHeartbeats 1000000 in
theorem bounds_2f (x far : Int) (w : World) (hw : wi x 9 = 2) (ht : Tabs w.heap.size w) (hl : Tl w) (hk : Tk w) :
    Calls Tryd.prog 3 #[.int .i64 x, .bool false, .int .i64 far] w fun e w' => e = .returned (.bool true) ∧ Below w.heap.size w w' := by
  obtain ⟨y, hy⟩ : ∃ y, y = wi far 1000 := ⟨_, rfl⟩
  have hy0 : 0 ≤ y := by rw [hy]; exact (wi_n far 1000 (by decide)).1
  have hy1 : y < 1000 := by rw [hy]; exact (wi_n far 1000 (by decide)).2
  have HT := hide ht; have HL := hide hl; have HK := hide hk
  clear ht hl hk
  go_enter Tryd.func3, Tryd.ntmps3
  go_wp2_with fail
  refine (known_any _ HT.out HL.out).mono ?_
  rintro e w1 ⟨rfl, hb1⟩
  have HB := hide hb1
  clear hb1
  go_wp2_with fail
  refine (lwithin_n _ _ _ (by decide) (by decide)).mono ?_
  rintro e w2 ⟨rfl, h2⟩
  rw [h2]
  rw [hw]
  clear h2 w2
  go_wp2_with fail
  refine (bcheck 1 ⟨2, 2, []⟩ _ w _ 0 (tm_leaf 0 (i64_lit (by decide)) (i64_lit (by decide))) HK.out ?bel (by kernel_rfl)).mono ?_
  case bel => exact HB.out.alloc HB.out.size _
  rintro e w3 ⟨rfl, hb3⟩
  have HB3 := hide hb3
  clear hb3
  go_wp2_with fail
  go_ret
  exact ⟨rfl, HB3.out⟩

set_option maxRecDepth 20000 in
set_option maxHeartbeats 1000000 in
theorem bounds_3t (x far : Int) (w : World) (hw : wi x 9 = 3) (ht : Tabs w.heap.size w) (hl : Tl w) (hk : Tk w) :
    Calls Tryd.prog 3 #[.int .i64 x, .bool true, .int .i64 far] w fun e w' => e = .returned (.bool true) ∧ Below w.heap.size w w' := by
  obtain ⟨y, hy⟩ : ∃ y, y = wi far 1000 := ⟨_, rfl⟩
  have hy0 : 0 ≤ y := by rw [hy]; exact (wi_n far 1000 (by decide)).1
  have hy1 : y < 1000 := by rw [hy]; exact (wi_n far 1000 (by decide)).2
  have HT := hide ht; have HL := hide hl; have HK := hide hk
  clear ht hl hk
  go_enter Tryd.func3, Tryd.ntmps3
  go_wp2_with fail
  refine (known_any _ HT.out HL.out).mono ?_
  rintro e w1 ⟨rfl, hb1⟩
  have HB := hide hb1
  clear hb1
  go_wp2_with fail
  refine (lwithin_n _ _ _ (by decide) (by decide)).mono ?_
  rintro e w2 ⟨rfl, h2⟩
  rw [h2]
  rw [← hy]
  clear h2 hy w2
  go_wp2_with fail
  refine (lwithin_n _ _ _ (by decide) (by decide)).mono ?_
  rintro e w2 ⟨rfl, h2⟩
  rw [h2]
  rw [hw]
  clear h2 w2
  go_wp2_with fail
  refine (bcheck 1 ⟨2, _, []⟩ _ w _ 1 (tm_leaf 0 (i64_lit (by decide)) (by unfold I64; omega)) HK.out ?bel (chk_bad (by unfold OkN loN hiN ar; simp; try omega))).mono ?_
  case bel => exact HB.out.alloc HB.out.size _
  rintro e w3 ⟨rfl, hb3⟩
  have HB3 := hide hb3
  clear hb3
  go_wp2_with fail
  go_ret
  exact ⟨rfl, HB3.out⟩

set_option maxRecDepth 20000 in
set_option maxHeartbeats 1000000 in
theorem bounds_3f (x far : Int) (w : World) (hw : wi x 9 = 3) (ht : Tabs w.heap.size w) (hl : Tl w) (hk : Tk w) :
    Calls Tryd.prog 3 #[.int .i64 x, .bool false, .int .i64 far] w fun e w' => e = .returned (.bool true) ∧ Below w.heap.size w w' := by
  obtain ⟨y, hy⟩ : ∃ y, y = wi far 1000 := ⟨_, rfl⟩
  have hy0 : 0 ≤ y := by rw [hy]; exact (wi_n far 1000 (by decide)).1
  have hy1 : y < 1000 := by rw [hy]; exact (wi_n far 1000 (by decide)).2
  have HT := hide ht; have HL := hide hl; have HK := hide hk
  clear ht hl hk
  go_enter Tryd.func3, Tryd.ntmps3
  go_wp2_with fail
  refine (known_any _ HT.out HL.out).mono ?_
  rintro e w1 ⟨rfl, hb1⟩
  have HB := hide hb1
  clear hb1
  go_wp2_with fail
  refine (lwithin_n _ _ _ (by decide) (by decide)).mono ?_
  rintro e w2 ⟨rfl, h2⟩
  rw [h2]
  rw [hw]
  clear h2 w2
  go_wp2_with fail
  refine (bcheck 1 ⟨2, 0, []⟩ _ w _ 0 (tm_leaf 0 (i64_lit (by decide)) (i64_lit (by decide))) HK.out ?bel (by kernel_rfl)).mono ?_
  case bel => exact HB.out.alloc HB.out.size _
  rintro e w3 ⟨rfl, hb3⟩
  have HB3 := hide hb3
  clear hb3
  go_wp2_with fail
  go_ret
  exact ⟨rfl, HB3.out⟩

set_option maxRecDepth 20000 in
set_option maxHeartbeats 1000000 in
theorem bounds_4t (x far : Int) (w : World) (hw : wi x 9 = 4) (ht : Tabs w.heap.size w) (hl : Tl w) (hk : Tk w) :
    Calls Tryd.prog 3 #[.int .i64 x, .bool true, .int .i64 far] w fun e w' => e = .returned (.bool true) ∧ Below w.heap.size w w' := by
  obtain ⟨y, hy⟩ : ∃ y, y = wi far 1000 := ⟨_, rfl⟩
  have hy0 : 0 ≤ y := by rw [hy]; exact (wi_n far 1000 (by decide)).1
  have hy1 : y < 1000 := by rw [hy]; exact (wi_n far 1000 (by decide)).2
  have HT := hide ht; have HL := hide hl; have HK := hide hk
  clear ht hl hk
  go_enter Tryd.func3, Tryd.ntmps3
  go_wp2_with fail
  refine (known_any _ HT.out HL.out).mono ?_
  rintro e w1 ⟨rfl, hb1⟩
  have HB := hide hb1
  clear hb1
  go_wp2_with fail
  refine (lwithin_n _ _ _ (by decide) (by decide)).mono ?_
  rintro e w2 ⟨rfl, h2⟩
  rw [h2]
  rw [← hy]
  clear h2 hy w2
  go_wp2_with fail
  refine (lwithin_n _ _ _ (by decide) (by decide)).mono ?_
  rintro e w2 ⟨rfl, h2⟩
  rw [h2]
  rw [hw]
  clear h2 w2
  go_wp2_with fail
  have HW : True := trivial
  refine (bcheck 2 ⟨26, _, [⟨11, 0, []⟩, ⟨11, 0, []⟩]⟩ _ w _ 1 (tm_two (new2 _ _ _ _) (i64_lit (by decide)) (by unfold I64; omega)) HK.out ?bel (chk_bad (by unfold OkN loN hiN ar; simp; try omega))).mono ?_
  case bel => exact (HB.out.alloc HB.out.size _).alloc (by have := HB.out.size; simp; omega) _
  rintro e w3 ⟨rfl, hb3⟩
  have HB3 := hide hb3
  clear hb3
  go_wp2_with fail
  go_ret
  exact ⟨rfl, HB3.out⟩

set_option maxRecDepth 20000 in
set_option maxHeartbeats 1000000 in
theorem bounds_4f (x far : Int) (w : World) (hw : wi x 9 = 4) (ht : Tabs w.heap.size w) (hl : Tl w) (hk : Tk w) :
    Calls Tryd.prog 3 #[.int .i64 x, .bool false, .int .i64 far] w fun e w' => e = .returned (.bool true) ∧ Below w.heap.size w w' := by
  obtain ⟨y, hy⟩ : ∃ y, y = wi far 1000 := ⟨_, rfl⟩
  have hy0 : 0 ≤ y := by rw [hy]; exact (wi_n far 1000 (by decide)).1
  have hy1 : y < 1000 := by rw [hy]; exact (wi_n far 1000 (by decide)).2
  have HT := hide ht; have HL := hide hl; have HK := hide hk
  clear ht hl hk
  go_enter Tryd.func3, Tryd.ntmps3
  go_wp2_with fail
  refine (known_any _ HT.out HL.out).mono ?_
  rintro e w1 ⟨rfl, hb1⟩
  have HB := hide hb1
  clear hb1
  go_wp2_with fail
  refine (lwithin_n _ _ _ (by decide) (by decide)).mono ?_
  rintro e w2 ⟨rfl, h2⟩
  rw [h2]
  rw [hw]
  clear h2 w2
  go_wp2_with fail
  have HW : True := trivial
  refine (bcheck 2 ⟨26, 4, [⟨11, 0, []⟩, ⟨11, 0, []⟩]⟩ _ w _ 0 (tm_two (new2 _ _ _ _) (i64_lit (by decide)) (i64_lit (by decide))) HK.out ?bel (by kernel_rfl)).mono ?_
  case bel => exact (HB.out.alloc HB.out.size _).alloc (by have := HB.out.size; simp; omega) _
  rintro e w3 ⟨rfl, hb3⟩
  have HB3 := hide hb3
  clear hb3
  go_wp2_with fail
  go_ret
  exact ⟨rfl, HB3.out⟩

set_option maxRecDepth 20000 in
set_option maxHeartbeats 1000000 in
theorem bounds_5t (x far : Int) (w : World) (hw : wi x 9 = 5) (ht : Tabs w.heap.size w) (hl : Tl w) (hk : Tk w) :
    Calls Tryd.prog 3 #[.int .i64 x, .bool true, .int .i64 far] w fun e w' => e = .returned (.bool true) ∧ Below w.heap.size w w' := by
  obtain ⟨y, hy⟩ : ∃ y, y = wi far 1000 := ⟨_, rfl⟩
  have hy0 : 0 ≤ y := by rw [hy]; exact (wi_n far 1000 (by decide)).1
  have hy1 : y < 1000 := by rw [hy]; exact (wi_n far 1000 (by decide)).2
  have HT := hide ht; have HL := hide hl; have HK := hide hk
  clear ht hl hk
  go_enter Tryd.func3, Tryd.ntmps3
  go_wp2_with fail
  refine (known_any _ HT.out HL.out).mono ?_
  rintro e w1 ⟨rfl, hb1⟩
  have HB := hide hb1
  clear hb1
  go_wp2_with fail
  refine (lwithin_n _ _ _ (by decide) (by decide)).mono ?_
  rintro e w2 ⟨rfl, h2⟩
  rw [h2]
  rw [← hy]
  clear h2 hy w2
  go_wp2_with fail
  refine (lwithin_n _ _ _ (by decide) (by decide)).mono ?_
  rintro e w2 ⟨rfl, h2⟩
  rw [h2]
  rw [hw]
  clear h2 w2
  go_wp2_with fail
  have HW : True := trivial
  refine (bcheck 2 ⟨26, _, [⟨11, 0, []⟩, ⟨11, 0, []⟩]⟩ _ w _ 1 (tm_two (new2 _ _ _ _) (i64_lit (by decide)) (by unfold I64; omega)) HK.out ?bel (chk_bad (by unfold OkN loN hiN ar; simp; try omega))).mono ?_
  case bel => exact (HB.out.alloc HB.out.size _).alloc (by have := HB.out.size; simp; omega) _
  rintro e w3 ⟨rfl, hb3⟩
  have HB3 := hide hb3
  clear hb3
  go_wp2_with fail
  go_ret
  exact ⟨rfl, HB3.out⟩

set_option maxRecDepth 20000 in
set_option maxHeartbeats 1000000 in
theorem bounds_5f (x far : Int) (w : World) (hw : wi x 9 = 5) (ht : Tabs w.heap.size w) (hl : Tl w) (hk : Tk w) :
    Calls Tryd.prog 3 #[.int .i64 x, .bool false, .int .i64 far] w fun e w' => e = .returned (.bool true) ∧ Below w.heap.size w w' := by
  obtain ⟨y, hy⟩ : ∃ y, y = wi far 1000 := ⟨_, rfl⟩
  have hy0 : 0 ≤ y := by rw [hy]; exact (wi_n far 1000 (by decide)).1
  have hy1 : y < 1000 := by rw [hy]; exact (wi_n far 1000 (by decide)).2
  have HT := hide ht; have HL := hide hl; have HK := hide hk
  clear ht hl hk
  go_enter Tryd.func3, Tryd.ntmps3
  go_wp2_with fail
  refine (known_any _ HT.out HL.out).mono ?_
  rintro e w1 ⟨rfl, hb1⟩
  have HB := hide hb1
  clear hb1
  go_wp2_with fail
  refine (lwithin_n _ _ _ (by decide) (by decide)).mono ?_
  rintro e w2 ⟨rfl, h2⟩
  rw [h2]
  rw [hw]
  clear h2 w2
  go_wp2_with fail
  have HW : True := trivial
  refine (bcheck 2 ⟨26, 0, [⟨11, 0, []⟩, ⟨11, 0, []⟩]⟩ _ w _ 0 (tm_two (new2 _ _ _ _) (i64_lit (by decide)) (i64_lit (by decide))) HK.out ?bel (by kernel_rfl)).mono ?_
  case bel => exact (HB.out.alloc HB.out.size _).alloc (by have := HB.out.size; simp; omega) _
  rintro e w3 ⟨rfl, hb3⟩
  have HB3 := hide hb3
  clear hb3
  go_wp2_with fail
  go_ret
  exact ⟨rfl, HB3.out⟩

set_option maxRecDepth 20000 in
set_option maxHeartbeats 1000000 in
theorem bounds_6t (x far : Int) (w : World) (hw : wi x 9 = 6) (ht : Tabs w.heap.size w) (hl : Tl w) (hk : Tk w) :
    Calls Tryd.prog 3 #[.int .i64 x, .bool true, .int .i64 far] w fun e w' => e = .returned (.bool true) ∧ Below w.heap.size w w' := by
  obtain ⟨y, hy⟩ : ∃ y, y = wi far 1000 := ⟨_, rfl⟩
  have hy0 : 0 ≤ y := by rw [hy]; exact (wi_n far 1000 (by decide)).1
  have hy1 : y < 1000 := by rw [hy]; exact (wi_n far 1000 (by decide)).2
  have HT := hide ht; have HL := hide hl; have HK := hide hk
  clear ht hl hk
  go_enter Tryd.func3, Tryd.ntmps3
  go_wp2_with fail
  refine (known_any _ HT.out HL.out).mono ?_
  rintro e w1 ⟨rfl, hb1⟩
  have HB := hide hb1
  clear hb1
  go_wp2_with fail
  refine (lwithin_n _ _ _ (by decide) (by decide)).mono ?_
  rintro e w2 ⟨rfl, h2⟩
  rw [h2]
  rw [← hy]
  clear h2 hy w2
  go_wp2_with fail
  refine (lwithin_n _ _ _ (by decide) (by decide)).mono ?_
  rintro e w2 ⟨rfl, h2⟩
  rw [h2]
  rw [hw]
  clear h2 w2
  go_wp2_with fail
  refine (bcheck 1 ⟨10, _, []⟩ _ w _ 1 (tm_leaf 0 (i64_lit (by decide)) (by unfold I64; omega)) HK.out ?bel (chk_bad (by unfold OkN loN hiN ar; simp; try omega))).mono ?_
  case bel => exact HB.out.alloc HB.out.size _
  rintro e w3 ⟨rfl, hb3⟩
  have HB3 := hide hb3
  clear hb3
  go_wp2_with fail
  go_ret
  exact ⟨rfl, HB3.out⟩

set_option maxRecDepth 20000 in
set_option maxHeartbeats 1000000 in
theorem bounds_6f (x far : Int) (w : World) (hw : wi x 9 = 6) (ht : Tabs w.heap.size w) (hl : Tl w) (hk : Tk w) :
    Calls Tryd.prog 3 #[.int .i64 x, .bool false, .int .i64 far] w fun e w' => e = .returned (.bool true) ∧ Below w.heap.size w w' := by
  obtain ⟨y, hy⟩ : ∃ y, y = wi far 1000 := ⟨_, rfl⟩
  have hy0 : 0 ≤ y := by rw [hy]; exact (wi_n far 1000 (by decide)).1
  have hy1 : y < 1000 := by rw [hy]; exact (wi_n far 1000 (by decide)).2
  have HT := hide ht; have HL := hide hl; have HK := hide hk
  clear ht hl hk
  go_enter Tryd.func3, Tryd.ntmps3
  go_wp2_with fail
  refine (known_any _ HT.out HL.out).mono ?_
  rintro e w1 ⟨rfl, hb1⟩
  have HB := hide hb1
  clear hb1
  go_wp2_with fail
  refine (lwithin_n _ _ _ (by decide) (by decide)).mono ?_
  rintro e w2 ⟨rfl, h2⟩
  rw [h2]
  rw [hw]
  clear h2 w2
  go_wp2_with fail
  refine (bcheck 1 ⟨10, 0, []⟩ _ w _ 0 (tm_leaf 0 (i64_lit (by decide)) (i64_lit (by decide))) HK.out ?bel (by kernel_rfl)).mono ?_
  case bel => exact HB.out.alloc HB.out.size _
  rintro e w3 ⟨rfl, hb3⟩
  have HB3 := hide hb3
  clear hb3
  go_wp2_with fail
  go_ret
  exact ⟨rfl, HB3.out⟩

set_option maxRecDepth 20000 in
set_option maxHeartbeats 1000000 in
theorem bounds_8t (x far : Int) (w : World) (hw : wi x 9 = 8) (ht : Tabs w.heap.size w) (hl : Tl w) (hk : Tk w) :
    Calls Tryd.prog 3 #[.int .i64 x, .bool true, .int .i64 far] w fun e w' => e = .returned (.bool true) ∧ Below w.heap.size w w' := by
  obtain ⟨y, hy⟩ : ∃ y, y = wi far 1000 := ⟨_, rfl⟩
  have hy0 : 0 ≤ y := by rw [hy]; exact (wi_n far 1000 (by decide)).1
  have hy1 : y < 1000 := by rw [hy]; exact (wi_n far 1000 (by decide)).2
  have HT := hide ht; have HL := hide hl; have HK := hide hk
  clear ht hl hk
  go_enter Tryd.func3, Tryd.ntmps3
  go_wp2_with fail
  refine (known_any _ HT.out HL.out).mono ?_
  rintro e w1 ⟨rfl, hb1⟩
  have HB := hide hb1
  clear hb1
  go_wp2_with fail
  refine (lwithin_n _ _ _ (by decide) (by decide)).mono ?_
  rintro e w2 ⟨rfl, h2⟩
  rw [h2]
  rw [← hy]
  clear h2 hy w2
  go_wp2_with fail
  refine (lwithin_n _ _ _ (by decide) (by decide)).mono ?_
  rintro e w2 ⟨rfl, h2⟩
  rw [h2]
  rw [hw]
  clear h2 w2
  go_wp2_with fail
  have HW : True := trivial
  refine (bcheck 2 ⟨11, _, [⟨11, 0, []⟩]⟩ _ w _ 1 (tm_one (new2 _ _ _ _) (i64_lit (by decide)) (i64_lit (by decide))) HK.out ?bel (by kernel_rfl)).mono ?_
  case bel => exact (HB.out.alloc HB.out.size _).alloc (by have := HB.out.size; simp; omega) _
  rintro e w3 ⟨rfl, hb3⟩
  have HB3 := hide hb3
  clear hb3
  go_wp2_with fail
  go_ret
  exact ⟨rfl, HB3.out⟩

set_option maxRecDepth 20000 in
set_option maxHeartbeats 1000000 in
theorem bounds_8f (x far : Int) (w : World) (hw : wi x 9 = 8) (ht : Tabs w.heap.size w) (hl : Tl w) (hk : Tk w) :
    Calls Tryd.prog 3 #[.int .i64 x, .bool false, .int .i64 far] w fun e w' => e = .returned (.bool true) ∧ Below w.heap.size w w' := by
  obtain ⟨y, hy⟩ : ∃ y, y = wi far 1000 := ⟨_, rfl⟩
  have hy0 : 0 ≤ y := by rw [hy]; exact (wi_n far 1000 (by decide)).1
  have hy1 : y < 1000 := by rw [hy]; exact (wi_n far 1000 (by decide)).2
  have HT := hide ht; have HL := hide hl; have HK := hide hk
  clear ht hl hk
  go_enter Tryd.func3, Tryd.ntmps3
  go_wp2_with fail
  refine (known_any _ HT.out HL.out).mono ?_
  rintro e w1 ⟨rfl, hb1⟩
  have HB := hide hb1
  clear hb1
  go_wp2_with fail
  refine (lwithin_n _ _ _ (by decide) (by decide)).mono ?_
  rintro e w2 ⟨rfl, h2⟩
  rw [h2]
  rw [hw]
  clear h2 w2
  go_wp2_with fail
  refine (bcheck 1 ⟨11, 0, []⟩ _ w _ 0 (tm_leaf 0 (i64_lit (by decide)) (i64_lit (by decide))) HK.out ?bel (by kernel_rfl)).mono ?_
  case bel => exact HB.out.alloc HB.out.size _
  rintro e w3 ⟨rfl, hb3⟩
  have HB3 := hide hb3
  clear hb3
  go_wp2_with fail
  go_ret
  exact ⟨rfl, HB3.out⟩

end Go.Proofs.YtpmaagafcpaajabDoor
