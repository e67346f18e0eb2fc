/- The walk of TermKnown. -/
import Derived.Test.YtpmaagafcpaajabDoorKp
namespace Go.Proofs.YtpmaagafcpaajabDoor
open Go.RowKit
attribute [local go_sem] put

theorem v_any (n : Int) (w : World) : Calls Tryd.prog 11 #[.int .i64 n] w fun e w' => e = .returned (.agg #[.int .i64 1, .int .i64 n, .slice none 0 0]) ∧ Below w.heap.size w w' := by
  have HA : Hid (∀ o, Below w.heap.size w (w.alloc o)) := hide (later_alloc w)
  go_enter Tryd.func11, Tryd.ntmps11
  go_wp2_with fail
  refine bodyPost_ret (v := .agg #[.int .i64 1, .int .i64 n, .slice none 0 0]) (by simp [results, Tryd.results11, go_sem]) rfl ⟨rfl, HA.out _⟩
theorem t_any (op : Int) (a : Option Addr) (l c : Nat) (w : World) : Calls Tryd.prog 12 #[.int .i64 op, .slice a l c] w fun e w' => e = .returned (.agg #[.int .i64 op, .int .i64 0, .slice a l c]) ∧ Below w.heap.size w w' := by
  have HA : Hid (∀ o, Below w.heap.size w (w.alloc o)) := hide (later_alloc w)
  go_enter Tryd.func12, Tryd.ntmps12
  go_wp2_with fail
  refine bodyPost_ret (v := .agg #[.int .i64 op, .int .i64 0, .slice a l c]) (by simp [results, Tryd.results12, go_sem]) rfl ⟨rfl, HA.out _⟩
theorem call_box {w w' : World} {o : Obj} (hb : Below (w.alloc o).heap.size (w.alloc o) w') : Below w.heap.size w w' ∧ w'.heap[w.heap.size]? = some o := by
  refine ⟨(later_alloc w o).trans (hb.mono (by simp)), ?_⟩
  rw [hb.block _ (by simp)]
  exact heap_alloc_new w o
theorem box3_facts (w : World) (x0 x1 x2 : Obj) : (((w.alloc x0).alloc x1).alloc x2).heap[w.heap.size]? = some x0 ∧ (((w.alloc x0).alloc x1).alloc x2).heap[w.heap.size + 1]? = some x1 ∧ (((w.alloc x0).alloc x1).alloc x2).heap[w.heap.size + 2]? = some x2 ∧ Below w.heap.size w (((w.alloc x0).alloc x1).alloc x2) := by
  have h0 := heap_alloc_new w x0
  have h1 := heap_alloc_new (w.alloc x0) x1
  have h2 := heap_alloc_new ((w.alloc x0).alloc x1) x2
  rw [World.size_alloc] at h1
  rw [World.size_alloc, World.size_alloc] at h2
  refine ⟨?_, ?_, h2, (((Below.refl _ _).alloc (Nat.le_refl _) _).alloc (by simp) _).alloc (by simp; omega) _⟩
  · rw [Below.heap_alloc _ _ _ (by simp; omega), Below.heap_alloc _ _ _ (by simp)]; exact h0
  · rw [Below.heap_alloc _ _ _ (by simp)]; exact h1
theorem node_tm {w : World} {f : Nat} {op : Int} {ts : List Tr} {b : Nat} {cs : Array Value} (hb : w.heap[b]? = some (.cells cs 26 (0, 0))) (ho : I64 op) (hl : ts.length ≤ 10)
    (h : ∀ (i : Nat) (h : i < ts.length), ∃ x0 x1 x2, cs[i * 3]? = some x0 ∧ cs[i * 3 + 1]? = some x1 ∧ cs[i * 3 + 2]? = some x2 ∧ TmAt w w.heap.size f ts[i] (.agg #[x0, x1, x2])) :
    TmAt w w.heap.size (f + 1) ⟨op, 0, ts⟩ (.agg #[.int .i64 op, .int .i64 0, .slice (some ⟨b, 0, none⟩) ts.length ts.length]) :=
  ⟨some ⟨b, 0, none⟩, ts.length, rfl, ho, (by unfold I64; simp only; omega), row_blk hb (size_of_block hb) (Nat.le_trans hl (by unfold maxLen; omega)) h⟩
theorem leaf_tm {w : World} (f : Nat) {o n : Int} (ho : I64 o) (hn : I64 n) : TmAt w w.heap.size (f + 1) ⟨o, n, []⟩ (.agg #[.int .i64 o, .int .i64 n, .slice none 0 0]) := tm_leaf f ho hn
theorem cellsE {w0 wx : World} {b o : Nat} {x y z : Value} (hb : Below w0.heap.size w0 wx) (h : w0.cell? ⟨b, o, none⟩ = some x ∧ w0.cell? ⟨b, o + 1, none⟩ = some y ∧ w0.cell? ⟨b, o + 2, none⟩ = some z) : wx.cell? ⟨b, o, none⟩ = some x ∧ wx.cell? ⟨b, o + 1, none⟩ = some y ∧ wx.cell? ⟨b, o + 2, none⟩ = some z := by
  have hl := World.block_lt_of_cell? w0 _ h.1
  exact ⟨(hb.cell (p := ⟨b, o, none⟩) hl).trans h.1, (hb.cell (p := ⟨b, o + 1, none⟩) hl).trans h.2.1, (hb.cell (p := ⟨b, o + 2, none⟩) hl).trans h.2.2⟩
theorem e_text {f : Nat} {t : Tr} {v : Value} {w : World} (h : IsT f t v w) (hg : Gd f t) (ht : Tabs w.heap.size w) (hl : Tl w) (hz : (txtT t).length ≤ 140737488355328) :
    Calls Tryd.prog 13 #[v] w fun e w' => e = .returned (.string ⟨⟨txtT t⟩⟩) ∧ Below w.heap.size w w' :=
  text_any w.heap.size f t v w h.tm (Nat.le_refl _) hg.size hg.fuel ht hl hz

def tknown_F (TT : Tr) (qb k : Nat) (sa sb : List UInt8) : Nat → Value → World → Prop
  | 0 => fun v _ => v = .slice (some ⟨qb, 0, none⟩) 6 6
  | 1 => fun v _ => v = .int .i64 ((k : Nat))
  | 2 => fun v _ => v = .pointer (some ⟨qb, k * 3, none⟩)
  | 3 => fun v w => IsT (3) (TT) v w
  | 4 => fun v w => IsT (3) (shf (2) (0) 0 (TT)) v w
  | 5 => fun v _ => v = .string (⟨⟨sa⟩⟩)
  | 6 => fun v _ => v = .slice (some ⟨qb + 1, 0, none⟩) 6 6
  | 7 => fun v _ => v = .int .i64 ((k : Nat))
  | 8 => fun v _ => v = .pointer (some ⟨qb + 1, k, none⟩)
  | 9 => fun v _ => v = .string (⟨⟨sa⟩⟩)
  | 10 => fun v _ => v = .bool (true)
  | 11 => fun v _ => v = .bool (true)
  | 12 => fun v _ => v = .slice (some ⟨qb, 0, none⟩) 6 6
  | 13 => fun v _ => v = .int .i64 ((k : Nat))
  | 14 => fun v _ => v = .pointer (some ⟨qb, k * 3, none⟩)
  | 15 => fun v w => IsT (3) (TT) v w
  | 16 => fun v w => IsT (1) (⟨11, 0, []⟩) v w
  | 17 => fun v w => IsT (3 + 1) (sub (0) (⟨11, 0, []⟩) 0 (TT)) v w
  | 18 => fun v _ => v = .string (⟨⟨sb⟩⟩)
  | 19 => fun v _ => v = .slice (some ⟨qb + 1 + 1, 0, none⟩) 6 6
  | 20 => fun v _ => v = .int .i64 ((k : Nat))
  | 21 => fun v _ => v = .pointer (some ⟨qb + 1 + 1, k, none⟩)
  | 22 => fun v _ => v = .string (⟨⟨sb⟩⟩)
  | 23 => fun v _ => v = .bool (true)
  | 24 => fun v _ => v = .bool (true)
  | 25 => fun v _ => v = .bool (true)
  | _ => fun _ _ => True
theorem tknown_F.keep (TT : Tr) (qb k : Nat) (sa sb : List UInt8) (i : Nat) (v : Value) (w w' : World) (h : tknown_F TT qb k sa sb i v w) (hb : Below w.heap.size w w') : tknown_F TT qb k sa sb i v w' := by
  unfold tknown_F at *
  split at h <;> first | exact h | exact IsT.keep h hb
set_option maxRecDepth 20000 in
set_option maxHeartbeats 4000000 in
theorem tknown_any (which : Int) (w : World) (ht : Tabs w.heap.size w) (hl : Tl w) (hb : Tb w) :
    Calls Tryd.prog 4 #[.int .i64 which] w fun e w' => e = .returned (.bool true) ∧ Below w.heap.size w w' := by
  have HT := hide ht; have HL := hide hl; have HTB := hide hb
  clear ht hl hb
  go_enter Tryd.func4, Tryd.ntmps4
  go_wp2_with fail
  refine (known_any _ HT.out HL.out).mono ?_
  rintro e w1 ⟨rfl, hb1⟩
  have HB1 := hide hb1
  clear hb1
  go_wp2_with fail
  refine (t_any 11 none 0 0 _).mono ?_
  rintro e w2 ⟨rfl, hb2⟩
  have HB2 : Hid (Below w.heap.size w w2) := HB1.out.trans (hb2.mono HB1.out.size)
  clear hb2
  go_wp2_with fail
  refine (v_any 0 _).mono ?_
  rintro e w3 ⟨rfl, hb3⟩
  obtain ⟨hb3, kk3⟩ := call_box hb3
  have HB3 : Hid (Below w.heap.size w w3) := HB2.out.trans (hb3.mono HB2.out.size)
  have HZ3 := hide kk3
  clear hb3
  go_wp2_with fail
  refine (v_any 2 _).mono ?_
  rintro e w4 ⟨rfl, hb4⟩
  have HB4 : Hid (Below w.heap.size w w4) := HB3.out.trans (hb4.mono HB3.out.size)
  have HZ4 := hide ((hb4.block _ (size_of_block HZ3.out)).trans HZ3.out)
  clear HZ3
  clear hb4
  go_wp2_with fail
  refine (v_any 0 _).mono ?_
  rintro e w5 ⟨rfl, hb5⟩
  have HB5 : Hid (Below w.heap.size w w5) := HB4.out.trans (hb5.mono HB4.out.size)
  have HZ5 := hide ((hb5.block _ (size_of_block HZ4.out)).trans HZ4.out)
  clear HZ4
  clear hb5
  go_wp2_with fail
  refine (v_any 1 _).mono ?_
  rintro e w6 ⟨rfl, hb6⟩
  have HB6 : Hid (Below w.heap.size w w6) := HB5.out.trans (hb6.mono HB5.out.size)
  have HZ6 := hide ((hb6.block _ (size_of_block HZ5.out)).trans HZ5.out)
  clear HZ5
  clear hb6
  go_wp2_with fail
  refine (t_any 4 _ _ _ _).mono ?_
  rintro e w7 ⟨rfl, hb7⟩
  obtain ⟨hb7, kk7⟩ := call_box hb7
  have HB7 : Hid (Below w.heap.size w w7) := HB6.out.trans (hb7.mono HB6.out.size)
  have HZ7 := hide ((hb7.block _ (size_of_block HZ6.out)).trans HZ6.out)
  clear HZ6
  have N9_7 : Hid (TmAt w7 w7.heap.size 2 ⟨4, 0, [⟨1, 0, []⟩, ⟨1, 1, []⟩]⟩ _) := hide (node_tm (ts := [⟨1, 0, []⟩, ⟨1, 1, []⟩]) kk7 (i64_lit (by decide)) (by decide) (fun i hi => by
    match i, hi with
    | 0, _ => exact ⟨_, _, _, rfl, rfl, rfl, leaf_tm 0 (i64_lit (by decide)) (i64_lit (by decide))⟩
    | 1, _ => exact ⟨_, _, _, rfl, rfl, rfl, leaf_tm 0 (i64_lit (by decide)) (i64_lit (by decide))⟩))
  clear hb7 kk7
  go_wp2_with fail
  refine (v_any 1 _).mono ?_
  rintro e w8 ⟨rfl, hb8⟩
  have HB8 : Hid (Below w.heap.size w w8) := HB7.out.trans (hb8.mono HB7.out.size)
  have HZ8 := hide ((hb8.block _ (size_of_block HZ7.out)).trans HZ7.out)
  clear HZ7
  have N9_8 : Hid (TmAt w8 w8.heap.size 2 ⟨4, 0, [⟨1, 0, []⟩, ⟨1, 1, []⟩]⟩ _) := hide (TmAt.below N9_7.out hb8 (Nat.le_refl _) hb8.size)
  clear N9_7
  clear hb8
  go_wp2_with fail
  refine (v_any 0 _).mono ?_
  rintro e w9 ⟨rfl, hb9⟩
  have HB9 : Hid (Below w.heap.size w w9) := HB8.out.trans (hb9.mono HB8.out.size)
  have HZ9 := hide ((hb9.block _ (size_of_block HZ8.out)).trans HZ8.out)
  clear HZ8
  have N9_9 : Hid (TmAt w9 w9.heap.size 2 ⟨4, 0, [⟨1, 0, []⟩, ⟨1, 1, []⟩]⟩ _) := hide (TmAt.below N9_8.out hb9 (Nat.le_refl _) hb9.size)
  clear N9_8
  clear hb9
  go_wp2_with fail
  refine (v_any 2 _).mono ?_
  rintro e w10 ⟨rfl, hb10⟩
  have HB10 : Hid (Below w.heap.size w w10) := HB9.out.trans (hb10.mono HB9.out.size)
  have HZ10 := hide ((hb10.block _ (size_of_block HZ9.out)).trans HZ9.out)
  clear HZ9
  have N9_10 : Hid (TmAt w10 w10.heap.size 2 ⟨4, 0, [⟨1, 0, []⟩, ⟨1, 1, []⟩]⟩ _) := hide (TmAt.below N9_9.out hb10 (Nat.le_refl _) hb10.size)
  clear N9_9
  clear hb10
  go_wp2_with fail
  refine (t_any 5 _ _ _ _).mono ?_
  rintro e w11 ⟨rfl, hb11⟩
  obtain ⟨hb11, kk11⟩ := call_box hb11
  have HB11 : Hid (Below w.heap.size w w11) := HB10.out.trans (hb11.mono HB10.out.size)
  have HZ11 := hide ((hb11.block _ (size_of_block HZ10.out)).trans HZ10.out)
  clear HZ10
  have N9_11 : Hid (TmAt w11 w11.heap.size 2 ⟨4, 0, [⟨1, 0, []⟩, ⟨1, 1, []⟩]⟩ _) := hide (TmAt.below N9_10.out hb11 (Nat.le_refl _) hb11.size)
  clear N9_10
  have N17_11 : Hid (TmAt w11 w11.heap.size 2 ⟨5, 0, [⟨1, 0, []⟩, ⟨1, 2, []⟩]⟩ _) := hide (node_tm (ts := [⟨1, 0, []⟩, ⟨1, 2, []⟩]) kk11 (i64_lit (by decide)) (by decide) (fun i hi => by
    match i, hi with
    | 0, _ => exact ⟨_, _, _, rfl, rfl, rfl, leaf_tm 0 (i64_lit (by decide)) (i64_lit (by decide))⟩
    | 1, _ => exact ⟨_, _, _, rfl, rfl, rfl, leaf_tm 0 (i64_lit (by decide)) (i64_lit (by decide))⟩))
  clear hb11 kk11
  go_wp2_with fail
  refine (t_any 3 _ _ _ _).mono ?_
  rintro e w12 ⟨rfl, hb12⟩
  obtain ⟨hb12, kk12⟩ := call_box hb12
  have HB12 : Hid (Below w.heap.size w w12) := HB11.out.trans (hb12.mono HB11.out.size)
  have HZ12 := hide ((hb12.block _ (size_of_block HZ11.out)).trans HZ11.out)
  clear HZ11
  have N9_12 : Hid (TmAt w12 w12.heap.size 2 ⟨4, 0, [⟨1, 0, []⟩, ⟨1, 1, []⟩]⟩ _) := hide (TmAt.below N9_11.out hb12 (Nat.le_refl _) hb12.size)
  clear N9_11
  have N17_12 : Hid (TmAt w12 w12.heap.size 2 ⟨5, 0, [⟨1, 0, []⟩, ⟨1, 2, []⟩]⟩ _) := hide (TmAt.below N17_11.out hb12 (Nat.le_refl _) hb12.size)
  clear N17_11
  have N19_12 : Hid (TmAt w12 w12.heap.size 3 ⟨3, 0, [⟨1, 1, []⟩, ⟨5, 0, [⟨1, 0, []⟩, ⟨1, 2, []⟩]⟩]⟩ _) := hide (node_tm (ts := [⟨1, 1, []⟩, ⟨5, 0, [⟨1, 0, []⟩, ⟨1, 2, []⟩]⟩]) kk12 (i64_lit (by decide)) (by decide) (fun i hi => by
    match i, hi with
    | 0, _ => exact ⟨_, _, _, rfl, rfl, rfl, leaf_tm 1 (i64_lit (by decide)) (i64_lit (by decide))⟩
    | 1, _ => exact ⟨_, _, _, rfl, rfl, rfl, N17_12.out⟩))
  clear N17_12
  clear hb12 kk12
  go_wp2_with fail
  refine (v_any 0 _).mono ?_
  rintro e w13 ⟨rfl, hb13⟩
  have HB13 : Hid (Below w.heap.size w w13) := HB12.out.trans (hb13.mono HB12.out.size)
  have HZ13 := hide ((hb13.block _ (size_of_block HZ12.out)).trans HZ12.out)
  clear HZ12
  have N9_13 : Hid (TmAt w13 w13.heap.size 2 ⟨4, 0, [⟨1, 0, []⟩, ⟨1, 1, []⟩]⟩ _) := hide (TmAt.below N9_12.out hb13 (Nat.le_refl _) hb13.size)
  clear N9_12
  have N19_13 : Hid (TmAt w13 w13.heap.size 3 ⟨3, 0, [⟨1, 1, []⟩, ⟨5, 0, [⟨1, 0, []⟩, ⟨1, 2, []⟩]⟩]⟩ _) := hide (TmAt.below N19_12.out hb13 (Nat.le_refl _) hb13.size)
  clear N19_12
  clear hb13
  go_wp2_with fail
  refine (v_any 0 _).mono ?_
  rintro e w14 ⟨rfl, hb14⟩
  have HB14 : Hid (Below w.heap.size w w14) := HB13.out.trans (hb14.mono HB13.out.size)
  have HZ14 := hide ((hb14.block _ (size_of_block HZ13.out)).trans HZ13.out)
  clear HZ13
  have N9_14 : Hid (TmAt w14 w14.heap.size 2 ⟨4, 0, [⟨1, 0, []⟩, ⟨1, 1, []⟩]⟩ _) := hide (TmAt.below N9_13.out hb14 (Nat.le_refl _) hb14.size)
  clear N9_13
  have N19_14 : Hid (TmAt w14 w14.heap.size 3 ⟨3, 0, [⟨1, 1, []⟩, ⟨5, 0, [⟨1, 0, []⟩, ⟨1, 2, []⟩]⟩]⟩ _) := hide (TmAt.below N19_13.out hb14 (Nat.le_refl _) hb14.size)
  clear N19_13
  clear hb14
  go_wp2_with fail
  refine (v_any 1 _).mono ?_
  rintro e w15 ⟨rfl, hb15⟩
  have HB15 : Hid (Below w.heap.size w w15) := HB14.out.trans (hb15.mono HB14.out.size)
  have HZ15 := hide ((hb15.block _ (size_of_block HZ14.out)).trans HZ14.out)
  clear HZ14
  have N9_15 : Hid (TmAt w15 w15.heap.size 2 ⟨4, 0, [⟨1, 0, []⟩, ⟨1, 1, []⟩]⟩ _) := hide (TmAt.below N9_14.out hb15 (Nat.le_refl _) hb15.size)
  clear N9_14
  have N19_15 : Hid (TmAt w15 w15.heap.size 3 ⟨3, 0, [⟨1, 1, []⟩, ⟨5, 0, [⟨1, 0, []⟩, ⟨1, 2, []⟩]⟩]⟩ _) := hide (TmAt.below N19_14.out hb15 (Nat.le_refl _) hb15.size)
  clear N19_14
  clear hb15
  go_wp2_with fail
  refine (v_any 2 _).mono ?_
  rintro e w16 ⟨rfl, hb16⟩
  have HB16 : Hid (Below w.heap.size w w16) := HB15.out.trans (hb16.mono HB15.out.size)
  have HZ16 := hide ((hb16.block _ (size_of_block HZ15.out)).trans HZ15.out)
  clear HZ15
  have N9_16 : Hid (TmAt w16 w16.heap.size 2 ⟨4, 0, [⟨1, 0, []⟩, ⟨1, 1, []⟩]⟩ _) := hide (TmAt.below N9_15.out hb16 (Nat.le_refl _) hb16.size)
  clear N9_15
  have N19_16 : Hid (TmAt w16 w16.heap.size 3 ⟨3, 0, [⟨1, 1, []⟩, ⟨5, 0, [⟨1, 0, []⟩, ⟨1, 2, []⟩]⟩]⟩ _) := hide (TmAt.below N19_15.out hb16 (Nat.le_refl _) hb16.size)
  clear N19_15
  clear hb16
  go_wp2_with fail
  refine (t_any 5 _ _ _ _).mono ?_
  rintro e w17 ⟨rfl, hb17⟩
  obtain ⟨hb17, kk17⟩ := call_box hb17
  have HB17 : Hid (Below w.heap.size w w17) := HB16.out.trans (hb17.mono HB16.out.size)
  have HZ17 := hide ((hb17.block _ (size_of_block HZ16.out)).trans HZ16.out)
  clear HZ16
  have N9_17 : Hid (TmAt w17 w17.heap.size 2 ⟨4, 0, [⟨1, 0, []⟩, ⟨1, 1, []⟩]⟩ _) := hide (TmAt.below N9_16.out hb17 (Nat.le_refl _) hb17.size)
  clear N9_16
  have N19_17 : Hid (TmAt w17 w17.heap.size 3 ⟨3, 0, [⟨1, 1, []⟩, ⟨5, 0, [⟨1, 0, []⟩, ⟨1, 2, []⟩]⟩]⟩ _) := hide (TmAt.below N19_16.out hb17 (Nat.le_refl _) hb17.size)
  clear N19_16
  have N29_17 : Hid (TmAt w17 w17.heap.size 2 ⟨5, 0, [⟨1, 1, []⟩, ⟨1, 2, []⟩]⟩ _) := hide (node_tm (ts := [⟨1, 1, []⟩, ⟨1, 2, []⟩]) kk17 (i64_lit (by decide)) (by decide) (fun i hi => by
    match i, hi with
    | 0, _ => exact ⟨_, _, _, rfl, rfl, rfl, leaf_tm 0 (i64_lit (by decide)) (i64_lit (by decide))⟩
    | 1, _ => exact ⟨_, _, _, rfl, rfl, rfl, leaf_tm 0 (i64_lit (by decide)) (i64_lit (by decide))⟩))
  clear hb17 kk17
  go_wp2_with fail
  refine (v_any 3 _).mono ?_
  rintro e w18 ⟨rfl, hb18⟩
  have HB18 : Hid (Below w.heap.size w w18) := HB17.out.trans (hb18.mono HB17.out.size)
  have HZ18 := hide ((hb18.block _ (size_of_block HZ17.out)).trans HZ17.out)
  clear HZ17
  have N9_18 : Hid (TmAt w18 w18.heap.size 2 ⟨4, 0, [⟨1, 0, []⟩, ⟨1, 1, []⟩]⟩ _) := hide (TmAt.below N9_17.out hb18 (Nat.le_refl _) hb18.size)
  clear N9_17
  have N19_18 : Hid (TmAt w18 w18.heap.size 3 ⟨3, 0, [⟨1, 1, []⟩, ⟨5, 0, [⟨1, 0, []⟩, ⟨1, 2, []⟩]⟩]⟩ _) := hide (TmAt.below N19_17.out hb18 (Nat.le_refl _) hb18.size)
  clear N19_17
  have N29_18 : Hid (TmAt w18 w18.heap.size 2 ⟨5, 0, [⟨1, 1, []⟩, ⟨1, 2, []⟩]⟩ _) := hide (TmAt.below N29_17.out hb18 (Nat.le_refl _) hb18.size)
  clear N29_17
  clear hb18
  go_wp2_with fail
  refine (t_any 13 _ _ _ _).mono ?_
  rintro e w19 ⟨rfl, hb19⟩
  obtain ⟨hb19, kk19⟩ := call_box hb19
  have HB19 : Hid (Below w.heap.size w w19) := HB18.out.trans (hb19.mono HB18.out.size)
  have HZ19 := hide ((hb19.block _ (size_of_block HZ18.out)).trans HZ18.out)
  clear HZ18
  have N9_19 : Hid (TmAt w19 w19.heap.size 2 ⟨4, 0, [⟨1, 0, []⟩, ⟨1, 1, []⟩]⟩ _) := hide (TmAt.below N9_18.out hb19 (Nat.le_refl _) hb19.size)
  clear N9_18
  have N19_19 : Hid (TmAt w19 w19.heap.size 3 ⟨3, 0, [⟨1, 1, []⟩, ⟨5, 0, [⟨1, 0, []⟩, ⟨1, 2, []⟩]⟩]⟩ _) := hide (TmAt.below N19_18.out hb19 (Nat.le_refl _) hb19.size)
  clear N19_18
  have N29_19 : Hid (TmAt w19 w19.heap.size 2 ⟨5, 0, [⟨1, 1, []⟩, ⟨1, 2, []⟩]⟩ _) := hide (TmAt.below N29_18.out hb19 (Nat.le_refl _) hb19.size)
  clear N29_18
  have N33_19 : Hid (TmAt w19 w19.heap.size 3 ⟨13, 0, [⟨1, 0, []⟩, ⟨1, 0, []⟩, ⟨5, 0, [⟨1, 1, []⟩, ⟨1, 2, []⟩]⟩, ⟨1, 3, []⟩]⟩ _) := hide (node_tm (ts := [⟨1, 0, []⟩, ⟨1, 0, []⟩, ⟨5, 0, [⟨1, 1, []⟩, ⟨1, 2, []⟩]⟩, ⟨1, 3, []⟩]) kk19 (i64_lit (by decide)) (by decide) (fun i hi => by
    match i, hi with
    | 0, _ => exact ⟨_, _, _, rfl, rfl, rfl, leaf_tm 1 (i64_lit (by decide)) (i64_lit (by decide))⟩
    | 1, _ => exact ⟨_, _, _, rfl, rfl, rfl, leaf_tm 1 (i64_lit (by decide)) (i64_lit (by decide))⟩
    | 2, _ => exact ⟨_, _, _, rfl, rfl, rfl, N29_19.out⟩
    | 3, _ => exact ⟨_, _, _, rfl, rfl, rfl, leaf_tm 1 (i64_lit (by decide)) (i64_lit (by decide))⟩))
  clear N29_19
  clear hb19 kk19
  go_wp2_with fail
  refine (v_any 0 _).mono ?_
  rintro e w20 ⟨rfl, hb20⟩
  have HB20 : Hid (Below w.heap.size w w20) := HB19.out.trans (hb20.mono HB19.out.size)
  have HZ20 := hide ((hb20.block _ (size_of_block HZ19.out)).trans HZ19.out)
  clear HZ19
  have N9_20 : Hid (TmAt w20 w20.heap.size 2 ⟨4, 0, [⟨1, 0, []⟩, ⟨1, 1, []⟩]⟩ _) := hide (TmAt.below N9_19.out hb20 (Nat.le_refl _) hb20.size)
  clear N9_19
  have N19_20 : Hid (TmAt w20 w20.heap.size 3 ⟨3, 0, [⟨1, 1, []⟩, ⟨5, 0, [⟨1, 0, []⟩, ⟨1, 2, []⟩]⟩]⟩ _) := hide (TmAt.below N19_19.out hb20 (Nat.le_refl _) hb20.size)
  clear N19_19
  have N33_20 : Hid (TmAt w20 w20.heap.size 3 ⟨13, 0, [⟨1, 0, []⟩, ⟨1, 0, []⟩, ⟨5, 0, [⟨1, 1, []⟩, ⟨1, 2, []⟩]⟩, ⟨1, 3, []⟩]⟩ _) := hide (TmAt.below N33_19.out hb20 (Nat.le_refl _) hb20.size)
  clear N33_19
  clear hb20
  go_wp2_with fail
  refine (v_any 1 _).mono ?_
  rintro e w21 ⟨rfl, hb21⟩
  have HB21 : Hid (Below w.heap.size w w21) := HB20.out.trans (hb21.mono HB20.out.size)
  have HZ21 := hide ((hb21.block _ (size_of_block HZ20.out)).trans HZ20.out)
  clear HZ20
  have N9_21 : Hid (TmAt w21 w21.heap.size 2 ⟨4, 0, [⟨1, 0, []⟩, ⟨1, 1, []⟩]⟩ _) := hide (TmAt.below N9_20.out hb21 (Nat.le_refl _) hb21.size)
  clear N9_20
  have N19_21 : Hid (TmAt w21 w21.heap.size 3 ⟨3, 0, [⟨1, 1, []⟩, ⟨5, 0, [⟨1, 0, []⟩, ⟨1, 2, []⟩]⟩]⟩ _) := hide (TmAt.below N19_20.out hb21 (Nat.le_refl _) hb21.size)
  clear N19_20
  have N33_21 : Hid (TmAt w21 w21.heap.size 3 ⟨13, 0, [⟨1, 0, []⟩, ⟨1, 0, []⟩, ⟨5, 0, [⟨1, 1, []⟩, ⟨1, 2, []⟩]⟩, ⟨1, 3, []⟩]⟩ _) := hide (TmAt.below N33_20.out hb21 (Nat.le_refl _) hb21.size)
  clear N33_20
  clear hb21
  go_wp2_with fail
  refine (t_any 19 _ _ _ _).mono ?_
  rintro e w22 ⟨rfl, hb22⟩
  obtain ⟨hb22, kk22⟩ := call_box hb22
  have HB22 : Hid (Below w.heap.size w w22) := HB21.out.trans (hb22.mono HB21.out.size)
  have HZ22 := hide ((hb22.block _ (size_of_block HZ21.out)).trans HZ21.out)
  clear HZ21
  have N9_22 : Hid (TmAt w22 w22.heap.size 2 ⟨4, 0, [⟨1, 0, []⟩, ⟨1, 1, []⟩]⟩ _) := hide (TmAt.below N9_21.out hb22 (Nat.le_refl _) hb22.size)
  clear N9_21
  have N19_22 : Hid (TmAt w22 w22.heap.size 3 ⟨3, 0, [⟨1, 1, []⟩, ⟨5, 0, [⟨1, 0, []⟩, ⟨1, 2, []⟩]⟩]⟩ _) := hide (TmAt.below N19_21.out hb22 (Nat.le_refl _) hb22.size)
  clear N19_21
  have N33_22 : Hid (TmAt w22 w22.heap.size 3 ⟨13, 0, [⟨1, 0, []⟩, ⟨1, 0, []⟩, ⟨5, 0, [⟨1, 1, []⟩, ⟨1, 2, []⟩]⟩, ⟨1, 3, []⟩]⟩ _) := hide (TmAt.below N33_21.out hb22 (Nat.le_refl _) hb22.size)
  clear N33_21
  have N39_22 : Hid (TmAt w22 w22.heap.size 2 ⟨19, 0, [⟨1, 1, []⟩]⟩ _) := hide (node_tm (ts := [⟨1, 1, []⟩]) kk22 (i64_lit (by decide)) (by decide) (fun i hi => by
    match i, hi with
    | 0, _ => exact ⟨_, _, _, rfl, rfl, rfl, leaf_tm 0 (i64_lit (by decide)) (i64_lit (by decide))⟩))
  clear hb22 kk22
  go_wp2_with fail
  refine (t_any 28 _ _ _ _).mono ?_
  rintro e w23 ⟨rfl, hb23⟩
  obtain ⟨hb23, kk23⟩ := call_box hb23
  have HB23 : Hid (Below w.heap.size w w23) := HB22.out.trans (hb23.mono HB22.out.size)
  have HZ23 := hide ((hb23.block _ (size_of_block HZ22.out)).trans HZ22.out)
  clear HZ22
  have N9_23 : Hid (TmAt w23 w23.heap.size 2 ⟨4, 0, [⟨1, 0, []⟩, ⟨1, 1, []⟩]⟩ _) := hide (TmAt.below N9_22.out hb23 (Nat.le_refl _) hb23.size)
  clear N9_22
  have N19_23 : Hid (TmAt w23 w23.heap.size 3 ⟨3, 0, [⟨1, 1, []⟩, ⟨5, 0, [⟨1, 0, []⟩, ⟨1, 2, []⟩]⟩]⟩ _) := hide (TmAt.below N19_22.out hb23 (Nat.le_refl _) hb23.size)
  clear N19_22
  have N33_23 : Hid (TmAt w23 w23.heap.size 3 ⟨13, 0, [⟨1, 0, []⟩, ⟨1, 0, []⟩, ⟨5, 0, [⟨1, 1, []⟩, ⟨1, 2, []⟩]⟩, ⟨1, 3, []⟩]⟩ _) := hide (TmAt.below N33_22.out hb23 (Nat.le_refl _) hb23.size)
  clear N33_22
  have N39_23 : Hid (TmAt w23 w23.heap.size 2 ⟨19, 0, [⟨1, 1, []⟩]⟩ _) := hide (TmAt.below N39_22.out hb23 (Nat.le_refl _) hb23.size)
  clear N39_22
  have N41_23 : Hid (TmAt w23 w23.heap.size 3 ⟨28, 0, [⟨1, 0, []⟩, ⟨19, 0, [⟨1, 1, []⟩]⟩]⟩ _) := hide (node_tm (ts := [⟨1, 0, []⟩, ⟨19, 0, [⟨1, 1, []⟩]⟩]) kk23 (i64_lit (by decide)) (by decide) (fun i hi => by
    match i, hi with
    | 0, _ => exact ⟨_, _, _, rfl, rfl, rfl, leaf_tm 1 (i64_lit (by decide)) (i64_lit (by decide))⟩
    | 1, _ => exact ⟨_, _, _, rfl, rfl, rfl, N39_23.out⟩))
  clear N39_23
  clear hb23 kk23
  go_wp2_with fail
  refine (lwithin_n which 6 _ (by decide) (by decide)).mono ?_
  rintro e w9 ⟨rfl, h9⟩
  rw [h9]
  clear h9 w9
  have hk := wi_n which 6 (by decide)
  obtain ⟨k, hkk⟩ : ∃ k : Nat, wi which 6 = k := ⟨(wi which 6).toNat, by omega⟩
  rw [hkk] at hk ⊢
  clear hkk
  obtain ⟨hx0, hx1, hx2, hx3⟩ := box3_facts w23 (.cells #[.int .i64 1, .int .i64 0, .slice none 0 0, .int .i64 1, .int .i64 2, .slice none 0 0, .int .i64 4, .int .i64 0, .slice (some ⟨w6.heap.size, 0, none⟩) 2 2, .int .i64 3, .int .i64 0, .slice (some ⟨w11.heap.size, 0, none⟩) 2 2, .int .i64 13, .int .i64 0, .slice (some ⟨w18.heap.size, 0, none⟩) 4 4, .int .i64 28, .int .i64 0, .slice (some ⟨w22.heap.size, 0, none⟩) 2 2] 26) (.cells #[.string ⟨#[118, 50]⟩, .string ⟨#[118, 52]⟩, .string ⟨#[40, 52, 32, 118, 50, 32, 118, 51, 41]⟩, .string ⟨#[40, 51, 32, 118, 51, 32, 40, 53, 32, 118, 48, 32, 118, 52, 41, 41]⟩, .string ⟨#[40, 49, 51, 32, 118, 48, 32, 118, 50, 32, 40, 53, 32, 118, 49, 32, 118, 52, 41, 32, 118, 53, 41]⟩, .string ⟨#[40, 50, 56, 32, 118, 50, 32, 40, 49, 57, 32, 118, 51, 41, 41]⟩] 9) (.cells #[.string ⟨#[49, 49]⟩, .string ⟨#[118, 49]⟩, .string ⟨#[40, 52, 32, 49, 49, 32, 49, 49, 41]⟩, .string ⟨#[40, 51, 32, 118, 48, 32, 40, 53, 32, 118, 48, 32, 118, 49, 41, 41]⟩, .string ⟨#[40, 49, 51, 32, 118, 48, 32, 49, 49, 32, 40, 53, 32, 118, 49, 32, 49, 49, 41, 32, 118, 50, 41]⟩, .string ⟨#[40, 50, 56, 32, 49, 49, 32, 40, 49, 57, 32, 49, 49, 41, 41]⟩] 9)
  obtain ⟨WW, hWW⟩ : ∃ WW, WW = ((w23.alloc (.cells #[.int .i64 1, .int .i64 0, .slice none 0 0, .int .i64 1, .int .i64 2, .slice none 0 0, .int .i64 4, .int .i64 0, .slice (some ⟨w6.heap.size, 0, none⟩) 2 2, .int .i64 3, .int .i64 0, .slice (some ⟨w11.heap.size, 0, none⟩) 2 2, .int .i64 13, .int .i64 0, .slice (some ⟨w18.heap.size, 0, none⟩) 4 4, .int .i64 28, .int .i64 0, .slice (some ⟨w22.heap.size, 0, none⟩) 2 2] 26)).alloc (.cells #[.string ⟨#[118, 50]⟩, .string ⟨#[118, 52]⟩, .string ⟨#[40, 52, 32, 118, 50, 32, 118, 51, 41]⟩, .string ⟨#[40, 51, 32, 118, 51, 32, 40, 53, 32, 118, 48, 32, 118, 52, 41, 41]⟩, .string ⟨#[40, 49, 51, 32, 118, 48, 32, 118, 50, 32, 40, 53, 32, 118, 49, 32, 118, 52, 41, 32, 118, 53, 41]⟩, .string ⟨#[40, 50, 56, 32, 118, 50, 32, 40, 49, 57, 32, 118, 51, 41, 41]⟩] 9)).alloc (.cells #[.string ⟨#[49, 49]⟩, .string ⟨#[118, 49]⟩, .string ⟨#[40, 52, 32, 49, 49, 32, 49, 49, 41]⟩, .string ⟨#[40, 51, 32, 118, 48, 32, 40, 53, 32, 118, 48, 32, 118, 49, 41, 41]⟩, .string ⟨#[40, 49, 51, 32, 118, 48, 32, 49, 49, 32, 40, 53, 32, 118, 49, 32, 49, 49, 41, 32, 118, 50, 41]⟩, .string ⟨#[40, 50, 56, 32, 49, 49, 32, 40, 49, 57, 32, 49, 49, 41, 41]⟩] 9) := ⟨_, rfl⟩
  rw [← hWW] at hx0 hx1 hx2 hx3 ⊢
  clear hWW
  have HBW : Hid (Below w.heap.size w WW) := hide (HB23.out.trans (hx3.mono HB23.out.size))
  have HKZ := hide ((hx3.block _ (size_of_block HZ23.out)).trans HZ23.out)
  have PK : ∃ (TT : Tr) (x0 x1 : Int) (xa : Option Addr) (xl xc : Nat) (sa sb : List UInt8), (WW.cell? ⟨w23.heap.size, k * 3, none⟩ = some (.int .i64 x0) ∧ WW.cell? ⟨w23.heap.size, k * 3 + 1, none⟩ = some (.int .i64 x1) ∧ WW.cell? ⟨w23.heap.size, k * 3 + 2, none⟩ = some (.slice xa xl xc)) ∧ TmAt WW WW.heap.size 3 TT (.agg #[.int .i64 x0, .int .i64 x1, .slice xa xl xc]) ∧ WW.cell? ⟨w23.heap.size + 1, k, none⟩ = some (.string ⟨⟨sa⟩⟩) ∧ WW.cell? ⟨w23.heap.size + 2, k, none⟩ = some (.string ⟨⟨sb⟩⟩) ∧ Kn1 TT sa sb := by
    rcases (show k = 0 ∨ k = 1 ∨ k = 2 ∨ k = 3 ∨ k = 4 ∨ k = 5 by omega) with rfl | rfl | rfl | rfl | rfl | rfl
    · exact ⟨⟨1, 0, []⟩, _, _, _, _, _, [118, 50], [49, 49], ⟨(cell_of_block hx0 _).trans rfl, (cell_of_block hx0 _).trans rfl, (cell_of_block hx0 _).trans rfl⟩, leaf_tm 2 (i64_lit (by decide)) (i64_lit (by decide)), (cell_of_block hx1 _).trans rfl, (cell_of_block hx2 _).trans rfl, kn0⟩
    · exact ⟨⟨1, 2, []⟩, _, _, _, _, _, [118, 52], [118, 49], ⟨(cell_of_block hx0 _).trans rfl, (cell_of_block hx0 _).trans rfl, (cell_of_block hx0 _).trans rfl⟩, leaf_tm 2 (i64_lit (by decide)) (i64_lit (by decide)), (cell_of_block hx1 _).trans rfl, (cell_of_block hx2 _).trans rfl, kn1⟩
    · exact ⟨⟨4, 0, [⟨1, 0, []⟩, ⟨1, 1, []⟩]⟩, _, _, _, _, _, [40, 52, 32, 118, 50, 32, 118, 51, 41], [40, 52, 32, 49, 49, 32, 49, 49, 41], ⟨(cell_of_block hx0 _).trans rfl, (cell_of_block hx0 _).trans rfl, (cell_of_block hx0 _).trans rfl⟩, TmAt.more (TmAt.below N9_23.out hx3 (Nat.le_refl _) hx3.size) (by decide), (cell_of_block hx1 _).trans rfl, (cell_of_block hx2 _).trans rfl, kn2⟩
    · exact ⟨⟨3, 0, [⟨1, 1, []⟩, ⟨5, 0, [⟨1, 0, []⟩, ⟨1, 2, []⟩]⟩]⟩, _, _, _, _, _, [40, 51, 32, 118, 51, 32, 40, 53, 32, 118, 48, 32, 118, 52, 41, 41], [40, 51, 32, 118, 48, 32, 40, 53, 32, 118, 48, 32, 118, 49, 41, 41], ⟨(cell_of_block hx0 _).trans rfl, (cell_of_block hx0 _).trans rfl, (cell_of_block hx0 _).trans rfl⟩, TmAt.more (TmAt.below N19_23.out hx3 (Nat.le_refl _) hx3.size) (by decide), (cell_of_block hx1 _).trans rfl, (cell_of_block hx2 _).trans rfl, kn3⟩
    · exact ⟨⟨13, 0, [⟨1, 0, []⟩, ⟨1, 0, []⟩, ⟨5, 0, [⟨1, 1, []⟩, ⟨1, 2, []⟩]⟩, ⟨1, 3, []⟩]⟩, _, _, _, _, _, [40, 49, 51, 32, 118, 48, 32, 118, 50, 32, 40, 53, 32, 118, 49, 32, 118, 52, 41, 32, 118, 53, 41], [40, 49, 51, 32, 118, 48, 32, 49, 49, 32, 40, 53, 32, 118, 49, 32, 49, 49, 41, 32, 118, 50, 41], ⟨(cell_of_block hx0 _).trans rfl, (cell_of_block hx0 _).trans rfl, (cell_of_block hx0 _).trans rfl⟩, TmAt.more (TmAt.below N33_23.out hx3 (Nat.le_refl _) hx3.size) (by decide), (cell_of_block hx1 _).trans rfl, (cell_of_block hx2 _).trans rfl, kn4⟩
    · exact ⟨⟨28, 0, [⟨1, 0, []⟩, ⟨19, 0, [⟨1, 1, []⟩]⟩]⟩, _, _, _, _, _, [40, 50, 56, 32, 118, 50, 32, 40, 49, 57, 32, 118, 51, 41, 41], [40, 50, 56, 32, 49, 49, 32, 40, 49, 57, 32, 49, 49, 41, 41], ⟨(cell_of_block hx0 _).trans rfl, (cell_of_block hx0 _).trans rfl, (cell_of_block hx0 _).trans rfl⟩, TmAt.more (TmAt.below N41_23.out hx3 (Nat.le_refl _) hx3.size) (by decide), (cell_of_block hx1 _).trans rfl, (cell_of_block hx2 _).trans rfl, kn5⟩
  clear hx0 hx1 hx2 hx3 HB1 HB2 HB3 HB4 HB5 HB6 HB7 HB8 HB9 HB10 HB11 HB12 HB13 HB14 HB15 HB16 HB17 HB18 HB19 HB20 HB21 HB22 HB23 N9_23 N19_23 N33_23 N41_23 HZ23
  obtain ⟨TT, x0, x1, xa, xl, xc, sa, sb, hek, htk, hsa, hsb, hkn⟩ := PK
  have HEK := hide hek; have HTK := hide htk; have HCA := hide hsa; have HCB := hide hsb
  have GT := hide hkn.g; have GS := hide hkn.gs; have GB := hide hkn.gb
  have HSA := hide hkn.ta; have HSB := hide hkn.tb
  have ZA : Hid ((txtT (shf 2 0 0 TT)).length ≤ 140737488355328) := hide (by rw [hkn.ta]; have := hkn.la; omega)
  have ZB : Hid ((txtT (sub 0 ⟨11, 0, []⟩ 0 TT)).length ≤ 140737488355328) := hide (by rw [hkn.tb]; have := hkn.lb; omega)
  have GZ := hide kzero.1
  have ZS : Hid (TT.size + (⟨11, 0, []⟩ : Tr).size * cnt (fun x => decide (x = 0)) 0 TT ≤ 8388608) := hide (fit_le hkn.z (by rw [kzero.2]; exact Nat.le_refl 1) (by decide))
  have HTZ : Hid (TmAt WW WW.heap.size 1 ⟨11, 0, []⟩ (.agg #[.int .i64 11, .int .i64 0, .slice none 0 0])) := hide (leaf_tm 0 (i64_lit (by decide)) (i64_lit (by decide)))
  have HTB' : Hid (Tb WW) := hide (HTB.out.later HBW.out)
  have HTA : Hid (Tabs WW.heap.size WW) := hide (HT.out.later HBW.out)
  have HLA : Hid (Tl WW) := hide (HL.out.later HBW.out)
  clear hek htk hsa hsb hkn
  have i1 : (0 : Int) ≤ (k : Int) := by omega
  have i2 : (k : Int) < 6 := by omega
  clear hk
  go_wp2_with fail
  refine wp_region_vals (by kernel_rfl) (by kernel_rfl) (fun vs => { tmps := #[Value.int IntKind.i64 which, undef, vs 25, Value.func (Fn.func 11) #[] #[], Value.pointer (some { block := w2.heap.size, off := 0 }), Value.slice (some { block := w23.heap.size, off := 0 }) 6 6, Value.slice (some { block := w23.heap.size + 1, off := 0 }) 6 6, Value.slice (some { block := w23.heap.size + 1 + 1, off := 0 }) 6 6, Value.int IntKind.i64 ↑k, Value.bool true, Value.bool false, Value.agg #[Value.int IntKind.i64 11, Value.int IntKind.i64 0, Value.slice none 0 0], Value.func (Fn.func 11) #[] #[], Value.agg #[Value.int IntKind.i64 1, Value.int IntKind.i64 0, Value.slice none 0 0], Value.func (Fn.func 11) #[] #[], Value.agg #[Value.int IntKind.i64 1, Value.int IntKind.i64 2, Value.slice none 0 0], Value.func (Fn.func 11) #[] #[], Value.agg #[Value.int IntKind.i64 1, Value.int IntKind.i64 0, Value.slice none 0 0], Value.func (Fn.func 11) #[] #[], Value.agg #[Value.int IntKind.i64 1, Value.int IntKind.i64 1, Value.slice none 0 0], Value.slice (some { block := w6.heap.size, off := 0 }) 2 2, Value.agg #[Value.int IntKind.i64 4, Value.int IntKind.i64 0, Value.slice (some { block := w6.heap.size, off := 0 }) 2 2], Value.func (Fn.func 11) #[] #[], Value.agg #[Value.int IntKind.i64 1, Value.int IntKind.i64 1, Value.slice none 0 0], Value.func (Fn.func 11) #[] #[], Value.agg #[Value.int IntKind.i64 1, Value.int IntKind.i64 0, Value.slice none 0 0], Value.func (Fn.func 11) #[] #[], Value.agg #[Value.int IntKind.i64 1, Value.int IntKind.i64 2, Value.slice none 0 0], Value.slice (some { block := w10.heap.size, off := 0 }) 2 2, Value.agg #[Value.int IntKind.i64 5, Value.int IntKind.i64 0, Value.slice (some { block := w10.heap.size, off := 0 }) 2 2], Value.slice (some { block := w11.heap.size, off := 0 }) 2 2, Value.agg #[Value.int IntKind.i64 3, Value.int IntKind.i64 0, Value.slice (some { block := w11.heap.size, off := 0 }) 2 2], Value.func (Fn.func 11) #[] #[], Value.agg #[Value.int IntKind.i64 1, Value.int IntKind.i64 0, Value.slice none 0 0], Value.func (Fn.func 11) #[] #[], Value.agg #[Value.int IntKind.i64 1, Value.int IntKind.i64 0, Value.slice none 0 0], Value.func (Fn.func 11) #[] #[], Value.agg #[Value.int IntKind.i64 1, Value.int IntKind.i64 1, Value.slice none 0 0], Value.func (Fn.func 11) #[] #[], Value.agg #[Value.int IntKind.i64 1, Value.int IntKind.i64 2, Value.slice none 0 0], Value.slice (some { block := w16.heap.size, off := 0 }) 2 2, Value.agg #[Value.int IntKind.i64 5, Value.int IntKind.i64 0, Value.slice (some { block := w16.heap.size, off := 0 }) 2 2], Value.func (Fn.func 11) #[] #[], Value.agg #[Value.int IntKind.i64 1, Value.int IntKind.i64 3, Value.slice none 0 0], Value.slice (some { block := w18.heap.size, off := 0 }) 4 4, Value.agg #[Value.int IntKind.i64 13, Value.int IntKind.i64 0, Value.slice (some { block := w18.heap.size, off := 0 }) 4 4], Value.func (Fn.func 11) #[] #[], Value.agg #[Value.int IntKind.i64 1, Value.int IntKind.i64 0, Value.slice none 0 0], Value.func (Fn.func 11) #[] #[], Value.agg #[Value.int IntKind.i64 1, Value.int IntKind.i64 1, Value.slice none 0 0], Value.slice (some { block := w21.heap.size, off := 0 }) 1 1, Value.agg #[Value.int IntKind.i64 19, Value.int IntKind.i64 0, Value.slice (some { block := w21.heap.size, off := 0 }) 1 1], Value.slice (some { block := w22.heap.size, off := 0 }) 2 2, Value.agg #[Value.int IntKind.i64 28, Value.int IntKind.i64 0, Value.slice (some { block := w22.heap.size, off := 0 }) 2 2], Value.slice (some { block := w23.heap.size, off := 0 }) 6 6, Value.slice (some { block := w23.heap.size + 1, off := 0 }) 6 6, Value.slice (some { block := w23.heap.size + 1 + 1, off := 0 }) 6 6, Value.int IntKind.i64 which, Value.slice (some { block := w23.heap.size, off := 0 }) 6 6, Value.int IntKind.i64 6, Value.int IntKind.i64 ↑k, vs 0, vs 1, vs 2, vs 3, vs 4, vs 5, vs 6, vs 7, vs 8, vs 9, vs 10, vs 11, vs 12, vs 13, vs 14, vs 15, vs 16, vs 17, vs 18, vs 19, vs 20, vs 21, vs 22, vs 23, vs 24], defers := [] }) (fun i => [undef, undef, undef, undef, undef, undef, undef, undef, undef, undef, undef, undef, undef, undef, undef, undef, undef, undef, undef, undef, undef, undef, undef, undef, undef, Value.bool false].getD i undef) (tknown_F TT w23.heap.size k sa sb) (tknown_F.keep TT w23.heap.size k sa sb) ?_ ?_
  · refine ⟨?_, ?_, ?_, ?_, ?_, ?_, ?_, ?_, ?_, ?_, ?_, ?_, ?_, ?_, ?_, ?_, ?_, ?_, ?_, ?_, ?_, ?_, ?_, ?_, ?_, ?_, trivial⟩
    · intro vs wx K hb hd hK
      have HBX := hide hb
      clear hb hd
      go_simp
      exact hK _ _ (Below.refl _ _) rfl
    · intro vs wx K hb hd hK
      have HBX := hide hb
      clear hb hd
      go_simp
      exact hK _ _ (Below.refl _ _) rfl
    · intro vs wx K hb hd hK
      obtain ⟨vs, rfl⟩ := put_of (show vs 0 = _ from hd ⟨0, .data⟩ (by simp) rfl)
      obtain ⟨vs, rfl⟩ := put_of (show vs 1 = _ from hd ⟨1, .data⟩ (by simp) rfl)
      have HBX := hide hb
      clear hb hd
      go_simp
      exact hK _ _ (Below.refl _ _) rfl
    · intro vs wx K hb hd hK
      obtain ⟨vs, rfl⟩ := put_of (show vs 2 = _ from hd ⟨2, .data⟩ (by simp) rfl)
      obtain ⟨c0, c1, c2⟩ := cellsE hb HEK.out
      have HBX := hide hb
      clear hb hd
      go_simp
      exact hK _ _ (Below.refl _ _) ⟨_, _, _, _, _, rfl, TmAt.below HTK.out HBX.out (Nat.le_refl _) HBX.out.size⟩
    · intro vs wx K hb hd hK
      have tm3 := hd ⟨3, .data⟩ (by simp) rfl
      have HX3 := hide tm3
      obtain ⟨p0_3, p1_3, pa_3, pl_3, pc_3, e3, _⟩ := tm3
      rw [e3] at HX3
      obtain ⟨vs, rfl⟩ := put_of (show vs 3 = _ from e3)
      clear e3
      have HBX := hide hb
      clear hb hd
      go_simp
      refine (c_shift HX3.out GT.out (HTB'.out.later HBX.out) (by omega) (by omega)).mono ?_
      rintro e w7 ⟨u, rfl, hu, hb7⟩
      exact hK _ _ hb7 hu
    · intro vs wx K hb hd hK
      have tm4 := hd ⟨4, .data⟩ (by simp) rfl
      have HX4 := hide tm4
      obtain ⟨p0_4, p1_4, pa_4, pl_4, pc_4, e4, _⟩ := tm4
      rw [e4] at HX4
      obtain ⟨vs, rfl⟩ := put_of (show vs 4 = _ from e4)
      clear e4
      have HBX := hide hb
      clear hb hd
      go_simp
      refine (e_text HX4.out GS.out (HTA.out.later HBX.out) (HLA.out.later HBX.out) ZA.out).mono ?_
      rintro e w7 ⟨rfl, hb7⟩
      rw [HSA.out]
      exact hK _ _ hb7 rfl
    · intro vs wx K hb hd hK
      have HBX := hide hb
      clear hb hd
      go_simp
      exact hK _ _ (Below.refl _ _) rfl
    · intro vs wx K hb hd hK
      have HBX := hide hb
      clear hb hd
      go_simp
      exact hK _ _ (Below.refl _ _) rfl
    · intro vs wx K hb hd hK
      obtain ⟨vs, rfl⟩ := put_of (show vs 6 = _ from hd ⟨6, .data⟩ (by simp) rfl)
      obtain ⟨vs, rfl⟩ := put_of (show vs 7 = _ from hd ⟨7, .data⟩ (by simp) rfl)
      have HBX := hide hb
      clear hb hd
      go_simp
      exact hK _ _ (Below.refl _ _) rfl
    · intro vs wx K hb hd hK
      obtain ⟨vs, rfl⟩ := put_of (show vs 8 = _ from hd ⟨8, .data⟩ (by simp) rfl)
      have cs := (hb.cell (World.block_lt_of_cell? _ _ HCA.out)).trans HCA.out
      have HBX := hide hb
      clear hb hd
      go_simp
      exact hK _ _ (Below.refl _ _) rfl
    · intro vs wx K hb hd hK
      obtain ⟨vs, rfl⟩ := put_of (show vs 5 = _ from hd ⟨5, .data⟩ (by simp) rfl)
      obtain ⟨vs, rfl⟩ := put_of (show vs 9 = _ from hd ⟨9, .data⟩ (by simp) rfl)
      have HBX := hide hb
      clear hb hd
      go_simp
      exact hK _ _ (Below.refl _ _) rfl
    · intro vs wx K hb hd hK
      obtain ⟨vs, rfl⟩ := put_of (show vs 10 = _ from hd ⟨10, .data⟩ (by simp) rfl)
      have HBX := hide hb
      clear hb hd
      go_simp
      exact hK _ _ (Below.refl _ _) rfl
    · intro vs wx K hb hd hK
      obtain ⟨vs, rfl⟩ := put_of (show vs 11 = _ from hd ⟨11, .guard⟩ (by simp) rfl)
      have HBX := hide hb
      clear hb hd
      go_simp
      exact hK _ _ (Below.refl _ _) rfl
    · intro vs wx K hb hd hK
      obtain ⟨vs, rfl⟩ := put_of (show vs 11 = _ from hd ⟨11, .guard⟩ (by simp) rfl)
      have HBX := hide hb
      clear hb hd
      go_simp
      exact hK _ _ (Below.refl _ _) rfl
    · intro vs wx K hb hd hK
      obtain ⟨vs, rfl⟩ := put_of (show vs 12 = _ from hd ⟨12, .data⟩ (by simp) rfl)
      obtain ⟨vs, rfl⟩ := put_of (show vs 13 = _ from hd ⟨13, .data⟩ (by simp) rfl)
      obtain ⟨vs, rfl⟩ := put_of (show vs 11 = _ from hd ⟨11, .guard⟩ (by simp) rfl)
      have HBX := hide hb
      clear hb hd
      go_simp
      exact hK _ _ (Below.refl _ _) rfl
    · intro vs wx K hb hd hK
      obtain ⟨vs, rfl⟩ := put_of (show vs 14 = _ from hd ⟨14, .data⟩ (by simp) rfl)
      obtain ⟨vs, rfl⟩ := put_of (show vs 11 = _ from hd ⟨11, .guard⟩ (by simp) rfl)
      obtain ⟨c0, c1, c2⟩ := cellsE hb HEK.out
      have HBX := hide hb
      clear hb hd
      go_simp
      exact hK _ _ (Below.refl _ _) ⟨_, _, _, _, _, rfl, TmAt.below HTK.out HBX.out (Nat.le_refl _) HBX.out.size⟩
    · intro vs wx K hb hd hK
      obtain ⟨vs, rfl⟩ := put_of (show vs 11 = _ from hd ⟨11, .guard⟩ (by simp) rfl)
      obtain ⟨c0, c1, c2⟩ := cells3' hb HKZ.out
      have HBX := hide hb
      clear hb hd
      go_simp
      exact hK _ _ (Below.refl _ _) ⟨_, _, _, _, _, rfl, TmAt.below HTZ.out HBX.out (Nat.le_refl _) HBX.out.size⟩
    · intro vs wx K hb hd hK
      have tm15 := hd ⟨15, .data⟩ (by simp) rfl
      have HX15 := hide tm15
      obtain ⟨p0_15, p1_15, pa_15, pl_15, pc_15, e15, _⟩ := tm15
      rw [e15] at HX15
      have tm16 := hd ⟨16, .data⟩ (by simp) rfl
      have HX16 := hide tm16
      obtain ⟨p0_16, p1_16, pa_16, pl_16, pc_16, e16, _⟩ := tm16
      rw [e16] at HX16
      obtain ⟨vs, rfl⟩ := put_of (show vs 15 = _ from e15)
      obtain ⟨vs, rfl⟩ := put_of (show vs 16 = _ from e16)
      obtain ⟨vs, rfl⟩ := put_of (show vs 11 = _ from hd ⟨11, .guard⟩ (by simp) rfl)
      clear e15 e16
      have HBX := hide hb
      clear hb hd
      go_simp
      refine (c_subst HX15.out HX16.out GT.out GZ.out (HTB'.out.later HBX.out) ZS.out (by omega)).mono ?_
      rintro e w7 ⟨u, rfl, hu, hb7⟩
      exact hK _ _ hb7 hu
    · intro vs wx K hb hd hK
      have tm17 := hd ⟨17, .data⟩ (by simp) rfl
      have HX17 := hide tm17
      obtain ⟨p0_17, p1_17, pa_17, pl_17, pc_17, e17, _⟩ := tm17
      rw [e17] at HX17
      obtain ⟨vs, rfl⟩ := put_of (show vs 17 = _ from e17)
      obtain ⟨vs, rfl⟩ := put_of (show vs 11 = _ from hd ⟨11, .guard⟩ (by simp) rfl)
      clear e17
      have HBX := hide hb
      clear hb hd
      go_simp
      refine (e_text HX17.out GB.out (HTA.out.later HBX.out) (HLA.out.later HBX.out) ZB.out).mono ?_
      rintro e w7 ⟨rfl, hb7⟩
      rw [HSB.out]
      exact hK _ _ hb7 rfl
    · intro vs wx K hb hd hK
      obtain ⟨vs, rfl⟩ := put_of (show vs 11 = _ from hd ⟨11, .guard⟩ (by simp) rfl)
      have HBX := hide hb
      clear hb hd
      go_simp
      exact hK _ _ (Below.refl _ _) rfl
    · intro vs wx K hb hd hK
      obtain ⟨vs, rfl⟩ := put_of (show vs 11 = _ from hd ⟨11, .guard⟩ (by simp) rfl)
      have HBX := hide hb
      clear hb hd
      go_simp
      exact hK _ _ (Below.refl _ _) rfl
    · intro vs wx K hb hd hK
      obtain ⟨vs, rfl⟩ := put_of (show vs 19 = _ from hd ⟨19, .data⟩ (by simp) rfl)
      obtain ⟨vs, rfl⟩ := put_of (show vs 20 = _ from hd ⟨20, .data⟩ (by simp) rfl)
      obtain ⟨vs, rfl⟩ := put_of (show vs 11 = _ from hd ⟨11, .guard⟩ (by simp) rfl)
      have HBX := hide hb
      clear hb hd
      go_simp
      exact hK _ _ (Below.refl _ _) rfl
    · intro vs wx K hb hd hK
      obtain ⟨vs, rfl⟩ := put_of (show vs 21 = _ from hd ⟨21, .data⟩ (by simp) rfl)
      obtain ⟨vs, rfl⟩ := put_of (show vs 11 = _ from hd ⟨11, .guard⟩ (by simp) rfl)
      have cs := (hb.cell (World.block_lt_of_cell? _ _ HCB.out)).trans HCB.out
      have HBX := hide hb
      clear hb hd
      go_simp
      exact hK _ _ (Below.refl _ _) rfl
    · intro vs wx K hb hd hK
      obtain ⟨vs, rfl⟩ := put_of (show vs 18 = _ from hd ⟨18, .data⟩ (by simp) rfl)
      obtain ⟨vs, rfl⟩ := put_of (show vs 22 = _ from hd ⟨22, .data⟩ (by simp) rfl)
      obtain ⟨vs, rfl⟩ := put_of (show vs 11 = _ from hd ⟨11, .guard⟩ (by simp) rfl)
      have HBX := hide hb
      clear hb hd
      go_simp
      exact hK _ _ (Below.refl _ _) rfl
    · intro vs wx K hb hd hK
      obtain ⟨vs, rfl⟩ := put_of (show vs 11 = _ from hd ⟨11, .data⟩ (by simp) rfl)
      obtain ⟨vs, rfl⟩ := put_of (show vs 23 = _ from hd ⟨23, .data⟩ (by simp) rfl)
      have HBX := hide hb
      clear hb hd
      go_simp
      exact hK _ _ (Below.refl _ _) rfl
    · intro vs wx K hb hd hK
      obtain ⟨vs, rfl⟩ := put_of (show vs 24 = _ from hd ⟨24, .data⟩ (by simp) rfl)
      have HBX := hide hb
      clear hb hd
      go_simp
      exact hK _ _ (Below.refl _ _) rfl
  · intro vs wx hb hF
    obtain ⟨vs, rfl⟩ := put_of (show vs 25 = _ from hF 25 (by decide))
    have HBX := hide hb
    clear hb hF
    simp only [put, Nat.reduceEqDiff, reduceIte]
    go_wp2_with fail
    go_ret
    exact ⟨rfl, HBW.out.trans (HBX.out.mono HBW.out.size)⟩
#print axioms tknown_any
end Go.Proofs.YtpmaagafcpaajabDoor
