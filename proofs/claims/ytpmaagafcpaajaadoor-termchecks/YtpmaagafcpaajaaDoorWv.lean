/- term.Text; the chapter's example. -/
import Derived.Test.YtpmaagafcpaajaaDoorWt
import Derived.Test.YtpmaagafcpaajaaDoorMe
namespace Go.Proofs.YtpmaagafcpaajaaDoor
open Go.RowKit

theorem Tabs.later {w w1 : World} (h : Tabs w.heap.size w) (hb : Below w.heap.size w w1) : Tabs w1.heap.size w1 := fun w2 h2 => h w2 (hb.trans (h2.mono hb.size))
theorem writer_new (w1 : World) : Wr w1.heap.size w1.heap.size (Lib.byteCells []) (w1.alloc (.cells #[.pointer none, .slice none 0 0] 83)) :=
  Or.inl ⟨Nat.le_refl _, .slice none 0 0, heap_alloc_new w1 _, World.ownsRow_nil _ _ _ _, by simp [Value.ownBlock]⟩
theorem txt_ne (t : Tr) : txtT t ≠ [] := by
  rw [txtT_eq]
  split
  · unfold leafT
    split
    · exact itoa_ne _
    · rename_i h; intro e; exact h (List.append_eq_nil_iff.1 e).1
  · simp

set_option maxRecDepth 20000 in
set_option maxHeartbeats 1000000 in
theorem text_any (B f : Nat) (t : Tr) (v : Value) (w : World) (h : TmAt w B f t v) (hB : B ≤ w.heap.size) (hs : t.size ≤ 8388608) (hf : f ≤ 200000) (ht : Tabs w.heap.size w) (htb : Tl w) (hl : (txtT t).length ≤ 140737488355328) :
    Calls Tryd.prog 30 #[v] w fun e w' => e = .returned (.string ⟨⟨txtT t⟩⟩) ∧ Below w.heap.size w w' := by
  have HT := hide h
  obtain ⟨a, cap, rfl, _, _, hop, hn⟩ := h.shape
  have HS := hide hs; have HF := hide hf; have HTA := hide ht; have HTB := hide htb; have HL := hide hl
  clear hs hf h ht htb hl
  go_enter Tryd.func30, Tryd.ntmps30
  go_wp2_with fail
  refine (fits_any B f t _ _ (TmAt.below HT.out (later_alloc w _) hB (Nat.le_refl _)) (by rw [World.size_alloc]; omega) HS.out HF.out).mono ?_
  rintro e w1 ⟨rfl, hb1⟩
  rw [World.size_alloc] at hb1
  obtain ⟨c0, c1, c2⟩ := box3 hb1
  have HB1 : Hid (Below w.heap.size w w1) := below_box hb1
  have hs1 : w.heap.size + 1 ≤ w1.heap.size := by have := hb1.size; rw [World.size_alloc] at this; exact this
  have hs2 : w.heap.size < w1.heap.size := by omega
  clear hb1
  have HLA : Hid (Below w1.heap.size w1 (w1.alloc (.cells #[.pointer none, .slice none 0 0] 83))) := later_alloc w1 _
  go_wp2_with fail
  refine (wterm_any f w1.heap.size w1.heap.size B [] t _ _ (writer_new w1) (by rw [World.size_alloc]; omega) ((HTA.out.later HB1.out).keep HLA.out) ((HTB.out.later HB1.out).later HLA.out) (Nat.le_trans HTB.out.size HB1.out.size) (by omega) (TmAt.below HT.out (HB1.out.trans (HLA.out.mono HB1.out.size)) hB (Nat.le_refl _)) (by rw [List.length_nil, Nat.zero_add]; exact HL.out)).mono ?_
  rintro e w3 ⟨rfl, h3, hb3, _⟩
  rw [List.nil_append] at h3
  have H3 := hide h3
  have HB3 : Hid (Below w.heap.size w w3) := HB1.out.trans ((HLA.out.trans hb3).mono HB1.out.size)
  clear h3 hb3
  go_wp2_with fail
  refine (wtext_any w1.heap.size w1.heap.size (txtT t) w3 H3.out (txt_ne t)).mono ?_
  rintro e w4 ⟨rfl, hb4⟩
  have HB4 : Hid (Below w.heap.size w w4) := HB3.out.trans (hb4.mono HB1.out.size)
  clear hb4
  go_wp2_with fail
  go_ret
  exact ⟨rfl, HB4.out⟩

theorem tm_leaf {w : World} {D : Nat → Prop} (f : Nat) {o n : Int} (ho : I64 o) (hn : I64 n) : TmD w D (f + 1) ⟨o, n, []⟩ (.agg #[.int .i64 o, .int .i64 n, .slice none 0 0]) :=
  ⟨none, 0, rfl, ho, hn, RowAt.nil (by unfold maxLen; omega)⟩
/-- A row that was laid down in a block. -/
theorem row_blk {w : World} {D : Nat → Prop} {R : Tr → Value → Prop} {ts : List Tr} {b : Nat} {cs : Array Value} {T : TypeId} {fr : Nat × Nat} (hb : w.heap[b]? = some (.cells cs T fr)) (hD : D b) (hl : ts.length ≤ maxLen)
    (h : ∀ (i : Nat) (h : i < ts.length), ∃ x0 x1 x2, cs[i * 3]? = some x0 ∧ cs[i * 3 + 1]? = some x1 ∧ cs[i * 3 + 2]? = some x2 ∧ R ts[i] (.agg #[x0, x1, x2])) : RowAt w D R ts (some ⟨b, 0, none⟩) ts.length := by
  refine ⟨Nat.le_refl _, hl, fun _ => ⟨b, 0, rfl, hD, fun i hi => ?_⟩⟩
  obtain ⟨x0, x1, x2, h0, h1, h2, hr⟩ := h i hi
  refine ⟨x0, x1, x2, ?_, ?_, ?_, hr⟩
  · rw [cell_of_block hb, Nat.zero_add]; exact h0
  · rw [cell_of_block hb, Nat.zero_add]; exact h1
  · rw [cell_of_block hb, Nat.zero_add]; exact h2
theorem i64_lit {x : Int} (h : -9223372036854775808 ≤ x ∧ x ≤ 9223372036854775807) : I64 x := h
theorem known_txt : txtT ⟨12, 0, [⟨11, 0, []⟩]⟩ = [40, 49, 50, 32, 49, 49, 41] := by
  rw [txtT_node _ (by simp)]
  simp only [rowT, List.length_cons, List.length_nil, List.take_succ_cons, List.take_zero, List.map_cons, List.map_nil, txtT_leaf ⟨11, 0, []⟩ rfl]
  kernel_rfl

set_option maxRecDepth 20000 in
set_option maxHeartbeats 1000000 in
theorem known_any (w : World) (ht : Tabs w.heap.size w) (htb : Tl w) : Calls Tryd.prog 9 #[] w fun e w' => e = .returned (.bool true) ∧ Below w.heap.size w w' := by
  have HTA := hide ht; have HTB := hide htb
  clear ht htb
  go_enter Tryd.func9, Tryd.ntmps9
  go_wp2_with fail
  have HA : Hid (Below w.heap.size w (w.alloc (.cells #[.int .i64 11, .int .i64 0, .slice none 0 0] 29))) := later_alloc w _
  refine (text_any (w.heap.size + 1) 2 ⟨12, 0, [⟨11, 0, []⟩]⟩ _ _ ⟨some ⟨w.heap.size, 0, none⟩, 1, rfl, i64_lit (by simp), i64_lit (by simp), row_blk (ts := [⟨11, 0, []⟩]) (heap_alloc_new w _) (Nat.lt_succ_self _) (by unfold maxLen; simp) (fun i hi => ?_)⟩ (by rw [World.size_alloc]; exact Nat.le_refl _) (by rw [Tr.size_eq]; simp [Tr.size_eq]) (by decide) (HTA.out.later HA.out) (HTB.out.later HA.out) (by rw [known_txt]; decide)).mono ?_
  · obtain rfl : i = 0 := by simp at hi; omega
    exact ⟨_, _, _, rfl, rfl, rfl, tm_leaf 0 (i64_lit (by decide)) (i64_lit (by decide))⟩
  rintro e w1 ⟨rfl, hb1⟩
  rw [known_txt]
  have HB : Hid (Below w.heap.size w w1) := HA.out.trans (hb1.mono (by simp))
  clear hb1
  go_wp2_with fail
  go_ret
  exact ⟨rfl, HB.out⟩
#print axioms known_any
#print axioms text_any
end Go.Proofs.YtpmaagafcpaajaaDoor
