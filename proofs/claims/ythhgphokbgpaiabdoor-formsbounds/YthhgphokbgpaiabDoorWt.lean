/- The writer of forms: what its methods lay down. -/
import Derived.Test.YthhgphokbgpaiabDoorTp
import Derived.Test.YthhgphokbgpaiabDoorCk
import Derived.Test.YthhgphokbgpaiabDoorBu
import Derived.Lib.AppendIntMem
namespace Go.Proofs.YthhgphokbgpaiabDoor
open Go.RowKit Go.Sort

/-- The table of tens, wherever memory from B on has grown. -/
def Tabs (B : Nat) (w : World) : Prop := Lib.TabBelow Tryd.prog B w "internal/strconv.uint64pow10" .u64 Lib.pow10Tab

theorem Tabs.keep {B : Nat} {w w' : World} (h : Tabs B w) (hb : Below B w w') : Tabs B w' := fun w'' h2 => h w'' (hb.trans h2)

set_option maxRecDepth 20000 in
theorem puts_any (w : World) : Calls Tryd.prog 30 #[] w fun e w' => e = .returned (.agg #[.nilFunc, .func (.func 37) #[] #[], .func (.func 38) #[] #[], .func (.func 39) #[] #[]]) ∧ Below w.heap.size w w' := by
  go_enter Tryd.func30, Tryd.ntmps30
  go_wp2_with fail
  refine bodyPost_ret (v := .agg #[.nilFunc, .func (.func 37) #[] #[], .func (.func 38) #[] #[], .func (.func 39) #[] #[]]) (by simp [results, Tryd.results30, go_sem]) rfl ⟨rfl, (Below.refl _ _).alloc (Nat.le_refl _) _⟩

theorem idx89_1 (w : World) (a b c d : Value) : (Instr.index 70 (.agg #[a, b, c, d]) (.int .i64 1)).run Tryd.prog w = .ok b w := by
  simp [Instr.index, go_sem, run_underlying Tryd.underlying70]
theorem idx89_2 (w : World) (a b c d : Value) : (Instr.index 70 (.agg #[a, b, c, d]) (.int .i64 2)).run Tryd.prog w = .ok c w := by
  simp [Instr.index, go_sem, run_underlying Tryd.underlying70]
theorem idx89_3 (w : World) (a b c d : Value) : (Instr.index 70 (.agg #[a, b, c, d]) (.int .i64 3)).run Tryd.prog w = .ok d w := by
  simp [Instr.index, go_sem, run_underlying Tryd.underlying70]
attribute [local go_sem] idx89_1 idx89_2 idx89_3

theorem cells_app (a b : List UInt8) : Lib.byteCells a ++ Lib.byteCells b = Lib.byteCells (a ++ b) := by simp [Lib.byteCells]

theorem str_cells (s : List UInt8) : Lib.strCells ⟨⟨s⟩⟩ = Lib.byteCells s := by simp [Lib.strCells, Lib.byteCells]

theorem Wr.later {B b : Nat} {bs : List Value} {w w' : World} (h : Wr B b bs w) (hb : Below w.heap.size w w') : Wr B b bs w' := by
  refine h.imp ?_ ?_ <;>
  · rintro ⟨h1, v, h2, h3, h4⟩
    exact ⟨h1, v, (hb.block b (size_of_block h2)).trans h2, owns_same h3 (fun g hg => hb.block g (h3.lt g hg).2), h4⟩

theorem later_alloc (w : World) (o : Obj) : Below w.heap.size w (w.alloc o) := (Below.refl _ _).alloc (Nat.le_refl _) o

theorem tab_at {B : Nat} {w : World} (h : Tabs B w) (hB : B ≤ w.heap.size) (o : Obj) : Lib.TabIs Tryd.prog (w.alloc o).drew "internal/strconv.uint64pow10" .u64 Lib.pow10Tab := h _ ((later_drew w o).mono hB)

theorem grown_later (w : World) (k : Nat) (os : Array Obj) : Below w.heap.size w (grow (w.drewN k) os) := Lib.below_grow _ w (Nat.le_refl _) k os

/-- What a method of the writer does. -/
def WrOut (B b : Nat) (bs : List UInt8) (w : World) (e : Ending) (w' : World) : Prop := e = .returned (.tuple #[]) ∧ Wr B b (Lib.byteCells bs) w' ∧ Below B w w'

set_option maxRecDepth 20000 in
theorem wname_any (B b : Nat) (bs s : List UInt8) (k n : Int) (la : Option Addr) (ll lc : Nat) (w : World) (h : Wr B b (Lib.byteCells bs) w) (hB : B ≤ w.heap.size) (hlen : bs.length + s.length ≤ 140737488355328) :
    Calls Tryd.prog 37 #[.pointer (some ⟨b, 0, none⟩), .agg #[.int .i64 k, .int .i64 n, .string ⟨⟨s⟩⟩, .slice la ll lc]] w (WrOut B b (bs ++ s) w) := by
  have H := hide h
  clear h
  go_enter Tryd.func37, Tryd.ntmps37
  go_wp2_with fail
  go_region_with (go_at_call 43; refine (wstring_any B b (Lib.byteCells bs) _ _ (H.out.later (later_drew _ _)) (by rw [Lib.byteCells_length]; exact hlen) (by rw [size_drew, World.size_alloc]; omega)).mono ?_; rintro e w2 ⟨rfl, h2, hb2⟩; have H2 := hide h2; have HB2 := hide hb2; clear h2 hb2)
  all_goals
    go_wp2_with fail
    go_end0
    exact ⟨rfl, by rw [← cells_app, ← str_cells s]; exact H2.out, ((later_drew _ _).mono hB).trans HB2.out⟩

set_option maxRecDepth 20000 in
theorem wnumber_any (B b : Nat) (bs s : List UInt8) (k n : Int) (la : Option Addr) (ll lc : Nat) (w : World) (h : Wr B b (Lib.byteCells bs) w) (hB : B ≤ w.heap.size) (hn : I64 n) (ht : Tabs B w) (hlen : bs.length + (Lib.itoa n).length ≤ 140737488355328) :
    Calls Tryd.prog 38 #[.pointer (some ⟨b, 0, none⟩), .agg #[.int .i64 k, .int .i64 n, .string ⟨⟨s⟩⟩, .slice la ll lc]] w (WrOut B b (bs ++ Lib.itoa n) w) := by
  have H := hide h; have HN := hide hn; have HT := hide ht; have HL := hide hlen
  clear h hn ht hlen
  go_enter Tryd.func38, Tryd.ntmps38
  go_wp2_with fail
  go_region_with (first | (go_at_call 44; refine (Tryd.strconv_Itoa n HN.out.1 HN.out.2 _ (tab_at HT.out hB _)).mono ?_; rintro e w1 ⟨rfl, kk, os, hw1⟩; have HW1 : Hid (Below w.heap.size w w1) := (by rw [hw1]; exact below_tok (Below.refl _ _) (grown_later _ kk os)); clear hw1) | (go_at_call 43; refine (wstring_any B b (Lib.byteCells bs) _ _ (H.out.later HW1.out) (by rw [Lib.byteCells_length]; exact HL.out) (Nat.le_trans hB HW1.out.size)).mono ?_; rintro e w2 ⟨rfl, h2, hb2⟩; have H2 := hide h2; have HB2 := hide hb2; clear h2 hb2))
  all_goals
    go_wp2_with fail
    go_end0
    exact ⟨rfl, by rw [← cells_app, ← str_cells (Lib.itoa n)]; exact H2.out, (HW1.out.mono hB).trans HB2.out⟩

/-- What the writer does with a form, so deep at most. -/
def WfC (m : Nat) : Prop := ∀ (B b F : Nat) (bs : List UInt8) (t : Fm) (la : Option Addr) (lc : Nat) (w : World), Wr B b (Lib.byteCells bs) w → B ≤ w.heap.size → Tabs B w → FmAt w B F t (.agg #[.int .i64 t.kind, .int .i64 t.n, .string ⟨⟨t.s⟩⟩, .slice la t.l.length lc]) → Wok m t → bs.length + (txtF m t).length ≤ 140737488355328 →
  Calls Tryd.prog 12 #[.pointer (some ⟨b, 0, none⟩), .agg #[.int .i64 t.kind, .int .i64 t.n, .string ⟨⟨t.s⟩⟩, .slice la t.l.length lc]] w (WrOut B b (bs ++ txtF m t) w)

theorem kept_cell {w w1 : World} {b : Nat} {x0 x1 x2 x3 : Value} (h : Lib.OthersKept 5 (some b) (w.alloc (.cells #[x0, x1, x2, x3] 25)) w1) (hb : b < w.heap.size) : w1.heap[w.heap.size]? = some (.cells #[x0, x1, x2, x3] 25 (0, 0)) := by
  refine h w.heap.size _ (heap_alloc_new w _) (fun e => ?_) (fun c fz e => ?_)
  · simp at e; omega
  · simp at e

theorem Wr.blk {B b : Nat} {bs : List Value} {w : World} (h : Wr B b bs w) : b < w.heap.size := by
  rcases h with ⟨_, v, h2, _⟩ | ⟨_, v, h2, _⟩ <;> exact size_of_block h2

set_option maxRecDepth 20000 in
set_option maxHeartbeats 1000000 in
theorem wlist_any (m : Nat) (IH : WfC m) (B b F : Nat) (bs : List UInt8) (t : Fm) (la : Option Addr) (lc : Nat) (w : World) (h : Wr B b (Lib.byteCells bs) w) (hB : B ≤ w.heap.size) (ht : Tabs B w) (hv : FmAt w B F t (.agg #[.int .i64 t.kind, .int .i64 t.n, .string ⟨⟨t.s⟩⟩, .slice la t.l.length lc])) (hw : ∀ k ∈ t.l, Wok m k) (hlen : bs.length + (joinF (txtF m) t.l).length + 2 ≤ 140737488355328) :
    Calls Tryd.prog 39 #[.pointer (some ⟨b, 0, none⟩), .agg #[.int .i64 t.kind, .int .i64 t.n, .string ⟨⟨t.s⟩⟩, .slice la t.l.length lc]] w (WrOut B b (bs ++ 40 :: (joinF (txtF m) t.l ++ [41])) w) := by
  have H := hide h; have HT := hide ht; have HL := hide hlen; have HV := hide hv; have HW := hide hw; have HI := hide IH
  have HR := hide (FmD.kids hv)
  have hlc := HR.out.2.1
  have hll := HR.out.1
  unfold maxLen at hlc
  clear h ht hlen hv hw IH
  go_enter Tryd.func39, Tryd.ntmps39
  go_wp2_with fail
  refine (wbyte_any B b (Lib.byteCells bs) 40 (w.alloc (.cells #[.int .i64 t.kind, .int .i64 t.n, .string ⟨⟨t.s⟩⟩, .slice la t.l.length lc] 25)) (H.out.later (later_alloc _ _)) (by have := HL.out; rw [Lib.byteCells_length]; omega) (by rw [World.size_alloc]; omega)).mono ?_
  rintro e w1 ⟨rfl, h1, hb1, hk1⟩
  have H1 : Hid (Wr B b (Lib.byteCells (bs ++ [40])) w1) := by rw [← cells_app]; exact h1
  have HB1 : Hid (Below B w w1) := ((Below.refl B w).alloc hB _).trans hb1
  obtain ⟨_, _, _, c3⟩ := blk4 (kept_cell hk1 H.out.blk)
  have hsz1 : w.heap.size + 1 ≤ w1.heap.size := by have := hb1.size; rw [World.size_alloc] at this; exact this
  clear h1 hb1 hk1
  go_wp2_with fail
  go_loopw [13] (fun i wr => ∃ k : Nat, k ≤ t.l.length ∧ i = .int .i64 k ∧ Hid (Wr B b (Lib.byteCells (bs ++ 40 :: joinF (txtF m) (t.l.take k))) wr) ∧ Hid (Below B w wr)) (fun i _ => t.l.length - (intOf i).toNat)
  case atStart => exact ⟨0, by omega, rfl, by rw [List.take_zero, joinF]; exact H1.out, HB1.out⟩
  case round =>
    obtain ⟨k, hk, rfl, HX, HBX⟩ := hrel
    have hbs : B ≤ wr.heap.size := Nat.le_trans hB HBX.out.size
    by_cases hlt : k < t.l.length
    · obtain ⟨b2, off, pla, plc, rfl, hb2, f0, f1, f2, f3, hft⟩ := HR.out.form hlt
      have e0 := (HBX.out.cell (p := ⟨b2, off + k * 4, none⟩) hb2).trans f0
      have e1 := (HBX.out.cell (p := ⟨b2, off + k * 4 + 1, none⟩) hb2).trans f1
      have e2 := (HBX.out.cell (p := ⟨b2, off + k * 4 + 2, none⟩) hb2).trans f2
      have e3 := (HBX.out.cell (p := ⟨b2, off + k * 4 + 3, none⟩) hb2).trans f3
      have HFT := hide hft
      have hwk := HW.out t.l[k] (List.getElem_mem hlt)
      have HWK := hide hwk
      have hjt := joinF_take (txtF m) t.l k hlt
      have hjl := joinF_le (txtF m) t.l (k + 1) (by omega)
      rw [hjt] at hjl
      have HJT := hide hjt; have HJL := hide hjl
      clear f0 f1 f2 f3 hft hwk hjt hjl
      have HPK : Hid (∃ p, p = t.l[k]) := ⟨_, rfl⟩
      obtain ⟨p, hp⟩ := HPK.out
      rw [← hp] at e0 e1 e2 e3 HFT HWK HJT HJL
      clear hp HPK
      have i1 : (0 : Int) ≤ (k : Int) := by omega
      have i2 : (k : Int) < (t.l.length : Int) := by omega
      have HTX : Hid (Tabs B wr) := HT.out.keep HBX.out
      have HFX : Hid (FmAt wr B F p (.agg #[.int .i64 p.kind, .int .i64 p.n, .string ⟨⟨p.s⟩⟩, .slice pla p.l.length plc])) := FmAt.below HFT.out HBX.out (Nat.le_refl _) (Nat.le_refl _)
      have HLA : Hid (Below B wr (wr.alloc (.cells #[.int .i64 p.kind, .int .i64 p.n, .string ⟨⟨p.s⟩⟩, .slice pla p.l.length plc] 25))) := (Below.refl _ _).alloc hbs _
      by_cases hk0 : k = 0
      · subst hk0
        have hj0 : joinF (txtF m) (t.l.take (0 + 1)) = txtF m p := by have := HJT.out; rw [List.take_zero, joinF] at this; simpa using this
        have HJ0 := hide hj0
        clear hj0
        simp only [Nat.zero_mul, Nat.add_zero] at e0 e1 e2 e3
        have HX0 : Hid (Wr B b (Lib.byteCells (bs ++ [40])) wr) := by have := HX.out; rwa [List.take_zero, joinF] at this
        have hlen0 : (bs ++ [40]).length + (txtF m p).length ≤ 140737488355328 := by
          have h1 := HJL.out; have h2 := HL.out
          simp only [List.length_append] at h1
          rw [List.length_append, List.length_singleton]
          omega
        go_wp2_with fail
        refine (HI.out B b F (bs ++ [40]) p pla plc _ (HX0.out.later (later_alloc _ (.cells #[.int .i64 p.kind, .int .i64 p.n, .string ⟨⟨p.s⟩⟩, .slice pla p.l.length plc] 25))) (by rw [World.size_alloc]; omega) (HTX.out.keep HLA.out) (FmAt.below HFX.out HLA.out (Nat.le_refl _) (Nat.le_refl _)) HWK.out hlen0).mono ?_
        rintro e w3 ⟨rfl, h3, hb3⟩
        have H3 := hide h3; have HB3 := hide hb3
        clear h3 hb3
        go_wp2_with fail
        go_roundw
        case rel => exact ⟨1, by omega, by go_num, by have := H3.out; rw [List.append_assoc] at this; show Wr B b (Lib.byteCells (bs ++ 40 :: joinF (txtF m) (t.l.take (0 + 1)))) _; rw [HJ0.out]; exact this, (HBX.out.trans HLA.out).trans HB3.out⟩
        case measure => simp [intOf]; omega
      · have hk1 : (0 : Int) < (k : Int) := by omega
        go_wp2_with fail
        refine (wbyte_any B b _ 32 (wr.alloc (.cells #[.int .i64 p.kind, .int .i64 p.n, .string ⟨⟨p.s⟩⟩, .slice pla p.l.length plc] 25)) (HX.out.later (later_alloc _ _)) (by
          have h1 := HJL.out; have h2 := HL.out
          rw [if_neg hk0] at h1
          simp only [List.length_append, List.length_singleton] at h1
          rw [Lib.byteCells_length]
          simp only [List.length_append, List.length_cons]
          omega) (by rw [World.size_alloc]; omega)).mono ?_
        rintro e w4 ⟨rfl, h4, hb4, hk4⟩
        obtain ⟨c0, c1, c2, c4⟩ := blk4 (kept_cell hk4 HX.out.blk)
        have H4 : Hid (Wr B b (Lib.byteCells ((bs ++ 40 :: joinF (txtF m) (t.l.take k)) ++ [32])) w4) := by rw [← cells_app]; exact h4
        have HB4 : Hid (Below B wr w4) := HLA.out.trans hb4
        have hs4 := hb4.size
        rw [World.size_alloc] at hs4
        clear h4 hb4 hk4
        have hlen4 : ((bs ++ 40 :: joinF (txtF m) (t.l.take k)) ++ [32]).length + (txtF m p).length ≤ 140737488355328 := by
          have h1 := HJL.out; have h2 := HL.out
          rw [if_neg hk0] at h1
          simp only [List.length_append, List.length_singleton] at h1
          simp only [List.length_append, List.length_cons, List.length_nil]
          omega
        go_wp2_with fail
        refine (HI.out B b F _ p pla plc w4 H4.out (by omega) (HTX.out.keep HB4.out) (FmAt.below HFX.out HB4.out (Nat.le_refl _) (Nat.le_refl _)) HWK.out hlen4).mono ?_
        rintro e w3 ⟨rfl, h3, hb3⟩
        have H3 := hide h3; have HB3 := hide hb3
        clear h3 hb3
        go_wp2_with fail
        go_roundw
        case rel =>
          refine ⟨k + 1, by omega, by go_num, ?_, (HBX.out.trans HB4.out).trans HB3.out⟩
          show Wr B b (Lib.byteCells (bs ++ 40 :: joinF (txtF m) (t.l.take (k + 1)))) w3
          rw [HJT.out, if_neg hk0]
          have h9 := H3.out
          simp only [List.append_assoc, List.cons_append, List.nil_append] at h9 ⊢
          exact h9
        case measure => simp [intOf]; omega
    · have hke : k = t.l.length := by omega
      subst hke
      go_wp2_with fail
      refine (wbyte_any B b _ 41 wr HX.out (by
        have h2 := HL.out
        rw [List.take_length, Lib.byteCells_length]
        simp only [List.length_append, List.length_cons]
        omega) hbs).mono ?_
      rintro e w4 ⟨rfl, h4, hb4, hk4⟩
      have H4 : Hid (Wr B b (Lib.byteCells ((bs ++ 40 :: joinF (txtF m) t.l) ++ [41])) w4) := by rw [List.take_length] at h4; rw [← cells_app]; exact h4
      have HB4 := hide hb4
      clear h4 hb4 hk4
      go_wp2_with fail
      go_end0
      exact ⟨rfl, by have := H4.out; simpa [List.append_assoc] using this, HBX.out.trans HB4.out⟩
#print axioms wname_any
end Go.Proofs.YthhgphokbgpaiabDoor
