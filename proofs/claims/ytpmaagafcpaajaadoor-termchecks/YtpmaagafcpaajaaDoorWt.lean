/- What Text answers, of trees; the writer's methods. -/
import Derived.Test.YtpmaagafcpaajaaDoorTb
import Derived.Test.YtpmaagafcpaajaaDoorBu
import Derived.Test.YtpmaagafcpaajaaDoorShelf
import Derived.Lib.ItoaNum
import Derived.Lib.AppendIntMem
import Derived.Lib.LaidTab
namespace Go.Proofs.YtpmaagafcpaajaaDoor
open Go.RowKit Go.Sort

/-- The letter ahead of a number. -/
def letL (op : Int) : List UInt8 := if op = 1 then [118] else if op = 2 then [85] else if op = 25 then [105] else []
def leafT (op n : Int) : List UInt8 := if letL op = [] then Lib.itoa op else letL op ++ Lib.itoa n
def headT (op n : Int) : List UInt8 := Lib.itoa op ++ (if op = 26 then 47 :: Lib.itoa n else [])

/-- A term's text. -/
def txtT : Tr → List UInt8
  | ⟨o, n, ks⟩ => if ks.isEmpty then leafT o n else 40 :: (headT o n ++ ((ks.map txtT).map (fun l => 32 :: l)).flatten ++ [41])
theorem txtT_eq (t : Tr) : txtT t = if t.kids.isEmpty then leafT t.op t.n else 40 :: (headT t.op t.n ++ ((t.kids.map txtT).map (fun l => 32 :: l)).flatten ++ [41]) := by
  cases t; rw [txtT]
/-- What lies behind k kids. -/
def rowT (t : Tr) (k : Nat) : List UInt8 := (((t.kids.take k).map txtT).map (fun l => 32 :: l)).flatten
theorem rowT_succ (t : Tr) (k : Nat) (hk : k < t.kids.length) : rowT t (k + 1) = rowT t k ++ 32 :: txtT t.kids[k] := by
  unfold rowT
  rw [List.take_succ_eq_append_getElem hk, List.map_append, List.map_append, List.flatten_append]
  simp
theorem rowT_le (t : Tr) (k : Nat) : (rowT t k).length ≤ (rowT t t.kids.length).length := by
  have h : rowT t t.kids.length = rowT t k ++ (((t.kids.drop k).map txtT).map (fun l => 32 :: l)).flatten := by
    unfold rowT
    rw [List.take_length, ← List.flatten_append, ← List.map_append, ← List.map_append, List.take_append_drop]
  rw [h, List.length_append]
  omega
theorem txtT_node (t : Tr) (h : t.kids ≠ []) : txtT t = 40 :: (headT t.op t.n ++ rowT t t.kids.length ++ [41]) := by
  rw [txtT_eq, if_neg (by simpa using h), rowT, List.take_length]
theorem txtT_leaf (t : Tr) (h : t.kids = []) : txtT t = leafT t.op t.n := by
  rw [txtT_eq, h]; rfl

/-- The table of tens, wherever memory from B on has grown. -/
def Tabs (B : Nat) (w : World) : Prop := Lib.TabBelow Tryd.prog B w "internal/strconv.uint64pow10" .u64 Lib.pow10Tab
theorem Tabs.keep {B : Nat} {w w' : World} (h : Tabs B w) (hb : Below B w w') : Tabs B w' := fun w'' h2 => h w'' (hb.trans h2)

theorem cells_app (a b : List UInt8) : Lib.byteCells a ++ Lib.byteCells b = Lib.byteCells (a ++ b) := by simp [Lib.byteCells]
theorem str_cells (s : List UInt8) : Lib.strCells ⟨⟨s⟩⟩ = Lib.byteCells s := by simp [Lib.strCells, Lib.byteCells]
theorem Wr.later {B b : Nat} {bs : List Value} {w w' : World} (h : Wr B b bs w) (hb : Below w.heap.size w w') : Wr B b bs w' := by
  refine h.imp ?_ ?_ <;>
  · rintro ⟨h1, v, h2, h3, h4⟩
    exact ⟨h1, v, (hb.block b (size_of_block h2)).trans h2, owns_same h3 (fun g hg => hb.block g (h3.lt g hg).2), h4⟩
theorem Wr.blk {B b : Nat} {bs : List Value} {w : World} (h : Wr B b bs w) : b < w.heap.size := by
  rcases h with ⟨_, v, h2, _⟩ | ⟨_, v, h2, _⟩ <;> exact size_of_block h2
theorem kept_later {b : Nat} {w w' : World} (h : Below w.heap.size w w') : Lib.OthersKept 5 (some b) w w' := fun k _ hk _ _ => (h.block k (size_of_block hk)).trans hk
theorem kept_box {w w1 : World} {b : Nat} {x0 x1 x2 : Value} (h : Lib.OthersKept 5 (some b) (w.alloc (.cells #[x0, x1, x2] 29)) w1) (hb : b < w.heap.size) : w1.heap[w.heap.size]? = some (.cells #[x0, x1, x2] 29 (0, 0)) := by
  refine h w.heap.size _ (heap_alloc_new w _) (fun e => ?_) (fun c fz e => ?_)
  · simp at e; omega
  · simp at e
theorem kept_old {w w1 : World} {b k : Nat} {x0 x1 x2 : Value} (h : Lib.OthersKept 5 (some b) w w1) (hk : w.heap[k]? = some (.cells #[x0, x1, x2] 29 (0, 0))) (hb : k ≠ b) : w1.heap[k]? = some (.cells #[x0, x1, x2] 29 (0, 0)) := by
  refine h k _ hk (fun e => ?_) (fun c fz e => ?_)
  · simp at e; omega
  · simp at e
theorem grown_later (w : World) (k : Nat) (os : Array Obj) : Below w.heap.size w (grow (w.drewN k) os) := Lib.below_grow _ w (Nat.le_refl _) k os
theorem tab_at {B : Nat} {w : World} (h : Tabs B w) (_ : B ≤ w.heap.size) : Lib.TabIs Tryd.prog w.drew "internal/strconv.uint64pow10" .u64 Lib.pow10Tab := h _ ((Below.refl B w).drew)

theorem drew_below {w w' : World} (h : Below w.drew.heap.size w.drew w') : Below w.heap.size w w' := ⟨h.os, h.tape, h.output, h.size, h.block⟩

/-- What a method of the writer does. -/
def WrOut (B b : Nat) (bs : List UInt8) (w : World) (e : Ending) (w' : World) : Prop := e = .returned (.tuple #[]) ∧ Wr B b (Lib.byteCells bs) w' ∧ Below B w w' ∧ Lib.OthersKept 5 (some b) w w'

set_option maxRecDepth 20000 in
theorem wnumber_any (B b : Nat) (bs : List UInt8) (n : Int) (w : World) (h : Wr B b (Lib.byteCells bs) w) (hB : B ≤ w.heap.size) (hn : I64 n) (ht : Tabs B w) (hlen : bs.length + (Lib.itoa n).length ≤ 140737488355328) :
    Calls Tryd.prog 65 #[.pointer (some ⟨b, 0, none⟩), .int .i64 n] w (WrOut B b (bs ++ Lib.itoa n) w) := by
  have H := hide h; have HN := hide hn; have HT := hide ht; have HL := hide hlen
  clear h hn ht hlen
  go_enter Tryd.func65, Tryd.ntmps65
  go_wp2_with fail
  go_region_with (first | (go_at_call 67; refine (Tryd.strconv_Itoa n HN.out.1 HN.out.2 _ (tab_at HT.out hB)).mono ?_; rintro e w1 ⟨rfl, kk, os, hw1⟩; have HW1 : Hid (Below w.heap.size w w1) := (by rw [hw1]; exact drew_below (grown_later _ _ os)); clear hw1) | (go_at_call 64; refine (wstring_any B b (Lib.byteCells bs) _ _ (H.out.later HW1.out) (by rw [Lib.byteCells_length]; exact HL.out) (Nat.le_trans hB HW1.out.size)).mono ?_; rintro e w2 ⟨rfl, h2, hb2, hk2⟩; have H2 := hide h2; have HB2 := hide hb2; have HK2 := hide hk2; clear h2 hb2 hk2))
  all_goals
    go_wp2_with fail
    go_end0
    exact ⟨rfl, by rw [← cells_app, ← str_cells (Lib.itoa n)]; exact H2.out, (HW1.out.mono hB).trans HB2.out, (kept_later HW1.out).trans HK2.out⟩

theorem letN_eq (op : Int) : letN op = ⟨⟨letL op⟩⟩ := by
  unfold letN letL
  repeat' split
  all_goals rfl
theorem letL_out {op : Int} (h : ¬ (1 ≤ op ∧ op ≤ 30)) : letL op = [] := by unfold letL; rw [if_neg (by omega), if_neg (by omega), if_neg (by omega)]

set_option maxRecDepth 20000 in
theorem letter_any (op : Int) (w : World) (ht : Tl w) : Calls Tryd.prog 63 #[.int .i64 op] w fun e w' => e = .returned (.string ⟨⟨letL op⟩⟩) ∧ w' = w := by
  by_cases h1 : 1 ≤ op ∧ op ≤ 30
  · obtain ⟨m, rfl⟩ : ∃ m : Nat, op = m := ⟨op.toNat, by omega⟩
    have hc := ht.lets m (by omega)
    rw [letN_eq] at hc
    obtain ⟨h1a, h1b⟩ := h1
    have hm : (m : Int) < 31 := by omega
    have hm0 : (0 : Int) ≤ m := by omega
    go_enter Tryd.func63, Tryd.ntmps63
    go_wp2_with fail
    refine (isop_any _ _).mono ?_
    rintro e w1 ⟨rfl, rfl⟩
    rw [decide_eq_true ⟨h1a, h1b⟩]
    go_wp2_with fail
    go_ret
    exact ⟨rfl, rfl⟩
  · rw [letL_out h1]
    go_enter Tryd.func63, Tryd.ntmps63
    go_wp2_with fail
    refine (isop_any _ _).mono ?_
    rintro e w1 ⟨rfl, rfl⟩
    rw [decide_eq_false h1]
    go_wp2_with fail
    go_ret
    exact ⟨rfl, rfl⟩

theorem ne_empty {l : List UInt8} (h : ¬ l = []) : l.isEmpty = false := by cases l with | nil => exact absurd rfl h | cons => rfl

set_option maxRecDepth 20000 in
theorem wleaf_any (B b : Nat) (bs : List UInt8) (o n : Int) (ka : Option Addr) (kl kc : Nat) (w : World) (h : Wr B b (Lib.byteCells bs) w) (hB : B ≤ w.heap.size) (ho : I64 o) (hn : I64 n) (ht : Tabs B w) (htb : Tl w) (hlen : bs.length + (leafT o n).length ≤ 140737488355328) :
    Calls Tryd.prog 60 #[.pointer (some ⟨b, 0, none⟩), .agg #[.int .i64 o, .int .i64 n, .slice ka kl kc]] w (WrOut B b (bs ++ leafT o n) w) := by
  have H := hide h; have HN := hide hn; have HO := hide ho; have HT := hide ht; have HL := hide hlen; have HTB := hide htb
  clear h hn ht hlen ho htb
  have HA : Hid (Below w.heap.size w (w.alloc (.cells #[.int .i64 o, .int .i64 n, .slice ka kl kc] 29))) := later_alloc w _
  by_cases hl : letL o = []
  · have HE : Hid (leafT o n = Lib.itoa o) := if_pos hl
    rw [HE.out]
    have HL2 : Hid (bs.length + (Lib.itoa o).length ≤ 140737488355328) := by have := HL.out; rwa [HE.out] at this
    go_enter Tryd.func60, Tryd.ntmps60
    go_wp2_with fail
    refine (letter_any o _ (HTB.out.later HA.out)).mono ?_
    rintro e w1 ⟨rfl, rfl⟩
    rw [hl]
    go_wp2_with fail
    refine (wnumber_any B b bs o _ (H.out.later HA.out) (by rw [World.size_alloc]; omega) HO.out (HT.out.keep (HA.out.mono hB)) HL2.out).mono ?_
    rintro e w2 ⟨rfl, h2, hb2, hk2⟩
    have H2 := hide h2; have HB2 := hide hb2; have HK2 := hide hk2
    clear h2 hb2 hk2
    go_wp2_with fail
    go_end0
    exact ⟨rfl, H2.out, (HA.out.mono hB).trans HB2.out, (kept_later HA.out).trans HK2.out⟩
  · have HE : Hid (leafT o n = letL o ++ Lib.itoa n) := if_neg hl
    rw [HE.out]
    have HL2 : Hid (bs.length + (letL o).length + (Lib.itoa n).length ≤ 140737488355328) := by have := HL.out; rw [HE.out, List.length_append] at this; rw [Nat.add_assoc]; exact this
    have hne := ne_empty hl
    go_enter Tryd.func60, Tryd.ntmps60
    go_wp2_with fail
    refine (letter_any o _ (HTB.out.later HA.out)).mono ?_
    rintro e w1 ⟨rfl, rfl⟩
    go_wp2_with fail
    refine (wstring_any B b (Lib.byteCells bs) _ _ (H.out.later HA.out) (by rw [Lib.byteCells_length]; have := HL2.out; show bs.length + (letL o).length ≤ _; omega) (by rw [World.size_alloc]; omega)).mono ?_
    rintro e w2 ⟨rfl, h2, hb2, hk2⟩
    rw [str_cells, cells_app] at h2
    obtain ⟨c0, c1, c2⟩ := blk3 (kept_box hk2 H.out.blk)
    have hs2 : w.heap.size + 1 ≤ w2.heap.size := by have := hb2.size; rw [World.size_alloc] at this; exact this
    have H2 := hide h2; have HB2 : Hid (Below B w w2) := (HA.out.mono hB).trans hb2; have HK2 : Hid (Lib.OthersKept 5 (some b) w w2) := (kept_later HA.out).trans hk2
    clear h2 hb2 hk2
    go_wp2_with fail
    refine (wnumber_any B b _ n _ H2.out (by omega) HN.out (HT.out.keep HB2.out) (by rw [List.length_append]; exact HL2.out)).mono ?_
    rintro e w3 ⟨rfl, h3, hb3, hk3⟩
    have H3 := hide h3; have HB3 := hide hb3; have HK3 := hide hk3
    clear h3 hb3 hk3
    go_wp2_with fail
    go_end0
    exact ⟨rfl, by rw [← List.append_assoc]; exact H3.out, HB2.out.trans HB3.out, HK2.out.trans HK3.out⟩

set_option maxRecDepth 20000 in
theorem whead_any (B b : Nat) (bs : List UInt8) (o n : Int) (ka : Option Addr) (kl kc : Nat) (w : World) (h : Wr B b (Lib.byteCells bs) w) (hB : B ≤ w.heap.size) (ho : I64 o) (hn : I64 n) (ht : Tabs B w) (hlen : bs.length + (headT o n).length ≤ 140737488355328) :
    Calls Tryd.prog 62 #[.pointer (some ⟨b, 0, none⟩), .agg #[.int .i64 o, .int .i64 n, .slice ka kl kc]] w (WrOut B b (bs ++ headT o n) w) := by
  have H := hide h; have HN := hide hn; have HO := hide ho; have HT := hide ht; have HL := hide hlen
  clear h hn ht hlen ho
  have HA : Hid (Below w.heap.size w (w.alloc (.cells #[.int .i64 o, .int .i64 n, .slice ka kl kc] 29))) := later_alloc w _
  have HL1 : Hid (bs.length + (Lib.itoa o).length ≤ 140737488355328) := hide (by have := HL.out; unfold headT at this; rw [List.length_append] at this; omega)
  have hbw := H.out.blk
  go_enter Tryd.func62, Tryd.ntmps62
  go_wp2_with fail
  refine (wnumber_any B b bs o _ (H.out.later HA.out) (by rw [World.size_alloc]; omega) HO.out (HT.out.keep (HA.out.mono hB)) HL1.out).mono ?_
  rintro e w2 ⟨rfl, h2, hb2, hk2⟩
  have hbox2 := kept_box hk2 hbw
  obtain ⟨c0, c1, c2⟩ := blk3 hbox2
  have HX2 := hide hbox2
  clear hbox2
  have H2 := hide h2; have HB2 : Hid (Below B w w2) := (HA.out.mono hB).trans hb2; have HK2 : Hid (Lib.OthersKept 5 (some b) w w2) := (kept_later HA.out).trans hk2
  have hs2 : w.heap.size + 1 ≤ w2.heap.size := by have := hb2.size; rw [World.size_alloc] at this; exact this
  clear h2 hb2 hk2
  by_cases h26 : o = 26
  · subst h26
    have HE : Hid (headT 26 n = Lib.itoa 26 ++ 47 :: Lib.itoa n) := rfl
    have HL2 : Hid ((bs ++ Lib.itoa 26 ++ [47]).length + (Lib.itoa n).length ≤ 140737488355328) := hide (by
      have := HL.out
      rw [HE.out] at this
      simp only [List.length_append, List.length_cons, List.length_nil] at this ⊢
      omega)
    go_wp2_with fail
    refine (wbyte_any B b _ 47 w2 H2.out (by rw [Lib.byteCells_length]; have := HL2.out; simp only [List.length_append, List.length_cons, List.length_nil] at this ⊢; omega) (by omega)).mono ?_
    rintro e w3 ⟨rfl, h3, hb3, hk3⟩
    have H3 : Hid (Wr B b (Lib.byteCells (bs ++ Lib.itoa 26 ++ [47])) w3) := by rw [← cells_app]; exact h3
    obtain ⟨d0, d1, d2⟩ := blk3 (kept_old hk3 HX2.out (by omega))
    have HB3 : Hid (Below B w w3) := HB2.out.trans hb3; have HK3 : Hid (Lib.OthersKept 5 (some b) w w3) := HK2.out.trans hk3
    have hs3 := hb3.size
    clear h3 hb3 hk3
    go_wp2_with fail
    refine (wnumber_any B b _ n _ H3.out (by omega) HN.out (HT.out.keep HB3.out) HL2.out).mono ?_
    rintro e w4 ⟨rfl, h4, hb4, hk4⟩
    have H4 := hide h4; have HB4 := hide hb4; have HK4 := hide hk4
    clear h4 hb4 hk4
    go_wp2_with fail
    go_end0
    exact ⟨rfl, by rw [HE.out]; have := H4.out; simpa [List.append_assoc] using this, HB3.out.trans HB4.out, HK3.out.trans HK4.out⟩
  · have HE : Hid (headT o n = Lib.itoa o) := by unfold headT; rw [if_neg h26, List.append_nil]; exact rfl
    have hb26 := ne_beq h26
    go_wp2_with fail
    go_end0
    exact ⟨rfl, by rw [HE.out]; exact H2.out, HB2.out, HK2.out⟩

/-- What the writer does with a term. -/
theorem itoa_ne (n : Int) : Lib.itoa n ≠ [] := by
  unfold Lib.itoa Lib.decDigits
  repeat' split
  all_goals simp
set_option maxRecDepth 20000 in
set_option maxHeartbeats 1000000 in
theorem wterm_any (f : Nat) : ∀ (B b C : Nat) (bs : List UInt8) (t : Tr) (v : Value) (w : World), Wr B b (Lib.byteCells bs) w → B ≤ w.heap.size → Tabs B w → Tl w → 4 ≤ B → C ≤ B → TmAt w C f t v → bs.length + (txtT t).length ≤ 140737488355328 →
    Calls Tryd.prog 51 #[.pointer (some ⟨b, 0, none⟩), v] w (WrOut B b (bs ++ txtT t) w) := by
  induction f with
  | zero => intro B b C bs t v w _ _ _ _ _ _ h; exact h.elim
  | succ f ih =>
    rintro B b C bs t v w hw hB ht htb h4 hC ⟨a, cap, rfl, hop, hn, hrow⟩ hlen
    have IH := hide ih; clear ih
    have HR := hide hrow
    have hlm : t.kids.length ≤ maxLen := Nat.le_trans hrow.1 hrow.2.1
    clear hrow
    unfold maxLen at hlm
    have H := hide hw; have HT := hide ht; have HTB := hide htb; have HL := hide hlen; have HOP := hide hop; have HN := hide hn
    clear hw ht htb hlen hop hn
    have hbw := H.out.blk
    have HA : Hid (Below w.heap.size w (w.alloc (.cells #[.int .i64 t.op, .int .i64 t.n, .slice a t.kids.length cap] 29))) := later_alloc w _
    by_cases hk : t.kids = []
    · have hl0 : t.kids.length = 0 := by rw [hk]; rfl
      have HE := hide (txtT_leaf t hk)
      rw [HE.out]
      rw [hl0] at HA ⊢
      clear hk hl0 HR hlm
      go_enter Tryd.func51, Tryd.ntmps51
      go_wp2_with fail
      refine (wleaf_any B b bs t.op t.n _ _ _ _ (H.out.later HA.out) (by rw [World.size_alloc]; omega) HOP.out HN.out (HT.out.keep (HA.out.mono hB)) (HTB.out.later HA.out) (by have := HL.out; rwa [HE.out] at this)).mono ?_
      rintro e w2 ⟨rfl, h2, hb2, hk2⟩
      have H2 := hide h2; have HB2 := hide hb2; have HK2 := hide hk2
      clear h2 hb2 hk2
      go_wp2_with fail
      go_end0
      exact ⟨rfl, H2.out, (HA.out.mono hB).trans HB2.out, (kept_later HA.out).trans HK2.out⟩
    · have hl0 : ((t.kids.length : Int) == 0) = false := ne_beq (by have : t.kids.length ≠ 0 := fun e => hk (List.eq_nil_of_length_eq_zero e); omega)
      have HE := hide (txtT_node t hk)
      rw [HE.out]
      have HL1 : Hid (bs.length + 1 + (headT t.op t.n).length + (rowT t t.kids.length).length + 1 ≤ 140737488355328) := hide (by
        have := HL.out
        rw [HE.out] at this
        simp only [List.length_append, List.length_cons, List.length_nil] at this
        omega)
      clear HL
      go_enter Tryd.func51, Tryd.ntmps51
      go_wp2_with fail
      refine (wbyte_any B b _ 40 _ (H.out.later HA.out) (by rw [Lib.byteCells_length]; have := HL1.out; omega) (by rw [World.size_alloc]; omega)).mono ?_
      rintro e w1 ⟨rfl, h1, hb1, hk1⟩
      have H1 : Hid (Wr B b (Lib.byteCells (bs ++ [40])) w1) := by rw [← cells_app]; exact h1
      have hbox1 := kept_box hk1 hbw
      obtain ⟨c0, c1, c2⟩ := blk3 hbox1
      have HX1 := hide hbox1
      have HB1 : Hid (Below B w w1) := (HA.out.mono hB).trans hb1; have HK1 : Hid (Lib.OthersKept 5 (some b) w w1) := (kept_later HA.out).trans hk1
      have hs1 : w.heap.size + 1 ≤ w1.heap.size := by have := hb1.size; rw [World.size_alloc] at this; exact this
      clear h1 hb1 hk1 hbox1
      go_wp2_with fail
      refine (whead_any B b _ t.op t.n _ _ _ _ H1.out (by omega) HOP.out HN.out (HT.out.keep HB1.out) (by rw [List.length_append]; have := HL1.out; simp only [List.length_cons, List.length_nil]; omega)).mono ?_
      rintro e w2 ⟨rfl, h2, hb2, hk2⟩
      have hbox2 := kept_old hk2 HX1.out (by omega)
      clear c0 c1 c2
      obtain ⟨c0, c1, c2⟩ := blk3 hbox2
      have H2 := hide h2
      have HB2 : Hid (Below B w w2) := HB1.out.trans hb2; have HK2 : Hid (Lib.OthersKept 5 (some b) w w2) := HK1.out.trans hk2
      have hs2 := hb2.size
      clear h2 hb2 hk2 hbox2
      go_wp2_with fail
      have HW0 : Hid (Wr B b (Lib.byteCells (bs ++ 40 :: (headT t.op t.n ++ rowT t 0))) w2) := hide (by have := H2.out; simpa [rowT, List.append_assoc] using this)
      go_loopw [23] (fun i wr => ∃ k : Nat, k ≤ t.kids.length ∧ i = .int .i64 k ∧ Hid (Wr B b (Lib.byteCells (bs ++ 40 :: (headT t.op t.n ++ rowT t k))) wr) ∧ Hid (Below B w wr) ∧ Hid (Lib.OthersKept 5 (some b) w wr)) (fun i _ => t.kids.length - (intOf i).toNat)
      case atStart => exact ⟨0, by omega, rfl, HW0, HB2, HK2⟩
      case round =>
        obtain ⟨k, hk', rfl, HX, HBX, HKX⟩ := hrel
        have hbs : B ≤ wr.heap.size := Nat.le_trans hB HBX.out.size
        by_cases hlt : k < t.kids.length
        · obtain ⟨b2, off, ka, kc, rfl, hb2, f0, f1, f2, hft⟩ := HR.out.form hlt
          have e0 := (HBX.out.cell (p := ⟨b2, off + k * 3, none⟩) (show b2 < B by omega)).trans f0
          have e1 := (HBX.out.cell (p := ⟨b2, off + k * 3 + 1, none⟩) (show b2 < B by omega)).trans f1
          have e2 := (HBX.out.cell (p := ⟨b2, off + k * 3 + 2, none⟩) (show b2 < B by omega)).trans f2
          have HFT := hide hft
          have HS := hide (rowT_succ t k hlt)
          have HSL := hide (rowT_le t (k + 1))
          clear f0 f1 f2 hft
          obtain ⟨p, hp⟩ : ∃ p, p = t.kids[k] := ⟨_, rfl⟩
          rw [← hp] at e0 e1 e2 HFT HS
          clear hp
          have HP : Hid (bs.length + 1 + (headT t.op t.n).length + (rowT t k).length + 1 + (txtT p).length + 1 ≤ 140737488355328) := hide (by
            have h1 := HL1.out; have h2 := HSL.out
            rw [HS.out] at h2
            simp only [List.length_append, List.length_cons] at h2
            omega)
          have HLA : Hid (Below wr.heap.size wr (wr.alloc (.cells #[.int .i64 p.op, .int .i64 p.n, .slice ka p.kids.length kc] 29))) := later_alloc _ _
          have HTX : Hid (Tabs B wr) := HT.out.keep HBX.out
          have HBB : Hid (Tl wr) := HTB.out.keep HBX.out h4
          have HFX : Hid (TmAt wr C f p (.agg #[.int .i64 p.op, .int .i64 p.n, .slice ka p.kids.length kc])) := TmAt.below HFT.out HBX.out hC (Nat.le_refl _)
          go_wp2_with fail
          refine (wbyte_any B b _ 32 _ (HX.out.later HLA.out) (by
            have h1 := HP.out
            rw [Lib.byteCells_length]
            simp only [List.length_append, List.length_cons]
            omega) (by rw [World.size_alloc]; omega)).mono ?_
          rintro e w4 ⟨rfl, h4', hb4, hk4⟩
          obtain ⟨c0', c1', c2'⟩ := blk3 (kept_box hk4 HX.out.blk)
          have H4 : Hid (Wr B b (Lib.byteCells (bs ++ 40 :: (headT t.op t.n ++ rowT t k) ++ [32])) w4) := by rw [← cells_app]; exact h4'
          have HB4 : Hid (Below B wr w4) := (HLA.out.mono hbs).trans hb4
          have HK4 : Hid (Lib.OthersKept 5 (some b) wr w4) := (kept_later HLA.out).trans hk4
          have hs4 := hb4.size
          rw [World.size_alloc] at hs4
          clear h4' hb4 hk4
          go_wp2_with fail
          refine (IH.out B b C _ p _ w4 H4.out (by omega) (HTX.out.keep HB4.out) (HBB.out.keep HB4.out h4) h4 hC (TmAt.below HFX.out HB4.out hC (Nat.le_refl _)) (by
            have h1 := HP.out
            simp only [List.length_append, List.length_cons, List.length_nil]
            omega)).mono ?_
          rintro e w3 ⟨rfl, h3, hb3, hk3⟩
          have H3 := hide h3; have HB3 := hide hb3; have HK3 := hide hk3
          clear h3 hb3 hk3
          go_wp2_with fail
          go_roundw
          case rel =>
            refine ⟨k + 1, by omega, by go_num, ?_, (HBX.out.trans HB4.out).trans HB3.out, (HKX.out.trans HK4.out).trans HK3.out⟩
            show Wr B b (Lib.byteCells (bs ++ 40 :: (headT t.op t.n ++ rowT t (k + 1)))) w3
            rw [HS.out]
            have h9 := H3.out
            simp only [List.append_assoc, List.cons_append, List.nil_append] at h9 ⊢
            exact h9
          case measure => simp [intOf]; omega
        · have hke : k = t.kids.length := by omega
          subst hke
          go_wp2_with fail
          refine (wbyte_any B b _ 41 wr HX.out (by
            have h2 := HL1.out
            rw [Lib.byteCells_length]
            simp only [List.length_append, List.length_cons]
            omega) hbs).mono ?_
          rintro e w4 ⟨rfl, h4', hb4, hk4⟩
          have H4 : Hid (Wr B b (Lib.byteCells (bs ++ 40 :: (headT t.op t.n ++ rowT t t.kids.length) ++ [41])) w4) := by rw [← cells_app]; exact h4'
          have HB4 := hide hb4; have HK4 := hide hk4
          clear h4' hb4 hk4
          go_wp2_with fail
          go_end0
          exact ⟨rfl, by have := H4.out; simpa [List.append_assoc] using this, HBX.out.trans HB4.out, HKX.out.trans HK4.out⟩
#print axioms letter_any
#print axioms wterm_any
end Go.Proofs.YtpmaagafcpaajaaDoor
