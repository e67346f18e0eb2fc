/- read: a part as a term again. -/
import Derived.Test.YtjiecahopdaghabDoorNq
import Derived.Test.YtjiecahopdaghabDoorRc
namespace Go.Proofs.YtjiecahopdaghabDoor
open Go.RowKit

theorem cf67 (args : Array Value) (w : World) : (callFunc 58 args).run Tryd.prog w = .ok (.enter 58 args) w := cf_of Tryd.func58 (by kernel_rfl) (by kernel_rfl) args w
theorem cf44 (args : Array Value) (w : World) : (callFunc 36 args).run Tryd.prog w = .ok (.enter 36 args) w := cf_of Tryd.func36 (by kernel_rfl) (by kernel_rfl) args w

theorem fr_box3 (w : World) (b : Nat) (x y z : Value) : Fr (fun q => q = b) w (((w.setCell ⟨b, 0, none⟩ x).setCell ⟨b, 1, none⟩ y).setCell ⟨b, 2, none⟩ z) := ((fr_set w b 0 x).trans (fr_set _ b 1 y)).trans (fr_set _ b 2 z)

/-- The answer where no kid is read: r0 the answer's box. -/
theorem early_fin {w W1 Wd w2 w7 : World} {X : Nat → Prop} {B mb rq r0 : Nat} {A A2 : Nat → Nat} {s s2 : St} {n1 : Int} (hfr : Fr (MutR mb rq A s.size) w W1) (hwd : Wd.heap = W1.heap) (hos : Wd.os = W1.os ∧ Wd.tape = W1.tape ∧ Wd.output = W1.output)
    (h : Stp Wd (fun q => X q ∨ q = r0) B mb A s w2 A2 s2) (hf : Fr (fun q => q = r0) w2 w7) (hrd : W1.heap[rq]? = some (.cells #[pt mb, .int .i64 n1] 64 (0, 0))) (hX : X rq) (xlt : ∀ q, X q → q < w.heap.size) (h0 : w.heap.size ≤ r0) (nm : ¬ Mut mb A s.size rq) :
    Stq w X B mb rq A s w7 A2 s2 ∧ w7.heap[rq]? = some (.cells #[pt mb, .int .i64 n1] 64 (0, 0)) := by
  have hsz : Wd.heap.size = W1.heap.size := by rw [hwd]
  obtain ⟨_, hi⟩ := h.inv.poke (hf.mono (fun q e => Or.inr e))
  obtain ⟨_, hi2⟩ := hi.wide (Y := X) (Below.refl _ w7) (fun q hq => Or.inl (Or.inl hq))
  have h1 := hfr.size; have h2 := h.fr.size; have h3 := hf.size; have hrw := xlt rq hX
  refine ⟨⟨hi2, h.size, h.same, ?_, fun j a b => by have := h.new j a b; omega⟩, ?_⟩
  · refine ⟨hf.os.trans (h.fr.os.trans (hos.1.trans hfr.os)), hf.tape.trans (h.fr.tape.trans (hos.2.1.trans hfr.tape)), hf.output.trans (h.fr.output.trans (hos.2.2.trans hfr.output)), by omega, fun q hq hm => ?_⟩
    rw [hf.block q (by omega) (by omega), h.fr.block q (by omega) (fun e => hm (Or.inl e)), hwd]
    exact hfr.block q hq hm
  · rw [hf.block rq (by omega) (by omega), h.fr.block rq (by omega) nm, hwd]
    exact hrd
theorem fail_err (s : St) : (s.fail 5).err ≠ 0 := by
  unfold St.fail
  split
  · exact (by decide : (5 : Int) ≠ 0)
  · assumption

/-- What a box of two cells holds behind a store. -/
theorem rd_set {w : World} {rq : Nat} {x y z : Value} (h : w.heap[rq]? = some (.cells #[x, y] 64 (0, 0))) : (w.setCell ⟨rq, 1, none⟩ z).heap[rq]? = some (.cells #[x, z] 64 (0, 0)) := by
  rw [heap_setCell_same _ _ 1 _ _ z h]; rfl


/-- What is known of each operation of the region that looks. -/
def RlF (W1 : World) (X : Nat → Prop) (B mb : Nat) (A : Nat → Nat) (s : St) (r1 : Val × St) (rq pb : Nat) (outside : Int) (bn : Nat) (un : Int) : Nat → Value → World → Prop
  | 0 => fun v _ => v = pt rq
  | 1 => fun v _ => v = pt pb
  | 2 => fun v _ => v = .int .i64 outside
  | 3 => fun v w => ∃ A2 vq, v = pt vq ∧ Stp W1.drew X B mb A s w A2 r1.2 ∧ ValP w X mb A2 r1.2.size vq r1.1
  | 4 => fun v _ => v = .int .i64 outside
  | 5 => fun v _ => v = pt pb
  | 6 => fun v _ => v = pt pb
  | 7 => fun v _ => v = .pointer (some ⟨pb, 0, none⟩)
  | 8 => fun v _ => v = .int .i64 (bn : Nat)
  | 9 => fun v _ => v = .int .i64 un
  | 10 => fun v w => ∃ A2 vq, v = pt vq ∧ Stp W1.drew X B mb A s w A2 r1.2 ∧ ValP w X mb A2 r1.2.size vq r1.1
  | _ => fun _ _ => True
theorem RlF.keep (W1 : World) (X : Nat → Prop) (B mb : Nat) (A : Nat → Nat) (s : St) (r1 : Val × St) (rq pb : Nat) (outside : Int) (bn : Nat) (un : Int) {w : World} {C : World → Prop} (k : Nat) (v : Value) (w' : World) (h3 : k ≠ 3) (hl : ¬ k ∈ [10]) (h : RlF W1 X B mb A s r1 rq pb outside bn un k v w) (_ : C w') : RlF W1 X B mb A s r1 rq pb outside bn un k v w' := by
  unfold RlF at *
  split at h
  case h_4 => exact absurd rfl h3
  case h_11 => exact absurd (by simp) hl
  all_goals exact h
def RlR (W1 : World) (X : Nat → Prop) (B mb : Nat) (A : Nat → Nat) (s : St) (r1 : Val × St) (un : Int) (vs : Nat → Value) (w : World) : Prop := ∃ A2 vq, vs 10 = pt vq ∧ vs 11 = .int .i64 un ∧ Stp W1.drew X B mb A s w A2 r1.2 ∧ ValP w X mb A2 r1.2.size vq r1.1

/-- The kids are about to be read. -/
theorem RdS.start {w W1 wx W3 : World} {X : Nat → Prop} {B mb rq vq f cap : Nat} {A A2 : Nat → Nat} {s s2 : St} {n1 o n : Int} {v : Val} {cs : Array Value} (hf1 : Fr (MutR mb rq A s.size) w W1) (hH : Stp W1.drew (fun q => X q ∨ q = w.heap.size) B mb A s wx A2 s2) (hv : ValP wx (fun q => X q ∨ q = w.heap.size) mb A2 s2.size vq v)
    (hbl : Below wx.heap.size wx W3) (hs3 : W3.heap.size = wx.heap.size + 1) (hox : W3.heap[wx.heap.size]? = some (.cells #[.int .i64 o, .int .i64 n, .slice none 0 0] 26 (0, 0))) (hcs : cs.size = cap * 3)
    (hkey : wx.heap[w.heap.size]? = some (.cells #[.int .i64 0, .int .i64 0, .slice none 0 0] 26 (0, 0))) (hrd : W1.heap[rq]? = some (.cells #[pt mb, .int .i64 n1] 64 (0, 0))) (hX : X rq) (xlt : ∀ q, X q → q < w.heap.size) (nm : ¬ Mut mb A s.size rq) :
    RdS w X B mb rq A s ((W3.alloc (.cells cs 26)).setCell ⟨wx.heap.size, 2, none⟩ (.slice (some ⟨W3.heap.size, 0, none⟩) cap cap)) A2 s2 n1 w.heap.size wx.heap.size W3.heap.size f cap o n [] ∧
    ValP ((W3.alloc (.cells cs 26)).setCell ⟨wx.heap.size, 2, none⟩ (.slice (some ⟨W3.heap.size, 0, none⟩) cap cap)) (fun q => (X q ∨ q = w.heap.size) ∨ q = wx.heap.size ∨ q = W3.heap.size) mb A2 s2.size vq v := by
  have hsz1 : W1.drew.heap.size = W1.heap.size := rfl
  have h1 := hf1.size; have h2 := hH.fr.size; have h0 := size_of_block hkey; have hrq := xlt rq hX
  have hb4 : Below wx.heap.size wx ((W3.alloc (.cells cs 26)).setCell ⟨wx.heap.size, 2, none⟩ (.slice (some ⟨W3.heap.size, 0, none⟩) cap cap)) := (hbl.alloc (by omega) _).setCell (p := ⟨wx.heap.size, 2, none⟩) (Nat.le_refl _) _
  have hox4 : ((W3.alloc (.cells cs 26)).setCell ⟨wx.heap.size, 2, none⟩ (.slice (some ⟨W3.heap.size, 0, none⟩) cap cap)).heap[wx.heap.size]? = some (.cells #[.int .i64 o, .int .i64 n, .slice (some ⟨W3.heap.size, 0, none⟩) cap cap] 26 (0, 0)) := by
    rw [heap_setCell_same _ _ 2 _ _ _ ((Below.heap_alloc W3 _ _ (by omega)).trans hox)]; rfl
  have hkb4 : ((W3.alloc (.cells cs 26)).setCell ⟨wx.heap.size, 2, none⟩ (.slice (some ⟨W3.heap.size, 0, none⟩) cap cap)).heap[W3.heap.size]? = some (.cells cs 26 (0, 0)) := by
    rw [heap_setCell_other _ _ _ _ (show W3.heap.size ≠ wx.heap.size by omega)]; exact heap_alloc_new _ _
  have hrx : wx.heap[rq]? = some (.cells #[pt mb, .int .i64 n1] 64 (0, 0)) := (hH.fr.block rq (by omega) nm).trans hrd
  generalize ((W3.alloc (.cells cs 26)).setCell ⟨wx.heap.size, 2, none⟩ (.slice (some ⟨W3.heap.size, 0, none⟩) cap cap)) = W4 at *
  obtain ⟨k, hi⟩ := hH.inv.wide (Y := fun q => (X q ∨ q = w.heap.size) ∨ q = wx.heap.size ∨ q = W3.heap.size) hb4 (fun q hq => by
    rcases hq with h | rfl | rfl
    · exact Or.inl h
    · exact Or.inr ⟨Nat.le_refl _, size_of_block hox4⟩
    · exact Or.inr ⟨by omega, size_of_block hkb4⟩)
  refine ⟨⟨hi, hH.size, hH.same, ?_, fun j a b => by have := hH.new j a b; omega, (hb4.block _ h0).trans hkey, hox4, (hb4.block rq (by omega)).trans hrx, ⟨cs, hkb4, hcs, fun _ j h => absurd h (by simp)⟩, ⟨Nat.le_refl _, by omega, by omega, by omega, by omega, by omega⟩, xlt, hX⟩, hv.keep k⟩
  refine ⟨hb4.os.trans (hH.fr.os.trans hf1.os), hb4.tape.trans (hH.fr.tape.trans hf1.tape), hb4.output.trans (hH.fr.output.trans hf1.output), by have := hb4.size; omega, fun q hq hm => ?_⟩
  rw [hb4.block q (by omega), hH.fr.block q (by omega) (fun e => hm (Or.inl e))]
  exact hf1.block q hq hm


/-- What is known of each operation of the region that reads a kid. -/
def RkF (w0 : World) (X : Nat → Prop) (B mb rq : Nat) (A : Nat → Nat) (s : St) (f : Nat) (r5 : Red) (vq ob kb vl vb vc pb k : Nat) (un deep d1 : Int) : Nat → Value → World → Prop
  | 0 => fun v _ => v = .pointer (some ⟨ob, 2, none⟩)
  | 1 => fun v _ => v = .slice (some ⟨kb, 0, none⟩) vl vl
  | 2 => fun v _ => v = .int .i64 (k : Nat)
  | 3 => fun v _ => v = pt rq
  | 4 => fun v _ => v = pt vq
  | 5 => fun v _ => v = pt vq
  | 6 => fun v _ => v = .pointer (some ⟨vq, 2, none⟩)
  | 7 => fun v _ => v = .slice (some ⟨vb, 0, none⟩) vl vc
  | 8 => fun v _ => v = .int .i64 (k : Nat)
  | 9 => fun v _ => v = .pointer (some ⟨vb, k, none⟩)
  | 10 => fun v _ => v = pt pb
  | 11 => fun v _ => v = .int .i64 un
  | 12 => fun v _ => v = .int .i64 deep
  | 13 => fun v _ => v = .int .i64 d1
  | 14 => fun v w => ∃ A5 p0 p1 pa pl pc, v = .agg #[.int .i64 p0, .int .i64 p1, .slice pa pl pc] ∧ Stq w0.drew X B mb rq A s w A5 r5.s ∧ w.heap[rq]? = some (.cells #[pt mb, .int .i64 r5.nodes] 64 (0, 0)) ∧ (r5.s.err = 0 → TmD w (Own w0.drew w mb A5 r5.s.size) f r5.t (.agg #[.int .i64 p0, .int .i64 p1, .slice pa pl pc]))
  | 15 => fun v _ => v = .pointer (some ⟨kb, k * 3, none⟩)
  | _ => fun _ _ => True
theorem RkF.keep (w0 : World) (X : Nat → Prop) (B mb rq : Nat) (A : Nat → Nat) (s : St) (f : Nat) (r5 : Red) (vq ob kb vl vb vc pb k : Nat) (un deep d1 : Int) {w : World} {C : World → Prop} (i : Nat) (v : Value) (w' : World) (h3 : i ≠ 14) (_ : ¬ i ∈ ([] : List Nat)) (h : RkF w0 X B mb rq A s f r5 vq ob kb vl vb vc pb k un deep d1 i v w) (_ : C w') : RkF w0 X B mb rq A s f r5 vq ob kb vl vb vc pb k un deep d1 i v w' := by
  unfold RkF at *
  split at h
  case h_15 => exact absurd rfl h3
  all_goals exact h
def RkR (w0 : World) (X : Nat → Prop) (B mb rq : Nat) (A : Nat → Nat) (s : St) (r5 : Red) (r0 ob kb f L : Nat) (o n : Int) (ts : List Tr) (vq : Nat) (v : Val) (_ : Nat → Value) (w : World) : Prop := ∃ A5, RdS w0 X B mb rq A s w A5 r5.s r5.nodes r0 ob kb f L o n ts ∧ ValP w (fun q => (X q ∨ q = r0) ∨ q = ob ∨ q = kb) mb A5 r5.s.size vq v
theorem kids_nil {rd : Nat → Int → Int → Int → St → Option Red} {un d1 nodes : Int} {s : St} : ∀ (l : List Nat), s.err ≠ 0 ∨ l = [] → mKids rd un d1 l nodes s = some ([], nodes, s)
  | [], _ => rfl
  | p :: l, h => by
    rcases h with h | h
    · rw [mKids, if_neg h]
    · simp at h

attribute [local go_sem] put
attribute [local go_sem ↓] Go.wp_at_zero Go.wp_at_succ
/-- What read answers, at one bound. -/
structure RdC (g f : Nat) : Prop where
  out : ∀ {w : World} {X : Nat → Prop} {B mb : Nat} {A : Nat → Nat} {s : St} (_ : Inv w X B mb A s) {p rq : Nat} {nodes outside deep : Int} {r : Red} (_ : p < s.size) (_ : X rq) (_ : w.heap[rq]? = some (.cells #[pt mb, .int .i64 nodes] 64 (0, 0)))
    (_ : mRead g f p outside deep nodes s = some r), Calls Tryd.prog 36 #[pt rq, pt (A p), .int .i64 outside, .int .i64 deep] w (ReadOut w X B mb rq A s f r)

set_option maxRecDepth 20000 in
set_option maxHeartbeats 4000000 in
theorem read_step (g f : Nat) (ih : RdC g f) : RdC g (f + 1) := by
    refine ⟨?_⟩
    intro w X B mb A s i p rq nodes outside deep r hp hX hrd he
    have IH := hide ih
    clear ih
    obtain ⟨n1, hn1⟩ : ∃ n1, n1 = w64 (nodes + 1) := ⟨_, rfl⟩
    have hw1 : IntKind.i64.wrap (nodes + 1) = n1 := hn1.symm
    unfold mRead at he
    simp only [← hn1] at he
    clear hn1
    have hrl := (i.xs rq hX).2.1
    have r0 := (old_cell ((cell_of_block hrd 0).trans rfl) hrl).1
    have r1 := (old_cell ((cell_of_block hrd 1).trans rfl) hrl).1
    have z1 : ∀ o, (w.alloc o).frozen? ⟨rq, 1, none⟩ = false := fun o => frozen_of_block ((Below.heap_alloc w o rq hrl).trans hrd) 1
    have nm : Hid (¬ Mut mb A s.size rq) := hide (by
      have hx := i.xs rq hX
      rintro (e | ⟨j, hj, e⟩)
      · exact hx.2.2.1 e
      · exact hx.2.2.2 j hj e)
    have HXL : Hid (∀ q, X q → q < w.heap.size) := hide (fun q hq => (i.xs q hq).2.1)
    have HRL := hide hrl
    clear hrl
    have HI := hide i; have HX := hide hX; have HRD := hide hrd; have HE := hide he
    clear i hX hrd he
    go_enter Tryd.func36, Tryd.ntmps36
    go_upto_region 2 with fail
    obtain ⟨W0, hW0⟩ : ∃ W0, W0 = w.alloc (.cells #[.int .i64 0, .int .i64 0, .slice none 0 0] 26) := ⟨_, rfl⟩
    have hb0 : W0.heap[w.heap.size]? = some (.cells #[.int .i64 0, .int .i64 0, .slice none 0 0] 26 (0, 0)) := by rw [hW0]; exact heap_alloc_new _ _
    obtain ⟨ka, i1⟩ := HI.out.wide (w' := W0) (Y := fun q => X q ∨ q = w.heap.size) (by rw [hW0]; exact later_alloc _ _) (fun q hq => by
      rcases hq with h | rfl
      · exact Or.inl h
      · exact Or.inr ⟨Nat.le_refl _, size_of_block hb0⟩)
    have hf0 : Fr (MutR mb rq A s.size) w W0 := Fr.of_below (by rw [hW0]; exact later_alloc _ _)
    have hrd0 : W0.heap[rq]? = some (.cells #[pt mb, .int .i64 nodes] 64 (0, 0)) := by rw [hW0, Below.heap_alloc _ _ _ HRL.out]; exact HRD.out
    rw [← hW0]
    clear hW0 r0 r1 z1
    obtain ⟨W1, hW1⟩ : ∃ W1, W1 = W0.setCell ⟨rq, 1, none⟩ (.int .i64 n1) := ⟨_, rfl⟩
    obtain ⟨kb, i2⟩ := i1.poke (w' := W1) (by rw [hW1]; exact (fr_set W0 rq 1 _).mono (fun q e => Or.inl (by rw [e]; exact HX.out)))
    have hb1 : W1.heap[w.heap.size]? = some (.cells #[.int .i64 0, .int .i64 0, .slice none 0 0] 26 (0, 0)) := by rw [hW1, heap_setCell_other _ _ _ _ (show w.heap.size ≠ rq by have := HRL.out; omega)]; exact hb0
    have hrd1 : W1.heap[rq]? = some (.cells #[pt mb, .int .i64 n1] 64 (0, 0)) := by rw [hW1]; exact rd_set hrd0
    have HF1 : Hid (Fr (MutR mb rq A s.size) w W1) := hide (hf0.trans (by rw [hW1]; exact (fr_set W0 rq 1 _).mono (fun q e => Or.inr e)))
    have HI1 := hide i2; have HB1 := hide hb1; have HRD1 := hide hrd1
    have HX1 : Hid ((fun q => X q ∨ q = w.heap.size) rq) := hide (Or.inl HX.out)
    rw [← hW1]
    clear hW1 hf0 hrd0 hb0 i1 i2 ka kb hw1
    have nm0 : Hid (¬ Mut mb A s.size w.heap.size) := hide (by
      have hx := HI1.out.xs w.heap.size (Or.inr rfl)
      rintro (e | ⟨j, hj, e⟩)
      · exact hx.2.2.1 e
      · exact hx.2.2.2 j hj e)
    have d0 : W1.cell? ⟨rq, 0, none⟩ = some (pt mb) := (cell_of_block hrd1 0).trans rfl
    have d1 : W1.cell? ⟨rq, 1, none⟩ = some (.int .i64 n1) := (cell_of_block hrd1 1).trans rfl
    clear hrd1 hb1
    by_cases hA : 3000 < n1 ∨ 120 < deep
    · have he := HE.out
      rw [if_pos hA] at he
      have he' := Option.some.inj he
      subst he'
      have HFL := hide (fail_any HI1.out 5 (by decide))
      clear he HE
      have key : ∀ w2, Stp W1 (fun q => X q ∨ q = w.heap.size) B mb A s w2 A (s.fail 5) → w2.heap[w.heap.size]? = some (.cells #[.int .i64 0, .int .i64 0, .slice none 0 0] 26 (0, 0)) := fun w2 h => (h.fr.block _ (size_of_block HB1.out) nm0.out).trans HB1.out
      have HKEY := hide key
      clear key
      have fin : ∀ w2, Stp W1 (fun q => X q ∨ q = w.heap.size) B mb A s w2 A (s.fail 5) → ReadOut w X B mb rq A s (f + 1) ⟨noTm, n1, s.fail 5⟩ (.returned (.agg #[.int .i64 0, .int .i64 0, .slice none 0 0])) (((w2.setCell ⟨w.heap.size, 0, none⟩ (.int .i64 0)).setCell ⟨w.heap.size, 1, none⟩ (.int .i64 0)).setCell ⟨w.heap.size, 2, none⟩ (.slice none 0 0)) := fun w2 h => by
        obtain ⟨g1, g2⟩ := early_fin HF1.out rfl ⟨rfl, rfl, rfl⟩ h (fr_box3 w2 w.heap.size (.int .i64 0) (.int .i64 0) (.slice none 0 0)) HRD1.out HX.out HXL.out (Nat.le_refl _) nm.out
        exact ⟨A, _, _, _, _, _, rfl, g1, g2, fun e => absurd e (fail_err s)⟩
      have HFIN := hide fin
      clear fin
      by_cases hA1 : 3000 < n1
      · clear hA
        go_wp2_with fail
        refine HFL.out.mono ?_
        rintro e w2 ⟨rfl, h2⟩
        obtain ⟨y0, y1, y2⟩ := blk3 (HKEY.out w2 h2)
        obtain ⟨u0, u1, u2⟩ := frz3 (HKEY.out w2 h2)
        have H2 := hide h2
        clear h2
        go_wp2_with fail
        exact bodyPost_ret (v := .agg #[.int .i64 0, .int .i64 0, .slice none 0 0]) (by simp [results, Tryd.results36, go_sem, y0, y1, y2]) rfl (HFIN.out w2 H2.out)
      · have hA2 : 120 < deep := by omega
        clear hA
        go_wp2_with fail
        refine HFL.out.mono ?_
        rintro e w2 ⟨rfl, h2⟩
        obtain ⟨y0, y1, y2⟩ := blk3 (HKEY.out w2 h2)
        obtain ⟨u0, u1, u2⟩ := frz3 (HKEY.out w2 h2)
        have H2 := hide h2
        clear h2
        go_wp2_with fail
        exact bodyPost_ret (v := .agg #[.int .i64 0, .int .i64 0, .slice none 0 0]) (by simp [results, Tryd.results36, go_sem, y0, y1, y2]) rfl (HFIN.out w2 H2.out)
    · have he := HE.out
      rw [if_neg hA] at he
      clear HE
      obtain ⟨th, hth, he⟩ := Option.bind_eq_some_iff.1 he
      obtain ⟨r1, hr1, he⟩ := Option.bind_eq_some_iff.1 he
      obtain ⟨un, hun⟩ : ∃ un, un = w64 (outside + (th.binders : Int)) := ⟨_, rfl⟩
      have hwu : IntKind.i64.wrap (outside + (th.binders : Int)) = un := hun.symm
      simp only [← hun] at he
      clear hun
      have hA1 : n1 ≤ 3000 := by omega
      have hA2 : deep ≤ 120 := by omega
      clear hA
      have HDI : Hid (Stp W1 (fun q => X q ∨ q = w.heap.size) B mb A s W1.drew A s) := hide HI1.out.dr
      have HLK := hide (look_any (exc_all g) HDI.out.inv hp HX1.out HRD1.out hr1)
      obtain ⟨th', hth', hpt⟩ := HI1.out.part p hp
      rw [hth] at hth'
      have e := Option.some.inj hth'
      subst e
      obtain ⟨y1, y2, y3, hblk⟩ := part_shape hpt
      have bp : W1.cell? ⟨A p, 0, none⟩ = some (.int .i64 (th.binders : Nat)) := (cell4 hblk).1
      have HBK := hide ((look_bk hr1).bk p th hp hth)
      have hps := (look_bk hr1).size
      have HE := hide he
      clear hpt hblk he hr1 hth'
      go_wp2_with fail
      refine wp_region_call (by kernel_rfl) (by kernel_rfl) 3 11 (by kernel_rfl) (by decide) (by kernel_rfl) [10] (by kernel_rfl) (fun vs => { tmps := #[pt rq, pt (A p), Value.int IntKind.i64 outside, Value.int IntKind.i64 deep, undef, undef, undef, undef, Value.pointer (some ⟨w.heap.size, 0, none⟩), vs 10, vs 11, undef, undef, pt rq, Value.pointer (some ⟨rq, 0, none⟩), Value.pointer (some ⟨rq, 1, none⟩), Value.int IntKind.i64 nodes, Value.int IntKind.i64 n1, Value.pointer (some ⟨rq, 0, none⟩), Value.pointer (some ⟨rq, 1, none⟩), pt rq, Value.pointer (some ⟨rq, 0, none⟩), Value.pointer (some ⟨rq, 1, none⟩), Value.int IntKind.i64 n1, Value.bool (decide (3000 < n1)), Value.bool (decide (3000 < n1)), Value.int IntKind.i64 deep, Value.bool (decide (120 < deep)), Value.bool (decide (3000 < n1) || decide (120 < deep)), undef, undef, undef, undef, undef, undef, vs 0, vs 1, vs 2, vs 3, vs 4, vs 5, vs 6, vs 7, vs 8, vs 9, undef, undef, undef, undef, undef, undef, undef, undef, undef, undef, undef, undef, undef, undef, undef, undef, undef, undef, undef, undef, undef, undef, undef, undef, undef, undef, undef, undef, undef, undef, undef, undef, undef, undef, undef, undef, undef, undef, undef, undef, undef, undef, undef, undef, undef, undef, undef, undef, undef, undef, undef, undef, undef, undef, undef, undef, undef, undef, undef, undef, undef, undef, undef, undef, undef, undef, undef, undef, undef, undef, undef, undef], defers := [] }) (fun i => [undef, undef, undef, undef, undef, undef, undef, undef, undef, undef, undef, undef].getD i undef) (RlF W1 (fun q => X q ∨ q = w.heap.size) B mb A s r1 rq (A p) outside th.binders un) (fun w' => w'.cell? ⟨A p, 0, none⟩ = some (.int .i64 (th.binders : Nat))) (RlF.keep W1 (fun q => X q ∨ q = w.heap.size) B mb A s r1 rq (A p) outside th.binders un) (RlR W1 (fun q => X q ∨ q = w.heap.size) B mb A s r1 un) ?_ ?_
      · refine ⟨CallStep.look (by decide) (by decide) ?_, CallStep.look (by decide) (by decide) ?_, CallStep.look (by decide) (by decide) ?_, CallStep.call (by decide) ?_, CallStep.look (by decide) (by decide) ?_, CallStep.look (by decide) (by decide) ?_, CallStep.look (by decide) (by decide) ?_, CallStep.look (by decide) (by decide) ?_, CallStep.look (by decide) (by decide) ?_, CallStep.look (by decide) (by decide) ?_, CallStep.look (by decide) (by decide) ?_, CallStep.last (by decide) ?_, trivial⟩
        · intro vs wx K hw hd hK
          clear hw hd
          go_simp
          exact hK _ rfl
        · intro vs wx K hw hd hK
          clear hw hd
          go_simp
          exact hK _ rfl
        · intro vs wx K hw hd hK
          clear hw hd
          go_simp
          exact hK _ rfl
        · intro vs K hd hK
          obtain ⟨vs, rfl⟩ := put_of (show vs 0 = _ from hd ⟨0, .data⟩ (by simp) rfl)
          obtain ⟨vs, rfl⟩ := put_of (show vs 1 = _ from hd ⟨1, .data⟩ (by simp) rfl)
          obtain ⟨vs, rfl⟩ := put_of (show vs 2 = _ from hd ⟨2, .data⟩ (by simp) rfl)
          clear hd
          go_simp
          refine HLK.out.mono ?_
          rintro e w2 ⟨A2, vq, rfl, h2, hv2⟩
          have bp2 : w2.cell? ⟨A p, 0, none⟩ = some (.int .i64 (th.binders : Nat)) := by
            obtain ⟨th2, g1, g2⟩ := HBK.out
            obtain ⟨th3, g3, g4⟩ := h2.inv.part p (by omega)
            rw [g1] at g3
            have e := Option.some.inj g3
            subst e
            obtain ⟨z1, z2, z3, hz⟩ := part_shape g4
            rw [h2.same p hp, g2] at hz
            exact (cell4 hz).1
          exact hK _ _ bp2 ⟨A2, vq, rfl, h2, hv2⟩
        · intro vs wx K hw hd hK
          clear hw hd
          go_simp
          exact hK _ rfl
        · intro vs wx K hw hd hK
          clear hw hd
          go_simp
          exact hK _ rfl
        · intro vs wx K hw hd hK
          obtain ⟨vs, rfl⟩ := put_of (show vs 5 = _ from hd ⟨5, .data⟩ (by simp) rfl)
          clear hw hd
          go_simp
          exact hK _ rfl
        · intro vs wx K hw hd hK
          obtain ⟨vs, rfl⟩ := put_of (show vs 6 = _ from hd ⟨6, .data⟩ (by simp) rfl)
          clear hw hd
          go_simp
          exact hK _ rfl
        · intro vs wx K hw hd hK
          obtain ⟨vs, rfl⟩ := put_of (show vs 7 = _ from hd ⟨7, .data⟩ (by simp) rfl)
          have cb : wx.cell? ⟨A p, 0, none⟩ = some (.int .i64 (th.binders : Nat)) := by rcases hw with rfl | h; exact bp; exact h
          clear hw hd
          go_simp
          exact hK _ rfl
        · intro vs wx K hw hd hK
          obtain ⟨vs, rfl⟩ := put_of (show vs 4 = _ from hd ⟨4, .data⟩ (by simp) rfl)
          obtain ⟨vs, rfl⟩ := put_of (show vs 8 = _ from hd ⟨8, .data⟩ (by simp) rfl)
          clear hw hd
          go_simp
          exact hK _ rfl
        · intro vs wx K hw hd hK
          obtain ⟨A2, vq, e3, h2, hv2⟩ := hd ⟨3, .data⟩ (by simp) rfl
          obtain ⟨vs, rfl⟩ := put_of (show vs 3 = _ from e3)
          clear e3
          have H2 := hide h2; have HV2 := hide hv2
          clear h2 hv2
          clear hw hd
          go_simp
          exact hK _ ⟨A2, vq, rfl, H2.out, HV2.out⟩
        · intro vs wx K hC hF hK
          obtain ⟨A2, vq, e10, h2, hv2⟩ := hF 10 (by decide)
          obtain ⟨vs, rfl⟩ := put_of (show vs 9 = _ from hF 9 (by decide))
          obtain ⟨vs, rfl⟩ := put_of (show vs 10 = _ from (by simpa [put] using e10))
          clear e10 hC hF
          have H2 := hide h2; have HV2 := hide hv2
          clear h2 hv2
          go_simp
          exact hK (put (put (put vs 10 (pt vq)) 9 (.int .i64 un)) 11 (.int .i64 un)) _ ⟨A2, vq, rfl, rfl, H2.out, HV2.out⟩
      · intro vs wx hR
        obtain ⟨A2, vq, e10, e11, h2, hv2⟩ := hR
        obtain ⟨vs, rfl⟩ := put_of e10
        obtain ⟨vs, rfl⟩ := put_of (show vs 11 = _ from (by simpa [put] using e11))
        clear e10 e11
        have H2 := hide h2; have HV2 := hide hv2
        clear h2 hv2
        simp only [put, Nat.reduceEqDiff, reduceIte]
        generalize vs 0 = q0; generalize vs 1 = q1; generalize vs 2 = q2; generalize vs 3 = q3; generalize vs 4 = q4; generalize vs 5 = q5; generalize vs 6 = q6; generalize vs 7 = q7; generalize vs 8 = q8; generalize vs 9 = q9
        clear vs
        have HKEY : Hid (wx.heap[w.heap.size]? = some (.cells #[.int .i64 0, .int .i64 0, .slice none 0 0] 26 (0, 0))) := hide ((H2.out.fr.block _ (size_of_block HB1.out) nm0.out).trans HB1.out)
        obtain ⟨ho, hn, hm, va, vc, hvb, hvr⟩ := HV2.out
        obtain ⟨c0, c1, c2⟩ := blk3 hvb
        have hlm : r1.1.parts.length ≤ 100000000 := Nat.le_trans hvr.1 hvr.2.1
        have HO := hide ho; have HN := hide hn; have HVB := hide hvb
        clear ho hn hm d0 d1 bp
        have he := HE.out
        by_cases hop : r1.1.op = 1
        · rw [if_pos hop] at he
          have he' := Option.some.inj he
          subst he'
          have hob : (r1.1.op == 1) = true := beq_iff_eq.2 hop
          obtain ⟨u1, hu1⟩ : ∃ u1, u1 = w64 (un - 1) := ⟨_, rfl⟩
          have hwu1 : IntKind.i64.wrap (un - 1) = u1 := hu1.symm
          obtain ⟨u2, hu2⟩ : ∃ u2, u2 = w64 (u1 - r1.1.n) := ⟨_, rfl⟩
          have hwu2 : IntKind.i64.wrap (u1 - r1.1.n) = u2 := hu2.symm
          have HU2 : Hid (I64 u2) := hide (by rw [hu2]; exact w64_i64 _)
          have HUU : Hid (w64 (w64 (un - 1) - r1.1.n) = u2) := hide (by rw [← hu1, hu2])
          clear he HE hop hu1 hu2 hvb hvr
          obtain ⟨y0, y1, y2⟩ := blk3 HKEY.out
          obtain ⟨f0, f1, f2⟩ := frz3 HKEY.out
          go_wp2_with fail
          refine bodyPost_ret (v := .agg #[.int .i64 1, .int .i64 u2, .slice none 0 0]) (by simp [results, Tryd.results36, go_sem, y0, y1, y2]) rfl ?_
          obtain ⟨g1, g2⟩ := early_fin (Wd := W1.drew) (W1 := W1) HF1.out rfl ⟨rfl, rfl, rfl⟩ H2.out (fr_box3 wx w.heap.size (.int .i64 1) (.int .i64 u2) (.slice none 0 0)) HRD1.out HX.out HXL.out (Nat.le_refl _) nm.out
          exact ⟨A2, _, _, _, _, _, rfl, g1, g2, fun _ => by show TmD _ _ (f + 1) ⟨1, w64 (w64 (un - 1) - r1.1.n), []⟩ _; rw [HUU.out]; exact tmd_leaf f i64_one HU2.out⟩
        · rw [if_neg hop] at he
          have hob : (r1.1.op == 1) = false := ne_beq hop
          have hvl := size_of_block hvb
          have cc0 := (old_cell c0 hvl).1; have cc1 := (old_cell c1 hvl).1; have cc2 := (old_cell c2 hvl).1
          have HE2 := hide he
          clear he HE hop hvb hvl
          by_cases hpn : r1.1.parts = []
          · have hl0 : (((r1.1.parts.length : Nat) : Int) == 0) = true := by rw [hpn]; rfl
            have HPN := hide hpn
            clear hpn hvr
            obtain ⟨y0, y1, y2⟩ := blk3 HKEY.out
            obtain ⟨f0, f1, f2⟩ := frz3 HKEY.out
            have hyl := size_of_block HKEY.out
            have yy0 := (old_cell y0 hyl).1; have yy1 := (old_cell y1 hyl).1; have yy2 := (old_cell y2 hyl).1
            go_upto_region 8 with fail
            go_region
            have hbl : Below wx.heap.size wx (wx.alloc (.cells #[.int .i64 r1.1.op, .int .i64 r1.1.n, .slice none 0 0] 26)).drew := (later_alloc wx _).drew
            have hox : (wx.alloc (.cells #[.int .i64 r1.1.op, .int .i64 r1.1.n, .slice none 0 0] 26)).drew.heap[wx.heap.size]? = some (.cells #[.int .i64 r1.1.op, .int .i64 r1.1.n, .slice none 0 0] 26 (0, 0)) := heap_alloc_new wx _
            obtain ⟨W3, hW3⟩ : ∃ W3, W3 = (wx.alloc (.cells #[.int .i64 r1.1.op, .int .i64 r1.1.n, .slice none 0 0] 26)).drew := ⟨_, rfl⟩
            rw [← hW3] at hbl hox ⊢
            clear hW3 y0 y1 y2 yy0 yy1 yy2 f0 f1 f2 cc0 cc1 cc2
            have key3 := (hbl.block _ hyl).trans HKEY.out
            obtain ⟨y0, y1, y2⟩ := blk3 key3
            obtain ⟨f0, f1, f2⟩ := frz3 key3
            obtain ⟨x0, x1, x2⟩ := blk3 hox
            have cc2 : W3.cell? ⟨vq, 2, none⟩ = some (.slice va r1.1.parts.length vc) := (hbl.cell (p := ⟨vq, 2, none⟩) (size_of_block HVB.out)).trans c2
            have HBL := hide hbl
            clear key3 hbl hox hyl c0 c1 c2
            go_wp2_with fail
            refine bodyPost_ret (v := .agg #[.int .i64 r1.1.op, .int .i64 r1.1.n, .slice none 0 0]) (by simp [results, Tryd.results36, go_sem, y0, y1, y2]) rfl ?_
            have he3 := HE2.out
            rw [HPN.out] at he3
            simp only [mKids, Option.map_some] at he3
            have he4 := Option.some.inj he3
            subst he4
            obtain ⟨g1, g2⟩ := early_fin (Wd := W1.drew) (W1 := W1) HF1.out rfl ⟨rfl, rfl, rfl⟩ H2.out ((Fr.of_below HBL.out).trans (fr_box3 W3 w.heap.size (.int .i64 r1.1.op) (.int .i64 r1.1.n) (.slice none 0 0))) HRD1.out HX.out HXL.out (Nat.le_refl _) nm.out
            exact ⟨A2, _, _, _, _, _, rfl, g1, g2, fun _ => tmd_leaf f HO.out HN.out⟩
          · have hl0 : (((r1.1.parts.length : Nat) : Int) == 0) = false := ne_beq (by have : r1.1.parts.length ≠ 0 := fun e => hpn (List.eq_nil_of_length_eq_zero e); omega)
            have HPN := hide hpn
            obtain ⟨vb, rfl, hvb1, hvbm, hvbc⟩ := hvr.2.2.2 hpn
            have HVR := hide hvr
            clear hpn hvr hvbm hvbc
            go_upto_region 8 with fail
            go_region
            have hbl : Below wx.heap.size wx (wx.alloc (.cells #[.int .i64 r1.1.op, .int .i64 r1.1.n, .slice none 0 0] 26)).drew := (later_alloc wx _).drew
            have hox : (wx.alloc (.cells #[.int .i64 r1.1.op, .int .i64 r1.1.n, .slice none 0 0] 26)).drew.heap[wx.heap.size]? = some (.cells #[.int .i64 r1.1.op, .int .i64 r1.1.n, .slice none 0 0] 26 (0, 0)) := heap_alloc_new wx _
            have hs3 : (wx.alloc (.cells #[.int .i64 r1.1.op, .int .i64 r1.1.n, .slice none 0 0] 26)).drew.heap.size = wx.heap.size + 1 := by rw [size_drew, World.size_alloc]
            obtain ⟨W3, hW3⟩ : ∃ W3, W3 = (wx.alloc (.cells #[.int .i64 r1.1.op, .int .i64 r1.1.n, .slice none 0 0] 26)).drew := ⟨_, rfl⟩
            rw [← hW3] at hbl hox hs3 ⊢
            clear hW3 cc0 cc1 cc2
            obtain ⟨cs, hcs, hmk⟩ := make29 W3 r1.1.parts.length (by omega)
            have hol := size_of_block hox
            have x2 : ∀ o, (W3.alloc o).cell? ⟨wx.heap.size, 2, none⟩ = some (.slice none 0 0) := fun o => (old_cell (blk3 hox).2.2 hol).1 o
            have z2 : ∀ o, (W3.alloc o).frozen? ⟨wx.heap.size, 2, none⟩ = false := fun o => frozen_of_block ((Below.heap_alloc W3 o _ hol).trans hox) 2
            have cc2 : W3.cell? ⟨vq, 2, none⟩ = some (.slice (some ⟨vb, 0, none⟩) r1.1.parts.length vc) := (hbl.cell (p := ⟨vq, 2, none⟩) (size_of_block HVB.out)).trans c2
            have HBL := hide hbl; have HOX := hide hox; have HS3 := hide hs3; have HCS := hide hcs
            clear hbl hox hs3 hol hcs c0 c1 c2 hvb1
            go_upto_region 12 with fail
            obtain ⟨tot, htot, hrr⟩ := Option.map_eq_some_iff.1 HE2.out
            subst hrr
            have HTOT := hide htot
            obtain ⟨g1, g2⟩ := RdS.start (f := f) (n := r1.1.n) (o := r1.1.op) HF1.out H2.out HV2.out HBL.out HS3.out HOX.out HCS.out HKEY.out HRD1.out HX.out HXL.out nm.out
            have HR0 := hide g1; have HW0 := hide g2
            obtain ⟨W4, hW4⟩ : ∃ W4, W4 = (W3.alloc (.cells cs 26)).setCell ⟨wx.heap.size, 2, none⟩ (.slice (some ⟨W3.heap.size, 0, none⟩) r1.1.parts.length r1.1.parts.length) := ⟨_, rfl⟩
            rw [← hW4] at HR0 HW0 ⊢
            clear hW4 g1 g2 htot x2 z2 cc2 hmk HS3 HCS HOX HBL
            obtain ⟨d1, hd1⟩ : ∃ d1, d1 = w64 (deep + 1) := ⟨_, rfl⟩
            have hwd : IntKind.i64.wrap (deep + 1) = d1 := hd1.symm
            rw [← hd1] at HTOT
            clear hd1 HE2
            go_wp2_with fail
            go_loopw [12] (fun iv wr => ∃ (k : Nat) (A' : Nat → Nat) (s' : St) (nodes' : Int) (done : List Tr) (rest : List Tr × Int × St), iv = .int .i64 k ∧ k ≤ r1.1.parts.length ∧ Hid (done.length = k) ∧ Hid (mKids (mRead g f) un d1 (r1.1.parts.drop k) nodes' s' = some rest) ∧ Hid (tot = (done ++ rest.1, rest.2)) ∧
              Hid (RdS w X B mb rq A s wr A' s' nodes' w.heap.size wx.heap.size W3.heap.size f r1.1.parts.length r1.1.op r1.1.n done) ∧ Hid (ValP wr (fun q => (X q ∨ q = w.heap.size) ∨ q = wx.heap.size ∨ q = W3.heap.size) mb A' s'.size vq r1.1)) (fun iv _ => r1.1.parts.length - (intOf iv).toNat)
            case atStart => exact ⟨0, A2, r1.2, n1, [], tot, rfl, Nat.zero_le _, rfl, by rw [List.drop_zero]; exact HTOT, by simp [Hid], HR0, HW0⟩
            case round =>
              obtain ⟨k, A', s', nodes', done, rest, rfl, hk, HDL, HRS, HTD, HR, HW⟩ := hrel
              clear HR0 HW0 HTOT
              have m64 := HR.out.inv.mach.cells.2.2.1
              have q0r : wr.cell? ⟨rq, 0, none⟩ = some (pt mb) := (cell_of_block HR.out.rd 0).trans rfl
              obtain ⟨_, _, vnm, va', vc', hvb', hvr'⟩ := HW.out
              have c2r := (blk3 hvb').2.2
              by_cases hlt : k < r1.1.parts.length
              · have hki : ((k : Nat) : Int) < (r1.1.parts.length : Int) := by omega
                by_cases herr : s'.err = 0
                · have hbe : (s'.err == 0) = true := beq_iff_eq.2 herr
                  obtain ⟨vb', rfl, hvbl, hvbm, hvbc, hpl, _⟩ := hvr'.at (List.getElem?_eq_getElem hlt)
                  have i0 : (0 : Int) ≤ (k : Int) := by omega
                  have HVNM := hide vnm; have HVBM := hide hvbm; have HVB' := hide hvb'; have HVBC := hide hvbc; have HVBL := hide hvbl
                  clear vnm hvbm hvb' hvr' hvbl hvbc
                  have hcons : r1.1.parts.drop k = r1.1.parts[k] :: r1.1.parts.drop (k + 1) := List.drop_eq_getElem_cons hlt
                  have hrs := HRS.out
                  rw [hcons, mKids, if_pos herr] at hrs
                  obtain ⟨pk, hpk⟩ : ∃ pk, pk = r1.1.parts[k] := ⟨_, rfl⟩
                  rw [← hpk] at hrs hpl HVBC
                  obtain ⟨r5, hr5, hrs⟩ := Option.bind_eq_some_iff.1 hrs
                  obtain ⟨qq, hq6, hre⟩ := Option.map_eq_some_iff.1 hrs
                  have HQ6 := hide hq6; have HRE := hide hre.symm
                  have HC5 := hide (IH.out.out HR.out.inv.dr.inv hpl (Or.inl (Or.inl HX.out)) HR.out.rd hr5)
                  have x2r : Hid (wr.cell? ⟨wx.heap.size, 2, none⟩ = some (.slice (some ⟨W3.heap.size, 0, none⟩) r1.1.parts.length r1.1.parts.length)) := hide (blk3 HR.out.out).2.2
                  have hrqn : ∀ q, ((X q ∨ q = w.heap.size) ∨ q = wx.heap.size ∨ q = W3.heap.size) → q ≠ rq → ¬ MutR mb rq A' s'.size q := fun q hq hne => by
                    rintro (e | e)
                    · exact HR.out.nm hq e
                    · exact hne e
                  have hnw := HR.out.nw; have hrqw := HRL.out
                  have HKBN : Hid (¬ MutR mb rq A' s'.size W3.heap.size) := hide (hrqn _ (Or.inr (Or.inr rfl)) (by omega))
                  have hobl := size_of_block HR.out.out; have hvql := size_of_block HVB'.out
                  have HCC : Hid (∀ w5 A5, Stq wr.drew (fun q => (X q ∨ q = w.heap.size) ∨ q = wx.heap.size ∨ q = W3.heap.size) B mb rq A' s' w5 A5 r5.s → w5.cell? ⟨wx.heap.size, 2, none⟩ = some (.slice (some ⟨W3.heap.size, 0, none⟩) r1.1.parts.length r1.1.parts.length) ∧ w5.cell? ⟨vq, 2, none⟩ = some (.slice (some ⟨vb', 0, none⟩) r1.1.parts.length vc') ∧ w5.cell? ⟨vb', k, none⟩ = some (pt (A' pk))) := hide (fun w5 A5 h5 =>
                    ⟨(h5.fr.cell hobl (hrqn _ (Or.inr (Or.inl rfl)) (by omega))).trans x2r.out, (h5.fr.cell hvql (fun e => HVNM.out (by rcases e with e | rfl; exact Or.inl e; exact Or.inr (Or.inl (Or.inl HX.out))))).trans c2r, (h5.fr.cell HVBL.out (fun e => HVBM.out (by rcases e with e | rfl; exact Or.inl e; exact Or.inr (Or.inl (Or.inl HX.out))))).trans HVBC.out⟩)
                  clear hrs hre hq6 hr5 hcons hpk hrqn hobl hvql hnw hrqw
                  go_wp2_with fail
                  clear m64 q0r
                  refine wp_region_call (by kernel_rfl) (by kernel_rfl) 14 16 (by kernel_rfl) (by decide) (by kernel_rfl) [] (by kernel_rfl) (fun vs => { tmps := #[pt rq, pt (A p), Value.int IntKind.i64 outside, Value.int IntKind.i64 deep, undef, undef, undef, undef, Value.pointer (some ⟨w.heap.size, 0, none⟩), pt vq, Value.int IntKind.i64 un, Value.pointer (some ⟨wx.heap.size, 0, none⟩), Value.int IntKind.i64 ↑k, pt rq, Value.pointer (some ⟨rq, 0, none⟩), Value.pointer (some ⟨rq, 1, none⟩), Value.int IntKind.i64 nodes, Value.int IntKind.i64 n1, Value.pointer (some ⟨rq, 0, none⟩), Value.pointer (some ⟨rq, 1, none⟩), pt rq, Value.pointer (some ⟨rq, 0, none⟩), Value.pointer (some ⟨rq, 1, none⟩), Value.int IntKind.i64 n1, Value.bool (decide (3000 < n1)), Value.bool (decide (3000 < n1)), Value.int IntKind.i64 deep, Value.bool (decide (120 < deep)), Value.bool (decide (3000 < n1) || decide (120 < deep)), undef, undef, undef, undef, undef, undef, q0, q1, q2, q3, q4, q5, q6, q7, q8, q9, pt vq, Value.pointer (some ⟨vq, 0, none⟩), Value.pointer (some ⟨vq, 0, none⟩), Value.int IntKind.i64 r1.fst.op, Value.bool false, undef, undef, undef, undef, undef, undef, undef, undef, pt vq, Value.pointer (some ⟨vq, 0, none⟩), Value.pointer (some ⟨vq, 0, none⟩), Value.int IntKind.i64 r1.fst.op, pt vq, Value.pointer (some ⟨vq, 0, none⟩), Value.pointer (some ⟨vq, 1, none⟩), Value.int IntKind.i64 r1.fst.n, Value.agg #[Value.int IntKind.i64 r1.fst.op, Value.int IntKind.i64 r1.fst.n, Value.slice none 0 0], pt vq, Value.pointer (some ⟨vq, 0, none⟩), Value.pointer (some ⟨vq, 2, none⟩), Value.slice (some ⟨vb, 0, none⟩) r1.fst.parts.length vc, Value.int IntKind.i64 ↑r1.fst.parts.length, Value.bool false, undef, pt vq, Value.pointer (some ⟨vq, 0, none⟩), Value.pointer (some ⟨vq, 2, none⟩), Value.slice (some ⟨vb, 0, none⟩) r1.fst.parts.length vc, Value.int IntKind.i64 ↑r1.fst.parts.length, Value.slice (some ⟨W3.heap.size, 0, none⟩) r1.fst.parts.length r1.fst.parts.length, Value.pointer (some ⟨wx.heap.size, 2, none⟩), Value.int IntKind.i64 ↑k, pt vq, Value.pointer (some ⟨vq, 0, none⟩), Value.pointer (some ⟨vq, 2, none⟩), Value.slice (some ⟨vb', 0, none⟩) r1.fst.parts.length vc', Value.int IntKind.i64 ↑r1.fst.parts.length, Value.bool true, Value.bool true, pt rq, Value.pointer (some ⟨rq, 0, none⟩), Value.pointer (some ⟨rq, 0, none⟩), pt mb, Value.pointer (some ⟨mb, 0, none⟩), Value.pointer (some ⟨mb, 64, none⟩), Value.int IntKind.i64 0, Value.bool true, Value.bool true, u98, u99, vs 0, vs 1, vs 2, vs 3, vs 4, vs 5, vs 6, vs 7, vs 8, vs 9, vs 10, vs 11, vs 12, vs 13, vs 14, vs 15, undef], defers := [] }) (fun i => [u100, u101, u102, u103, u104, u105, u106, u107, u108, u109, u110, u111, u112, u113, u114, u115, undef].getD i undef) (RkF wr (fun q => (X q ∨ q = w.heap.size) ∨ q = wx.heap.size ∨ q = W3.heap.size) B mb rq A' s' f r5 vq wx.heap.size W3.heap.size r1.1.parts.length vb' vc' (A' pk) k un deep d1) (fun w' => w'.cell? ⟨wx.heap.size, 2, none⟩ = some (.slice (some ⟨W3.heap.size, 0, none⟩) r1.1.parts.length r1.1.parts.length) ∧ w'.cell? ⟨vq, 2, none⟩ = some (.slice (some ⟨vb', 0, none⟩) r1.1.parts.length vc') ∧ w'.cell? ⟨vb', k, none⟩ = some (pt (A' pk))) (RkF.keep wr (fun q => (X q ∨ q = w.heap.size) ∨ q = wx.heap.size ∨ q = W3.heap.size) B mb rq A' s' f r5 vq wx.heap.size W3.heap.size r1.1.parts.length vb' vc' (A' pk) k un deep d1) (RkR w X B mb rq A s r5 w.heap.size wx.heap.size W3.heap.size f r1.1.parts.length r1.1.op r1.1.n (done ++ [r5.t]) vq r1.1) ?_ ?_
                  · refine ⟨CallStep.look (by decide) (by decide) ?_, CallStep.look (by decide) (by decide) ?_, CallStep.look (by decide) (by decide) ?_, CallStep.look (by decide) (by decide) ?_, CallStep.look (by decide) (by decide) ?_, CallStep.look (by decide) (by decide) ?_, CallStep.look (by decide) (by decide) ?_, CallStep.look (by decide) (by decide) ?_, CallStep.look (by decide) (by decide) ?_, CallStep.look (by decide) (by decide) ?_, CallStep.look (by decide) (by decide) ?_, CallStep.look (by decide) (by decide) ?_, CallStep.look (by decide) (by decide) ?_, CallStep.look (by decide) (by decide) ?_, CallStep.call (by decide) ?_, CallStep.look (by decide) (by decide) ?_, CallStep.last (by decide) ?_, trivial⟩
                    · intro vs wz K hw hd hK
                      clear hw hd
                      go_simp
                      exact hK _ rfl
                    · intro vs wz K hw hd hK
                      obtain ⟨vs, rfl⟩ := put_of (show vs 0 = _ from hd ⟨0, .data⟩ (by simp) rfl)
                      have ct : wz.cell? ⟨wx.heap.size, 2, none⟩ = some (.slice (some ⟨W3.heap.size, 0, none⟩) r1.1.parts.length r1.1.parts.length) := by rcases hw with rfl | h; exact x2r.out; exact h.1
                      clear hw hd
                      go_simp
                      exact hK _ rfl
                    · intro vs wz K hw hd hK
                      clear hw hd
                      go_simp
                      exact hK _ rfl
                    · intro vs wz K hw hd hK
                      clear hw hd
                      go_simp
                      exact hK _ rfl
                    · intro vs wz K hw hd hK
                      clear hw hd
                      go_simp
                      exact hK _ rfl
                    · intro vs wz K hw hd hK
                      obtain ⟨vs, rfl⟩ := put_of (show vs 4 = _ from hd ⟨4, .data⟩ (by simp) rfl)
                      clear hw hd
                      go_simp
                      exact hK _ rfl
                    · intro vs wz K hw hd hK
                      obtain ⟨vs, rfl⟩ := put_of (show vs 5 = _ from hd ⟨5, .data⟩ (by simp) rfl)
                      clear hw hd
                      go_simp
                      exact hK _ rfl
                    · intro vs wz K hw hd hK
                      obtain ⟨vs, rfl⟩ := put_of (show vs 6 = _ from hd ⟨6, .data⟩ (by simp) rfl)
                      have ct : wz.cell? ⟨vq, 2, none⟩ = some (.slice (some ⟨vb', 0, none⟩) r1.1.parts.length vc') := by rcases hw with rfl | h; exact c2r; exact h.2.1
                      clear hw hd
                      go_simp
                      exact hK _ rfl
                    · intro vs wz K hw hd hK
                      clear hw hd
                      go_simp
                      exact hK _ rfl
                    · intro vs wz K hw hd hK
                      obtain ⟨vs, rfl⟩ := put_of (show vs 7 = _ from hd ⟨7, .data⟩ (by simp) rfl)
                      obtain ⟨vs, rfl⟩ := put_of (show vs 8 = _ from hd ⟨8, .data⟩ (by simp) rfl)
                      clear hw hd
                      go_simp
                      exact hK _ rfl
                    · intro vs wz K hw hd hK
                      obtain ⟨vs, rfl⟩ := put_of (show vs 9 = _ from hd ⟨9, .data⟩ (by simp) rfl)
                      have ct : wz.cell? ⟨vb', k, none⟩ = some (pt (A' pk)) := by rcases hw with rfl | h; exact HVBC.out; exact h.2.2
                      clear hw hd
                      go_simp
                      exact hK _ rfl
                    · intro vs wz K hw hd hK
                      clear hw hd
                      go_simp
                      exact hK _ rfl
                    · intro vs wz K hw hd hK
                      clear hw hd
                      go_simp
                      exact hK _ rfl
                    · intro vs wz K hw hd hK
                      obtain ⟨vs, rfl⟩ := put_of (show vs 12 = _ from hd ⟨12, .data⟩ (by simp) rfl)
                      clear hw hd
                      go_simp
                      exact hK _ rfl
                    · intro vs K hd hK
                      obtain ⟨vs, rfl⟩ := put_of (show vs 3 = _ from hd ⟨3, .data⟩ (by simp) rfl)
                      obtain ⟨vs, rfl⟩ := put_of (show vs 10 = _ from hd ⟨10, .data⟩ (by simp) rfl)
                      obtain ⟨vs, rfl⟩ := put_of (show vs 11 = _ from hd ⟨11, .data⟩ (by simp) rfl)
                      obtain ⟨vs, rfl⟩ := put_of (show vs 13 = _ from hd ⟨13, .data⟩ (by simp) rfl)
                      clear hd
                      go_simp
                      refine HC5.out.mono ?_
                      rintro e w5 ⟨A5, p0, p1, pa, pl, pc, rfl, h5, hrd5, ht5⟩
                      exact hK _ _ (HCC.out _ _ h5) ⟨A5, p0, p1, pa, pl, pc, rfl, h5, hrd5, ht5⟩
                    · intro vs wz K hw hd hK
                      obtain ⟨vs, rfl⟩ := put_of (show vs 1 = _ from hd ⟨1, .data⟩ (by simp) rfl)
                      obtain ⟨vs, rfl⟩ := put_of (show vs 2 = _ from hd ⟨2, .data⟩ (by simp) rfl)
                      clear hw hd
                      go_simp
                      exact hK _ rfl
                    · intro vs wz K hC hF hK
                      obtain ⟨A5, p0, p1, pa, pl, pc, e14, h5, hrd5, ht5⟩ := hF 14 (by decide)
                      obtain ⟨vs, rfl⟩ := put_of (show vs 15 = _ from hF 15 (by decide))
                      obtain ⟨vs, rfl⟩ := put_of (show vs 14 = _ from (by simpa [put] using e14))
                      clear e14 hC hF
                      obtain ⟨cs2, hcs2, hcl2, _⟩ := HR.out.row
                      have q5 := (h5.fr.block W3.heap.size (size_of_block hcs2) (HKBN.out)).trans hcs2
                      have u0 : wz.cell? ⟨W3.heap.size, k * 3, none⟩ = some (cs2[k * 3]'(by omega)) := by rw [cell_of_block q5, Array.getElem?_eq_getElem (by omega)]
                      have u1 : wz.cell? ⟨W3.heap.size, k * 3 + 1, none⟩ = some (cs2[k * 3 + 1]'(by omega)) := by rw [cell_of_block q5, Array.getElem?_eq_getElem (by omega)]
                      have u2 : wz.cell? ⟨W3.heap.size, k * 3 + 2, none⟩ = some (cs2[k * 3 + 2]'(by omega)) := by rw [cell_of_block q5, Array.getElem?_eq_getElem (by omega)]
                      have y0 := frozen_of_block q5 (k * 3); have y1 := frozen_of_block q5 (k * 3 + 1); have y2 := frozen_of_block q5 (k * 3 + 2)
                      have HG := hide (RdS.step (wd := wr.drew) HR.out HDL.out hlt herr rfl ⟨rfl, rfl, rfl⟩ h5 hrd5 ht5)
                      have HV5 := hide (((HW.out.keep (Stp.keeps HR.out.inv HR.out.inv.dr)).keep (Stq.keeps HR.out.inv.dr.inv (Or.inl (Or.inl HX.out)) h5)).keep (h5.inv.poke ((((fr_set wz W3.heap.size (k * 3) (.int .i64 p0)).trans (fr_set _ W3.heap.size (k * 3 + 1) (.int .i64 p1))).trans (fr_set _ W3.heap.size (k * 3 + 2) (.slice pa pl pc))).mono (fun q e => Or.inr (Or.inr e)))).1)
                      clear h5 hrd5 ht5 q5 hcs2
                      go_simp
                      exact hK (put (put vs 15 (.pointer (some ⟨W3.heap.size, k * 3, none⟩))) 14 (.agg #[.int .i64 p0, .int .i64 p1, .slice pa pl pc])) _ ⟨A5, HG.out, HV5.out⟩
                  · intro vs wz hR
                    obtain ⟨A5, hg, hv5⟩ := hR
                    have HG := hide hg; have HV5 := hide hv5
                    clear hg hv5 x2r
                    generalize vs 0 = a0; generalize vs 1 = a1; generalize vs 2 = a2; generalize vs 3 = a3; generalize vs 4 = a4; generalize vs 5 = a5; generalize vs 6 = a6; generalize vs 7 = a7; generalize vs 8 = a8; generalize vs 9 = a9; generalize vs 10 = a10; generalize vs 11 = a11; generalize vs 12 = a12; generalize vs 13 = a13; generalize vs 14 = a14; generalize vs 15 = a15
                    clear vs
                    go_wp2_with fail
                    go_roundw
                    case rel => exact ⟨k + 1, A5, r5.s, r5.nodes, done ++ [r5.t], qq, by go_num, by omega, by simp only [Hid]; rw [List.length_append, HDL.out]; rfl, HQ6, by simp only [Hid]; rw [HTD.out, HRE.out]; simp, HG, HV5⟩
                    case measure => simp [intOf]; omega
                · have hbe : (s'.err == 0) = false := ne_beq herr
                  clear hvr' hvb' vnm
                  have hre : rest = ([], nodes', s') := (Option.some.inj (HRS.out.symm.trans (kids_nil _ (Or.inl herr))))
                  have htd := HTD.out
                  subst hre
                  subst htd
                  obtain ⟨y0, y1, y2⟩ := blk3 HR.out.box
                  obtain ⟨z0, z1, z2⟩ := frz3 HR.out.box
                  obtain ⟨x0, x1, x2⟩ := blk3 HR.out.out
                  go_wp2_with fail
                  refine bodyPost_ret (v := .agg #[.int .i64 r1.1.op, .int .i64 r1.1.n, .slice (some ⟨W3.heap.size, 0, none⟩) r1.1.parts.length r1.1.parts.length]) (by simp [results, Tryd.results36, go_sem, y0, y1, y2]) rfl ?_
                  have hfin := RdS.fin HR.out (fun e => absurd e herr) hlm HO.out HN.out (fr_box3 wr w.heap.size (.int .i64 r1.1.op) (.int .i64 r1.1.n) (.slice (some ⟨W3.heap.size, 0, none⟩) r1.1.parts.length r1.1.parts.length))
                  exact hfin
              · have hke : k = r1.1.parts.length := by omega
                have hki : ¬ (((k : Nat) : Int) < (r1.1.parts.length : Int)) := by omega
                have hdn : r1.1.parts.drop k = [] := List.drop_eq_nil_of_le (by omega)
                clear hvr' hvb' vnm
                have hre : rest = ([], nodes', s') := (Option.some.inj (HRS.out.symm.trans (kids_nil _ (Or.inr hdn))))
                have htd := HTD.out
                subst hre
                subst htd
                obtain ⟨y0, y1, y2⟩ := blk3 HR.out.box
                obtain ⟨z0, z1, z2⟩ := frz3 HR.out.box
                obtain ⟨x0, x1, x2⟩ := blk3 HR.out.out
                go_wp2_with fail
                refine bodyPost_ret (v := .agg #[.int .i64 r1.1.op, .int .i64 r1.1.n, .slice (some ⟨W3.heap.size, 0, none⟩) r1.1.parts.length r1.1.parts.length]) (by simp [results, Tryd.results36, go_sem, y0, y1, y2]) rfl ?_
                have hfin := RdS.fin HR.out (fun _ => HDL.out.trans hke) hlm HO.out HN.out (fr_box3 wr w.heap.size (.int .i64 r1.1.op) (.int .i64 r1.1.n) (.slice (some ⟨W3.heap.size, 0, none⟩) r1.1.parts.length r1.1.parts.length))
                exact hfin

theorem read_any (g : Nat) : ∀ f, RdC g f
  | 0 => ⟨by intro w X B mb A s _ p rq nodes outside deep r _ _ _ he; simp [mRead] at he⟩
  | f + 1 => read_step g f (read_any g f)
#print axioms read_any
end Go.Proofs.YtjiecahopdaghabDoor
