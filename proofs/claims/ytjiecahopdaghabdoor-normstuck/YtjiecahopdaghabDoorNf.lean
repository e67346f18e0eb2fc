/- node: a term with its kids as parts. -/
import Derived.Test.YtjiecahopdaghabDoorNe
import Derived.Test.YtjiecahopdaghabDoorRb
namespace Go.Proofs.YtjiecahopdaghabDoor
open Go.RowKit

/-- What answers a value. -/
def ValOut (w : World) (X : Nat → Prop) (B mb : Nat) (A : Nat → Nat) (s : St) (r : Val × St) (x : Ending) (w' : World) : Prop := ∃ A' vq, x = .returned (pt vq) ∧ Stp w X B mb A s w' A' r.2 ∧ ValP w' X mb A' r.2.size vq r.1

theorem kids_snoc (op : Int) (sc : List Nat) (k : Tr) : ∀ (ks : List Tr) (i : Nat) (s : St), St.kids op sc i (ks ++ [k]) s = (((St.kids op sc i ks s).1 ++ [((St.kids op sc i ks s).2.suspend k (bnd op ((i + ks.length : Nat) : Int)) sc).1]), ((St.kids op sc i ks s).2.suspend k (bnd op ((i + ks.length : Nat) : Int)) sc).2)
  | [], i, s => by simp [St.kids]
  | a :: ks, i, s => by
    have ih := kids_snoc op sc k ks (i + 1) (s.suspend a (bnd op (i : Nat)) sc).2
    simp only [List.cons_append, St.kids, ih, List.length_cons]
    rw [show i + 1 + ks.length = i + (ks.length + 1) by omega]

theorem i64_zero : I64 0 := ⟨by decide, by decide⟩
/-- A value that is none. -/
theorem no_val {w : World} {X : Nat → Prop} {B mb : Nat} {A : Nat → Nat} {s : St} (i : Inv w X B mb A s) : Stp w X B mb A s (w.alloc (.cells #[.int .i64 0, .int .i64 0, .slice none 0 0] 105)) A s ∧ ValP (w.alloc (.cells #[.int .i64 0, .int .i64 0, .slice none 0 0] 105)) X mb A s.size w.heap.size noVal := by
  refine ⟨Stp.more i (later_alloc w _), i64_zero, i64_zero, ?_, none, 0, heap_alloc_new w _, prow_nil max0⟩
  rintro ((h | ⟨j, hj, h⟩) | h)
  · have := i.hmb.2; omega
  · have := (i.lo j hj).2.1; omega
  · have := (i.xs _ h).2.1; omega

/-- While the kids are gone through. -/
structure NdS (w : World) (X : Nat → Prop) (B mb : Nat) (A : Nat → Nat) (s : St) (wr : World) (A' : Nat → Nat) (s' : St) (vq rb L : Nat) (o n : Int) (ids : List Nat) : Prop where
  inv : Inv wr (fun q => X q ∨ q = vq ∨ q = rb) B mb A' s'
  size : s.size ≤ s'.size
  same : ∀ i, i < s.size → A' i = A i
  fr : Fr (Mut mb A s.size) w wr
  new : ∀ i, s.size ≤ i → i < s'.size → w.heap.size ≤ A' i
  val : wr.heap[vq]? = some (.cells #[.int .i64 o, .int .i64 n, .slice (some ⟨rb, 0, none⟩) L L] 105 (0, 0))
  row : ∃ cs : Array Value, wr.heap[rb]? = some (.cells cs 66 (0, 0)) ∧ cs.size = L ∧ ∀ (j : Nat) (h : j < ids.length), cs[j]? = some (pt (A' ids[j]))
  lt : ∀ i ∈ ids, i < s'.size
  nw : w.heap.size ≤ vq ∧ w.heap.size ≤ rb ∧ vq ≠ rb
  xlt : ∀ q, X q → q < w.heap.size

theorem NdS.fin {w wr : World} {X : Nat → Prop} {B mb vq rb L : Nat} {A A' : Nat → Nat} {s s' : St} {o n : Int} {ids : List Nat} (h : NdS w X B mb A s wr A' s' vq rb L o n ids) (hl : ids.length = L) (hL : L ≤ 100000000) (ho : I64 o) (hn : I64 n) :
    Stp w X B mb A s wr A' s' ∧ ValP wr X mb A' s'.size vq ⟨o, n, ids⟩ := by
  obtain ⟨k, hi⟩ := h.inv.wide (Y := X) (Below.refl _ wr) (fun q hq => Or.inl (Or.inl hq))
  have hxv := h.inv.xs vq (Or.inr (Or.inl rfl))
  have hxr := h.inv.xs rb (Or.inr (Or.inr rfl))
  refine ⟨⟨hi, h.size, h.same, h.fr, h.new⟩, ho, hn, ?_, some ⟨rb, 0, none⟩, L, by rw [hl]; exact h.val, by rw [hl]; exact Nat.le_refl _, hL, h.lt, fun _ => ⟨rb, rfl, hxr.2.1, ?_, fun j hj => ?_⟩⟩
  · rintro ((e | ⟨j, hj, e⟩) | e)
    · exact hxv.2.2.1 e
    · exact hxv.2.2.2 j hj e
    · have := h.xlt _ e; have := h.nw; omega
  · rintro ((e | ⟨j, hj, e⟩) | e)
    · exact hxr.2.2.1 e
    · exact hxr.2.2.2 j hj e
    · have := h.xlt _ e; have := h.nw; omega
  · obtain ⟨cs, h1, h2, h3⟩ := h.row
    rw [cell_of_block h1]
    exact h3 j hj
theorem NdS.start {w w2 : World} {X : Nat → Prop} {B mb vq rb L : Nat} {A : Nat → Nat} {s : St} {o n : Int} {cs : Array Value} (i : Inv w X B mb A s) (hb : Below w.heap.size w w2) (hv : w2.heap[vq]? = some (.cells #[.int .i64 o, .int .i64 n, .slice (some ⟨rb, 0, none⟩) L L] 105 (0, 0))) (hr : w2.heap[rb]? = some (.cells cs 66 (0, 0)))
    (hc : cs.size = L) (h1 : w.heap.size ≤ vq) (h2 : w.heap.size ≤ rb) : NdS w X B mb A s w2 A s vq rb L o n [] := by
  obtain ⟨k, hi⟩ := i.wide (Y := fun q => X q ∨ q = vq ∨ q = rb) hb (fun q hq => by
    rcases hq with h | rfl | rfl
    · exact Or.inl h
    · exact Or.inr ⟨h1, size_of_block hv⟩
    · exact Or.inr ⟨h2, size_of_block hr⟩)
  exact ⟨hi, Nat.le_refl _, fun _ _ => rfl, Fr.of_below hb, fun j h1 h2 => by omega, hv, ⟨cs, hr, hc, fun j h => absurd h (by simp)⟩, fun i hi => by simp at hi, ⟨h1, h2, fun e => by subst e; rw [hv] at hr; simp at hr⟩, fun q hq => (i.xs q hq).2.1⟩

theorem NdS.step {w wr w5 : World} {X : Nat → Prop} {B mb vq rb L : Nat} {A A' A5 : Nat → Nat} {s s' : St} {o n : Int} {ids : List Nat} {r : Nat × St} (h : NdS w X B mb A s wr A' s' vq rb L o n ids) (hl : ids.length < L) (hr : r.1 < r.2.size) (hs : Stp wr (fun q => X q ∨ q = vq ∨ q = rb) B mb A' s' w5 A5 r.2) :
    NdS w X B mb A s (w5.setCell ⟨rb, ids.length, none⟩ (pt (A5 r.1))) A5 r.2 vq rb L o n (ids ++ [r.1]) := by
  have hxv := h.inv.xs vq (Or.inr (Or.inl rfl))
  have hxr := h.inv.xs rb (Or.inr (Or.inr rfl))
  have hmv : ¬ Mut mb A' s'.size vq := by
    rintro (e | ⟨j, hj, e⟩)
    · exact hxv.2.2.1 e
    · exact hxv.2.2.2 j hj e
  have hmr : ¬ Mut mb A' s'.size rb := by
    rintro (e | ⟨j, hj, e⟩)
    · exact hxr.2.2.1 e
    · exact hxr.2.2.2 j hj e
  have hv5 := (hs.fr.block vq hxv.2.1 hmv).trans h.val
  obtain ⟨cs, h1, h2, h3⟩ := h.row
  have hr5 := (hs.fr.block rb hxr.2.1 hmr).trans h1
  have hf : Fr (fun q => q = rb) w5 (w5.setCell ⟨rb, ids.length, none⟩ (pt (A5 r.1))) := fr_set _ _ _ _
  obtain ⟨k, hi⟩ := hs.inv.poke (hf.mono (fun q e => Or.inr (Or.inr e)))
  have hws := h.fr.size
  refine ⟨hi, Nat.le_trans h.size hs.size, fun j hj => (hs.same j (Nat.lt_of_lt_of_le hj h.size)).trans (h.same j hj), ?_, fun j h1 h2 => ?_, ?_, ?_, fun i hi => ?_, h.nw, h.xlt⟩
  · refine ⟨hf.os.trans (hs.fr.os.trans h.fr.os), hf.tape.trans (hs.fr.tape.trans h.fr.tape), hf.output.trans (hs.fr.output.trans h.fr.output), Nat.le_trans h.fr.size (Nat.le_trans hs.fr.size hf.size), fun q hq hm => ?_⟩
    have hss := hs.fr.size
    rw [hf.block q (by omega) (by have := h.nw; omega)]
    refine (hs.fr.block q (by omega) ?_).trans (h.fr.block q hq hm)
    rintro (e | ⟨j, hj, e⟩)
    · exact hm (Or.inl e)
    · by_cases hn : j < s.size
      · exact hm (Or.inr ⟨j, hn, by rw [← e, h.same j hn]⟩)
      · have := h.new j (by omega) hj; omega
  · by_cases hj : j < s'.size
    · rw [hs.same j hj]; exact h.new j h1 hj
    · have := hs.new j (by omega) h2; omega
  · rw [heap_setCell_other _ _ _ _ (show vq ≠ rb from h.nw.2.2)]; exact hv5
  · refine ⟨_, heap_setCell_same _ _ ids.length _ _ (pt (A5 r.1)) hr5, by simpa using h2, fun j hj => ?_⟩
    by_cases he : j < ids.length
    · rw [Array.getElem?_setIfInBounds_ne (by omega), h3 j he, List.getElem_append_left he, hs.same _ (h.lt _ (List.getElem_mem he))]
    · have : j = ids.length := by simp at hj; omega
      subst this
      rw [Array.getElem?_setIfInBounds_self_of_lt (by omega), List.getElem_append_right (Nat.le_refl _)]
      simp
  · rcases List.mem_append.1 hi with h' | h'
    · exact Nat.lt_of_lt_of_le (h.lt i h') hs.size
    · simp at h'; subst h'; exact hr

theorem NdS.keeps {w wr : World} {X : Nat → Prop} {B mb vq rb L : Nat} {A A' : Nat → Nat} {s s' : St} {o n : Int} {ids : List Nat} (i : Inv w X B mb A s) (h : NdS w X B mb A s wr A' s' vq rb L o n ids) : Keeps w X B mb A s.size wr (fun q => X q ∨ q = vq ∨ q = rb) A' s'.size :=
  ⟨h.size, h.same, h.fr.mono (fun _ h => Or.inl h), h.new, fun q hq hx => by
    have := h.nw
    rcases hx with hx | rfl | rfl
    · exact hx
    · omega
    · omega, i.los⟩
theorem NdS.nmr {w wr : World} {X : Nat → Prop} {B mb vq rb L : Nat} {A A' : Nat → Nat} {s s' : St} {o n : Int} {ids : List Nat} (h : NdS w X B mb A s wr A' s' vq rb L o n ids) : ¬ Mut mb A' s'.size rb := by
  have hxr := h.inv.xs rb (Or.inr (Or.inr rfl))
  rintro (e | ⟨j, hj, e⟩)
  · exact hxr.2.2.1 e
  · exact hxr.2.2.2 j hj e
theorem NdS.nmv {w wr : World} {X : Nat → Prop} {B mb vq rb L : Nat} {A A' : Nat → Nat} {s s' : St} {o n : Int} {ids : List Nat} (h : NdS w X B mb A s wr A' s' vq rb L o n ids) : ¬ Mut mb A' s'.size vq := by
  have hxr := h.inv.xs vq (Or.inr (Or.inl rfl))
  rintro (e | ⟨j, hj, e⟩)
  · exact hxr.2.2.1 e
  · exact hxr.2.2.2 j hj e
theorem TmP.open {w : World} {B b off : Nat} {t : Tr} (h : TmP w B b off t) : ∃ ta tc, b < B ∧ t.size ≤ 1000000 ∧ w.cell? ⟨b, off, none⟩ = some (.int .i64 t.op) ∧ w.cell? ⟨b, off + 1, none⟩ = some (.int .i64 t.n) ∧ w.cell? ⟨b, off + 2, none⟩ = some (.slice ta t.kids.length tc) ∧ I64 t.op ∧ I64 t.n ∧
    ∀ (k : Nat) (hk : k < t.kids.length), ∃ kb koff, ta = some ⟨kb, koff, none⟩ ∧ TmP w B kb (koff + k * 3) t.kids[k] := by
  obtain ⟨f, ta, tc, h1, h0, c0, c1, c2, ht⟩ := h
  match f, ht with
  | f + 1, ⟨a', cap', hv, ho, hn, hrow⟩ =>
    simp only [Value.agg.injEq, Array.mk.injEq, List.cons.injEq, Value.slice.injEq, and_true, true_and] at hv
    obtain ⟨rfl, rfl⟩ := hv
    refine ⟨ta, tc, h1, h0, c0, c1, c2, ho, hn, fun k hk => ?_⟩
    obtain ⟨kb, koff, ka, kc, e, hkb, d0, d1, d2, hk2⟩ := hrow.form hk
    exact ⟨kb, koff, e, f, ka, kc, hkb, by have := Tr.kid_size (List.getElem_mem hk); omega, d0, d1, d2, hk2⟩
theorem stepc4 {P : Program} {ops : Array Oper} {o : Oper} {a : Act} {w : World} {K : Act → World → Prop} {Q : Exit → Act → World → Prop} {E : Prop} (hgd : o.guard = none) (k : Nat) (x y z x4 : Operand) (ts : Array TypeId)
    (ho : o.op = .call { callee := .value (.func k), args := #[x, y, z, x4], argTypes := ts }) (hcf : ∀ vs w, (callFunc k vs).run P w = .ok (.enter k vs) w) (v u t v4 : Value) (hv : a.eval x = v) (hu : a.eval y = u) (ht : a.eval z = t) (h4 : a.eval x4 = v4)
    (R : Ending → World → Prop) (h : Calls P k #[v, u, t, v4] w R) (hK : ∀ e w', R e w' → ∃ u, e = .returned u ∧ K (a.put o.dst u) w') :
    if Region.wanted o (yielded ops a.tmps) = true then Oper.wp P o a w K Q else E := by
  have hw : Region.wanted o (yielded ops a.tmps) = true := by simp [Region.wanted, hgd]
  rw [if_pos hw]
  unfold Oper.wp
  have hrun : (execOp a.eval o).run P w = .ok (.enter k #[v, u, t, v4]) w := by
    have hf : a.eval (.func k) = .func (.func k) #[] #[] := rfl
    simp [execOp, ho, resolve, invoke, hcf, hv, hu, ht, h4, hf, Deferred.ofValue]
  rw [hrun, Oper.upon_enter]
  refine h.mono ?_
  intro e w' hr
  obtain ⟨u, rfl, hk⟩ := hK e w' hr
  exact hk
theorem cf99 (args : Array Value) (w : World) : (callFunc 82 args).run Tryd.prog w = .ok (.enter 82 args) w := cf_of Tryd.func82 (by kernel_rfl) (by kernel_rfl) args w
theorem cf45 (args : Array Value) (w : World) : (callFunc 37 args).run Tryd.prog w = .ok (.enter 37 args) w := cf_of Tryd.func37 (by kernel_rfl) (by kernel_rfl) args w
theorem Tb.dr {w : World} (h : Tb w) : Tb w.drew := ⟨h.size, h.bnd⟩

attribute [local go_sem ↓] Go.wp_at_zero Go.wp_at_succ

set_option maxRecDepth 20000 in
set_option maxHeartbeats 1000000 in
theorem nnode_any {w : World} {X : Nat → Prop} {B mb : Nat} {A : Nat → Nat} {s : St} (i : Inv w X B mb A s) {a : Option Addr} {cap b off : Nat} {sc : List Nat} {t : Tr} (ht : TmP w B b off t) (hr : PRow w X mb A s.size a sc cap) :
    Calls Tryd.prog 80 #[pt mb, .pointer (some ⟨b, off, none⟩), .slice a sc.length cap] w (ValOut w X B mb A s (s.node t sc)) := by
  have HI := hide i
  have HT := hide ht
  have HR := hide hr
  obtain ⟨f, ta, tc, hbB, hsz, c0, c1, c2, htd⟩ := ht
  have hkl : t.kids.length ≤ 1000000 := Nat.le_trans (len_size t) hsz
  obtain ⟨r1, hr1⟩ : ∃ r1, r1 = s.spend (t.kids.length : Int) := ⟨_, rfl⟩
  have hno : s.node t sc = if r1.1 then (⟨t.op, t.n, (r1.2.kids t.op sc 0 t.kids).1⟩, (r1.2.kids t.op sc 0 t.kids).2) else (noVal, r1.2) := by unfold St.node; rw [hr1]
  have HR1 := hide hr1
  clear i hr hr1 htd hsz
  cases hb : r1.1 with
  | false =>
    rw [hno, hb, if_neg (by simp)]
    have HBF := hide hb
    clear hno hb
    go_enter Tryd.func80, Tryd.ntmps80
    go_wp2_with fail
    refine (spend_any HI.out (t.kids.length : Int) ⟨by omega, by omega⟩).mono ?_
    rintro e w1 ⟨rfl, h1⟩
    rw [← HR1.out] at h1 ⊢
    rw [HBF.out]
    have H1 := hide h1
    clear h1
    go_wp2_with fail
    go_ret
    obtain ⟨g1, g2⟩ := no_val H1.out.inv
    exact ⟨A, _, rfl, Stp.trans H1.out g1, g2⟩
  | true =>
    rw [hno, hb, if_pos rfl]
    have HBF := hide hb
    clear hno hb
    go_enter Tryd.func80, Tryd.ntmps80
    go_wp2_with fail
    refine (spend_any HI.out (t.kids.length : Int) ⟨by omega, by omega⟩).mono ?_
    rintro e w1 ⟨rfl, h1⟩
    rw [← HR1.out] at h1 ⊢
    rw [HBF.out]
    have HT1 : Hid (TmP w1 B b off t) := hide (HT.out.keep (Stp.keeps HI.out h1).low)
    have HRR1 : Hid (PRow w1 X mb A r1.2.size a sc cap) := hide (HR.out.keep (Stp.keeps HI.out h1))
    have H1 := hide h1
    clear h1 c0 c1 c2
    obtain ⟨f1, ta, tc, hbB, hsz, c0, c1, c2, htd⟩ := HT1.out
    clear htd hsz
    obtain ⟨cs, hcs, hmk⟩ := make_parts 99 Tryd.underlying99 w1.drew t.kids.length t.kids.length (Nat.le_refl _) (by omega)
    have hbw : b < w1.heap.size := by have := H1.out.inv.hmb; omega
    have d0 := (old_cell c0 hbw).1; have d1 := (old_cell c1 hbw).1; have d2 := (old_cell c2 hbw).1
    go_wp2_with fail
    go_region
    have HN0 : Hid (NdS w1 X B mb A r1.2 ((w1.alloc (.cells cs 66)).alloc (.cells #[.int .i64 t.op, .int .i64 t.n, .slice (some ⟨w1.heap.size, 0, none⟩) t.kids.length t.kids.length] 105)).drew A r1.2 (w1.heap.size + 1) w1.heap.size t.kids.length t.op t.n []) := hide (by
      have g0 := heap_alloc_new w1 (.cells cs 66)
      have g1 := heap_alloc_new (w1.alloc (.cells cs 66)) (.cells #[.int .i64 t.op, .int .i64 t.n, .slice (some ⟨w1.heap.size, 0, none⟩) t.kids.length t.kids.length] 105)
      rw [World.size_alloc] at g1
      exact NdS.start H1.out.inv ((((Below.refl _ _).alloc (Nat.le_refl _) _).alloc (by simp) _).drew) g1 ((Below.heap_alloc _ _ _ (by simp)).trans g0) hcs (by omega) (Nat.le_refl _))
    obtain ⟨W2, hW2⟩ : ∃ W2, W2 = ((w1.alloc (.cells cs 66)).alloc (.cells #[.int .i64 t.op, .int .i64 t.n, .slice (some ⟨w1.heap.size, 0, none⟩) t.kids.length t.kids.length] 105)).drew := ⟨_, rfl⟩
    rw [← hW2] at HN0 ⊢
    clear hW2 d0 d1 d2 hmk hcs c0 c1 c2
    have HT2 : Hid (TmP W2 B b off t) := hide (HT1.out.keep (NdS.keeps H1.out.inv HN0.out).low)
    obtain ⟨ta2, tc2, _, _, e0, e1, e2, ho64, hn64, _⟩ := HT2.out.open
    have HO64 := hide ho64; have HN64 := hide hn64
    clear ho64 hn64
    go_wp2_with fail
    go_loopw [8, 40] (fun _ iv wr => ∃ (k : Nat) (A' : Nat → Nat), k ≤ t.kids.length ∧ iv = .int .i64 k ∧ Hid ((St.kids t.op sc 0 (t.kids.take k) r1.2).1.length = k) ∧ Hid (NdS w1 X B mb A r1.2 wr A' (St.kids t.op sc 0 (t.kids.take k) r1.2).2 (w1.heap.size + 1) w1.heap.size t.kids.length t.op t.n (St.kids t.op sc 0 (t.kids.take k) r1.2).1)) (fun _ iv _ => t.kids.length - (intOf iv).toNat)
    case atStart => exact ⟨0, A, Nat.zero_le _, rfl, rfl, HN0⟩
    case round =>
      obtain ⟨k, A', hk, rfl, HL, HN⟩ := hrel
      clear HN0 e0 e1 e2 HT2
      by_cases hlt : k < t.kids.length
      · have HT3 : Hid (TmP wr B b off t) := hide (HT1.out.keep (NdS.keeps H1.out.inv HN.out).low)
        obtain ⟨ta3, tc3, _, _, e0, e1, e2, _, _, hkid⟩ := HT3.out.open
        obtain ⟨kb, koff, rfl, hkt⟩ := hkid k hlt
        obtain ⟨v0, v1, v2⟩ := blk3 HN.out.val
        have HKT := hide hkt
        have HR3 : Hid (PRow wr (fun q => X q ∨ q = w1.heap.size + 1 ∨ q = w1.heap.size) mb A' (St.kids t.op sc 0 (t.kids.take k) r1.2).2.size a sc cap) := hide (HRR1.out.keep (NdS.keeps H1.out.inv HN.out))
        have hsn := kids_snoc t.op sc t.kids[k] (t.kids.take k) 0 r1.2
        rw [← List.take_succ_eq_append_getElem hlt, List.length_take, Nat.min_eq_left hk, Nat.zero_add] at hsn
        have HSN := hide hsn
        obtain ⟨st, hst⟩ : ∃ st, st = St.kids t.op sc 0 (t.kids.take k) r1.2 := ⟨_, rfl⟩
        rw [← hst] at HL HN HR3 HSN
        clear hst
        obtain ⟨bn, hbn⟩ : ∃ bn : Nat, bn = bnd t.op (k : Nat) := ⟨_, rfl⟩
        have hbn2 : bn ≤ 2 := by rw [hbn]; exact bnd_le _ _
        rw [← hbn] at HSN
        have HTB : Hid (Tb wr) := hide HN.out.inv.tb
        have HBI : Hid (∀ w', Tb w' → Calls Tryd.prog 82 #[.int .i64 t.op, .int .i64 (k : Nat)] w' fun e w'' => e = .returned (.int .i64 (bn : Nat)) ∧ w'' = w') := hide (fun w' h' => by rw [hbn]; exact tbinders_any t.op (k : Nat) w' h')
        obtain ⟨cs2, hrb, hcs2, _⟩ := HN.out.row
        have HRB := hide hrb
        have i1 : (0 : Int) ≤ (k : Int) := by omega
        have i2 : (k : Int) < (t.kids.length : Int) := by omega
        have HDI : Hid (Inv wr.drew (fun q => X q ∨ q = w1.heap.size + 1 ∨ q = w1.heap.size) B mb A' st.2) := hide (HN.out.inv.wide (w' := wr.drew) ((Below.refl _ _).drew) (fun q h => Or.inl h)).2
        clear hsn hkid hkt hbn hrb
        have HC : Hid (Calls Tryd.prog 37 #[pt mb, .pointer (some ⟨kb, koff + k * 3, none⟩), .int .i64 (bn : Nat), .slice a sc.length cap] wr.drew (PartOut wr.drew (fun q => X q ∨ q = w1.heap.size + 1 ∨ q = w1.heap.size) B mb A' st.2 (st.2.suspend t.kids[k] bn sc))) := hide (suspend_any HDI.out (HKT.out.keep (fun _ _ => rfl)) hbn2 HR3.out)
        go_wp2_with fail
        go_region_law (first
          | (refine step_call2 (by rfl) 82 (.tmp 58) (.tmp 59) #[3, 3] (by rfl) cf99 (.int .i64 t.op) (.int .i64 (k : Nat)) (by rfl) (by rfl) _ (HBI.out _ HTB.out.dr) ?_
             rintro e w4' ⟨rfl, h4'⟩
             rw [h4']
             clear h4' w4'
             refine ⟨_, rfl, ?_⟩)
          | (refine stepc4 (by rfl) 37 (.tmp 48) (.tmp 54) (.tmp 60) (.tmp 61) #[61, 68, 3, 100] (by rfl) cf45 (pt mb) (.pointer (some ⟨kb, koff + k * 3, none⟩)) (.int .i64 (bn : Nat)) (.slice a sc.length cap) (by rfl) (by rfl) (by rfl) (by rfl) _ HC.out ?_
             rintro e w5 ⟨A5, rfl, hr5, hs5⟩
             refine ⟨_, rfl, ?_⟩
             have HS5 : Hid (Stp wr (fun q => X q ∨ q = w1.heap.size + 1 ∨ q = w1.heap.size) B mb A' st.2 w5 A5 (st.2.suspend t.kids[k] bn sc).2) := ⟨hs5.inv, hs5.size, hs5.same, ⟨hs5.fr.os, hs5.fr.tape, hs5.fr.output, hs5.fr.size, hs5.fr.block⟩, hs5.new⟩
             have HRR := hide hr5
             have nxr : ¬ Mut mb A' st.2.size w1.heap.size := NdS.nmr HN.out
             have nxv : ¬ Mut mb A' st.2.size (w1.heap.size + 1) := NdS.nmv HN.out
             have q5 := (HS5.out.fr.block _ (size_of_block HRB.out) nxr).trans HRB.out
             have p5 := (HS5.out.fr.block _ (size_of_block HN.out.val) nxv).trans HN.out.val
             have z5 : w5.frozen? ⟨w1.heap.size, k, none⟩ = false := frozen_of_block q5 k
             have x5 : w5.cell? ⟨w1.heap.size, k, none⟩ = some (cs2[k]'(by omega)) := by rw [cell_of_block q5, Array.getElem?_eq_getElem (by omega)]
             have y5 := (blk3 p5).2.2
             clear hs5 hr5 q5 p5 nxr nxv))
        all_goals
          have HN6 := hide (NdS.step HN.out (by rw [HL.out]; exact hlt) HRR.out HS5.out)
          rw [HL.out] at HN6
          go_wp2_with fail
          go_roundw
          case rel => exact ⟨k + 1, A5, by omega, by go_num, by rw [HSN.out]; exact hide (by simp [HL.out]), by rw [HSN.out]; exact HN6⟩
          case measure => simp [intOf]; omega
      · have hke : k = t.kids.length := by omega
        subst hke
        rw [List.take_length] at HL HN
        go_wp2_with fail
        go_ret
        obtain ⟨g1, g2⟩ := NdS.fin HN.out HL.out (by omega) HO64.out HN64.out
        exact ⟨A', _, rfl, Stp.trans H1.out g1, g2⟩
#print axioms nnode_any
end Go.Proofs.YtjiecahopdaghabDoor
