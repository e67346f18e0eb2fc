/- A row of terms that grows by append; the document's Shift. -/
import Derived.Test.YtjiecahopdaghabDoorSc
import Derived.Test.YtjiecahopdaghabDoorTs
import Derived.Deep.DeepCutAuto
import Derived.Deep.CutBlock
namespace Go.Proofs.YtjiecahopdaghabDoor
open Go.RowKit

/-- One kid more, in the box tb. -/
theorem app_grow {wr w5 w6 : World} {tb f k kc g6 cap6 : Nat} {ka : Option Addr} {x0 x1 p0 p1 p2 : Value} {ts : List Tr} {t' : Tr} {xs : List Value} {o5 : Obj}
    (HBT : wr.heap[tb]? = some (.cells #[x0, x1, .slice ka k kc] 26 (0, 0))) (HO : wr.ownsRow (tb + 1) 26 3 (.slice ka k kc) k xs)
    (HK : KidsAt wr (fun q => tb + 1 ≤ q ∧ q < wr.heap.size ∧ some q ≠ (Value.slice ka k kc).ownBlock) f ts xs)
    (HT5 : TmD w5 (fun q => wr.heap.size ≤ q ∧ q < w5.heap.size) f t' (.agg #[p0, p1, p2])) (HB5 : Below wr.heap.size wr w5)
    (HO6 : w6.ownsRow (tb + 1) 26 3 (.slice (some ⟨g6, 0, none⟩) (k + 1) cap6) (k + 1) (xs ++ [p0, p1, p2])) (HG6 : (w5.alloc o5).grownBy w6 (Value.slice ka k kc).ownBlock)
    (HA6 : (Value.slice ka k kc).ownBlock = some g6 ∨ g6 = w5.heap.size + 1) :
    (w6.setCell ⟨tb, 2, none⟩ (.slice (some ⟨g6, 0, none⟩) (k + 1) cap6)).heap[tb]? = some (.cells #[x0, x1, .slice (some ⟨g6, 0, none⟩) (k + 1) cap6] 26 (0, 0)) ∧
    (w6.setCell ⟨tb, 2, none⟩ (.slice (some ⟨g6, 0, none⟩) (k + 1) cap6)).ownsRow (tb + 1) 26 3 (.slice (some ⟨g6, 0, none⟩) (k + 1) cap6) (k + 1) (xs ++ [p0, p1, p2]) ∧
    KidsAt (w6.setCell ⟨tb, 2, none⟩ (.slice (some ⟨g6, 0, none⟩) (k + 1) cap6)) (fun q => tb + 1 ≤ q ∧ q < (w6.setCell ⟨tb, 2, none⟩ (.slice (some ⟨g6, 0, none⟩) (k + 1) cap6)).heap.size ∧ some q ≠ (Value.slice (some ⟨g6, 0, none⟩) (k + 1) cap6).ownBlock) f (ts ++ [t']) (xs ++ [p0, p1, p2]) ∧
    Below tb wr (w6.setCell ⟨tb, 2, none⟩ (.slice (some ⟨g6, 0, none⟩) (k + 1) cap6)) := by
  have hwt := size_of_block HBT
  have hs5 : wr.heap.size ≤ w5.heap.size := HB5.size
  have hs6 : w5.heap.size + 1 ≤ w6.heap.size := by have := HG6.size; simpa using this
  have hl := HO.lt
  have old : ∀ q, q < wr.heap.size → some q ≠ (Value.slice ka k kc).ownBlock → w6.heap[q]? = wr.heap[q]? := fun q hq hne =>
    (HG6.block q (by rw [World.size_alloc]; omega) hne).trans ((Below.heap_alloc w5 o5 q (by omega)).trans (HB5.block q hq))
  have low : ∀ q, q ≤ tb → w6.heap[q]? = wr.heap[q]? := fun q hq => old q (by omega) (fun e => by have := hl q e.symm; omega)
  have hsz : (w6.setCell ⟨tb, 2, none⟩ (.slice (some ⟨g6, 0, none⟩) (k + 1) cap6)).heap.size = w6.heap.size := by simp [World.setCell]
  have oth : ∀ q, q ≠ tb → (w6.setCell ⟨tb, 2, none⟩ (.slice (some ⟨g6, 0, none⟩) (k + 1) cap6)).heap[q]? = w6.heap[q]? := fun q hq => heap_setCell_other _ _ _ _ (show q ≠ tb from hq)
  refine ⟨?_, ownsRow_setCell_below HO6 (by show tb < _; omega) _, ?_, ?_⟩
  · rw [heap_setCell_same _ _ _ _ _ _ ((low _ (by omega)).trans HBT)]
    rfl
  · refine KidsAt.snoc (HK.keep (fun q hq => (oth q (by omega)).trans (old q hq.2.1 hq.2.2)) (fun q hq => ⟨hq.1, by rw [hsz]; omega, fun e => ?_⟩)) ?_
    · refine HT5.keep (fun q hq => ?_) (fun q hq => ?_) f _ _
      · have h1 : wr.heap.size ≤ q := hq.1
        rw [oth q (by omega), HG6.block q (by rw [World.size_alloc]; omega) (fun e => by have := hl q e.symm; omega), Below.heap_alloc w5 o5 q hq.2]
      · have h1 : wr.heap.size ≤ q := hq.1
        have h2 := hq.2
        refine ⟨by omega, by rw [hsz]; omega, fun e => ?_⟩
        simp only [Value.ownBlock, Option.some.injEq] at e
        rcases HA6 with h | h
        · have := hl g6 h; omega
        · omega
    · simp only [Value.ownBlock, Option.some.injEq] at e
      rcases HA6 with h | h
      · exact hq.2.2 (by rw [h, e])
      · have := hq.2.1; omega
  · refine ⟨(HG6.os.trans HB5.os), (HG6.tape.trans HB5.tape), (HG6.output.trans HB5.output), by rw [hsz]; omega, fun q hq => ?_⟩
    rw [oth _ (by omega), low _ (by omega)]

theorem app_fin {w wr w' : World} {f k kc tb c : Nat} {ts : List Tr} {o nn : Int} {ka : Option Addr} {xs : List Value} (ho : wr.ownsRow (tb + 1) 26 3 (.slice ka k kc) k xs) (htb : w.heap.size ≤ tb) (hc : c ≤ tb)
    (hkd : KidsAt wr (fun q => tb + 1 ≤ q ∧ q < wr.heap.size ∧ some q ≠ (Value.slice ka k kc).ownBlock) f ts xs) (hk : ts.length = k) (h1 : I64 o) (hn : I64 nn)
    (hsame : ∀ q, q ≠ c → w'.heap[q]? = wr.heap[q]?) (hsz : w'.heap.size = wr.heap.size) :
    TmD w' (fun q => w.heap.size ≤ q ∧ q < w'.heap.size) (f + 1) ⟨o, nn, ts⟩ (.agg #[.int .i64 o, .int .i64 nn, .slice ka k kc]) := by
  obtain ⟨a, cap, hv, hrow⟩ := hkd.row (D' := fun q => tb + 1 ≤ q ∧ q < wr.heap.size) ho hk.symm (fun g hg => ho.lt g hg) (fun x u hx => hx.keep (fun _ _ => rfl) (fun q hq => ⟨hq.1, hq.2.1⟩) f x u)
  rw [hk] at hv
  cases hv
  refine ⟨ka, kc, by rw [← hk], h1, hn, ?_⟩
  exact hrow.imp (fun q hq => hsame q (by omega)) (fun q hq => by omega) (fun x u hx => hx.keep (fun q hq => hsame q (by omega)) (fun q hq => by omega) f x u)

theorem put3_other {w : World} {c q : Nat} {x y z : Value} (h : q ≠ c) : (((w.setCell ⟨c, 0, none⟩ x).setCell ⟨c, 1, none⟩ y).setCell ⟨c, 2, none⟩ z).heap[q]? = w.heap[q]? := by
  rw [heap_setCell_other _ _ _ _ (show q ≠ c from h), heap_setCell_other _ _ _ _ (show q ≠ c from h), heap_setCell_other _ _ _ _ (show q ≠ c from h)]

/-- Ahead of the kids: the box of what comes out. -/
def CutR (w : World) (t : Tr) (nn : Int) (a : Option Addr) (cap : Nat) (tv : Value) (wx : World) : Prop :=
  ∃ tb : Nat, tv = .pointer (some ⟨tb, 0, none⟩) ∧ w.heap.size + 2 ≤ tb ∧ wx.heap[tb]? = some (.cells #[.int .i64 t.op, .int .i64 nn, .slice none 0 0] 26 (0, 0)) ∧ wx.heap[w.heap.size]? = some (.cells #[.int .i64 t.op, .int .i64 t.n, .slice a t.kids.length cap] 26 (0, 0)) ∧
    wx.heap[w.heap.size + 1]? = some (.cells #[.int .i64 0, .int .i64 0, .slice none 0 0] 26 (0, 0)) ∧ Below w.heap.size w wx

theorem cfRh (args : Array Value) (w : World) : (callFunc 27 args).run Tryd.prog w = .ok (.enter 27 args) w := cf_of Tryd.func27 (by kernel_rfl) (by kernel_rfl) args w

attribute [local go_sem ↓] Go.wp_at_zero Go.wp_at_succ

theorem box3_facts (w : World) (x0 x1 x2 : Obj) : (((w.alloc x0).alloc x1).alloc x2).heap[w.heap.size]? = some x0 ∧ (((w.alloc x0).alloc x1).alloc x2).heap[w.heap.size + 1]? = some x1 ∧ (((w.alloc x0).alloc x1).alloc x2).heap[w.heap.size + 2]? = some x2 ∧ Below w.heap.size w (((w.alloc x0).alloc x1).alloc x2) := by
  have h0 := heap_alloc_new w x0
  have h1 := heap_alloc_new (w.alloc x0) x1
  have h2 := heap_alloc_new ((w.alloc x0).alloc x1) x2
  rw [World.size_alloc] at h1
  rw [World.size_alloc, World.size_alloc] at h2
  refine ⟨?_, ?_, h2, (((Below.refl _ _).alloc (Nat.le_refl _) _).alloc (by simp) _).alloc (by simp; omega) _⟩
  · rw [Below.heap_alloc _ _ _ (by simp; omega), Below.heap_alloc _ _ _ (by simp)]; exact h0
  · rw [Below.heap_alloc _ _ _ (by simp)]; exact h1

theorem idx_take_succ (g : Nat → Tr → Tr) (ks : List Tr) (k : Nat) (hk : k < ks.length) : (ks.mapIdx g).take (k + 1) = (ks.mapIdx g).take k ++ [g k ks[k]] := by
  rw [List.take_succ_eq_append_getElem (by simpa using hk)]
  simp

set_option maxRecDepth 20000 in
set_option maxHeartbeats 2000000 in
theorem rshift_any (B f : Nat) (b fr : Int) : ∀ (t : Tr) (v : Value) (u : Int) (w : World), TmAt w B f t v → B ≤ w.heap.size → 0 ≤ b → b ≤ 1000000 → 0 ≤ fr + u → fr + u + 2 * f ≤ 2000000 → t.size ≤ 8388608 → Snd 1000000000 t →
    Calls Tryd.prog 27 #[v, .int .i64 b, .int .i64 (fr + u)] w (NewTm w f (shf b fr u t)) := by
  induction f with
  | zero => intro t v u w h; exact h.elim
  | succ f ih =>
    rintro t v u w ⟨a, cap, rfl, hop, hn, hrow⟩ hB hb0 hb1 hu0 hu1 hsz8 hsd
    have IH := hide ih; clear ih
    have HR := hide hrow
    have hlm : t.kids.length ≤ maxLen := Nat.le_trans hrow.1 hrow.2.1
    unfold maxLen at hlm
    clear hrow
    have HSD := hide hsd
    have HSZ := hide hsz8
    have hl8 : t.kids.length ≤ 8388608 := Nat.le_trans (len_size t) hsz8
    clear hsd hsz8
    obtain ⟨i, hi, hz0, hz1, hz2⟩ := info_parts Tryd.info26
    obtain ⟨ks, hks⟩ : ∃ ks, ks = t.kids.mapIdx (fun j k => shf b fr (u + (bnd t.op ((j : Nat) : Int) : Nat)) k) := ⟨_, rfl⟩
    obtain ⟨nn, hnn⟩ : ∃ nn, nn = if t.op = 1 ∧ fr + u ≤ t.n then t.n + b else t.n := ⟨_, rfl⟩
    rw [shf_eq, ← hks, ← hnn]
    have HKS := hide hks
    clear hks
    have HU1 := hide hu1
    have huu : fr + u ≤ 2000000 := by omega
    obtain ⟨N, hN⟩ : ∃ N, N = fr + u := ⟨_, rfl⟩
    rw [← hN] at hu0 huu hnn ⊢
    have HN := hide hN
    clear hN hu1
    have HV : Hid (t.op = 1 → 0 ≤ t.n ∧ t.n ≤ 1000000000) := hide (fun h => (HSD.out.top h).2)
    have hn64 : I64 nn := by
      rw [hnn]
      unfold I64 at hn ⊢
      split
      · rename_i h; have := HV.out h.1; omega
      · exact hn
    have HNN := hide hnn
    clear hnn
    obtain ⟨hx0, hx1, hx2, hx3⟩ := box3_facts w (.cells #[.int .i64 t.op, .int .i64 t.n, .slice a t.kids.length cap] 26) (.cells #[.int .i64 0, .int .i64 0, .slice none 0 0] 26) (.cells #[.int .i64 t.op, .int .i64 t.n, .slice none 0 0] 26)
    have HX0 := hide hx0; have HX1 := hide hx1; have HX2 := hide hx2; have HX3 := hide hx3
    clear hx0 hx1 hx2 hx3
    go_enter Tryd.func27, Tryd.ntmps27
    go_upto_region 2 with fail
    obtain ⟨WW, hWW⟩ : ∃ WW, WW = (((w.alloc (.cells #[.int .i64 t.op, .int .i64 t.n, .slice a t.kids.length cap] 26)).alloc (.cells #[.int .i64 0, .int .i64 0, .slice none 0 0] 26)).alloc (.cells #[.int .i64 t.op, .int .i64 t.n, .slice none 0 0] 26)) := ⟨_, rfl⟩
    rw [← hWW] at HX0 HX1 HX2 HX3 ⊢
    clear hWW
    obtain ⟨r0, r1, r2⟩ := blk3 HX0.out
    go_cut [22] (fun c wx => c = .bool (decide (t.op = 1 ∧ N ≤ t.n)) ∧ wx = WW)
    case first =>
      by_cases h1 : t.op = 1
      · have H1 := hide h1
        have hbq : (t.op == 1) = true := beq_iff_eq.2 h1
        clear h1
        go_wp2_with fail
        go_meet
        case rel => exact ⟨congrArg Value.bool (by simp [H1.out]), rfl⟩
      · have H1 := hide h1
        have hb1' := ne_beq h1
        clear h1
        go_wp2_with fail
        go_meet
        case rel => exact ⟨congrArg Value.bool (decide_eq_false (fun h => H1.out h.1)).symm, rfl⟩
    case rest =>
      obtain ⟨rfl, rfl⟩ := hcut
      go_upto_if 22 with fail
      go_cut [7] (fun tv wx => CutR w t nn a cap tv wx)
      case first =>
        by_cases h1 : t.op = 1 ∧ N ≤ t.n
        · have hv := HV.out h1.1
          have hq : nn = t.n + b := by rw [HNN.out, if_pos h1]
          have HQ := hide hq
          rw [decide_eq_true h1]
          clear h1 hq
          have z1 : wc.frozen? ⟨w.heap.size + 1 + 1, 1, none⟩ = false := frozen_of_block HX2.out 1
          have c1 : wc.cell? ⟨w.heap.size + 1 + 1, 1, none⟩ = some (.int .i64 t.n) := (cell_of_block HX2.out 1).trans rfl
          go_wp2_with fail
          go_meet
          case rel =>
            refine ⟨w.heap.size + 2, rfl, Nat.le_refl _, ?_, ?_, ?_, HX3.out.setCell (by show w.heap.size ≤ w.heap.size + 2; omega) _⟩
            · rw [heap_setCell_same _ _ _ _ _ _ HX2.out, HQ.out]; rfl
            · rw [heap_setCell_other _ _ _ _ (show w.heap.size ≠ w.heap.size + 2 by omega)]; exact HX0.out
            · rw [heap_setCell_other _ _ _ _ (show w.heap.size + 1 ≠ w.heap.size + 2 by omega)]; exact HX1.out
        · have hq : nn = t.n := by rw [HNN.out, if_neg h1]
          rw [decide_eq_false h1]
          have HQ := hide hq
          clear h1 hq
          go_wp2_with fail
          go_meet
          case rel => exact ⟨w.heap.size + 2, rfl, Nat.le_refl _, by rw [HQ.out]; exact HX2.out, HX0.out, HX1.out, HX3.out⟩
      case rest =>
        clear HX0 HX1 HX2 HX3 r0 r1 r2
        obtain ⟨tb, rfl, htb, hbt0, hbr0, hbz0, hbl0⟩ := hcut
        have HBT0 := hide hbt0; have HBR0 := hide hbr0; have HBZ0 := hide hbz0; have HBL0 := hide hbl0
        clear hbt0 hbr0 hbz0 hbl0
        go_wp2_with fail
        go_loopw [8] (fun i wr => ∃ (k : Nat) (kv : Value) (xs : List Value) (ts : List Tr), k ≤ t.kids.length ∧ i = .int .i64 k ∧ ts.length = k ∧ ts = ks.take k ∧ wr.heap[tb]? = some (.cells #[.int .i64 t.op, .int .i64 nn, kv] 26 (0, 0)) ∧ wr.ownsRow (tb + 1) 26 3 kv k xs ∧
            KidsAt wr (fun q => tb + 1 ≤ q ∧ q < wr.heap.size ∧ some q ≠ kv.ownBlock) f ts xs ∧ wr.heap[w.heap.size]? = some (.cells #[.int .i64 t.op, .int .i64 t.n, .slice a t.kids.length cap] 26 (0, 0)) ∧
            wr.heap[w.heap.size + 1]? = some (.cells #[.int .i64 0, .int .i64 0, .slice none 0 0] 26 (0, 0)) ∧ Below w.heap.size w wr) (fun i _ => t.kids.length - (intOf i).toNat)
        case atStart => exact ⟨0, .slice none 0 0, [], [], Nat.zero_le _, rfl, rfl, by simp, HBT0.out, World.ownsRow_nil _ _ _ _, KidsAt.nil _ _ _, HBR0.out, HBZ0.out, HBL0.out⟩
        case round =>
          obtain ⟨k, kv, xs, ts, hk1, rfl, hkl, hmd, hbt, hown, hkids, hbr, hbz, hbl⟩ := hrel
          obtain ⟨ka, kc, rfl, hkc1, hkc2⟩ := owns_form hown
          clear HBT0 HBR0 HBZ0 HBL0
          obtain ⟨b0, b1, b2⟩ := blk3 hbt
          have fz : wr.frozen? ⟨tb, 2, none⟩ = false := frozen_of_block hbt 2
          obtain ⟨r0, r1, r2⟩ := blk3 hbr
          have HBT := hide hbt; have HO := hide hown; have HK := hide hkids; have HBR := hide hbr; have HBZ := hide hbz; have HBL := hide hbl; have HMD := hide hmd; have HKL := hide hkl
          clear hbt hown hkids hbr hbz hbl hmd hkl
          unfold maxLen at hkc2
          by_cases hlt : k < t.kids.length
          · obtain ⟨kb, koff, kka, kkc, rfl, hbB, f0, f1, f2, hr⟩ := HR.out.form hlt
            have hkw : kb < w.heap.size := by omega
            have e0 := (HBL.out.cell (p := ⟨kb, koff + k * 3, none⟩) hkw).trans f0
            have e1 := (HBL.out.cell (p := ⟨kb, koff + k * 3 + 1, none⟩) hkw).trans f1
            have e2 := (HBL.out.cell (p := ⟨kb, koff + k * 3 + 2, none⟩) hkw).trans f2
            clear f0 f1 f2
            have hws := HBL.out.size
            have hwt := size_of_block HBT.out
            obtain ⟨bn, hbn⟩ : ∃ bn : Int, bn = (bnd t.op (k : Nat) : Nat) := ⟨_, rfl⟩
            have hbn0 : 0 ≤ bn := by omega
            have hbn2 : bn ≤ 2 := by have := bnd_le t.op (k : Nat); omega
            have HBI : Hid (∀ w', Calls Tryd.prog 45 #[.int .i64 t.op, .int .i64 (k : Nat)] w' fun e w'' => e = .returned (.int .i64 bn) ∧ w'' = w') := hide (fun w' => by rw [hbn]; exact rbinders_any t.op (k : Nat) w')
            obtain ⟨p, hp⟩ : ∃ p, p = t.kids[k] := ⟨_, rfl⟩
            rw [← hp] at e0 e1 e2 hr
            have HTk : Hid (TmAt wr B f p (.agg #[.int .i64 p.op, .int .i64 p.n, .slice kka p.kids.length kkc])) := TmAt.below hr HBL.out hB (Nat.le_refl _)
            have HSK : Hid (Snd 1000000000 p) := hide (by rw [hp]; exact HSD.out.kid (List.getElem_mem hlt))
            have HZK : Hid (p.size ≤ 8388608) := hide (by rw [hp]; have := Tr.kid_size (List.getElem_mem hlt); have := HSZ.out; omega)
            have HSU : Hid (ks.take (k + 1) = ks.take k ++ [shf b fr (u + bn) p]) := hide (by rw [HKS.out, idx_take_succ _ _ _ hlt, hbn, hp])
            have HC : Hid (Calls Tryd.prog 27 #[.agg #[.int .i64 p.op, .int .i64 p.n, .slice kka p.kids.length kkc], .int .i64 b, .int .i64 (N + bn)] wr.drew (NewTm wr.drew f (shf b fr (u + bn) p))) := hide (by
              rw [show N + bn = fr + (u + bn) by rw [HN.out]; omega]
              exact IH.out p _ (u + bn) _ (TmD.drew HTk.out) (by rw [size_drew]; omega) hb0 hb1 (by have := HN.out; omega) (by have := HU1.out; omega) HZK.out HSK.out)
            clear hr hbn hp
            have i1 : (0 : Int) ≤ (k : Int) := by omega
            have i2 : (k : Int) < (t.kids.length : Int) := by omega
            go_wp2_with fail
            go_region_law (first
              | (refine step_append_lies _ (by rfl) (.tmp 36) (.tmp 50) 24 (by rfl) (tb + 1) 26 i (.agg #[.int .i64 0, .int .i64 0, .slice none 0 0]) 3 40 Tryd.underlying24 hi hz0 hz1 hz2 rfl (by decide) (.slice ka k kc) k xs (by rfl) (HO5.out.alloc _) ⟨w5.heap.size, 0, none⟩ 1 1 [.int .i64 p0, .int .i64 p1, .slice pa pl pc] (by rfl) (by rfl) (World.news_of_block (heap_alloc_new w5 _)) (fun u hu => by simp at hu; rcases hu with rfl | rfl | rfl <;> rfl) (by omega) (by unfold maxLen; omega) (by omega) (by rw [World.size_alloc]; omega) (w5.heap.size + 1) (by simp) ?_
                 intro g6 cap6 w6 hown6 hgrow6 hat6 hlt6
                 have hn6 : Hid (w6.heap[tb]? = w5.heap[tb]?) := (hgrow6.block tb (by rw [World.size_alloc]; omega) (fun e => by have := HO.out.lt _ e.symm; omega)).trans (Below.heap_alloc w5 _ _ (by omega))
                 have hb6 : Hid (w6.heap[tb]? = some (.cells #[.int .i64 t.op, .int .i64 nn, .slice ka k kc] 26 (0, 0))) := (hn6.out.trans (HB5.out.block tb hwt)).trans HBT.out
                 have d6 : w6.cell? ⟨tb, 2, none⟩ = some (.slice ka k kc) := (cell_of_block hb6.out 2).trans rfl
                 have z6 : w6.frozen? ⟨tb, 2, none⟩ = false := frozen_of_block hb6.out 2
                 have HO6 := hide hown6
                 have HG6 := hide hgrow6
                 have HA6 := hide hat6
                 have HL6 := hide hlt6
                 clear hown6 hgrow6 hat6 hlt6)
              | (refine step_call2 (by rfl) 45 (.tmp 45) (.tmp 46) #[3, 3] (by rfl) cfBn (.int .i64 t.op) (.int .i64 (k : Nat)) (by rfl) (by rfl) _ (HBI.out _) ?_
                 rintro e w4' ⟨rfl, h4'⟩
                 rw [h4']
                 clear h4' w4'
                 refine ⟨_, rfl, ?_⟩)
              | (refine step_call3 (by rfl) 27 (.tmp 41) (.tmp 42) (.tmp 48) #[26, 3, 3] (by rfl) cfRh (.agg #[.int .i64 p.op, .int .i64 p.n, .slice kka p.kids.length kkc]) (.int .i64 b) (.int .i64 (N + bn)) (by rfl) (by rfl) (by exact congrArg (Value.int IntKind.i64) (by rw [IntKind.wrap_i64]; omega)) _ HC.out ?_
                 rintro e w5 ⟨p0, p1, pa, pl, pc, rfl, htm5, hb5⟩
                 refine ⟨_, rfl, ?_⟩
                 have HB5 : Hid (Below wr.heap.size wr w5) := ⟨hb5.os, hb5.tape, hb5.output, hb5.size, hb5.block⟩
                 have hs5 : wr.heap.size ≤ w5.heap.size := HB5.out.size
                 have HT5 : Hid (TmD w5 (fun q => wr.heap.size ≤ q ∧ q < w5.heap.size) f (shf b fr (u + bn) p) (.agg #[.int .i64 p0, .int .i64 p1, .slice pa pl pc])) := htm5
                 have HO5 : Hid (w5.ownsRow (tb + 1) 26 3 (.slice ka k kc) k xs) := owns_keep HO.out (fun q _ hq2 => HB5.out.block q hq2)
                 have d5 := (World.cell?_of_block (a := ⟨tb, 2, none⟩) (HB5.out.block tb hwt)).trans b2
                 have e5 : ∀ o, (w5.alloc o).cell? ⟨tb, 2, none⟩ = some (.slice ka k kc) := fun o => (World.cell?_of_block (a := ⟨tb, 2, none⟩) (Below.heap_alloc w5 o tb (by omega))).trans d5
                 clear htm5 hb5))
            all_goals
              obtain ⟨s1, s2, s3, s4⟩ := app_grow HBT.out HO.out HK.out HT5.out HB5.out HO6.out HG6.out HA6.out
              have HS := hide s1; have HS2 := hide s2; have HS3 := hide s3
              have HS4 := hide ((s4.block _ (by omega)).trans HBR.out); have HS5 := hide ((s4.block _ (by omega)).trans HBZ.out); have HS6 := hide (HBL.out.trans (s4.mono (by omega)))
              clear s1 s2 s3 s4
              go_wp2_with fail
              go_roundw
              case rel => exact ⟨k + 1, _, _, ts ++ [shf b fr (u + bn) p], by omega, by go_num, by have := HKL.out; simp [this], by rw [HSU.out, ← HMD.out], HS.out, HS2.out, HS3.out, HS4.out, HS5.out, HS6.out⟩
              case measure => simp [intOf]; omega
          · have u0 : wr.frozen? ⟨w.heap.size + 1, 0, none⟩ = false := frozen_of_block HBZ.out 0
            have u1 : wr.frozen? ⟨w.heap.size + 1, 1, none⟩ = false := frozen_of_block HBZ.out 1
            have u2 : wr.frozen? ⟨w.heap.size + 1, 2, none⟩ = false := frozen_of_block HBZ.out 2
            obtain ⟨y0, y1, y2⟩ := blk3 HBZ.out
            have HKK : Hid (ts = ks) := hide (by rw [HMD.out, List.take_of_length_le (by rw [HKS.out]; simp; omega)])
            go_wp2_with fail
            refine bodyPost_ret (v := .agg #[.int .i64 t.op, .int .i64 nn, .slice ka k kc]) (by simp [results, Tryd.results27, go_sem, y0, y1, y2]) rfl ⟨_, _, _, _, _, rfl, by rw [← HKK.out]; exact app_fin HO.out (by omega) (by omega) HK.out HKL.out hop hn64 (fun q hq => put3_other (c := w.heap.size + 1) hq) (by simp [World.setCell]), ?_⟩
            · exact ((HBL.out.setCell (by simp) _).setCell (by simp) _).setCell (by simp) _
#print axioms rshift_any
end Go.Proofs.YtjiecahopdaghabDoor
