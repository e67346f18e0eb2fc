/- Make: the term that it makes, in new memory. -/
import Derived.Test.YtpmaagafcpaajaaDoorMp
import Derived.Test.YtpmaagafcpaajaaDoorPl
import Derived.Test.YtpmaagafcpaajaaDoorStep
import Derived.Deep.DeepCutAuto
import Derived.Deep.CutBlock
namespace Go.Proofs.YtpmaagafcpaajaaDoor
open Go.RowKit

set_option maxRecDepth 20000 in
set_option maxHeartbeats 1000000 in
theorem kid_any (B f i : Nat) (r : Tr) (v : Value) (w : World) (h : TmAt w B f r v) (hB : B ≤ w.heap.size) :
    Calls Tryd.prog 36 #[v, .int .i64 (i : Nat)] w fun e w' => ∃ x0 x1 x2 f', e = .returned (.agg #[x0, x1, x2]) ∧ TmAt w' B f' (kidR r i) (.agg #[x0, x1, x2]) ∧ Below w.heap.size w w' := by
  obtain ⟨g, rfl⟩ : ∃ g, f = g + 1 := by cases f with | zero => exact h.elim | succ g => exact ⟨g, rfl⟩
  obtain ⟨a, cap, rfl, hop, hn, hrow⟩ := h
  have hlm : r.kids.length ≤ maxLen := Nat.le_trans hrow.1 hrow.2.1
  unfold maxLen at hlm
  have HR := hide hrow
  clear hrow
  by_cases hlt : i < r.kids.length
  · obtain ⟨b, off, rfl, hbB, hx⟩ := HR.out.2.2 (by intro h; simp [h] at hlt)
    obtain ⟨x0, x1, x2, e0, e1, e2, hr⟩ := hx i hlt
    have hbw : b < w.heap.size := Nat.lt_of_lt_of_le hbB hB
    have f0 : ∀ o o', ((w.alloc o).alloc o').cell? ⟨b, off + i * 3, none⟩ = some x0 := fun o o' => by rw [(((Below.refl w.heap.size w).alloc (Nat.le_refl _) o).alloc (by simp) o').cell hbw]; exact e0
    have f1 : ∀ o o', ((w.alloc o).alloc o').cell? ⟨b, off + i * 3 + 1, none⟩ = some x1 := fun o o' => by rw [(((Below.refl w.heap.size w).alloc (Nat.le_refl _) o).alloc (by simp) o').cell hbw]; exact e1
    have f2 : ∀ o o', ((w.alloc o).alloc o').cell? ⟨b, off + i * 3 + 2, none⟩ = some x2 := fun o o' => by rw [(((Below.refl w.heap.size w).alloc (Nat.le_refl _) o).alloc (by simp) o').cell hbw]; exact e2
    obtain ⟨g', rfl⟩ : ∃ g', g = g' + 1 := by cases g with | zero => exact hr.elim | succ g => exact ⟨g, rfl⟩
    have HK := hide hr
    obtain ⟨a2, cap2, hv, _, _, _⟩ := hr
    simp only [Value.agg.injEq, Array.mk.injEq, List.cons.injEq, and_true] at hv
    obtain ⟨rfl, rfl, rfl⟩ := hv
    clear hx e0 e1 e2
    go_enter Tryd.func36, Tryd.ntmps36
    go_wp2_with fail
    refine bodyPost_ret (v := .agg #[.int .i64 r.kids[i].op, .int .i64 r.kids[i].n, .slice a2 r.kids[i].kids.length cap2]) (by simp [results, Tryd.results36, go_sem]) rfl ⟨_, _, _, g' + 1, rfl, ?_, ?_⟩
    · rw [kidR, dif_pos hlt]; exact TmAt.below HK.out (((Below.refl w.heap.size w).alloc (Nat.le_refl _) _).alloc (by simp) _) hB (Nat.le_refl _)
    · exact ((Below.refl w.heap.size w).alloc (Nat.le_refl _) _).alloc (by simp) _
  · go_enter Tryd.func36, Tryd.ntmps36
    go_wp2_with fail
    refine bodyPost_ret (v := .agg #[.int .i64 0, .int .i64 (wrap64 (r.n + i)), .slice none 0 0]) (by simp [results, Tryd.results36, go_sem]) rfl ⟨_, _, _, 1, rfl, by rw [kidR, dif_neg hlt]; exact ⟨none, 0, rfl, by unfold I64; simp only; omega, (by unfold I64; simp only; unfold wrap64; omega), RowAt.nil (by unfold maxLen; omega)⟩, ?_⟩
    · exact ((Below.refl w.heap.size w).alloc (Nat.le_refl _) _).alloc (by simp) _

/-- What Make answers, so deep. -/
def MakeC (d : Nat) : Prop := ∀ (B f : Nat) (r : Tr) (v : Value) (dp vars : Int) (w : World), TmAt w B f r v → B ≤ w.heap.size → dp = d → dp ≤ 20 → 0 ≤ vars → vars + 2 * dp ≤ 100 →
  Calls Tryd.prog 11 #[v, .int .i64 dp, .int .i64 vars] w fun e w' => ∃ p0 p1 pa pl pc, e = .returned (.agg #[.int .i64 p0, .int .i64 p1, .slice pa pl pc]) ∧ TmD w' (fun k => w.heap.size ≤ k ∧ k < w'.heap.size) (d + 1) (mkT d vars r) (.agg #[.int .i64 p0, .int .i64 p1, .slice pa pl pc]) ∧ Below w.heap.size w w'

/-- Behind the Op. -/
def CutA (w : World) (d : Nat) (r : Tr) (a : Option Addr) (cap : Nat) (ov : Value) (wx : World) : Prop :=
  ∃ o : Int, ov = .int .i64 o ∧ 1 ≤ o ∧ o ≤ 30 ∧ o = mkOp d r ∧ (d = 0 → ar o = 0) ∧ wx.heap[w.heap.size]? = some (.cells #[.int .i64 r.op, .int .i64 r.n, .slice a r.kids.length cap] 24 (0, 0)) ∧
    wx.heap[w.heap.size + 1]? = some (.cells #[.int .i64 0, .int .i64 0, .slice none 0 0] 29 (0, 0)) ∧ Below w.heap.size w wx

/-- Behind the number. -/
def CutB (w : World) (vars o : Int) (r : Tr) (a : Option Addr) (cap : Nat) (tv : Value) (wx : World) : Prop :=
  ∃ (tb : Nat) (n : Int), tv = .pointer (some ⟨tb, 0, none⟩) ∧ w.heap.size + 2 ≤ tb ∧ n = mkN o vars r ∧ wx.heap[tb]? = some (.cells #[.int .i64 o, .int .i64 n, .slice none 0 0] 29 (0, 0)) ∧ wx.heap[w.heap.size]? = some (.cells #[.int .i64 r.op, .int .i64 r.n, .slice a r.kids.length cap] 24 (0, 0)) ∧
    wx.heap[w.heap.size + 1]? = some (.cells #[.int .i64 0, .int .i64 0, .slice none 0 0] 29 (0, 0)) ∧ Below w.heap.size w wx

theorem step_call2 {P : Program} {ops : Array Oper} {o : Oper} {a : Act} {w : World} {K : Act → World → Prop} {Q : Exit → Act → World → Prop} {E : Prop} (hgd : o.guard = none) (k : Nat) (x y : Operand) (ts : Array TypeId)
    (ho : o.op = .call { callee := .value (.func k), args := #[x, y], argTypes := ts }) (hcf : ∀ vs w, (callFunc k vs).run P w = .ok (.enter k vs) w) (v u : Value) (hv : a.eval x = v) (hu : a.eval y = u)
    (R : Ending → World → Prop) (h : Calls P k #[v, u] w R) (hK : ∀ e w', R e w' → ∃ u, e = .returned u ∧ K (a.put o.dst u) w') :
    if Region.wanted o (yielded ops a.tmps) = true then Oper.wp P o a w K Q else E := by
  have hw : Region.wanted o (yielded ops a.tmps) = true := by simp [Region.wanted, hgd]
  rw [if_pos hw]
  unfold Oper.wp
  have hrun : (execOp a.eval o).run P w = .ok (.enter k #[v, u]) w := by
    have hf : a.eval (.func k) = .func (.func k) #[] #[] := rfl
    simp [execOp, ho, resolve, invoke, hcf, hv, hu, hf, Deferred.ofValue]
  rw [hrun, Oper.upon_enter]
  refine h.mono ?_
  intro e w' hr
  obtain ⟨u, rfl, hk⟩ := hK e w' hr
  exact hk

theorem step_call3 {P : Program} {ops : Array Oper} {o : Oper} {a : Act} {w : World} {K : Act → World → Prop} {Q : Exit → Act → World → Prop} {E : Prop} (hgd : o.guard = none) (k : Nat) (x y z : Operand) (ts : Array TypeId)
    (ho : o.op = .call { callee := .value (.func k), args := #[x, y, z], argTypes := ts }) (hcf : ∀ vs w, (callFunc k vs).run P w = .ok (.enter k vs) w) (v u t : Value) (hv : a.eval x = v) (hu : a.eval y = u) (ht : a.eval z = t)
    (R : Ending → World → Prop) (h : Calls P k #[v, u, t] w R) (hK : ∀ e w', R e w' → ∃ u, e = .returned u ∧ K (a.put o.dst u) w') :
    if Region.wanted o (yielded ops a.tmps) = true then Oper.wp P o a w K Q else E := by
  have hw : Region.wanted o (yielded ops a.tmps) = true := by simp [Region.wanted, hgd]
  rw [if_pos hw]
  unfold Oper.wp
  have hrun : (execOp a.eval o).run P w = .ok (.enter k #[v, u, t]) w := by
    have hf : a.eval (.func k) = .func (.func k) #[] #[] := rfl
    simp [execOp, ho, resolve, invoke, hcf, hv, hu, ht, hf, Deferred.ofValue]
  rw [hrun, Oper.upon_enter]
  refine h.mono ?_
  intro e w' hr
  obtain ⟨u, rfl, hk⟩ := hK e w' hr
  exact hk

theorem cfMk (args : Array Value) (w : World) : (callFunc 11 args).run Tryd.prog w = .ok (.enter 11 args) w := cf_of Tryd.func11 (by kernel_rfl) (by kernel_rfl) args w
theorem cfKd (args : Array Value) (w : World) : (callFunc 36 args).run Tryd.prog w = .ok (.enter 36 args) w := cf_of Tryd.func36 (by kernel_rfl) (by kernel_rfl) args w
theorem cfBn (args : Array Value) (w : World) : (callFunc 19 args).run Tryd.prog w = .ok (.enter 19 args) w := cf_of Tryd.func19 (by kernel_rfl) (by kernel_rfl) args w

/-- One kid more. -/
theorem make_grow {w wr w5 w6 : World} {tb f k kc g6 cap6 : Nat} {ka : Option Addr} {x0 x1 p0 p1 p2 r0 r1 r2 z0 z1 z2 : Value} {ts : List Tr} {t' : Tr} {xs : List Value} {o5 : Obj} (htb : w.heap.size + 2 ≤ tb)
    (HBT : wr.heap[tb]? = some (.cells #[x0, x1, .slice ka k kc] 29 (0, 0))) (HO : wr.ownsRow (tb + 1) 29 3 (.slice ka k kc) k xs)
    (HK : KidsAt wr (fun q => tb + 1 ≤ q ∧ q < wr.heap.size ∧ some q ≠ (Value.slice ka k kc).ownBlock) f ts xs)
    (HBR : wr.heap[w.heap.size]? = some (.cells #[r0, r1, r2] 24 (0, 0))) (HBZ : wr.heap[w.heap.size + 1]? = some (.cells #[z0, z1, z2] 29 (0, 0))) (HBL : Below w.heap.size w wr)
    (HT5 : TmD w5 (fun q => wr.heap.size ≤ q ∧ q < w5.heap.size) f t' (.agg #[p0, p1, p2])) (HB5 : Below wr.heap.size wr w5)
    (HO6 : w6.ownsRow (tb + 1) 29 3 (.slice (some ⟨g6, 0, none⟩) (k + 1) cap6) (k + 1) (xs ++ [p0, p1, p2])) (HG6 : (w5.alloc o5).grownBy w6 (Value.slice ka k kc).ownBlock)
    (HA6 : (Value.slice ka k kc).ownBlock = some g6 ∨ g6 = w5.heap.size + 1) :
    (w6.setCell ⟨tb, 2, none⟩ (.slice (some ⟨g6, 0, none⟩) (k + 1) cap6)).heap[tb]? = some (.cells #[x0, x1, .slice (some ⟨g6, 0, none⟩) (k + 1) cap6] 29 (0, 0)) ∧
    (w6.setCell ⟨tb, 2, none⟩ (.slice (some ⟨g6, 0, none⟩) (k + 1) cap6)).ownsRow (tb + 1) 29 3 (.slice (some ⟨g6, 0, none⟩) (k + 1) cap6) (k + 1) (xs ++ [p0, p1, p2]) ∧
    KidsAt (w6.setCell ⟨tb, 2, none⟩ (.slice (some ⟨g6, 0, none⟩) (k + 1) cap6)) (fun q => tb + 1 ≤ q ∧ q < (w6.setCell ⟨tb, 2, none⟩ (.slice (some ⟨g6, 0, none⟩) (k + 1) cap6)).heap.size ∧ some q ≠ (Value.slice (some ⟨g6, 0, none⟩) (k + 1) cap6).ownBlock) f (ts ++ [t']) (xs ++ [p0, p1, p2]) ∧
    (w6.setCell ⟨tb, 2, none⟩ (.slice (some ⟨g6, 0, none⟩) (k + 1) cap6)).heap[w.heap.size]? = some (.cells #[r0, r1, r2] 24 (0, 0)) ∧
    (w6.setCell ⟨tb, 2, none⟩ (.slice (some ⟨g6, 0, none⟩) (k + 1) cap6)).heap[w.heap.size + 1]? = some (.cells #[z0, z1, z2] 29 (0, 0)) ∧
    Below w.heap.size w (w6.setCell ⟨tb, 2, none⟩ (.slice (some ⟨g6, 0, none⟩) (k + 1) cap6)) := by
  have hwt := size_of_block HBT
  have hs5 : wr.heap.size ≤ w5.heap.size := HB5.size
  have hs6 : w5.heap.size + 1 ≤ w6.heap.size := by have := HG6.size; simpa using this
  have hl := HO.lt
  have old : ∀ q, q < wr.heap.size → some q ≠ (Value.slice ka k kc).ownBlock → w6.heap[q]? = wr.heap[q]? := fun q hq hne =>
    (HG6.block q (by rw [World.size_alloc]; omega) hne).trans ((Below.heap_alloc w5 o5 q (by omega)).trans (HB5.block q hq))
  have low : ∀ q, q ≤ tb → w6.heap[q]? = wr.heap[q]? := fun q hq => old q (by omega) (fun e => by have := hl q e.symm; omega)
  have hsz : (w6.setCell ⟨tb, 2, none⟩ (.slice (some ⟨g6, 0, none⟩) (k + 1) cap6)).heap.size = w6.heap.size := by simp [World.setCell]
  have oth : ∀ q, q ≠ tb → (w6.setCell ⟨tb, 2, none⟩ (.slice (some ⟨g6, 0, none⟩) (k + 1) cap6)).heap[q]? = w6.heap[q]? := fun q hq => heap_setCell_other _ _ _ _ (show q ≠ tb from hq)
  refine ⟨?_, ownsRow_setCell_below HO6 (by show tb < _; omega) _, ?_, ?_, ?_, ?_⟩
  · rw [heap_setCell_same _ _ _ _ _ _ ((low _ (by omega)).trans HBT)]
    rfl
  · refine KidsAt.snoc (HK.keep (fun q hq => (oth q (by omega)).trans (old q hq.2.1 hq.2.2)) (fun q hq => ⟨hq.1, by rw [hsz]; omega, fun e => ?_⟩)) ?_
    · refine HT5.keep (fun q hq => ?_) (fun q hq => ?_) f _ _
      · have h1 : wr.heap.size ≤ q := hq.1
        rw [oth q (by omega), HG6.block q (by rw [World.size_alloc]; omega) (fun e => by have := hl q e.symm; omega), Below.heap_alloc w5 o5 q hq.2]
      · have h1 : wr.heap.size ≤ q := hq.1
        have h2 := hq.2
        refine ⟨by omega, by rw [hsz]; omega, fun e => ?_⟩
        simp only [Value.ownBlock, Option.some.injEq] at e
        rcases HA6 with h | h
        · have := hl g6 h; omega
        · omega
    · simp only [Value.ownBlock, Option.some.injEq] at e
      rcases HA6 with h | h
      · exact hq.2.2 (by rw [h, e])
      · have := hq.2.1; omega
  · rw [oth _ (by omega), low _ (by omega)]; exact HBR
  · rw [oth _ (by omega), low _ (by omega)]; exact HBZ
  · refine Below.trans HBL ⟨(HG6.os.trans HB5.os), (HG6.tape.trans HB5.tape), (HG6.output.trans HB5.output), by rw [hsz]; omega, fun q hq => ?_⟩
    rw [oth _ (by omega), low _ (by omega)]

theorem make_fin {w wr w' : World} {f k kc tb : Nat} {ts : List Tr} {o nn : Int} {ka : Option Addr} {xs : List Value} (ho : wr.ownsRow (tb + 1) 29 3 (.slice ka k kc) k xs) (htb : w.heap.size + 2 ≤ tb)
    (hkd : KidsAt wr (fun q => tb + 1 ≤ q ∧ q < wr.heap.size ∧ some q ≠ (Value.slice ka k kc).ownBlock) f ts xs) (hk : ts.length = k) (h1 : 1 ≤ o) (h2 : o ≤ 30) (hn : I64 nn)
    (hsame : ∀ q, q ≠ w.heap.size + 1 → w'.heap[q]? = wr.heap[q]?) (hsz : w'.heap.size = wr.heap.size) :
    TmD w' (fun q => w.heap.size ≤ q ∧ q < w'.heap.size) (f + 1) ⟨o, nn, ts⟩ (.agg #[.int .i64 o, .int .i64 nn, .slice ka k kc]) := by
  obtain ⟨a, cap, hv, hrow⟩ := hkd.row (D' := fun q => tb + 1 ≤ q ∧ q < wr.heap.size) ho hk.symm (fun g hg => ho.lt g hg) (fun x u hx => hx.keep (fun _ _ => rfl) (fun q hq => ⟨hq.1, hq.2.1⟩) f x u)
  rw [hk] at hv
  cases hv
  refine ⟨ka, kc, by rw [← hk], by unfold I64; simp only; omega, hn, ?_⟩
  exact hrow.imp (fun q hq => hsame q (by omega)) (fun q hq => by omega) (fun x u hx => hx.keep (fun q hq => hsame q (by omega)) (fun q hq => by omega) f x u)

theorem wrap_same (x : Int) (h1 : 0 ≤ x) (h2 : x ≤ 1000) : IntKind.i64.wrap x = x := by rw [IntKind.wrap_i64]; omega

theorem i64_wi (x m : Int) (h : 0 < m) (h2 : m ≤ 1000) : I64 (wi x m) := by
  have := wi_n x m h
  unfold I64
  omega
theorem mkOp_low {d : Nat} {r : Tr} {dp o x : Int} (h : dp ≤ 0 ∧ 0 < ar o) (hd : dp = d) (ho : o = 1 + wi r.op 30) (hx : (if wi r.op 5 = 0 then 1 else if wi r.op 5 = 1 then 11 else if wi r.op 5 = 2 then 25 else if wi r.op 5 = 3 then 15 else 10) = x) : x = mkOp d r := by
  subst ho
  rw [mkOp, if_pos ⟨by omega, h.2⟩, hx]
theorem mkOp_high {d : Nat} {r : Tr} {dp o : Int} (h : ¬ (dp ≤ 0 ∧ 0 < ar o)) (hd : dp = d) (ho : o = 1 + wi r.op 30) : o = mkOp d r := by
  subst ho
  rw [mkOp, if_neg (fun h2 => h ⟨by omega, h2.2⟩)]
theorem dec1 {dp : Int} {k : Nat} (h : dp ≤ 0) : decide (0 < k) = decide (dp ≤ 0 ∧ 0 < k) := by simp [h]
theorem dec2 {dp : Int} {k : Nat} (h : ¬ dp ≤ 0) : false = decide (dp ≤ 0 ∧ 0 < k) := by simp [h]

attribute [local go_sem ↓] Go.wp_at_zero Go.wp_at_succ

set_option maxRecDepth 20000 in
set_option maxHeartbeats 2000000 in
theorem make_all (d : Nat) (ih : ∀ d', d = d' + 1 → MakeC d') : MakeC d := by
  intro B f r v dp vars w h hB hdp hd20 hv0 hv1
  have IH := hide ih; clear ih
  have hd0 : 0 ≤ dp := by omega
  have HDP := hide hdp; clear hdp
  obtain ⟨g, rfl⟩ : ∃ g, f = g + 1 := by cases f with | zero => exact h.elim | succ g => exact ⟨g, rfl⟩
  have HT := hide h
  obtain ⟨a, cap, rfl, hop, hn, hrow⟩ := h
  have hlm : r.kids.length ≤ maxLen := Nat.le_trans hrow.1 hrow.2.1
  unfold maxLen at hlm
  clear hrow
  obtain ⟨i, hi, hz0, hz1, hz2⟩ := info_parts Tryd.info29
  have hw1 := wi_n r.op 30 (by decide)
  have hw5 := wi_n r.op 5 (by decide)
  have hx1 : ((w.alloc (.cells #[.int .i64 r.op, .int .i64 r.n, .slice a r.kids.length cap] 24)).alloc (.cells #[.int .i64 0, .int .i64 0, .slice none 0 0] 29)).heap[w.heap.size]? = some (.cells #[.int .i64 r.op, .int .i64 r.n, .slice a r.kids.length cap] 24 (0, 0)) := by
    rw [Below.heap_alloc _ _ _ (by simp)]; exact heap_alloc_new w _
  have hx2 : ((w.alloc (.cells #[.int .i64 r.op, .int .i64 r.n, .slice a r.kids.length cap] 24)).alloc (.cells #[.int .i64 0, .int .i64 0, .slice none 0 0] 29)).heap[w.heap.size + 1]? = some (.cells #[.int .i64 0, .int .i64 0, .slice none 0 0] 29 (0, 0)) := by
    have := heap_alloc_new (w.alloc (.cells #[.int .i64 r.op, .int .i64 r.n, .slice a r.kids.length cap] 24)) (.cells #[.int .i64 0, .int .i64 0, .slice none 0 0] 29)
    rw [World.size_alloc] at this
    exact this
  have hx3 : Below w.heap.size w ((w.alloc (.cells #[.int .i64 r.op, .int .i64 r.n, .slice a r.kids.length cap] 24)).alloc (.cells #[.int .i64 0, .int .i64 0, .slice none 0 0] 29)) := ((Below.refl _ _).alloc (Nat.le_refl _) _).alloc (by simp) _
  have hx4 : ((w.alloc (.cells #[.int .i64 r.op, .int .i64 r.n, .slice a r.kids.length cap] 24)).alloc (.cells #[.int .i64 0, .int .i64 0, .slice none 0 0] 29)).heap.size = w.heap.size + 2 := by simp
  have HX1 := hide hx1; have HX2 := hide hx2; have HX3 := hide hx3; have HX4 := hide hx4
  clear hx1 hx2 hx3 hx4
  go_enter Tryd.func11, Tryd.ntmps11
  go_wp2_with fail
  refine (within_n r.op 30 _ (by decide) (by decide)).mono ?_
  rintro e w1 ⟨rfl, rfl⟩
  go_upto_region 2 with fail
  generalize ((w.alloc (.cells #[.int .i64 r.op, .int .i64 r.n, .slice a r.kids.length cap] 24)).alloc (.cells #[.int .i64 0, .int .i64 0, .slice none 0 0] 29)) = W at *
  obtain ⟨o, ho⟩ : ∃ o, o = 1 + wi r.op 30 := ⟨_, rfl⟩
  have ho1 : 1 ≤ o := by omega
  have ho2 : o ≤ 30 := by omega
  rw [← ho]
  have HOE := hide ho
  clear ho hw1
  go_cut [20] (fun c wx => c = .bool (decide (dp ≤ 0 ∧ 0 < ar o)) ∧ wx = W)
  case first =>
    by_cases h0 : dp ≤ 0
    · have H0 := hide h0
      go_wp2_with fail
      refine (arity_any o _ ho1 ho2).mono ?_
      rintro e w2 ⟨rfl, rfl⟩
      go_wp2_with fail
      go_meet
      case rel => exact ⟨congrArg Value.bool (dec1 H0.out), rfl⟩
    · have H0 := hide h0
      go_wp2_with fail
      go_meet
      case rel => exact ⟨congrArg Value.bool (dec2 (Int.not_le.2 H0.out)), rfl⟩
  case rest =>
    obtain ⟨rfl, rfl⟩ := hcut
    go_upto_if 20 with fail
    go_cut [7] (fun ov wx => CutA w d r a cap ov wx)
    case first =>
      by_cases h1 : dp ≤ 0 ∧ 0 < ar o
      · have HH1 := hide h1
        rw [decide_eq_true h1]
        obtain ⟨⟨c0, c1, c2⟩, _⟩ := cells_z HX1.out
        go_wp2_with fail
        refine (within_n r.op 5 _ (by decide) (by decide)).mono ?_
        rintro e w2 ⟨rfl, rfl⟩
        have hs := HX4.out
        have HY1 : Hid (∀ o, (wc.alloc o).heap[w.heap.size]? = some (.cells #[.int .i64 r.op, .int .i64 r.n, .slice a r.kids.length cap] 24 (0, 0))) := fun o => (Below.heap_alloc wc o _ (by omega)).trans HX1.out
        have HY2 : Hid (∀ o, (wc.alloc o).heap[w.heap.size + 1]? = some (.cells #[.int .i64 0, .int .i64 0, .slice none 0 0] 29 (0, 0))) := fun o => (Below.heap_alloc wc o _ (by omega)).trans HX2.out
        have HY3 : Hid (∀ o, Below w.heap.size w (wc.alloc o)) := fun o => HX3.out.alloc (by omega) o
        clear hs
        rcases (show wi r.op 5 = 0 ∨ wi r.op 5 = 1 ∨ wi r.op 5 = 2 ∨ wi r.op 5 = 3 ∨ wi r.op 5 = 4 by omega) with hq | hq | hq | hq | hq
        all_goals
          have HQ := hide hq
          rw [hq]
          clear hq
          go_wp2_with fail
          go_meet
          case rel => exact ⟨_, rfl, by decide, by decide, mkOp_low HH1.out HDP.out HOE.out (by rw [HQ.out]; rfl), fun _ => rfl, HY1.out _, HY2.out _, HY3.out _⟩
      · have HH1 := hide h1
        rw [decide_eq_false h1]
        go_wp2_with fail
        go_meet
        case rel => exact ⟨o, rfl, ho1, ho2, mkOp_high HH1.out HDP.out HOE.out, fun h => by have := HDP.out; omega, HX1.out, HX2.out, HX3.out⟩
    case rest =>
      clear HX1 HX2 HX3 HX4 ho1 ho2 hw5 HOE o
      obtain ⟨o, rfl, ho1, ho2, hoe, ho3, hx1, hx2, hx3⟩ := hcut
      have HX1 := hide hx1; have HX2 := hide hx2; have HX3 := hide hx3; have HOE := hide hoe
      clear hx1 hx2 hx3 hoe
      have HY1 : Hid (∀ x, (wc.alloc x).heap[w.heap.size]? = some (.cells #[.int .i64 r.op, .int .i64 r.n, .slice a r.kids.length cap] 24 (0, 0))) := fun x => (Below.heap_alloc wc x _ (size_of_block HX1.out)).trans HX1.out
      have HY2 : Hid (∀ x, (wc.alloc x).heap[w.heap.size + 1]? = some (.cells #[.int .i64 0, .int .i64 0, .slice none 0 0] 29 (0, 0))) := fun x => (Below.heap_alloc wc x _ (size_of_block HX2.out)).trans HX2.out
      have HY3 : Hid (∀ x, Below w.heap.size w (wc.alloc x)) := fun x => HX3.out.alloc (HX3.out.size) x
      have HY4 : Hid (w.heap.size + 2 ≤ wc.heap.size) := by have := size_of_block HX2.out; exact this
      obtain ⟨⟨c0, c1, c2⟩, _⟩ := cells_z HX1.out
      go_upto_block 0 with fail
      go_cut [8] (fun tv wx => CutB w vars o r a cap tv wx)
      case first =>
        by_cases h1 : o = 1
        · subst h1
          go_wp2_with fail
          refine (within_n r.n (vars + 1) _ (by omega) (by omega)).mono ?_
          rintro e w2 ⟨rfl, rfl⟩
          go_wp2_with fail
          go_meet
          case rel => exact ⟨wc.heap.size, _, rfl, HY4.out, rfl, heap_alloc_new wc _, HY1.out _, HY2.out _, HY3.out _⟩
        · have b1 : (o == 1) = false := beq_eq_false_iff_ne.2 h1
          by_cases h2 : o = 2
          · subst h2
            go_wp2_with fail
            refine (within_n r.n 3 _ (by decide) (by decide)).mono ?_
            rintro e w2 ⟨rfl, rfl⟩
            go_wp2_with fail
            go_meet
            case rel => exact ⟨wc.heap.size, _, rfl, HY4.out, rfl, heap_alloc_new wc _, HY1.out _, HY2.out _, HY3.out _⟩
          · have b2 : (o == 2) = false := beq_eq_false_iff_ne.2 h2
            by_cases h3 : o = 26
            · subst h3
              go_wp2_with fail
              refine (within_n r.n 5 _ (by decide) (by decide)).mono ?_
              rintro e w2 ⟨rfl, rfl⟩
              go_wp2_with fail
              go_meet
              case rel => exact ⟨wc.heap.size, _, rfl, HY4.out, rfl, heap_alloc_new wc _, HY1.out _, HY2.out _, HY3.out _⟩
            · have b3 : (o == 26) = false := beq_eq_false_iff_ne.2 h3
              by_cases h4 : o = 25
              · subst h4
                go_wp2_with fail
                go_meet
                case rel => exact ⟨wc.heap.size, _, rfl, HY4.out, rfl, heap_alloc_new wc _, HY1.out _, HY2.out _, HY3.out _⟩
              · have b4 : (o == 25) = false := beq_eq_false_iff_ne.2 h4
                go_wp2_with fail
                go_meet
                case rel => exact ⟨wc.heap.size, _, rfl, HY4.out, by rw [mkN, if_neg h1, if_neg h2, if_neg h3, if_neg h4], heap_alloc_new wc _, HY1.out _, HY2.out _, HY3.out _⟩
      case rest =>
        clear HX1 HX2 HX3 HY1 HY2 HY3 HY4 c0 c1 c2
        obtain ⟨tb, nn, rfl, htb, hne, hbt0, hbr0, hbz0, hbl0⟩ := hcut
        have HNE := hide hne
        have hnn : I64 nn := by rw [hne]; exact mkN_i64 hv0 (by omega) hn
        clear hne
        have HBT0 := hide hbt0; have HBR0 := hide hbr0; have HBZ0 := hide hbz0; have HBL0 := hide hbl0
        clear hbt0 hbr0 hbz0 hbl0
        go_wp2_with fail
        have har := ar_le o
        go_loopw [9] (fun i wr => ∃ (k : Nat) (kv : Value) (xs : List Value) (ts : List Tr), k ≤ ar o ∧ i = .int .i64 k ∧ ts.length = k ∧ ts = mkKs d vars r k ∧ wr.heap[tb]? = some (.cells #[.int .i64 o, .int .i64 nn, kv] 29 (0, 0)) ∧ wr.ownsRow (tb + 1) 29 3 kv k xs ∧
            KidsAt wr (fun q => tb + 1 ≤ q ∧ q < wr.heap.size ∧ some q ≠ kv.ownBlock) d ts xs ∧ wr.heap[w.heap.size]? = some (.cells #[.int .i64 r.op, .int .i64 r.n, .slice a r.kids.length cap] 24 (0, 0)) ∧
            wr.heap[w.heap.size + 1]? = some (.cells #[.int .i64 0, .int .i64 0, .slice none 0 0] 29 (0, 0)) ∧ Below w.heap.size w wr) (fun i _ => ar o - (intOf i).toNat)
        case atStart => exact ⟨0, .slice none 0 0, [], [], Nat.zero_le _, rfl, rfl, (mkKs_zero d vars r).symm, HBT0.out, World.ownsRow_nil _ _ _ _, KidsAt.nil _ _ _, HBR0.out, HBZ0.out, HBL0.out⟩
        case round =>
          obtain ⟨k, kv, xs, ts, hk1, rfl, hkl, hmd, hbt, hown, hkids, hbr, hbz, hbl⟩ := hrel
          obtain ⟨ka, kc, rfl, hkc1, hkc2⟩ := owns_form hown
          clear HBT0 HBR0 HBZ0 HBL0
          obtain ⟨b0, b1, b2⟩ := blk3 hbt
          have fz : wr.frozen? ⟨tb, 2, none⟩ = false := frozen_of_block hbt 2
          obtain ⟨r0, r1, r2⟩ := blk3 hbr
          have HBT := hide hbt; have HO := hide hown; have HK := hide hkids; have HBR := hide hbr; have HBZ := hide hbz; have HBL := hide hbl; have HMD := hide hmd; have HKL := hide hkl
          clear hbt hown hkids hbr hbz hbl hmd hkl
          unfold maxLen at hkc2
          go_wp2_with fail
          refine (arity_any o _ ho1 ho2).mono ?_
          rintro e w2 ⟨rfl, h2⟩
          rw [h2]
          clear h2 w2
          by_cases hlt : k < ar o
          · obtain ⟨d', hd'⟩ : ∃ d', d = d' + 1 := by
              cases d with
              | zero => have := ho3 rfl; omega
              | succ d' => exact ⟨d', rfl⟩
            have HD := hide hd'
            have hdp : 1 ≤ dp := by have := HDP.out; omega
            have hws := HBL.out.size
            have hwt := size_of_block HBT.out
            have HTr : Hid (TmAt wr B (g + 1) r (.agg #[.int .i64 r.op, .int .i64 r.n, .slice a r.kids.length cap])) := TmAt.below HT.out HBL.out hB (Nat.le_refl _)
            go_wp2_with fail
            go_region_law (first
              | (refine step_append_lies _ (by rfl) (.tmp 62) (.tmp 74) 27 (by rfl) (tb + 1) 29 i (.agg #[.int .i64 0, .int .i64 0, .slice none 0 0]) 3 40 Tryd.underlying27 hi hz0 hz1 hz2 rfl (by decide) (.slice ka k kc) k xs (by rfl) (HO5.out.alloc _) ⟨w5.heap.size, 0, none⟩ 1 1 [.int .i64 p0, .int .i64 p1, .slice pa pl pc] (by rfl) (by rfl) (World.news_of_block (heap_alloc_new w5 _)) (fun u hu => by simp at hu; rcases hu with rfl | rfl | rfl <;> rfl) (by omega) (by unfold maxLen; omega) (by omega) (by rw [World.size_alloc]; omega) (w5.heap.size + 1) (by simp) ?_
                 intro g6 cap6 w6 hown6 hgrow6 hat6 hlt6
                 have hn6 : Hid (w6.heap[tb]? = w5.heap[tb]?) := (hgrow6.block tb (by rw [World.size_alloc]; omega) (fun e => by have := HO.out.lt _ e.symm; omega)).trans (Below.heap_alloc w5 _ _ (by omega))
                 have hb6 : Hid (w6.heap[tb]? = some (.cells #[.int .i64 o, .int .i64 nn, .slice ka k kc] 29 (0, 0))) := (hn6.out.trans (HB5.out.block tb hwt)).trans HBT.out
                 have d6 : w6.cell? ⟨tb, 2, none⟩ = some (.slice ka k kc) := (cell_of_block hb6.out 2).trans rfl
                 have z6 : w6.frozen? ⟨tb, 2, none⟩ = false := frozen_of_block hb6.out 2
                 have HO6 := hide hown6
                 have HG6 := hide hgrow6
                 have HA6 := hide hat6
                 have HL6 := hide hlt6
                 clear hown6 hgrow6 hat6 hlt6)
              | (refine step_call2 (by rfl) 19 (.tmp 69) (.tmp 70) #[3, 3] (by rfl) cfBn (.int .i64 o) (.int .i64 (k : Nat)) (by rfl) (by rfl) _ (rbinders_any o (k : Nat) _) ?_
                 rintro e w4' ⟨rfl, h4'⟩
                 obtain ⟨bn, hbn⟩ : ∃ bn : Int, bn = (bnd o (k : Nat) : Nat) := ⟨_, rfl⟩
                 have hbn0 : 0 ≤ bn := by omega
                 have hbn2 : bn ≤ 2 := by have := bnd_le o (k : Nat); omega
                 rw [← hbn]
                 have HBN := hide hbn
                 clear hbn
                 rw [h4']
                 clear h4' w4'
                 refine ⟨_, rfl, ?_⟩)
              | (refine step_call2 (by rfl) 36 (.tmp 63) (.tmp 64) #[24, 3] (by rfl) cfKd (.agg #[.int .i64 r.op, .int .i64 r.n, .slice a r.kids.length cap]) (.int .i64 (k : Nat)) (by rfl) (by rfl) _ (kid_any B (g + 1) k r _ _ (by exact TmD.drew HTr.out) (by show B ≤ wr.heap.size; omega)) ?_
                 rintro e w4 ⟨x0, x1, x2, f', rfl, htm4, hb4⟩
                 refine ⟨_, rfl, ?_⟩
                 have hs4 : wr.heap.size ≤ w4.heap.size := hb4.size
                 have HB4 : Hid (Below wr.heap.size wr w4) := ⟨hb4.os, hb4.tape, hb4.output, hb4.size, hb4.block⟩
                 have HT4 := hide htm4
                 have d4 := (World.cell?_of_block (a := ⟨tb, 2, none⟩) (HB4.out.block tb hwt)).trans b2
                 clear htm4 hb4)
              | (refine step_call3 (by rfl) 11 (.tmp 65) (.tmp 67) (.tmp 72) #[24, 3, 3] (by rfl) cfMk (.agg #[x0, x1, x2]) (.int .i64 (dp - 1)) (.int .i64 (vars + bn)) (by rfl) (by exact congrArg (Value.int IntKind.i64) (wrap_same (dp - 1) (by omega) (by omega))) (by exact congrArg (Value.int IntKind.i64) (wrap_same (vars + bn) (by omega) (by omega))) _ (IH.out d' HD.out B f' (kidR r k) _ (dp - 1) (vars + bn) w4 HT4.out (by omega) (by have := HDP.out; have := HD.out; omega) (by omega) (by omega) (by omega)) ?_
                 rintro e w5 ⟨p0, p1, pa, pl, pc, rfl, htm5, hb5⟩
                 refine ⟨_, rfl, ?_⟩
                 have HB5 : Hid (Below wr.heap.size wr w5) := HB4.out.trans (hb5.mono hs4)
                 have hs5 : wr.heap.size ≤ w5.heap.size := HB5.out.size
                 have HT5 : Hid (TmD w5 (fun q => wr.heap.size ≤ q ∧ q < w5.heap.size) d (mkT d' (vars + bn) (kidR r k)) (.agg #[.int .i64 p0, .int .i64 p1, .slice pa pl pc])) := by have h5 := htm5.keep (D' := fun q => wr.heap.size ≤ q ∧ q < w5.heap.size) (fun _ _ => rfl) (fun q hq => ⟨Nat.le_trans hs4 hq.1, hq.2⟩) (d' + 1) _ _; rw [HD.out]; exact h5
                 have HO5 : Hid (w5.ownsRow (tb + 1) 29 3 (.slice ka k kc) k xs) := owns_keep HO.out (fun q _ hq2 => HB5.out.block q hq2)
                 have d5 := (World.cell?_of_block (a := ⟨tb, 2, none⟩) (HB5.out.block tb hwt)).trans b2
                 have e5 : ∀ o, (w5.alloc o).cell? ⟨tb, 2, none⟩ = some (.slice ka k kc) := fun o => (World.cell?_of_block (a := ⟨tb, 2, none⟩) (Below.heap_alloc w5 o tb (by omega))).trans d5
                 clear htm5 hb5))
            all_goals
              obtain ⟨s1, s2, s3, s4, s5, s6⟩ := make_grow htb HBT.out HO.out HK.out HBR.out HBZ.out HBL.out HT5.out HB5.out HO6.out HG6.out HA6.out
              have HS := hide s1; have HS2 := hide s2; have HS3 := hide s3; have HS4 := hide s4; have HS5 := hide s5; have HS6 := hide s6
              clear s1 s2 s3 s4 s5 s6
              go_wp2_with fail
              go_roundw
              case rel => exact ⟨k + 1, _, _, ts ++ [mkT d' (vars + bn) (kidR r k)], by omega, by go_num, by have := HKL.out; simp [this], by rw [mkKs_succ HD.out, ← HMD.out, ← HOE.out, HBN.out], HS.out, HS2.out, HS3.out, HS4.out, HS5.out, HS6.out⟩
              case measure => simp [intOf]; omega
          · have u0 : wr.frozen? ⟨w.heap.size + 1, 0, none⟩ = false := frozen_of_block HBZ.out 0
            have u1 : wr.frozen? ⟨w.heap.size + 1, 1, none⟩ = false := frozen_of_block HBZ.out 1
            have u2 : wr.frozen? ⟨w.heap.size + 1, 2, none⟩ = false := frozen_of_block HBZ.out 2
            obtain ⟨y0, y1, y2⟩ := blk3 HBZ.out
            go_wp2_with fail
            refine bodyPost_ret (v := .agg #[.int .i64 o, .int .i64 nn, .slice ka k kc]) (by simp [results, Tryd.results11, go_sem, y0, y1, y2]) rfl ⟨_, _, _, _, _, rfl, by rw [mkT_eq, ← HOE.out, ← HNE.out, show ar o = k by omega, ← HMD.out]; exact make_fin HO.out htb HK.out HKL.out ho1 ho2 hnn (fun q hq => by rw [heap_setCell_other _ _ _ _ (show q ≠ w.heap.size + 1 from hq), heap_setCell_other _ _ _ _ (show q ≠ w.heap.size + 1 from hq), heap_setCell_other _ _ _ _ (show q ≠ w.heap.size + 1 from hq)]) (by simp [World.setCell]), ?_⟩
            · exact ((HBL.out.setCell (by simp) _).setCell (by simp) _).setCell (by simp) _

/-- Make, so deep. -/
theorem make_any (d : Nat) : MakeC d := by
  induction d with
  | zero => exact make_all 0 (fun d' h => by omega)
  | succ d ih => exact make_all (d + 1) (fun d' h => by have : d = d' := by omega
                                                        subst this; exact ih)
#print axioms make_any
end Go.Proofs.YtpmaagafcpaajaaDoor
