/- The second saying's Parse: a term is read from its bytes as the document says. -/
import Derived.Test.YtafafeplciidhaaQt
import Derived.BigQuiet
import Derived.Deep.DeepCutAuto
namespace Go.Proofs.Ytafafeplciidhaa
open Go.RowKit

attribute [local go_sem ↓] Go.wp_at_zero Go.wp_at_succ

/-- The parser's four cells. -/
def Pr (w : World) (rb : Nat) (lv : Value) (p n e : Int) : Prop := w.heap[rb]? = some (.cells #[lv, .int .i64 p, .int .i64 n, .int .i64 e] 62 (0, 0))

theorem pr_cells {w : World} {rb : Nat} {lv : Value} {p n e : Int} (h : Pr w rb lv p n e) : w.cell? ⟨rb, 0, none⟩ = some lv ∧ w.cell? ⟨rb, 1, none⟩ = some (.int .i64 p) ∧ w.cell? ⟨rb, 2, none⟩ = some (.int .i64 n) ∧ w.cell? ⟨rb, 3, none⟩ = some (.int .i64 e) := by
  refine ⟨?_, ?_, ?_, ?_⟩ <;> (rw [cell_of_block h]; rfl)

/-- The contract of term, at so many levels. -/
def PTermC (d : Nat) : Prop := ∀ (rb n p : Nat) (D : Nat → Prop) (lv : Value) (l : List Int) (deep : Int) (w : World), Pr w rb lv (p : Nat) (n : Nat) 0 → LeftAt w D lv l → Byt l → p ≤ l.length → n ≤ 3000 → (∀ k, D k → k < w.heap.size ∧ k ≠ rb) → deep = 121 - (d : Int) → d ≤ 120 →
  Calls Try.prog 28 #[.pointer (some ⟨rb, 0, none⟩), .int .i64 deep] w fun e w' =>
    (∃ er, termP d n (l.drop p) = .error er ∧ 0 < er ∧ er < 100 ∧ e = .returned (.agg #[.int .i64 0, .int .i64 0, .slice none 0 0]) ∧ Fr (fun k => k = rb) w w' ∧ ∃ p' n' : Int, Pr w' rb lv p' n' (er : Nat)) ∨
    (∃ t n' p', termP d n (l.drop p) = .ok (t, n', l.drop p') ∧ p' ≤ l.length ∧ n' ≤ 3000 ∧ ∃ p0 p1 pa pl pc, e = .returned (.agg #[.int .i64 p0, .int .i64 p1, .slice pa pl pc]) ∧
      TmD w' (fun k => w.heap.size ≤ k ∧ k < w'.heap.size) d t (.agg #[.int .i64 p0, .int .i64 p1, .slice pa pl pc]) ∧ Pr w' rb lv (p' : Nat) (n' : Nat) 0 ∧ Fr (fun k => k = rb) w w')

theorem pr_set {w : World} {rb : Nat} {lv : Value} {p n e x : Int} (h : Pr w rb lv p n e) : Pr (w.setCell ⟨rb, 1, none⟩ (.int .i64 x)) rb lv x n e ∧ Pr (w.setCell ⟨rb, 2, none⟩ (.int .i64 x)) rb lv p x e ∧ Pr (w.setCell ⟨rb, 3, none⟩ (.int .i64 x)) rb lv p n x := by
  refine ⟨?_, ?_, ?_⟩ <;> (unfold Pr; rw [heap_setCell_same _ _ _ _ _ _ h]; rfl)

theorem pr_frozen {w : World} {rb : Nat} {lv : Value} {p n e : Int} (h : Pr w rb lv p n e) (i : Nat) : w.frozen? ⟨rb, i, none⟩ = false := frozen_of_block h i

/-- The number, from its highest byte on: so many of them. -/
def accU (f : Nat → Int) : Nat → Int
  | 0 => 0
  | m + 1 => accU f m * 256 + f (8 - m)

theorem accU_range (f : Nat → Int) (h : ∀ j, 0 ≤ f j ∧ f j < 256) (m : Nat) : 0 ≤ accU f m ∧ accU f m < 256 ^ m := by
  induction m with
  | zero => simp [accU]
  | succ m ih =>
    have := h (8 - m)
    rw [accU, Int.pow_succ]
    omega

theorem pow7 {x : Int} (m : Nat) (hm : m ≤ 7) (h : x < 256 ^ m) : x < 72057594037927936 := by
  have : (256 : Int) ^ m ≤ 72057594037927936 := by
    rcases (show m = 0 ∨ m = 1 ∨ m = 2 ∨ m = 3 ∨ m = 4 ∨ m = 5 ∨ m = 6 ∨ m = 7 by omega) with rfl | rfl | rfl | rfl | rfl | rfl | rfl | rfl <;> decide
  omega

theorem or_acc (A y : Int) (h0 : 0 ≤ A) (h1 : A < 72057594037927936) (h2 : 0 ≤ y) (h3 : y < 256) : bits .or .u64 (IntKind.u64.wrap (A * 256)) y = A * 256 + y := by
  have e : IntKind.u64.wrap (A * 256) = A * 256 := by rw [IntKind.wrap_u64]; omega
  rw [e]
  obtain ⟨a, rfl⟩ := Int.eq_ofNat_of_zero_le h0
  obtain ⟨b, rfl⟩ := Int.eq_ofNat_of_zero_le h2
  have e2 : (a : Int) * 256 = ((a * 2 ^ 8 : Nat) : Int) := by rw [Int.natCast_mul]; rfl
  rw [e2, u64_or_nat (a * 2 ^ 8) b (by omega) (by omega), Nat.or_comm, nat_or 8 b a (by omega)]
  simp
  omega

theorem acc_succ (l : List Int) (p k' : Nat) (hk : k' + 1 ≤ 8) (h : p + (k' + 1) < l.length) : accU (fun j => l.getD (p + j) 0) (8 - k') = accU (fun j => l.getD (p + j) 0) (8 - (k' + 1)) * 256 + l[p + (k' + 1)] := by
  have e1 : 8 - k' = (8 - (k' + 1)) + 1 := by omega
  have e2 : 8 - (8 - (k' + 1)) = k' + 1 := by omega
  rw [e1, accU, e2]
  rw [show l.getD (p + (k' + 1)) 0 = l[p + (k' + 1)] from by rw [List.getD_eq_getElem?_getD, List.getElem?_eq_getElem h]; rfl]

theorem num_acc (l : List Int) (p : Nat) : IntKind.i64.wrap (accU (fun j => l.getD (p + j) 0) (8 - 0)) = numOf (l.drop p) := by
  have e : accU (fun j => l.getD (p + j) 0) (8 - 0) = sum8 (l.drop p) := by
    have g : ∀ j, (l.drop p).getD j 0 = l.getD (p + j) 0 := fun j => by simp [List.getD]
    unfold sum8
    simp only [g]
    simp only [accU, Nat.sub_zero, Nat.reduceSub]
    omega
  rw [e]
  rfl

theorem perr_fr {w W : World} {rb : Nat} (h : Fr (fun k => k = rb) w W) (x a b c : Value) :
    Fr (fun k => k = rb) w ((((W.setCell ⟨rb, 3, none⟩ x).setCell ⟨w.heap.size, 0, none⟩ a).setCell ⟨w.heap.size, 1, none⟩ b).setCell ⟨w.heap.size, 2, none⟩ c) :=
  (((h.setCell (p := ⟨rb, 3, none⟩) rfl _).setNew (Nat.le_refl _) _).setNew (Nat.le_refl _) _).setNew (Nat.le_refl _) _
theorem perr_pr {w W : World} {rb : Nat} {lv : Value} {p n e x : Int} (h : Pr W rb lv p n e) (hrb : rb < w.heap.size) (a b c : Value) :
    Pr ((((W.setCell ⟨rb, 3, none⟩ (.int .i64 x)).setCell ⟨w.heap.size, 0, none⟩ a).setCell ⟨w.heap.size, 1, none⟩ b).setCell ⟨w.heap.size, 2, none⟩ c) rb lv p n x := by
  unfold Pr
  rw [heap_setCell_other _ _ _ _ (show rb ≠ w.heap.size by omega), heap_setCell_other _ _ _ _ (show rb ≠ w.heap.size by omega), heap_setCell_other _ _ _ _ (show rb ≠ w.heap.size by omega)]
  exact (pr_set h).2.2

theorem pend_fr {w W : World} {rb : Nat} (h : Fr (fun k => k = rb) w W) (a b c : Value) :
    Fr (fun k => k = rb) w (((W.setCell ⟨w.heap.size, 0, none⟩ a).setCell ⟨w.heap.size, 1, none⟩ b).setCell ⟨w.heap.size, 2, none⟩ c) :=
  ((h.setNew (Nat.le_refl _) _).setNew (Nat.le_refl _) _).setNew (Nat.le_refl _) _
theorem pend_pr {w W : World} {rb : Nat} {lv : Value} {p n e : Int} (h : Pr W rb lv p n e) (hrb : rb < w.heap.size) (a b c : Value) :
    Pr (((W.setCell ⟨w.heap.size, 0, none⟩ a).setCell ⟨w.heap.size, 1, none⟩ b).setCell ⟨w.heap.size, 2, none⟩ c) rb lv p n e := by
  unfold Pr
  rw [heap_setCell_other _ _ _ _ (show rb ≠ w.heap.size by omega), heap_setCell_other _ _ _ _ (show rb ≠ w.heap.size by omega), heap_setCell_other _ _ _ _ (show rb ≠ w.heap.size by omega)]
  exact h

theorem pfin {w wr w' : World} {f k kc : Nat} {ts : List Tr} {o nn : Int} {ka : Option Addr} {xs : List Value} (ho : wr.ownsRow (w.heap.size + 1 + 1) 29 3 (.slice ka k kc) k xs)
    (hkd : KidsAt wr (fun q => w.heap.size + 1 + 1 ≤ q ∧ q < wr.heap.size ∧ some q ≠ (Value.slice ka k kc).ownBlock) f ts xs) (hk : ts.length = k) (h1 : 0 ≤ o ∧ o < 256) (hn : I64 nn)
    (hsame : ∀ q, q ≠ w.heap.size → w'.heap[q]? = wr.heap[q]?) (hsz : w'.heap.size = wr.heap.size) :
    TmD w' (fun q => w.heap.size ≤ q ∧ q < w'.heap.size) (f + 1) ⟨o, nn, ts⟩ (.agg #[.int .i64 o, .int .i64 nn, .slice ka k kc]) := by
  obtain ⟨a, cap, hv, hrow⟩ := hkd.row (D' := fun q => w.heap.size + 1 + 1 ≤ q ∧ q < wr.heap.size) ho hk.symm (fun g hg => ho.lt g hg) (fun x u hx => hx.keep (fun _ _ => rfl) (fun q hq => ⟨hq.1, hq.2.1⟩) f x u)
  rw [hk] at hv
  cases hv
  refine ⟨ka, kc, by rw [← hk], by unfold I64; simp only; omega, hn, ?_⟩
  exact hrow.imp (fun q hq => hsame q (by omega)) (fun q hq => by omega) (fun x u hx => hx.keep (fun q hq => hsame q (by omega)) (fun q hq => by omega) f x u)

theorem drop_getD (l : List Int) (p j : Nat) : (l.drop p).getD j 0 = l.getD (p + j) 0 := by simp [List.getD]

theorem pt_err {d n kk er p : Nat} {l : List Int} (h : ¬ n = 3000) (h10 : p + 9 < l.length) (hk : l[p + 9] = (kk : Int)) (hr : rowP (termP d) kk (n + 1) (l.drop (p + 10)) = .error er) : termP (d + 1) n (l.drop p) = .error er := by
  have e2 : ((l.drop p).getD 9 0).toNat = kk := by rw [drop_getD, List.getD_eq_getElem?_getD, List.getElem?_eq_getElem h10, Option.getD_some, hk]; rfl
  have e3 : (l.drop p).drop 10 = l.drop (p + 10) := by rw [List.drop_drop]
  rw [termP, if_neg h, if_neg (by simp; omega), e2, e3, hr]

theorem pt_ok {d n n' kk p p' : Nat} {l : List Int} {ts : List Tr} (h : ¬ n = 3000) (h10 : p + 9 < l.length) (hk : l[p + 9] = (kk : Int)) (hr : rowP (termP d) kk (n + 1) (l.drop (p + 10)) = .ok (ts, n', l.drop p')) :
    termP (d + 1) n (l.drop p) = .ok (⟨l[p], numOf (l.drop p), ts⟩, n', l.drop p') := by
  have e2 : ((l.drop p).getD 9 0).toNat = kk := by rw [drop_getD, List.getD_eq_getElem?_getD, List.getElem?_eq_getElem h10, Option.getD_some, hk]; rfl
  have e3 : (l.drop p).drop 10 = l.drop (p + 10) := by rw [List.drop_drop]
  have e4 : (l.drop p).getD 0 0 = l[p] := by rw [drop_getD, Nat.add_zero, List.getD_eq_getElem?_getD, List.getElem?_eq_getElem (by omega), Option.getD_some]
  rw [termP, if_neg h, if_neg (by simp; omega), e2, e3, hr]
  simp only [e4]

/-- One kid more. -/
theorem pgrow {w wr w5 wb w6 : World} {tb rb f k kc g6 cap6 : Nat} {ka : Option Addr} {x0 x1 p0 p1 p2 z0 z1 z2 : Value} {ts : List Tr} {t' : Tr} {xs : List Value} (htb : w.heap.size + 1 ≤ tb) (hrb : rb < w.heap.size)
    (HBT : wr.heap[tb]? = some (.cells #[x0, x1, .slice ka k kc] 29 (0, 0))) (HO : wr.ownsRow (tb + 1) 29 3 (.slice ka k kc) k xs)
    (HK : KidsAt wr (fun q => tb + 1 ≤ q ∧ q < wr.heap.size ∧ some q ≠ (Value.slice ka k kc).ownBlock) f ts xs) (HBZ : wr.heap[w.heap.size]? = some (.cells #[z0, z1, z2] 29 (0, 0)))
    (h5 : Fr (fun q => q = rb) wr w5) (hF : Fr (fun q => q = rb) w wr) (HT5 : TmD w5 (fun q => wr.heap.size ≤ q ∧ q < w5.heap.size) f t' (.agg #[p0, p1, p2])) (hwb : Below w5.heap.size w5 wb)
    (HO6 : w6.ownsRow (tb + 1) 29 3 (.slice (some ⟨g6, 0, none⟩) (k + 1) cap6) (k + 1) (xs ++ [p0, p1, p2])) (HG6 : wb.grownBy w6 (Value.slice ka k kc).ownBlock)
    (HA6 : (Value.slice ka k kc).ownBlock = some g6 ∨ g6 = wb.heap.size) :
    (w6.setCell ⟨tb, 2, none⟩ (.slice (some ⟨g6, 0, none⟩) (k + 1) cap6)).heap[tb]? = some (.cells #[x0, x1, .slice (some ⟨g6, 0, none⟩) (k + 1) cap6] 29 (0, 0)) ∧
    (w6.setCell ⟨tb, 2, none⟩ (.slice (some ⟨g6, 0, none⟩) (k + 1) cap6)).ownsRow (tb + 1) 29 3 (.slice (some ⟨g6, 0, none⟩) (k + 1) cap6) (k + 1) (xs ++ [p0, p1, p2]) ∧
    KidsAt (w6.setCell ⟨tb, 2, none⟩ (.slice (some ⟨g6, 0, none⟩) (k + 1) cap6)) (fun q => tb + 1 ≤ q ∧ q < (w6.setCell ⟨tb, 2, none⟩ (.slice (some ⟨g6, 0, none⟩) (k + 1) cap6)).heap.size ∧ some q ≠ (Value.slice (some ⟨g6, 0, none⟩) (k + 1) cap6).ownBlock) f (ts ++ [t']) (xs ++ [p0, p1, p2]) ∧
    (w6.setCell ⟨tb, 2, none⟩ (.slice (some ⟨g6, 0, none⟩) (k + 1) cap6)).heap[w.heap.size]? = some (.cells #[z0, z1, z2] 29 (0, 0)) ∧
    (w6.setCell ⟨tb, 2, none⟩ (.slice (some ⟨g6, 0, none⟩) (k + 1) cap6)).heap[rb]? = w5.heap[rb]? ∧
    Fr (fun q => q = rb) w (w6.setCell ⟨tb, 2, none⟩ (.slice (some ⟨g6, 0, none⟩) (k + 1) cap6)) := by
  have hwt := size_of_block HBT
  have hsw := hF.size
  have hs5 : wr.heap.size ≤ w5.heap.size := h5.size
  have hsb : w5.heap.size ≤ wb.heap.size := hwb.size
  have hs6 : wb.heap.size ≤ w6.heap.size := HG6.size
  have hl := HO.lt
  have old5 : ∀ q, q < w5.heap.size → some q ≠ (Value.slice ka k kc).ownBlock → w6.heap[q]? = w5.heap[q]? := fun q hq hne => (HG6.block q (by omega) hne).trans (hwb.block q hq)
  have old : ∀ q, q < wr.heap.size → q ≠ rb → some q ≠ (Value.slice ka k kc).ownBlock → w6.heap[q]? = wr.heap[q]? := fun q hq hr hne => (old5 q (by omega) hne).trans (h5.block q hq hr)
  have low5 : ∀ q, q ≤ tb → w6.heap[q]? = w5.heap[q]? := fun q hq => old5 q (by omega) (fun e => by have := hl q e.symm; omega)
  have low : ∀ q, q ≤ tb → q ≠ rb → w6.heap[q]? = wr.heap[q]? := fun q hq hr => old q (by omega) hr (fun e => by have := hl q e.symm; omega)
  have hsz : (w6.setCell ⟨tb, 2, none⟩ (.slice (some ⟨g6, 0, none⟩) (k + 1) cap6)).heap.size = w6.heap.size := by simp [World.setCell]
  have oth : ∀ q, q ≠ tb → (w6.setCell ⟨tb, 2, none⟩ (.slice (some ⟨g6, 0, none⟩) (k + 1) cap6)).heap[q]? = w6.heap[q]? := fun q hq => heap_setCell_other _ _ _ _ (show q ≠ tb from hq)
  refine ⟨?_, ownsRow_setCell_below HO6 (by show tb < _; omega) _, ?_, ?_, ?_, ?_⟩
  · rw [heap_setCell_same _ _ _ _ _ _ ((low _ (by omega) (by omega)).trans HBT)]
    rfl
  · refine KidsAt.snoc (HK.keep (fun q hq => (oth q (by omega)).trans (old q hq.2.1 (by omega) hq.2.2)) (fun q hq => ⟨hq.1, by rw [hsz]; omega, fun e => ?_⟩)) ?_
    · refine HT5.keep (fun q hq => ?_) (fun q hq => ?_) f _ _
      · have h1 : wr.heap.size ≤ q := hq.1
        rw [oth q (by omega)]
        exact old5 q hq.2 (fun e => by have := hl q e.symm; omega)
      · have h1 : wr.heap.size ≤ q := hq.1
        have h2 := hq.2
        refine ⟨by omega, by rw [hsz]; omega, fun e => ?_⟩
        simp only [Value.ownBlock, Option.some.injEq] at e
        rcases HA6 with h | h
        · have := hl g6 h; omega
        · omega
    · simp only [Value.ownBlock, Option.some.injEq] at e
      rcases HA6 with h | h
      · exact hq.2.2 (by rw [h, e])
      · have := hq.2.1; omega
  · rw [oth _ (by omega), low _ (by omega) (by omega)]; exact HBZ
  · rw [oth _ (by omega), low5 _ (by omega)]
  · refine ⟨HG6.os.trans (hwb.os.trans (h5.os.trans hF.os)), HG6.tape.trans (hwb.tape.trans (h5.tape.trans hF.tape)), HG6.output.trans (hwb.output.trans (h5.output.trans hF.output)), by rw [hsz]; omega, fun q hq hm => ?_⟩
    rw [oth _ (by omega), low _ (by omega) hm]
    exact hF.block q hq hm

set_option maxRecDepth 20000 in
set_option maxHeartbeats 1000000 in
theorem pterm_step (d : Nat) (ih : ∀ d', d = d' + 1 → PTermC d') : PTermC d := by
  intro rb n p D lv l deep w hr hl hb hp hn hD hdeep hd
  have IH := hide ih; clear ih
  have hd0 : 1 ≤ deep := by omega
  have hd1 : deep ≤ 121 := by omega
  have HDP := hide hdeep; clear hdeep
  have hrb := size_of_block hr
  have HD := hide hD; clear hD
  have HBY := hide hb; clear hb
  have x1 : Pr (w.alloc (.cells #[.int .i64 0, .int .i64 0, .slice none 0 0] 29)) rb lv (p : Nat) (n : Nat) 0 := (Below.heap_alloc w _ rb hrb).trans hr
  obtain ⟨_, _, c2, _⟩ := pr_cells x1
  have k2 := pr_frozen x1 2
  have X1 := hide x1; have HR := hide hr; have HL := hide hl
  clear x1 hr hl
  go_enter Try.func28, Try.ntmps28
  go_upto_region 2 with fail
  have w1sz0 : (w.setCell ⟨rb, 2, none⟩ (.int .i64 ((n : Int) + 1))).heap.size = w.heap.size := by simp [World.setCell]
  have w1rd : Pr ((w.setCell ⟨rb, 2, none⟩ (.int .i64 ((n : Int) + 1))).alloc (.cells #[.int .i64 0, .int .i64 0, .slice none 0 0] 29)) rb lv (p : Nat) ((n : Int) + 1) 0 := (Below.heap_alloc _ _ _ (by rw [w1sz0]; exact hrb)).trans (pr_set HR.out).2.1
  have w1z : ((w.setCell ⟨rb, 2, none⟩ (.int .i64 ((n : Int) + 1))).alloc (.cells #[.int .i64 0, .int .i64 0, .slice none 0 0] 29)).heap[w.heap.size]? = some (.cells #[.int .i64 0, .int .i64 0, .slice none 0 0] 29 (0, 0)) := by
    have h := heap_alloc_new (w.setCell ⟨rb, 2, none⟩ (.int .i64 ((n : Int) + 1))) (.cells #[.int .i64 0, .int .i64 0, .slice none 0 0] 29)
    rw [w1sz0] at h
    exact h
  have w1fr : Fr (fun k => k = rb) w ((w.setCell ⟨rb, 2, none⟩ (.int .i64 ((n : Int) + 1))).alloc (.cells #[.int .i64 0, .int .i64 0, .slice none 0 0] 29)) := (Fr.setCell (M := fun k => k = rb) (Fr.refl _ _) (p := ⟨rb, 2, none⟩) rfl _).alloc _
  have w1sz : ((w.setCell ⟨rb, 2, none⟩ (.int .i64 ((n : Int) + 1))).alloc (.cells #[.int .i64 0, .int .i64 0, .slice none 0 0] 29)).heap.size = w.heap.size + 1 := by rw [World.size_alloc, w1sz0]
  clear c2 k2 X1 w1sz0
  generalize ((w.setCell ⟨rb, 2, none⟩ (.int .i64 ((n : Int) + 1))).alloc (.cells #[.int .i64 0, .int .i64 0, .slice none 0 0] 29)) = W at *
  obtain ⟨c0, c1, c2, c3⟩ := pr_cells w1rd
  have k1 := pr_frozen w1rd 1; have k3 := pr_frozen w1rd 3
  have HRD := hide w1rd; have HWZ := hide w1z; have HWF := hide w1fr; have HWS := hide w1sz
  clear w1rd w1z w1fr w1sz
  by_cases hbad : n = 3000 ∨ d = 0
  · have herr : termP d n (l.drop p) = .error 5 := by
      rcases hbad with h | h
      · subst h; cases d with
        | zero => rfl
        | succ d => exact tfull d _
      · subst h; rfl
    have HE := hide herr
    clear herr
    have hcond : (3000 : Int) < (n : Int) + 1 ∨ (120 : Int) < deep := by
      have := HDP.out
      rcases hbad with h | h
      · left; omega
      · right; omega
    have z1 : ∀ x, (W.setCell ⟨rb, 3, none⟩ x).heap[w.heap.size]? = some (.cells #[.int .i64 0, .int .i64 0, .slice none 0 0] 29 (0, 0)) := fun x => by rw [heap_setCell_other _ _ _ _ (by dsimp only; omega)]; exact HWZ.out
    have y0 := fun x => (blk3 (z1 x)).1
    have y1 := fun x => (blk3 (z1 x)).2.1
    have y2 := fun x => (blk3 (z1 x)).2.2
    have v0 := fun x => frozen_of_block (z1 x) 0
    have v1 := fun x => frozen_of_block (z1 x) 1
    have v2 := fun x => frozen_of_block (z1 x) 2
    clear z1
    have HH := hide hbad
    clear hbad
    by_cases hA : (3000 : Int) < (n : Int) + 1
    · clear hcond
      go_wp2_with fail
      refine bodyPost_ret (v := .agg #[.int .i64 0, .int .i64 0, .slice none 0 0]) (by simp [results, Try.results28, go_sem, *]) rfl (Or.inl ⟨5, HE.out, by omega, by omega, rfl, perr_fr HWF.out _ _ _ _, _, _, perr_pr HRD.out hrb _ _ _⟩)
    · have hB := hcond.resolve_left hA
      clear hcond
      go_wp2_with fail
      refine bodyPost_ret (v := .agg #[.int .i64 0, .int .i64 0, .slice none 0 0]) (by simp [results, Try.results28, go_sem, *]) rfl (Or.inl ⟨5, HE.out, by omega, by omega, rfl, perr_fr HWF.out _ _ _ _, _, _, perr_pr HRD.out hrb _ _ _⟩)
  · obtain ⟨d', hd'⟩ : ∃ d', d = d' + 1 := by
      cases d with
      | zero => exact absurd (Or.inr rfl) hbad
      | succ d' => exact ⟨d', rfl⟩
    have hn3 : ¬ n = 3000 := fun h => hbad (Or.inl h)
    have hn4 : ¬ (3000 : Int) < (n : Int) + 1 := by omega
    have hdeep : ¬ (120 : Int) < deep := by have := HDP.out; omega
    have HDD := hide hd'
    clear hbad
    obtain ⟨la, lc, rfl, hlc1, hlc2, hlx⟩ := HL.out
    have HLX := hide hlx
    clear hlx
    unfold maxLen at hlc2
    by_cases hten : l.length - p < 10
    · have hsub : (l.length : Int) - (p : Int) < 10 := by omega
      have HE : Hid (termP d n (l.drop p) = .error 2) := by rw [HDD.out]; exact tcut d' n _ hn3 (by simp; omega)
      go_wp2_with fail
      go_quiet (fail)
      have hV1 : Pr (W.drewN nq) rb (.slice la l.length lc) (p : Nat) ((n : Int) + 1) 0 := HRD.out
      have hV2 : (W.drewN nq).heap[w.heap.size]? = some (.cells #[.int .i64 0, .int .i64 0, .slice none 0 0] 29 (0, 0)) := HWZ.out
      have hV3 : Fr (fun k => k = rb) w (W.drewN nq) := ⟨HWF.out.os, HWF.out.tape, HWF.out.output, HWF.out.size, HWF.out.block⟩
      generalize W.drewN nq = V at *
      obtain ⟨_, _, _, d3⟩ := pr_cells hV1
      have k4 := pr_frozen hV1 3
      have z1 : ∀ x, (V.setCell ⟨rb, 3, none⟩ x).heap[w.heap.size]? = some (.cells #[.int .i64 0, .int .i64 0, .slice none 0 0] 29 (0, 0)) := fun x => by rw [heap_setCell_other _ _ _ _ (by dsimp only; omega)]; exact hV2
      have y0 := fun x => (blk3 (z1 x)).1
      have y1 := fun x => (blk3 (z1 x)).2.1
      have y2 := fun x => (blk3 (z1 x)).2.2
      have v0 := fun x => frozen_of_block (z1 x) 0
      have v1 := fun x => frozen_of_block (z1 x) 1
      have v2 := fun x => frozen_of_block (z1 x) 2
      have HV1 := hide hV1; have HV3 := hide hV3
      clear z1 hV1 hV2 hV3
      go_wp2_with fail
      refine bodyPost_ret (v := .agg #[.int .i64 0, .int .i64 0, .slice none 0 0]) (by simp [results, Try.results28, go_sem, *]) rfl (Or.inl ⟨2, HE.out, by omega, by omega, rfl, perr_fr HV3.out _ _ _ _, _, _, perr_pr HV1.out hrb _ _ _⟩)
    · have hsub : ¬ (l.length : Int) - (p : Int) < 10 := by omega
      go_wp2_with fail
      go_quiet (fail)
      have hV1 : Pr (W.drewN nq) rb (.slice la l.length lc) (p : Nat) ((n : Int) + 1) 0 := HRD.out
      have hV2 : (W.drewN nq).heap[w.heap.size]? = some (.cells #[.int .i64 0, .int .i64 0, .slice none 0 0] 29 (0, 0)) := HWZ.out
      have hV3 : Fr (fun k => k = rb) w (W.drewN nq) := ⟨HWF.out.os, HWF.out.tape, HWF.out.output, HWF.out.size, HWF.out.block⟩
      have hV4 : (W.drewN nq).heap.size = w.heap.size + 1 := HWS.out
      clear c0 c1 c2 c3 k1 k3
      generalize W.drewN nq = V at *
      obtain ⟨b, off, rfl, hbD, hcl⟩ := HLX.out (fun e => by rw [e] at hten; simp at hten)
      have hbw := HD.out b hbD
      have hV5 : ∀ (i : Nat) (h : i < l.length), V.cell? ⟨b, off + i, none⟩ = some (.int .u8 l[i]) := fun i h => (hV3.cell hbw.1 hbw.2).trans (hcl i h)
      obtain ⟨c0, c1, c2, c3⟩ := pr_cells hV1
      have k1 := pr_frozen hV1 1
      have hpl : p < l.length := by omega
      have e0 := hV5 p hpl
      have hrV : rb < V.heap.size := by omega
      have hbV : b < V.heap.size := by omega
      have a0 : ∀ o, (V.alloc o).cell? ⟨rb, 0, none⟩ = some (.slice (some ⟨b, off, none⟩) l.length lc) := fun o => (World.cell?_of_block (a := ⟨rb, 0, none⟩) (Below.heap_alloc V o rb hrV)).trans c0
      have a1 : ∀ o, (V.alloc o).cell? ⟨rb, 1, none⟩ = some (.int .i64 (p : Nat)) := fun o => (World.cell?_of_block (a := ⟨rb, 1, none⟩) (Below.heap_alloc V o rb hrV)).trans c1
      have f0 : ∀ o, (V.alloc o).cell? ⟨b, off + p, none⟩ = some (.int .u8 l[p]) := fun o => (World.cell?_of_block (a := ⟨b, off + p, none⟩) (Below.heap_alloc V o b hbV)).trans e0
      have hby0 := HBY.out l[p] (List.getElem_mem hpl)
      have HV1 := hide hV1; have HV2 := hide hV2; have HV3 := hide hV3; have HV4 := hide hV4; have HV5 := hide hV5
      clear hV1 hV2 hV3 hV4 hV5 hcl
      go_wp2_with fail
      go_region
      all_goals go_wp2_with fail
      have hX1 : Pr (V.alloc (.cells #[.int .i64 l[p], .int .i64 0, .slice none 0 0] 29)).drew rb (.slice (some ⟨b, off, none⟩) l.length lc) (p : Nat) ((n : Int) + 1) 0 := (Below.heap_alloc V _ rb hrV).trans HV1.out
      have hX2 : (V.alloc (.cells #[.int .i64 l[p], .int .i64 0, .slice none 0 0] 29)).drew.heap[w.heap.size]? = some (.cells #[.int .i64 0, .int .i64 0, .slice none 0 0] 29 (0, 0)) := (Below.heap_alloc V _ _ (by have := HV4.out; omega)).trans HV2.out
      have hX3 : Fr (fun k => k = rb) w (V.alloc (.cells #[.int .i64 l[p], .int .i64 0, .slice none 0 0] 29)).drew := (HV3.out.alloc _).drew
      have hX4 : (V.alloc (.cells #[.int .i64 l[p], .int .i64 0, .slice none 0 0] 29)).drew.heap[V.heap.size]? = some (.cells #[.int .i64 l[p], .int .i64 0, .slice none 0 0] 29 (0, 0)) := heap_alloc_new V _
      have hX5 : ∀ (i : Nat) (h : i < l.length), (V.alloc (.cells #[.int .i64 l[p], .int .i64 0, .slice none 0 0] 29)).drew.cell? ⟨b, off + i, none⟩ = some (.int .u8 l[i]) := fun i h => (World.cell?_of_block (a := ⟨b, off + i, none⟩) (Below.heap_alloc V _ b hbV)).trans (HV5.out i h)
      have hX6 : (V.alloc (.cells #[.int .i64 l[p], .int .i64 0, .slice none 0 0] 29)).drew.heap.size = w.heap.size + 2 := by show (V.alloc _).heap.size = _; rw [World.size_alloc, HV4.out]
      have hV4 := HV4.out
      clear a0 a1 f0 c0 c1 c2 c3 k1 e0
      generalize (V.alloc (.cells #[.int .i64 l[p], .int .i64 0, .slice none 0 0] 29)).drew = X at *
      rw [hV4] at hX4
      rw [hV4]
      have HX1 := hide hX1; have HX2 := hide hX2; have HX3 := hide hX3; have HX4 := hide hX4; have HX5 := hide hX5; have HX6 := hide hX6
      clear hX1 hX2 hX3 hX4 hX5 hX6 hV4 HV1 HV2 HV3 HV4 HV5 hrV hbV
      go_loopw [6, 7] (fun u i wr => ∃ k : Nat, k ≤ 8 ∧ i = .int .i64 (k : Nat) ∧ u = .int .u64 (accU (fun j => l.getD (p + j) 0) (8 - k)) ∧ wr.heap = X.heap ∧ wr.os = X.os ∧ wr.tape = X.tape ∧ wr.output = X.output) (fun _ i _ => (intOf i).toNat)
      case atStart => exact ⟨8, Nat.le_refl _, rfl, rfl, rfl, rfl, rfl, rfl⟩
      case round =>
        obtain ⟨k, hk, rfl, rfl, hh, ho, ht, hu⟩ := hrel
        have HH := hide hh; have HO := hide ho; have HTP := hide ht; have HU := hide hu
        have hcell : ∀ a, wr.cell? a = X.cell? a := fun a => World.cell?_of_block (by rw [hh])
        have HCE := hide hcell
        clear hh ho ht hu hcell
        obtain ⟨c0, c1, c2, c3⟩ := pr_cells HX1.out
        rw [← HCE.out] at c0 c1 c2 c3
        obtain ⟨hacc0, hacc1⟩ := accU_range (fun j => l.getD (p + j) 0) (fun j => getD_range HBY.out _) (8 - k)
        by_cases hk0 : 0 < k
        · obtain ⟨k', rfl⟩ : ∃ k', k = k' + 1 := ⟨k - 1, by omega⟩
          have hpk : p + (k' + 1) < l.length := by omega
          have e0 := HX5.out (p + (k' + 1)) hpk
          rw [← HCE.out] at e0
          have hbk := HBY.out l[p + (k' + 1)] (List.getElem_mem hpk)
          have hi1 : (0 : Int) ≤ (p : Int) + ((k' : Int) + 1) := by omega
          have hi2 : (p : Int) + ((k' : Int) + 1) < (l.length : Int) := by omega
          generalize hA : accU (fun j => l.getD (p + j) 0) (8 - (k' + 1)) = A at *
          have HA := hide hA
          clear hA
          go_wp2_with fail
          go_quiet (fail)
          have hor : bits .or .u64 (IntKind.u64.wrap (A * 256)) l[p + (k' + 1)] = A * 256 + l[p + (k' + 1)] := or_acc A _ hacc0 (pow7 (8 - (k' + 1)) (by omega) hacc1) hbk.1 hbk.2
          rw [hor]
          have HA2 : Hid (accU (fun j => l.getD (p + j) 0) (8 - k') = A * 256 + l[p + (k' + 1)]) := by rw [← HA.out]; exact acc_succ l p k' (by omega) hpk
          clear hor hacc0 hacc1
          go_wp2_with fail
          go_roundw
          case rel => exact ⟨k', by omega, by go_num, congrArg (Value.int .u64) HA2.out.symm, HH.out, HO.out, HTP.out, HU.out⟩
          case measure => simp [intOf]
        · have hk00 : k = 0 := by omega
          subst hk00
          have hnum : IntKind.i64.wrap (accU (fun j => l.getD (p + j) 0) (8 - 0)) = numOf (l.drop p) := num_acc l p
          generalize accU (fun j => l.getD (p + j) 0) (8 - 0) = A at *
          clear hacc0 hacc1
          have hX4 : wr.heap[w.heap.size + 1]? = some (.cells #[.int .i64 l[p], .int .i64 0, .slice none 0 0] 29 (0, 0)) := by rw [HH.out]; exact HX4.out
          obtain ⟨d0, d1, d2⟩ := blk3 hX4
          have g1 := frozen_of_block hX4 1
          have HX4' := hide hX4
          clear hX4
          go_upto_region 15 with fail
          have hY1 : Pr (wr.setCell ⟨w.heap.size + 1, 1, none⟩ (.int .i64 (numOf (l.drop p)))) rb (.slice (some ⟨b, off, none⟩) l.length lc) (p : Nat) ((n : Int) + 1) 0 := by
            unfold Pr
            rw [heap_setCell_other _ _ _ _ (show rb ≠ w.heap.size + 1 by omega), HH.out]; exact HX1.out
          have hY2 : (wr.setCell ⟨w.heap.size + 1, 1, none⟩ (.int .i64 (numOf (l.drop p)))).heap[w.heap.size]? = some (.cells #[.int .i64 0, .int .i64 0, .slice none 0 0] 29 (0, 0)) := by
            rw [heap_setCell_other _ _ _ _ (show w.heap.size ≠ w.heap.size + 1 by omega), HH.out]; exact HX2.out
          have hY3 : Fr (fun k => k = rb) w (wr.setCell ⟨w.heap.size + 1, 1, none⟩ (.int .i64 (numOf (l.drop p)))) :=
            Fr.setNew (M := fun k => k = rb) (w := wr) ⟨HO.out.trans HX3.out.os, HTP.out.trans HX3.out.tape, HU.out.trans HX3.out.output, by rw [HH.out]; exact HX3.out.size, fun q hq hm => by rw [HH.out]; exact HX3.out.block q hq hm⟩ (p := ⟨w.heap.size + 1, 1, none⟩) (Nat.le_succ _) _
          have hY4 : (wr.setCell ⟨w.heap.size + 1, 1, none⟩ (.int .i64 (numOf (l.drop p)))).heap[w.heap.size + 1]? = some (.cells #[.int .i64 l[p], .int .i64 (numOf (l.drop p)), .slice none 0 0] 29 (0, 0)) := by
            rw [heap_setCell_same _ _ _ _ _ _ HX4'.out]; rfl
          have hY6 : (wr.setCell ⟨w.heap.size + 1, 1, none⟩ (.int .i64 (numOf (l.drop p)))).heap.size = w.heap.size + 2 := by
            rw [← HX6.out, ← HH.out]; simp [World.setCell]
          clear d0 d1 d2 g1 hnum c0 c1 c2 c3
          generalize (wr.setCell ⟨w.heap.size + 1, 1, none⟩ (.int .i64 (numOf (l.drop p)))) = Y at *
          have hp9 : p + 9 < l.length := by omega
          have e9 : Y.cell? ⟨b, off + (p + 9), none⟩ = some (.int .u8 l[p + 9]) := by
            rw [hY3.cell hbw.1 hbw.2, ← HX3.out.cell hbw.1 hbw.2]; exact HX5.out (p + 9) hp9
          have hby9 := HBY.out l[p + 9] (List.getElem_mem hp9)
          obtain ⟨c0, c1, c2, c3⟩ := pr_cells hY1
          have k1 := pr_frozen hY1 1
          have HY1 := hide hY1; have HY2 := hide hY2; have HY3 := hide hY3; have HY4 := hide hY4; have HY6 := hide hY6
          clear hY1 hY2 hY3 hY4 hY6 HX1 HX2 HX3 HX4 HX5 HX6 HX4' HH HO HTP HU HCE
          have hi1 : (0 : Int) ≤ (p : Int) + 8 + 1 := by omega
          have hi2 : (p : Int) + 8 + 1 < (l.length : Int) := by omega
          obtain ⟨kk, hkk⟩ := Int.eq_ofNat_of_zero_le hby9.1
          have hkk255 : kk ≤ 255 := by omega
          have HKK := hide hkk
          rw [hkk] at e9
          clear hkk hby9
          go_quiet (fail)
          go_upto_region 17 with fail
          have hU1 : Pr ((Y.drewN nq).setCell ⟨rb, 1, none⟩ (.int .i64 ((p : Int) + 8 + 2))) rb (.slice (some ⟨b, off, none⟩) l.length lc) ((p + 10 : Nat) : Int) ((n + 1 : Nat) : Int) 0 := by
            have h := (pr_set (w := Y.drewN nq) (x := (p : Int) + 8 + 2) HY1.out).1
            rw [show ((p + 10 : Nat) : Int) = (p : Int) + 8 + 2 by omega, show ((n + 1 : Nat) : Int) = (n : Int) + 1 by omega]
            exact h
          have hU2 : ((Y.drewN nq).setCell ⟨rb, 1, none⟩ (.int .i64 ((p : Int) + 8 + 2))).heap[w.heap.size]? = some (.cells #[.int .i64 0, .int .i64 0, .slice none 0 0] 29 (0, 0)) := by
            rw [heap_setCell_other _ _ _ _ (show w.heap.size ≠ rb by omega)]; exact HY2.out
          have hU3 : Fr (fun k => k = rb) w ((Y.drewN nq).setCell ⟨rb, 1, none⟩ (.int .i64 ((p : Int) + 8 + 2))) :=
            Fr.setCell (M := fun k => k = rb) (w := Y.drewN nq) ⟨HY3.out.os, HY3.out.tape, HY3.out.output, HY3.out.size, HY3.out.block⟩ (p := ⟨rb, 1, none⟩) rfl _
          have hU4 : ((Y.drewN nq).setCell ⟨rb, 1, none⟩ (.int .i64 ((p : Int) + 8 + 2))).heap[w.heap.size + 1]? = some (.cells #[.int .i64 l[p], .int .i64 (numOf (l.drop p)), .slice none 0 0] 29 (0, 0)) := by
            rw [heap_setCell_other _ _ _ _ (show w.heap.size + 1 ≠ rb by omega)]; exact HY4.out
          clear c0 c1 c2 c3 k1 e9 hi1 hi2
          generalize ((Y.drewN nq).setCell ⟨rb, 1, none⟩ (.int .i64 ((p : Int) + 8 + 2))) = U at *
          have HU1 := hide hU1; have HU2 := hide hU2; have HU3 := hide hU3; have HU4 := hide hU4
          clear hU1 hU2 hU3 hU4 HY1 HY2 HY3 HY4 HY6
          have hnI : I64 (numOf (l.drop p)) := i64_range _
          generalize hNN : numOf (l.drop p) = NN at *
          have HNN := hide hNN
          clear hNN
          obtain ⟨b0, hb0⟩ : ∃ b0, b0 = l[p] := ⟨_, rfl⟩
          rw [← hb0] at hby0
          have HB0 := hide hb0
          rw [← hb0] at HU4
          obtain ⟨i, hi, hz0, hz1, hz2⟩ := info_parts Try.info29
          go_wp2_with fail
          go_loopw [9, 10] (fun i s10 wr => ∃ (j n1 p1 : Nat) (kv : Value) (xs : List Value) (ts : List Tr), j ≤ kk ∧ i = .int .i64 (j : Nat) ∧ ts.length = j ∧ pref ts (rowP (termP d') (kk - j) n1 (l.drop p1)) = rowP (termP d') kk (n + 1) (l.drop (p + 10)) ∧ p1 ≤ l.length ∧ n1 ≤ 3000 ∧ Pr wr rb (.slice (some ⟨b, off, none⟩) l.length lc) (p1 : Nat) (n1 : Nat) 0 ∧ wr.heap[w.heap.size + 1]? = some (.cells #[.int .i64 b0, .int .i64 NN, kv] 29 (0, 0)) ∧ wr.ownsRow (w.heap.size + 1 + 1) 29 3 kv j xs ∧ KidsAt wr (fun q => w.heap.size + 1 + 1 ≤ q ∧ q < wr.heap.size ∧ some q ≠ kv.ownBlock) d' ts xs ∧ wr.heap[w.heap.size]? = some (.cells #[.int .i64 0, .int .i64 0, .slice none 0 0] 29 (0, 0)) ∧ Fr (fun k => k = rb) w wr) (fun i _ _ => kk - (intOf i).toNat)
          case atStart => exact ⟨0, n + 1, p + 10, .slice none 0 0, [], [], Nat.zero_le _, rfl, rfl, pref_nil _, by omega, by omega, HU1.out, HU4.out, World.ownsRow_nil _ _ _ _, KidsAt.nil _ _ _, HU2.out, HU3.out⟩
          case round =>
            obtain ⟨j, n1, p1, kv, xs, ts, hj, rfl, hjl, hpf, hp1, hn1, hpr, hbt, hown, hkids, hbz, hfr⟩ := hrel
            obtain ⟨ka, kc, rfl, hkc1, hkc2⟩ := owns_form hown
            unfold maxLen at hkc2
            obtain ⟨c0, c1, c2⟩ := blk3 hbt
            obtain ⟨y0, y1, y2⟩ := blk3 hbz
            have u0 := frozen_of_block hbz 0; have u1 := frozen_of_block hbz 1; have u2 := frozen_of_block hbz 2
            have hsW := hfr.size
            have htW := size_of_block hbt
            have HPF := hide hpf; have HPR := hide hpr; have HBT := hide hbt; have HO := hide hown; have HK := hide hkids; have HBZ := hide hbz; have HFR := hide hfr; have HJL := hide hjl
            clear hpf hpr hbt hown hkids hbz hfr hjl HU1 HU2 HU3 HU4
            by_cases hlt : j < kk
            · go_wp2_with fail
              refine (IH.out d' HDD.out rb n1 p1 D (.slice (some ⟨b, off, none⟩) l.length lc) l (deep + 1) wr HPR.out (HL.out.keep (fun q hq => HFR.out.block q (HD.out q hq).1 (HD.out q hq).2) (fun _ h => h)) HBY.out hp1 hn1 (fun q hq => ⟨by have := (HD.out q hq).1; omega, (HD.out q hq).2⟩) (by have := HDP.out; have := HDD.out; omega) (by have := HDD.out; omega)).mono ?_
              rintro e w5 (⟨er, her, he1, he2, rfl, hf5, p', n', hpr5⟩ | ⟨t', n', p', hok, hpl', hn', s0, s1, pa, pl, pc, rfl, htm5, hpr5, hf5⟩)
              · have hbz5 := (hf5.block w.heap.size (by omega) (by omega)).trans HBZ.out
                have HE : Hid (termP d n (l.drop p) = .error er) := by
                  have h1 := HPF.out
                  rw [show kk - j = (kk - j - 1) + 1 by omega, pref_error her] at h1
                  rw [HDD.out]
                  exact pt_err hn3 (by omega) HKK.out h1.symm
                have hs5 := hf5.size
                have m3 : ∀ o, (w5.alloc o).cell? ⟨rb, 3, none⟩ = some (.int .i64 (er : Nat)) := fun o => (World.cell?_of_block (a := ⟨rb, 3, none⟩) (Below.heap_alloc w5 o rb (by omega))).trans (pr_cells hpr5).2.2.2
                have z5 : ∀ o, (w5.alloc o).heap[w.heap.size]? = some (.cells #[.int .i64 0, .int .i64 0, .slice none 0 0] 29 (0, 0)) := fun o => (Below.heap_alloc w5 o _ (by omega)).trans hbz5
                have m0 := fun o => (blk3 (z5 o)).1
                have m1 := fun o => (blk3 (z5 o)).2.1
                have m2 := fun o => (blk3 (z5 o)).2.2
                have v0 := fun o => frozen_of_block (z5 o) 0
                have v1 := fun o => frozen_of_block (z5 o) 1
                have v2 := fun o => frozen_of_block (z5 o) 2
                have hne : ((er : Int) != 0) = true := by rw [bne_iff_ne]; omega
                have HF5 := hide (HFR.out.trans hf5); have HP5 := hide hpr5
                clear hf5 hpr5 hbz5 z5 her c0 c1 c2 y0 y1 y2 u0 u1 u2
                go_wp2_with fail
                refine bodyPost_ret (v := .agg #[.int .i64 0, .int .i64 0, .slice none 0 0]) (by simp [results, Try.results28, go_sem, *]) rfl (Or.inl ⟨er, HE.out, he1, he2, rfl, pend_fr (HF5.out.alloc _) _ _ _, p', n', pend_pr ((Below.heap_alloc _ _ _ (by omega)).trans HP5.out) hrb _ _ _⟩)
              · have hs5 := hf5.size
                have hbt5 := (hf5.block (w.heap.size + 1) (by omega) (by omega)).trans HBT.out
                have m3 : ∀ o, (w5.alloc o).cell? ⟨rb, 3, none⟩ = some (.int .i64 0) := fun o => (World.cell?_of_block (a := ⟨rb, 3, none⟩) (Below.heap_alloc w5 o rb (by omega))).trans (pr_cells hpr5).2.2.2
                have t5 : ∀ o, (w5.alloc o).heap[w.heap.size + 1]? = some (.cells #[.int .i64 b0, .int .i64 NN, .slice ka j kc] 29 (0, 0)) := fun o => (Below.heap_alloc w5 o _ (by omega)).trans hbt5
                have m2 := fun o => (blk3 (t5 o)).2.2
                have hbw5 : Below w5.heap.size w5 ((w5.alloc (.cells #[.int .i64 s0, .int .i64 s1, .slice pa pl pc] 29)).alloc (.cells #[.int .i64 s0, .int .i64 s1, .slice pa pl pc] 29)) := ((Below.refl _ _).alloc (Nat.le_refl _) _).alloc (by simp) _
                have HOB : Hid (((w5.alloc (.cells #[.int .i64 s0, .int .i64 s1, .slice pa pl pc] 29)).alloc (.cells #[.int .i64 s0, .int .i64 s1, .slice pa pl pc] 29)).ownsRow (w.heap.size + 1 + 1) 29 3 (.slice ka j kc) j xs) := ((owns_keep HO.out (fun q hq1 hq2 => hf5.block q hq2 (by omega))).alloc _).alloc _
                have HNB : Hid (∀ q u, ([.int .i64 s0, .int .i64 s1, .slice pa pl pc] : List Value)[q]? = some u → ((w5.alloc (.cells #[.int .i64 s0, .int .i64 s1, .slice pa pl pc] 29)).alloc (.cells #[.int .i64 s0, .int .i64 s1, .slice pa pl pc] 29)).cell? ((⟨w5.heap.size + 1, 0, none⟩ : Addr).add q) = some u) := by
                  have h := heap_alloc_new (w5.alloc (.cells #[.int .i64 s0, .int .i64 s1, .slice pa pl pc] 29)) (.cells #[.int .i64 s0, .int .i64 s1, .slice pa pl pc] 29)
                  rw [World.size_alloc] at h
                  exact World.news_of_block h
                have HBW := hide hbw5; have HT5 := hide htm5; have HP5 := hide hpr5; have HF5 := hide hf5; have HBT5 := hide hbt5
                have HOK : Hid (pref (ts ++ [t']) (rowP (termP d') (kk - (j + 1)) n' (l.drop p')) = rowP (termP d') kk (n + 1) (l.drop (p + 10))) := by
                  have h1 := HPF.out
                  rw [show kk - j = (kk - (j + 1)) + 1 by omega, pref_ok hok] at h1
                  exact h1
                clear hbw5 htm5 hpr5 hf5 hbt5 hok c0 c1 c2 y0 y1 y2 u0 u1 u2 t5
                go_wp2_with (at_builtin
                             refine wpList_append_lies _ rfl (.tmp 119) (.tmp 121) 27 rfl (w.heap.size + 1 + 1) 29 i (.agg #[.int .i64 0, .int .i64 0, .slice none 0 0]) 3 40 Try.underlying27 hi hz0 hz1 hz2 rfl (by decide) (.slice ka j kc) j xs rfl HOB.out ⟨w5.heap.size + 1, 0, none⟩ 1 1 [.int .i64 s0, .int .i64 s1, .slice pa pl pc] rfl rfl HNB.out (fun u hu => by simp at hu; rcases hu with rfl | rfl | rfl <;> rfl) (by omega) (by unfold maxLen; omega) (by omega) (by simp; omega) (w5.heap.size + 2) (by simp) ?_
                             intro g6 cap6 w6 hown6 hgrow6 hat6 hlt6
                             have hb6 : Hid (w6.heap[w.heap.size + 1]? = some (.cells #[.int .i64 b0, .int .i64 NN, .slice ka j kc] 29 (0, 0))) := (hgrow6.block (w.heap.size + 1) (by simp; omega) (fun e => by have := HO.out.lt _ e.symm; omega)).trans ((HBW.out.block _ (by omega)).trans HBT5.out)
                             have d6 : w6.cell? ⟨w.heap.size + 1, 2, none⟩ = some (.slice ka j kc) := (cell_of_block hb6.out 2).trans rfl
                             have z6 : w6.frozen? ⟨w.heap.size + 1, 2, none⟩ = false := frozen_of_block hb6.out 2
                             have HO6 := hide hown6
                             have HG6 := hide hgrow6
                             have HA6 := hide hat6
                             clear hown6 hgrow6 hat6 hlt6)
                obtain ⟨g1, g2, g3, g4, g5, g7⟩ := pgrow (rb := rb) (Nat.le_refl _) hrb HBT.out HO.out HK.out HBZ.out HF5.out HFR.out HT5.out HBW.out HO6.out HG6.out (by have := HA6.out; simpa using this)
                have G1 := hide g1; have G2 := hide g2; have G3 := hide g3; have G4 := hide g4; have G5 := hide (g5.trans HP5.out); have G7 := hide g7
                clear g1 g2 g3 g4 g5 g7
                go_roundw
                case rel =>
                  have hlen2 : (ts ++ [t']).length = j + 1 := by have := HJL.out; simp [this]
                  (repeat apply Exists.intro)
                  exact ⟨⟨j + 1, n', p', _, _, ts ++ [t'], by omega, by go_num, hlen2, HOK.out, hpl', hn', G5.out, G1.out, G2.out, G3.out, G4.out, G7.out⟩, rfl⟩
                case measure => simp [intOf]; omega
            · have hjk : j = kk := by omega
              subst hjk
              have HOK : Hid (termP d n (l.drop p) = .ok (⟨l[p], numOf (l.drop p), ts⟩, n1, l.drop p1)) := by
                have h1 := HPF.out
                rw [Nat.sub_self, pref_end] at h1
                rw [HDD.out]
                exact pt_ok hn3 (by omega) HKK.out h1.symm
              go_wp2_with fail
              refine bodyPost_ret (v := .agg #[.int .i64 b0, .int .i64 NN, .slice ka j kc]) (by simp [results, Try.results28, go_sem, *]) rfl (Or.inr ⟨_, n1, p1, HOK.out, hp1, hn1, b0, NN, ka, j, kc, rfl, ?_, pend_pr HPR.out hrb _ _ _, pend_fr HFR.out _ _ _⟩)
              have h1 := HB0.out
              have h2 := HNN.out
              rw [← h1, h2, HDD.out]
              exact pfin HO.out HK.out HJL.out hby0 hnI (fun q hq => by rw [heap_setCell_other _ _ _ _ (show q ≠ w.heap.size from hq), heap_setCell_other _ _ _ _ (show q ≠ w.heap.size from hq), heap_setCell_other _ _ _ _ (show q ≠ w.heap.size from hq)]) (by simp [World.setCell])
theorem pterm_any (d : Nat) : PTermC d := by
  induction d with
  | zero => exact pterm_step 0 (fun d' h => by omega)
  | succ d ih => exact pterm_step (d + 1) (fun d' h => by have : d = d' := by omega
                                                          subst this; exact ih)
#print axioms pterm_any
end Go.Proofs.Ytafafeplciidhaa
