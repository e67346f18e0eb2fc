/- row: so many terms are read, one behind the other, if each is read as it should. -/
import Derived.Test.YtafafeplciidhaaQd
import Derived.Test.YtafafeplciidhaaPl
namespace Go.Proofs.Ytafafeplciidhaa
open Go.RowKit

def pref (ts : List Tr) : Except Nat (List Tr × Nat × List Int) → Except Nat (List Tr × Nat × List Int)
  | .error e => .error e
  | .ok (us, n, l) => .ok (ts ++ us, n, l)

theorem pref_nil (r : Except Nat (List Tr × Nat × List Int)) : pref [] r = r := by
  rcases r with _ | ⟨_, _, _⟩ <;> rfl
theorem pref_ok {f : Nat → List Int → Except Nat (Tr × Nat × List Int)} {ts : List Tr} {j n n' : Nat} {l l' : List Int} {t : Tr} (h : f n l = .ok (t, n', l')) : pref ts (rowP f (j + 1) n l) = pref (ts ++ [t]) (rowP f j n' l') := by
  rw [rowP, h]
  simp only
  rcases rowP f j n' l' with _ | ⟨us, n2, l2⟩ <;> simp [pref]
theorem pref_error {f : Nat → List Int → Except Nat (Tr × Nat × List Int)} {ts : List Tr} {j n e : Nat} {l : List Int} (h : f n l = .error e) : pref ts (rowP f (j + 1) n l) = .error e := by
  rw [rowP, h]
  rfl
theorem pref_end {f : Nat → List Int → Except Nat (Tr × Nat × List Int)} {ts : List Tr} {n : Nat} {l : List Int} : pref ts (rowP f 0 n l) = .ok (ts, n, l) := by simp [rowP, pref]

/-- What stays the same for a reader. -/
structure Go1 (w w' : World) (rb : Nat) (D : Nat → Prop) (lv : Value) (n : Nat) (l : List Int) : Prop where
  rd : Rd w' rb lv n
  left : LeftAt w' D lv l
  byt : Byt l
  few : n ≤ 3000
  fr : Fr (fun k => k = rb) w w'

/-- The contract of term, at so many levels. -/
def TermC (d : Nat) : Prop := ∀ (rb n : Nat) (D : Nat → Prop) (lv : Value) (l : List Int) (deep : Int) (w : World), Go1 w w rb D lv n l → (∀ k, D k → k < w.heap.size ∧ k ≠ rb) → deep = 121 - (d : Int) → d ≤ 120 →
  Calls Try.prog 27 #[.pointer (some ⟨rb, 0, none⟩), .int .i64 deep] w fun e w' =>
    (∃ er, termP d n l = .error er ∧ 0 < er ∧ er < 100 ∧ e = .returned (.tuple #[.agg #[.int .i64 0, .int .i64 0, .slice none 0 0], .int .i64 (er : Nat)]) ∧ Fr (fun k => k = rb) w w') ∨
    (∃ t n' l', termP d n l = .ok (t, n', l') ∧ ∃ p0 p1 pa pl pc lv', e = .returned (.tuple #[.agg #[.int .i64 p0, .int .i64 p1, .slice pa pl pc], .int .i64 0]) ∧
      TmD w' (fun k => w.heap.size ≤ k ∧ k < w'.heap.size) d t (.agg #[.int .i64 p0, .int .i64 p1, .slice pa pl pc]) ∧ Go1 w w' rb D lv' n' l')

/-- The contract of row, at so many levels. -/
def RowC (d : Nat) : Prop := ∀ (rb k n : Nat) (D : Nat → Prop) (lv : Value) (l : List Int) (deep : Int) (w : World), Go1 w w rb D lv n l → (∀ k, D k → k < w.heap.size ∧ k ≠ rb) → deep = 121 - (d : Int) → d ≤ 120 → k ≤ 255 →
  Calls Try.prog 32 #[.pointer (some ⟨rb, 0, none⟩), .int .i64 (k : Nat), .int .i64 deep] w fun e w' =>
    (∃ er, rowP (termP d) k n l = .error er ∧ 0 < er ∧ er < 100 ∧ e = .returned (.tuple #[.slice none 0 0, .int .i64 (er : Nat)]) ∧ Fr (fun k => k = rb) w w') ∨
    (∃ ts n' l', rowP (termP d) k n l = .ok (ts, n', l') ∧ ∃ sa sc lv', e = .returned (.tuple #[.slice sa ts.length sc, .int .i64 0]) ∧
      RowAt w' (fun k => w.heap.size ≤ k ∧ k < w'.heap.size) (TmD w' (fun k => w.heap.size ≤ k ∧ k < w'.heap.size) d) ts sa sc ∧ Go1 w w' rb D lv' n' l')

theorem set3_take (cur : Array Value) (i : Nat) (a b c : Value) (h : i * 3 + 2 < cur.size) : (((cur.setIfInBounds (i * 3) a).setIfInBounds (i * 3 + 1) b).setIfInBounds (i * 3 + 2) c).toList.take ((i + 1) * 3) = cur.toList.take (i * 3) ++ [a, b, c] := by
  have hl : (cur.toList.take (i * 3)).length = i * 3 := by simp; omega
  apply List.ext_getElem?
  intro j
  simp only [Array.toList_setIfInBounds, List.getElem?_take, List.getElem?_set]
  by_cases h1 : j < i * 3
  · rw [List.getElem?_append_left (by omega), List.getElem?_take_of_lt h1]
    simp [show ¬ i * 3 + 2 = j by omega, show ¬ i * 3 + 1 = j by omega, show ¬ i * 3 = j by omega, show j < (i + 1) * 3 by omega]
  · rw [List.getElem?_append_right (by omega), hl]
    by_cases h2 : j = i * 3
    · subst h2; simp [show i * 3 < cur.size by omega]
    · by_cases h3 : j = i * 3 + 1
      · subst h3; simp [show i * 3 + 1 < cur.size by omega, show i * 3 + 1 - i * 3 = 1 by omega]; omega
      · by_cases h4 : j = i * 3 + 2
        · subst h4; simp [show i * 3 + 2 < cur.size by omega, show i * 3 + 2 - i * 3 = 2 by omega]; omega
        · rw [if_neg (by omega), List.getElem?_eq_none (by simp; omega)]

/-- Behind i terms of a row. -/
def RowInv (w wr : World) (rb K d n : Nat) (D : Nat → Prop) (l : List Int) (i : Nat) : Prop :=
  ∃ ts ni li lvi cur, rowP (termP d) K n l = pref ts (rowP (termP d) (K - i) ni li) ∧ ts.length = i ∧ wr.heap[w.heap.size]? = some (.cells cur 29 (0, 0)) ∧ cur.size = K * 3 ∧
    KidsAt wr (fun q => w.heap.size + 1 ≤ q ∧ q < wr.heap.size) d ts (cur.toList.take (i * 3)) ∧ Go1 w wr rb D lvi ni li

/-- Three cells of a row's block, with a new block behind. -/
theorem three_stores {w : World} {g i : Nat} {cur : Array Value} {T : TypeId} (hg : w.heap[g]? = some (.cells cur T (0, 0))) (hs : i + 2 < cur.size) :
    (∃ v0, (∀ o, (w.alloc o).cell? ⟨g, i, none⟩ = some v0) ∧ (∀ o, (w.alloc o).frozen? ⟨g, i, none⟩ = false)) ∧
    (∃ v1, (∀ o, (w.alloc o).cell? ⟨g, i + 1, none⟩ = some v1) ∧ (∀ o, (w.alloc o).frozen? ⟨g, i + 1, none⟩ = false)) ∧
    (∃ v2, (∀ o, (w.alloc o).cell? ⟨g, i + 2, none⟩ = some v2) ∧ (∀ o, (w.alloc o).frozen? ⟨g, i + 2, none⟩ = false)) := by
  have ha : ∀ o, (w.alloc o).heap[g]? = some (.cells cur T (0, 0)) := fun o => (Below.heap_alloc w o g (size_of_block hg)).trans hg
  refine ⟨⟨cur[i], fun o => ?_, fun o => frozen_of_block (ha o) _⟩, ⟨cur[i + 1], fun o => ?_, fun o => frozen_of_block (ha o) _⟩, ⟨cur[i + 2], fun o => ?_, fun o => frozen_of_block (ha o) _⟩⟩
  · rw [cell_of_block (ha o), Array.getElem?_eq_getElem (by omega)]
  · rw [cell_of_block (ha o), Array.getElem?_eq_getElem (by omega)]
  · rw [cell_of_block (ha o), Array.getElem?_eq_getElem (by omega)]

theorem Go1.self {w w' : World} {rb n : Nat} {D : Nat → Prop} {lv : Value} {l : List Int} (h : Go1 w w' rb D lv n l) : Go1 w' w' rb D lv n l := ⟨h.rd, h.left, h.byt, h.few, Fr.refl _ _⟩

theorem row_step {w wr w2 : World} {rb k d n j ni n' : Nat} {D : Nat → Prop} {l li l' : List Int} {ts : List Tr} {lvi lv' : Value} {cur : Array Value} {t : Tr} {p0 p1 p2 : Value} {o : Obj}
    (HRW : rowP (termP d) (k + 1) n l = pref ts (rowP (termP d) (k + 1 - j) ni li)) (HTL : ts.length = j) (HC : wr.heap[w.heap.size]? = some (.cells cur 29 (0, 0))) (HCS : cur.size = (k + 1) * 3)
    (HKD : KidsAt wr (fun q => w.heap.size + 1 ≤ q ∧ q < wr.heap.size) d ts (cur.toList.take (j * 3))) (HGO : Go1 w wr rb D lvi ni li) (hD : ∀ k, D k → k < w.heap.size ∧ k ≠ rb) (hlt : j < k + 1) (hrb : rb < w.heap.size)
    (HOK : termP d ni li = .ok (t, n', l')) (HTM : TmD w2 (fun q => wr.heap.size ≤ q ∧ q < w2.heap.size) d t (.agg #[p0, p1, p2])) (HG2 : Go1 wr w2 rb D lv' n' l') :
    RowInv w ((((w2.alloc o).setCell ⟨w.heap.size, j * 3, none⟩ p0).setCell ⟨w.heap.size, j * 3 + 1, none⟩ p1).setCell ⟨w.heap.size, j * 3 + 2, none⟩ p2) rb (k + 1) d n D l (j + 1) := by
  have hgw := size_of_block HC
  have hs2 := HG2.fr.size
  have oth : ∀ q, q ≠ w.heap.size → q < w2.heap.size → ((((w2.alloc o).setCell ⟨w.heap.size, j * 3, none⟩ p0).setCell ⟨w.heap.size, j * 3 + 1, none⟩ p1).setCell ⟨w.heap.size, j * 3 + 2, none⟩ p2).heap[q]? = w2.heap[q]? := fun q hq hq2 => by
    rw [heap_setCell_other _ _ _ _ hq, heap_setCell_other _ _ _ _ hq, heap_setCell_other _ _ _ _ hq, Below.heap_alloc _ _ _ hq2]
  have hsz : ((((w2.alloc o).setCell ⟨w.heap.size, j * 3, none⟩ p0).setCell ⟨w.heap.size, j * 3 + 1, none⟩ p1).setCell ⟨w.heap.size, j * 3 + 2, none⟩ p2).heap.size = w2.heap.size + 1 := by simp [World.setCell]
  have hg2 : (w2.alloc o).heap[w.heap.size]? = some (.cells cur 29 (0, 0)) := (Below.heap_alloc _ _ _ (by omega)).trans ((HG2.fr.block w.heap.size hgw (by omega)).trans HC)
  refine ⟨ts ++ [t], n', l', lv', _, ?_, by simp [HTL], heap_setCell_same _ _ _ _ _ _ (heap_setCell_same _ _ _ _ _ _ (heap_setCell_same _ _ _ _ _ _ hg2)), by simp [HCS], ?_, ?_, ?_, HG2.byt, HG2.few, ?_⟩
  · rw [HRW, show k + 1 - j = (k + 1 - (j + 1)) + 1 by omega, pref_ok HOK]
  · rw [set3_take _ _ _ _ _ (by omega)]
    refine KidsAt.snoc (HKD.keep (fun q hq => ?_) (fun q hq => ⟨hq.1, by rw [hsz]; omega⟩)) (HTM.keep (fun q hq => ?_) (fun q hq => ⟨by omega, by rw [hsz]; omega⟩) d _ _)
    · rw [oth q (by omega) (by omega)]; exact HG2.fr.block q hq.2 (by omega)
    · exact oth q (by omega) hq.2
  · unfold Rd
    rw [oth rb (by omega) (by omega)]; exact HG2.rd
  · exact HG2.left.keep (fun q hq => oth q (by have := hD q hq; omega) (by have := hD q hq; omega)) (fun _ h => h)
  · exact ((((HGO.fr.trans HG2.fr).alloc _).setNew (Nat.le_refl _) _).setNew (Nat.le_refl _) _).setNew (Nat.le_refl _) _

/-- A row that is whole. -/
theorem kids_row {w : World} {D : Nat → Prop} {d g : Nat} {ts : List Tr} {cur : Array Value} (h : KidsAt w D d ts (cur.toList.take (ts.length * 3))) (hg : w.heap[g]? = some (.cells cur 29 (0, 0))) (hs : cur.size = ts.length * 3) (hm : ts.length ≤ maxLen) (D' : Nat → Prop) (hDg : D' g) (hD : ∀ k, D k → D' k) :
    RowAt w D' (TmD w D' d) ts (some ⟨g, 0, none⟩) ts.length := by
  refine ⟨Nat.le_refl _, hm, fun _ => ⟨g, 0, rfl, hDg, fun i hi => ?_⟩⟩
  obtain ⟨x0, x1, x2, h0, h1, h2, h3⟩ := h.2 i hi
  have key : ∀ j u, (cur.toList.take (ts.length * 3))[j]? = some u → w.cell? ⟨g, 0 + j, none⟩ = some u := fun j u hu => by
    rw [cell_of_block hg, Nat.zero_add]
    have hj : j < ts.length * 3 := by
      have := (List.getElem?_eq_some_iff.1 hu).1
      simp at this
      omega
    rw [List.getElem?_take_of_lt hj] at hu
    simpa using hu
  refine ⟨x0, x1, x2, key _ _ h0, ?_, ?_, h3.keep (fun _ _ => rfl) hD d _ _⟩
  · rw [Nat.add_assoc]; exact key _ _ h1
  · rw [Nat.add_assoc]; exact key _ _ h2

set_option maxRecDepth 20000 in
set_option maxHeartbeats 1000000 in
theorem row_of (d : Nat) (hT : TermC d) : RowC d := by
  intro rb k n D lv l deep w hg hD hdeep hd hk
  cases k with
  | zero =>
    have HG := hide hg
    clear hg
    go_enter Try.func32, Try.ntmps32
    go_wp2_with fail
    go_ret2
    exact Or.inr ⟨[], n, l, rfl, none, 0, lv, rfl, RowAt.nil (by unfold maxLen; omega), HG.out⟩
  | succ k =>
    have HG := hide hg; have HT := hide hT; have HD := hide hD; have HDP := hide hdeep
    clear hg hT hD hdeep
    obtain ⟨i, hi, hz0, hz1, hz2⟩ := info_parts Try.info29
    have h0 : ((k : Int) + 1 == 0) = false := beq_eq_false_iff_ne.2 (by omega)
    go_enter Try.func32, Try.ntmps32
    go_wp2_with (at_make; refine wpList_make_full _ rfl _ _ 27 rfl w.heap.size 29 i (.agg #[.int .i64 0, .int .i64 0, .slice none 0 0]) 3 Try.underlying27 hi hz0 hz1 _ _ _ _ (k + 1) rfl rfl (by omega) (by omega) (by rw [hz2]; omega) (by unfold maxLen; omega) (by omega) ?_; intro w1 hown1 hgrow1; have HO1 := hide hown1; have HG1 := hide hgrow1; clear hown1 hgrow1)
    have hs1 : w.heap.size ≤ w1.heap.size := HG1.out.size
    have hrb : rb < w.heap.size := size_of_block HG.out.rd
    have HI0 : Hid (RowInv w w1 rb (k + 1) d n D l 0) := by
      rcases HO1.out.2 with ⟨h1, _⟩ | ⟨q, c, cur, h1, _, h2, _, _, h3, _⟩
      · cases h1
      · simp at h1
        obtain ⟨rfl, rfl⟩ := h1
        refine ⟨[], n, l, lv, cur, (pref_nil _).symm, rfl, h2, h3, KidsAt.nil _ _ _, ?_, ?_, HG.out.byt, HG.out.few, ?_⟩
        · exact (HG1.out.block rb hrb (by simp)).trans HG.out.rd
        · exact HG.out.left.keep (fun q hq => HG1.out.block q (HD.out q hq).1 (by simp)) (fun _ h => h)
        · exact ⟨HG1.out.os, HG1.out.tape, HG1.out.output, HG1.out.size, fun q hq _ => HG1.out.block q hq (by simp)⟩
    go_loopw [18] (fun c18 wr => ∃ i : Nat, i ≤ k + 1 ∧ c18 = .int .i64 i ∧ RowInv w wr rb (k + 1) d n D l i) (fun c18 _ => k + 1 - (intOf c18).toNat)
    case atStart => exact ⟨0, by omega, rfl, HI0.out⟩
    case round =>
      obtain ⟨j, hj, rfl, ts, ni, li, lvi, cur, hrow, htl, hcur, hcs, hkids, hgo⟩ := hrel
      have HRW := hide hrow; have HTL := hide htl; have HC := hide hcur; have HCS := hide hcs; have HKD := hide hkids; have HGO := hide hgo
      clear hrow htl hcur hcs hkids hgo
      have hwr := HGO.out.fr.size
      have hgw : w.heap.size < wr.heap.size := size_of_block HC.out
      by_cases hlt : j < k + 1
      · go_wp2_with fail
        refine (HT.out rb ni D lvi li deep wr HGO.out.self (fun q hq => ⟨by have := (HD.out q hq).1; omega, (HD.out q hq).2⟩) HDP.out hd).mono ?_
        rintro e w2 (⟨er, her, hp1, hp2, rfl, hfr⟩ | ⟨t, n', l', hok, p0, p1, pa, pl, pc, lv', rfl, htm, hgo2⟩)
        · have hne : ((er : Int) != 0) = true := by rw [bne_iff_ne]; omega
          have HE := hide her; have HF := hide hfr
          clear her hfr
          go_wp2_with fail
          go_ret2
          refine Or.inl ⟨er, ?_, hp1, hp2, rfl, (HGO.out.fr.trans HF.out).alloc _⟩
          rw [HRW.out, show k + 1 - j = (k - j) + 1 by omega, pref_error HE.out]
        · have HOK := hide hok; have HTM := hide htm; have HG2 := hide hgo2
          clear hok htm hgo2
          have hs2 : wr.heap.size ≤ w2.heap.size := HG2.out.fr.size
          have hg2 : w2.heap[w.heap.size]? = some (.cells cur 29 (0, 0)) := (HG2.out.fr.block w.heap.size hgw (by omega)).trans HC.out
          have hcz : j * 3 + 2 < cur.size := by have := HCS.out; omega
          obtain ⟨⟨v0, c0, d0⟩, ⟨v1, c1, d1⟩, ⟨v2, c2, d2⟩⟩ := three_stores hg2 hcz
          have HG3 := hide hg2
          clear hg2
          go_wp2_with fail
          exact ⟨⟨j + 1, by omega, by go_num, row_step HRW.out HTL.out HC.out HCS.out HKD.out HGO.out HD.out hlt hrb HOK.out HTM.out HG2.out⟩, by simp [intOf]; omega⟩
      · go_wp2_with fail
        go_ret2
        have hjk : j = k + 1 := by omega
        subst hjk
        have h1 := HRW.out
        rw [Nat.sub_self, pref_end] at h1
        refine Or.inr ⟨ts, ni, li, h1, some ⟨w.heap.size, 0, none⟩, k + 1, lvi, by rw [HTL.out]; rfl, ?_, HGO.out⟩
        have h2 := HKD.out
        have h3 := HTL.out
        rw [← h3] at h2
        have h4 := kids_row h2 HC.out (by rw [HCS.out, h3]) (by rw [h3]; unfold maxLen; omega) (fun q => w.heap.size ≤ q ∧ q < wr.heap.size) ⟨Nat.le_refl _, hgw⟩ (fun q hq => by omega)
        rw [h3] at h4
        exact h4
#print axioms row_of
end Go.Proofs.Ytafafeplciidhaa
