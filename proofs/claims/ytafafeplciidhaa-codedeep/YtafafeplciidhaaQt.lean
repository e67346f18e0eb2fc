/- term and Parse: a term is read from its bytes as the document says. -/
import Derived.Test.YtafafeplciidhaaQr
import Derived.Test.YtafafeplciidhaaReg
namespace Go.Proofs.Ytafafeplciidhaa
open Go.RowKit

attribute [local go_sem ↓] Go.wp_at_zero Go.wp_at_succ

/-- The same, the invariant told what the frame was at first. -/
theorem wp_region_inv0 {P : Program} {id : Nat} {ops : Array Oper} {Q : Exit → Act → World → Prop} {a : Act} {w : World} (hm : P.follows .mixedOrders = true) (hback : backB ops = true)
    (I : Act → (Nat → Bool) → Act → World → Prop) (h0 : I a (fun _ => false) a w.drew)
    (step : AllOps (fun i o => ∀ (L : Nat → Bool) (a' : Act) (w : World) (K : Act → World → Prop), L i = false → (∀ e ∈ o.after, Region.binds .any e = true → L e.on = true) → I a L a' w → (∀ a'' w', I a (upd L i) a'' w' → K a'' w') →
      (if Region.wanted o (yielded ops a'.tmps) = true then Oper.wp P o a' w K Q else K (a'.put o.dst undef) w)) 0 ops.toList)
    (fin : ∀ (L : Nat → Bool) (a' : Act) (w : World), (∀ i, i < ops.size → L i = true) → I a L a' w → Q .normal a' w) : (Code.region id ops true).wp P Q a w :=
  wp_region_inv hm hback (I a) h0 step fin

theorem cells_z {w : World} {b : Nat} {x y z : Value} {T : TypeId} (h : w.heap[b]? = some (.cells #[x, y, z] T (0, 0))) :
    ((∀ o, (w.alloc o).cell? ⟨b, 0, none⟩ = some x) ∧ (∀ o, (w.alloc o).cell? ⟨b, 1, none⟩ = some y) ∧ (∀ o, (w.alloc o).cell? ⟨b, 2, none⟩ = some z)) ∧
    ((∀ o, (w.alloc o).frozen? ⟨b, 0, none⟩ = false) ∧ (∀ o, (w.alloc o).frozen? ⟨b, 1, none⟩ = false) ∧ (∀ o, (w.alloc o).frozen? ⟨b, 2, none⟩ = false)) := by
  have ha : ∀ o, (w.alloc o).heap[b]? = some (.cells #[x, y, z] T (0, 0)) := fun o => (Below.heap_alloc w o b (size_of_block h)).trans h
  exact ⟨⟨fun o => by rw [cell_of_block (ha o)]; rfl, fun o => by rw [cell_of_block (ha o)]; rfl, fun o => by rw [cell_of_block (ha o)]; rfl⟩, fun o => frozen_of_block (ha o) 0, fun o => frozen_of_block (ha o) 1, fun o => frozen_of_block (ha o) 2⟩

theorem blk3 {w : World} {b : Nat} {x y z : Value} {T : TypeId} {fr : Nat × Nat} (h : w.heap[b]? = some (.cells #[x, y, z] T fr)) : w.cell? ⟨b, 0, none⟩ = some x ∧ w.cell? ⟨b, 1, none⟩ = some y ∧ w.cell? ⟨b, 2, none⟩ = some z := by
  refine ⟨?_, ?_, ?_⟩ <;> (rw [cell_of_block h]; rfl)

theorem i64_range (x : Int) : I64 (IntKind.i64.wrap x) := by
  unfold I64
  rw [IntKind.wrap_i64]
  omega

theorem tok {d n n' kk : Nat} {l r l' : List Int} {ts : List Tr} {b0 b1 b2 b3 b4 b5 b6 b7 b8 : Int} (h : ¬ n = 3000) (hl : l = b0 :: b1 :: b2 :: b3 :: b4 :: b5 :: b6 :: b7 :: b8 :: (kk : Int) :: r) (hr : rowP (termP d) kk (n + 1) r = .ok (ts, n', l')) :
    termP (d + 1) n l = .ok (⟨b0, numOf [b0, b1, b2, b3, b4, b5, b6, b7, b8, (kk : Int)], ts⟩, n', l') := by
  subst hl
  have e1 : ¬ (b0 :: b1 :: b2 :: b3 :: b4 :: b5 :: b6 :: b7 :: b8 :: (kk : Int) :: r).length < 10 := by simp
  have e2 : ((b0 :: b1 :: b2 :: b3 :: b4 :: b5 :: b6 :: b7 :: b8 :: (kk : Int) :: r).getD 9 0).toNat = kk := by simp [List.getD]
  have e3 : (b0 :: b1 :: b2 :: b3 :: b4 :: b5 :: b6 :: b7 :: b8 :: (kk : Int) :: r).drop 10 = r := rfl
  rw [termP, if_neg h, if_neg e1, e2, e3, hr]
  rfl
theorem terr {d n kk er : Nat} {l r : List Int} {b0 b1 b2 b3 b4 b5 b6 b7 b8 : Int} (h : ¬ n = 3000) (hl : l = b0 :: b1 :: b2 :: b3 :: b4 :: b5 :: b6 :: b7 :: b8 :: (kk : Int) :: r) (hr : rowP (termP d) kk (n + 1) r = .error er) :
    termP (d + 1) n l = .error er := by
  subst hl
  have e1 : ¬ (b0 :: b1 :: b2 :: b3 :: b4 :: b5 :: b6 :: b7 :: b8 :: (kk : Int) :: r).length < 10 := by simp
  have e2 : ((b0 :: b1 :: b2 :: b3 :: b4 :: b5 :: b6 :: b7 :: b8 :: (kk : Int) :: r).getD 9 0).toNat = kk := by simp [List.getD]
  have e3 : (b0 :: b1 :: b2 :: b3 :: b4 :: b5 :: b6 :: b7 :: b8 :: (kk : Int) :: r).drop 10 = r := rfl
  rw [termP, if_neg h, if_neg e1, e2, e3, hr]

theorem tzero (n : Nat) (l : List Int) : termP 0 n l = .error 5 := rfl
theorem tfull (d : Nat) (l : List Int) : termP (d + 1) 3000 l = .error 5 := by simp [termP]
theorem tcut (d n : Nat) (l : List Int) (h : ¬ n = 3000) (hl : l.length < 10) : termP (d + 1) n l = .error 2 := by simp [termP, h, hl]

set_option maxRecDepth 20000 in
set_option maxHeartbeats 1000000 in
theorem term_zero : TermC 0 := by
  intro rb n D lv l deep w hg hD hdeep hd
  have HG := hide hg; clear hg hD
  have h121 : (120 : Int) < deep := by omega
  have HDP := hide hdeep; clear hdeep
  go_enter Try.func27, Try.ntmps27
  go_wp2_with fail
  refine bodyPost_ret (v := .tuple #[.agg #[.int .i64 0, .int .i64 0, .slice none 0 0], .int .i64 5]) (by simp [results, Try.results27, go_sem]) rfl (Or.inl ⟨5, rfl, by omega, by omega, rfl, ?_⟩)
  exact (Fr.refl _ _).alloc _

set_option maxRecDepth 20000 in
set_option maxHeartbeats 1000000 in
theorem term_succ (d : Nat) (hR : RowC d) : TermC (d + 1) := by
  intro rb n D lv l deep w hg hD hdeep hd
  have hle : deep ≤ 120 := by omega
  have hge : 0 ≤ deep := by omega
  have HG := hide hg; have HD := hide hD; have HDP := hide hdeep; have HR := hide hR
  clear hg hD hdeep hR
  have hn := HG.out.few
  have c1 : ∀ o, (w.alloc o).cell? ⟨rb, 1, none⟩ = some (.int .i64 (n : Nat)) := fun o => by
    rw [cell_of_block ((Below.heap_alloc w o rb (size_of_block HG.out.rd)).trans HG.out.rd)]; rfl
  have k1 : ∀ o, (w.alloc o).frozen? ⟨rb, 1, none⟩ = false := fun o => frozen_of_block ((Below.heap_alloc w o rb (size_of_block HG.out.rd)).trans HG.out.rd) 1
  by_cases h3 : n = 3000
  · subst h3
    go_enter Try.func27, Try.ntmps27
    go_wp2_with fail
    refine bodyPost_ret (v := .tuple #[.agg #[.int .i64 0, .int .i64 0, .slice none 0 0], .int .i64 5]) (by simp [results, Try.results27, go_sem]) rfl (Or.inl ⟨5, tfull d l, by omega, by omega, rfl, ?_⟩)
    exact (Fr.refl _ _).alloc _
  · have hnb : ((n : Int) == 3000) = false := beq_eq_false_iff_ne.2 (by omega)
    have H3 := hide h3
    clear h3
    go_enter Try.func27, Try.ntmps27
    go_wp2_with fail
    have hrb := size_of_block HG.out.rd
    have w1rd : Rd ((w.alloc (.cells #[.int .i64 0, .int .i64 0, .slice none 0 0] 29)).setCell ⟨rb, 1, none⟩ (.int .i64 ((n : Int) + 1))) rb lv (n + 1) := by
      unfold Rd
      rw [heap_setCell_same _ _ _ _ _ _ ((Below.heap_alloc w _ rb hrb).trans HG.out.rd)]
      rfl
    have w1z : ((w.alloc (.cells #[.int .i64 0, .int .i64 0, .slice none 0 0] 29)).setCell ⟨rb, 1, none⟩ (.int .i64 ((n : Int) + 1))).heap[w.heap.size]? = some (.cells #[.int .i64 0, .int .i64 0, .slice none 0 0] 29 (0, 0)) := by
      rw [heap_setCell_other _ _ _ _ (by dsimp only; omega)]; exact heap_alloc_new w _
    have w1fr : Fr (fun k => k = rb) w ((w.alloc (.cells #[.int .i64 0, .int .i64 0, .slice none 0 0] 29)).setCell ⟨rb, 1, none⟩ (.int .i64 ((n : Int) + 1))) := Fr.setCell (M := fun k => k = rb) ((Fr.refl _ _).alloc _) (p := ⟨rb, 1, none⟩) rfl _
    have w1sz : ((w.alloc (.cells #[.int .i64 0, .int .i64 0, .slice none 0 0] 29)).setCell ⟨rb, 1, none⟩ (.int .i64 ((n : Int) + 1))).heap.size = w.heap.size + 1 := by simp [World.setCell]
    generalize ((w.alloc (.cells #[.int .i64 0, .int .i64 0, .slice none 0 0] 29)).setCell ⟨rb, 1, none⟩ (.int .i64 ((n : Int) + 1))) = W at *
    have HRD := hide w1rd; have HWZ := hide w1z; have HWF := hide w1fr; have HWS := hide w1sz
    have HLF : Hid (LeftAt W D lv l) := HG.out.left.keep (fun q hq => HWF.out.block q (HD.out q hq).1 (HD.out q hq).2) (fun _ h => h)
    have HDW : Hid (∀ k, D k → k < W.heap.size ∧ k ≠ rb) := fun q hq => ⟨by have := (HD.out q hq).1; have := HWS.out; omega, (HD.out q hq).2⟩
    clear w1rd w1z w1fr w1sz c1 k1
    by_cases hl : l.length < 10
    · refine (head_cut rb (n + 1) D lv l W HRD.out HLF.out hl).mono ?_
      rintro e w2 ⟨rfl, hb2⟩
      have hz2 : w2.heap[w.heap.size]? = some (.cells #[.int .i64 0, .int .i64 0, .slice none 0 0] 29 (0, 0)) := (hb2.block _ (by have := HWS.out; omega)).trans HWZ.out
      have HF2 : Hid (Fr (fun k => k = rb) w w2) := HWF.out.trans (Fr.of_below hb2)
      have hs2 := hb2.size
      have HZ2 := hide hz2
      clear hb2 hz2
      unfold zero10
      obtain ⟨⟨v0, v1, v2⟩, y0, y1, y2⟩ := cells_z HZ2.out
      go_wp2_with fail
      refine bodyPost_ret (v := .tuple #[.agg #[.int .i64 0, .int .i64 0, .slice none 0 0], .int .i64 2]) (by simp [results, Try.results27, go_sem, *]) rfl (Or.inl ⟨2, tcut d n l H3.out hl, by omega, by omega, rfl, ?_⟩)
      exact (((HF2.out.alloc _).setNew (Nat.le_refl _) _).setNew (Nat.le_refl _) _).setNew (Nat.le_refl _) _
    · obtain ⟨b0, b1, b2, b3, b4, b5, b6, b7, b8, b9, r, hle10⟩ := ten (l := l) (by omega)
      have hby := HG.out.byt
      rw [hle10] at hby
      have g0 := hby b0 (by simp)
      have g1 := hby b1 (by simp)
      have g2 := hby b2 (by simp)
      have g3 := hby b3 (by simp)
      have g4 := hby b4 (by simp)
      have g5 := hby b5 (by simp)
      have g6 := hby b6 (by simp)
      have g7 := hby b7 (by simp)
      have g8 := hby b8 (by simp)
      have g9 := hby b9 (by simp)
      have HBR : Hid (Byt r) := fun x hx => hby x (by simp [hx])
      obtain ⟨kk, rfl⟩ := Int.eq_ofNat_of_zero_le g9.1
      have hkk : kk ≤ 255 := by have := g9.2; omega
      have HLE := hide hle10
      clear hle10 hby
      refine (head_ok rb (n + 1) D lv l W HRD.out HLF.out HDW.out HLE.out).mono ?_
      rintro e w2 ⟨rfl, hf2, lv2, hrd2, hlf2⟩
      have hs2 := hf2.size
      have hz2 : w2.heap[w.heap.size]? = some (.cells #[.int .i64 0, .int .i64 0, .slice none 0 0] 29 (0, 0)) := (hf2.block _ (by have := HWS.out; omega) (by omega)).trans HWZ.out
      have HF2 := hide (HWF.out.trans hf2); have HRD2 := hide hrd2; have HLF2 := hide hlf2; have HZ2 := hide hz2
      clear hf2 hrd2 hlf2 hz2
      go_wp2_with fail
      refine (h_kids _ _ _ _ _ _ _ _ _ _ _ g9).mono ?_
      rintro e w3 ⟨rfl, hb3⟩
      have hs3 := hb3.size
      rw [World.size_alloc] at hs3
      have hw1 : w.heap.size + 1 ≤ w2.heap.size := by have := HWS.out; omega
      have HF3 : Hid (Fr (fun k => k = rb) w w3) := (HF2.out.alloc _).trans (Fr.of_below hb3)
      have HK3 : Hid (∀ q, q < w2.heap.size → w3.heap[q]? = w2.heap[q]?) := fun q hq => (hb3.block q (by rw [World.size_alloc]; omega)).trans (Below.heap_alloc _ _ _ hq)
      have HH3 : Hid (w3.heap[w2.heap.size]? = some (.cells #[.int .u8 b0, .int .u8 b1, .int .u8 b2, .int .u8 b3, .int .u8 b4, .int .u8 b5, .int .u8 b6, .int .u8 b7, .int .u8 b8, .int .u8 (kk : Int)] 68 (0, 0))) := (hb3.block w2.heap.size (by rw [World.size_alloc]; omega)).trans (heap_alloc_new w2 _)
      clear hb3
      have HG3 : Hid (Go1 w3 w3 rb D lv2 (n + 1) r) := ⟨(HK3.out rb (by omega)).trans HRD2.out, HLF2.out.keep (fun q hq => HK3.out q (by have := (HD.out q hq).1; omega)) (fun _ h => h), HBR.out, by have := H3.out; omega, Fr.refl _ _⟩
      have hd1 : deep + 1 = 121 - (d : Int) := by have := HDP.out; omega
      have HD1 := hide hd1
      clear hd1
      go_wp2_with fail
      refine (HR.out rb kk (n + 1) D lv2 r (deep + 1) w3 HG3.out (fun q hq => ⟨by have := (HD.out q hq).1; omega, (HD.out q hq).2⟩) HD1.out (by omega) hkk).mono ?_
      rintro e w4 (⟨er, her, hp1, hp2, rfl, hfr⟩ | ⟨ts, n', l', hok, sa, sc, lv', rfl, hrw, hgo⟩)
      · have hs4 : w3.heap.size ≤ w4.heap.size := hfr.size
        have hz4 : w4.heap[w.heap.size]? = some (.cells #[.int .i64 0, .int .i64 0, .slice none 0 0] 29 (0, 0)) := (hfr.block w.heap.size (by omega) (by omega)).trans ((HK3.out w.heap.size (by omega)).trans HZ2.out)
        obtain ⟨y0, y1, y2⟩ := blk3 hz4
        have x0 := frozen_of_block hz4 0
        have x1 := frozen_of_block hz4 1
        have x2 := frozen_of_block hz4 2
        have hne : ((er : Int) != 0) = true := by rw [bne_iff_ne]; omega
        have HE := hide her; have HF4 := hide (HF3.out.trans hfr)
        clear her hfr hz4
        go_wp2_with fail
        refine bodyPost_ret (v := .tuple #[.agg #[.int .i64 0, .int .i64 0, .slice none 0 0], .int .i64 (er : Nat)]) (by simp [results, Try.results27, go_sem, *]) rfl (Or.inl ⟨er, terr H3.out HLE.out HE.out, hp1, hp2, rfl, ?_⟩)
        exact ((HF4.out.setNew (Nat.le_refl _) _).setNew (Nat.le_refl _) _).setNew (Nat.le_refl _) _
      · have HOK := hide hok; have HRW := hide hrw; have HG4 := hide hgo
        clear hok hrw hgo
        go_wp2_with fail
        have hs4 : w3.heap.size ≤ w4.heap.size := HG4.out.fr.size
        have HH4 : Hid (w4.heap[w2.heap.size]? = some (.cells #[.int .u8 b0, .int .u8 b1, .int .u8 b2, .int .u8 b3, .int .u8 b4, .int .u8 b5, .int .u8 b6, .int .u8 b7, .int .u8 b8, .int .u8 (kk : Int)] 68 (0, 0))) := (HG4.out.fr.block w2.heap.size (by omega) (by omega)).trans HH3.out
        have HZ4 : Hid (w4.heap[w.heap.size]? = some (.cells #[.int .i64 0, .int .i64 0, .slice none 0 0] 29 (0, 0))) := (HG4.out.fr.block w.heap.size (by omega) (by omega)).trans ((HK3.out w.heap.size (by omega)).trans HZ2.out)
        refine wp_region_inv0 (by kernel_rfl) (by kernel_rfl) (fun _ L a6 w' => ∃ v5 v48 v49 v50 v51 v52 v53 : Value, a6 = { tmps := #[.pointer (some ⟨rb, 0, none⟩), .int .i64 deep, undef, undef, .pointer (some ⟨w.heap.size, 0, none⟩), v5, .pointer (some ⟨w2.heap.size, 0, none⟩), .bool true, .slice sa ts.length sc, .int .i64 0, .int .i64 deep, .bool (decide (120 < deep)), .bool (decide (120 < deep)), .pointer (some ⟨rb, 0, none⟩), .pointer (some ⟨rb, 0, none⟩), .pointer (some ⟨rb, 1, none⟩), .int .i64 (n : Nat), .bool false, .bool (decide (120 < deep)), undef, .pointer (some ⟨rb, 0, none⟩), .pointer (some ⟨rb, 0, none⟩), .pointer (some ⟨rb, 1, none⟩), .int .i64 (n : Nat), .int .i64 ((n : Int) + 1), .pointer (some ⟨rb, 0, none⟩), .pointer (some ⟨rb, 1, none⟩), .tuple #[Value.agg #[.int .u8 b0, .int .u8 b1, .int .u8 b2, .int .u8 b3, .int .u8 b4, .int .u8 b5, .int .u8 b6, .int .u8 b7, .int .u8 b8, .int .u8 (kk : Int)], .bool true], .pointer (some ⟨rb, 0, none⟩), .tuple #[Value.agg #[.int .u8 b0, .int .u8 b1, .int .u8 b2, .int .u8 b3, .int .u8 b4, .int .u8 b5, .int .u8 b6, .int .u8 b7, .int .u8 b8, .int .u8 (kk : Int)], .bool true], Value.agg #[.int .u8 b0, .int .u8 b1, .int .u8 b2, .int .u8 b3, .int .u8 b4, .int .u8 b5, .int .u8 b6, .int .u8 b7, .int .u8 b8, .int .u8 (kk : Int)], .bool true, .bool true, .bool false, undef, .tuple #[.slice sa ts.length sc, .int .i64 0], .pointer (some ⟨rb, 0, none⟩), Value.agg #[.int .u8 b0, .int .u8 b1, .int .u8 b2, .int .u8 b3, .int .u8 b4, .int .u8 b5, .int .u8 b6, .int .u8 b7, .int .u8 b8, .int .u8 (kk : Int)], .int .i64 (kk : Int), .int .i64 deep, .int .i64 (deep + 1), .tuple #[.slice sa ts.length sc, .int .i64 0], .slice sa ts.length sc, .int .i64 0, .int .i64 0, .bool false, undef, undef, v48, v49, v50, v51, v52, v53], defers := [] } ∧ Fr (fun k => k = w.heap.size) w4 w' ∧ (L 6 = false → w'.heap[w.heap.size]? = some (.cells #[.int .i64 0, .int .i64 0, .slice none 0 0] 29 (0, 0))) ∧ (L 0 = true → v48 = (.agg #[.int .u8 b0, .int .u8 b1, .int .u8 b2, .int .u8 b3, .int .u8 b4, .int .u8 b5, .int .u8 b6, .int .u8 b7, .int .u8 b8, .int .u8 (kk : Int)])) ∧ (L 1 = true → v49 = .int .i64 b0) ∧ (L 2 = true → v50 = (.agg #[.int .u8 b0, .int .u8 b1, .int .u8 b2, .int .u8 b3, .int .u8 b4, .int .u8 b5, .int .u8 b6, .int .u8 b7, .int .u8 b8, .int .u8 (kk : Int)])) ∧ (L 3 = true → v51 = .int .i64 (numOf [b0, b1, b2, b3, b4, b5, b6, b7, b8, (kk : Int)])) ∧ (L 4 = true → v52 = .slice sa ts.length sc) ∧ (L 5 = true → v53 = .agg #[.int .i64 b0, .int .i64 (numOf [b0, b1, b2, b3, b4, b5, b6, b7, b8, (kk : Int)]), .slice sa ts.length sc]) ∧ (L 6 = true → w'.heap[w.heap.size]? = some (.cells #[.int .i64 b0, .int .i64 (numOf [b0, b1, b2, b3, b4, b5, b6, b7, b8, (kk : Int)]), .slice sa ts.length sc] 29 (0, 0))) ∧ (L 7 = true → v5 = .int .i64 0)) ?_ ?_ ?_
        · refine ⟨_, _, _, _, _, _, _, rfl, (Fr.refl _ _).drew, fun _ => HZ4.out, ?_, ?_, ?_, ?_, ?_, ?_, ?_, ?_⟩ <;> (intro h; cases h)
        · refine ⟨?_, ?_, ?_, ?_, ?_, ?_, ?_, ?_, trivial⟩
          · intro L a6 w6 K hl hd hI hK
            obtain ⟨v5, v48, v49, v50, v51, v52, v53, rfl, hfr, fz, f0, f1, f2, f3, f4, f5, f6, f7⟩ := hI
            simp [Region.binds] at hd
            obtain ⟨q0, q1, q2, q3, q4, q5, q6, q7, q8, q9⟩ := ten_cells ((hfr.block w2.heap.size (by omega) (by omega)).trans HH4.out)
            have F0 := hide f0; clear f0; have F1 := hide f1; clear f1; have F2 := hide f2; clear f2; have F3 := hide f3; clear f3; have F4 := hide f4; clear f4; have F5 := hide f5; clear f5; have F6 := hide f6; clear f6; have F7 := hide f7; clear f7; have FZ := hide fz; clear fz
            go_simp
            have f0 := F0.out; have f1 := F1.out; have f2 := F2.out; have f3 := F3.out; have f4 := F4.out; have f5 := F5.out; have f6 := F6.out; have f7 := F7.out; have fz := FZ.out
            exact hK _ _ ⟨_, _, _, _, _, _, _, rfl, hfr, fun h => fz (by simpa [upd] using h), fun _ => rfl, fun h => f1 (by simpa [upd] using h), fun h => f2 (by simpa [upd] using h), fun h => f3 (by simpa [upd] using h), fun h => f4 (by simpa [upd] using h), fun h => f5 (by simpa [upd] using h), fun h => f6 (by simpa [upd] using h), fun h => f7 (by simpa [upd] using h)⟩
          · intro L a6 w6 K hl hd hI hK
            obtain ⟨v5, v48, v49, v50, v51, v52, v53, rfl, hfr, fz, f0, f1, f2, f3, f4, f5, f6, f7⟩ := hI
            simp [Region.binds] at hd
            obtain rfl := f0 (by simp [hd])
            have F0 := hide f0; clear f0; have F1 := hide f1; clear f1; have F2 := hide f2; clear f2; have F3 := hide f3; clear f3; have F4 := hide f4; clear f4; have F5 := hide f5; clear f5; have F6 := hide f6; clear f6; have F7 := hide f7; clear f7; have FZ := hide fz; clear fz
            go_simp
            refine (h_op _ _ _ _ _ _ _ _ _ _ _ g0).mono ?_
            rintro e w7 ⟨rfl, hb7⟩
            have f0 := F0.out; have f1 := F1.out; have f2 := F2.out; have f3 := F3.out; have f4 := F4.out; have f5 := F5.out; have f6 := F6.out; have f7 := F7.out; have fz := FZ.out
            exact hK _ _ ⟨_, _, _, _, _, _, _, rfl, (hfr.trans (Fr.of_below hb7)), fun h => by have h1 := fz (by simpa [upd] using h); exact (hb7.block w.heap.size (size_of_block h1)).trans h1, fun h => f0 (by simpa [upd] using h), fun _ => rfl, fun h => f2 (by simpa [upd] using h), fun h => f3 (by simpa [upd] using h), fun h => f4 (by simpa [upd] using h), fun h => f5 (by simpa [upd] using h), fun h => by have h1 := f6 (by simpa [upd] using h); exact (hb7.block w.heap.size (size_of_block h1)).trans h1, fun h => f7 (by simpa [upd] using h)⟩
          · intro L a6 w6 K hl hd hI hK
            obtain ⟨v5, v48, v49, v50, v51, v52, v53, rfl, hfr, fz, f0, f1, f2, f3, f4, f5, f6, f7⟩ := hI
            simp [Region.binds] at hd
            obtain ⟨q0, q1, q2, q3, q4, q5, q6, q7, q8, q9⟩ := ten_cells ((hfr.block w2.heap.size (by omega) (by omega)).trans HH4.out)
            have F0 := hide f0; clear f0; have F1 := hide f1; clear f1; have F2 := hide f2; clear f2; have F3 := hide f3; clear f3; have F4 := hide f4; clear f4; have F5 := hide f5; clear f5; have F6 := hide f6; clear f6; have F7 := hide f7; clear f7; have FZ := hide fz; clear fz
            go_simp
            have f0 := F0.out; have f1 := F1.out; have f2 := F2.out; have f3 := F3.out; have f4 := F4.out; have f5 := F5.out; have f6 := F6.out; have f7 := F7.out; have fz := FZ.out
            exact hK _ _ ⟨_, _, _, _, _, _, _, rfl, hfr, fun h => fz (by simpa [upd] using h), fun h => f0 (by simpa [upd] using h), fun h => f1 (by simpa [upd] using h), fun _ => rfl, fun h => f3 (by simpa [upd] using h), fun h => f4 (by simpa [upd] using h), fun h => f5 (by simpa [upd] using h), fun h => f6 (by simpa [upd] using h), fun h => f7 (by simpa [upd] using h)⟩
          · intro L a6 w6 K hl hd hI hK
            obtain ⟨v5, v48, v49, v50, v51, v52, v53, rfl, hfr, fz, f0, f1, f2, f3, f4, f5, f6, f7⟩ := hI
            simp [Region.binds] at hd
            obtain rfl := f2 (by simp [hd])
            have F0 := hide f0; clear f0; have F1 := hide f1; clear f1; have F2 := hide f2; clear f2; have F3 := hide f3; clear f3; have F4 := hide f4; clear f4; have F5 := hide f5; clear f5; have F6 := hide f6; clear f6; have F7 := hide f7; clear f7; have FZ := hide fz; clear fz
            go_simp
            refine (h_n _ _ _ _ _ _ _ _ _ _ _ g1 g2 g3 g4 g5 g6 g7 g8).mono ?_
            rintro e w7 ⟨rfl, hb7⟩
            have f0 := F0.out; have f1 := F1.out; have f2 := F2.out; have f3 := F3.out; have f4 := F4.out; have f5 := F5.out; have f6 := F6.out; have f7 := F7.out; have fz := FZ.out
            exact hK _ _ ⟨_, _, _, _, _, _, _, rfl, (hfr.trans (Fr.of_below hb7)), fun h => by have h1 := fz (by simpa [upd] using h); exact (hb7.block w.heap.size (size_of_block h1)).trans h1, fun h => f0 (by simpa [upd] using h), fun h => f1 (by simpa [upd] using h), fun h => f2 (by simpa [upd] using h), fun _ => rfl, fun h => f4 (by simpa [upd] using h), fun h => f5 (by simpa [upd] using h), fun h => by have h1 := f6 (by simpa [upd] using h); exact (hb7.block w.heap.size (size_of_block h1)).trans h1, fun h => f7 (by simpa [upd] using h)⟩
          · intro L a6 w6 K hl hd hI hK
            obtain ⟨v5, v48, v49, v50, v51, v52, v53, rfl, hfr, fz, f0, f1, f2, f3, f4, f5, f6, f7⟩ := hI
            simp [Region.binds] at hd
            have F0 := hide f0; clear f0; have F1 := hide f1; clear f1; have F2 := hide f2; clear f2; have F3 := hide f3; clear f3; have F4 := hide f4; clear f4; have F5 := hide f5; clear f5; have F6 := hide f6; clear f6; have F7 := hide f7; clear f7; have FZ := hide fz; clear fz
            go_simp
            have f0 := F0.out; have f1 := F1.out; have f2 := F2.out; have f3 := F3.out; have f4 := F4.out; have f5 := F5.out; have f6 := F6.out; have f7 := F7.out; have fz := FZ.out
            exact hK _ _ ⟨_, _, _, _, _, _, _, rfl, hfr, fun h => fz (by simpa [upd] using h), fun h => f0 (by simpa [upd] using h), fun h => f1 (by simpa [upd] using h), fun h => f2 (by simpa [upd] using h), fun h => f3 (by simpa [upd] using h), fun _ => rfl, fun h => f5 (by simpa [upd] using h), fun h => f6 (by simpa [upd] using h), fun h => f7 (by simpa [upd] using h)⟩
          · intro L a6 w6 K hl hd hI hK
            obtain ⟨v5, v48, v49, v50, v51, v52, v53, rfl, hfr, fz, f0, f1, f2, f3, f4, f5, f6, f7⟩ := hI
            simp [Region.binds] at hd
            obtain rfl := f1 (by simp [hd])
            obtain rfl := f3 (by simp [hd])
            obtain rfl := f4 (by simp [hd])
            have F0 := hide f0; clear f0; have F1 := hide f1; clear f1; have F2 := hide f2; clear f2; have F3 := hide f3; clear f3; have F4 := hide f4; clear f4; have F5 := hide f5; clear f5; have F6 := hide f6; clear f6; have F7 := hide f7; clear f7; have FZ := hide fz; clear fz
            go_simp
            have f0 := F0.out; have f1 := F1.out; have f2 := F2.out; have f3 := F3.out; have f4 := F4.out; have f5 := F5.out; have f6 := F6.out; have f7 := F7.out; have fz := FZ.out
            exact hK _ _ ⟨_, _, _, _, _, _, _, rfl, hfr, fun h => fz (by simpa [upd] using h), fun h => f0 (by simpa [upd] using h), fun h => f1 (by simpa [upd] using h), fun h => f2 (by simpa [upd] using h), fun h => f3 (by simpa [upd] using h), fun h => f4 (by simpa [upd] using h), fun _ => rfl, fun h => f6 (by simpa [upd] using h), fun h => f7 (by simpa [upd] using h)⟩
          · intro L a6 w6 K hl hd hI hK
            obtain ⟨v5, v48, v49, v50, v51, v52, v53, rfl, hfr, fz, f0, f1, f2, f3, f4, f5, f6, f7⟩ := hI
            simp [Region.binds] at hd
            obtain rfl := f5 (by simp [hd])
            have z0 := fz hl
            obtain ⟨y0, y1, y2⟩ := blk3 z0
            have x0 := frozen_of_block z0 0; have x1 := frozen_of_block z0 1; have x2 := frozen_of_block z0 2
            have Z0 := hide z0; clear z0
            have F0 := hide f0; clear f0; have F1 := hide f1; clear f1; have F2 := hide f2; clear f2; have F3 := hide f3; clear f3; have F4 := hide f4; clear f4; have F5 := hide f5; clear f5; have F6 := hide f6; clear f6; have F7 := hide f7; clear f7; have FZ := hide fz; clear fz
            go_simp
            have f0 := F0.out; have f1 := F1.out; have f2 := F2.out; have f3 := F3.out; have f4 := F4.out; have f5 := F5.out; have f6 := F6.out; have f7 := F7.out; have fz := FZ.out
            have z0 := Z0.out
            exact hK _ _ ⟨_, _, _, _, _, _, _, rfl, (((Fr.setCell (M := fun k => k = w.heap.size) hfr (p := ⟨w.heap.size, 0, none⟩) rfl _).setCell (p := ⟨w.heap.size, 1, none⟩) rfl _).setCell (p := ⟨w.heap.size, 2, none⟩) rfl _), fun h => by simp [upd] at h, fun h => f0 (by simpa [upd] using h), fun h => f1 (by simpa [upd] using h), fun h => f2 (by simpa [upd] using h), fun h => f3 (by simpa [upd] using h), fun h => f4 (by simpa [upd] using h), fun h => f5 (by simpa [upd] using h), fun _ => by rw [heap_setCell_same _ _ _ _ _ _ (heap_setCell_same _ _ _ _ _ _ (heap_setCell_same _ _ _ _ _ _ z0))]; rfl, fun h => f7 (by simpa [upd] using h)⟩
          · intro L a6 w6 K hl hd hI hK
            obtain ⟨v5, v48, v49, v50, v51, v52, v53, rfl, hfr, fz, f0, f1, f2, f3, f4, f5, f6, f7⟩ := hI
            simp [Region.binds] at hd
            have F0 := hide f0; clear f0; have F1 := hide f1; clear f1; have F2 := hide f2; clear f2; have F3 := hide f3; clear f3; have F4 := hide f4; clear f4; have F5 := hide f5; clear f5; have F6 := hide f6; clear f6; have F7 := hide f7; clear f7; have FZ := hide fz; clear fz
            go_simp
            have f0 := F0.out; have f1 := F1.out; have f2 := F2.out; have f3 := F3.out; have f4 := F4.out; have f5 := F5.out; have f6 := F6.out; have f7 := F7.out; have fz := FZ.out
            exact hK _ _ ⟨_, _, _, _, _, _, _, rfl, hfr, fun h => fz (by simpa [upd] using h), fun h => f0 (by simpa [upd] using h), fun h => f1 (by simpa [upd] using h), fun h => f2 (by simpa [upd] using h), fun h => f3 (by simpa [upd] using h), fun h => f4 (by simpa [upd] using h), fun h => f5 (by simpa [upd] using h), fun h => f6 (by simpa [upd] using h), fun _ => rfl⟩
        · intro L a6 w6 hall hI
          obtain ⟨v5, v48, v49, v50, v51, v52, v53, rfl, hfr, fz, f0, f1, f2, f3, f4, f5, f6, f7⟩ := hI
          obtain rfl := f7 (hall 7 (by decide))
          have hT := f6 (hall 6 (by decide))
          obtain ⟨y0, y1, y2⟩ := blk3 hT
          clear f0 f1 f2 f3 f4 f5 f6 f7 fz
          have HF6 := hide hfr
          clear hfr hT
          go_wp2_with fail
          refine bodyPost_ret (v := .tuple #[.agg #[.int .i64 b0, .int .i64 (numOf [b0, b1, b2, b3, b4, b5, b6, b7, b8, (kk : Int)]), .slice sa ts.length sc], .int .i64 0]) (by simp [results, Try.results27, go_sem, *]) rfl (Or.inr ⟨⟨b0, (numOf [b0, b1, b2, b3, b4, b5, b6, b7, b8, (kk : Int)]), ts⟩, n', l', ?_, b0, (numOf [b0, b1, b2, b3, b4, b5, b6, b7, b8, (kk : Int)]), sa, ts.length, sc, lv', rfl, ?_, ?_⟩)
          · exact tok H3.out HLE.out HOK.out
          · have hs6 := HF6.out.size
            refine ⟨sa, sc, rfl, ?_, i64_range _, ?_⟩
            · unfold I64; simp only; omega
            · exact HRW.out.imp (fun q hq => HF6.out.block q hq.2 (by omega)) (fun q hq => by omega) (fun x u hx => hx.keep (fun q hq => HF6.out.block q hq.2 (by omega)) (fun q hq => by omega) d x u)
          · have hs6 := HF6.out.size
            have h1 := HF3.out.trans HG4.out.fr
            refine ⟨?_, ?_, HG4.out.byt, HG4.out.few, ⟨HF6.out.os.trans h1.os, HF6.out.tape.trans h1.tape, HF6.out.output.trans h1.output, by omega, fun q hq hm => (HF6.out.block q (by omega) (by omega)).trans (h1.block q hq hm)⟩⟩
            · exact (HF6.out.block rb (by omega) (by omega)).trans HG4.out.rd
            · exact HG4.out.left.keep (fun q hq => HF6.out.block q (by have := (HD.out q hq).1; omega) (by have := (HD.out q hq).1; omega)) (fun _ h => h)

theorem term_all (d : Nat) : TermC d := by
  induction d with
  | zero => exact term_zero
  | succ d ih => exact term_succ d (row_of d ih)
#print axioms term_all
end Go.Proofs.Ytafafeplciidhaa
