/- CodeBytes: the walk of the statement's function. -/
import Derived.Test.YtafafeplciidhaaPo
namespace Go.Proofs.Ytafafeplciidhaa
open Go.RowKit

attribute [local go_sem ↓] Go.wp_at_zero Go.wp_at_succ
attribute [local go_sem] put

/-- A row of two terms. -/
def Ok2 (w : World) (f : Nat) (v : Value) : Prop :=
  ∃ lb, v = .slice (some ⟨lb, 0, none⟩) 2 2 ∧ lb < w.heap.size ∧ ∀ k, k < 2 → ∃ T x0 x1 x2, w.cell? ⟨lb, k * 3, none⟩ = some x0 ∧ w.cell? ⟨lb, k * 3 + 1, none⟩ = some x1 ∧ w.cell? ⟨lb, k * 3 + 2, none⟩ = some x2 ∧
    TmAt w w.heap.size f T (.agg #[x0, x1, x2]) ∧ T.size ≤ 6000 ∧ ∀ x ∈ T.pre, Node x

theorem Ok2.keep {w w' : World} {f : Nat} {v : Value} (h : Ok2 w f v) (hb : Below w.heap.size w w') : Ok2 w' f v := by
  obtain ⟨lb, rfl, hl, hx⟩ := h
  refine ⟨lb, rfl, Nat.lt_of_lt_of_le hl hb.size, fun k hk => ?_⟩
  obtain ⟨T, x0, x1, x2, h0, h1, h2, h3, h4⟩ := hx k hk
  exact ⟨T, x0, x1, x2, (hb.cell hl).trans h0, (hb.cell hl).trans h1, (hb.cell hl).trans h2, TmAt.below h3 hb (Nat.le_refl _) hb.size, h4⟩

/-- What the operations of region 5 come to. -/
def F5 (r : Value) (f : Nat) (t : Tr) : Nat → Value → World → Prop
  | 0, v, _ => v = r
  | 1, v, w => ∃ p0 p1 pa pl pc, v = .agg #[.int .i64 p0, .int .i64 p1, .slice pa pl pc] ∧ TmAt w w.heap.size f t.plain (.agg #[.int .i64 p0, .int .i64 p1, .slice pa pl pc])
  | 2, v, _ => v = r
  | 3, v, w => ∃ t2 p0 p1 pa pl pc, v = .agg #[.int .i64 p0, .int .i64 p1, .slice pa pl pc] ∧ TmAt w w.heap.size f t2 (.agg #[.int .i64 p0, .int .i64 p1, .slice pa pl pc]) ∧ Made 6 t2
  | 4, v, w => Ok2 w f v
  | 5, v, w => Ok2 w f v
  | _, _, _ => True

theorem F5.keep (r : Value) (f : Nat) (t : Tr) (k : Nat) (v : Value) (w w' : World) (h : F5 r f t k v w) (hb : Below w.heap.size w w') : F5 r f t k v w' := by
  match k with
  | 0 => exact h
  | 1 => obtain ⟨p0, p1, pa, pl, pc, rfl, h⟩ := h; exact ⟨p0, p1, pa, pl, pc, rfl, TmAt.below h hb (Nat.le_refl _) hb.size⟩
  | 2 => exact h
  | 3 => obtain ⟨t2, p0, p1, pa, pl, pc, rfl, h, h'⟩ := h; exact ⟨t2, p0, p1, pa, pl, pc, rfl, TmAt.below h hb (Nat.le_refl _) hb.size, h'⟩
  | 4 => exact Ok2.keep h hb
  | 5 => exact Ok2.keep h hb
  | _ + 6 => trivial

theorem ok2_of {w : World} {f : Nat} {t t2 : Tr} {x0 x1 x2 y0 y1 y2 : Value} (h1 : TmAt w w.heap.size f t (.agg #[x0, x1, x2])) (h2 : TmAt w w.heap.size f t2 (.agg #[y0, y1, y2])) (s1 : t.size ≤ 6000) (s2 : t2.size ≤ 6000)
    (n1 : ∀ x ∈ t.pre, Node x) (n2 : ∀ x ∈ t2.pre, Node x) : Ok2 (w.alloc (.cells #[x0, x1, x2, y0, y1, y2] 29)) f (.slice (some ⟨w.heap.size, 0, none⟩) 2 2) := by
  have hn := heap_alloc_new w (.cells #[x0, x1, x2, y0, y1, y2] 29)
  have hb : Below w.heap.size w (w.alloc (.cells #[x0, x1, x2, y0, y1, y2] 29)) := (Below.refl _ _).alloc (Nat.le_refl _) _
  refine ⟨w.heap.size, rfl, size_of_block hn, fun k hk => ?_⟩
  rcases (show k = 0 ∨ k = 1 by omega) with rfl | rfl
  · exact ⟨t, x0, x1, x2, (cell_of_block hn _).trans rfl, (cell_of_block hn _).trans rfl, (cell_of_block hn _).trans rfl, TmAt.below h1 hb (Nat.le_refl _) hb.size, s1, n1⟩
  · exact ⟨t2, y0, y1, y2, (cell_of_block hn _).trans rfl, (cell_of_block hn _).trans rfl, (cell_of_block hn _).trans rfl, TmAt.below h2 hb (Nat.le_refl _) hb.size, s2, n2⟩

/-- What the operations of region 12 come to. -/
def F12 (sl k b pt S tv pv qv ev : Value) (ok : Bool) (n : Nat) (E : List Int) : Nat → Value → World → Prop
  | 0, v, _ => v = b
  | 1, v, _ => v = S
  | 2, v, _ => v = sl
  | 3, v, _ => v = k
  | 4, v, _ => v = pt
  | 5, v, _ => v = tv
  | 6, v, w => ∃ g c blk, v = .slice (some ⟨g, 0, none⟩) n c ∧ w.heap[g]? = some blk ∧ Bl blk g E
  | 7, v, _ => v = S
  | 8, v, _ => v = .bool false
  | 9, v, _ => v = .bool false
  | 10, v, _ => v = ev
  | 11, v, _ => v = ev
  | 12, v, _ => v = .bool false
  | 13, v, _ => v = .bool false
  | 14, v, _ => v = .bool false
  | 15, v, _ => v = pv
  | 16, v, _ => v = qv
  | 17, v, _ => v = .bool true
  | 18, v, _ => v = .bool false
  | 19, v, _ => v = .bool false
  | 20, v, _ => v = .bool false
  | 21, v, _ => v = ev
  | 22, v, _ => v = .bool ok
  | 23, v, _ => v = .bool ok
  | 24, v, _ => v = cond ok pv undef
  | 25, v, _ => v = cond ok sl undef
  | 26, v, _ => v = cond ok k undef
  | 27, v, _ => v = cond ok pt undef
  | 28, v, _ => v = cond ok tv undef
  | 29, v, _ => v = cond ok (.bool true) undef
  | 30, v, _ => v = cond ok (.bool false) undef
  | 31, v, _ => v = .bool false
  | 32, v, _ => v = .bool false
  | _, _, _ => True

theorem F12.keep (sl k b pt S tv pv qv ev : Value) (ok : Bool) (n : Nat) (E : List Int) (i : Nat) (v : Value) (w w' : World) (h : F12 sl k b pt S tv pv qv ev ok n E i v w) (hb : Below w.heap.size w w') : F12 sl k b pt S tv pv qv ev ok n E i v w' := by
  match i with
  | 0 => exact h
  | 1 => exact h
  | 2 => exact h
  | 3 => exact h
  | 4 => exact h
  | 5 => exact h
  | 6 => obtain ⟨g, c, blk, rfl, h1, h2⟩ := h; exact ⟨g, c, blk, rfl, (hb.block g (size_of_block h1)).trans h1, h2⟩
  | 7 => exact h
  | 8 => exact h
  | 9 => exact h
  | 10 => exact h
  | 11 => exact h
  | 12 => exact h
  | 13 => exact h
  | 14 => exact h
  | 15 => exact h
  | 16 => exact h
  | 17 => exact h
  | 18 => exact h
  | 19 => exact h
  | 20 => exact h
  | 21 => exact h
  | 22 => exact h
  | 23 => exact h
  | 24 => exact h
  | 25 => exact h
  | 26 => exact h
  | 27 => exact h
  | 28 => exact h
  | 29 => exact h
  | 30 => exact h
  | 31 => exact h
  | 32 => exact h
  | _ + 33 => trivial

set_option linter.unusedSimpArgs false in
set_option maxRecDepth 20000 in
set_option maxHeartbeats 4000000 in
theorem cbytes_any (B f : Nat) (t : Tr) (v : Value) (w : World) (ht : TmAt w B f t v) (hB : B ≤ w.heap.size) :
    Calls Try.prog 3 #[v] w fun e w' => e = .returned (.bool true) ∧ Below w.heap.size w w' := by
  have HT := hide ht
  obtain ⟨g, rfl⟩ : ∃ g, f = g + 1 := by cases f with | zero => exact ht.elim | succ g => exact ⟨g, rfl⟩
  obtain ⟨a, cap, rfl, hop, hn, hrow⟩ := ht
  clear hrow hop hn
  go_enter Try.func3, Try.ntmps3
  go_wp2_with fail
  refine (known_any _).mono ?_
  rintro e w1 ⟨rfl, hb1⟩
  have hbx : (w.alloc (.cells #[.int .i64 t.op, .int .i64 t.n, .slice a t.kids.length cap] 24)).heap[w.heap.size]? = some (.cells #[.int .i64 t.op, .int .i64 t.n, .slice a t.kids.length cap] 24 (0, 0)) := heap_alloc_new w _
  have hold : Below w.heap.size w (w.alloc (.cells #[.int .i64 t.op, .int .i64 t.n, .slice a t.kids.length cap] 24)) := (Below.refl _ _).alloc (Nat.le_refl _) _
  have hsz : (w.alloc (.cells #[.int .i64 t.op, .int .i64 t.n, .slice a t.kids.length cap] 24)).heap.size = w.heap.size + 1 := by simp
  generalize w.alloc (.cells #[.int .i64 t.op, .int .i64 t.n, .slice a t.kids.length cap] 24) = W at *
  rw [hsz] at hb1
  have HX := hide hbx; have HO := hide hold; have HB1 := hide hb1; have HZ := hide hsz
  clear hbx hold hb1 hsz
  obtain ⟨c0, c1, c2⟩ := cells3 HB1.out HX.out (by omega)
  have hs1 : w.heap.size + 1 ≤ w1.heap.size := by have := HB1.out.size; rw [HZ.out] at this; exact this
  have HBL1 : Hid (Below w.heap.size w w1) := HO.out.trans (HB1.out.mono (by omega))
  go_wp2_with fail
  refine (few_any B (g + 1) t _ _ (TmAt.below HT.out HBL1.out hB (Nat.le_refl _)) (by omega)).mono ?_
  rintro e w2 ⟨rfl, hb2⟩
  have HB2 : Hid (Below (w.heap.size + 1) W w2) := HB1.out.trans (hb2.mono hs1)
  have hs2 : w1.heap.size ≤ w2.heap.size := hb2.size
  clear hb2
  have HBL2 : Hid (Below w.heap.size w w2) := HO.out.trans (HB2.out.mono (by omega))
  clear c0 c1 c2
  obtain ⟨c0, c1, c2⟩ := cells3 HB2.out HX.out (by omega)
  by_cases hq1 : t.size < 300
  · rw [decide_eq_true hq1]
    go_wp2_with fail
    go_cut [3] (fun v3 wc => Ok2 wc (g + 7) v3 ∧ Below w.heap.size w wc)
    case first =>
      have HSS : Hid (∀ w', Below w2.heap.size w2 w' → (w'.cell? ⟨w.heap.size, 0, none⟩ = some (.int .i64 t.op) ∧ w'.cell? ⟨w.heap.size, 1, none⟩ = some (.int .i64 t.n) ∧ w'.cell? ⟨w.heap.size, 2, none⟩ = some (.slice a t.kids.length cap))) := fun w' hw => cells3 (HB2.out.trans (hw.mono (by omega))) HX.out (by omega)
      have HNA := hide (plain_node t (tm_raw HT.out))
      have hza := plain_size t
      clear c0 c1 c2
      refine wp_region_vals (by kernel_rfl) (by kernel_rfl) (fun vs => { tmps := #[.agg #[.int .i64 t.op, .int .i64 t.n, .slice a t.kids.length cap], .pointer (some ⟨w.heap.size, 0, none⟩), .bool false, vs 5, undef, undef, undef, undef, undef, undef, .bool true, .bool false, .agg #[.int .i64 t.op, .int .i64 t.n, .slice a t.kids.length cap], .bool true, .bool false, vs 0, vs 1, vs 2, vs 3, vs 4, undef, undef, undef, undef, undef, undef, undef, undef, undef, undef, undef, undef, undef, undef, undef, undef, undef, undef, undef, undef, undef, undef, undef, undef, undef, undef, undef, undef, undef, undef, undef, undef, undef, undef, undef, undef, undef, undef, undef, undef, undef, undef, undef, undef, undef, undef, undef, undef, undef, undef, undef, undef], defers := [] }) (fun _ => undef) (F5 (.agg #[.int .i64 t.op, .int .i64 t.n, .slice a t.kids.length cap]) (g + 7) t) (F5.keep _ _ _) ?_ ?_
      · refine ⟨?_, ?_, ?_, ?_, ?_, ?_, trivial⟩
        · intro vs wx K hb hd hK
          obtain ⟨c0, c1, c2⟩ := HSS.out wx hb
          clear hb hd
          go_simp
          exact hK _ _ (Below.refl _ _) rfl
        · intro vs wx K hb hd hK
          obtain ⟨vs, rfl⟩ := put_of (show vs 0 = _ from hd ⟨0, .data⟩ (by simp) rfl)
          have HB := hide hb
          clear hb hd
          go_simp
          refine (plain_any B (g + 1) t _ _ (TmAt.below HT.out (HBL2.out.trans (HB.out.mono HBL2.out.size)) hB (Nat.le_refl _)) (by have := HB.out.size; omega)).mono ?_
          rintro e w3 ⟨p0, p1, pa, pl, pc, rfl, htm3, hb3⟩
          exact hK _ _ hb3 ⟨p0, p1, pa, pl, pc, rfl, TmD.keep (fun _ _ => rfl) (fun k hk => hk.2) _ _ _ (TmD.more htm3 (by omega))⟩
        · intro vs wx K hb hd hK
          obtain ⟨c0, c1, c2⟩ := HSS.out wx hb
          clear hb hd
          go_simp
          exact hK _ _ (Below.refl _ _) rfl
        · intro vs wx K hb hd hK
          obtain ⟨vs, rfl⟩ := put_of (show vs 2 = _ from hd ⟨2, .data⟩ (by simp) rfl)
          have HB := hide hb
          clear hb hd
          go_simp
          refine (make_any 6 B (g + 1) t _ 6 2 _ (TmAt.below HT.out (HBL2.out.trans (HB.out.mono HBL2.out.size)) hB (Nat.le_refl _)) (by have := HB.out.size; omega) (by decide) (by decide) (by decide) (by decide)).mono ?_
          rintro e w3 ⟨t4, p0, p1, pa, pl, pc, rfl, htm3, hmd, hb3⟩
          exact hK _ _ hb3 ⟨t4, p0, p1, pa, pl, pc, rfl, TmD.keep (fun _ _ => rfl) (fun k hk => hk.2) _ _ _ (TmD.more htm3 (by omega)), hmd⟩
        · intro vs wx K hb hd hK
          obtain ⟨p0, p1, pa, pl, pc, e1, h1⟩ := hd ⟨1, .data⟩ (by simp) rfl
          obtain ⟨t2, q0, q1, qa, ql, qc, e2, h2, h3⟩ := hd ⟨3, .data⟩ (by simp) rfl
          obtain ⟨vs, rfl⟩ := put_of (show vs 1 = _ from e1)
          obtain ⟨vs, rfl⟩ := put_of (show vs 3 = _ from e2)
          have H1 := hide h1; have H2 := hide h2
          clear hb hd h1 h2 e1 e2
          go_simp
          exact hK _ _ ((Below.refl _ _).alloc (Nat.le_refl _) _) (ok2_of H1.out H2.out (by omega) (Nat.le_trans h3.1 (by decide)) HNA.out h3.2)
        · intro vs wx K hb hd hK
          have H4 := hide (hd ⟨4, .data⟩ (by simp) rfl)
          clear hb hd
          go_simp
          exact hK _ _ (Below.refl _ _) H4.out
      · intro vs wx hb hF
        have H5 : Hid (Ok2 wx (g + 7) (vs 5)) := hF 5 (by decide)
        have HB := hide hb
        clear hb hF
        generalize vs 5 = v5 at *
        go_wp2_with fail
        go_meet
        case rel => exact ⟨H5.out, HBL2.out.trans (HB.out.mono HBL2.out.size)⟩
    case rest =>
      obtain ⟨hok2, hbl⟩ := hcut
      obtain ⟨lb, rfl, hlb, hrow⟩ := hok2
      have HBLC := hide hbl; have HROW := hide hrow
      clear hbl hrow c0 c1 c2
      go_wp2_with fail
      go_loopw [4, 5, 6, 7, 8, 9] (fun i _ _ _ _ _ wr => ∃ k : Nat, k ≤ 2 ∧ i = .int .i64 k ∧ Below wc.heap.size wc wr) (fun i _ _ _ _ _ _ => 2 - (intOf i).toNat)
      case atStart => exact ⟨0, by omega, rfl, (Below.refl _ _)⟩
      case round =>
        obtain ⟨k, hk, rfl, hb⟩ := hrel
        have HB := hide hb
        have hbs := hb.size
        clear hb
        by_cases hlt : k < 2
        · obtain ⟨T, x0, x1, x2, f0, f1, f2, htm, hts, hnd⟩ := HROW.out k hlt
          have HC : Hid (∀ w', Below wr.heap.size wr w' → (w'.cell? ⟨lb, k * 3, none⟩ = some x0 ∧ w'.cell? ⟨lb, k * 3 + 1, none⟩ = some x1 ∧ w'.cell? ⟨lb, k * 3 + 2, none⟩ = some x2)) := fun w' hw => by
            have h1 := HB.out.trans (hw.mono hbs)
            exact ⟨(h1.cell hlb).trans f0, (h1.cell hlb).trans f1, (h1.cell hlb).trans f2⟩
          have HT1 : Hid (TmAt wr wc.heap.size (g + 7) T (.agg #[x0, x1, x2])) := TmAt.below htm HB.out (Nat.le_refl _) (Nat.le_refl _)
          have HND := hide hnd
          clear f0 f1 f2 htm hnd
          obtain ⟨g0, g1, g2⟩ := HC.out wr (Below.refl _ _)
          have hlen : (enc T).length = T.size * 10 := enc_length T
          have hpos := T.size_pos
          have HBY := hide (enc_range T HND.out)
          go_wp2_with fail
          refine (bytes_any wc.heap.size (g + 7) T _ _ HT1.out hbs hts (fun x hx => (HND.out x hx).2.2.2)).mono ?_
          rintro e w4 ⟨r4, rfl, ⟨g4, rfl, hg4, hh4⟩, hb4⟩
          have HH4 := hide hh4; have HB4 := hide hb4
          have hs4 := hb4.size
          rw [hlen]
          have HLF := hide (left_of hh4 hlen (by unfold maxLen; omega))
          have HLEN := hide hlen
          have HPB := hide (parse_back T · HND.out HBY.out)
          clear hh4 hb4 hlen g0 g1 g2
          generalize hE : enc T = E at *
          have HE := hide hE
          clear hE
          go_wp2_with fail
          refine (parse_any _ E w4 HLF.out HBY.out).mono ?_
          intro e w5 hpo
          obtain ⟨er, t5, p0, p1, pa, pl, pc, rfl, hr5, ht5, hb5⟩ := out_of hpo
          have HR5 := hide hr5; have HT5 := hide ht5; have HB5 := hide hb5
          have hs5 := hb5.size
          clear hpo hr5 ht5 hb5
          go_wp2_with fail
          have HB5' : Hid (Below w5.heap.size w5 (w5.alloc (.cells #[.int .i64 p0, .int .i64 p1, .slice pa pl pc] 29))) := (Below.refl _ _).alloc (Nat.le_refl _) _
          refine (rparse_any _ E _ (HLF.out.keep (fun q hq => ((HB5.out.trans (HB5'.out.mono hs5)).block q hq)) (fun q hq => by rw [World.size_alloc]; omega)) HBY.out).mono ?_
          intro e w6 hpo
          obtain ⟨er', t6, q0, q1, qa, ql, qc, rfl, hr6, ht6, hb6⟩ := out_of hpo
          obtain ⟨rfl, rfl⟩ := HR5.out.one hr6
          have hb6' : Below (w5.heap.size + 1) (w5.alloc (.cells #[.int .i64 p0, .int .i64 p1, .slice pa pl pc] 29)) w6 := by
            have := hb6
            rwa [World.size_alloc] at this
          have hs6 : w5.heap.size + 1 ≤ w6.heap.size := by have := hb6'.size; simpa using this
          have HX6 : Hid (w6.heap[w5.heap.size]? = some (.cells #[.int .i64 p0, .int .i64 p1, .slice pa pl pc] 29 (0, 0))) := (hb6'.block _ (by omega)).trans (heap_alloc_new w5 _)
          have HB6 : Hid (Below w5.heap.size w5 w6) := HB5'.out.trans (hb6'.mono (by omega))
          have HT6 := hide ht6
          clear hpo hr6 ht6 hb6 hb6' HB5'
          have her := HR5.out.lt
          go_upto_region 12 with fail
          have HWZ : Hid (Below w6.heap.size w6 (w6.alloc (.cells #[.int .i64 q0, .int .i64 q1, .slice qa ql qc] 29))) := (Below.refl _ _).alloc (Nat.le_refl _) _
          have HZQ : Hid ((w6.alloc (.cells #[.int .i64 q0, .int .i64 q1, .slice qa ql qc] 29)).heap[w6.heap.size]? = some (.cells #[.int .i64 q0, .int .i64 q1, .slice qa ql qc] 29 (0, 0))) := heap_alloc_new w6 _
          generalize w6.alloc (.cells #[.int .i64 q0, .int .i64 q1, .slice qa ql qc] 29) = wz at *
          have HZP : Hid (wz.heap[w5.heap.size]? = some (.cells #[.int .i64 p0, .int .i64 p1, .slice pa pl pc] 29 (0, 0))) := (HWZ.out.block _ (by omega)).trans HX6.out
          have HB5Z : Hid (Below w5.heap.size w5 wz) := HB6.out.trans (HWZ.out.mono (by omega))
          have HB4Z : Hid (Below w4.heap.size w4 wz) := HB5.out.trans (HB5Z.out.mono hs5)
          have HRZ : Hid (Below wr.heap.size wr wz) := HB4.out.trans (HB4Z.out.mono hs4)
          have hsz6 : w6.heap.size ≤ wz.heap.size := HWZ.out.size
          have hszr : wr.heap.size ≤ wz.heap.size := HRZ.out.size
          have HBWZ : Hid (Below wc.heap.size wc wz) := HB.out.trans (HRZ.out.mono hbs)
          have HG4 : Hid (wz.heap[g4]? = some (.cells (bys E).toArray 5 (0, 0))) := (HB4Z.out.block _ (size_of_block HH4.out)).trans HH4.out
          have HC' : Hid (∀ w', Below wz.heap.size wz w' → (w'.cell? ⟨lb, k * 3, none⟩ = some x0 ∧ w'.cell? ⟨lb, k * 3 + 1, none⟩ = some x1 ∧ w'.cell? ⟨lb, k * 3 + 2, none⟩ = some x2)) := fun w' hw => HC.out w' (HRZ.out.trans (hw.mono hszr))
          have HTT : Hid (TmAt wz wz.heap.size (g + 127) T (.agg #[x0, x1, x2])) := TmAt.more (TmAt.below HT1.out HRZ.out hbs (by omega)) (by omega)
          have HTP : Hid (TmAt wz wz.heap.size (g + 127) t6 (.agg #[.int .i64 p0, .int .i64 p1, .slice pa pl pc])) := TmAt.more (TmAt.below HT5.out HB5Z.out (Nat.le_refl _) (by omega)) (by omega)
          have HTQ : Hid (TmAt wz wz.heap.size (g + 127) t6 (.agg #[.int .i64 q0, .int .i64 q1, .slice qa ql qc])) := TmAt.more (TmAt.below HT6.out HWZ.out (Nat.le_refl _) hsz6) (by omega)
          have HSM : Hid (er' = 0 → t6 = T) := fun h0 => by
            rcases HR5.out with ⟨_, h⟩ | ⟨h, _⟩
            · exact HPB.out _ h
            · omega
          clear HC HX6 HWZ HB5Z HB4Z HRZ HT1 HT5 HT6 HB6 HB5 HB4 HH4 HLF HR5
          have HC := HC'
          clear HC'
          generalize w5.heap.size = tb at *
          generalize w6.heap.size = xb at *
          -- R12
          refine wp_region_vals (by kernel_rfl) (by kernel_rfl) (fun vs => { tmps := #[Value.agg #[Value.int IntKind.i64 t.op, Value.int IntKind.i64 t.n, Value.slice a t.kids.length cap], Value.pointer (some { block := w.heap.size, off := 0 }), u2, Value.slice (some { block := lb, off := 0 }) 2 2, Value.int IntKind.i64 ↑k, Value.slice (some { block := g4, off := 0 }) (T.size * 10) (T.size * 10), Value.pointer (some { block := tb, off := 0 }), Value.int IntKind.i64 ↑er', Value.pointer (some { block := xb, off := 0 }), Value.int IntKind.i64 ↑er', u10, u11, u12, u13, u14, u15, u16, u17, u18, u19, Value.int IntKind.i64 ↑k, Value.bool true, u22, u23, Value.slice (some { block := lb, off := 0 }) 2 2, Value.int IntKind.i64 ↑k, Value.pointer (some { block := lb, off := k * 3 }), Value.agg #[x0, x1, x2], Value.slice (some { block := g4, off := 0 }) (T.size * 10) (T.size * 10), Value.tuple #[Value.agg #[Value.int IntKind.i64 p0, Value.int IntKind.i64 p1, Value.slice pa pl pc], Value.int IntKind.i64 ↑er'], Value.slice (some { block := g4, off := 0 }) (T.size * 10) (T.size * 10), Value.tuple #[Value.agg #[Value.int IntKind.i64 p0, Value.int IntKind.i64 p1, Value.slice pa pl pc], Value.int IntKind.i64 ↑er'], Value.agg #[Value.int IntKind.i64 p0, Value.int IntKind.i64 p1, Value.slice pa pl pc], Value.int IntKind.i64 ↑er', Value.tuple #[Value.agg #[Value.int IntKind.i64 q0, Value.int IntKind.i64 q1, Value.slice qa ql qc], Value.int IntKind.i64 ↑er'], Value.slice (some { block := g4, off := 0 }) (T.size * 10) (T.size * 10), Value.tuple #[Value.agg #[Value.int IntKind.i64 q0, Value.int IntKind.i64 q1, Value.slice qa ql qc], Value.int IntKind.i64 ↑er'], Value.agg #[Value.int IntKind.i64 q0, Value.int IntKind.i64 q1, Value.slice qa ql qc], Value.int IntKind.i64 ↑er', vs 0, vs 1, vs 2, vs 3, vs 4, vs 5, vs 6, vs 7, vs 8, vs 9, vs 10, vs 11, vs 12, vs 13, vs 14, vs 15, vs 16, vs 17, vs 18, vs 19, vs 20, vs 21, vs 22, vs 23, vs 24, vs 25, vs 26, vs 27, vs 28, vs 29, vs 30, vs 31, vs 32], defers := [] }) (fun i => [u39, u40, u41, u42, u43, u44, u45, u46, u47, u48, u49, u50, u51, u52, u53, u54, u55, u56, u57, u58, u59, u60, u61, u62, u63, u64, u65, u66, u67, u68, u69, u70, u71].getD i undef) (F12 (.slice (some ⟨lb, 0, none⟩) 2 2) (.int .i64 (k : Nat)) (.slice (some ⟨g4, 0, none⟩) (T.size * 10) (T.size * 10)) (.pointer (some ⟨lb, k * 3, none⟩)) (.string (strOfNums E)) (.agg #[x0, x1, x2]) (.agg #[.int .i64 p0, .int .i64 p1, .slice pa pl pc]) (.agg #[.int .i64 q0, .int .i64 q1, .slice qa ql qc]) (.int .i64 (er' : Nat)) (decide (er' = 0)) (T.size * 10) E) (F12.keep _ _ _ _ _ _ _ _ _ _ _ _) ?_ ?_
          · refine ⟨?_, ?_, ?_, ?_, ?_, ?_, ?_, ?_, ?_, ?_, ?_, ?_, ?_, ?_, ?_, ?_, ?_, ?_, ?_, ?_, ?_, ?_, ?_, ?_, ?_, ?_, ?_, ?_, ?_, ?_, ?_, ?_, ?_, trivial⟩
            · intro vs wx K hb hd hK
              clear hb hd
              go_simp
              exact hK _ _ (Below.refl _ _) rfl
            · intro vs wx K hb hd hK
              obtain ⟨vs, rfl⟩ := put_of (show vs 0 = _ from hd ⟨0, .data⟩ (by simp) rfl)
              have cv := conv_len HG4.out HLEN.out hb
              clear hb hd
              go_simp
              exact hK _ _ (Below.refl _ _) rfl
            · intro vs wx K hb hd hK
              clear hb hd
              go_simp
              exact hK _ _ (Below.refl _ _) rfl
            · intro vs wx K hb hd hK
              clear hb hd
              go_simp
              exact hK _ _ (Below.refl _ _) rfl
            · intro vs wx K hb hd hK
              obtain ⟨vs, rfl⟩ := put_of (show vs 2 = _ from hd ⟨2, .data⟩ (by simp) rfl)
              obtain ⟨vs, rfl⟩ := put_of (show vs 3 = _ from hd ⟨3, .data⟩ (by simp) rfl)
              clear hb hd
              go_simp
              exact hK _ _ (Below.refl _ _) rfl
            · intro vs wx K hb hd hK
              obtain ⟨vs, rfl⟩ := put_of (show vs 4 = _ from hd ⟨4, .data⟩ (by simp) rfl)
              obtain ⟨c0, c1, c2⟩ := HC.out wx hb
              clear hb hd
              go_simp
              exact hK _ _ (Below.refl _ _) rfl
            · intro vs wx K hb hd hK
              obtain ⟨vs, rfl⟩ := put_of (show vs 5 = _ from hd ⟨5, .data⟩ (by simp) rfl)
              have hsx := hb.size
              have HBX := hide hb; clear hb hd
              go_simp
              refine (rbytes_any wz.heap.size (g + 127) T _ _ (TmAt.below HTT.out HBX.out (Nat.le_refl _) (Nat.le_refl _)) hsx (by omega) (fun x hx => (HND.out x hx).2.2.2)).mono ?_
              rintro e w7 ⟨r9, rfl, how9, hb7⟩
              rw [HE.out] at how9
              obtain ⟨g9, c9, blk, rfl, hbk1, hbk2⟩ := own_blk how9 hpos
              exact hK _ _ hb7 ⟨g9, c9, blk, rfl, hbk1, hbk2⟩
            · intro vs wx K hb hd hK
              obtain ⟨g9, c9, blk, e6, hbk1, hbk2⟩ := hd ⟨6, .data⟩ (by simp) rfl
              obtain ⟨vs, rfl⟩ := put_of (show vs 6 = _ from e6)
              have cv := conv_blk (c := c9) hbk1 hbk2 HLEN.out
              have HK1 := hide hbk1; have HK2 := hide hbk2; clear hbk1 hbk2 e6
              clear hb hd
              go_simp
              exact hK _ _ (Below.refl _ _) rfl
            · intro vs wx K hb hd hK
              obtain ⟨vs, rfl⟩ := put_of (show vs 1 = _ from hd ⟨1, .data⟩ (by simp) rfl)
              obtain ⟨vs, rfl⟩ := put_of (show vs 7 = _ from hd ⟨7, .data⟩ (by simp) rfl)
              clear hb hd
              go_simp
              exact hK _ _ (Below.refl _ _) rfl
            · intro vs wx K hb hd hK
              obtain ⟨vs, rfl⟩ := put_of (show vs 8 = _ from hd ⟨8, .data⟩ (by simp) rfl)
              clear hb hd
              go_simp
              exact hK _ _ (Below.refl _ _) rfl
            · intro vs wx K hb hd hK
              obtain ⟨vs, rfl⟩ := put_of (show vs 9 = _ from hd ⟨9, .guard⟩ (by simp) rfl)
              clear hb hd
              go_simp
              exact hK _ _ (Below.refl _ _) rfl
            · intro vs wx K hb hd hK
              obtain ⟨vs, rfl⟩ := put_of (show vs 9 = _ from hd ⟨9, .guard⟩ (by simp) rfl)
              clear hb hd
              go_simp
              exact hK _ _ (Below.refl _ _) rfl
            · intro vs wx K hb hd hK
              obtain ⟨vs, rfl⟩ := put_of (show vs 10 = _ from hd ⟨10, .data⟩ (by simp) rfl)
              obtain ⟨vs, rfl⟩ := put_of (show vs 11 = _ from hd ⟨11, .data⟩ (by simp) rfl)
              obtain ⟨vs, rfl⟩ := put_of (show vs 9 = _ from hd ⟨9, .guard⟩ (by simp) rfl)
              clear hb hd
              go_simp
              exact hK _ _ (Below.refl _ _) rfl
            · intro vs wx K hb hd hK
              obtain ⟨vs, rfl⟩ := put_of (show vs 9 = _ from hd ⟨9, .data⟩ (by simp) rfl)
              obtain ⟨vs, rfl⟩ := put_of (show vs 12 = _ from hd ⟨12, .data⟩ (by simp) rfl)
              clear hb hd
              go_simp
              exact hK _ _ (Below.refl _ _) rfl
            · intro vs wx K hb hd hK
              obtain ⟨vs, rfl⟩ := put_of (show vs 13 = _ from hd ⟨13, .data⟩ (by simp) rfl)
              clear hb hd
              go_simp
              exact hK _ _ (Below.refl _ _) rfl
            · intro vs wx K hb hd hK
              obtain ⟨vs, rfl⟩ := put_of (show vs 14 = _ from hd ⟨14, .guard⟩ (by simp) rfl)
              obtain ⟨c0, c1, c2⟩ := cells3 hb HZP.out (size_of_block HZP.out)
              clear hb hd
              go_simp
              exact hK _ _ (Below.refl _ _) rfl
            · intro vs wx K hb hd hK
              obtain ⟨vs, rfl⟩ := put_of (show vs 14 = _ from hd ⟨14, .guard⟩ (by simp) rfl)
              obtain ⟨c0, c1, c2⟩ := cells3 hb HZQ.out (size_of_block HZQ.out)
              clear hb hd
              go_simp
              exact hK _ _ (Below.refl _ _) rfl
            · intro vs wx K hb hd hK
              obtain ⟨vs, rfl⟩ := put_of (show vs 15 = _ from hd ⟨15, .data⟩ (by simp) rfl)
              obtain ⟨vs, rfl⟩ := put_of (show vs 16 = _ from hd ⟨16, .data⟩ (by simp) rfl)
              obtain ⟨vs, rfl⟩ := put_of (show vs 14 = _ from hd ⟨14, .guard⟩ (by simp) rfl)
              have hsx := hb.size
              have HBX := hide hb; clear hb hd
              go_simp
              refine (same_any wz.heap.size (g + 127) t6 t6 _ _ _ (TmAt.below HTP.out HBX.out (Nat.le_refl _) (Nat.le_refl _)) (TmAt.below HTQ.out HBX.out (Nat.le_refl _) (Nat.le_refl _)) hsx).mono ?_
              rintro e w7 ⟨r, rfl, hr, hb7⟩
              obtain rfl := hr.2 rfl
              exact hK _ _ hb7 rfl
            · intro vs wx K hb hd hK
              obtain ⟨vs, rfl⟩ := put_of (show vs 17 = _ from hd ⟨17, .data⟩ (by simp) rfl)
              obtain ⟨vs, rfl⟩ := put_of (show vs 14 = _ from hd ⟨14, .guard⟩ (by simp) rfl)
              clear hb hd
              go_simp
              exact hK _ _ (Below.refl _ _) rfl
            · intro vs wx K hb hd hK
              obtain ⟨vs, rfl⟩ := put_of (show vs 14 = _ from hd ⟨14, .data⟩ (by simp) rfl)
              obtain ⟨vs, rfl⟩ := put_of (show vs 18 = _ from hd ⟨18, .data⟩ (by simp) rfl)
              clear hb hd
              go_simp
              exact hK _ _ (Below.refl _ _) rfl
            · intro vs wx K hb hd hK
              obtain ⟨vs, rfl⟩ := put_of (show vs 19 = _ from hd ⟨19, .data⟩ (by simp) rfl)
              clear hb hd
              go_simp
              exact hK _ _ (Below.refl _ _) rfl
            · intro vs wx K hb hd hK
              obtain ⟨vs, rfl⟩ := put_of (show vs 20 = _ from hd ⟨20, .guard⟩ (by simp) rfl)
              clear hb hd
              go_simp
              exact hK _ _ (Below.refl _ _) rfl
            · intro vs wx K hb hd hK
              obtain ⟨vs, rfl⟩ := put_of (show vs 21 = _ from hd ⟨21, .data⟩ (by simp) rfl)
              obtain ⟨vs, rfl⟩ := put_of (show vs 20 = _ from hd ⟨20, .guard⟩ (by simp) rfl)
              have hq : (((er' : Nat) : Int) == 0) = decide (er' = 0) := by rw [Bool.eq_iff_iff]; simp
              clear hb hd
              go_simp
              exact hK _ _ (Below.refl _ _) rfl
            · intro vs wx K hb hd hK
              obtain ⟨vs, rfl⟩ := put_of (show vs 22 = _ from hd ⟨22, .data⟩ (by simp) rfl)
              obtain ⟨vs, rfl⟩ := put_of (show vs 20 = _ from hd ⟨20, .guard⟩ (by simp) rfl)
              clear hb hd
              go_simp
              exact hK _ _ (Below.refl _ _) rfl
            · intro vs wx K hb hd hK
              have e23 := hd ⟨23, .guard⟩ (by simp) rfl
              obtain ⟨c0, c1, c2⟩ := cells3 hb HZP.out (size_of_block HZP.out)
              have HBX := hide hb; clear hb hd
              generalize hdk : decide (er' = 0) = ok at *
              cases ok
              · obtain ⟨vs, rfl⟩ := put_of (show vs 23 = .bool false from e23)
                go_simp
                exact hK _ _ (Below.refl _ _) rfl
              · obtain ⟨vs, rfl⟩ := put_of (show vs 23 = .bool true from e23)
                go_simp
                exact hK _ _ (Below.refl _ _) rfl
            · intro vs wx K hb hd hK
              have e23 := hd ⟨23, .guard⟩ (by simp) rfl
              have HBX := hide hb; clear hb hd
              generalize hdk : decide (er' = 0) = ok at *
              cases ok
              · obtain ⟨vs, rfl⟩ := put_of (show vs 23 = .bool false from e23)
                go_simp
                exact hK _ _ (Below.refl _ _) rfl
              · obtain ⟨vs, rfl⟩ := put_of (show vs 23 = .bool true from e23)
                go_simp
                exact hK _ _ (Below.refl _ _) rfl
            · intro vs wx K hb hd hK
              have e23 := hd ⟨23, .guard⟩ (by simp) rfl
              have HBX := hide hb; clear hb hd
              generalize hdk : decide (er' = 0) = ok at *
              cases ok
              · obtain ⟨vs, rfl⟩ := put_of (show vs 23 = .bool false from e23)
                go_simp
                exact hK _ _ (Below.refl _ _) rfl
              · obtain ⟨vs, rfl⟩ := put_of (show vs 23 = .bool true from e23)
                go_simp
                exact hK _ _ (Below.refl _ _) rfl
            · intro vs wx K hb hd hK
              have e25 := hd ⟨25, .data⟩ (by simp) rfl
              have e26 := hd ⟨26, .data⟩ (by simp) rfl
              have e23 := hd ⟨23, .guard⟩ (by simp) rfl
              have HBX := hide hb; clear hb hd
              generalize hdk : decide (er' = 0) = ok at *
              cases ok
              · obtain ⟨vs, rfl⟩ := put_of (show vs 23 = .bool false from e23)
                obtain ⟨vs, rfl⟩ := put_of (show vs 25 = undef from e25)
                obtain ⟨vs, rfl⟩ := put_of (show vs 26 = undef from e26)
                go_simp
                exact hK _ _ (Below.refl _ _) rfl
              · obtain ⟨vs, rfl⟩ := put_of (show vs 25 = _ from e25)
                obtain ⟨vs, rfl⟩ := put_of (show vs 26 = _ from e26)
                obtain ⟨vs, rfl⟩ := put_of (show vs 23 = .bool true from e23)
                go_simp
                exact hK _ _ (Below.refl _ _) rfl
            · intro vs wx K hb hd hK
              have e27 := hd ⟨27, .data⟩ (by simp) rfl
              have e23 := hd ⟨23, .guard⟩ (by simp) rfl
              obtain ⟨c0, c1, c2⟩ := HC.out wx hb
              have HBX := hide hb; clear hb hd
              generalize hdk : decide (er' = 0) = ok at *
              cases ok
              · obtain ⟨vs, rfl⟩ := put_of (show vs 23 = .bool false from e23)
                obtain ⟨vs, rfl⟩ := put_of (show vs 27 = undef from e27)
                go_simp
                exact hK _ _ (Below.refl _ _) rfl
              · obtain ⟨vs, rfl⟩ := put_of (show vs 27 = _ from e27)
                obtain ⟨vs, rfl⟩ := put_of (show vs 23 = .bool true from e23)
                go_simp
                exact hK _ _ (Below.refl _ _) rfl
            · intro vs wx K hb hd hK
              have e24 := hd ⟨24, .data⟩ (by simp) rfl
              have e28 := hd ⟨28, .data⟩ (by simp) rfl
              have e23 := hd ⟨23, .guard⟩ (by simp) rfl
              have hsx := hb.size
              have HBX := hide hb; clear hb hd
              generalize hdk : decide (er' = 0) = ok at *
              cases ok
              · obtain ⟨vs, rfl⟩ := put_of (show vs 23 = .bool false from e23)
                obtain ⟨vs, rfl⟩ := put_of (show vs 24 = undef from e24)
                obtain ⟨vs, rfl⟩ := put_of (show vs 28 = undef from e28)
                go_simp
                exact hK _ _ (Below.refl _ _) rfl
              · obtain ⟨vs, rfl⟩ := put_of (show vs 24 = _ from e24)
                obtain ⟨vs, rfl⟩ := put_of (show vs 28 = _ from e28)
                obtain ⟨vs, rfl⟩ := put_of (show vs 23 = .bool true from e23)
                go_simp
                have hz : er' = 0 := of_decide_eq_true hdk
                obtain rfl : t6 = T := HSM.out hz
                refine (same_any wz.heap.size (g + 127) t6 t6 _ _ _ (TmAt.below HTP.out HBX.out (Nat.le_refl _) (Nat.le_refl _)) (TmAt.below HTT.out HBX.out (Nat.le_refl _) (Nat.le_refl _)) hsx).mono ?_
                rintro e w7 ⟨r, rfl, hr, hb7⟩
                obtain rfl := hr.2 rfl
                exact hK _ _ hb7 rfl
            · intro vs wx K hb hd hK
              have e29 := hd ⟨29, .data⟩ (by simp) rfl
              have e23 := hd ⟨23, .guard⟩ (by simp) rfl
              have HBX := hide hb; clear hb hd
              generalize hdk : decide (er' = 0) = ok at *
              cases ok
              · obtain ⟨vs, rfl⟩ := put_of (show vs 23 = .bool false from e23)
                obtain ⟨vs, rfl⟩ := put_of (show vs 29 = undef from e29)
                go_simp
                exact hK _ _ (Below.refl _ _) rfl
              · obtain ⟨vs, rfl⟩ := put_of (show vs 29 = _ from e29)
                obtain ⟨vs, rfl⟩ := put_of (show vs 23 = .bool true from e23)
                go_simp
                exact hK _ _ (Below.refl _ _) rfl
            · intro vs wx K hb hd hK
              have e23 := hd ⟨23, .data⟩ (by simp) rfl
              have e30 := hd ⟨30, .data⟩ (by simp) rfl
              obtain ⟨vs, rfl⟩ := put_of (show vs 20 = _ from hd ⟨20, .guard⟩ (by simp) rfl)
              clear hb hd
              generalize decide (er' = 0) = ok at *
              cases ok
              · obtain ⟨vs, rfl⟩ := put_of (show vs 23 = .bool false from e23)
                obtain ⟨vs, rfl⟩ := put_of (show vs 30 = undef from e30)
                go_simp
                exact hK _ _ (Below.refl _ _) rfl
              · obtain ⟨vs, rfl⟩ := put_of (show vs 23 = .bool true from e23)
                obtain ⟨vs, rfl⟩ := put_of (show vs 30 = .bool false from e30)
                go_simp
                exact hK _ _ (Below.refl _ _) rfl
            · intro vs wx K hb hd hK
              obtain ⟨vs, rfl⟩ := put_of (show vs 20 = _ from hd ⟨20, .data⟩ (by simp) rfl)
              obtain ⟨vs, rfl⟩ := put_of (show vs 31 = _ from hd ⟨31, .data⟩ (by simp) rfl)
              clear hb hd
              go_simp
              exact hK _ _ (Below.refl _ _) rfl
          · intro vs wx hb hF
            have h32 : vs 32 = .bool false := hF 32 (by decide)
            obtain ⟨vs, rfl⟩ := put_of h32
            have HBX := hide hb
            clear hb hF h32
            simp only [put, Nat.reduceEqDiff, reduceIte]
            go_wp2_with fail
            go_roundw
            case rel => exact ⟨k + 1, by omega, by go_num, HBWZ.out.trans (HBX.out.mono (HBWZ.out.size))⟩
            case measure => simp [intOf]; omega
        · -- END12
          have hk2 : k = 2 := by omega
          subst hk2
          go_wp2_with fail
          go_ret
          exact ⟨rfl, HBLC.out.trans (HB.out.mono HBLC.out.size)⟩
  · rw [decide_eq_false hq1]
    go_wp2_with fail
    go_ret
    exact ⟨rfl, HBL2.out⟩
end Go.Proofs.Ytafafeplciidhaa
