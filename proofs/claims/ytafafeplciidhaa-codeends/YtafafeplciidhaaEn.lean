/- CodeEnds: the walk of the statement's function. -/
import Derived.Test.YtafafeplciidhaaUn
import Derived.Test.YtafafeplciidhaaMk
import Derived.Test.YtafafeplciidhaaQp
import Derived.Test.YtafafeplciidhaaRb
import Derived.Test.YtafafeplciidhaaPm
import Derived.Test.YtafafeplciidhaaPc
namespace Go.Proofs.Ytafafeplciidhaa
open Go.RowKit

attribute [local go_sem ↓] Go.wp_at_zero Go.wp_at_succ

/-- Behind the term's own node. -/
def Seven (w : World) (tb : Nat) (wc : World) : Prop :=
  ∃ (T : Tr) (N : Int) (nb : Nat), wc.heap[tb]? = some (.cells #[.int .i64 7, .int .i64 N, .slice (some ⟨nb, 0, none⟩) 1 1] 29 (0, 0)) ∧ T.size ≤ 342 ∧ (∀ x ∈ T.pre, Node x) ∧
    TmAt wc wc.heap.size 6 T (.agg #[.int .i64 7, .int .i64 N, .slice (some ⟨nb, 0, none⟩) 1 1]) ∧ Below w.heap.size w wc

theorem left_of {w : World} {g n : Nat} {l : List Int} (h : w.heap[g]? = some (.cells (bys l).toArray 5 (0, 0))) (hn : l.length = n) (hl : n ≤ maxLen) : LeftAt w (fun k => k < w.heap.size) (.slice (some ⟨g, 0, none⟩) n n) l := by
  subst hn
  refine ⟨_, _, rfl, Nat.le_refl _, hl, fun _ => ⟨g, 0, rfl, size_of_block h, fun i hi => ?_⟩⟩
  rw [cell_of_block h]
  simp [bys, hi]

theorem upd_ne {L : Nat → Bool} {i j : Nat} (hij : j ≠ i) (h : upd L i j = true) : L j = true := by simpa [upd, hij] using h

theorem own_none (w5 : World) (o : Obj) : ((w5.alloc o).alloc (.cells #[] 5)).ownsRow (w5.heap.size + 1) 5 1 (.slice (some ⟨w5.heap.size + 1, 0, none⟩) 0 0) 0 [] := by
  have h := heap_alloc_new (w5.alloc o) (.cells #[] 5)
  rw [World.size_alloc] at h
  exact ⟨rfl, Or.inr ⟨w5.heap.size + 1, 0, #[], rfl, Nat.le_refl _, h, Nat.le_refl _, Nat.zero_le _, rfl, rfl⟩⟩

theorem left_own {w : World} {base n : Nat} {v : Value} {l : List Int} {xs : List Value} (h : w.ownsRow base 5 1 v n xs) (hn : n = l.length) (hx : xs = bys l) : LeftAt w (fun k => k < w.heap.size) v l := by
  subst hn hx
  obtain ⟨a, cap, rfl, h1, h2⟩ := owns_form h
  refine ⟨a, cap, rfl, h1, h2, fun hne => ?_⟩
  rcases h.2 with ⟨_, h0⟩ | ⟨g, cap', cur, hv, hg, hh, hc1, hc2, hcs, htk⟩
  · exact absurd (List.eq_nil_of_length_eq_zero h0) hne
  · simp only [Value.slice.injEq] at hv
    obtain ⟨rfl, _, rfl⟩ := hv
    refine ⟨g, 0, rfl, size_of_block hh, fun i hi => ?_⟩
    have := h.cells (g := g) rfl i (.int .u8 l[i]) (by simp [bys, hi])
    rwa [Addr.add_lit] at this

theorem left_cut {w : World} {g n : Nat} {l : List Int} (h : w.heap[g]? = some (.cells (bys l).toArray 5 (0, 0))) (hn : l.length = n) (hl : n ≤ maxLen) : LeftAt w (fun k => k < w.heap.size) (.slice (some ⟨g, 0, none⟩) (n - 1) n) (l.take (n - 1)) := by
  subst hn
  have e : (l.take (l.length - 1)).length = l.length - 1 := by simp
  refine ⟨_, l.length, by rw [e], by omega, hl, fun _ => ⟨g, 0, rfl, size_of_block h, fun i hi => ?_⟩⟩
  rw [e] at hi
  rw [cell_of_block h]
  simp [bys]

/-- A block that holds these bytes, whatever else is there. -/
def Bl (blk : Obj) (g : Nat) (l : List Int) : Prop := ∀ W : World, W.heap[g]? = some blk → ∀ i, i < l.length → W.cell? ⟨g, i, none⟩ = some (.int .u8 (l.getD i 0))

theorem own_blk {w : World} {base n : Nat} {v : Value} {l : List Int} (h : w.ownsRow base 5 1 v (n * 10) (bys l)) (hp : 1 ≤ n) : ∃ g c blk, v = .slice (some ⟨g, 0, none⟩) (n * 10) c ∧ w.heap[g]? = some blk ∧ Bl blk g l := by
  rcases h.2 with ⟨_, h0⟩ | ⟨g, cap', cur, hv, hg, hh, hc1, hc2, hcs, htk⟩
  · omega
  · refine ⟨g, cap', _, hv, hh, fun W hW i hi => ?_⟩
    have h1 : w.cell? ⟨g, i, none⟩ = some (.int .u8 l[i]) := by
      subst hv
      have := h.cells (g := g) rfl i (.int .u8 l[i]) (by simp [bys, hi])
      rw [Addr.add_lit, Nat.zero_add] at this
      exact this
    rw [World.cell?_of_block (w := w) (w' := W) (a := ⟨g, i, none⟩) (hW.trans hh.symm), h1]
    simp [List.getD, hi]

theorem conv_blk {w : World} {g n c : Nat} {blk : Obj} {l : List Int} (hg : w.heap[g]? = some blk) (hb : Bl blk g l) (hn : l.length = n) : (convert 32 9 (.slice (some ⟨g, 0, none⟩) n c)).run Try.prog w = .ok (.string (strOfNums l)) w := by
  refine run_convert_bytes_arg w 32 5 Try.underlying32 Try.underlying5 g 0 n c l hn (fun i hi => ?_) 9 Try.underlying9
  rw [Nat.zero_add]
  exact hb w hg i (by omega)

theorem conv_len {w w' : World} {g n : Nat} {l : List Int} (hg : w.heap[g]? = some (.cells (bys l).toArray 5 (0, 0))) (hn : l.length = n) (hb : Below w.heap.size w w') :
    (convert 32 9 (.slice (some ⟨g, 0, none⟩) n n)).run Try.prog w' = .ok (.string (strOfNums l)) w' := by subst hn; exact conv_any hg hb

theorem par_no {l : List Int} {t : Tr} {er : Nat} (h : parseP l = .ok t) (h2 : parseP l = .error er) : False := by rw [h] at h2; cases h2
theorem par_ok {l : List Int} {t t' : Tr} (h : parseP l = .ok t) (h2 : parseP l = .ok t') : t' = t := by rw [h] at h2; exact (Except.ok.inj h2).symm
theorem par_er {l : List Int} {er er' : Nat} (h : parseP l = .error er) (h2 : parseP l = .error er') : er' = er := by rw [h] at h2; exact (Except.error.inj h2).symm
theorem par_ne {l : List Int} {t : Tr} {er : Nat} (h : parseP l = .error er) (h2 : parseP l = .ok t) : False := by rw [h] at h2; cases h2
theorem i64_max : I64 9223372036854775807 := by unfold I64; omega
theorem i64_min : I64 (-9223372036854775808) := by unfold I64; omega
theorem i64_one : I64 (-1) := by unfold I64; omega

theorem seven_of {w W3 wc : World} {tb nb : Nat} {t4 : Tr} {N p0 p1 : Int} {pa : Option Addr} {pl pc : Nat} (h1 : Below w.heap.size w W3) (h2 : W3.heap.size = tb + 1) (h3 : w.heap.size ≤ tb)
    (h4 : TmAt W3 tb 5 t4 (.agg #[.int .i64 p0, .int .i64 p1, .slice pa pl pc])) (h5 : Made 4 t4) (h6 : Fr (fun k => k = tb) W3 wc) (h7 : wc.heap[tb]? = some (.cells #[.int .i64 7, .int .i64 N, .slice (some ⟨nb, 0, none⟩) 1 1] 29 (0, 0))) (h8 : I64 N)
    (h9 : wc.heap[nb]? = some (.cells #[.int .i64 p0, .int .i64 p1, .slice pa pl pc] 29 (0, 0))) : Seven w tb wc := by
  have hs := h6.size
  have k4 : TmAt wc wc.heap.size 5 t4 (.agg #[.int .i64 p0, .int .i64 p1, .slice pa pl pc]) := TmD.keep (fun q hq => h6.block q (by omega) (by omega)) (fun q hq => by omega) _ _ _ h4
  obtain ⟨m1, m2⟩ := h5
  have hm : most 4 = 341 := rfl
  obtain ⟨y0, y1, y2⟩ := blk3 h9
  refine ⟨⟨7, N, [t4]⟩, N, nb, h7, ?_, ?_, ⟨_, _, rfl, by unfold I64; simp only; omega, h8, Nat.le_refl _, by unfold maxLen; simp, fun _ => ⟨nb, 0, rfl, size_of_block h9, fun i hi => ?_⟩⟩, h1.trans (h6.below (by omega) (fun k hk => by omega))⟩
  · rw [Tr.size_eq]; simp; omega
  · intro x hx
    rw [Tr.pre_eq, List.mem_cons] at hx
    rcases hx with rfl | hx
    · exact ⟨by simp only; omega, by simp only; omega, h8, by simp⟩
    · simp at hx; exact m2 x hx
  · have : i = 0 := by simp at hi; omega
    subst this
    exact ⟨_, _, _, y0, y1, y2, k4⟩

set_option linter.unusedSimpArgs false in
set_option maxRecDepth 20000 in
set_option maxHeartbeats 40000000 in
theorem ends_any (B f : Nat) (t : Tr) (v : Value) (n m : Int) (w : World) (ht : TmAt w B f t v) (hB : B ≤ w.heap.size) (hn : I64 n) (hm : 0 ≤ m ∧ m < 256) :
    Calls Try.prog 8 #[v, .int .i64 n, .int .u8 m] w fun e w' => e = .returned (.bool true) ∧ Below w.heap.size w w' := by
  have HT := hide ht
  obtain ⟨g, rfl⟩ : ∃ g, f = g + 1 := by cases f with | zero => exact ht.elim | succ g => exact ⟨g, rfl⟩
  obtain ⟨a, cap, rfl, hop, hn', hrow⟩ := ht
  clear hrow hop hn'
  go_enter Try.func8, Try.ntmps8
  go_wp2_with fail
  refine (known_any _).mono ?_
  rintro e w1 ⟨rfl, hb1⟩
  have hbx : (w.alloc (.cells #[.int .i64 t.op, .int .i64 t.n, .slice a t.kids.length cap] 24)).heap[w.heap.size]? = some (.cells #[.int .i64 t.op, .int .i64 t.n, .slice a t.kids.length cap] 24 (0, 0)) := heap_alloc_new w _
  have hold : Below w.heap.size w (w.alloc (.cells #[.int .i64 t.op, .int .i64 t.n, .slice a t.kids.length cap] 24)) := (Below.refl _ _).alloc (Nat.le_refl _) _
  have hsz : (w.alloc (.cells #[.int .i64 t.op, .int .i64 t.n, .slice a t.kids.length cap] 24)).heap.size = w.heap.size + 1 := by simp
  generalize w.alloc (.cells #[.int .i64 t.op, .int .i64 t.n, .slice a t.kids.length cap] 24) = W at *
  rw [hsz] at hb1
  have HX := hide hbx; have HO := hide hold; have HB1 := hide hb1; have HZ := hide hsz
  clear hbx hold hb1 hsz
  obtain ⟨c0, c1, c2⟩ := cells3 HB1.out HX.out (by omega)
  have hs1 : w.heap.size + 1 ≤ w1.heap.size := by have := HB1.out.size; rw [HZ.out] at this; exact this
  have HBL1 : Hid (Below w.heap.size w w1) := HO.out.trans (HB1.out.mono (by omega))
  go_wp2_with fail
  refine (few_any B (g + 1) t _ _ (TmAt.below HT.out HBL1.out hB (Nat.le_refl _)) (by omega)).mono ?_
  rintro e w2 ⟨rfl, hb2⟩
  have HB2 : Hid (Below (w.heap.size + 1) W w2) := HB1.out.trans (hb2.mono hs1)
  have hs2 : w1.heap.size ≤ w2.heap.size := hb2.size
  clear hb2
  have HBL2 : Hid (Below w.heap.size w w2) := HO.out.trans (HB2.out.mono (by omega))
  clear c0 c1 c2
  obtain ⟨c0, c1, c2⟩ := cells3 HB2.out HX.out (by omega)
  by_cases hq1 : t.size < 300
  · rw [decide_eq_true hq1]
    go_wp2_with fail
    refine (make_any 4 B (g + 1) t _ 4 2 _ (TmAt.below HT.out HBL2.out hB (Nat.le_refl _)) (by omega) (by decide) (by decide) (by decide) (by decide)).mono ?_
    rintro e w3 ⟨t4, p0, p1, pa, pl, pc, rfl, htm3, hmd, hb3⟩
    have HBL3 : Hid (Below w.heap.size w w3) := HBL2.out.trans (hb3.mono (by omega))
    have HT3 : Hid (TmAt w3 w3.heap.size 5 t4 (.agg #[.int .i64 p0, .int .i64 p1, .slice pa pl pc])) := TmD.keep (fun _ _ => rfl) (fun k hk => hk.2) _ _ _ htm3
    have hs3 : w2.heap.size ≤ w3.heap.size := hb3.size
    have HMD := hide hmd
    clear htm3 hb3 c0 c1 c2 hmd
    clear HB1 HB2 HBL1 HBL2 HX HO HZ hs1 hs2
    go_upto_region 6 with fail
    have hx1 : (w3.alloc (.cells #[.int .i64 p0, .int .i64 p1, .slice pa pl pc] 29)).heap[w3.heap.size]? = some (.cells #[.int .i64 p0, .int .i64 p1, .slice pa pl pc] 29 (0, 0)) := heap_alloc_new w3 _
    have hx2 : Below w.heap.size w (w3.alloc (.cells #[.int .i64 p0, .int .i64 p1, .slice pa pl pc] 29)) := HBL3.out.alloc (by have := HBL3.out.size; omega) _
    have hx3 : (w3.alloc (.cells #[.int .i64 p0, .int .i64 p1, .slice pa pl pc] 29)).heap.size = w3.heap.size + 1 := by simp
    have hx4 : TmAt (w3.alloc (.cells #[.int .i64 p0, .int .i64 p1, .slice pa pl pc] 29)) w3.heap.size 5 t4 (.agg #[.int .i64 p0, .int .i64 p1, .slice pa pl pc]) := TmAt.below HT3.out ((Below.refl _ _).alloc (Nat.le_refl _) _) (Nat.le_refl _) (Nat.le_refl _)
    generalize w3.alloc (.cells #[.int .i64 p0, .int .i64 p1, .slice pa pl pc] 29) = W3 at *
    have hsw := HBL3.out.size
    generalize w3.heap.size = tb at *
    have HX1 := hide hx1; have HX2 := hide hx2; have HX3 := hide hx3; have HX4 := hide hx4
    clear hx1 hx2 hx3 hx4 HT3 HBL3
    obtain ⟨q0, q1, q2⟩ := blk3 HX1.out
    have z0 := frozen_of_block HX1.out 0; have z1 := frozen_of_block HX1.out 1; have z2 := frozen_of_block HX1.out 2
    have hw4 := wi_n n 4 (by decide)
    go_cut [7] (fun p wx => p = .pointer (some ⟨tb, 0, none⟩) ∧ Seven w tb wx)
    case first =>
      -- R6
      refine wp_region_inv (by kernel_rfl) (by kernel_rfl) (fun L a6 w' => ∃ v22 v23 v24 v25 v26 v27 v28 v29 v30 : Value, a6 = { tmps := #[.agg #[.int .i64 t.op, .int .i64 t.n, .slice a t.kids.length cap], .int .i64 n, .int .u8 m, .pointer (some ⟨w.heap.size, 0, none⟩), undef, undef, .bool false, .pointer (some ⟨tb, 0, none⟩), undef, undef, undef, undef, undef, undef, undef, .bool true, .bool false, .agg #[.int .i64 t.op, .int .i64 t.n, .slice a t.kids.length cap], .bool true, .bool false, .agg #[.int .i64 t.op, .int .i64 t.n, .slice a t.kids.length cap], .agg #[.int .i64 p0, .int .i64 p1, .slice pa pl pc], v22, v23, v24, v25, v26, v27, v28, v29, v30, undef, undef, undef, undef, undef, undef, undef, undef, undef, undef, undef, undef, undef, undef, undef, undef, undef, undef, undef, undef, undef, undef, undef, undef, undef, undef, undef, undef, undef, undef, undef, undef, undef, undef, undef, undef, undef, undef, undef, undef, undef, undef, undef, undef, undef, undef, undef, undef, undef, undef, undef, undef], defers := [] } ∧ Fr (fun k => k = tb) W3 w' ∧ (L 9 = false → w'.heap[tb]? = some (.cells #[.int .i64 p0, .int .i64 p1, .slice pa pl pc] 29 (0, 0))) ∧ (L 9 = true → L 6 = true) ∧ (L 0 = true → v22 = .int .i64 n) ∧ (L 1 = true → ∃ g1, v23 = .slice (some ⟨g1, 0, none⟩) 4 4 ∧ w'.heap[g1]? = some (.cells #[.int .i64 9223372036854775807, .int .i64 (-9223372036854775808), .int .i64 (-1), .int .i64 n] 3 (0, 0)) ∧ g1 ≠ tb) ∧ (L 2 = true → v24 = .int .i64 n) ∧ (L 3 = true → v25 = .int .i64 (wi n 4)) ∧ (L 4 = true → ∃ g1 j : Nat, j < 4 ∧ v26 = .pointer (some ⟨g1, j, none⟩) ∧ w'.heap[g1]? = some (.cells #[.int .i64 9223372036854775807, .int .i64 (-9223372036854775808), .int .i64 (-1), .int .i64 n] 3 (0, 0)) ∧ g1 ≠ tb) ∧ (L 5 = true → ∃ N, v27 = .int .i64 N ∧ I64 N) ∧ (L 6 = true → v28 = .agg #[.int .i64 p0, .int .i64 p1, .slice pa pl pc]) ∧ (L 7 = true → ∃ nb, v29 = .slice (some ⟨nb, 0, none⟩) 1 1 ∧ w'.heap[nb]? = some (.cells #[.int .i64 p0, .int .i64 p1, .slice pa pl pc] 29 (0, 0)) ∧ nb ≠ tb) ∧ (L 8 = true → ∃ N nb, v30 = .agg #[.int .i64 7, .int .i64 N, .slice (some ⟨nb, 0, none⟩) 1 1] ∧ I64 N ∧ w'.heap[nb]? = some (.cells #[.int .i64 p0, .int .i64 p1, .slice pa pl pc] 29 (0, 0)) ∧ nb ≠ tb) ∧ (L 9 = true → ∃ N nb, w'.heap[tb]? = some (.cells #[.int .i64 7, .int .i64 N, .slice (some ⟨nb, 0, none⟩) 1 1] 29 (0, 0)) ∧ I64 N ∧ w'.heap[nb]? = some (.cells #[.int .i64 p0, .int .i64 p1, .slice pa pl pc] 29 (0, 0)) ∧ nb ≠ tb)) ?_ ?_ ?_
      · refine ⟨_, _, _, _, _, _, _, _, _, rfl, (Fr.refl _ _).drew, fun _ => HX1.out, (fun h => by cases h), ?_, ?_, ?_, ?_, ?_, ?_, ?_, ?_, ?_, ?_⟩ <;> (intro h; cases h)
      · refine ⟨?_, ?_, ?_, ?_, ?_, ?_, ?_, ?_, ?_, ?_, trivial⟩
        · intro L a6 w6 K hl hd hI hK
          obtain ⟨v22, v23, v24, v25, v26, v27, v28, v29, v30, rfl, hfr, fz, hch, f0, f1, f2, f3, f4, f5, f6, f7, f8, f9⟩ := hI
          simp [Region.binds] at hd
          have Hf0 := hide f0; clear f0; have Hf1 := hide f1; clear f1; have Hf2 := hide f2; clear f2; have Hf3 := hide f3; clear f3; have Hf4 := hide f4; clear f4; have Hf5 := hide f5; clear f5; have Hf6 := hide f6; clear f6; have Hf7 := hide f7; clear f7; have Hf8 := hide f8; clear f8; have Hf9 := hide f9; clear f9; have Hfz := hide fz; clear fz; have Hhch := hide hch; clear hch; have Hhfr := hide hfr; clear hfr
          go_simp
          have f0 := Hf0.out; have f1 := Hf1.out; have f2 := Hf2.out; have f3 := Hf3.out; have f4 := Hf4.out; have f5 := Hf5.out; have f6 := Hf6.out; have f7 := Hf7.out; have f8 := Hf8.out; have f9 := Hf9.out; have fz := Hfz.out; have hch := Hhch.out; have hfr := Hhfr.out
          exact hK _ _ ⟨_, _, _, _, _, _, _, _, _, rfl, hfr, fun h => fz (by simpa [upd] using h), fun h => by simp [upd] at h ⊢; try exact hch h, fun _ => rfl, fun h => f1 (by simpa [upd] using h), fun h => f2 (by simpa [upd] using h), fun h => f3 (by simpa [upd] using h), fun h => f4 (by simpa [upd] using h), fun h => f5 (by simpa [upd] using h), fun h => f6 (by simpa [upd] using h), fun h => f7 (by simpa [upd] using h), fun h => f8 (by simpa [upd] using h), fun h => f9 (by simpa [upd] using h)⟩
        · intro L a6 w6 K hl hd hI hK
          obtain ⟨v22, v23, v24, v25, v26, v27, v28, v29, v30, rfl, hfr, fz, hch, f0, f1, f2, f3, f4, f5, f6, f7, f8, f9⟩ := hI
          simp [Region.binds] at hd
          obtain rfl := f0 (by simp [hd])
          have hts : tb < w6.heap.size := by have h1 := hfr.size; have h2 := HX3.out; omega
          have Hf0 := hide f0; clear f0; have Hf1 := hide f1; clear f1; have Hf2 := hide f2; clear f2; have Hf3 := hide f3; clear f3; have Hf4 := hide f4; clear f4; have Hf5 := hide f5; clear f5; have Hf6 := hide f6; clear f6; have Hf7 := hide f7; clear f7; have Hf8 := hide f8; clear f8; have Hf9 := hide f9; clear f9; have Hfz := hide fz; clear fz; have Hhch := hide hch; clear hch; have Hhfr := hide hfr; clear hfr
          go_simp
          have f0 := Hf0.out; have f1 := Hf1.out; have f2 := Hf2.out; have f3 := Hf3.out; have f4 := Hf4.out; have f5 := Hf5.out; have f6 := Hf6.out; have f7 := Hf7.out; have f8 := Hf8.out; have f9 := Hf9.out; have fz := Hfz.out; have hch := Hhch.out; have hfr := Hhfr.out
          have hk7 : ∀ (o : Obj) (q : Nat), q < w6.heap.size → (w6.alloc o).heap[q]? = w6.heap[q]? := fun o q hq => Below.heap_alloc w6 o q hq
          exact hK _ _ ⟨_, _, _, _, _, _, _, _, _, rfl, hfr.alloc _, fun h => by have h := fz (by simpa [upd] using h); exact (hk7 _ tb (size_of_block h)).trans h, fun h => by simp [upd] at h ⊢; try exact hch h, fun h => f0 (by simpa [upd] using h), fun _ => ⟨w6.heap.size, rfl, heap_alloc_new w6 _, by omega⟩, fun h => f2 (by simpa [upd] using h), fun h => f3 (by simpa [upd] using h), fun h => by
                have h := f4 (by simpa [upd] using h)
                obtain ⟨x1, x2, x3, x4, x5, x6⟩ := h; exact ⟨x1, x2, x3, x4, (hk7 _ x1 (size_of_block x5)).trans x5, x6⟩, fun h => f5 (by simpa [upd] using h), fun h => f6 (by simpa [upd] using h), fun h => by
                have h := f7 (by simpa [upd] using h)
                obtain ⟨x1, x2, x3, x4⟩ := h; exact ⟨x1, x2, (hk7 _ x1 (size_of_block x3)).trans x3, x4⟩, fun h => by
                have h := f8 (by simpa [upd] using h)
                obtain ⟨x0, x1, x2, x3, x4, x5⟩ := h; exact ⟨x0, x1, x2, x3, (hk7 _ x1 (size_of_block x4)).trans x4, x5⟩, fun h => by
                have h := f9 (by simpa [upd] using h)
                obtain ⟨x0, x1, x2, x3, x4, x5⟩ := h; exact ⟨x0, x1, (hk7 _ tb (size_of_block x2)).trans x2, x3, (hk7 _ x1 (size_of_block x4)).trans x4, x5⟩⟩
        · intro L a6 w6 K hl hd hI hK
          obtain ⟨v22, v23, v24, v25, v26, v27, v28, v29, v30, rfl, hfr, fz, hch, f0, f1, f2, f3, f4, f5, f6, f7, f8, f9⟩ := hI
          simp [Region.binds] at hd
          have Hf0 := hide f0; clear f0; have Hf1 := hide f1; clear f1; have Hf2 := hide f2; clear f2; have Hf3 := hide f3; clear f3; have Hf4 := hide f4; clear f4; have Hf5 := hide f5; clear f5; have Hf6 := hide f6; clear f6; have Hf7 := hide f7; clear f7; have Hf8 := hide f8; clear f8; have Hf9 := hide f9; clear f9; have Hfz := hide fz; clear fz; have Hhch := hide hch; clear hch; have Hhfr := hide hfr; clear hfr
          go_simp
          have f0 := Hf0.out; have f1 := Hf1.out; have f2 := Hf2.out; have f3 := Hf3.out; have f4 := Hf4.out; have f5 := Hf5.out; have f6 := Hf6.out; have f7 := Hf7.out; have f8 := Hf8.out; have f9 := Hf9.out; have fz := Hfz.out; have hch := Hhch.out; have hfr := Hhfr.out
          exact hK _ _ ⟨_, _, _, _, _, _, _, _, _, rfl, hfr, fun h => fz (by simpa [upd] using h), fun h => by simp [upd] at h ⊢; try exact hch h, fun h => f0 (by simpa [upd] using h), fun h => f1 (by simpa [upd] using h), fun _ => rfl, fun h => f3 (by simpa [upd] using h), fun h => f4 (by simpa [upd] using h), fun h => f5 (by simpa [upd] using h), fun h => f6 (by simpa [upd] using h), fun h => f7 (by simpa [upd] using h), fun h => f8 (by simpa [upd] using h), fun h => f9 (by simpa [upd] using h)⟩
        · intro L a6 w6 K hl hd hI hK
          obtain ⟨v22, v23, v24, v25, v26, v27, v28, v29, v30, rfl, hfr, fz, hch, f0, f1, f2, f3, f4, f5, f6, f7, f8, f9⟩ := hI
          simp [Region.binds] at hd
          obtain rfl := f2 (by simp [hd])
          have Hf0 := hide f0; clear f0; have Hf1 := hide f1; clear f1; have Hf2 := hide f2; clear f2; have Hf3 := hide f3; clear f3; have Hf4 := hide f4; clear f4; have Hf5 := hide f5; clear f5; have Hf6 := hide f6; clear f6; have Hf7 := hide f7; clear f7; have Hf8 := hide f8; clear f8; have Hf9 := hide f9; clear f9; have Hfz := hide fz; clear fz; have Hhch := hide hch; clear hch; have Hhfr := hide hfr; clear hfr
          go_simp
          refine (within_n n 4 _ (by decide) (by decide)).mono ?_
          rintro e w7 ⟨rfl, h7⟩
          rw [h7]
          clear h7
          have f0 := Hf0.out; have f1 := Hf1.out; have f2 := Hf2.out; have f3 := Hf3.out; have f4 := Hf4.out; have f5 := Hf5.out; have f6 := Hf6.out; have f7 := Hf7.out; have f8 := Hf8.out; have f9 := Hf9.out; have fz := Hfz.out; have hch := Hhch.out; have hfr := Hhfr.out
          exact hK _ _ ⟨_, _, _, _, _, _, _, _, _, rfl, hfr, fun h => fz (by simpa [upd] using h), fun h => by simp [upd] at h ⊢; try exact hch h, fun h => f0 (by simpa [upd] using h), fun h => f1 (by simpa [upd] using h), fun h => f2 (by simpa [upd] using h), fun _ => rfl, fun h => f4 (by simpa [upd] using h), fun h => f5 (by simpa [upd] using h), fun h => f6 (by simpa [upd] using h), fun h => f7 (by simpa [upd] using h), fun h => f8 (by simpa [upd] using h), fun h => f9 (by simpa [upd] using h)⟩
        · intro L a6 w6 K hl hd hI hK
          obtain ⟨v22, v23, v24, v25, v26, v27, v28, v29, v30, rfl, hfr, fz, hch, f0, f1, f2, f3, f4, f5, f6, f7, f8, f9⟩ := hI
          simp [Region.binds] at hd
          obtain ⟨g1, rfl, hg1, hg2⟩ := f1 (by simp [hd])
          obtain rfl := f3 (by simp [hd])
          have Hf0 := hide f0; clear f0; have Hf1 := hide f1; clear f1; have Hf2 := hide f2; clear f2; have Hf3 := hide f3; clear f3; have Hf4 := hide f4; clear f4; have Hf5 := hide f5; clear f5; have Hf6 := hide f6; clear f6; have Hf7 := hide f7; clear f7; have Hf8 := hide f8; clear f8; have Hf9 := hide f9; clear f9; have Hfz := hide fz; clear fz; have Hhch := hide hch; clear hch; have Hhfr := hide hfr; clear hfr
          rcases (show wi n 4 = 0 ∨ wi n 4 = 1 ∨ wi n 4 = 2 ∨ wi n 4 = 3 by omega) with hq | hq | hq | hq
          all_goals
            rw [hq]; go_simp
            have f0 := Hf0.out; have f1 := Hf1.out; have f2 := Hf2.out; have f3 := Hf3.out; have f4 := Hf4.out; have f5 := Hf5.out; have f6 := Hf6.out; have f7 := Hf7.out; have f8 := Hf8.out; have f9 := Hf9.out; have fz := Hfz.out; have hch := Hhch.out; have hfr := Hhfr.out
            exact hK _ _ ⟨_, _, _, _, _, _, _, _, _, rfl, hfr, fun h => fz (by simpa [upd] using h), fun h => by simp [upd] at h ⊢; try exact hch h, fun h => f0 (by simpa [upd] using h), fun h => f1 (by simpa [upd] using h), fun h => f2 (by simpa [upd] using h), fun _ => congrArg (Value.int IntKind.i64) hq.symm, fun _ => ⟨g1, _, by decide, rfl, hg1, hg2⟩, fun h => f5 (by simpa [upd] using h), fun h => f6 (by simpa [upd] using h), fun h => f7 (by simpa [upd] using h), fun h => f8 (by simpa [upd] using h), fun h => f9 (by simpa [upd] using h)⟩
        · intro L a6 w6 K hl hd hI hK
          obtain ⟨v22, v23, v24, v25, v26, v27, v28, v29, v30, rfl, hfr, fz, hch, f0, f1, f2, f3, f4, f5, f6, f7, f8, f9⟩ := hI
          simp [Region.binds] at hd
          obtain ⟨g1, j, hj, rfl, hg1, hg2⟩ := f4 (by simp [hd])
          have y0 : w6.cell? ⟨g1, 0, none⟩ = some (.int .i64 9223372036854775807) := (cell_of_block hg1 0).trans rfl
          have y1 : w6.cell? ⟨g1, 1, none⟩ = some (.int .i64 (-9223372036854775808)) := (cell_of_block hg1 1).trans rfl
          have y2 : w6.cell? ⟨g1, 2, none⟩ = some (.int .i64 (-1)) := (cell_of_block hg1 2).trans rfl
          have y3 : w6.cell? ⟨g1, 3, none⟩ = some (.int .i64 n) := (cell_of_block hg1 3).trans rfl
          have Hf0 := hide f0; clear f0; have Hf1 := hide f1; clear f1; have Hf2 := hide f2; clear f2; have Hf3 := hide f3; clear f3; have Hf4 := hide f4; clear f4; have Hf5 := hide f5; clear f5; have Hf6 := hide f6; clear f6; have Hf7 := hide f7; clear f7; have Hf8 := hide f8; clear f8; have Hf9 := hide f9; clear f9; have Hfz := hide fz; clear fz; have Hhch := hide hch; clear hch; have Hhfr := hide hfr; clear hfr
          rcases (show j = 0 ∨ j = 1 ∨ j = 2 ∨ j = 3 by omega) with rfl | rfl | rfl | rfl
          all_goals
            go_simp
            have f0 := Hf0.out; have f1 := Hf1.out; have f2 := Hf2.out; have f3 := Hf3.out; have f4 := Hf4.out; have f5 := Hf5.out; have f6 := Hf6.out; have f7 := Hf7.out; have f8 := Hf8.out; have f9 := Hf9.out; have fz := Hfz.out; have hch := Hhch.out; have hfr := Hhfr.out
            exact hK _ _ ⟨_, _, _, _, _, _, _, _, _, rfl, hfr, fun h => fz (by simpa [upd] using h), fun h => by simp [upd] at h ⊢; try exact hch h, fun h => f0 (by simpa [upd] using h), fun h => f1 (by simpa [upd] using h), fun h => f2 (by simpa [upd] using h), fun h => f3 (by simpa [upd] using h), fun h => f4 (by simpa [upd] using h), fun _ => ⟨_, rfl, by first | exact hn | exact i64_max | exact i64_min | exact i64_one⟩, fun h => f6 (by simpa [upd] using h), fun h => f7 (by simpa [upd] using h), fun h => f8 (by simpa [upd] using h), fun h => f9 (by simpa [upd] using h)⟩
        · intro L a6 w6 K hl hd hI hK
          obtain ⟨v22, v23, v24, v25, v26, v27, v28, v29, v30, rfl, hfr, fz, hch, f0, f1, f2, f3, f4, f5, f6, f7, f8, f9⟩ := hI
          simp [Region.binds] at hd
          have z0 := fz (by cases h9 : L 9 with | false => rfl | true => have := hch h9; rw [this] at hl; cases hl)
          obtain ⟨y0, y1, y2⟩ := blk3 z0
          have Z0 := hide z0; clear z0
          have Hf0 := hide f0; clear f0; have Hf1 := hide f1; clear f1; have Hf2 := hide f2; clear f2; have Hf3 := hide f3; clear f3; have Hf4 := hide f4; clear f4; have Hf5 := hide f5; clear f5; have Hf6 := hide f6; clear f6; have Hf7 := hide f7; clear f7; have Hf8 := hide f8; clear f8; have Hf9 := hide f9; clear f9; have Hfz := hide fz; clear fz; have Hhch := hide hch; clear hch; have Hhfr := hide hfr; clear hfr
          go_simp
          have f0 := Hf0.out; have f1 := Hf1.out; have f2 := Hf2.out; have f3 := Hf3.out; have f4 := Hf4.out; have f5 := Hf5.out; have f6 := Hf6.out; have f7 := Hf7.out; have f8 := Hf8.out; have f9 := Hf9.out; have fz := Hfz.out; have hch := Hhch.out; have hfr := Hhfr.out
          exact hK _ _ ⟨_, _, _, _, _, _, _, _, _, rfl, hfr, fun h => fz (by simpa [upd] using h), fun h => by simp [upd] at h ⊢; try exact hch h, fun h => f0 (by simpa [upd] using h), fun h => f1 (by simpa [upd] using h), fun h => f2 (by simpa [upd] using h), fun h => f3 (by simpa [upd] using h), fun h => f4 (by simpa [upd] using h), fun h => f5 (by simpa [upd] using h), fun _ => rfl, fun h => f7 (by simpa [upd] using h), fun h => f8 (by simpa [upd] using h), fun h => f9 (by simpa [upd] using h)⟩
        · intro L a6 w6 K hl hd hI hK
          obtain ⟨v22, v23, v24, v25, v26, v27, v28, v29, v30, rfl, hfr, fz, hch, f0, f1, f2, f3, f4, f5, f6, f7, f8, f9⟩ := hI
          simp [Region.binds] at hd
          obtain rfl := f6 (by simp [hd])
          have hts : tb < w6.heap.size := by have h1 := hfr.size; have h2 := HX3.out; omega
          have Hf0 := hide f0; clear f0; have Hf1 := hide f1; clear f1; have Hf2 := hide f2; clear f2; have Hf3 := hide f3; clear f3; have Hf4 := hide f4; clear f4; have Hf5 := hide f5; clear f5; have Hf6 := hide f6; clear f6; have Hf7 := hide f7; clear f7; have Hf8 := hide f8; clear f8; have Hf9 := hide f9; clear f9; have Hfz := hide fz; clear fz; have Hhch := hide hch; clear hch; have Hhfr := hide hfr; clear hfr
          go_simp
          have f0 := Hf0.out; have f1 := Hf1.out; have f2 := Hf2.out; have f3 := Hf3.out; have f4 := Hf4.out; have f5 := Hf5.out; have f6 := Hf6.out; have f7 := Hf7.out; have f8 := Hf8.out; have f9 := Hf9.out; have fz := Hfz.out; have hch := Hhch.out; have hfr := Hhfr.out
          have hk7 : ∀ (o : Obj) (q : Nat), q < w6.heap.size → (w6.alloc o).heap[q]? = w6.heap[q]? := fun o q hq => Below.heap_alloc w6 o q hq
          exact hK _ _ ⟨_, _, _, _, _, _, _, _, _, rfl, hfr.alloc _, fun h => by have h := fz (by simpa [upd] using h); exact (hk7 _ tb (size_of_block h)).trans h, fun h => by simp [upd] at h ⊢; try exact hch h, fun h => f0 (by simpa [upd] using h), fun h => by
                have h := f1 (by simpa [upd] using h)
                obtain ⟨x1, x2, x3, x4⟩ := h; exact ⟨x1, x2, (hk7 _ x1 (size_of_block x3)).trans x3, x4⟩, fun h => f2 (by simpa [upd] using h), fun h => f3 (by simpa [upd] using h), fun h => by
                have h := f4 (by simpa [upd] using h)
                obtain ⟨x1, x2, x3, x4, x5, x6⟩ := h; exact ⟨x1, x2, x3, x4, (hk7 _ x1 (size_of_block x5)).trans x5, x6⟩, fun h => f5 (by simpa [upd] using h), fun h => f6 (by simpa [upd] using h), fun _ => ⟨w6.heap.size, rfl, heap_alloc_new w6 _, by omega⟩, fun h => by
                have h := f8 (by simpa [upd] using h)
                obtain ⟨x0, x1, x2, x3, x4, x5⟩ := h; exact ⟨x0, x1, x2, x3, (hk7 _ x1 (size_of_block x4)).trans x4, x5⟩, fun h => by
                have h := f9 (by simpa [upd] using h)
                obtain ⟨x0, x1, x2, x3, x4, x5⟩ := h; exact ⟨x0, x1, (hk7 _ tb (size_of_block x2)).trans x2, x3, (hk7 _ x1 (size_of_block x4)).trans x4, x5⟩⟩
        · intro L a6 w6 K hl hd hI hK
          obtain ⟨v22, v23, v24, v25, v26, v27, v28, v29, v30, rfl, hfr, fz, hch, f0, f1, f2, f3, f4, f5, f6, f7, f8, f9⟩ := hI
          simp [Region.binds] at hd
          obtain ⟨N, rfl, hN⟩ := f5 (by simp [hd])
          obtain ⟨nb, rfl, hnb1, hnb2⟩ := f7 (by simp [hd])
          have Hf0 := hide f0; clear f0; have Hf1 := hide f1; clear f1; have Hf2 := hide f2; clear f2; have Hf3 := hide f3; clear f3; have Hf4 := hide f4; clear f4; have Hf5 := hide f5; clear f5; have Hf6 := hide f6; clear f6; have Hf7 := hide f7; clear f7; have Hf8 := hide f8; clear f8; have Hf9 := hide f9; clear f9; have Hfz := hide fz; clear fz; have Hhch := hide hch; clear hch; have Hhfr := hide hfr; clear hfr
          go_simp
          have f0 := Hf0.out; have f1 := Hf1.out; have f2 := Hf2.out; have f3 := Hf3.out; have f4 := Hf4.out; have f5 := Hf5.out; have f6 := Hf6.out; have f7 := Hf7.out; have f8 := Hf8.out; have f9 := Hf9.out; have fz := Hfz.out; have hch := Hhch.out; have hfr := Hhfr.out
          exact hK _ _ ⟨_, _, _, _, _, _, _, _, _, rfl, hfr, fun h => fz (by simpa [upd] using h), fun h => by simp [upd] at h ⊢; try exact hch h, fun h => f0 (by simpa [upd] using h), fun h => f1 (by simpa [upd] using h), fun h => f2 (by simpa [upd] using h), fun h => f3 (by simpa [upd] using h), fun h => f4 (by simpa [upd] using h), fun h => f5 (by simpa [upd] using h), fun h => f6 (by simpa [upd] using h), fun h => f7 (by simpa [upd] using h), fun _ => ⟨N, nb, rfl, hN, hnb1, hnb2⟩, fun h => f9 (by simpa [upd] using h)⟩
        · intro L a6 w6 K hl hd hI hK
          obtain ⟨v22, v23, v24, v25, v26, v27, v28, v29, v30, rfl, hfr, fz, hch, f0, f1, f2, f3, f4, f5, f6, f7, f8, f9⟩ := hI
          simp [Region.binds] at hd
          obtain ⟨N, nb, rfl, hN, hnb1, hnb2⟩ := f8 (by simp [hd])
          have z0 := fz hl
          obtain ⟨y0, y1, y2⟩ := blk3 z0
          have u0 := frozen_of_block z0 0; have u1 := frozen_of_block z0 1; have u2 := frozen_of_block z0 2
          have Z0 := hide z0; clear z0
          have Hf0 := hide f0; clear f0; have Hf1 := hide f1; clear f1; have Hf2 := hide f2; clear f2; have Hf3 := hide f3; clear f3; have Hf4 := hide f4; clear f4; have Hf5 := hide f5; clear f5; have Hf6 := hide f6; clear f6; have Hf7 := hide f7; clear f7; have Hf8 := hide f8; clear f8; have Hf9 := hide f9; clear f9; have Hfz := hide fz; clear fz; have Hhch := hide hch; clear hch; have Hhfr := hide hfr; clear hfr
          go_simp
          have f0 := Hf0.out; have f1 := Hf1.out; have f2 := Hf2.out; have f3 := Hf3.out; have f4 := Hf4.out; have f5 := Hf5.out; have f6 := Hf6.out; have f7 := Hf7.out; have f8 := Hf8.out; have f9 := Hf9.out; have fz := Hfz.out; have hch := Hhch.out; have hfr := Hhfr.out
          have z0 := Z0.out
          have oth : ∀ (x y z : Value) (q : Nat), q ≠ tb → (((w6.setCell ⟨tb, 0, none⟩ x).setCell ⟨tb, 1, none⟩ y).setCell ⟨tb, 2, none⟩ z).heap[q]? = w6.heap[q]? := fun x y z q hq => by rw [heap_setCell_other _ _ _ _ (show q ≠ tb from hq), heap_setCell_other _ _ _ _ (show q ≠ tb from hq), heap_setCell_other _ _ _ _ (show q ≠ tb from hq)]
          exact hK _ _ ⟨_, _, _, _, _, _, _, _, _, rfl, (((Fr.setCell (M := fun k => k = tb) hfr (p := ⟨tb, 0, none⟩) rfl _).setCell (p := ⟨tb, 1, none⟩) rfl _).setCell (p := ⟨tb, 2, none⟩) rfl _), fun h => by simp [upd] at h, fun _ => by simp [upd, hd], fun h => f0 (by simpa [upd] using h), fun h => by
                obtain ⟨x1, x2, x3, x4⟩ := f1 (by simpa [upd] using h)
                exact ⟨x1, x2, (oth _ _ _ x1 x4).trans x3, x4⟩, fun h => f2 (by simpa [upd] using h), fun h => f3 (by simpa [upd] using h), fun h => by
                obtain ⟨x1, x2, x3, x4, x5, x6⟩ := f4 (by simpa [upd] using h)
                exact ⟨x1, x2, x3, x4, (oth _ _ _ x1 x6).trans x5, x6⟩, fun h => f5 (by simpa [upd] using h), fun h => f6 (by simpa [upd] using h), fun h => by
                obtain ⟨x1, x2, x3, x4⟩ := f7 (by simpa [upd] using h)
                exact ⟨x1, x2, (oth _ _ _ x1 x4).trans x3, x4⟩, fun h => by
                obtain ⟨x0, x1, x2, x3, x4, x5⟩ := f8 (by simpa [upd] using h)
                exact ⟨x0, x1, x2, x3, (oth _ _ _ x1 x5).trans x4, x5⟩, fun _ => ⟨N, nb, by rw [heap_setCell_same _ _ _ _ _ _ (heap_setCell_same _ _ _ _ _ _ (heap_setCell_same _ _ _ _ _ _ z0))]; rfl, hN, (oth _ _ _ nb hnb2).trans hnb1, hnb2⟩⟩
      · intro L a6 w6 hall hI
        obtain ⟨v22, v23, v24, v25, v26, v27, v28, v29, v30, rfl, hfr, fz, hch, f0, f1, f2, f3, f4, f5, f6, f7, f8, f9⟩ := hI
        obtain ⟨N, nb, hT, hN, hnb1, hnb2⟩ := f9 (hall 9 (by decide))
        clear f0 f1 f2 f3 f4 f5 f6 f7 f8 f9 fz hch
        have H1 := hide hT; have H2 := hide hnb1; have HF := hide hfr
        clear hT hnb1 hfr
        go_wp2_with fail
        go_meet
        case rel => exact ⟨rfl, seven_of HX2.out HX3.out hsw HX4.out HMD.out HF.out H1.out hN H2.out⟩
    case rest =>
      clear q0 q1 q2 z0 z1 z2 HX1 HX2 HX3 HX4 hsw hw4
      obtain ⟨rfl, T, N, nb, hT, hsz, hnd, htm, hbl⟩ := hcut
      obtain ⟨q0, q1, q2⟩ := blk3 hT
      have HTB := hide hT; have HND := hide hnd; have HTM := hide htm; have HBL := hide hbl
      have HPE := hide (parse_enc T (dep_more (dep_of 6 _ _ htm) (by omega)) hnd (by omega))
      have HPM := hide (parse_more T m (dep_more (dep_of 6 _ _ htm) (by omega)) hnd (by omega))
      have hlen : (enc T).length = T.size * 10 := enc_length T
      have hpos := T.size_pos
      have HPC := hide (parse_cut T (T.size * 10 - 1) (dep_more (dep_of 6 _ _ htm) (by omega)) hnd (by omega) (by omega))
      have HBY := hide (enc_range T hnd)
      clear hT hnd htm hbl
      go_wp2_with fail
      refine (bytes_any wc.heap.size 6 T _ _ HTM.out (Nat.le_refl _) (by omega) (fun x hx => (HND.out x hx).2.2.2)).mono ?_
      rintro e w4 ⟨r4, rfl, ⟨g4, rfl, hg4, hh4⟩, hb4⟩
      have HH4 := hide hh4; have HB4 := hide hb4
      rw [hlen]
      have HLF := hide (left_of hh4 hlen (by unfold maxLen; omega))
      have HLEN := hide hlen
      clear hh4 hb4 hlen
      generalize hE : enc T = E at *
      have HE := hide hE
      clear hE
      go_wp2_with fail
      refine (parse_any _ E w4 HLF.out HBY.out).mono ?_
      rintro e w5 (⟨er, her, _⟩ | ⟨t', hok, y0, y1, ya, yl, yc, rfl, hty, hb5⟩)
      · exact (par_no HPE.out her).elim
      obtain rfl := (par_ok HPE.out hok).symm
      have HTY := hide hty; have HB5 := hide hb5
      clear hty hb5 hok
      have hs4 := HB4.out.size
      have hs5 := HB5.out.size
      have hg4 : g4 < w4.heap.size := size_of_block HH4.out
      have HOE : Hid (((w5.alloc (.cells #[.int .i64 y0, .int .i64 y1, .slice ya yl yc] 29)).alloc (.cells #[] 5)).ownsRow (w5.heap.size + 1) 5 1 (.slice (some ⟨w5.heap.size + 1, 0, none⟩) 0 0) 0 []) := own_none w5 _
      have HNW : Hid (∀ j u, (bys E)[j]? = some u → ((w5.alloc (.cells #[.int .i64 y0, .int .i64 y1, .slice ya yl yc] 29)).alloc (.cells #[] 5)).cell? ((⟨g4, 0, none⟩ : Addr).add j) = some u) := src_of_block ((Below.heap_alloc _ _ _ (by simp; omega)).trans ((Below.heap_alloc _ _ _ (by omega)).trans ((HB5.out.block g4 hg4).trans HH4.out)))
      obtain ⟨i, hi, hz0, hz1, hz2⟩ := info_parts Try.info5
      have hel : (bys E).length = T.size * 10 * 1 := by rw [bys_length, HLEN.out]; omega
      have HEL := hide hel
      clear hel
      go_wp2_with (at_builtin; first
        | (refine wpList_append_own _ rfl (.tmp 39) (.tmp 40) 32 rfl (w5.heap.size + 1) 5 i (.int .u8 0) 1 1 Try.underlying32 hi hz0 hz1 hz2 rfl (by decide) _ 0 [] rfl HOE.out ⟨g4, 0, none⟩ (T.size * 10) (T.size * 10) (bys E) rfl HEL.out HNW.out (fun x hx => by obtain ⟨y, _, rfl⟩ := List.mem_map.1 hx; rfl) (by unfold maxLen; omega) (by omega) (by simp) ?_
           intro r6 w6 hown6 hgrow6 _
           have hs6 : w5.heap.size + 2 ≤ w6.heap.size := by have := hgrow6.size; simpa using this
           have HB6 : Hid (Below (w5.heap.size + 1) (w5.alloc (.cells #[.int .i64 y0, .int .i64 y1, .slice ya yl yc] 29)) w6) := ((Below.refl _ _).alloc (by simp) _).grown hgrow6 (by simp) (fun q hq => by have := HOE.out.lt q hq; omega)
           have HO6 : Hid (w6.ownsRow (w5.heap.size + 1) 5 1 r6 (T.size * 10) (bys E)) := by rw [Nat.zero_add] at hown6; exact hown6
           clear hown6 hgrow6)
        | (refine wpList_append_own _ rfl (.tmp 41) (.tmp 43) 32 rfl (w5.heap.size + 1) 5 i (.int .u8 0) 1 1 Try.underlying32 hi hz0 hz1 hz2 rfl (by decide) _ (T.size * 10) (bys E) rfl (HO6.out.alloc _) _ 1 1 _ rfl rfl (cell_one_new _ _ _) (fun x hx => by simp at hx; subst hx; rfl) (by unfold maxLen; omega) (by omega) (by rw [World.size_alloc]; omega) ?_
           intro r7 w7 hown7 hgrow7 _
           have hs7 : w6.heap.size + 1 ≤ w7.heap.size := by have := hgrow7.size; simpa using this
           have HB7 : Hid (Below (w5.heap.size + 1) (w5.alloc (.cells #[.int .i64 y0, .int .i64 y1, .slice ya yl yc] 29)) w7) := (HB6.out.alloc (by omega) _).grown hgrow7 (by rw [World.size_alloc]; omega) (fun q hq => by have := HO6.out.lt q hq; omega)
           have HO7 := hide hown7
           clear hown7 hgrow7))
      have HLF7 : Hid (LeftAt w7 (fun k => k < w7.heap.size) r7 (E ++ [m])) := left_own HO7.out (by simp [HLEN.out]) (by simp [bys])
      refine (parse_any _ (E ++ [m]) w7 HLF7.out (fun x hx => by rcases List.mem_append.1 hx with h | h; exact HBY.out x h; rw [List.mem_singleton.1 h]; exact hm)).mono ?_
      rintro e w8 (⟨er, her, _, _, rfl, hb8⟩ | ⟨t', hok, _⟩)
      rotate_left
      · exact (par_ne HPM.out hok).elim
      obtain rfl := par_er HPM.out her
      have HB8 : Hid (Below (w5.heap.size + 1) (w5.alloc (.cells #[.int .i64 y0, .int .i64 y1, .slice ya yl yc] 29)) w8) := HB7.out.trans (hb8.mono (by omega))
      have hs8 := hb8.size
      clear her hb8 HO6 HB6 HO7 HB7 HLF7 HOE HNW
      have hnz : ((T.size * 10 : Nat) : Int) ≠ 0 := by omega
      go_wp2_with fail
      have h8g : ∀ o, (w8.alloc o).heap[g4]? = some (.cells (bys E).toArray 5 (0, 0)) := fun o => (Below.heap_alloc _ _ _ (by omega)).trans ((HB8.out.block g4 (by omega)).trans ((Below.heap_alloc _ _ _ (by omega)).trans ((HB5.out.block g4 hg4).trans HH4.out)))
      refine (parse_any _ (E.take (T.size * 10 - 1)) _ (left_cut (h8g _) HLEN.out (by unfold maxLen; omega)) (fun x hx => HBY.out x (List.mem_of_mem_take hx))).mono ?_
      clear h8g
      rintro e w9 (⟨er, her, _, _, rfl, hb9⟩ | ⟨t', hok, _⟩)
      rotate_left
      · exact (par_ne HPC.out hok).elim
      obtain rfl := par_er HPC.out her
      rw [World.size_alloc] at hb9
      have HB9 : Hid (Below (w5.heap.size + 1) (w5.alloc (.cells #[.int .i64 y0, .int .i64 y1, .slice ya yl yc] 29)) w9) := (HB8.out.alloc (by omega) _).trans (hb9.mono (by omega))
      have hs9 := hb9.size
      clear her hb9 HB8
      go_upto_region 13 with fail
      have HZZ : Hid (Below (w5.heap.size + 1) (w5.alloc (.cells #[.int .i64 y0, .int .i64 y1, .slice ya yl yc] 29)) (w9.alloc (.cells #[.int .i64 0, .int .i64 0, .slice none 0 0] 29))) := HB9.out.alloc (by rw [World.size_alloc] at hs9; omega) _
      clear HB9
      generalize (w9.alloc (.cells #[.int .i64 0, .int .i64 0, .slice none 0 0] 29)) = wz at *
      have hsz9 := HZZ.out.size
      rw [World.size_alloc] at hsz9
      have HB5z : Hid (Below w5.heap.size w5 wz) := ((Below.refl _ _).alloc (Nat.le_refl _) _).trans (HZZ.out.mono (by omega))
      have HB4z : Hid (Below w4.heap.size w4 wz) := HB5.out.trans (HB5z.out.mono hs5)
      have HBcz : Hid (Below wc.heap.size wc wz) := HB4.out.trans (HB4z.out.mono hs4)
      have HY3 : Hid (wz.heap[w5.heap.size]? = some (.cells #[.int .i64 y0, .int .i64 y1, .slice ya yl yc] 29 (0, 0))) := (HZZ.out.block _ (by omega)).trans (heap_alloc_new w5 _)
      have HS3 : Hid (wz.heap[tb]? = some (.cells #[.int .i64 7, .int .i64 N, .slice (some ⟨nb, 0, none⟩) 1 1] 29 (0, 0))) := (HBcz.out.block _ (size_of_block HTB.out)).trans HTB.out
      have HH9 : Hid (wz.heap[g4]? = some (.cells (bys E).toArray 5 (0, 0))) := (HB4z.out.block _ hg4).trans HH4.out
      have HTY2 : Hid (TmAt wz wz.heap.size 120 T (.agg #[.int .i64 y0, .int .i64 y1, .slice ya yl yc])) := TmD.keep (fun q hq => HB5z.out.block q hq.2) (fun q hq => by have := hq.2; omega) _ _ _ HTY.out
      have HTS : Hid (TmAt wz wz.heap.size 120 T (.agg #[.int .i64 7, .int .i64 N, .slice (some ⟨nb, 0, none⟩) 1 1])) := TmAt.more (TmAt.below HTM.out HBcz.out (Nat.le_refl _) HBcz.out.size) (by omega)
      have HBLZ : Hid (Below w.heap.size w wz) := HBL.out.trans (HBcz.out.mono HBL.out.size)
      clear HTY HTM HB4 HB5 HB5z HB4z HBcz HZZ HPE HPM HPC HLF q0 q1 q2 HTB HH4 HBL hnz hs4 hs5 hs6 hs7 hs8 hs9 hsz9 hi hz0 hz1 hz2 HEL HBY
      have HTY := HTY2
      clear HTY2
      -- R13
      refine wp_region_inv (by kernel_rfl) (by kernel_rfl) (fun L a6 w' => ∃ v6 v60 v61 v62 v63 v64 v65 v66 v67 v68 v69 v70 v71 v72 v73 v74 v75 v76 v77 v78 v79 v80 v81 v82 : Value, a6 = { tmps := #[Value.agg #[Value.int IntKind.i64 t.op, Value.int IntKind.i64 t.n, Value.slice a t.kids.length cap], Value.int IntKind.i64 n, Value.int IntKind.u8 m, Value.pointer (some { block := w.heap.size, off := 0 }), undef, undef, v6, Value.pointer (some { block := tb, off := 0 }), Value.slice (some { block := g4, off := 0 }) (T.size * 10) (T.size * 10), Value.pointer (some { block := w5.heap.size, off := 0 }), Value.int IntKind.i64 0, Value.pointer (some { block := w8.heap.size, off := 0 }), Value.int IntKind.i64 3, Value.pointer (some { block := w9.heap.size, off := 0 }), Value.int IntKind.i64 2, u15, u16, u17, u18, u19, u20, u21, u22, u23, u24, u25, u26, u27, u28, u29, u30, Value.agg #[Value.int IntKind.i64 7, Value.int IntKind.i64 N, Value.slice (some { block := nb, off := 0 }) 1 1], Value.slice (some { block := g4, off := 0 }) (T.size * 10) (T.size * 10), Value.tuple #[Value.agg #[Value.int IntKind.i64 y0, Value.int IntKind.i64 y1, Value.slice ya yl yc], Value.int IntKind.i64 0], Value.slice (some { block := g4, off := 0 }) (T.size * 10) (T.size * 10), Value.tuple #[Value.agg #[Value.int IntKind.i64 y0, Value.int IntKind.i64 y1, Value.slice ya yl yc], Value.int IntKind.i64 0], Value.agg #[Value.int IntKind.i64 y0, Value.int IntKind.i64 y1, Value.slice ya yl yc], Value.int IntKind.i64 0, Value.tuple #[Value.agg #[Value.int IntKind.i64 0, Value.int IntKind.i64 0, Value.slice none 0 0], Value.int IntKind.i64 3], Value.slice (some { block := w5.heap.size + 1, off := 0 }) 0 0, Value.slice (some { block := g4, off := 0 }) (T.size * 10) (T.size * 10), r6, Value.int IntKind.u8 m, Value.slice (some { block := w6.heap.size, off := 0 }) 1 1, r7, Value.tuple #[Value.agg #[Value.int IntKind.i64 0, Value.int IntKind.i64 0, Value.slice none 0 0], Value.int IntKind.i64 3], Value.agg #[Value.int IntKind.i64 0, Value.int IntKind.i64 0, Value.slice none 0 0], Value.int IntKind.i64 3, Value.slice (some { block := g4, off := 0 }) (T.size * 10) (T.size * 10), Value.int IntKind.i64 (((T.size : Nat) : Int) * 10), Value.bool false, Value.tuple #[Value.agg #[Value.int IntKind.i64 0, Value.int IntKind.i64 0, Value.slice none 0 0], Value.int IntKind.i64 2], Value.slice (some { block := g4, off := 0 }) (T.size * 10) (T.size * 10), Value.slice (some { block := g4, off := 0 }) (T.size * 10) (T.size * 10), Value.int IntKind.i64 (((T.size : Nat) : Int) * 10), Value.int IntKind.i64 (((T.size : Nat) : Int) * 10 - 1), Value.slice (some { block := g4, off := 0 }) (T.size * 10 - 1) (T.size * 10), Value.tuple #[Value.agg #[Value.int IntKind.i64 0, Value.int IntKind.i64 0, Value.slice none 0 0], Value.int IntKind.i64 2], Value.agg #[Value.int IntKind.i64 0, Value.int IntKind.i64 0, Value.slice none 0 0], Value.int IntKind.i64 2, v60, v61, v62, v63, v64, v65, v66, v67, v68, v69, v70, v71, v72, v73, v74, v75, v76, v77, v78, v79, v80, v81, v82], defers := [] } ∧ Below wz.heap.size wz w' ∧ (L 0 = true → v60 = .int .i64 0) ∧ (L 1 = true → v61 = Value.bool true) ∧ (L 2 = true → v62 = Value.bool true) ∧ (L 3 = true → v63 = Value.agg #[.int .i64 y0, .int .i64 y1, .slice ya yl yc]) ∧ (L 4 = true → v64 = Value.agg #[.int .i64 7, .int .i64 N, .slice (some ⟨nb, 0, none⟩) 1 1]) ∧ (L 5 = true → v65 = Value.bool true) ∧ (L 6 = true → v66 = Value.bool true) ∧ (L 7 = true → v67 = Value.bool true) ∧ (L 8 = true → v68 = .int .i64 3) ∧ (L 9 = true → v69 = Value.bool true) ∧ (L 10 = true → v70 = Value.bool true) ∧ (L 11 = true → v71 = Value.bool true) ∧ (L 12 = true → v72 = .int .i64 2) ∧ (L 13 = true → v73 = Value.bool true) ∧ (L 14 = true → v74 = Value.bool true) ∧ (L 15 = true → v75 = Value.bool true) ∧ (L 16 = true → v76 = Value.slice (some ⟨g4, 0, none⟩) (T.size * 10) (T.size * 10)) ∧ (L 17 = true → v77 = .string (strOfNums E)) ∧ (L 18 = true → v78 = Value.agg #[.int .i64 7, .int .i64 N, .slice (some ⟨nb, 0, none⟩) 1 1]) ∧ (L 19 = true → ∃ g9 c9 blk, v79 = .slice (some ⟨g9, 0, none⟩) (T.size * 10) c9 ∧ w'.heap[g9]? = some blk ∧ Bl blk g9 E) ∧ (L 20 = true → v80 = .string (strOfNums E)) ∧ (L 21 = true → v81 = Value.bool true) ∧ (L 22 = true → v82 = Value.bool true) ∧ (L 23 = true → v6 = Value.bool true)) ?_ ?_ ?_
      · refine ⟨_, _, _, _, _, _, _, _, _, _, _, _, _, _, _, _, _, _, _, _, _, _, _, _, rfl, (Below.refl _ _).drew, ?_, ?_, ?_, ?_, ?_, ?_, ?_, ?_, ?_, ?_, ?_, ?_, ?_, ?_, ?_, ?_, ?_, ?_, ?_, ?_, ?_, ?_, ?_, ?_⟩ <;> (intro h; cases h)
      · refine ⟨?_, ?_, ?_, ?_, ?_, ?_, ?_, ?_, ?_, ?_, ?_, ?_, ?_, ?_, ?_, ?_, ?_, ?_, ?_, ?_, ?_, ?_, ?_, ?_, trivial⟩
        · intro L a6 w6 K hl hd hI hK
          obtain ⟨v6, v60, v61, v62, v63, v64, v65, v66, v67, v68, v69, v70, v71, v72, v73, v74, v75, v76, v77, v78, v79, v80, v81, v82, rfl, hb, f0, f1, f2, f3, f4, f5, f6, f7, f8, f9, f10, f11, f12, f13, f14, f15, f16, f17, f18, f19, f20, f21, f22, f23⟩ := hI
          simp [Region.binds] at hd
          have Hf0 := hide f0; clear f0; have Hf1 := hide f1; clear f1; have Hf2 := hide f2; clear f2; have Hf3 := hide f3; clear f3; have Hf4 := hide f4; clear f4; have Hf5 := hide f5; clear f5; have Hf6 := hide f6; clear f6; have Hf7 := hide f7; clear f7; have Hf8 := hide f8; clear f8; have Hf9 := hide f9; clear f9; have Hf10 := hide f10; clear f10; have Hf11 := hide f11; clear f11; have Hf12 := hide f12; clear f12; have Hf13 := hide f13; clear f13; have Hf14 := hide f14; clear f14; have Hf15 := hide f15; clear f15; have Hf16 := hide f16; clear f16; have Hf17 := hide f17; clear f17; have Hf18 := hide f18; clear f18; have Hf19 := hide f19; clear f19; have Hf20 := hide f20; clear f20; have Hf21 := hide f21; clear f21; have Hf22 := hide f22; clear f22; have Hf23 := hide f23; clear f23; have Hhb := hide hb; clear hb
          go_simp
          have f0 := Hf0.out; have f1 := Hf1.out; have f2 := Hf2.out; have f3 := Hf3.out; have f4 := Hf4.out; have f5 := Hf5.out; have f6 := Hf6.out; have f7 := Hf7.out; have f8 := Hf8.out; have f9 := Hf9.out; have f10 := Hf10.out; have f11 := Hf11.out; have f12 := Hf12.out; have f13 := Hf13.out; have f14 := Hf14.out; have f15 := Hf15.out; have f16 := Hf16.out; have f17 := Hf17.out; have f18 := Hf18.out; have f19 := Hf19.out; have f20 := Hf20.out; have f21 := Hf21.out; have f22 := Hf22.out; have f23 := Hf23.out; have hb := Hhb.out
          exact hK _ _ ⟨_, _, _, _, _, _, _, _, _, _, _, _, _, _, _, _, _, _, _, _, _, _, _, _, rfl, hb, fun _ => rfl, fun h => f1 (upd_ne (by decide) h), fun h => f2 (upd_ne (by decide) h), fun h => f3 (upd_ne (by decide) h), fun h => f4 (upd_ne (by decide) h), fun h => f5 (upd_ne (by decide) h), fun h => f6 (upd_ne (by decide) h), fun h => f7 (upd_ne (by decide) h), fun h => f8 (upd_ne (by decide) h), fun h => f9 (upd_ne (by decide) h), fun h => f10 (upd_ne (by decide) h), fun h => f11 (upd_ne (by decide) h), fun h => f12 (upd_ne (by decide) h), fun h => f13 (upd_ne (by decide) h), fun h => f14 (upd_ne (by decide) h), fun h => f15 (upd_ne (by decide) h), fun h => f16 (upd_ne (by decide) h), fun h => f17 (upd_ne (by decide) h), fun h => f18 (upd_ne (by decide) h), fun h => f19 (upd_ne (by decide) h), fun h => f20 (upd_ne (by decide) h), fun h => f21 (upd_ne (by decide) h), fun h => f22 (upd_ne (by decide) h), fun h => f23 (upd_ne (by decide) h)⟩
        · intro L a6 w6 K hl hd hI hK
          obtain ⟨v6, v60, v61, v62, v63, v64, v65, v66, v67, v68, v69, v70, v71, v72, v73, v74, v75, v76, v77, v78, v79, v80, v81, v82, rfl, hb, f0, f1, f2, f3, f4, f5, f6, f7, f8, f9, f10, f11, f12, f13, f14, f15, f16, f17, f18, f19, f20, f21, f22, f23⟩ := hI
          simp [Region.binds] at hd
          obtain rfl := f0 (by simp [hd])
          have Hf0 := hide f0; clear f0; have Hf1 := hide f1; clear f1; have Hf2 := hide f2; clear f2; have Hf3 := hide f3; clear f3; have Hf4 := hide f4; clear f4; have Hf5 := hide f5; clear f5; have Hf6 := hide f6; clear f6; have Hf7 := hide f7; clear f7; have Hf8 := hide f8; clear f8; have Hf9 := hide f9; clear f9; have Hf10 := hide f10; clear f10; have Hf11 := hide f11; clear f11; have Hf12 := hide f12; clear f12; have Hf13 := hide f13; clear f13; have Hf14 := hide f14; clear f14; have Hf15 := hide f15; clear f15; have Hf16 := hide f16; clear f16; have Hf17 := hide f17; clear f17; have Hf18 := hide f18; clear f18; have Hf19 := hide f19; clear f19; have Hf20 := hide f20; clear f20; have Hf21 := hide f21; clear f21; have Hf22 := hide f22; clear f22; have Hf23 := hide f23; clear f23; have Hhb := hide hb; clear hb
          go_simp
          have f0 := Hf0.out; have f1 := Hf1.out; have f2 := Hf2.out; have f3 := Hf3.out; have f4 := Hf4.out; have f5 := Hf5.out; have f6 := Hf6.out; have f7 := Hf7.out; have f8 := Hf8.out; have f9 := Hf9.out; have f10 := Hf10.out; have f11 := Hf11.out; have f12 := Hf12.out; have f13 := Hf13.out; have f14 := Hf14.out; have f15 := Hf15.out; have f16 := Hf16.out; have f17 := Hf17.out; have f18 := Hf18.out; have f19 := Hf19.out; have f20 := Hf20.out; have f21 := Hf21.out; have f22 := Hf22.out; have f23 := Hf23.out; have hb := Hhb.out
          exact hK _ _ ⟨_, _, _, _, _, _, _, _, _, _, _, _, _, _, _, _, _, _, _, _, _, _, _, _, rfl, hb, fun h => f0 (upd_ne (by decide) h), fun _ => rfl, fun h => f2 (upd_ne (by decide) h), fun h => f3 (upd_ne (by decide) h), fun h => f4 (upd_ne (by decide) h), fun h => f5 (upd_ne (by decide) h), fun h => f6 (upd_ne (by decide) h), fun h => f7 (upd_ne (by decide) h), fun h => f8 (upd_ne (by decide) h), fun h => f9 (upd_ne (by decide) h), fun h => f10 (upd_ne (by decide) h), fun h => f11 (upd_ne (by decide) h), fun h => f12 (upd_ne (by decide) h), fun h => f13 (upd_ne (by decide) h), fun h => f14 (upd_ne (by decide) h), fun h => f15 (upd_ne (by decide) h), fun h => f16 (upd_ne (by decide) h), fun h => f17 (upd_ne (by decide) h), fun h => f18 (upd_ne (by decide) h), fun h => f19 (upd_ne (by decide) h), fun h => f20 (upd_ne (by decide) h), fun h => f21 (upd_ne (by decide) h), fun h => f22 (upd_ne (by decide) h), fun h => f23 (upd_ne (by decide) h)⟩
        · intro L a6 w6 K hl hd hI hK
          obtain ⟨v6, v60, v61, v62, v63, v64, v65, v66, v67, v68, v69, v70, v71, v72, v73, v74, v75, v76, v77, v78, v79, v80, v81, v82, rfl, hb, f0, f1, f2, f3, f4, f5, f6, f7, f8, f9, f10, f11, f12, f13, f14, f15, f16, f17, f18, f19, f20, f21, f22, f23⟩ := hI
          simp [Region.binds] at hd
          obtain rfl := f1 (by simp [hd])
          have Hf0 := hide f0; clear f0; have Hf1 := hide f1; clear f1; have Hf2 := hide f2; clear f2; have Hf3 := hide f3; clear f3; have Hf4 := hide f4; clear f4; have Hf5 := hide f5; clear f5; have Hf6 := hide f6; clear f6; have Hf7 := hide f7; clear f7; have Hf8 := hide f8; clear f8; have Hf9 := hide f9; clear f9; have Hf10 := hide f10; clear f10; have Hf11 := hide f11; clear f11; have Hf12 := hide f12; clear f12; have Hf13 := hide f13; clear f13; have Hf14 := hide f14; clear f14; have Hf15 := hide f15; clear f15; have Hf16 := hide f16; clear f16; have Hf17 := hide f17; clear f17; have Hf18 := hide f18; clear f18; have Hf19 := hide f19; clear f19; have Hf20 := hide f20; clear f20; have Hf21 := hide f21; clear f21; have Hf22 := hide f22; clear f22; have Hf23 := hide f23; clear f23; have Hhb := hide hb; clear hb
          go_simp
          have f0 := Hf0.out; have f1 := Hf1.out; have f2 := Hf2.out; have f3 := Hf3.out; have f4 := Hf4.out; have f5 := Hf5.out; have f6 := Hf6.out; have f7 := Hf7.out; have f8 := Hf8.out; have f9 := Hf9.out; have f10 := Hf10.out; have f11 := Hf11.out; have f12 := Hf12.out; have f13 := Hf13.out; have f14 := Hf14.out; have f15 := Hf15.out; have f16 := Hf16.out; have f17 := Hf17.out; have f18 := Hf18.out; have f19 := Hf19.out; have f20 := Hf20.out; have f21 := Hf21.out; have f22 := Hf22.out; have f23 := Hf23.out; have hb := Hhb.out
          exact hK _ _ ⟨_, _, _, _, _, _, _, _, _, _, _, _, _, _, _, _, _, _, _, _, _, _, _, _, rfl, hb, fun h => f0 (upd_ne (by decide) h), fun h => f1 (upd_ne (by decide) h), fun _ => rfl, fun h => f3 (upd_ne (by decide) h), fun h => f4 (upd_ne (by decide) h), fun h => f5 (upd_ne (by decide) h), fun h => f6 (upd_ne (by decide) h), fun h => f7 (upd_ne (by decide) h), fun h => f8 (upd_ne (by decide) h), fun h => f9 (upd_ne (by decide) h), fun h => f10 (upd_ne (by decide) h), fun h => f11 (upd_ne (by decide) h), fun h => f12 (upd_ne (by decide) h), fun h => f13 (upd_ne (by decide) h), fun h => f14 (upd_ne (by decide) h), fun h => f15 (upd_ne (by decide) h), fun h => f16 (upd_ne (by decide) h), fun h => f17 (upd_ne (by decide) h), fun h => f18 (upd_ne (by decide) h), fun h => f19 (upd_ne (by decide) h), fun h => f20 (upd_ne (by decide) h), fun h => f21 (upd_ne (by decide) h), fun h => f22 (upd_ne (by decide) h), fun h => f23 (upd_ne (by decide) h)⟩
        · intro L a6 w6 K hl hd hI hK
          obtain ⟨v6, v60, v61, v62, v63, v64, v65, v66, v67, v68, v69, v70, v71, v72, v73, v74, v75, v76, v77, v78, v79, v80, v81, v82, rfl, hb, f0, f1, f2, f3, f4, f5, f6, f7, f8, f9, f10, f11, f12, f13, f14, f15, f16, f17, f18, f19, f20, f21, f22, f23⟩ := hI
          simp [Region.binds] at hd
          obtain rfl := f2 (by simp [hd])
          obtain ⟨c0, c1, c2⟩ := cells3 hb HY3.out (size_of_block HY3.out)
          have Hf0 := hide f0; clear f0; have Hf1 := hide f1; clear f1; have Hf2 := hide f2; clear f2; have Hf3 := hide f3; clear f3; have Hf4 := hide f4; clear f4; have Hf5 := hide f5; clear f5; have Hf6 := hide f6; clear f6; have Hf7 := hide f7; clear f7; have Hf8 := hide f8; clear f8; have Hf9 := hide f9; clear f9; have Hf10 := hide f10; clear f10; have Hf11 := hide f11; clear f11; have Hf12 := hide f12; clear f12; have Hf13 := hide f13; clear f13; have Hf14 := hide f14; clear f14; have Hf15 := hide f15; clear f15; have Hf16 := hide f16; clear f16; have Hf17 := hide f17; clear f17; have Hf18 := hide f18; clear f18; have Hf19 := hide f19; clear f19; have Hf20 := hide f20; clear f20; have Hf21 := hide f21; clear f21; have Hf22 := hide f22; clear f22; have Hf23 := hide f23; clear f23; have Hhb := hide hb; clear hb
          go_simp
          have f0 := Hf0.out; have f1 := Hf1.out; have f2 := Hf2.out; have f3 := Hf3.out; have f4 := Hf4.out; have f5 := Hf5.out; have f6 := Hf6.out; have f7 := Hf7.out; have f8 := Hf8.out; have f9 := Hf9.out; have f10 := Hf10.out; have f11 := Hf11.out; have f12 := Hf12.out; have f13 := Hf13.out; have f14 := Hf14.out; have f15 := Hf15.out; have f16 := Hf16.out; have f17 := Hf17.out; have f18 := Hf18.out; have f19 := Hf19.out; have f20 := Hf20.out; have f21 := Hf21.out; have f22 := Hf22.out; have f23 := Hf23.out; have hb := Hhb.out
          exact hK _ _ ⟨_, _, _, _, _, _, _, _, _, _, _, _, _, _, _, _, _, _, _, _, _, _, _, _, rfl, hb, fun h => f0 (upd_ne (by decide) h), fun h => f1 (upd_ne (by decide) h), fun h => f2 (upd_ne (by decide) h), fun _ => rfl, fun h => f4 (upd_ne (by decide) h), fun h => f5 (upd_ne (by decide) h), fun h => f6 (upd_ne (by decide) h), fun h => f7 (upd_ne (by decide) h), fun h => f8 (upd_ne (by decide) h), fun h => f9 (upd_ne (by decide) h), fun h => f10 (upd_ne (by decide) h), fun h => f11 (upd_ne (by decide) h), fun h => f12 (upd_ne (by decide) h), fun h => f13 (upd_ne (by decide) h), fun h => f14 (upd_ne (by decide) h), fun h => f15 (upd_ne (by decide) h), fun h => f16 (upd_ne (by decide) h), fun h => f17 (upd_ne (by decide) h), fun h => f18 (upd_ne (by decide) h), fun h => f19 (upd_ne (by decide) h), fun h => f20 (upd_ne (by decide) h), fun h => f21 (upd_ne (by decide) h), fun h => f22 (upd_ne (by decide) h), fun h => f23 (upd_ne (by decide) h)⟩
        · intro L a6 w6 K hl hd hI hK
          obtain ⟨v6, v60, v61, v62, v63, v64, v65, v66, v67, v68, v69, v70, v71, v72, v73, v74, v75, v76, v77, v78, v79, v80, v81, v82, rfl, hb, f0, f1, f2, f3, f4, f5, f6, f7, f8, f9, f10, f11, f12, f13, f14, f15, f16, f17, f18, f19, f20, f21, f22, f23⟩ := hI
          simp [Region.binds] at hd
          obtain rfl := f2 (by simp [hd])
          obtain ⟨c0, c1, c2⟩ := cells3 hb HS3.out (size_of_block HS3.out)
          have Hf0 := hide f0; clear f0; have Hf1 := hide f1; clear f1; have Hf2 := hide f2; clear f2; have Hf3 := hide f3; clear f3; have Hf4 := hide f4; clear f4; have Hf5 := hide f5; clear f5; have Hf6 := hide f6; clear f6; have Hf7 := hide f7; clear f7; have Hf8 := hide f8; clear f8; have Hf9 := hide f9; clear f9; have Hf10 := hide f10; clear f10; have Hf11 := hide f11; clear f11; have Hf12 := hide f12; clear f12; have Hf13 := hide f13; clear f13; have Hf14 := hide f14; clear f14; have Hf15 := hide f15; clear f15; have Hf16 := hide f16; clear f16; have Hf17 := hide f17; clear f17; have Hf18 := hide f18; clear f18; have Hf19 := hide f19; clear f19; have Hf20 := hide f20; clear f20; have Hf21 := hide f21; clear f21; have Hf22 := hide f22; clear f22; have Hf23 := hide f23; clear f23; have Hhb := hide hb; clear hb
          go_simp
          have f0 := Hf0.out; have f1 := Hf1.out; have f2 := Hf2.out; have f3 := Hf3.out; have f4 := Hf4.out; have f5 := Hf5.out; have f6 := Hf6.out; have f7 := Hf7.out; have f8 := Hf8.out; have f9 := Hf9.out; have f10 := Hf10.out; have f11 := Hf11.out; have f12 := Hf12.out; have f13 := Hf13.out; have f14 := Hf14.out; have f15 := Hf15.out; have f16 := Hf16.out; have f17 := Hf17.out; have f18 := Hf18.out; have f19 := Hf19.out; have f20 := Hf20.out; have f21 := Hf21.out; have f22 := Hf22.out; have f23 := Hf23.out; have hb := Hhb.out
          exact hK _ _ ⟨_, _, _, _, _, _, _, _, _, _, _, _, _, _, _, _, _, _, _, _, _, _, _, _, rfl, hb, fun h => f0 (upd_ne (by decide) h), fun h => f1 (upd_ne (by decide) h), fun h => f2 (upd_ne (by decide) h), fun h => f3 (upd_ne (by decide) h), fun _ => rfl, fun h => f5 (upd_ne (by decide) h), fun h => f6 (upd_ne (by decide) h), fun h => f7 (upd_ne (by decide) h), fun h => f8 (upd_ne (by decide) h), fun h => f9 (upd_ne (by decide) h), fun h => f10 (upd_ne (by decide) h), fun h => f11 (upd_ne (by decide) h), fun h => f12 (upd_ne (by decide) h), fun h => f13 (upd_ne (by decide) h), fun h => f14 (upd_ne (by decide) h), fun h => f15 (upd_ne (by decide) h), fun h => f16 (upd_ne (by decide) h), fun h => f17 (upd_ne (by decide) h), fun h => f18 (upd_ne (by decide) h), fun h => f19 (upd_ne (by decide) h), fun h => f20 (upd_ne (by decide) h), fun h => f21 (upd_ne (by decide) h), fun h => f22 (upd_ne (by decide) h), fun h => f23 (upd_ne (by decide) h)⟩
        · intro L a6 w6 K hl hd hI hK
          obtain ⟨v6, v60, v61, v62, v63, v64, v65, v66, v67, v68, v69, v70, v71, v72, v73, v74, v75, v76, v77, v78, v79, v80, v81, v82, rfl, hb, f0, f1, f2, f3, f4, f5, f6, f7, f8, f9, f10, f11, f12, f13, f14, f15, f16, f17, f18, f19, f20, f21, f22, f23⟩ := hI
          simp [Region.binds] at hd
          obtain rfl := f2 (by simp [hd])
          obtain rfl := f3 (by simp [hd])
          obtain rfl := f4 (by simp [hd])
          have hsz6 := hb.size
          have Hf0 := hide f0; clear f0; have Hf1 := hide f1; clear f1; have Hf2 := hide f2; clear f2; have Hf3 := hide f3; clear f3; have Hf4 := hide f4; clear f4; have Hf5 := hide f5; clear f5; have Hf6 := hide f6; clear f6; have Hf7 := hide f7; clear f7; have Hf8 := hide f8; clear f8; have Hf9 := hide f9; clear f9; have Hf10 := hide f10; clear f10; have Hf11 := hide f11; clear f11; have Hf12 := hide f12; clear f12; have Hf13 := hide f13; clear f13; have Hf14 := hide f14; clear f14; have Hf15 := hide f15; clear f15; have Hf16 := hide f16; clear f16; have Hf17 := hide f17; clear f17; have Hf18 := hide f18; clear f18; have Hf19 := hide f19; clear f19; have Hf20 := hide f20; clear f20; have Hf21 := hide f21; clear f21; have Hf22 := hide f22; clear f22; have Hf23 := hide f23; clear f23; have Hhb := hide hb; clear hb
          go_simp
          refine (same_any wz.heap.size 120 T T _ _ _ (TmAt.below HTY.out Hhb.out (Nat.le_refl _) (Nat.le_refl _)) (TmAt.below HTS.out Hhb.out (Nat.le_refl _) (Nat.le_refl _)) hsz6).mono ?_
          rintro e w7 ⟨r9, rfl, hr9, hb7⟩
          obtain rfl := hr9.2 rfl
          have f0 := Hf0.out; have f1 := Hf1.out; have f2 := Hf2.out; have f3 := Hf3.out; have f4 := Hf4.out; have f5 := Hf5.out; have f6 := Hf6.out; have f7 := Hf7.out; have f8 := Hf8.out; have f9 := Hf9.out; have f10 := Hf10.out; have f11 := Hf11.out; have f12 := Hf12.out; have f13 := Hf13.out; have f14 := Hf14.out; have f15 := Hf15.out; have f16 := Hf16.out; have f17 := Hf17.out; have f18 := Hf18.out; have f19 := Hf19.out; have f20 := Hf20.out; have f21 := Hf21.out; have f22 := Hf22.out; have f23 := Hf23.out; have hb := Hhb.out
          have hk7 : ∀ (q : Nat), q < w6.heap.size → w7.heap[q]? = w6.heap[q]? := fun q hq => hb7.block q hq
          exact hK _ _ ⟨_, _, _, _, _, _, _, _, _, _, _, _, _, _, _, _, _, _, _, _, _, _, _, _, rfl, (hb.trans (hb7.mono hsz6)), fun h => f0 (upd_ne (by decide) h), fun h => f1 (upd_ne (by decide) h), fun h => f2 (upd_ne (by decide) h), fun h => f3 (upd_ne (by decide) h), fun h => f4 (upd_ne (by decide) h), fun _ => rfl, fun h => f6 (upd_ne (by decide) h), fun h => f7 (upd_ne (by decide) h), fun h => f8 (upd_ne (by decide) h), fun h => f9 (upd_ne (by decide) h), fun h => f10 (upd_ne (by decide) h), fun h => f11 (upd_ne (by decide) h), fun h => f12 (upd_ne (by decide) h), fun h => f13 (upd_ne (by decide) h), fun h => f14 (upd_ne (by decide) h), fun h => f15 (upd_ne (by decide) h), fun h => f16 (upd_ne (by decide) h), fun h => f17 (upd_ne (by decide) h), fun h => f18 (upd_ne (by decide) h), fun h => by
                have h := f19 (upd_ne (by decide) h)
                obtain ⟨x1, x2, x3, x4, x5, x6⟩ := h; exact ⟨x1, x2, x3, x4, (hk7 x1 (size_of_block x5)).trans x5, x6⟩, fun h => f20 (upd_ne (by decide) h), fun h => f21 (upd_ne (by decide) h), fun h => f22 (upd_ne (by decide) h), fun h => f23 (upd_ne (by decide) h)⟩
        · intro L a6 w6 K hl hd hI hK
          obtain ⟨v6, v60, v61, v62, v63, v64, v65, v66, v67, v68, v69, v70, v71, v72, v73, v74, v75, v76, v77, v78, v79, v80, v81, v82, rfl, hb, f0, f1, f2, f3, f4, f5, f6, f7, f8, f9, f10, f11, f12, f13, f14, f15, f16, f17, f18, f19, f20, f21, f22, f23⟩ := hI
          simp [Region.binds] at hd
          obtain rfl := f2 (by simp [hd])
          obtain rfl := f5 (by simp [hd])
          have Hf0 := hide f0; clear f0; have Hf1 := hide f1; clear f1; have Hf2 := hide f2; clear f2; have Hf3 := hide f3; clear f3; have Hf4 := hide f4; clear f4; have Hf5 := hide f5; clear f5; have Hf6 := hide f6; clear f6; have Hf7 := hide f7; clear f7; have Hf8 := hide f8; clear f8; have Hf9 := hide f9; clear f9; have Hf10 := hide f10; clear f10; have Hf11 := hide f11; clear f11; have Hf12 := hide f12; clear f12; have Hf13 := hide f13; clear f13; have Hf14 := hide f14; clear f14; have Hf15 := hide f15; clear f15; have Hf16 := hide f16; clear f16; have Hf17 := hide f17; clear f17; have Hf18 := hide f18; clear f18; have Hf19 := hide f19; clear f19; have Hf20 := hide f20; clear f20; have Hf21 := hide f21; clear f21; have Hf22 := hide f22; clear f22; have Hf23 := hide f23; clear f23; have Hhb := hide hb; clear hb
          go_simp
          have f0 := Hf0.out; have f1 := Hf1.out; have f2 := Hf2.out; have f3 := Hf3.out; have f4 := Hf4.out; have f5 := Hf5.out; have f6 := Hf6.out; have f7 := Hf7.out; have f8 := Hf8.out; have f9 := Hf9.out; have f10 := Hf10.out; have f11 := Hf11.out; have f12 := Hf12.out; have f13 := Hf13.out; have f14 := Hf14.out; have f15 := Hf15.out; have f16 := Hf16.out; have f17 := Hf17.out; have f18 := Hf18.out; have f19 := Hf19.out; have f20 := Hf20.out; have f21 := Hf21.out; have f22 := Hf22.out; have f23 := Hf23.out; have hb := Hhb.out
          exact hK _ _ ⟨_, _, _, _, _, _, _, _, _, _, _, _, _, _, _, _, _, _, _, _, _, _, _, _, rfl, hb, fun h => f0 (upd_ne (by decide) h), fun h => f1 (upd_ne (by decide) h), fun h => f2 (upd_ne (by decide) h), fun h => f3 (upd_ne (by decide) h), fun h => f4 (upd_ne (by decide) h), fun h => f5 (upd_ne (by decide) h), fun _ => rfl, fun h => f7 (upd_ne (by decide) h), fun h => f8 (upd_ne (by decide) h), fun h => f9 (upd_ne (by decide) h), fun h => f10 (upd_ne (by decide) h), fun h => f11 (upd_ne (by decide) h), fun h => f12 (upd_ne (by decide) h), fun h => f13 (upd_ne (by decide) h), fun h => f14 (upd_ne (by decide) h), fun h => f15 (upd_ne (by decide) h), fun h => f16 (upd_ne (by decide) h), fun h => f17 (upd_ne (by decide) h), fun h => f18 (upd_ne (by decide) h), fun h => f19 (upd_ne (by decide) h), fun h => f20 (upd_ne (by decide) h), fun h => f21 (upd_ne (by decide) h), fun h => f22 (upd_ne (by decide) h), fun h => f23 (upd_ne (by decide) h)⟩
        · intro L a6 w6 K hl hd hI hK
          obtain ⟨v6, v60, v61, v62, v63, v64, v65, v66, v67, v68, v69, v70, v71, v72, v73, v74, v75, v76, v77, v78, v79, v80, v81, v82, rfl, hb, f0, f1, f2, f3, f4, f5, f6, f7, f8, f9, f10, f11, f12, f13, f14, f15, f16, f17, f18, f19, f20, f21, f22, f23⟩ := hI
          simp [Region.binds] at hd
          obtain rfl := f6 (by simp [hd])
          have Hf0 := hide f0; clear f0; have Hf1 := hide f1; clear f1; have Hf2 := hide f2; clear f2; have Hf3 := hide f3; clear f3; have Hf4 := hide f4; clear f4; have Hf5 := hide f5; clear f5; have Hf6 := hide f6; clear f6; have Hf7 := hide f7; clear f7; have Hf8 := hide f8; clear f8; have Hf9 := hide f9; clear f9; have Hf10 := hide f10; clear f10; have Hf11 := hide f11; clear f11; have Hf12 := hide f12; clear f12; have Hf13 := hide f13; clear f13; have Hf14 := hide f14; clear f14; have Hf15 := hide f15; clear f15; have Hf16 := hide f16; clear f16; have Hf17 := hide f17; clear f17; have Hf18 := hide f18; clear f18; have Hf19 := hide f19; clear f19; have Hf20 := hide f20; clear f20; have Hf21 := hide f21; clear f21; have Hf22 := hide f22; clear f22; have Hf23 := hide f23; clear f23; have Hhb := hide hb; clear hb
          go_simp
          have f0 := Hf0.out; have f1 := Hf1.out; have f2 := Hf2.out; have f3 := Hf3.out; have f4 := Hf4.out; have f5 := Hf5.out; have f6 := Hf6.out; have f7 := Hf7.out; have f8 := Hf8.out; have f9 := Hf9.out; have f10 := Hf10.out; have f11 := Hf11.out; have f12 := Hf12.out; have f13 := Hf13.out; have f14 := Hf14.out; have f15 := Hf15.out; have f16 := Hf16.out; have f17 := Hf17.out; have f18 := Hf18.out; have f19 := Hf19.out; have f20 := Hf20.out; have f21 := Hf21.out; have f22 := Hf22.out; have f23 := Hf23.out; have hb := Hhb.out
          exact hK _ _ ⟨_, _, _, _, _, _, _, _, _, _, _, _, _, _, _, _, _, _, _, _, _, _, _, _, rfl, hb, fun h => f0 (upd_ne (by decide) h), fun h => f1 (upd_ne (by decide) h), fun h => f2 (upd_ne (by decide) h), fun h => f3 (upd_ne (by decide) h), fun h => f4 (upd_ne (by decide) h), fun h => f5 (upd_ne (by decide) h), fun h => f6 (upd_ne (by decide) h), fun _ => rfl, fun h => f8 (upd_ne (by decide) h), fun h => f9 (upd_ne (by decide) h), fun h => f10 (upd_ne (by decide) h), fun h => f11 (upd_ne (by decide) h), fun h => f12 (upd_ne (by decide) h), fun h => f13 (upd_ne (by decide) h), fun h => f14 (upd_ne (by decide) h), fun h => f15 (upd_ne (by decide) h), fun h => f16 (upd_ne (by decide) h), fun h => f17 (upd_ne (by decide) h), fun h => f18 (upd_ne (by decide) h), fun h => f19 (upd_ne (by decide) h), fun h => f20 (upd_ne (by decide) h), fun h => f21 (upd_ne (by decide) h), fun h => f22 (upd_ne (by decide) h), fun h => f23 (upd_ne (by decide) h)⟩
        · intro L a6 w6 K hl hd hI hK
          obtain ⟨v6, v60, v61, v62, v63, v64, v65, v66, v67, v68, v69, v70, v71, v72, v73, v74, v75, v76, v77, v78, v79, v80, v81, v82, rfl, hb, f0, f1, f2, f3, f4, f5, f6, f7, f8, f9, f10, f11, f12, f13, f14, f15, f16, f17, f18, f19, f20, f21, f22, f23⟩ := hI
          simp [Region.binds] at hd
          obtain rfl := f7 (by simp [hd])
          have Hf0 := hide f0; clear f0; have Hf1 := hide f1; clear f1; have Hf2 := hide f2; clear f2; have Hf3 := hide f3; clear f3; have Hf4 := hide f4; clear f4; have Hf5 := hide f5; clear f5; have Hf6 := hide f6; clear f6; have Hf7 := hide f7; clear f7; have Hf8 := hide f8; clear f8; have Hf9 := hide f9; clear f9; have Hf10 := hide f10; clear f10; have Hf11 := hide f11; clear f11; have Hf12 := hide f12; clear f12; have Hf13 := hide f13; clear f13; have Hf14 := hide f14; clear f14; have Hf15 := hide f15; clear f15; have Hf16 := hide f16; clear f16; have Hf17 := hide f17; clear f17; have Hf18 := hide f18; clear f18; have Hf19 := hide f19; clear f19; have Hf20 := hide f20; clear f20; have Hf21 := hide f21; clear f21; have Hf22 := hide f22; clear f22; have Hf23 := hide f23; clear f23; have Hhb := hide hb; clear hb
          go_simp
          have f0 := Hf0.out; have f1 := Hf1.out; have f2 := Hf2.out; have f3 := Hf3.out; have f4 := Hf4.out; have f5 := Hf5.out; have f6 := Hf6.out; have f7 := Hf7.out; have f8 := Hf8.out; have f9 := Hf9.out; have f10 := Hf10.out; have f11 := Hf11.out; have f12 := Hf12.out; have f13 := Hf13.out; have f14 := Hf14.out; have f15 := Hf15.out; have f16 := Hf16.out; have f17 := Hf17.out; have f18 := Hf18.out; have f19 := Hf19.out; have f20 := Hf20.out; have f21 := Hf21.out; have f22 := Hf22.out; have f23 := Hf23.out; have hb := Hhb.out
          exact hK _ _ ⟨_, _, _, _, _, _, _, _, _, _, _, _, _, _, _, _, _, _, _, _, _, _, _, _, rfl, hb, fun h => f0 (upd_ne (by decide) h), fun h => f1 (upd_ne (by decide) h), fun h => f2 (upd_ne (by decide) h), fun h => f3 (upd_ne (by decide) h), fun h => f4 (upd_ne (by decide) h), fun h => f5 (upd_ne (by decide) h), fun h => f6 (upd_ne (by decide) h), fun h => f7 (upd_ne (by decide) h), fun _ => rfl, fun h => f9 (upd_ne (by decide) h), fun h => f10 (upd_ne (by decide) h), fun h => f11 (upd_ne (by decide) h), fun h => f12 (upd_ne (by decide) h), fun h => f13 (upd_ne (by decide) h), fun h => f14 (upd_ne (by decide) h), fun h => f15 (upd_ne (by decide) h), fun h => f16 (upd_ne (by decide) h), fun h => f17 (upd_ne (by decide) h), fun h => f18 (upd_ne (by decide) h), fun h => f19 (upd_ne (by decide) h), fun h => f20 (upd_ne (by decide) h), fun h => f21 (upd_ne (by decide) h), fun h => f22 (upd_ne (by decide) h), fun h => f23 (upd_ne (by decide) h)⟩
        · intro L a6 w6 K hl hd hI hK
          obtain ⟨v6, v60, v61, v62, v63, v64, v65, v66, v67, v68, v69, v70, v71, v72, v73, v74, v75, v76, v77, v78, v79, v80, v81, v82, rfl, hb, f0, f1, f2, f3, f4, f5, f6, f7, f8, f9, f10, f11, f12, f13, f14, f15, f16, f17, f18, f19, f20, f21, f22, f23⟩ := hI
          simp [Region.binds] at hd
          obtain rfl := f7 (by simp [hd])
          obtain rfl := f8 (by simp [hd])
          have Hf0 := hide f0; clear f0; have Hf1 := hide f1; clear f1; have Hf2 := hide f2; clear f2; have Hf3 := hide f3; clear f3; have Hf4 := hide f4; clear f4; have Hf5 := hide f5; clear f5; have Hf6 := hide f6; clear f6; have Hf7 := hide f7; clear f7; have Hf8 := hide f8; clear f8; have Hf9 := hide f9; clear f9; have Hf10 := hide f10; clear f10; have Hf11 := hide f11; clear f11; have Hf12 := hide f12; clear f12; have Hf13 := hide f13; clear f13; have Hf14 := hide f14; clear f14; have Hf15 := hide f15; clear f15; have Hf16 := hide f16; clear f16; have Hf17 := hide f17; clear f17; have Hf18 := hide f18; clear f18; have Hf19 := hide f19; clear f19; have Hf20 := hide f20; clear f20; have Hf21 := hide f21; clear f21; have Hf22 := hide f22; clear f22; have Hf23 := hide f23; clear f23; have Hhb := hide hb; clear hb
          go_simp
          have f0 := Hf0.out; have f1 := Hf1.out; have f2 := Hf2.out; have f3 := Hf3.out; have f4 := Hf4.out; have f5 := Hf5.out; have f6 := Hf6.out; have f7 := Hf7.out; have f8 := Hf8.out; have f9 := Hf9.out; have f10 := Hf10.out; have f11 := Hf11.out; have f12 := Hf12.out; have f13 := Hf13.out; have f14 := Hf14.out; have f15 := Hf15.out; have f16 := Hf16.out; have f17 := Hf17.out; have f18 := Hf18.out; have f19 := Hf19.out; have f20 := Hf20.out; have f21 := Hf21.out; have f22 := Hf22.out; have f23 := Hf23.out; have hb := Hhb.out
          exact hK _ _ ⟨_, _, _, _, _, _, _, _, _, _, _, _, _, _, _, _, _, _, _, _, _, _, _, _, rfl, hb, fun h => f0 (upd_ne (by decide) h), fun h => f1 (upd_ne (by decide) h), fun h => f2 (upd_ne (by decide) h), fun h => f3 (upd_ne (by decide) h), fun h => f4 (upd_ne (by decide) h), fun h => f5 (upd_ne (by decide) h), fun h => f6 (upd_ne (by decide) h), fun h => f7 (upd_ne (by decide) h), fun h => f8 (upd_ne (by decide) h), fun _ => rfl, fun h => f10 (upd_ne (by decide) h), fun h => f11 (upd_ne (by decide) h), fun h => f12 (upd_ne (by decide) h), fun h => f13 (upd_ne (by decide) h), fun h => f14 (upd_ne (by decide) h), fun h => f15 (upd_ne (by decide) h), fun h => f16 (upd_ne (by decide) h), fun h => f17 (upd_ne (by decide) h), fun h => f18 (upd_ne (by decide) h), fun h => f19 (upd_ne (by decide) h), fun h => f20 (upd_ne (by decide) h), fun h => f21 (upd_ne (by decide) h), fun h => f22 (upd_ne (by decide) h), fun h => f23 (upd_ne (by decide) h)⟩
        · intro L a6 w6 K hl hd hI hK
          obtain ⟨v6, v60, v61, v62, v63, v64, v65, v66, v67, v68, v69, v70, v71, v72, v73, v74, v75, v76, v77, v78, v79, v80, v81, v82, rfl, hb, f0, f1, f2, f3, f4, f5, f6, f7, f8, f9, f10, f11, f12, f13, f14, f15, f16, f17, f18, f19, f20, f21, f22, f23⟩ := hI
          simp [Region.binds] at hd
          obtain rfl := f7 (by simp [hd])
          obtain rfl := f9 (by simp [hd])
          have Hf0 := hide f0; clear f0; have Hf1 := hide f1; clear f1; have Hf2 := hide f2; clear f2; have Hf3 := hide f3; clear f3; have Hf4 := hide f4; clear f4; have Hf5 := hide f5; clear f5; have Hf6 := hide f6; clear f6; have Hf7 := hide f7; clear f7; have Hf8 := hide f8; clear f8; have Hf9 := hide f9; clear f9; have Hf10 := hide f10; clear f10; have Hf11 := hide f11; clear f11; have Hf12 := hide f12; clear f12; have Hf13 := hide f13; clear f13; have Hf14 := hide f14; clear f14; have Hf15 := hide f15; clear f15; have Hf16 := hide f16; clear f16; have Hf17 := hide f17; clear f17; have Hf18 := hide f18; clear f18; have Hf19 := hide f19; clear f19; have Hf20 := hide f20; clear f20; have Hf21 := hide f21; clear f21; have Hf22 := hide f22; clear f22; have Hf23 := hide f23; clear f23; have Hhb := hide hb; clear hb
          go_simp
          have f0 := Hf0.out; have f1 := Hf1.out; have f2 := Hf2.out; have f3 := Hf3.out; have f4 := Hf4.out; have f5 := Hf5.out; have f6 := Hf6.out; have f7 := Hf7.out; have f8 := Hf8.out; have f9 := Hf9.out; have f10 := Hf10.out; have f11 := Hf11.out; have f12 := Hf12.out; have f13 := Hf13.out; have f14 := Hf14.out; have f15 := Hf15.out; have f16 := Hf16.out; have f17 := Hf17.out; have f18 := Hf18.out; have f19 := Hf19.out; have f20 := Hf20.out; have f21 := Hf21.out; have f22 := Hf22.out; have f23 := Hf23.out; have hb := Hhb.out
          exact hK _ _ ⟨_, _, _, _, _, _, _, _, _, _, _, _, _, _, _, _, _, _, _, _, _, _, _, _, rfl, hb, fun h => f0 (upd_ne (by decide) h), fun h => f1 (upd_ne (by decide) h), fun h => f2 (upd_ne (by decide) h), fun h => f3 (upd_ne (by decide) h), fun h => f4 (upd_ne (by decide) h), fun h => f5 (upd_ne (by decide) h), fun h => f6 (upd_ne (by decide) h), fun h => f7 (upd_ne (by decide) h), fun h => f8 (upd_ne (by decide) h), fun h => f9 (upd_ne (by decide) h), fun _ => rfl, fun h => f11 (upd_ne (by decide) h), fun h => f12 (upd_ne (by decide) h), fun h => f13 (upd_ne (by decide) h), fun h => f14 (upd_ne (by decide) h), fun h => f15 (upd_ne (by decide) h), fun h => f16 (upd_ne (by decide) h), fun h => f17 (upd_ne (by decide) h), fun h => f18 (upd_ne (by decide) h), fun h => f19 (upd_ne (by decide) h), fun h => f20 (upd_ne (by decide) h), fun h => f21 (upd_ne (by decide) h), fun h => f22 (upd_ne (by decide) h), fun h => f23 (upd_ne (by decide) h)⟩
        · intro L a6 w6 K hl hd hI hK
          obtain ⟨v6, v60, v61, v62, v63, v64, v65, v66, v67, v68, v69, v70, v71, v72, v73, v74, v75, v76, v77, v78, v79, v80, v81, v82, rfl, hb, f0, f1, f2, f3, f4, f5, f6, f7, f8, f9, f10, f11, f12, f13, f14, f15, f16, f17, f18, f19, f20, f21, f22, f23⟩ := hI
          simp [Region.binds] at hd
          obtain rfl := f10 (by simp [hd])
          have Hf0 := hide f0; clear f0; have Hf1 := hide f1; clear f1; have Hf2 := hide f2; clear f2; have Hf3 := hide f3; clear f3; have Hf4 := hide f4; clear f4; have Hf5 := hide f5; clear f5; have Hf6 := hide f6; clear f6; have Hf7 := hide f7; clear f7; have Hf8 := hide f8; clear f8; have Hf9 := hide f9; clear f9; have Hf10 := hide f10; clear f10; have Hf11 := hide f11; clear f11; have Hf12 := hide f12; clear f12; have Hf13 := hide f13; clear f13; have Hf14 := hide f14; clear f14; have Hf15 := hide f15; clear f15; have Hf16 := hide f16; clear f16; have Hf17 := hide f17; clear f17; have Hf18 := hide f18; clear f18; have Hf19 := hide f19; clear f19; have Hf20 := hide f20; clear f20; have Hf21 := hide f21; clear f21; have Hf22 := hide f22; clear f22; have Hf23 := hide f23; clear f23; have Hhb := hide hb; clear hb
          go_simp
          have f0 := Hf0.out; have f1 := Hf1.out; have f2 := Hf2.out; have f3 := Hf3.out; have f4 := Hf4.out; have f5 := Hf5.out; have f6 := Hf6.out; have f7 := Hf7.out; have f8 := Hf8.out; have f9 := Hf9.out; have f10 := Hf10.out; have f11 := Hf11.out; have f12 := Hf12.out; have f13 := Hf13.out; have f14 := Hf14.out; have f15 := Hf15.out; have f16 := Hf16.out; have f17 := Hf17.out; have f18 := Hf18.out; have f19 := Hf19.out; have f20 := Hf20.out; have f21 := Hf21.out; have f22 := Hf22.out; have f23 := Hf23.out; have hb := Hhb.out
          exact hK _ _ ⟨_, _, _, _, _, _, _, _, _, _, _, _, _, _, _, _, _, _, _, _, _, _, _, _, rfl, hb, fun h => f0 (upd_ne (by decide) h), fun h => f1 (upd_ne (by decide) h), fun h => f2 (upd_ne (by decide) h), fun h => f3 (upd_ne (by decide) h), fun h => f4 (upd_ne (by decide) h), fun h => f5 (upd_ne (by decide) h), fun h => f6 (upd_ne (by decide) h), fun h => f7 (upd_ne (by decide) h), fun h => f8 (upd_ne (by decide) h), fun h => f9 (upd_ne (by decide) h), fun h => f10 (upd_ne (by decide) h), fun _ => rfl, fun h => f12 (upd_ne (by decide) h), fun h => f13 (upd_ne (by decide) h), fun h => f14 (upd_ne (by decide) h), fun h => f15 (upd_ne (by decide) h), fun h => f16 (upd_ne (by decide) h), fun h => f17 (upd_ne (by decide) h), fun h => f18 (upd_ne (by decide) h), fun h => f19 (upd_ne (by decide) h), fun h => f20 (upd_ne (by decide) h), fun h => f21 (upd_ne (by decide) h), fun h => f22 (upd_ne (by decide) h), fun h => f23 (upd_ne (by decide) h)⟩
        · intro L a6 w6 K hl hd hI hK
          obtain ⟨v6, v60, v61, v62, v63, v64, v65, v66, v67, v68, v69, v70, v71, v72, v73, v74, v75, v76, v77, v78, v79, v80, v81, v82, rfl, hb, f0, f1, f2, f3, f4, f5, f6, f7, f8, f9, f10, f11, f12, f13, f14, f15, f16, f17, f18, f19, f20, f21, f22, f23⟩ := hI
          simp [Region.binds] at hd
          obtain rfl := f11 (by simp [hd])
          have Hf0 := hide f0; clear f0; have Hf1 := hide f1; clear f1; have Hf2 := hide f2; clear f2; have Hf3 := hide f3; clear f3; have Hf4 := hide f4; clear f4; have Hf5 := hide f5; clear f5; have Hf6 := hide f6; clear f6; have Hf7 := hide f7; clear f7; have Hf8 := hide f8; clear f8; have Hf9 := hide f9; clear f9; have Hf10 := hide f10; clear f10; have Hf11 := hide f11; clear f11; have Hf12 := hide f12; clear f12; have Hf13 := hide f13; clear f13; have Hf14 := hide f14; clear f14; have Hf15 := hide f15; clear f15; have Hf16 := hide f16; clear f16; have Hf17 := hide f17; clear f17; have Hf18 := hide f18; clear f18; have Hf19 := hide f19; clear f19; have Hf20 := hide f20; clear f20; have Hf21 := hide f21; clear f21; have Hf22 := hide f22; clear f22; have Hf23 := hide f23; clear f23; have Hhb := hide hb; clear hb
          go_simp
          have f0 := Hf0.out; have f1 := Hf1.out; have f2 := Hf2.out; have f3 := Hf3.out; have f4 := Hf4.out; have f5 := Hf5.out; have f6 := Hf6.out; have f7 := Hf7.out; have f8 := Hf8.out; have f9 := Hf9.out; have f10 := Hf10.out; have f11 := Hf11.out; have f12 := Hf12.out; have f13 := Hf13.out; have f14 := Hf14.out; have f15 := Hf15.out; have f16 := Hf16.out; have f17 := Hf17.out; have f18 := Hf18.out; have f19 := Hf19.out; have f20 := Hf20.out; have f21 := Hf21.out; have f22 := Hf22.out; have f23 := Hf23.out; have hb := Hhb.out
          exact hK _ _ ⟨_, _, _, _, _, _, _, _, _, _, _, _, _, _, _, _, _, _, _, _, _, _, _, _, rfl, hb, fun h => f0 (upd_ne (by decide) h), fun h => f1 (upd_ne (by decide) h), fun h => f2 (upd_ne (by decide) h), fun h => f3 (upd_ne (by decide) h), fun h => f4 (upd_ne (by decide) h), fun h => f5 (upd_ne (by decide) h), fun h => f6 (upd_ne (by decide) h), fun h => f7 (upd_ne (by decide) h), fun h => f8 (upd_ne (by decide) h), fun h => f9 (upd_ne (by decide) h), fun h => f10 (upd_ne (by decide) h), fun h => f11 (upd_ne (by decide) h), fun _ => rfl, fun h => f13 (upd_ne (by decide) h), fun h => f14 (upd_ne (by decide) h), fun h => f15 (upd_ne (by decide) h), fun h => f16 (upd_ne (by decide) h), fun h => f17 (upd_ne (by decide) h), fun h => f18 (upd_ne (by decide) h), fun h => f19 (upd_ne (by decide) h), fun h => f20 (upd_ne (by decide) h), fun h => f21 (upd_ne (by decide) h), fun h => f22 (upd_ne (by decide) h), fun h => f23 (upd_ne (by decide) h)⟩
        · intro L a6 w6 K hl hd hI hK
          obtain ⟨v6, v60, v61, v62, v63, v64, v65, v66, v67, v68, v69, v70, v71, v72, v73, v74, v75, v76, v77, v78, v79, v80, v81, v82, rfl, hb, f0, f1, f2, f3, f4, f5, f6, f7, f8, f9, f10, f11, f12, f13, f14, f15, f16, f17, f18, f19, f20, f21, f22, f23⟩ := hI
          simp [Region.binds] at hd
          obtain rfl := f11 (by simp [hd])
          obtain rfl := f12 (by simp [hd])
          have Hf0 := hide f0; clear f0; have Hf1 := hide f1; clear f1; have Hf2 := hide f2; clear f2; have Hf3 := hide f3; clear f3; have Hf4 := hide f4; clear f4; have Hf5 := hide f5; clear f5; have Hf6 := hide f6; clear f6; have Hf7 := hide f7; clear f7; have Hf8 := hide f8; clear f8; have Hf9 := hide f9; clear f9; have Hf10 := hide f10; clear f10; have Hf11 := hide f11; clear f11; have Hf12 := hide f12; clear f12; have Hf13 := hide f13; clear f13; have Hf14 := hide f14; clear f14; have Hf15 := hide f15; clear f15; have Hf16 := hide f16; clear f16; have Hf17 := hide f17; clear f17; have Hf18 := hide f18; clear f18; have Hf19 := hide f19; clear f19; have Hf20 := hide f20; clear f20; have Hf21 := hide f21; clear f21; have Hf22 := hide f22; clear f22; have Hf23 := hide f23; clear f23; have Hhb := hide hb; clear hb
          go_simp
          have f0 := Hf0.out; have f1 := Hf1.out; have f2 := Hf2.out; have f3 := Hf3.out; have f4 := Hf4.out; have f5 := Hf5.out; have f6 := Hf6.out; have f7 := Hf7.out; have f8 := Hf8.out; have f9 := Hf9.out; have f10 := Hf10.out; have f11 := Hf11.out; have f12 := Hf12.out; have f13 := Hf13.out; have f14 := Hf14.out; have f15 := Hf15.out; have f16 := Hf16.out; have f17 := Hf17.out; have f18 := Hf18.out; have f19 := Hf19.out; have f20 := Hf20.out; have f21 := Hf21.out; have f22 := Hf22.out; have f23 := Hf23.out; have hb := Hhb.out
          exact hK _ _ ⟨_, _, _, _, _, _, _, _, _, _, _, _, _, _, _, _, _, _, _, _, _, _, _, _, rfl, hb, fun h => f0 (upd_ne (by decide) h), fun h => f1 (upd_ne (by decide) h), fun h => f2 (upd_ne (by decide) h), fun h => f3 (upd_ne (by decide) h), fun h => f4 (upd_ne (by decide) h), fun h => f5 (upd_ne (by decide) h), fun h => f6 (upd_ne (by decide) h), fun h => f7 (upd_ne (by decide) h), fun h => f8 (upd_ne (by decide) h), fun h => f9 (upd_ne (by decide) h), fun h => f10 (upd_ne (by decide) h), fun h => f11 (upd_ne (by decide) h), fun h => f12 (upd_ne (by decide) h), fun _ => rfl, fun h => f14 (upd_ne (by decide) h), fun h => f15 (upd_ne (by decide) h), fun h => f16 (upd_ne (by decide) h), fun h => f17 (upd_ne (by decide) h), fun h => f18 (upd_ne (by decide) h), fun h => f19 (upd_ne (by decide) h), fun h => f20 (upd_ne (by decide) h), fun h => f21 (upd_ne (by decide) h), fun h => f22 (upd_ne (by decide) h), fun h => f23 (upd_ne (by decide) h)⟩
        · intro L a6 w6 K hl hd hI hK
          obtain ⟨v6, v60, v61, v62, v63, v64, v65, v66, v67, v68, v69, v70, v71, v72, v73, v74, v75, v76, v77, v78, v79, v80, v81, v82, rfl, hb, f0, f1, f2, f3, f4, f5, f6, f7, f8, f9, f10, f11, f12, f13, f14, f15, f16, f17, f18, f19, f20, f21, f22, f23⟩ := hI
          simp [Region.binds] at hd
          obtain rfl := f11 (by simp [hd])
          obtain rfl := f13 (by simp [hd])
          have Hf0 := hide f0; clear f0; have Hf1 := hide f1; clear f1; have Hf2 := hide f2; clear f2; have Hf3 := hide f3; clear f3; have Hf4 := hide f4; clear f4; have Hf5 := hide f5; clear f5; have Hf6 := hide f6; clear f6; have Hf7 := hide f7; clear f7; have Hf8 := hide f8; clear f8; have Hf9 := hide f9; clear f9; have Hf10 := hide f10; clear f10; have Hf11 := hide f11; clear f11; have Hf12 := hide f12; clear f12; have Hf13 := hide f13; clear f13; have Hf14 := hide f14; clear f14; have Hf15 := hide f15; clear f15; have Hf16 := hide f16; clear f16; have Hf17 := hide f17; clear f17; have Hf18 := hide f18; clear f18; have Hf19 := hide f19; clear f19; have Hf20 := hide f20; clear f20; have Hf21 := hide f21; clear f21; have Hf22 := hide f22; clear f22; have Hf23 := hide f23; clear f23; have Hhb := hide hb; clear hb
          go_simp
          have f0 := Hf0.out; have f1 := Hf1.out; have f2 := Hf2.out; have f3 := Hf3.out; have f4 := Hf4.out; have f5 := Hf5.out; have f6 := Hf6.out; have f7 := Hf7.out; have f8 := Hf8.out; have f9 := Hf9.out; have f10 := Hf10.out; have f11 := Hf11.out; have f12 := Hf12.out; have f13 := Hf13.out; have f14 := Hf14.out; have f15 := Hf15.out; have f16 := Hf16.out; have f17 := Hf17.out; have f18 := Hf18.out; have f19 := Hf19.out; have f20 := Hf20.out; have f21 := Hf21.out; have f22 := Hf22.out; have f23 := Hf23.out; have hb := Hhb.out
          exact hK _ _ ⟨_, _, _, _, _, _, _, _, _, _, _, _, _, _, _, _, _, _, _, _, _, _, _, _, rfl, hb, fun h => f0 (upd_ne (by decide) h), fun h => f1 (upd_ne (by decide) h), fun h => f2 (upd_ne (by decide) h), fun h => f3 (upd_ne (by decide) h), fun h => f4 (upd_ne (by decide) h), fun h => f5 (upd_ne (by decide) h), fun h => f6 (upd_ne (by decide) h), fun h => f7 (upd_ne (by decide) h), fun h => f8 (upd_ne (by decide) h), fun h => f9 (upd_ne (by decide) h), fun h => f10 (upd_ne (by decide) h), fun h => f11 (upd_ne (by decide) h), fun h => f12 (upd_ne (by decide) h), fun h => f13 (upd_ne (by decide) h), fun _ => rfl, fun h => f15 (upd_ne (by decide) h), fun h => f16 (upd_ne (by decide) h), fun h => f17 (upd_ne (by decide) h), fun h => f18 (upd_ne (by decide) h), fun h => f19 (upd_ne (by decide) h), fun h => f20 (upd_ne (by decide) h), fun h => f21 (upd_ne (by decide) h), fun h => f22 (upd_ne (by decide) h), fun h => f23 (upd_ne (by decide) h)⟩
        · intro L a6 w6 K hl hd hI hK
          obtain ⟨v6, v60, v61, v62, v63, v64, v65, v66, v67, v68, v69, v70, v71, v72, v73, v74, v75, v76, v77, v78, v79, v80, v81, v82, rfl, hb, f0, f1, f2, f3, f4, f5, f6, f7, f8, f9, f10, f11, f12, f13, f14, f15, f16, f17, f18, f19, f20, f21, f22, f23⟩ := hI
          simp [Region.binds] at hd
          obtain rfl := f14 (by simp [hd])
          have Hf0 := hide f0; clear f0; have Hf1 := hide f1; clear f1; have Hf2 := hide f2; clear f2; have Hf3 := hide f3; clear f3; have Hf4 := hide f4; clear f4; have Hf5 := hide f5; clear f5; have Hf6 := hide f6; clear f6; have Hf7 := hide f7; clear f7; have Hf8 := hide f8; clear f8; have Hf9 := hide f9; clear f9; have Hf10 := hide f10; clear f10; have Hf11 := hide f11; clear f11; have Hf12 := hide f12; clear f12; have Hf13 := hide f13; clear f13; have Hf14 := hide f14; clear f14; have Hf15 := hide f15; clear f15; have Hf16 := hide f16; clear f16; have Hf17 := hide f17; clear f17; have Hf18 := hide f18; clear f18; have Hf19 := hide f19; clear f19; have Hf20 := hide f20; clear f20; have Hf21 := hide f21; clear f21; have Hf22 := hide f22; clear f22; have Hf23 := hide f23; clear f23; have Hhb := hide hb; clear hb
          go_simp
          have f0 := Hf0.out; have f1 := Hf1.out; have f2 := Hf2.out; have f3 := Hf3.out; have f4 := Hf4.out; have f5 := Hf5.out; have f6 := Hf6.out; have f7 := Hf7.out; have f8 := Hf8.out; have f9 := Hf9.out; have f10 := Hf10.out; have f11 := Hf11.out; have f12 := Hf12.out; have f13 := Hf13.out; have f14 := Hf14.out; have f15 := Hf15.out; have f16 := Hf16.out; have f17 := Hf17.out; have f18 := Hf18.out; have f19 := Hf19.out; have f20 := Hf20.out; have f21 := Hf21.out; have f22 := Hf22.out; have f23 := Hf23.out; have hb := Hhb.out
          exact hK _ _ ⟨_, _, _, _, _, _, _, _, _, _, _, _, _, _, _, _, _, _, _, _, _, _, _, _, rfl, hb, fun h => f0 (upd_ne (by decide) h), fun h => f1 (upd_ne (by decide) h), fun h => f2 (upd_ne (by decide) h), fun h => f3 (upd_ne (by decide) h), fun h => f4 (upd_ne (by decide) h), fun h => f5 (upd_ne (by decide) h), fun h => f6 (upd_ne (by decide) h), fun h => f7 (upd_ne (by decide) h), fun h => f8 (upd_ne (by decide) h), fun h => f9 (upd_ne (by decide) h), fun h => f10 (upd_ne (by decide) h), fun h => f11 (upd_ne (by decide) h), fun h => f12 (upd_ne (by decide) h), fun h => f13 (upd_ne (by decide) h), fun h => f14 (upd_ne (by decide) h), fun _ => rfl, fun h => f16 (upd_ne (by decide) h), fun h => f17 (upd_ne (by decide) h), fun h => f18 (upd_ne (by decide) h), fun h => f19 (upd_ne (by decide) h), fun h => f20 (upd_ne (by decide) h), fun h => f21 (upd_ne (by decide) h), fun h => f22 (upd_ne (by decide) h), fun h => f23 (upd_ne (by decide) h)⟩
        · intro L a6 w6 K hl hd hI hK
          obtain ⟨v6, v60, v61, v62, v63, v64, v65, v66, v67, v68, v69, v70, v71, v72, v73, v74, v75, v76, v77, v78, v79, v80, v81, v82, rfl, hb, f0, f1, f2, f3, f4, f5, f6, f7, f8, f9, f10, f11, f12, f13, f14, f15, f16, f17, f18, f19, f20, f21, f22, f23⟩ := hI
          simp [Region.binds] at hd
          obtain rfl := f15 (by simp [hd])
          have Hf0 := hide f0; clear f0; have Hf1 := hide f1; clear f1; have Hf2 := hide f2; clear f2; have Hf3 := hide f3; clear f3; have Hf4 := hide f4; clear f4; have Hf5 := hide f5; clear f5; have Hf6 := hide f6; clear f6; have Hf7 := hide f7; clear f7; have Hf8 := hide f8; clear f8; have Hf9 := hide f9; clear f9; have Hf10 := hide f10; clear f10; have Hf11 := hide f11; clear f11; have Hf12 := hide f12; clear f12; have Hf13 := hide f13; clear f13; have Hf14 := hide f14; clear f14; have Hf15 := hide f15; clear f15; have Hf16 := hide f16; clear f16; have Hf17 := hide f17; clear f17; have Hf18 := hide f18; clear f18; have Hf19 := hide f19; clear f19; have Hf20 := hide f20; clear f20; have Hf21 := hide f21; clear f21; have Hf22 := hide f22; clear f22; have Hf23 := hide f23; clear f23; have Hhb := hide hb; clear hb
          go_simp
          have f0 := Hf0.out; have f1 := Hf1.out; have f2 := Hf2.out; have f3 := Hf3.out; have f4 := Hf4.out; have f5 := Hf5.out; have f6 := Hf6.out; have f7 := Hf7.out; have f8 := Hf8.out; have f9 := Hf9.out; have f10 := Hf10.out; have f11 := Hf11.out; have f12 := Hf12.out; have f13 := Hf13.out; have f14 := Hf14.out; have f15 := Hf15.out; have f16 := Hf16.out; have f17 := Hf17.out; have f18 := Hf18.out; have f19 := Hf19.out; have f20 := Hf20.out; have f21 := Hf21.out; have f22 := Hf22.out; have f23 := Hf23.out; have hb := Hhb.out
          exact hK _ _ ⟨_, _, _, _, _, _, _, _, _, _, _, _, _, _, _, _, _, _, _, _, _, _, _, _, rfl, hb, fun h => f0 (upd_ne (by decide) h), fun h => f1 (upd_ne (by decide) h), fun h => f2 (upd_ne (by decide) h), fun h => f3 (upd_ne (by decide) h), fun h => f4 (upd_ne (by decide) h), fun h => f5 (upd_ne (by decide) h), fun h => f6 (upd_ne (by decide) h), fun h => f7 (upd_ne (by decide) h), fun h => f8 (upd_ne (by decide) h), fun h => f9 (upd_ne (by decide) h), fun h => f10 (upd_ne (by decide) h), fun h => f11 (upd_ne (by decide) h), fun h => f12 (upd_ne (by decide) h), fun h => f13 (upd_ne (by decide) h), fun h => f14 (upd_ne (by decide) h), fun h => f15 (upd_ne (by decide) h), fun _ => rfl, fun h => f17 (upd_ne (by decide) h), fun h => f18 (upd_ne (by decide) h), fun h => f19 (upd_ne (by decide) h), fun h => f20 (upd_ne (by decide) h), fun h => f21 (upd_ne (by decide) h), fun h => f22 (upd_ne (by decide) h), fun h => f23 (upd_ne (by decide) h)⟩
        · intro L a6 w6 K hl hd hI hK
          obtain ⟨v6, v60, v61, v62, v63, v64, v65, v66, v67, v68, v69, v70, v71, v72, v73, v74, v75, v76, v77, v78, v79, v80, v81, v82, rfl, hb, f0, f1, f2, f3, f4, f5, f6, f7, f8, f9, f10, f11, f12, f13, f14, f15, f16, f17, f18, f19, f20, f21, f22, f23⟩ := hI
          simp [Region.binds] at hd
          obtain rfl := f15 (by simp [hd])
          obtain rfl := f16 (by simp [hd])
          have cv := conv_len HH9.out HLEN.out hb
          have Hf0 := hide f0; clear f0; have Hf1 := hide f1; clear f1; have Hf2 := hide f2; clear f2; have Hf3 := hide f3; clear f3; have Hf4 := hide f4; clear f4; have Hf5 := hide f5; clear f5; have Hf6 := hide f6; clear f6; have Hf7 := hide f7; clear f7; have Hf8 := hide f8; clear f8; have Hf9 := hide f9; clear f9; have Hf10 := hide f10; clear f10; have Hf11 := hide f11; clear f11; have Hf12 := hide f12; clear f12; have Hf13 := hide f13; clear f13; have Hf14 := hide f14; clear f14; have Hf15 := hide f15; clear f15; have Hf16 := hide f16; clear f16; have Hf17 := hide f17; clear f17; have Hf18 := hide f18; clear f18; have Hf19 := hide f19; clear f19; have Hf20 := hide f20; clear f20; have Hf21 := hide f21; clear f21; have Hf22 := hide f22; clear f22; have Hf23 := hide f23; clear f23; have Hhb := hide hb; clear hb
          go_simp
          have f0 := Hf0.out; have f1 := Hf1.out; have f2 := Hf2.out; have f3 := Hf3.out; have f4 := Hf4.out; have f5 := Hf5.out; have f6 := Hf6.out; have f7 := Hf7.out; have f8 := Hf8.out; have f9 := Hf9.out; have f10 := Hf10.out; have f11 := Hf11.out; have f12 := Hf12.out; have f13 := Hf13.out; have f14 := Hf14.out; have f15 := Hf15.out; have f16 := Hf16.out; have f17 := Hf17.out; have f18 := Hf18.out; have f19 := Hf19.out; have f20 := Hf20.out; have f21 := Hf21.out; have f22 := Hf22.out; have f23 := Hf23.out; have hb := Hhb.out
          exact hK _ _ ⟨_, _, _, _, _, _, _, _, _, _, _, _, _, _, _, _, _, _, _, _, _, _, _, _, rfl, hb, fun h => f0 (upd_ne (by decide) h), fun h => f1 (upd_ne (by decide) h), fun h => f2 (upd_ne (by decide) h), fun h => f3 (upd_ne (by decide) h), fun h => f4 (upd_ne (by decide) h), fun h => f5 (upd_ne (by decide) h), fun h => f6 (upd_ne (by decide) h), fun h => f7 (upd_ne (by decide) h), fun h => f8 (upd_ne (by decide) h), fun h => f9 (upd_ne (by decide) h), fun h => f10 (upd_ne (by decide) h), fun h => f11 (upd_ne (by decide) h), fun h => f12 (upd_ne (by decide) h), fun h => f13 (upd_ne (by decide) h), fun h => f14 (upd_ne (by decide) h), fun h => f15 (upd_ne (by decide) h), fun h => f16 (upd_ne (by decide) h), fun _ => rfl, fun h => f18 (upd_ne (by decide) h), fun h => f19 (upd_ne (by decide) h), fun h => f20 (upd_ne (by decide) h), fun h => f21 (upd_ne (by decide) h), fun h => f22 (upd_ne (by decide) h), fun h => f23 (upd_ne (by decide) h)⟩
        · intro L a6 w6 K hl hd hI hK
          obtain ⟨v6, v60, v61, v62, v63, v64, v65, v66, v67, v68, v69, v70, v71, v72, v73, v74, v75, v76, v77, v78, v79, v80, v81, v82, rfl, hb, f0, f1, f2, f3, f4, f5, f6, f7, f8, f9, f10, f11, f12, f13, f14, f15, f16, f17, f18, f19, f20, f21, f22, f23⟩ := hI
          simp [Region.binds] at hd
          obtain rfl := f15 (by simp [hd])
          obtain ⟨c0, c1, c2⟩ := cells3 hb HS3.out (size_of_block HS3.out)
          have Hf0 := hide f0; clear f0; have Hf1 := hide f1; clear f1; have Hf2 := hide f2; clear f2; have Hf3 := hide f3; clear f3; have Hf4 := hide f4; clear f4; have Hf5 := hide f5; clear f5; have Hf6 := hide f6; clear f6; have Hf7 := hide f7; clear f7; have Hf8 := hide f8; clear f8; have Hf9 := hide f9; clear f9; have Hf10 := hide f10; clear f10; have Hf11 := hide f11; clear f11; have Hf12 := hide f12; clear f12; have Hf13 := hide f13; clear f13; have Hf14 := hide f14; clear f14; have Hf15 := hide f15; clear f15; have Hf16 := hide f16; clear f16; have Hf17 := hide f17; clear f17; have Hf18 := hide f18; clear f18; have Hf19 := hide f19; clear f19; have Hf20 := hide f20; clear f20; have Hf21 := hide f21; clear f21; have Hf22 := hide f22; clear f22; have Hf23 := hide f23; clear f23; have Hhb := hide hb; clear hb
          go_simp
          have f0 := Hf0.out; have f1 := Hf1.out; have f2 := Hf2.out; have f3 := Hf3.out; have f4 := Hf4.out; have f5 := Hf5.out; have f6 := Hf6.out; have f7 := Hf7.out; have f8 := Hf8.out; have f9 := Hf9.out; have f10 := Hf10.out; have f11 := Hf11.out; have f12 := Hf12.out; have f13 := Hf13.out; have f14 := Hf14.out; have f15 := Hf15.out; have f16 := Hf16.out; have f17 := Hf17.out; have f18 := Hf18.out; have f19 := Hf19.out; have f20 := Hf20.out; have f21 := Hf21.out; have f22 := Hf22.out; have f23 := Hf23.out; have hb := Hhb.out
          exact hK _ _ ⟨_, _, _, _, _, _, _, _, _, _, _, _, _, _, _, _, _, _, _, _, _, _, _, _, rfl, hb, fun h => f0 (upd_ne (by decide) h), fun h => f1 (upd_ne (by decide) h), fun h => f2 (upd_ne (by decide) h), fun h => f3 (upd_ne (by decide) h), fun h => f4 (upd_ne (by decide) h), fun h => f5 (upd_ne (by decide) h), fun h => f6 (upd_ne (by decide) h), fun h => f7 (upd_ne (by decide) h), fun h => f8 (upd_ne (by decide) h), fun h => f9 (upd_ne (by decide) h), fun h => f10 (upd_ne (by decide) h), fun h => f11 (upd_ne (by decide) h), fun h => f12 (upd_ne (by decide) h), fun h => f13 (upd_ne (by decide) h), fun h => f14 (upd_ne (by decide) h), fun h => f15 (upd_ne (by decide) h), fun h => f16 (upd_ne (by decide) h), fun h => f17 (upd_ne (by decide) h), fun _ => rfl, fun h => f19 (upd_ne (by decide) h), fun h => f20 (upd_ne (by decide) h), fun h => f21 (upd_ne (by decide) h), fun h => f22 (upd_ne (by decide) h), fun h => f23 (upd_ne (by decide) h)⟩
        · intro L a6 w6 K hl hd hI hK
          obtain ⟨v6, v60, v61, v62, v63, v64, v65, v66, v67, v68, v69, v70, v71, v72, v73, v74, v75, v76, v77, v78, v79, v80, v81, v82, rfl, hb, f0, f1, f2, f3, f4, f5, f6, f7, f8, f9, f10, f11, f12, f13, f14, f15, f16, f17, f18, f19, f20, f21, f22, f23⟩ := hI
          simp [Region.binds] at hd
          obtain rfl := f15 (by simp [hd])
          obtain rfl := f18 (by simp [hd])
          have hsz6 := hb.size
          have Hf0 := hide f0; clear f0; have Hf1 := hide f1; clear f1; have Hf2 := hide f2; clear f2; have Hf3 := hide f3; clear f3; have Hf4 := hide f4; clear f4; have Hf5 := hide f5; clear f5; have Hf6 := hide f6; clear f6; have Hf7 := hide f7; clear f7; have Hf8 := hide f8; clear f8; have Hf9 := hide f9; clear f9; have Hf10 := hide f10; clear f10; have Hf11 := hide f11; clear f11; have Hf12 := hide f12; clear f12; have Hf13 := hide f13; clear f13; have Hf14 := hide f14; clear f14; have Hf15 := hide f15; clear f15; have Hf16 := hide f16; clear f16; have Hf17 := hide f17; clear f17; have Hf18 := hide f18; clear f18; have Hf19 := hide f19; clear f19; have Hf20 := hide f20; clear f20; have Hf21 := hide f21; clear f21; have Hf22 := hide f22; clear f22; have Hf23 := hide f23; clear f23; have Hhb := hide hb; clear hb
          go_simp
          refine (rbytes_any wz.heap.size 120 T _ _ (TmAt.below HTS.out Hhb.out (Nat.le_refl _) (Nat.le_refl _)) hsz6 (by omega) (fun x hx => (HND.out x hx).2.2.2)).mono ?_
          rintro e w7 ⟨r9, rfl, how9, hb7⟩
          rw [HE.out] at how9
          obtain ⟨g9, c9, blk, rfl, hbk1, hbk2⟩ := own_blk how9 hpos
          have f0 := Hf0.out; have f1 := Hf1.out; have f2 := Hf2.out; have f3 := Hf3.out; have f4 := Hf4.out; have f5 := Hf5.out; have f6 := Hf6.out; have f7 := Hf7.out; have f8 := Hf8.out; have f9 := Hf9.out; have f10 := Hf10.out; have f11 := Hf11.out; have f12 := Hf12.out; have f13 := Hf13.out; have f14 := Hf14.out; have f15 := Hf15.out; have f16 := Hf16.out; have f17 := Hf17.out; have f18 := Hf18.out; have f19 := Hf19.out; have f20 := Hf20.out; have f21 := Hf21.out; have f22 := Hf22.out; have f23 := Hf23.out; have hb := Hhb.out
          have hk7 : ∀ (q : Nat), q < w6.heap.size → w7.heap[q]? = w6.heap[q]? := fun q hq => hb7.block q hq
          exact hK _ _ ⟨_, _, _, _, _, _, _, _, _, _, _, _, _, _, _, _, _, _, _, _, _, _, _, _, rfl, (hb.trans (hb7.mono hsz6)), fun h => f0 (upd_ne (by decide) h), fun h => f1 (upd_ne (by decide) h), fun h => f2 (upd_ne (by decide) h), fun h => f3 (upd_ne (by decide) h), fun h => f4 (upd_ne (by decide) h), fun h => f5 (upd_ne (by decide) h), fun h => f6 (upd_ne (by decide) h), fun h => f7 (upd_ne (by decide) h), fun h => f8 (upd_ne (by decide) h), fun h => f9 (upd_ne (by decide) h), fun h => f10 (upd_ne (by decide) h), fun h => f11 (upd_ne (by decide) h), fun h => f12 (upd_ne (by decide) h), fun h => f13 (upd_ne (by decide) h), fun h => f14 (upd_ne (by decide) h), fun h => f15 (upd_ne (by decide) h), fun h => f16 (upd_ne (by decide) h), fun h => f17 (upd_ne (by decide) h), fun h => f18 (upd_ne (by decide) h), fun _ => ⟨g9, c9, blk, rfl, hbk1, hbk2⟩, fun h => f20 (upd_ne (by decide) h), fun h => f21 (upd_ne (by decide) h), fun h => f22 (upd_ne (by decide) h), fun h => f23 (upd_ne (by decide) h)⟩
        · intro L a6 w6 K hl hd hI hK
          obtain ⟨v6, v60, v61, v62, v63, v64, v65, v66, v67, v68, v69, v70, v71, v72, v73, v74, v75, v76, v77, v78, v79, v80, v81, v82, rfl, hb, f0, f1, f2, f3, f4, f5, f6, f7, f8, f9, f10, f11, f12, f13, f14, f15, f16, f17, f18, f19, f20, f21, f22, f23⟩ := hI
          simp [Region.binds] at hd
          obtain rfl := f15 (by simp [hd])
          obtain ⟨g9, c9, blk, rfl, hbk1, hbk2⟩ := f19 (by simp [hd])
          have cv := conv_blk (c := c9) hbk1 hbk2 HLEN.out
          have HK1 := hide hbk1; have HK2 := hide hbk2; clear hbk1 hbk2
          have Hf0 := hide f0; clear f0; have Hf1 := hide f1; clear f1; have Hf2 := hide f2; clear f2; have Hf3 := hide f3; clear f3; have Hf4 := hide f4; clear f4; have Hf5 := hide f5; clear f5; have Hf6 := hide f6; clear f6; have Hf7 := hide f7; clear f7; have Hf8 := hide f8; clear f8; have Hf9 := hide f9; clear f9; have Hf10 := hide f10; clear f10; have Hf11 := hide f11; clear f11; have Hf12 := hide f12; clear f12; have Hf13 := hide f13; clear f13; have Hf14 := hide f14; clear f14; have Hf15 := hide f15; clear f15; have Hf16 := hide f16; clear f16; have Hf17 := hide f17; clear f17; have Hf18 := hide f18; clear f18; have Hf19 := hide f19; clear f19; have Hf20 := hide f20; clear f20; have Hf21 := hide f21; clear f21; have Hf22 := hide f22; clear f22; have Hf23 := hide f23; clear f23; have Hhb := hide hb; clear hb
          go_simp
          have f0 := Hf0.out; have f1 := Hf1.out; have f2 := Hf2.out; have f3 := Hf3.out; have f4 := Hf4.out; have f5 := Hf5.out; have f6 := Hf6.out; have f7 := Hf7.out; have f8 := Hf8.out; have f9 := Hf9.out; have f10 := Hf10.out; have f11 := Hf11.out; have f12 := Hf12.out; have f13 := Hf13.out; have f14 := Hf14.out; have f15 := Hf15.out; have f16 := Hf16.out; have f17 := Hf17.out; have f18 := Hf18.out; have f19 := Hf19.out; have f20 := Hf20.out; have f21 := Hf21.out; have f22 := Hf22.out; have f23 := Hf23.out; have hb := Hhb.out
          exact hK _ _ ⟨_, _, _, _, _, _, _, _, _, _, _, _, _, _, _, _, _, _, _, _, _, _, _, _, rfl, hb, fun h => f0 (upd_ne (by decide) h), fun h => f1 (upd_ne (by decide) h), fun h => f2 (upd_ne (by decide) h), fun h => f3 (upd_ne (by decide) h), fun h => f4 (upd_ne (by decide) h), fun h => f5 (upd_ne (by decide) h), fun h => f6 (upd_ne (by decide) h), fun h => f7 (upd_ne (by decide) h), fun h => f8 (upd_ne (by decide) h), fun h => f9 (upd_ne (by decide) h), fun h => f10 (upd_ne (by decide) h), fun h => f11 (upd_ne (by decide) h), fun h => f12 (upd_ne (by decide) h), fun h => f13 (upd_ne (by decide) h), fun h => f14 (upd_ne (by decide) h), fun h => f15 (upd_ne (by decide) h), fun h => f16 (upd_ne (by decide) h), fun h => f17 (upd_ne (by decide) h), fun h => f18 (upd_ne (by decide) h), fun h => f19 (upd_ne (by decide) h), fun _ => rfl, fun h => f21 (upd_ne (by decide) h), fun h => f22 (upd_ne (by decide) h), fun h => f23 (upd_ne (by decide) h)⟩
        · intro L a6 w6 K hl hd hI hK
          obtain ⟨v6, v60, v61, v62, v63, v64, v65, v66, v67, v68, v69, v70, v71, v72, v73, v74, v75, v76, v77, v78, v79, v80, v81, v82, rfl, hb, f0, f1, f2, f3, f4, f5, f6, f7, f8, f9, f10, f11, f12, f13, f14, f15, f16, f17, f18, f19, f20, f21, f22, f23⟩ := hI
          simp [Region.binds] at hd
          obtain rfl := f15 (by simp [hd])
          obtain rfl := f17 (by simp [hd])
          obtain rfl := f20 (by simp [hd])
          have Hf0 := hide f0; clear f0; have Hf1 := hide f1; clear f1; have Hf2 := hide f2; clear f2; have Hf3 := hide f3; clear f3; have Hf4 := hide f4; clear f4; have Hf5 := hide f5; clear f5; have Hf6 := hide f6; clear f6; have Hf7 := hide f7; clear f7; have Hf8 := hide f8; clear f8; have Hf9 := hide f9; clear f9; have Hf10 := hide f10; clear f10; have Hf11 := hide f11; clear f11; have Hf12 := hide f12; clear f12; have Hf13 := hide f13; clear f13; have Hf14 := hide f14; clear f14; have Hf15 := hide f15; clear f15; have Hf16 := hide f16; clear f16; have Hf17 := hide f17; clear f17; have Hf18 := hide f18; clear f18; have Hf19 := hide f19; clear f19; have Hf20 := hide f20; clear f20; have Hf21 := hide f21; clear f21; have Hf22 := hide f22; clear f22; have Hf23 := hide f23; clear f23; have Hhb := hide hb; clear hb
          go_simp
          have f0 := Hf0.out; have f1 := Hf1.out; have f2 := Hf2.out; have f3 := Hf3.out; have f4 := Hf4.out; have f5 := Hf5.out; have f6 := Hf6.out; have f7 := Hf7.out; have f8 := Hf8.out; have f9 := Hf9.out; have f10 := Hf10.out; have f11 := Hf11.out; have f12 := Hf12.out; have f13 := Hf13.out; have f14 := Hf14.out; have f15 := Hf15.out; have f16 := Hf16.out; have f17 := Hf17.out; have f18 := Hf18.out; have f19 := Hf19.out; have f20 := Hf20.out; have f21 := Hf21.out; have f22 := Hf22.out; have f23 := Hf23.out; have hb := Hhb.out
          exact hK _ _ ⟨_, _, _, _, _, _, _, _, _, _, _, _, _, _, _, _, _, _, _, _, _, _, _, _, rfl, hb, fun h => f0 (upd_ne (by decide) h), fun h => f1 (upd_ne (by decide) h), fun h => f2 (upd_ne (by decide) h), fun h => f3 (upd_ne (by decide) h), fun h => f4 (upd_ne (by decide) h), fun h => f5 (upd_ne (by decide) h), fun h => f6 (upd_ne (by decide) h), fun h => f7 (upd_ne (by decide) h), fun h => f8 (upd_ne (by decide) h), fun h => f9 (upd_ne (by decide) h), fun h => f10 (upd_ne (by decide) h), fun h => f11 (upd_ne (by decide) h), fun h => f12 (upd_ne (by decide) h), fun h => f13 (upd_ne (by decide) h), fun h => f14 (upd_ne (by decide) h), fun h => f15 (upd_ne (by decide) h), fun h => f16 (upd_ne (by decide) h), fun h => f17 (upd_ne (by decide) h), fun h => f18 (upd_ne (by decide) h), fun h => f19 (upd_ne (by decide) h), fun h => f20 (upd_ne (by decide) h), fun _ => congrArg Value.bool (by simp), fun h => f22 (upd_ne (by decide) h), fun h => f23 (upd_ne (by decide) h)⟩
        · intro L a6 w6 K hl hd hI hK
          obtain ⟨v6, v60, v61, v62, v63, v64, v65, v66, v67, v68, v69, v70, v71, v72, v73, v74, v75, v76, v77, v78, v79, v80, v81, v82, rfl, hb, f0, f1, f2, f3, f4, f5, f6, f7, f8, f9, f10, f11, f12, f13, f14, f15, f16, f17, f18, f19, f20, f21, f22, f23⟩ := hI
          simp [Region.binds] at hd
          obtain rfl := f15 (by simp [hd])
          obtain rfl := f21 (by simp [hd])
          have Hf0 := hide f0; clear f0; have Hf1 := hide f1; clear f1; have Hf2 := hide f2; clear f2; have Hf3 := hide f3; clear f3; have Hf4 := hide f4; clear f4; have Hf5 := hide f5; clear f5; have Hf6 := hide f6; clear f6; have Hf7 := hide f7; clear f7; have Hf8 := hide f8; clear f8; have Hf9 := hide f9; clear f9; have Hf10 := hide f10; clear f10; have Hf11 := hide f11; clear f11; have Hf12 := hide f12; clear f12; have Hf13 := hide f13; clear f13; have Hf14 := hide f14; clear f14; have Hf15 := hide f15; clear f15; have Hf16 := hide f16; clear f16; have Hf17 := hide f17; clear f17; have Hf18 := hide f18; clear f18; have Hf19 := hide f19; clear f19; have Hf20 := hide f20; clear f20; have Hf21 := hide f21; clear f21; have Hf22 := hide f22; clear f22; have Hf23 := hide f23; clear f23; have Hhb := hide hb; clear hb
          go_simp
          have f0 := Hf0.out; have f1 := Hf1.out; have f2 := Hf2.out; have f3 := Hf3.out; have f4 := Hf4.out; have f5 := Hf5.out; have f6 := Hf6.out; have f7 := Hf7.out; have f8 := Hf8.out; have f9 := Hf9.out; have f10 := Hf10.out; have f11 := Hf11.out; have f12 := Hf12.out; have f13 := Hf13.out; have f14 := Hf14.out; have f15 := Hf15.out; have f16 := Hf16.out; have f17 := Hf17.out; have f18 := Hf18.out; have f19 := Hf19.out; have f20 := Hf20.out; have f21 := Hf21.out; have f22 := Hf22.out; have f23 := Hf23.out; have hb := Hhb.out
          exact hK _ _ ⟨_, _, _, _, _, _, _, _, _, _, _, _, _, _, _, _, _, _, _, _, _, _, _, _, rfl, hb, fun h => f0 (upd_ne (by decide) h), fun h => f1 (upd_ne (by decide) h), fun h => f2 (upd_ne (by decide) h), fun h => f3 (upd_ne (by decide) h), fun h => f4 (upd_ne (by decide) h), fun h => f5 (upd_ne (by decide) h), fun h => f6 (upd_ne (by decide) h), fun h => f7 (upd_ne (by decide) h), fun h => f8 (upd_ne (by decide) h), fun h => f9 (upd_ne (by decide) h), fun h => f10 (upd_ne (by decide) h), fun h => f11 (upd_ne (by decide) h), fun h => f12 (upd_ne (by decide) h), fun h => f13 (upd_ne (by decide) h), fun h => f14 (upd_ne (by decide) h), fun h => f15 (upd_ne (by decide) h), fun h => f16 (upd_ne (by decide) h), fun h => f17 (upd_ne (by decide) h), fun h => f18 (upd_ne (by decide) h), fun h => f19 (upd_ne (by decide) h), fun h => f20 (upd_ne (by decide) h), fun h => f21 (upd_ne (by decide) h), fun _ => rfl, fun h => f23 (upd_ne (by decide) h)⟩
        · intro L a6 w6 K hl hd hI hK
          obtain ⟨v6, v60, v61, v62, v63, v64, v65, v66, v67, v68, v69, v70, v71, v72, v73, v74, v75, v76, v77, v78, v79, v80, v81, v82, rfl, hb, f0, f1, f2, f3, f4, f5, f6, f7, f8, f9, f10, f11, f12, f13, f14, f15, f16, f17, f18, f19, f20, f21, f22, f23⟩ := hI
          simp [Region.binds] at hd
          obtain rfl := f22 (by simp [hd])
          have Hf0 := hide f0; clear f0; have Hf1 := hide f1; clear f1; have Hf2 := hide f2; clear f2; have Hf3 := hide f3; clear f3; have Hf4 := hide f4; clear f4; have Hf5 := hide f5; clear f5; have Hf6 := hide f6; clear f6; have Hf7 := hide f7; clear f7; have Hf8 := hide f8; clear f8; have Hf9 := hide f9; clear f9; have Hf10 := hide f10; clear f10; have Hf11 := hide f11; clear f11; have Hf12 := hide f12; clear f12; have Hf13 := hide f13; clear f13; have Hf14 := hide f14; clear f14; have Hf15 := hide f15; clear f15; have Hf16 := hide f16; clear f16; have Hf17 := hide f17; clear f17; have Hf18 := hide f18; clear f18; have Hf19 := hide f19; clear f19; have Hf20 := hide f20; clear f20; have Hf21 := hide f21; clear f21; have Hf22 := hide f22; clear f22; have Hf23 := hide f23; clear f23; have Hhb := hide hb; clear hb
          go_simp
          have f0 := Hf0.out; have f1 := Hf1.out; have f2 := Hf2.out; have f3 := Hf3.out; have f4 := Hf4.out; have f5 := Hf5.out; have f6 := Hf6.out; have f7 := Hf7.out; have f8 := Hf8.out; have f9 := Hf9.out; have f10 := Hf10.out; have f11 := Hf11.out; have f12 := Hf12.out; have f13 := Hf13.out; have f14 := Hf14.out; have f15 := Hf15.out; have f16 := Hf16.out; have f17 := Hf17.out; have f18 := Hf18.out; have f19 := Hf19.out; have f20 := Hf20.out; have f21 := Hf21.out; have f22 := Hf22.out; have f23 := Hf23.out; have hb := Hhb.out
          exact hK _ _ ⟨_, _, _, _, _, _, _, _, _, _, _, _, _, _, _, _, _, _, _, _, _, _, _, _, rfl, hb, fun h => f0 (upd_ne (by decide) h), fun h => f1 (upd_ne (by decide) h), fun h => f2 (upd_ne (by decide) h), fun h => f3 (upd_ne (by decide) h), fun h => f4 (upd_ne (by decide) h), fun h => f5 (upd_ne (by decide) h), fun h => f6 (upd_ne (by decide) h), fun h => f7 (upd_ne (by decide) h), fun h => f8 (upd_ne (by decide) h), fun h => f9 (upd_ne (by decide) h), fun h => f10 (upd_ne (by decide) h), fun h => f11 (upd_ne (by decide) h), fun h => f12 (upd_ne (by decide) h), fun h => f13 (upd_ne (by decide) h), fun h => f14 (upd_ne (by decide) h), fun h => f15 (upd_ne (by decide) h), fun h => f16 (upd_ne (by decide) h), fun h => f17 (upd_ne (by decide) h), fun h => f18 (upd_ne (by decide) h), fun h => f19 (upd_ne (by decide) h), fun h => f20 (upd_ne (by decide) h), fun h => f21 (upd_ne (by decide) h), fun h => f22 (upd_ne (by decide) h), fun _ => rfl⟩
      · intro L a6 w6 hall hI
        obtain ⟨v6, v60, v61, v62, v63, v64, v65, v66, v67, v68, v69, v70, v71, v72, v73, v74, v75, v76, v77, v78, v79, v80, v81, v82, rfl, hb, f0, f1, f2, f3, f4, f5, f6, f7, f8, f9, f10, f11, f12, f13, f14, f15, f16, f17, f18, f19, f20, f21, f22, f23⟩ := hI
        obtain rfl := f23 (hall 23 (by decide))
        clear f0 f1 f2 f3 f4 f5 f6 f7 f8 f9 f10 f11 f12 f13 f14 f15 f16 f17 f18 f19 f20 f21 f22 f23
        have HB := hide hb; clear hb
        go_wp2_with fail
        go_ret
        exact ⟨rfl, HBLZ.out.trans (HB.out.mono HBLZ.out.size)⟩
  · rw [decide_eq_false hq1]
    go_wp2_with fail
    go_ret
    exact ⟨rfl, HBL2.out⟩
end Go.Proofs.Ytafafeplciidhaa
