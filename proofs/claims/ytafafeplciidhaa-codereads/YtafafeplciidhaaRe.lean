/- CodeReads: the walk of the statement's function. -/
import Derived.Test.YtafafeplciidhaaLf
import Derived.Test.YtafafeplciidhaaRw
import Derived.Deep.CutBlock
namespace Go.Proofs.Ytafafeplciidhaa
open Go.RowKit

attribute [local go_sem ↓] Go.wp_at_zero Go.wp_at_succ
attribute [local go_sem] put

theorem LfK.at {k : IntKind} {w : World} {a : Option Addr} {n c : Nat} {l : List Int} (h : LfK k w (.slice a n c) l) {j : Nat} (hj : j < l.length) : ∃ b off, a = some ⟨b, off, none⟩ ∧ b < w.heap.size ∧ ∀ (i : Nat) (h : i < l.length), w.cell? ⟨b, off + i, none⟩ = some (.int k l[i]) := by
  rcases h with ⟨_, rfl⟩ | ⟨ad, c, h0, h1, h2, hx⟩
  · cases hj
  · simp only [Value.slice.injEq] at h0
    obtain ⟨rfl, _, _⟩ := h0
    have hp : 0 < l.length := by omega
    have h0 := hx 0 hp
    obtain ⟨bl, off, sp⟩ := ad
    cases sp with
    | none => exact ⟨bl, off, rfl, LfK.lt hx hp, fun i hi => by have := hx i hi; rwa [Addr.add_lit] at this⟩
    | some _ => simp [World.cell?, Addr.add] at h0; split at h0 <;> simp at h0

theorem LfK.form {k : IntKind} {w : World} {v : Value} {l : List Int} (h : LfK k w v l) : ∃ xa xc, v = .slice xa l.length xc := by
  rcases h with ⟨rfl, rfl⟩ | ⟨ad, c, rfl, _⟩
  · exact ⟨_, _, rfl⟩
  · exact ⟨_, _, rfl⟩

theorem own_keep {w w' : World} {base e size n : Nat} {v : Value} {xs : List Value} (h : w.ownsRow base e size v n xs) (hb : Below w.heap.size w w') : w'.ownsRow base e size v n xs := by
  refine h.kept (row := none) ⟨hb.os, hb.tape, hb.output, hb.size, fun k hk _ => hb.block k hk⟩ ?_
  cases v.ownBlock with
  | none => exact Or.inl rfl
  | some k => exact Or.inr (by simp)

theorem u8_range (x : Int) : 0 ≤ IntKind.u8.wrap x ∧ IntKind.u8.wrap x < 256 := by
  simp only [IntKind.wrap, IntKind.bits, IntKind.signed]
  constructor
  · simp; omega
  · simp; omega

theorem byt_set {l : List Int} (h : Byt l) (j : Nat) {x : Int} (hx : 0 ≤ x ∧ x < 256) : Byt (l.set j x) := by
  intro y hy
  rcases List.mem_or_eq_of_mem_set hy with h1 | rfl
  · exact h y h1
  · exact hx

theorem bys_set (l : List Int) (j : Nat) (x : Int) : (bys l).set j (.int .u8 x) = bys (l.set j x) := by unfold bys; rw [List.map_set]

/-- What the operations of region 10 come to. -/
def F10 (c a b k pa x n j pc cj pb y : Value) : Nat → Value → World → Prop
  | 0, v, _ => v = c
  | 1, v, _ => v = a
  | 2, v, _ => v = k
  | 3, v, _ => v = pa
  | 4, v, _ => v = x
  | 5, v, _ => v = c
  | 6, v, _ => v = n
  | 7, v, _ => v = j
  | 8, v, _ => v = pc
  | 9, v, _ => v = cj
  | 10, v, _ => v = b
  | 11, v, _ => v = k
  | 12, v, _ => v = pb
  | 13, v, _ => v = y
  | 14, v, _ => ∃ z : Int, v = .int .u8 z ∧ 0 ≤ z ∧ z < 256
  | 15, v, _ => v = pc
  | _, _, _ => True

theorem F10.keep (c a b k pa x n j pc cj pb y : Value) (i : Nat) (v : Value) (w w' : World) (h : F10 c a b k pa x n j pc cj pb y i v w) (_ : Below w.heap.size w w') : F10 c a b k pa x n j pc cj pb y i v w' := by
  match i with
  | 0 => exact h
  | 1 => exact h
  | 2 => exact h
  | 3 => exact h
  | 4 => exact h
  | 5 => exact h
  | 6 => exact h
  | 7 => exact h
  | 8 => exact h
  | 9 => exact h
  | 10 => exact h
  | 11 => exact h
  | 12 => exact h
  | 13 => exact h
  | 14 => exact h
  | 15 => exact h
  | _ + 16 => trivial

set_option linter.unusedSimpArgs false in
set_option maxRecDepth 20000 in
set_option maxHeartbeats 4000000 in
theorem reads_any (B f : Nat) (t : Tr) (v v1 v2 v4 : Value) (al bl rl : List Int) (ct : Int) (w : World) (ht : TmAt w B f t v) (hB : B ≤ w.heap.size) (ha : LfK .i64 w v1 al) (hb : LfK .u8 w v2 bl) (hr : LfK .u8 w v4 rl) (hbb : Byt bl) (hrb : Byt rl) :
    Calls Try.prog 4 #[v, v1, v2, .int .i64 ct, v4] w fun e w' => e = .returned (.bool true) ∧ Below w.heap.size w w' := by
  have HT := hide ht
  obtain ⟨g, rfl⟩ : ∃ g, f = g + 1 := by cases f with | zero => exact ht.elim | succ g => exact ⟨g, rfl⟩
  obtain ⟨a, cap, rfl, hop, hn, hrow⟩ := ht
  clear hrow hop hn
  have HA := hide ha; have HBB := hide hb; have HR := hide hr
  have hlr : ∃ ra rc, v4 = .slice ra rl.length rc := by rcases hr with ⟨rfl, rfl⟩ | ⟨ad, c, rfl, _⟩; exact ⟨_, _, rfl⟩; exact ⟨_, _, rfl⟩
  have hla : ∃ ra rc, v1 = .slice ra al.length rc := by rcases ha with ⟨rfl, rfl⟩ | ⟨ad, c, rfl, _⟩; exact ⟨_, _, rfl⟩; exact ⟨_, _, rfl⟩
  have hlb : ∃ ra rc, v2 = .slice ra bl.length rc := by rcases hb with ⟨rfl, rfl⟩ | ⟨ad, c, rfl, _⟩; exact ⟨_, _, rfl⟩; exact ⟨_, _, rfl⟩
  obtain ⟨ra, rc, rfl⟩ := hlr
  obtain ⟨aa, ac, rfl⟩ := hla
  obtain ⟨ba, bc, rfl⟩ := hlb
  clear ha hb hr
  go_enter Try.func4, Try.ntmps4
  go_wp2_with fail
  refine (known_any _).mono ?_
  rintro e w1 ⟨rfl, hb1⟩
  have hbx : (w.alloc (.cells #[.int .i64 t.op, .int .i64 t.n, .slice a t.kids.length cap] 24)).heap[w.heap.size]? = some (.cells #[.int .i64 t.op, .int .i64 t.n, .slice a t.kids.length cap] 24 (0, 0)) := heap_alloc_new w _
  have hold : Below w.heap.size w (w.alloc (.cells #[.int .i64 t.op, .int .i64 t.n, .slice a t.kids.length cap] 24)) := (Below.refl _ _).alloc (Nat.le_refl _) _
  have hsz : (w.alloc (.cells #[.int .i64 t.op, .int .i64 t.n, .slice a t.kids.length cap] 24)).heap.size = w.heap.size + 1 := by simp
  generalize w.alloc (.cells #[.int .i64 t.op, .int .i64 t.n, .slice a t.kids.length cap] 24) = W at *
  rw [hsz] at hb1
  have HX := hide hbx; have HO := hide hold; have HB1 := hide hb1; have HZ := hide hsz
  clear hbx hold hb1 hsz
  obtain ⟨c0, c1, c2⟩ := cells3 HB1.out HX.out (by omega)
  have hs1 : w.heap.size + 1 ≤ w1.heap.size := by have := HB1.out.size; rw [HZ.out] at this; exact this
  have HBL1 : Hid (Below w.heap.size w w1) := HO.out.trans (HB1.out.mono (by omega))
  go_wp2_with fail
  refine (few_any B (g + 1) t _ _ (TmAt.below HT.out HBL1.out hB (Nat.le_refl _)) (by omega)).mono ?_
  rintro e w2 ⟨rfl, hb2⟩
  have HB2 : Hid (Below (w.heap.size + 1) W w2) := HB1.out.trans (hb2.mono hs1)
  have hs2 : w1.heap.size ≤ w2.heap.size := hb2.size
  clear hb2
  have HBL2 : Hid (Below w.heap.size w w2) := HO.out.trans (HB2.out.mono (by omega))
  clear c0 c1 c2
  obtain ⟨c0, c1, c2⟩ := cells3 HB2.out HX.out (by omega)
  by_cases hq1 : t.size < 300
  · rw [decide_eq_true hq1]
    by_cases hq2 : rl.length ≤ 300
    · have hgt : decide ((300 : Int) < (rl.length : Int)) = false := decide_eq_false (by omega)
      go_wp2_with fail
      refine (make_any 5 B (g + 1) t _ 5 2 _ (TmAt.below HT.out HBL2.out hB (Nat.le_refl _)) (by omega) (by decide) (by decide) (by decide) (by decide)).mono ?_
      rintro e w3 ⟨T, p0, p1, pa, pl, pc, rfl, htm3, hmd, hb3⟩
      have HBL3 : Hid (Below w.heap.size w w3) := HBL2.out.trans (hb3.mono (by omega))
      have hts : T.size ≤ 1365 := hmd.1
      have HND := hide hmd.2
      have HT3 : Hid (TmAt w3 w3.heap.size 6 T (.agg #[.int .i64 p0, .int .i64 p1, .slice pa pl pc])) := TmD.keep (fun _ _ => rfl) (fun k hk => hk.2) _ _ _ htm3
      clear htm3 hmd hb3 c0 c1 c2 hgt
      go_wp2_with fail
      refine (rbytes_any w3.heap.size 6 T _ _ HT3.out (Nat.le_refl _) (by omega) (fun x hx => (HND.out x hx).2.2.2)).mono ?_
      rintro e w4 ⟨r4, rfl, how4, hb4⟩
      have hs3 := HBL3.out.size
      have HBL4 : Hid (Below w.heap.size w w4) := HBL3.out.trans (hb4.mono hs3)
      have hs4 := HBL4.out.size
      have hpos := T.size_pos
      have HBY := hide (enc_range T HND.out)
      have HLEN : Hid ((enc T).length = T.size * 10) := enc_length T
      generalize hE : enc T = E at *
      clear hE HND HT3 HBL3 hb4 HBL1 HBL2 HB1 HB2 HX HO HZ hs1 hs2 hs3
      obtain ⟨g4, c4, rfl⟩ : ∃ g4 c4, r4 = .slice (some ⟨g4, 0, none⟩) (T.size * 10) c4 := by
        rcases how4.2 with ⟨_, h0⟩ | ⟨g, cap', cur, hv, _⟩
        · omega
        · exact ⟨g, cap', hv⟩
      have HO4 := hide how4
      clear how4
      generalize hnn : T.size * 10 = n at *
      have hnb : n ≤ 13650 := by omega
      have hn0 : 0 < n := by omega
      clear hnn hpos hts
      have hg4 : g4 < w4.heap.size := (HO4.out.lt g4 rfl).2
      have HOE := hide (own_empty w4)
      have HNW : Hid (∀ j u, (bys E)[j]? = some u → (w4.alloc (.cells #[] 5)).cell? ((⟨g4, 0, none⟩ : Addr).add j) = some u) := (HO4.out.alloc _).cells (g := g4) rfl
      obtain ⟨i, hi, hz0, hz1, hz2⟩ := info_parts Try.info5
      have HEL : Hid ((bys E).length = n * 1) := by show _ = _; rw [bys_length, HLEN.out]; omega
      go_upto_block 0 with (at_builtin; first
        | (refine wpList_append_own _ rfl (.tmp 33) (.tmp 34) 32 rfl w4.heap.size 5 i (.int .u8 0) 1 1 Try.underlying32 hi hz0 hz1 hz2 rfl (by decide) _ 0 [] rfl HOE.out ⟨g4, 0, none⟩ n c4 (bys E) rfl HEL.out HNW.out (fun x hx => by obtain ⟨y, _, rfl⟩ := List.mem_map.1 hx; rfl) (by unfold maxLen; omega) (by omega) (by simp) ?_
           intro r6 w6 hown6 hgrow6 _
           have hs6 : w4.heap.size + 1 ≤ w6.heap.size := by have := hgrow6.size; simpa using this
           have HB6 : Hid (Below w4.heap.size w4 w6) := ((Below.refl _ _).alloc (Nat.le_refl _) _).grown hgrow6 (by simp) (fun q hq => by have := HOE.out.lt q hq; omega)
           have HO6 : Hid (w6.ownsRow w4.heap.size 5 1 r6 n (bys E)) := by rw [Nat.zero_add] at hown6; exact hown6
           clear hown6 hgrow6))
      obtain ⟨cb, cc, rfl⟩ : ∃ cb cc, r6 = .slice (some ⟨cb, 0, none⟩) n cc := by
        rcases HO6.out.2 with ⟨_, h0⟩ | ⟨g, cap', cur, hv, _⟩
        · omega
        · exact ⟨g, cap', hv⟩
      have hcb := HO6.out.lt cb rfl
      have hcc : n ≤ cc ∧ cc ≤ maxLen := by
        obtain ⟨a', c', h1, h2, h3⟩ := owns_form HO6.out
        simp only [Value.slice.injEq] at h1
        obtain ⟨_, _, rfl⟩ := h1
        exact ⟨h2, h3⟩
      clear HOE HNW
      go_cut [13] (fun _ wx => ∃ l : List Int, l.length = n ∧ Byt l ∧ wx.ownsRow w4.heap.size 5 1 (.slice (some ⟨cb, 0, none⟩) n cc) n (bys l) ∧ Fr (fun q => q = cb) w6 wx)
      case first =>
        go_wp2_with fail
        go_loopw [13] (fun i wr => ∃ (k : Nat) (l : List Int), k ≤ 3 ∧ i = .int .i64 k ∧ l.length = n ∧ Byt l ∧ wr.ownsRow w4.heap.size 5 1 (.slice (some ⟨cb, 0, none⟩) n cc) n (bys l) ∧ Fr (fun q => q = cb) w6 wr) (fun i _ => 3 - (intOf i).toNat)
        case atStart => exact ⟨0, E, by omega, rfl, HLEN.out, HBY.out, HO6.out, Fr.refl _ _⟩
        case round =>
          obtain ⟨k, l, hk, rfl, hll, hbl, hown, hfr⟩ := hrel
          have HOW := hide hown; have HFR := hide hfr; have HBL := hide hbl; have HLL := hide hll
          clear hown hfr hbl hll
          have mt : ∃ l : List Int, l.length = n ∧ Byt l ∧ wr.ownsRow w4.heap.size 5 1 (.slice (some ⟨cb, 0, none⟩) n cc) n (bys l) ∧ Fr (fun q => q = cb) w6 wr := ⟨l, HLL.out, HBL.out, HOW.out, HFR.out⟩
          have HMT := hide mt
          clear mt
          by_cases h1 : k < al.length
          · by_cases h2 : k < bl.length
            · by_cases h3 : k < 3
              · have hsr := HFR.out.size
                have HBR : Hid (Below w4.heap.size w4 wr) := HB6.out.trans (HFR.out.below (by omega) (fun q hq => by omega))
                have HAR := hide (HA.out.keep (HBL4.out.trans (HBR.out.mono hs4)))
                have HBR2 := hide (HBB.out.keep (HBL4.out.trans (HBR.out.mono hs4)))
                obtain ⟨ab, aoff, rfl, hab, hax⟩ := HAR.out.at h1
                obtain ⟨bb, boff, rfl, hbb', hbx⟩ := HBR2.out.at h2
                have ax := hax k h1; have bx := hbx k h2
                clear hax hbx
                generalize al[k] = x at *
                generalize hy : bl[k] = y at *
                clear hy
                have hwi := wi_n x n (by omega)
                obtain ⟨j, hj⟩ : ∃ j : Nat, wi x n = j := ⟨(wi x n).toNat, by omega⟩
                have hjn : j < n := by omega
                have HC : Hid (∀ w', Below wr.heap.size wr w' → w'.cell? ⟨ab, aoff + k, none⟩ = some (.int .i64 x) ∧ w'.cell? ⟨bb, boff + k, none⟩ = some (.int .u8 y) ∧ w'.cell? ⟨cb, j, none⟩ = some (.int .u8 (l.getD j 0)) ∧ w'.frozen? ⟨cb, j, none⟩ = false) := fun w' hw => by
                  have ho := own_keep HOW.out hw
                  refine ⟨(hw.cell (p := ⟨ab, aoff + k, none⟩) hab).trans ax, (hw.cell (p := ⟨bb, boff + k, none⟩) hbb').trans bx, ?_, ho.frozenAt j⟩
                  rw [ho.cellAt j (by omega)]
                  have : j < l.length := by rw [HLL.out]; exact hjn
                  simp [bys, List.getD, this]
                clear ax bx HAR HBR2
                go_upto_region 10 with fail
                -- R10
                generalize decide ((k : Int) < 3) = d3
                refine wp_region_last (by kernel_rfl) (by kernel_rfl) 16 (by kernel_rfl) (by kernel_rfl) (fun vs => { tmps := #[Value.agg #[Value.int IntKind.i64 t.op, Value.int IntKind.i64 t.n, Value.slice a t.kids.length cap], Value.slice (some { block := ab, off := aoff }) al.length ac, Value.slice (some { block := bb, off := boff }) bl.length bc, Value.int IntKind.i64 ct, Value.slice ra rl.length rc, Value.pointer (some { block := w.heap.size, off := 0 }), undef, undef, undef, undef, Value.bool false, Value.slice (some { block := g4, off := 0 }) n c4, Value.slice (some { block := cb, off := 0 }) n cc, Value.int IntKind.i64 ↑k, undef, undef, undef, undef, undef, undef, Value.bool true, Value.bool false, Value.agg #[Value.int IntKind.i64 t.op, Value.int IntKind.i64 t.n, Value.slice a t.kids.length cap], Value.bool true, Value.bool false, Value.bool false, Value.slice ra rl.length rc, Value.int IntKind.i64 ↑rl.length, Value.bool false, Value.bool false, Value.agg #[Value.int IntKind.i64 t.op, Value.int IntKind.i64 t.n, Value.slice a t.kids.length cap], Value.agg #[Value.int IntKind.i64 p0, Value.int IntKind.i64 p1, Value.slice pa pl pc], Value.slice (some { block := g4, off := 0 }) n c4, Value.slice (some { block := w4.heap.size, off := 0 }) 0 0, Value.slice (some { block := g4, off := 0 }) n c4, Value.slice (some { block := cb, off := 0 }) n cc, Value.int IntKind.i64 ↑k, Value.slice (some { block := ab, off := aoff }) al.length ac, Value.int IntKind.i64 ↑al.length, Value.bool true, Value.bool true, Value.int IntKind.i64 ↑k, Value.slice (some { block := bb, off := boff }) bl.length bc, Value.int IntKind.i64 ↑bl.length, Value.bool true, Value.bool true, Value.bool true, Value.int IntKind.i64 ↑k, Value.bool d3, Value.bool d3, u50, u51, vs 0, vs 1, vs 2, vs 3, vs 4, vs 5, vs 6, vs 7, vs 8, vs 9, vs 10, vs 11, vs 12, vs 13, vs 14, vs 15, undef, undef, undef, undef, undef, undef, undef, undef, undef, undef, undef, undef, undef, undef, undef, undef, undef, undef, undef, undef, undef, undef, undef, undef, undef, undef, undef, undef, undef, undef, undef, undef, undef, undef, undef, undef, undef, undef, undef, undef, undef, undef, undef, undef, undef, undef, undef, undef, undef, undef], defers := [] }) (fun i => [u52, u53, u54, u55, u56, u57, u58, u59, u60, u61, u62, u63, u64, u65, u66, u67, undef].getD i undef) (F10 (.slice (some ⟨cb, 0, none⟩) n cc) (.slice (some ⟨ab, aoff, none⟩) al.length ac) (.slice (some ⟨bb, boff, none⟩) bl.length bc) (.int .i64 (k : Nat)) (.pointer (some ⟨ab, aoff + k, none⟩)) (.int .i64 x) (.int .i64 (n : Nat)) (.int .i64 (j : Nat)) (.pointer (some ⟨cb, j, none⟩)) (.int .u8 (l.getD j 0)) (.pointer (some ⟨bb, boff + k, none⟩)) (.int .u8 y)) (F10.keep _ _ _ _ _ _ _ _ _ _ _ _) (fun _ w' => ∃ (z : Int) (w1 : World), (0 ≤ z ∧ z < 256) ∧ Below wr.heap.size wr w1 ∧ w' = w1.setCell ⟨cb, j, none⟩ (.int .u8 z)) ?_ ?_
                · refine ⟨⟨fun _ => ?_, fun h => absurd h (by decide)⟩, ⟨fun _ => ?_, fun h => absurd h (by decide)⟩, ⟨fun _ => ?_, fun h => absurd h (by decide)⟩, ⟨fun _ => ?_, fun h => absurd h (by decide)⟩, ⟨fun _ => ?_, fun h => absurd h (by decide)⟩, ⟨fun _ => ?_, fun h => absurd h (by decide)⟩, ⟨fun _ => ?_, fun h => absurd h (by decide)⟩, ⟨fun _ => ?_, fun h => absurd h (by decide)⟩, ⟨fun _ => ?_, fun h => absurd h (by decide)⟩, ⟨fun _ => ?_, fun h => absurd h (by decide)⟩, ⟨fun _ => ?_, fun h => absurd h (by decide)⟩, ⟨fun _ => ?_, fun h => absurd h (by decide)⟩, ⟨fun _ => ?_, fun h => absurd h (by decide)⟩, ⟨fun _ => ?_, fun h => absurd h (by decide)⟩, ⟨fun _ => ?_, fun h => absurd h (by decide)⟩, ⟨fun _ => ?_, fun h => absurd h (by decide)⟩, ⟨fun h => absurd rfl h, fun _ => ?_⟩, trivial⟩
                  · intro vs wx K hb hd hK
                    clear hb hd
                    go_simp
                    exact hK _ _ (Below.refl _ _) rfl
                  · intro vs wx K hb hd hK
                    clear hb hd
                    go_simp
                    exact hK _ _ (Below.refl _ _) rfl
                  · intro vs wx K hb hd hK
                    clear hb hd
                    go_simp
                    exact hK _ _ (Below.refl _ _) rfl
                  · intro vs wx K hb hd hK
                    obtain ⟨vs, rfl⟩ := put_of (show vs 1 = _ from hd ⟨1, .data⟩ (by simp) rfl)
                    obtain ⟨vs, rfl⟩ := put_of (show vs 2 = _ from hd ⟨2, .data⟩ (by simp) rfl)
                    clear hb hd
                    go_simp
                    exact hK _ _ (Below.refl _ _) rfl
                  · intro vs wx K hb hd hK
                    obtain ⟨vs, rfl⟩ := put_of (show vs 3 = _ from hd ⟨3, .data⟩ (by simp) rfl)
                    obtain ⟨ca, cbb, ccc, cfz⟩ := HC.out wx hb
                    clear hb hd
                    go_simp
                    exact hK _ _ (Below.refl _ _) rfl
                  · intro vs wx K hb hd hK
                    clear hb hd
                    go_simp
                    exact hK _ _ (Below.refl _ _) rfl
                  · intro vs wx K hb hd hK
                    obtain ⟨vs, rfl⟩ := put_of (show vs 5 = _ from hd ⟨5, .data⟩ (by simp) rfl)
                    clear hb hd
                    go_simp
                    exact hK _ _ (Below.refl _ _) rfl
                  · intro vs wx K hb hd hK
                    obtain ⟨vs, rfl⟩ := put_of (show vs 4 = _ from hd ⟨4, .data⟩ (by simp) rfl)
                    obtain ⟨vs, rfl⟩ := put_of (show vs 6 = _ from hd ⟨6, .data⟩ (by simp) rfl)
                    clear hb hd
                    go_simp
                    refine (within_n x n _ (by omega) (by omega)).mono ?_
                    rintro e w7 ⟨rfl, h7⟩
                    rw [h7, hj]
                    exact hK _ _ (Below.refl _ _) rfl
                  · intro vs wx K hb hd hK
                    obtain ⟨vs, rfl⟩ := put_of (show vs 0 = _ from hd ⟨0, .data⟩ (by simp) rfl)
                    obtain ⟨vs, rfl⟩ := put_of (show vs 7 = _ from hd ⟨7, .data⟩ (by simp) rfl)
                    clear hb hd
                    go_simp
                    exact hK _ _ (Below.refl _ _) rfl
                  · intro vs wx K hb hd hK
                    obtain ⟨vs, rfl⟩ := put_of (show vs 8 = _ from hd ⟨8, .data⟩ (by simp) rfl)
                    obtain ⟨ca, cbb, ccc, cfz⟩ := HC.out wx hb
                    clear hb hd
                    go_simp
                    exact hK _ _ (Below.refl _ _) rfl
                  · intro vs wx K hb hd hK
                    clear hb hd
                    go_simp
                    exact hK _ _ (Below.refl _ _) rfl
                  · intro vs wx K hb hd hK
                    clear hb hd
                    go_simp
                    exact hK _ _ (Below.refl _ _) rfl
                  · intro vs wx K hb hd hK
                    obtain ⟨vs, rfl⟩ := put_of (show vs 10 = _ from hd ⟨10, .data⟩ (by simp) rfl)
                    obtain ⟨vs, rfl⟩ := put_of (show vs 11 = _ from hd ⟨11, .data⟩ (by simp) rfl)
                    clear hb hd
                    go_simp
                    exact hK _ _ (Below.refl _ _) rfl
                  · intro vs wx K hb hd hK
                    obtain ⟨vs, rfl⟩ := put_of (show vs 12 = _ from hd ⟨12, .data⟩ (by simp) rfl)
                    obtain ⟨ca, cbb, ccc, cfz⟩ := HC.out wx hb
                    clear hb hd
                    go_simp
                    exact hK _ _ (Below.refl _ _) rfl
                  · intro vs wx K hb hd hK
                    obtain ⟨vs, rfl⟩ := put_of (show vs 9 = _ from hd ⟨9, .data⟩ (by simp) rfl)
                    obtain ⟨vs, rfl⟩ := put_of (show vs 13 = _ from hd ⟨13, .data⟩ (by simp) rfl)
                    clear hb hd
                    go_simp
                    exact hK _ _ (Below.refl _ _) ⟨_, rfl, u8_range _⟩
                  · intro vs wx K hb hd hK
                    obtain ⟨vs, rfl⟩ := put_of (show vs 0 = _ from hd ⟨0, .data⟩ (by simp) rfl)
                    obtain ⟨vs, rfl⟩ := put_of (show vs 7 = _ from hd ⟨7, .data⟩ (by simp) rfl)
                    clear hb hd
                    go_simp
                    exact hK _ _ (Below.refl _ _) rfl
                  · intro vs wx K hb hF hK
                    obtain ⟨z, e14, hz⟩ := hF 14 (by decide)
                    obtain ⟨vs, rfl⟩ := put_of (show vs 14 = _ from e14)
                    obtain ⟨vs, rfl⟩ := put_of (show vs 15 = _ from hF 15 (by decide))
                    obtain ⟨ca, cbb, ccc, cfz⟩ := HC.out wx hb
                    have HBX := hide hb; clear hb hF e14
                    go_simp
                    exact hK (put (put vs 15 (.pointer (some ⟨cb, j, none⟩))) 14 (.int .u8 z)) _ ⟨z, wx, hz, HBX.out, rfl⟩
                · intro vs wx hR
                  obtain ⟨z, w1, hz, hb1, rfl⟩ := hR
                  have ho1 := own_keep HOW.out hb1
                  obtain ⟨ho2, _⟩ := ho1.stored j (.int .u8 z)
                  rw [bys_set] at ho2
                  have HO2 := hide ho2
                  have HF2 : Hid (Fr (fun q => q = cb) w6 (w1.setCell ⟨cb, j, none⟩ (.int .u8 z))) := (HFR.out.trans (Fr.of_below hb1)).setCell (p := ⟨cb, j, none⟩) rfl _
                  clear ho1 ho2 hb1
                  generalize w1.setCell ⟨cb, j, none⟩ (.int .u8 z) = w2 at *
                  go_wp2_with fail
                  go_roundw
                  case rel => exact ⟨k + 1, l.set j z, by omega, by go_num, by rw [List.length_set]; exact HLL.out, byt_set HBL.out j hz, HO2.out, HF2.out⟩
                  case measure => simp [intOf]; omega
              · have k3 : k = 3 := by omega
                subst k3
                go_wp2_with fail
                go_meet
                case rel => exact HMT.out
            · go_wp2_with fail
              go_meet
              case rel => exact HMT.out
          · go_wp2_with fail
            go_meet
            case rel => exact HMT.out
      case rest =>
        obtain ⟨l, hll, hbl, hown, hfr⟩ := hcut
        obtain ⟨wx, rfl⟩ : ∃ x, x = wc := ⟨_, rfl⟩
        have HBX : Hid (Below w4.heap.size w4 wx) := HB6.out.trans (hfr.below (by omega) (fun q hq => by omega))
        have HOW := hide hown; have HBL := hide hbl; have HLL := hide hll
        clear hll hbl hown hfr HB6 HO6
        have hcbx : cb < wx.heap.size := (HOW.out.lt cb rfl).2
        go_upto_if 70 with fail
        go_cut [12] (fun c wx => ∃ l2 : List Int, LfK .u8 wx c l2 ∧ Byt l2 ∧ l2.length ≤ 13650 ∧ Below w4.heap.size w4 wx)
        case first =>
          have HLW := hide (lf_own HOW.out HLL.out.symm rfl)
          by_cases hm : ct.tmod 3 = 1
          · have hwb : IntKind.i64.wrap ((n : Int) + 1) = (n : Int) + 1 := by rw [IntKind.wrap_i64]; omega
            go_wp2_with fail
            refine (within_n _ ((n : Int) + 1) _ (by omega) (by omega)).mono ?_
            rintro e w7 ⟨rfl, h7⟩
            rw [h7]
            clear h7
            have hwi := wi_n (wrap64 (ct.tdiv 3)) ((n : Int) + 1) (by omega)
            obtain ⟨m, hmm⟩ : ∃ m : Nat, wi (wrap64 (ct.tdiv 3)) ((n : Int) + 1) = m := ⟨(wi (wrap64 (ct.tdiv 3)) ((n : Int) + 1)).toNat, by omega⟩
            have hmn : m ≤ n := by omega
            have hmc : m ≤ cc := by omega
            rw [hmm]
            clear hwi hmm
            go_wp2_with fail
            go_meet
            case rel =>
              have HLM : (l.take m).length = m := by rw [List.length_take, HLL.out]; omega
              refine ⟨l.take m, Or.inr ⟨⟨cb, 0, none⟩, cc, by rw [HLM], by rw [HLM]; exact hmc, hcc.2, fun i hi => ?_⟩, fun x hx => HBL.out x (List.mem_of_mem_take hx), by rw [HLM]; omega, HBX.out⟩
              rcases HLW.out with ⟨h0, _⟩ | ⟨ad, c, h0, _, _, hx⟩
              · cases h0
              · simp only [Value.slice.injEq, Option.some.injEq] at h0
                obtain ⟨rfl, _, _⟩ := h0
                rw [hx i (by rw [HLM] at hi; rw [HLL.out]; omega), List.getElem_take]
          · go_wp2_with fail
            go_meet
            case rel => exact ⟨l, HLW.out, HBL.out, by rw [HLL.out]; exact hnb, HBX.out⟩
        case rest =>
          obtain ⟨l2, hlf, hby2, hl2, hbx2⟩ := hcut
          obtain ⟨wy, rfl⟩ : ∃ x, x = wc := ⟨_, rfl⟩
          obtain ⟨xa, xc, rfl⟩ := hlf.form
          have HLC := hide hlf; have HBY2 := hide hby2; have HBX2 := hide hbx2
          clear hlf hby2 hbx2 HOW HBL HLL HBX hcbx
          have HOY := hide (own_keep HO4.out HBX2.out)
          have HRY := hide (HR.out.keep (HBL4.out.trans (HBX2.out.mono hs4)))
          have hsy := HBX2.out.size
          have HOE := hide (own_empty wy)
          have HNW : Hid (∀ j u, (bys E)[j]? = some u → (wy.alloc (.cells #[] 5)).cell? ((⟨g4, 0, none⟩ : Addr).add j) = some u) := (HOY.out.alloc _).cells (g := g4) rfl
          go_upto_region 13 with fail
          go_cut [14] (fun v wx => ∃ rb, v = .slice (some ⟨rb, 0, none⟩) 3 3 ∧ rb < wx.heap.size ∧ (∀ k, k < 3 → ∃ u l, wx.cell? ⟨rb, k, none⟩ = some u ∧ LfK .u8 wx u l ∧ Byt l ∧ l.length ≤ 13950) ∧ Below w.heap.size w wx)
          case first =>
            have key : ∀ (w8 : World) (r8 : Value), Below wy.heap.size wy w8 → w8.ownsRow wy.heap.size 5 1 r8 (n + rl.length) (bys E ++ bys rl) →
                ∃ rb, (Value.slice (some ⟨w8.heap.size, 0, none⟩) 3 3 : Value) = .slice (some ⟨rb, 0, none⟩) 3 3 ∧ rb < (w8.alloc (.cells #[.slice xa l2.length xc, r8, .slice ra rl.length rc] 32)).heap.size ∧
                (∀ k, k < 3 → ∃ u l, (w8.alloc (.cells #[.slice xa l2.length xc, r8, .slice ra rl.length rc] 32)).cell? ⟨rb, k, none⟩ = some u ∧ LfK .u8 (w8.alloc (.cells #[.slice xa l2.length xc, r8, .slice ra rl.length rc] 32)) u l ∧ Byt l ∧ l.length ≤ 13950) ∧ Below w.heap.size w (w8.alloc (.cells #[.slice xa l2.length xc, r8, .slice ra rl.length rc] 32)) := by
              intro w8 r8 hb8 ho8
              have hbn : Below w8.heap.size w8 (w8.alloc (.cells #[.slice xa l2.length xc, r8, .slice ra rl.length rc] 32)) := (Below.refl _ _).alloc (Nat.le_refl _) _
              have hnew := heap_alloc_new w8 (.cells #[.slice xa l2.length xc, r8, .slice ra rl.length rc] 32)
              have hs8 := hb8.size
              refine ⟨_, rfl, size_of_block hnew, fun k hk => ?_, (HBL4.out.trans (HBX2.out.mono hs4)).trans ((hb8.trans (hbn.mono hs8)).mono (by omega))⟩
              rcases (show k = 0 ∨ k = 1 ∨ k = 2 by omega) with rfl | rfl | rfl
              · exact ⟨_, l2, (cell_of_block hnew _).trans rfl, HLC.out.keep (hb8.trans (hbn.mono hs8)), HBY2.out, by omega⟩
              · refine ⟨_, E ++ rl, (cell_of_block hnew _).trans rfl, (lf_own ho8 (by rw [List.length_append, HLEN.out]) (bys_append E rl).symm).keep hbn, fun x hx => ?_, by rw [List.length_append, HLEN.out]; omega⟩
                rcases List.mem_append.1 hx with h | h
                · exact HBY.out x h
                · exact hrb x h
              · exact ⟨_, rl, (cell_of_block hnew _).trans rfl, HRY.out.keep (hb8.trans (hbn.mono hs8)), hrb, by omega⟩
            have KEY := hide key
            clear key
            rcases HRY.out with ⟨hnil, hrl⟩ | ⟨ad, c, he, hc1, hc2, hx⟩
            · subst hrl
              simp only [List.length_nil, Value.slice.injEq] at hnil
              obtain ⟨rfl, _, rfl⟩ := hnil
              go_wp2_with (at_builtin; first
                | (refine wpList_append_own _ rfl (.tmp 80) (.tmp 81) 32 rfl wy.heap.size 5 i (.int .u8 0) 1 1 Try.underlying32 hi hz0 hz1 hz2 rfl (by decide) _ 0 [] rfl HOE.out ⟨g4, 0, none⟩ n c4 (bys E) rfl HEL.out HNW.out (fun x hx => by obtain ⟨y, _, rfl⟩ := List.mem_map.1 hx; rfl) (by unfold maxLen; omega) (by omega) (by simp) ?_
                   intro r7 w7 hown7 hgrow7 _
                   have HB7 : Hid (Below wy.heap.size wy w7) := ((Below.refl _ _).alloc (Nat.le_refl _) _).grown hgrow7 (by simp) (fun q hq => by have := HOE.out.lt q hq; omega)
                   rw [Nat.zero_add] at hown7
                   obtain ⟨ra7, rc7, rfl, _, _⟩ := owns_form hown7
                   have HO7 := hide hown7
                   clear hown7 hgrow7)
                | (refine wpList_append_own_none rfl (.tmp 82) (.tmp 83) 32 rfl wy.heap.size 5 i 1 Try.underlying32 hi _ n (bys E) rfl HO7.out rfl ?_))
              go_meet
              case rel => exact KEY.out _ _ HB7.out (by simpa [bys] using HO7.out)
            · simp only [Value.slice.injEq] at he
              obtain ⟨rfl, _, rfl⟩ := he
              have HXA : Hid (∀ (w' : World), Below wy.heap.size wy w' → ∀ j u, (bys rl)[j]? = some u → w'.cell? (ad.add j) = some u) := fun w' hw => LfK.news (fun i hi => (hw.cell (LfK.lt hx hi)).trans (hx i hi))
              have HEL2 : Hid ((bys rl).length = rl.length * 1) := by show _ = _; rw [bys_length]; omega
              clear hx
              go_wp2_with (at_builtin; first
                | (refine wpList_append_own _ rfl (.tmp 80) (.tmp 81) 32 rfl wy.heap.size 5 i (.int .u8 0) 1 1 Try.underlying32 hi hz0 hz1 hz2 rfl (by decide) _ 0 [] rfl HOE.out ⟨g4, 0, none⟩ n c4 (bys E) rfl HEL.out HNW.out (fun x hx => by obtain ⟨y, _, rfl⟩ := List.mem_map.1 hx; rfl) (by unfold maxLen; omega) (by omega) (by simp) ?_
                   intro r7 w7 hown7 hgrow7 _
                   have HB7 : Hid (Below wy.heap.size wy w7) := ((Below.refl _ _).alloc (Nat.le_refl _) _).grown hgrow7 (by simp) (fun q hq => by have := HOE.out.lt q hq; omega)
                   have hs7 : wy.heap.size ≤ w7.heap.size := HB7.out.size
                   have HO7 : Hid (w7.ownsRow wy.heap.size 5 1 r7 n (bys E)) := by rw [Nat.zero_add] at hown7; exact hown7
                   clear hown7 hgrow7)
                | (refine wpList_append_own _ rfl (.tmp 82) (.tmp 83) 32 rfl wy.heap.size 5 i (.int .u8 0) 1 1 Try.underlying32 hi hz0 hz1 hz2 rfl (by decide) _ n (bys E) rfl HO7.out ad rl.length _ (bys rl) rfl HEL2.out (HXA.out _ HB7.out) (fun x hx => by obtain ⟨y, _, rfl⟩ := List.mem_map.1 hx; rfl) (by unfold maxLen; omega) (by omega) hs7 ?_
                   intro r8 w8 hown8 hgrow8 _
                   obtain ⟨ra8, rc8, rfl, _, _⟩ := owns_form hown8
                   have HB8 : Hid (Below wy.heap.size wy w8) := HB7.out.grown hgrow8 (by omega) (fun q hq => by have := HO7.out.lt q hq; omega)
                   have HO8 := hide hown8
                   clear hown8 hgrow8))
              go_meet
              case rel => exact KEY.out _ _ HB8.out HO8.out
          case rest =>
            obtain ⟨rb, rfl, hrb1, hrow, hbz⟩ := hcut
            obtain ⟨wz, rfl⟩ : ∃ x, x = wc := ⟨_, rfl⟩
            have HROW := hide hrow; have HBZ := hide hbz
            clear hrow hbz HLC HBY2 HBX2 HOY HRY HOE HNW hsy hl2 HO4 HLEN HBY HEL hnb hn0 hg4 hcb hcc
            go_wp2_with fail
            go_loopw [15, 16, 17, 18, 19] (fun i _ _ _ _ wr => ∃ k : Nat, k ≤ 3 ∧ i = .int .i64 k ∧ Below wz.heap.size wz wr) (fun i _ _ _ _ _ => 3 - (intOf i).toNat)
            case atStart => exact ⟨0, by omega, rfl, Below.refl _ _⟩
            case round =>
              obtain ⟨k, hk, rfl, hb⟩ := hrel
              have HB := hide hb
              have hbs := hb.size
              clear hb
              by_cases hlt : k < 3
              · obtain ⟨u, l, f0, hlf, hbl, hll⟩ := HROW.out k hlt
                have HU : Hid (∀ w', Below wr.heap.size wr w' → w'.cell? ⟨rb, k, none⟩ = some u ∧ LfK .u8 w' u l) := fun w' hw => by
                  have h1 := HB.out.trans (hw.mono hbs)
                  exact ⟨(h1.cell (p := ⟨rb, k, none⟩) hrb1).trans f0, hlf.keep h1⟩
                obtain ⟨ua, uc, rfl⟩ := hlf.form
                have HBL := hide hbl
                clear f0 hlf hbl
                have HOE := hide (own_empty wr)
                have hba : Below wr.heap.size wr (wr.alloc (.cells #[] 5)) := (Below.refl _ _).alloc (Nat.le_refl _) _
                obtain ⟨f0, hlf⟩ := HU.out _ hba
                have HLF := hide hlf
                have HEL : Hid ((bys l).length = l.length * 1) := by show _ = _; rw [bys_length]; omega
                clear hba hlf
                have step : ∀ (r6 : Value) (w6 : World), Below wr.heap.size wr w6 → w6.ownsRow wr.heap.size 5 1 r6 l.length (bys l) → Calls Try.prog 14 #[r6] w6 (ParseOut l w6) := fun r6 w6 _ ho => parse_any _ l w6 (lf_own ho rfl rfl).left HBL.out
                have HST := hide step
                clear step
                rcases HLF.out with ⟨hnil, hl0⟩ | ⟨ad, c, he, hc1, hc2, hx⟩
                · subst hl0
                  simp only [List.length_nil, Value.slice.injEq] at hnil
                  obtain ⟨rfl, _, rfl⟩ := hnil
                  go_wp2_with (at_builtin; first
                    | (refine wpList_append_own_none rfl (.tmp 92) (.tmp 96) 32 rfl wr.heap.size 5 i 1 Try.underlying32 hi _ 0 [] rfl HOE.out rfl ?_))
                  have HBW : Hid (Below wr.heap.size wr (wr.alloc (.cells #[] 5))) := (Below.refl _ _).alloc (Nat.le_refl _) _
                  refine (HST.out _ _ HBW.out HOE.out).mono ?_
                  intro e w7 hpo
                  obtain ⟨er, t7, y0, y1, ya, yl, yc, rfl, hr7, ht7, hb7⟩ := out_of hpo
                  have HB7 : Hid (Below wr.heap.size wr w7) := HBW.out.trans (hb7.mono HBW.out.size)
                  have hs7 : wr.heap.size ≤ w7.heap.size := HB7.out.size
                  have HR7 := hide hr7; have HT7 := hide ht7
                  clear hpo hr7 ht7 hb7
                  have hba : Below wr.heap.size wr (w7.alloc (.cells #[.int .i64 y0, .int .i64 y1, .slice ya yl yc] 29)) := HB7.out.alloc hs7 _
                  obtain ⟨f1, hlf1⟩ := HU.out _ hba
                  have HLF1 := hide hlf1.left
                  clear hlf1 f0
                  have HBA := hide hba
                  clear hba
                  go_wp2_with fail
                  refine (rparse_any _ _ _ HLF1.out HBL.out).mono ?_
                  intro e w8 hpo
                  obtain ⟨er', t8, z0, z1, za, zl, zc, rfl, hr8, ht8, hb8⟩ := out_of hpo
                  obtain ⟨rfl, rfl⟩ := HR7.out.one hr8
                  have hb8' : Below (w7.heap.size + 1) (w7.alloc (.cells #[.int .i64 y0, .int .i64 y1, .slice ya yl yc] 29)) w8 := by
                    have := hb8
                    rwa [World.size_alloc] at this
                  have hs8 : w7.heap.size + 1 ≤ w8.heap.size := by have := hb8'.size; simpa using this
                  have hb78 : Below w7.heap.size w7 w8 := ((Below.refl _ _).alloc (Nat.le_refl _) _).trans (hb8'.mono (by omega))
                  have hb9 : Below w8.heap.size w8 (w8.alloc (.cells #[.int .i64 z0, .int .i64 z1, .slice za zl zc] 29)) := (Below.refl _ _).alloc (Nat.le_refl _) _
                  have hx8 : w8.heap[w7.heap.size]? = some (.cells #[.int .i64 y0, .int .i64 y1, .slice ya yl yc] 29 (0, 0)) := (hb8'.block _ (by omega)).trans (heap_alloc_new w7 _)
                  obtain ⟨e0, e1, e2⟩ := blk3 ((hb9.block _ (by omega)).trans hx8)
                  have HTA : Hid (TmAt (w8.alloc (.cells #[.int .i64 z0, .int .i64 z1, .slice za zl zc] 29)) w8.heap.size 120 t8 (.agg #[.int .i64 y0, .int .i64 y1, .slice ya yl yc])) := TmAt.below (TmAt.below HT7.out hb78 (Nat.le_refl _) (Nat.le_refl _)) hb9 (by omega) (by omega)
                  have HTB : Hid (TmAt (w8.alloc (.cells #[.int .i64 z0, .int .i64 z1, .slice za zl zc] 29)) w8.heap.size 120 t8 (.agg #[.int .i64 z0, .int .i64 z1, .slice za zl zc])) := TmAt.below ht8 hb9 (Nat.le_refl _) (Nat.le_refl _)
                  have HB9 : Hid (Below wz.heap.size wz (w8.alloc (.cells #[.int .i64 z0, .int .i64 z1, .slice za zl zc] 29))) := HB.out.trans ((HB7.out.trans ((hb78.trans (hb9.mono (by omega))).mono hs7)).mono hbs)
                  clear hpo hr8 ht8 hb8 hb8' hb78 hb9 hx8 f1
                  go_wp2_with fail
                  refine (same_any w8.heap.size 120 t8 t8 _ _ _ HTA.out HTB.out (by simp)).mono ?_
                  rintro e w9 ⟨r, rfl, hr, hb10⟩
                  obtain rfl := hr.2 rfl
                  have HB10 : Hid (Below wz.heap.size wz w9) := HB9.out.trans (hb10.mono HB9.out.size)
                  clear hb10 hr e0 e1 e2
                  go_wp2_with fail
                  go_roundw
                  case rel => exact ⟨k + 1, by omega, by go_num, HB10.out⟩
                  case measure => simp [intOf]; omega
                · simp only [Value.slice.injEq] at he
                  obtain ⟨rfl, _, rfl⟩ := he
                  have HXA := hide (LfK.news hx)
                  clear hx
                  go_wp2_with (at_builtin; first
                    | (refine wpList_append_own _ rfl (.tmp 92) (.tmp 96) 32 rfl wr.heap.size 5 i (.int .u8 0) 1 1 Try.underlying32 hi hz0 hz1 hz2 rfl (by decide) _ 0 [] rfl HOE.out ad l.length _ (bys l) rfl HEL.out HXA.out (fun x hx => by obtain ⟨y, _, rfl⟩ := List.mem_map.1 hx; rfl) (by unfold maxLen; omega) (by omega) (by simp) ?_
                       intro r6 w6 hown6 hgrow6 _
                       have HB6 : Hid (Below wr.heap.size wr w6) := ((Below.refl _ _).alloc (Nat.le_refl _) _).grown hgrow6 (by simp) (fun q hq => by have := HOE.out.lt q hq; omega)
                       have HO6 : Hid (w6.ownsRow wr.heap.size 5 1 r6 l.length (bys l)) := by rw [Nat.zero_add] at hown6; exact hown6
                       clear hown6 hgrow6))
                  refine (HST.out _ _ HB6.out HO6.out).mono ?_
                  intro e w7 hpo
                  obtain ⟨er, t7, y0, y1, ya, yl, yc, rfl, hr7, ht7, hb7⟩ := out_of hpo
                  have HB7 : Hid (Below wr.heap.size wr w7) := HB6.out.trans (hb7.mono HB6.out.size)
                  have hs7 : wr.heap.size ≤ w7.heap.size := HB7.out.size
                  have HR7 := hide hr7; have HT7 := hide ht7
                  clear hpo hr7 ht7 hb7
                  have hba : Below wr.heap.size wr (w7.alloc (.cells #[.int .i64 y0, .int .i64 y1, .slice ya yl yc] 29)) := HB7.out.alloc hs7 _
                  obtain ⟨f1, hlf1⟩ := HU.out _ hba
                  have HLF1 := hide hlf1.left
                  clear hlf1 f0
                  have HBA := hide hba
                  clear hba
                  go_wp2_with fail
                  refine (rparse_any _ _ _ HLF1.out HBL.out).mono ?_
                  intro e w8 hpo
                  obtain ⟨er', t8, z0, z1, za, zl, zc, rfl, hr8, ht8, hb8⟩ := out_of hpo
                  obtain ⟨rfl, rfl⟩ := HR7.out.one hr8
                  have hb8' : Below (w7.heap.size + 1) (w7.alloc (.cells #[.int .i64 y0, .int .i64 y1, .slice ya yl yc] 29)) w8 := by
                    have := hb8
                    rwa [World.size_alloc] at this
                  have hs8 : w7.heap.size + 1 ≤ w8.heap.size := by have := hb8'.size; simpa using this
                  have hb78 : Below w7.heap.size w7 w8 := ((Below.refl _ _).alloc (Nat.le_refl _) _).trans (hb8'.mono (by omega))
                  have hb9 : Below w8.heap.size w8 (w8.alloc (.cells #[.int .i64 z0, .int .i64 z1, .slice za zl zc] 29)) := (Below.refl _ _).alloc (Nat.le_refl _) _
                  have hx8 : w8.heap[w7.heap.size]? = some (.cells #[.int .i64 y0, .int .i64 y1, .slice ya yl yc] 29 (0, 0)) := (hb8'.block _ (by omega)).trans (heap_alloc_new w7 _)
                  obtain ⟨e0, e1, e2⟩ := blk3 ((hb9.block _ (by omega)).trans hx8)
                  have HTA : Hid (TmAt (w8.alloc (.cells #[.int .i64 z0, .int .i64 z1, .slice za zl zc] 29)) w8.heap.size 120 t8 (.agg #[.int .i64 y0, .int .i64 y1, .slice ya yl yc])) := TmAt.below (TmAt.below HT7.out hb78 (Nat.le_refl _) (Nat.le_refl _)) hb9 (by omega) (by omega)
                  have HTB : Hid (TmAt (w8.alloc (.cells #[.int .i64 z0, .int .i64 z1, .slice za zl zc] 29)) w8.heap.size 120 t8 (.agg #[.int .i64 z0, .int .i64 z1, .slice za zl zc])) := TmAt.below ht8 hb9 (Nat.le_refl _) (Nat.le_refl _)
                  have HB9 : Hid (Below wz.heap.size wz (w8.alloc (.cells #[.int .i64 z0, .int .i64 z1, .slice za zl zc] 29))) := HB.out.trans ((HB7.out.trans ((hb78.trans (hb9.mono (by omega))).mono hs7)).mono hbs)
                  clear hpo hr8 ht8 hb8 hb8' hb78 hb9 hx8 f1
                  go_wp2_with fail
                  refine (same_any w8.heap.size 120 t8 t8 _ _ _ HTA.out HTB.out (by simp)).mono ?_
                  rintro e w9 ⟨r, rfl, hr, hb10⟩
                  obtain rfl := hr.2 rfl
                  have HB10 : Hid (Below wz.heap.size wz w9) := HB9.out.trans (hb10.mono HB9.out.size)
                  clear hb10 hr e0 e1 e2
                  go_wp2_with fail
                  go_roundw
                  case rel => exact ⟨k + 1, by omega, by go_num, HB10.out⟩
                  case measure => simp [intOf]; omega
              · have k3 : k = 3 := by omega
                subst k3
                go_wp2_with fail
                go_ret
                exact ⟨rfl, HBZ.out.trans (HB.out.mono HBZ.out.size)⟩
    · have hgt : decide ((300 : Int) < (rl.length : Int)) = true := decide_eq_true (by omega)
      go_wp2_with fail
      go_ret
      exact ⟨rfl, HBL2.out⟩
  · rw [decide_eq_false hq1]
    go_wp2_with fail
    go_ret
    exact ⟨rfl, HBL2.out⟩
end Go.Proofs.Ytafafeplciidhaa
