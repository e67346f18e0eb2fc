/- CodePlaces: the walk of the statement's function. -/
import Derived.Test.YtafafeplciidhaaUn
import Derived.Test.YtafafeplciidhaaSz
namespace Go.Proofs.Ytafafeplciidhaa
open Go.RowKit

attribute [local go_sem ↓] Go.wp_at_zero Go.wp_at_succ

theorem head_cells {w : World} {g : Nat} {T : Tr} (hh : w.heap[g]? = some (.cells (bys (enc T)).toArray 5 (0, 0))) (i : Nat) (hi : i < 10) : w.cell? ⟨g, i, none⟩ = ((hd T.op T.n T.kids.length)[i]?).map (Value.int .u8) := by
  rw [cell_of_block hh, enc_eq]
  simp only [bys, List.map_append, List.getElem?_toArray]
  rw [List.getElem?_append_left (by rw [List.length_map, hd_length]; exact hi), List.getElem?_map]

theorem enc_length (t : Tr) : (enc t).length = t.size * 10 := by rw [enc, encL_length, Tr.pre_length]

/-- Where a kid's bytes stand. -/
theorem flatten_at : ∀ (ks : List Tr) (k : Nat) (hk : k < ks.length) (i : Nat), i < (enc ks[k]).length → ((ks.map enc).flatten)[((ks.take k).map Tr.size).sum * 10 + i]? = (enc ks[k])[i]?
  | x :: ks, 0, _, i, hi => by
    simp only [List.getElem_cons_zero] at hi
    simp only [List.map_cons, List.flatten_cons, List.take_zero, List.map_nil, List.sum_nil, Nat.zero_mul, Nat.zero_add, List.getElem_cons_zero]
    rw [List.getElem?_append_left hi]
  | x :: ks, k + 1, hk, i, hi => by
    simp only [List.getElem_cons_succ] at hi
    simp only [List.map_cons, List.flatten_cons, List.take_succ_cons, List.sum_cons, List.getElem_cons_succ]
    rw [List.getElem?_append_right (by rw [enc_length]; omega), enc_length, ← flatten_at ks k (by simpa using hk) i hi]
    congr 1
    omega

theorem enc_at (T : Tr) (k : Nat) (hk : k < T.kids.length) (i : Nat) (hi : i < (enc T.kids[k]).length) : (enc T)[szTo T k * 10 + i]? = (enc T.kids[k])[i]? := by
  rw [enc_eq T, List.getElem?_append_right (by rw [hd_length]; unfold szTo; omega), hd_length, ← flatten_at T.kids k hk i hi]
  congr 1
  unfold szTo
  omega

/-- A kid's bytes, cut out of the whole's, as a string. -/
theorem conv_mid {w w' : World} {g A M c : Nat} {l m : List Int} (hg : w.heap[g]? = some (.cells (bys l).toArray 5 (0, 0))) (hm : m.length = M) (hat : ∀ i, i < M → l[A + i]? = m[i]?) (hb : Below w.heap.size w w') :
    (convert 32 9 (.slice (some ⟨g, A, none⟩) M c)).run Try.prog w' = .ok (.string (strOfNums m)) w' := by
  have h1 := (hb.block g (size_of_block hg)).trans hg
  refine run_convert_bytes_arg w' 32 5 Try.underlying32 Try.underlying5 g A M c m hm (fun i hi => ?_) 9 Try.underlying9
  rw [cell_of_block h1]
  have h2 := hat i hi
  have h3 : m[i]? = some (m.getD i 0) := by simp [List.getD, hm, hi]
  rw [h3] at h2
  simp [bys, h2]

set_option linter.unusedSimpArgs false in
set_option maxRecDepth 20000 in
set_option maxHeartbeats 4000000 in
theorem places_any (B f : Nat) (t : Tr) (v : Value) (w : World) (ht : TmAt w B f t v) (hB : B ≤ w.heap.size) :
    Calls Try.prog 6 #[v] w fun e w' => e = .returned (.bool true) ∧ Below w.heap.size w w' := by
  have HT := hide ht
  obtain ⟨g, rfl⟩ : ∃ g, f = g + 1 := by cases f with | zero => exact ht.elim | succ g => exact ⟨g, rfl⟩
  obtain ⟨a, cap, rfl, hop, hn, hrow⟩ := ht
  clear hrow hop hn
  go_enter Try.func6, Try.ntmps6
  go_wp2_with fail
  refine (known_any _).mono ?_
  rintro e w1 ⟨rfl, hb1⟩
  have hbx : (w.alloc (.cells #[.int .i64 t.op, .int .i64 t.n, .slice a t.kids.length cap] 24)).heap[w.heap.size]? = some (.cells #[.int .i64 t.op, .int .i64 t.n, .slice a t.kids.length cap] 24 (0, 0)) := heap_alloc_new w _
  have hold : Below w.heap.size w (w.alloc (.cells #[.int .i64 t.op, .int .i64 t.n, .slice a t.kids.length cap] 24)) := (Below.refl _ _).alloc (Nat.le_refl _) _
  have hsz : (w.alloc (.cells #[.int .i64 t.op, .int .i64 t.n, .slice a t.kids.length cap] 24)).heap.size = w.heap.size + 1 := by simp
  generalize w.alloc (.cells #[.int .i64 t.op, .int .i64 t.n, .slice a t.kids.length cap] 24) = W at *
  rw [hsz] at hb1
  have HX := hide hbx; have HO := hide hold; have HB1 := hide hb1; have HZ := hide hsz
  clear hbx hold hb1 hsz
  obtain ⟨c0, c1, c2⟩ := cells3 HB1.out HX.out (by omega)
  have hs1 : w.heap.size + 1 ≤ w1.heap.size := by have := HB1.out.size; rw [HZ.out] at this; exact this
  have HBL1 : Hid (Below w.heap.size w w1) := HO.out.trans (HB1.out.mono (by omega))
  go_wp2_with fail
  refine (few_any B (g + 1) t _ _ (TmAt.below HT.out HBL1.out hB (Nat.le_refl _)) (by omega)).mono ?_
  rintro e w2 ⟨rfl, hb2⟩
  have HB2 : Hid (Below (w.heap.size + 1) W w2) := HB1.out.trans (hb2.mono hs1)
  have hs2 : w1.heap.size ≤ w2.heap.size := hb2.size
  clear hb2
  have HBL2 : Hid (Below w.heap.size w w2) := HO.out.trans (HB2.out.mono (by omega))
  clear c0 c1 c2
  obtain ⟨c0, c1, c2⟩ := cells3 HB2.out HX.out (by omega)
  by_cases hq1 : t.size < 300
  · rw [decide_eq_true hq1]
    go_wp2_with fail
    refine (plain_any B (g + 1) t _ _ (TmAt.below HT.out HBL2.out hB (Nat.le_refl _)) (by omega)).mono ?_
    rintro e w3 ⟨p0, p1, pa, pl, pc, rfl, htm3, hb3⟩
    have HBL3 : Hid (Below w.heap.size w w3) := HBL2.out.trans (hb3.mono (by omega))
    have HT3 : Hid (TmAt w3 w3.heap.size (g + 1) t.plain (.agg #[.int .i64 p0, .int .i64 p1, .slice pa pl pc])) := TmD.keep (fun _ _ => rfl) (fun k hk => hk.2) _ _ _ htm3
    have hs3 : w2.heap.size ≤ w3.heap.size := hb3.size
    have HN := hide (plain_node t (tm_raw HT.out))
    have hz := plain_size t
    clear htm3 hb3 c0 c1 c2
    have HTT := hide (show ∃ a' cap', (Value.agg #[.int .i64 p0, .int .i64 p1, .slice pa pl pc]) = .agg #[.int .i64 t.plain.op, .int .i64 t.plain.n, .slice a' t.plain.kids.length cap'] ∧ RowAt w3 (fun k => k < w3.heap.size) (TmD w3 (fun k => k < w3.heap.size) g) t.plain.kids a' cap' from by
      obtain ⟨a', cap', h1, _, _, h2⟩ := HT3.out
      exact ⟨a', cap', h1, h2⟩)
    generalize t.plain = T at *
    obtain ⟨a', cap', he, hrow3⟩ := HTT.out
    simp only [Value.agg.injEq, Array.mk.injEq, List.cons.injEq, and_true, Value.int.injEq, Value.slice.injEq, true_and] at he
    obtain ⟨rfl, rfl, rfl, rfl, rfl⟩ := he
    have HR3 := hide hrow3
    clear hrow3 HTT
    go_wp2_with fail
    refine (bytes_any w3.heap.size (g + 1) T _ _ (TmAt.below HT3.out ((Below.refl _ _).alloc (Nat.le_refl _) _) (Nat.le_refl _) (Nat.le_refl _)) (by simp) (by omega) (fun x hx => (HN.out x hx).2.2.2)).mono ?_
    rintro e w4 ⟨r4, rfl, ⟨g4, rfl, hg4, hh4⟩, hb4⟩
    have hlen : (enc T).length = T.size * 10 := by rw [enc, encL_length, Tr.pre_length]
    rw [hlen]
    have hcell := head_cells hh4
    have e0 : w4.cell? ⟨g4, 0, none⟩ = some (.int .u8 (T.op % 256)) := hcell 0 (by omega)
    have e1 : w4.cell? ⟨g4, 1, none⟩ = some (.int .u8 (IntKind.u64.wrap T.n % 256)) := hcell 1 (by omega)
    have e2 : w4.cell? ⟨g4, 2, none⟩ = some (.int .u8 (IntKind.u64.wrap T.n / 256 % 256)) := hcell 2 (by omega)
    have e3 : w4.cell? ⟨g4, 3, none⟩ = some (.int .u8 (IntKind.u64.wrap T.n / 65536 % 256)) := hcell 3 (by omega)
    have e4 : w4.cell? ⟨g4, 4, none⟩ = some (.int .u8 (IntKind.u64.wrap T.n / 16777216 % 256)) := hcell 4 (by omega)
    have e5 : w4.cell? ⟨g4, 5, none⟩ = some (.int .u8 (IntKind.u64.wrap T.n / 4294967296 % 256)) := hcell 5 (by omega)
    have e6 : w4.cell? ⟨g4, 6, none⟩ = some (.int .u8 (IntKind.u64.wrap T.n / 1099511627776 % 256)) := hcell 6 (by omega)
    have e7 : w4.cell? ⟨g4, 7, none⟩ = some (.int .u8 (IntKind.u64.wrap T.n / 281474976710656 % 256)) := hcell 7 (by omega)
    have e8 : w4.cell? ⟨g4, 8, none⟩ = some (.int .u8 (IntKind.u64.wrap T.n / 72057594037927936 % 256)) := hcell 8 (by omega)
    have e9 : w4.cell? ⟨g4, 9, none⟩ = some (.int .u8 (T.kids.length : Int)) := hcell 9 (by omega)
    have HG4 := hide hh4
    have hg4lt := size_of_block hh4
    have hb4' : Below (w3.heap.size + 1) (w3.alloc (.cells #[.int .i64 T.op, .int .i64 T.n, .slice pa T.kids.length pc] 29)) w4 := by
      have := hb4
      rwa [World.size_alloc] at this
    obtain ⟨b0, b1, b2⟩ := cells3 hb4' (heap_alloc_new w3 _) (by omega)
    have HBL4 : Hid (Below w.heap.size w w4) := (HBL3.out.alloc (by omega) _).trans (hb4'.mono (by omega))
    have HT4 : Hid (TmAt w4 w3.heap.size (g + 1) T (.agg #[.int .i64 T.op, .int .i64 T.n, .slice pa T.kids.length pc])) := TmAt.below (TmAt.below HT3.out ((Below.refl _ _).alloc (Nat.le_refl _) _) (Nat.le_refl _) (Nat.le_refl _)) hb4' (by omega) (Nat.le_refl _)
    have HR4 : Hid (RowAt w4 (fun k => k < w3.heap.size) (TmD w4 (fun k => k < w3.heap.size) g) T.kids pa pc) := by
      obtain ⟨a', cap', h1, _, _, h2⟩ := HT4.out
      simp only [Value.agg.injEq, Array.mk.injEq, List.cons.injEq, and_true, Value.slice.injEq, true_and] at h1
      obtain ⟨rfl, rfl⟩ := h1
      exact h2
    have hs4 : w3.heap.size + 1 ≤ w4.heap.size := by have := hb4'.size; simpa using this
    have hk255 : T.kids.length ≤ 255 := (HN.out T (mem_pre_self T)).2.2.2
    have HL := hide hlen
    clear hcell hh4 hb4 hb4' hlen HR3 HT3
    have i0 : ((T.size * 10 : Nat) : Int) = 10 * (T.size : Int) := by omega
    have i1 : (((T.size * 10 : Nat) : Int) != 10 * (T.size : Int)) = false := bne_false i0
    have i2 : ((T.size : Int) * 10 != 10 * (T.size : Int)) = false := bne_false (by omega)
    have iw : IntKind.i64.wrap (10 * (T.size : Int)) = 10 * (T.size : Int) := by rw [IntKind.wrap_i64]; omega
    have iw2 : IntKind.i64.wrap (T.kids.length : Int) = (T.kids.length : Int) := by rw [IntKind.wrap_i64]; omega
    have iw8 : ∀ x : Int, IntKind.u8.wrap x = x % 256 := fun x => by simp [IntKind.wrap, IntKind.bits, IntKind.signed]
    have hp := T.size_pos
    have j0 : (0 : Int) < (T.size : Int) * 10 := by omega
    have j1 : (1 : Int) < (T.size : Int) * 10 := by omega
    have j2 : (2 : Int) < (T.size : Int) * 10 := by omega
    have j3 : (3 : Int) < (T.size : Int) * 10 := by omega
    have j4 : (4 : Int) < (T.size : Int) * 10 := by omega
    have j5 : (5 : Int) < (T.size : Int) * 10 := by omega
    have j6 : (6 : Int) < (T.size : Int) * 10 := by omega
    have j7 : (7 : Int) < (T.size : Int) * 10 := by omega
    have j8 : (8 : Int) < (T.size : Int) * 10 := by omega
    have j9 : (9 : Int) < (T.size : Int) * 10 := by omega
    clear i0
    go_wp2_with fail
    have HSS : Hid (∀ w', Below w4.heap.size w4 w' → (w'.cell? ⟨w3.heap.size, 0, none⟩ = some (.int .i64 T.op) ∧ w'.cell? ⟨w3.heap.size, 1, none⟩ = some (.int .i64 T.n) ∧ w'.cell? ⟨w3.heap.size, 2, none⟩ = some (.slice pa T.kids.length pc) ∧ w'.cell? ⟨g4, 0, none⟩ = some (.int .u8 (T.op % 256)) ∧ w'.cell? ⟨g4, 9, none⟩ = some (.int .u8 (T.kids.length : Int)))) := fun w' hw =>
      ⟨(hw.cell (p := ⟨w3.heap.size, 0, none⟩) (by show w3.heap.size < _; omega)).trans b0, (hw.cell (p := ⟨w3.heap.size, 1, none⟩) (by show w3.heap.size < _; omega)).trans b1, (hw.cell (p := ⟨w3.heap.size, 2, none⟩) (by show w3.heap.size < _; omega)).trans b2, (hw.cell (p := ⟨g4, 0, none⟩) hg4lt).trans e0, (hw.cell (p := ⟨g4, 9, none⟩) hg4lt).trans e9⟩
    go_region_held3 (fun w' => w'.cell? ⟨w3.heap.size, 0, none⟩ = some (.int .i64 T.op) ∧ w'.cell? ⟨w3.heap.size, 1, none⟩ = some (.int .i64 T.n) ∧ w'.cell? ⟨w3.heap.size, 2, none⟩ = some (.slice pa T.kids.length pc) ∧ w'.cell? ⟨g4, 0, none⟩ = some (.int .u8 (T.op % 256)) ∧ w'.cell? ⟨g4, 9, none⟩ = some (.int .u8 (T.kids.length : Int)))
      (first | exact HSS.out _ (Below.refl _ _).drew | exact HSS.out _ HB5.out)
      (first | (go_at_call 19; refine (size_any w3.heap.size (g + 1) T _ _ (TmAt.below HT4.out (Below.refl w4.heap.size _).drew (by omega) (Nat.le_refl _)) (by show w3.heap.size ≤ w4.heap.size; omega) (by omega)).mono ?_; rintro e w5 ⟨rfl, hb5⟩; have HB5 : Hid (Below w4.heap.size w4 w5) := (Below.refl w4.heap.size _).drew.trans hb5; clear hb5))
    have HS5 : Hid (∀ w', Below w4.heap.size w4 w' → (w'.cell? ⟨w3.heap.size, 1, none⟩ = some (.int .i64 T.n) ∧ w'.cell? ⟨g4, 1, none⟩ = some (.int .u8 (IntKind.u64.wrap T.n % 256)) ∧ w'.cell? ⟨g4, 2, none⟩ = some (.int .u8 (IntKind.u64.wrap T.n / 256 % 256)) ∧ w'.cell? ⟨g4, 3, none⟩ = some (.int .u8 (IntKind.u64.wrap T.n / 65536 % 256)) ∧ w'.cell? ⟨g4, 4, none⟩ = some (.int .u8 (IntKind.u64.wrap T.n / 16777216 % 256)) ∧ w'.cell? ⟨g4, 5, none⟩ = some (.int .u8 (IntKind.u64.wrap T.n / 4294967296 % 256)) ∧ w'.cell? ⟨g4, 6, none⟩ = some (.int .u8 (IntKind.u64.wrap T.n / 1099511627776 % 256)) ∧ w'.cell? ⟨g4, 7, none⟩ = some (.int .u8 (IntKind.u64.wrap T.n / 281474976710656 % 256)) ∧ w'.cell? ⟨g4, 8, none⟩ = some (.int .u8 (IntKind.u64.wrap T.n / 72057594037927936 % 256)))) := fun w' hw => ⟨(hw.cell (p := ⟨w3.heap.size, 1, none⟩) (by show w3.heap.size < _; omega)).trans b1, (hw.cell (p := ⟨g4, 1, none⟩) hg4lt).trans e1, (hw.cell (p := ⟨g4, 2, none⟩) hg4lt).trans e2, (hw.cell (p := ⟨g4, 3, none⟩) hg4lt).trans e3, (hw.cell (p := ⟨g4, 4, none⟩) hg4lt).trans e4, (hw.cell (p := ⟨g4, 5, none⟩) hg4lt).trans e5, (hw.cell (p := ⟨g4, 6, none⟩) hg4lt).trans e6, (hw.cell (p := ⟨g4, 7, none⟩) hg4lt).trans e7, (hw.cell (p := ⟨g4, 8, none⟩) hg4lt).trans e8⟩
    obtain ⟨k1, q1, q2, q3, q4, q5, q6, q7, q8⟩ := HS5.out w5 HB5.out
    go_wp2_with fail
    have wi0 : IntKind.i64.wrap 0 = 0 := by decide +kernel
    have wi1 : IntKind.i64.wrap 1 = 1 := by decide +kernel
    have wi2 : IntKind.i64.wrap 2 = 2 := by decide +kernel
    have wi3 : IntKind.i64.wrap 3 = 3 := by decide +kernel
    have wi4 : IntKind.i64.wrap 4 = 4 := by decide +kernel
    have wi5 : IntKind.i64.wrap 5 = 5 := by decide +kernel
    have wi6 : IntKind.i64.wrap 6 = 6 := by decide +kernel
    have wi7 : IntKind.i64.wrap 7 = 7 := by decide +kernel
    have wi8 : IntKind.i64.wrap 8 = 8 := by decide +kernel
    have wi16 : IntKind.i64.wrap 16 = 16 := by decide +kernel
    have wi24 : IntKind.i64.wrap 24 = 24 := by decide +kernel
    have wi32 : IntKind.i64.wrap 32 = 32 := by decide +kernel
    have wi40 : IntKind.i64.wrap 40 = 40 := by decide +kernel
    have wi48 : IntKind.i64.wrap 48 = 48 := by decide +kernel
    have wi56 : IntKind.i64.wrap 56 = 56 := by decide +kernel
    have wu0 : IntKind.u64.wrap 0 = 0 := by decide +kernel
    have wu8 : IntKind.u64.wrap 8 = 8 := by decide +kernel
    have wu16 : IntKind.u64.wrap 16 = 16 := by decide +kernel
    have wu24 : IntKind.u64.wrap 24 = 24 := by decide +kernel
    have wu32 : IntKind.u64.wrap 32 = 32 := by decide +kernel
    have wu40 : IntKind.u64.wrap 40 = 40 := by decide +kernel
    have wu48 : IntKind.u64.wrap 48 = 48 := by decide +kernel
    have wu56 : IntKind.u64.wrap 56 = 56 := by decide +kernel
    refine wp_loop_rounds 9 ?_
    iterate 8 (rw [rounds_succ]; go_wp2_with fail; go_region_held3 (fun w' => w'.cell? ⟨w3.heap.size, 1, none⟩ = some (.int .i64 T.n) ∧ w'.cell? ⟨g4, 1, none⟩ = some (.int .u8 (IntKind.u64.wrap T.n % 256)) ∧ w'.cell? ⟨g4, 2, none⟩ = some (.int .u8 (IntKind.u64.wrap T.n / 256 % 256)) ∧ w'.cell? ⟨g4, 3, none⟩ = some (.int .u8 (IntKind.u64.wrap T.n / 65536 % 256)) ∧ w'.cell? ⟨g4, 4, none⟩ = some (.int .u8 (IntKind.u64.wrap T.n / 16777216 % 256)) ∧ w'.cell? ⟨g4, 5, none⟩ = some (.int .u8 (IntKind.u64.wrap T.n / 4294967296 % 256)) ∧ w'.cell? ⟨g4, 6, none⟩ = some (.int .u8 (IntKind.u64.wrap T.n / 1099511627776 % 256)) ∧ w'.cell? ⟨g4, 7, none⟩ = some (.int .u8 (IntKind.u64.wrap T.n / 281474976710656 % 256)) ∧ w'.cell? ⟨g4, 8, none⟩ = some (.int .u8 (IntKind.u64.wrap T.n / 72057594037927936 % 256))) (exact HS5.out _ (by repeat (first | (with_reducible exact HB5.out) | (with_reducible refine Below.drew ?_)))) (fail); go_wp2_with fail)
    rw [rounds_succ]
    go_wp2_with fail
    clear k1 q1 q2 q3 q4 q5 q6 q7 q8
    go_loopw [6, 7] (fun at6 i wr => ∃ k A : Nat, k ≤ T.kids.length ∧ i = .int .i64 k ∧ at6 = .int .i64 A ∧ Hid (A = szTo T k * 10) ∧ Below w4.heap.size w4 wr) (fun _ i _ => T.kids.length - (intOf i).toNat)
    case atStart => exact ⟨0, 10, Nat.zero_le _, rfl, rfl, rfl, by repeat (first | (with_reducible exact HB5.out) | (with_reducible refine Below.drew ?_))⟩
    case round =>
      obtain ⟨k, A, hk, rfl, rfl, HA, hb⟩ := hrel
      have HB := hide hb
      have m2 : wr.cell? ⟨w3.heap.size, 2, none⟩ = some (.slice pa T.kids.length pc) := (hb.cell (p := ⟨w3.heap.size, 2, none⟩) (by show w3.heap.size < _; omega)).trans b2
      have hbs := hb.size
      clear hb
      have hAle : A ≤ T.size * 10 := by have h1 := HA.out; have h2 := szTo_le T k; omega
      by_cases hlt : k < T.kids.length
      · obtain ⟨b, off, rfl, hbB, hx⟩ := HR4.out.2.2 (by intro h; simp [h] at hlt)
        obtain ⟨x0, x1, x2, f0, f1, f2, hr⟩ := hx k hlt
        have g0 : wr.cell? ⟨b, off + k * 3, none⟩ = some x0 := by rw [HB.out.cell (by show b < _; omega)]; exact f0
        have g1 : wr.cell? ⟨b, off + k * 3 + 1, none⟩ = some x1 := by rw [HB.out.cell (by show b < _; omega)]; exact f1
        have g2 : wr.cell? ⟨b, off + k * 3 + 2, none⟩ = some x2 := by rw [HB.out.cell (by show b < _; omega)]; exact f2
        have HTK : Hid (TmAt wr w3.heap.size g T.kids[k] (.agg #[x0, x1, x2])) := TmAt.below hr HB.out (by omega) (Nat.le_refl _)
        have HZS := hide (szTo_succ T k hlt)
        have HZL := hide (szTo_le T (k + 1))
        have HEN := hide (enc_at T k hlt)
        have HNK : Hid (∀ x ∈ T.kids[k].pre, x.kids.length ≤ 255) := fun x hx => (HN.out x (mem_pre_kid (List.getElem_mem hlt) hx)).2.2.2
        clear hx f0 f1 f2 hr
        have hK1 := (T.kids[k]).size_pos
        have hK2 : A + (T.kids[k]).size * 10 ≤ T.size * 10 := by have h1 := HA.out; have h2 := HZS.out; have h3 := HZL.out; omega
        generalize hKe : T.kids[k] = K at *
        have HKE := hide hKe
        clear hKe
        go_wp2_with fail
        refine (bytes_any w3.heap.size g K _ _ HTK.out (by omega) (by omega) HNK.out).mono ?_
        rintro e w6 ⟨r6, rfl, ⟨g6, rfl, hg6, hh6⟩, hb6⟩
        have hl6 : (enc K).length = K.size * 10 := enc_length K
        have HB6 : Hid (Below w4.heap.size w4 w6) := HB.out.trans (hb6.mono hbs)
        have HC6 : Hid (∀ w', Below w6.heap.size w6 w' → ((convert 32 9 (.slice (some ⟨g4, A, none⟩) (K.size * 10) (T.size * 10 - A))).run Try.prog w' = .ok (.string (strOfNums (enc K))) w' ∧ (convert 32 9 (.slice (some ⟨g6, 0, none⟩) (K.size * 10) (K.size * 10))).run Try.prog w' = .ok (.string (strOfNums (enc K))) w')) := fun w' hw => by
          refine ⟨conv_mid ((HB6.out.block g4 (size_of_block HG4.out)).trans HG4.out) hl6 (fun i hi => ?_) hw, ?_⟩
          · have h1 := HEN.out i (by rw [hl6]; exact hi)
            rw [HA.out]
            exact h1
          · have h1 := conv_any hh6 hw
            rw [hl6] at h1
            exact h1
        have m3 : w6.cell? ⟨w3.heap.size, 2, none⟩ = some (.slice (some ⟨b, off, none⟩) T.kids.length pc) := (HB6.out.cell (p := ⟨w3.heap.size, 2, none⟩) (by show w3.heap.size < _; omega)).trans b2
        rw [hl6]
        clear hh6 hb6 hl6 m2 g0 g1 g2
        have t1 : ((A : Int) + (K.size : Int) * 10).toNat = A + K.size * 10 := by omega
        have t2 : (0 : Int) ≤ (A : Int) := by omega
        have t3 : (A : Int) ≤ (A : Int) + (K.size : Int) * 10 := by omega
        have t4 : (A : Int) + (K.size : Int) * 10 ≤ (T.size : Int) * 10 := by omega
        have t5 : ¬ T.size * 10 = A := by omega
        have t7 : decide ((T.size : Int) * 10 < (A : Int) + (K.size : Int) * 10) = false := decide_eq_false (by omega)
        have t6 : IntKind.i64.wrap ((A : Int) + (K.size : Int) * 10) = (A : Int) + (K.size : Int) * 10 := by rw [IntKind.wrap_i64]; omega
        go_wp2_with fail
        go_region_held3 (fun w' => (convert 32 9 (.slice (some ⟨g4, A, none⟩) (K.size * 10) (T.size * 10 - A))).run Try.prog w' = .ok (.string (strOfNums (enc K))) w' ∧ (convert 32 9 (.slice (some ⟨g6, 0, none⟩) (K.size * 10) (K.size * 10))).run Try.prog w' = .ok (.string (strOfNums (enc K))) w') (exact HC6.out _ (Below.refl _ _).drew) (fail)
        go_wp2_with fail
        go_roundw
        case rel => exact ⟨k + 1, A + K.size * 10, by omega, by go_num, by go_num, by have h1 := HZS.out; have h2 := HA.out; show A + K.size * 10 = szTo T (k + 1) * 10; omega, HB6.out.drew⟩
        case measure => simp [intOf]; omega
      · have hAe : A = T.size * 10 := by
          have h1 := HA.out
          rw [show k = T.kids.length by omega, szTo_end] at h1
          exact h1
        have t8 : ((A : Int) == (T.size : Int) * 10) = true := beq_iff_eq.2 (by omega)
        have HAE := hide hAe
        clear hAe
        go_wp2_with fail
        go_ret
        exact ⟨rfl, HBL4.out.trans (HB.out.mono (by omega))⟩
  · rw [decide_eq_false hq1]
    go_wp2_with fail
    go_ret
    exact ⟨rfl, HBL2.out⟩
#print axioms places_any
end Go.Proofs.Ytafafeplciidhaa
