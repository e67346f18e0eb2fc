/- CodeUnlike: the walk of the statement's function. -/
import Derived.Test.YtafafeplciidhaaInj
import Derived.Test.YtafafeplciidhaaReg
import Derived.Test.YtafafeplciidhaaSm
import Derived.Test.YtafafeplciidhaaWk
import Derived.Deep.DeepCutAuto
import Derived.Laws.BytesArg
namespace Go.Proofs.Ytafafeplciidhaa
open Go.RowKit

attribute [local go_sem ↓] Go.wp_at_zero Go.wp_at_succ

/-- Three cells of a block, in a later world. -/
theorem cells3 {w w' : World} {B b : Nat} {x y z : Value} {T : TypeId} (h : Below B w w') (hb : w.heap[b]? = some (.cells #[x, y, z] T (0, 0))) (hB : b < B) :
    w'.cell? ⟨b, 0, none⟩ = some x ∧ w'.cell? ⟨b, 1, none⟩ = some y ∧ w'.cell? ⟨b, 2, none⟩ = some z := by
  have h1 := (h.block b hB).trans hb
  refine ⟨?_, ?_, ?_⟩ <;> (rw [cell_of_block h1]; rfl)

theorem bcell {W w1 : World} (hb : Below W.heap.size W w1) : (∀ b o, b < W.heap.size → w1.cell? ⟨b, o, none⟩ = W.cell? ⟨b, o, none⟩) ∧ (∀ b o, b < W.heap.size → w1.frozen? ⟨b, o, none⟩ = W.frozen? ⟨b, o, none⟩) :=
  ⟨fun b o h => hb.cell (p := ⟨b, o, none⟩) h, fun b o h => hb.frozen (p := ⟨b, o, none⟩) h⟩

theorem hp_drew (w : World) : w.drew.heap = w.heap := rfl
theorem sz_set (w : World) (a : Addr) (v : Value) : (w.setCell a v).heap.size = w.heap.size := by simp [World.setCell]

theorem tm_raw {w : World} {D : Nat → Prop} {f : Nat} : ∀ {t : Tr} {v : Value}, TmD w D f t v → Raw64 t := by
  induction f with
  | zero => intro t v h; exact h.elim
  | succ f ih =>
    rintro t v ⟨a, cap, rfl, _, hn, hrow⟩ x hx
    rw [Tr.pre_eq] at hx
    rcases List.mem_cons.1 hx with rfl | hx
    · exact hn
    · obtain ⟨l, hl, hx⟩ := List.mem_flatten.1 hx
      obtain ⟨k, hk, rfl⟩ := List.mem_map.1 hl
      obtain ⟨i, hi, rfl⟩ := List.getElem_of_mem hk
      obtain ⟨b, off, _, _, hr⟩ := hrow.2.2 (fun e => by rw [e] at hi; exact absurd hi (by simp))
      obtain ⟨x0, x1, x2, _, _, _, hr⟩ := hr i hi
      exact ih hr x hx

/-- A row of bytes as a string, in whatever later world. -/
theorem conv_any {w w' : World} {g : Nat} {l : List Int} (hg : w.heap[g]? = some (.cells (bys l).toArray 5 (0, 0))) (hb : Below w.heap.size w w') :
    (convert 32 9 (.slice (some ⟨g, 0, none⟩) l.length l.length)).run Try.prog w' = .ok (.string (strOfNums l)) w' := by
  have h1 := (hb.block g (size_of_block hg)).trans hg
  refine run_convert_bytes_arg w' 32 5 Try.underlying32 Try.underlying5 g 0 l.length l.length l rfl (fun i hi => ?_) 9 Try.underlying9
  rw [cell_of_block h1]
  simp [bys, List.getD, hi]

theorem strOf_inj {l l' : List Int} (h : ∀ x ∈ l, 0 ≤ x ∧ x < 256) (h' : ∀ x ∈ l', 0 ≤ x ∧ x < 256) (e : strOfNums l = strOfNums l') : l = l' := by
  have e1 : l.map (fun n => UInt8.ofNat n.toNat) = l'.map (fun n => UInt8.ofNat n.toNat) := by
    rw [← strOfNums_data, ← strOfNums_data, e]
  have hl : l.length = l'.length := by simpa using congrArg List.length e1
  refine List.ext_getElem hl (fun i h1 h2 => ?_)
  have e2 : (l.map (fun n => UInt8.ofNat n.toNat))[i]? = (l'.map (fun n => UInt8.ofNat n.toNat))[i]? := by rw [e1]
  simp only [List.getElem?_map, List.getElem?_eq_getElem h1, List.getElem?_eq_getElem h2, Option.map_some, Option.some.injEq] at e2
  have a1 := h _ (List.getElem_mem h1)
  have a2 := h' _ (List.getElem_mem h2)
  have e3 := congrArg UInt8.toNat e2
  simp only [UInt8.toNat_ofNat'] at e3
  omega

theorem hd_range (x : Tr) (hx : Node x) : ∀ y ∈ hd x.op x.n x.kids.length, 0 ≤ y ∧ y < 256 := by
  obtain ⟨a1, a2, a3, a4⟩ := hx
  intro y hy
  simp only [hd, List.mem_cons, List.not_mem_nil, or_false] at hy
  rcases hy with rfl | rfl | rfl | rfl | rfl | rfl | rfl | rfl | rfl | rfl <;> omega

theorem enc_range (t : Tr) (ht : ∀ x ∈ t.pre, Node x) : ∀ y ∈ enc t, 0 ≤ y ∧ y < 256 := by
  intro y hy
  unfold enc encL at hy
  obtain ⟨l, hl, hy⟩ := List.mem_flatten.1 hy
  obtain ⟨x, hx, rfl⟩ := List.mem_map.1 hl
  exact hd_range x (ht x hx) y hy

theorem law_eq {t s : Tr} {r : Bool} (ht : ∀ x ∈ t.pre, Node x) (hs : ∀ x ∈ s.pre, Node x) (hr : r = true ↔ t = s) : (((strOfNums (enc t)).toList == (strOfNums (enc s)).toList) == r) = true := by
  by_cases h : t = s
  · subst h
    rw [hr.2 rfl]
    simp
  · have h1 : r = false := by cases r; rfl; exact absurd (hr.1 rfl) h
    have h2 : ((strOfNums (enc t)).toList == (strOfNums (enc s)).toList) = false := by
      rw [beq_eq_false_iff_ne]
      intro e
      refine h (enc_inj t s ht hs (strOf_inj (enc_range t ht) (enc_range s hs) ?_))
      rw [ByteArray.toList_eq, ByteArray.toList_eq] at e
      have h3 : (strOfNums (enc t)).data = (strOfNums (enc s)).data := Array.toList_inj.1 e
      cases h4 : strOfNums (enc t)
      cases h5 : strOfNums (enc s)
      rw [h4, h5] at h3
      simp only at h3
      rw [h3]
    rw [h1, h2]
    rfl

/-- A new variable of type Tm. -/
def Z29 : Obj := .cells #[.int .i64 0, .int .i64 0, .slice none 0 0] 29 (0, 0)

theorem zb {W w4 : World} {b : Nat} (h : Below W.heap.size W w4) (hz : W.heap[b]? = some Z29) : Hid (w4.heap[b]? = some Z29) := (h.block b (size_of_block hz)).trans hz
theorem zkeep {w : World} {b : Nat} (o : Obj) (h : w.heap[b]? = some Z29) : (w.alloc o).heap[b]? = some Z29 := (Below.heap_alloc w o b (size_of_block h)).trans h
theorem znew1 (w : World) (o : Obj) : ((w.alloc o).alloc Z29).heap[w.heap.size + 1]? = some Z29 := by
  have := heap_alloc_new (w.alloc o) Z29
  rw [World.size_alloc] at this
  exact this

theorem zfacts {w : World} {b : Nat} (h : w.heap[b]? = some Z29) :
    w.cell? ⟨b, 0, none⟩ = some (.int .i64 0) ∧ w.cell? ⟨b, 1, none⟩ = some (.int .i64 0) ∧ w.cell? ⟨b, 2, none⟩ = some (.slice none 0 0) ∧ w.frozen? ⟨b, 0, none⟩ = false ∧ w.frozen? ⟨b, 1, none⟩ = false ∧ w.frozen? ⟨b, 2, none⟩ = false := by
  refine ⟨?_, ?_, ?_, frozen_of_block h 0, frozen_of_block h 1, frozen_of_block h 2⟩ <;> (rw [cell_of_block h]; rfl)

theorem zfactsA {w : World} {b : Nat} (h : w.heap[b]? = some Z29) :
    (∀ o, (w.alloc o).cell? ⟨b, 0, none⟩ = some (.int .i64 0)) ∧ (∀ o, (w.alloc o).cell? ⟨b, 1, none⟩ = some (.int .i64 0)) ∧ (∀ o, (w.alloc o).cell? ⟨b, 2, none⟩ = some (.slice none 0 0)) ∧ (∀ o, (w.alloc o).frozen? ⟨b, 0, none⟩ = false) ∧ (∀ o, (w.alloc o).frozen? ⟨b, 1, none⟩ = false) ∧ (∀ o, (w.alloc o).frozen? ⟨b, 2, none⟩ = false) :=
  ⟨fun o => (zfacts (zkeep o h)).1, fun o => (zfacts (zkeep o h)).2.1, fun o => (zfacts (zkeep o h)).2.2.1, fun o => (zfacts (zkeep o h)).2.2.2.1, fun o => (zfacts (zkeep o h)).2.2.2.2.1, fun o => (zfacts (zkeep o h)).2.2.2.2.2⟩

/-- What region 5 leaves. -/
def Two (w : World) (g : Nat) (t s : Tr) (s5 s6 : Value) (wc : World) : Prop :=
  ∃ (ba bb : Nat) (x0 x1 x2 y0 y1 y2 : Value), s5 = .pointer (some ⟨ba, 0, none⟩) ∧ s6 = .pointer (some ⟨bb, 0, none⟩) ∧ wc.cell? ⟨ba, 0, none⟩ = some x0 ∧ wc.cell? ⟨ba, 1, none⟩ = some x1 ∧ wc.cell? ⟨ba, 2, none⟩ = some x2 ∧
    wc.cell? ⟨bb, 0, none⟩ = some y0 ∧ wc.cell? ⟨bb, 1, none⟩ = some y1 ∧ wc.cell? ⟨bb, 2, none⟩ = some y2 ∧
    TmAt wc wc.heap.size g t.plain (.agg #[x0, x1, x2]) ∧ TmAt wc wc.heap.size g s.plain (.agg #[y0, y1, y2]) ∧ Below w.heap.size w wc

set_option linter.unusedSimpArgs false in
set_option maxRecDepth 20000 in
set_option maxHeartbeats 4000000 in
theorem unlike_any (B f : Nat) (t s : Tr) (v u : Value) (w : World) (ht : TmAt w B f t v) (hs : TmAt w B f s u) (hB : B ≤ w.heap.size) :
    Calls Try.prog 7 #[v, u] w fun e w' => e = .returned (.bool true) ∧ Below w.heap.size w w' := by
  have HT := hide ht; have HS := hide hs
  obtain ⟨g, rfl⟩ : ∃ g, f = g + 1 := by cases f with | zero => exact ht.elim | succ g => exact ⟨g, rfl⟩
  obtain ⟨a, cap, rfl, hop, hn, hrow⟩ := ht
  obtain ⟨a', cap', rfl, hop', hn', hrow'⟩ := hs
  clear hrow hrow' hop hn hop' hn'
  go_enter Try.func7, Try.ntmps7
  go_wp2_with fail
  refine (known_any _).mono ?_
  rintro e w1 ⟨rfl, hb1⟩
  have hbx : ((w.alloc (.cells #[.int .i64 t.op, .int .i64 t.n, .slice a t.kids.length cap] 24)).alloc (.cells #[.int .i64 s.op, .int .i64 s.n, .slice a' s.kids.length cap'] 24)).heap[w.heap.size]? = some (.cells #[.int .i64 t.op, .int .i64 t.n, .slice a t.kids.length cap] 24 (0, 0)) := by
    rw [Below.heap_alloc _ _ _ (by simp)]; exact heap_alloc_new w _
  have hby : ((w.alloc (.cells #[.int .i64 t.op, .int .i64 t.n, .slice a t.kids.length cap] 24)).alloc (.cells #[.int .i64 s.op, .int .i64 s.n, .slice a' s.kids.length cap'] 24)).heap[w.heap.size + 1]? = some (.cells #[.int .i64 s.op, .int .i64 s.n, .slice a' s.kids.length cap'] 24 (0, 0)) := by
    have := heap_alloc_new (w.alloc (.cells #[.int .i64 t.op, .int .i64 t.n, .slice a t.kids.length cap] 24)) (.cells #[.int .i64 s.op, .int .i64 s.n, .slice a' s.kids.length cap'] 24)
    rw [World.size_alloc] at this
    exact this
  have hold : Below w.heap.size w ((w.alloc (.cells #[.int .i64 t.op, .int .i64 t.n, .slice a t.kids.length cap] 24)).alloc (.cells #[.int .i64 s.op, .int .i64 s.n, .slice a' s.kids.length cap'] 24)) := ((Below.refl _ _).alloc (Nat.le_refl _) _).alloc (by simp) _
  have hsz : ((w.alloc (.cells #[.int .i64 t.op, .int .i64 t.n, .slice a t.kids.length cap] 24)).alloc (.cells #[.int .i64 s.op, .int .i64 s.n, .slice a' s.kids.length cap'] 24)).heap.size = w.heap.size + 2 := by simp
  generalize (w.alloc (.cells #[.int .i64 t.op, .int .i64 t.n, .slice a t.kids.length cap] 24)).alloc (.cells #[.int .i64 s.op, .int .i64 s.n, .slice a' s.kids.length cap'] 24) = W at *
  rw [hsz] at hb1
  have HX := hide hbx; have HY := hide hby; have HO := hide hold; have HB1 := hide hb1; have HZ := hide hsz
  clear hbx hby hold hb1 hsz
  obtain ⟨c0, c1, c2⟩ := cells3 HB1.out HX.out (by omega)
  have hs1 : w.heap.size + 2 ≤ w1.heap.size := by have := HB1.out.size; rw [HZ.out] at this; exact this
  have HBL1 : Hid (Below w.heap.size w w1) := HO.out.trans (HB1.out.mono (by omega))
  go_wp2_with fail
  refine (few_any B (g + 1) t _ _ (TmAt.below HT.out HBL1.out hB (Nat.le_refl _)) (by omega)).mono ?_
  rintro e w2 ⟨rfl, hb2⟩
  have HB2 : Hid (Below (w.heap.size + 2) W w2) := HB1.out.trans (hb2.mono hs1)
  have hs2 : w1.heap.size ≤ w2.heap.size := hb2.size
  clear hb2
  have HBL2 : Hid (Below w.heap.size w w2) := HO.out.trans (HB2.out.mono (by omega))
  obtain ⟨d0, d1, d2⟩ := cells3 HB2.out HY.out (by omega)
  clear c0 c1 c2
  by_cases hq1 : t.size < 300
  · rw [decide_eq_true hq1]
    go_wp2_with fail
    refine (few_any B (g + 1) s _ _ (TmAt.below HS.out HBL2.out hB (Nat.le_refl _)) (by omega)).mono ?_
    rintro e w3 ⟨rfl, hb3⟩
    have HB3 : Hid (Below (w.heap.size + 2) W w3) := HB2.out.trans (hb3.mono (by omega))
    have hs3 : w2.heap.size ≤ w3.heap.size := hb3.size
    clear hb3
    have HBL3 : Hid (Below w.heap.size w w3) := HO.out.trans (HB3.out.mono (by omega))
    obtain ⟨c0, c1, c2⟩ := cells3 HB3.out HX.out (by omega)
    clear d0 d1 d2
    obtain ⟨d0, d1, d2⟩ := cells3 HB3.out HY.out (by omega)
    by_cases hq2 : s.size < 300
    · rw [decide_eq_true hq2]
      go_wp2_with fail
      go_cut [5, 6] (fun s5 s6 wc => Two w (g + 1) t s s5 s6 wc)
      case first =>
        have HSS : Hid (∀ w', Below (w.heap.size + 2) W w' → (w'.cell? ⟨w.heap.size, 0, none⟩ = some (.int .i64 t.op) ∧ w'.cell? ⟨w.heap.size, 1, none⟩ = some (.int .i64 t.n) ∧ w'.cell? ⟨w.heap.size, 2, none⟩ = some (.slice a t.kids.length cap) ∧
            w'.cell? ⟨w.heap.size + 1, 0, none⟩ = some (.int .i64 s.op) ∧ w'.cell? ⟨w.heap.size + 1, 1, none⟩ = some (.int .i64 s.n) ∧ w'.cell? ⟨w.heap.size + 1, 2, none⟩ = some (.slice a' s.kids.length cap'))) := fun w' hw => by
          obtain ⟨m0, m1, m2⟩ := cells3 hw HX.out (by omega)
          obtain ⟨n0, n1, n2⟩ := cells3 hw HY.out (by omega)
          exact ⟨m0, m1, m2, n0, n1, n2⟩
        go_region_held3 (fun w' => w'.cell? ⟨w.heap.size, 0, none⟩ = some (.int .i64 t.op) ∧ w'.cell? ⟨w.heap.size, 1, none⟩ = some (.int .i64 t.n) ∧ w'.cell? ⟨w.heap.size, 2, none⟩ = some (.slice a t.kids.length cap) ∧
            w'.cell? ⟨w.heap.size + 1, 0, none⟩ = some (.int .i64 s.op) ∧ w'.cell? ⟨w.heap.size + 1, 1, none⟩ = some (.int .i64 s.n) ∧ w'.cell? ⟨w.heap.size + 1, 2, none⟩ = some (.slice a' s.kids.length cap'))
          (exact HSS.out _ (by repeat (first | (with_reducible exact HB5.out) | (with_reducible exact HB4.out) | (with_reducible exact HB3.out) | (with_reducible refine Below.drew ?_) | (with_reducible refine Below.setCell ?_ ?_ _; rotate_left; focus (dsimp only; omega)) | (with_reducible refine Below.alloc ?_ ?_ _; rotate_left; focus (first | omega | (simp; done) | (simp; omega)))))) (first | (go_at_call_of 11 (Value.agg #[.int .i64 t.op, .int .i64 t.n, .slice a t.kids.length cap]); refine (plain_any B (g + 1) t _ _ (TmAt.below HT.out (by repeat (first | (with_reducible exact HBL4.out) | (with_reducible exact HBL3.out) | (with_reducible refine Below.drew ?_) | (with_reducible refine Below.alloc ?_ ?_ _; rotate_left; focus (first | omega | (simp; done) | (simp; omega))))) hB (Nat.le_refl _)) (by first | omega | (simp; done) | (simp; omega))).mono ?_; rintro e w4 ⟨p0, p1, pa, pl, pc, rfl, htm4, hb4⟩; have HBL4 : Hid (Below w.heap.size w w4) := Below.trans (by repeat (first | (with_reducible exact HBL4.out) | (with_reducible exact HBL3.out) | (with_reducible refine Below.drew ?_) | (with_reducible refine Below.alloc ?_ ?_ _; rotate_left; focus (first | omega | (simp; done) | (simp; omega))))) (hb4.mono (by first | omega | (simp; done) | (simp; omega))); have HB4 : Hid (Below (w.heap.size + 2) W w4) := Below.trans (by repeat (first | (with_reducible exact HB4.out) | (with_reducible exact HB3.out) | (with_reducible refine Below.drew ?_) | (with_reducible refine Below.alloc ?_ ?_ _; rotate_left; focus (first | omega | (simp; done) | (simp; omega))))) (hb4.mono (by first | omega | (simp; done) | (simp; omega))); obtain ⟨c3, c4, c5⟩ := cells3 HB4.out HX.out (by omega); obtain ⟨d3, d4, d5⟩ := cells3 HB4.out HY.out (by omega); (try (have z30 := zb (b := w3.heap.size) hb4 (by first | exact heap_alloc_new w3 _ | exact zkeep _ (heap_alloc_new w3 _)))); (try (have z31 := zb (b := w3.heap.size + 1) hb4 (by exact znew1 w3 _))); have hs4 := hb4.size; (try simp at hs4); have HT4 := hide htm4; have HH4 := hide hb4; clear htm4 hb4) | (go_at_call_of 11 (Value.agg #[.int .i64 s.op, .int .i64 s.n, .slice a' s.kids.length cap']); refine (plain_any B (g + 1) s _ _ (TmAt.below HS.out (by repeat (first | (with_reducible exact HBL4.out) | (with_reducible exact HBL3.out) | (with_reducible refine Below.drew ?_) | (with_reducible refine Below.alloc ?_ ?_ _; rotate_left; focus (first | omega | (simp; done) | (simp; omega))))) hB (Nat.le_refl _)) (by first | omega | (simp; done) | (simp; omega))).mono ?_; rintro e w5 ⟨q0, q1, qa, ql, qc, rfl, htm5, hb5⟩; have HBL5 : Hid (Below w.heap.size w w5) := Below.trans (by repeat (first | (with_reducible exact HBL4.out) | (with_reducible exact HBL3.out) | (with_reducible refine Below.drew ?_) | (with_reducible refine Below.alloc ?_ ?_ _; rotate_left; focus (first | omega | (simp; done) | (simp; omega))))) (hb5.mono (by first | omega | (simp; done) | (simp; omega))); have HB5 : Hid (Below (w.heap.size + 2) W w5) := Below.trans (by repeat (first | (with_reducible exact HB4.out) | (with_reducible exact HB3.out) | (with_reducible refine Below.drew ?_) | (with_reducible refine Below.alloc ?_ ?_ _; rotate_left; focus (first | omega | (simp; done) | (simp; omega))))) (hb5.mono (by first | omega | (simp; done) | (simp; omega))); obtain ⟨c6, c7, c8⟩ := cells3 HB5.out HX.out (by omega); obtain ⟨d6, d7, d8⟩ := cells3 HB5.out HY.out (by omega); (try (have y30 := zb (b := w3.heap.size) hb5 (by first | exact z30.out | exact zkeep _ z30.out); obtain ⟨y30a, y30b, y30c, y30d, y30e, y30f⟩ := zfacts y30.out; obtain ⟨y30g, y30h, y30i, y30j, y30k, y30l⟩ := zfactsA y30.out)); (try (have y31 := zb (b := w3.heap.size + 1) hb5 (by first | exact z31.out | exact zkeep _ z31.out); obtain ⟨y31a, y31b, y31c, y31d, y31e, y31f⟩ := zfacts y31.out; obtain ⟨y31g, y31h, y31i, y31j, y31k, y31l⟩ := zfactsA y31.out)); (try (have y40 := zb (b := w4.heap.size) hb5 (by first | exact heap_alloc_new w4 _ | exact zkeep _ (heap_alloc_new w4 _)); obtain ⟨y40a, y40b, y40c, y40d, y40e, y40f⟩ := zfacts y40.out; obtain ⟨y40g, y40h, y40i, y40j, y40k, y40l⟩ := zfactsA y40.out)); (try (have y41 := zb (b := w4.heap.size + 1) hb5 (by exact znew1 w4 _); obtain ⟨y41a, y41b, y41c, y41d, y41e, y41f⟩ := zfacts y41.out; obtain ⟨y41g, y41h, y41i, y41j, y41k, y41l⟩ := zfactsA y41.out)); have hs5 := hb5.size; (try simp at hs5); have HT5 := hide htm5; have HH5 := hide hb5; clear htm5 hb5))
        all_goals
          go_wp2_with fail
          go_meet
          case rel =>
            refine ⟨_, _, .int .i64 p0, .int .i64 p1, .slice pa pl pc, .int .i64 q0, .int .i64 q1, .slice qa ql qc, rfl, rfl, ?_, ?_, ?_, ?_, ?_, ?_, ?_, ?_, (by repeat (first | (with_reducible exact HBL5.out) | (with_reducible exact HBL4.out) | (with_reducible exact HBL3.out) | (with_reducible refine Below.drew ?_) | (with_reducible refine Below.setCell ?_ ?_ _; rotate_left; focus (dsimp only; omega)) | (with_reducible refine Below.alloc ?_ ?_ _; rotate_left; focus (first | omega | (simp only [hp_drew, sz_set, World.size_alloc]; omega)))))⟩
            · go_simp
            · go_simp
            · go_simp
            · go_simp
            · go_simp
            · go_simp
            · refine TmD.keep (w := w4) (fun k hk => ?_) (fun k hk => ?_) _ _ _ HT4.out
              · try simp only [hp_drew, World.size_alloc] at hk
                repeat (first | (with_reducible rfl) | rw [hp_drew] | rw [heap_setCell_other _ _ _ _ (by dsimp only; omega)] | rw [Below.heap_alloc _ _ _ (by first | omega | simp only [hp_drew, sz_set, World.size_alloc]; omega)] | rw [HH5.out.block _ (by first | omega | simp only [hp_drew, sz_set, World.size_alloc]; omega)])
              · try simp only [hp_drew, World.size_alloc, sz_set] at hk ⊢
                omega
            · refine TmD.keep (w := w5) (fun k hk => ?_) (fun k hk => ?_) _ _ _ HT5.out
              · try simp only [hp_drew, World.size_alloc] at hk
                repeat (first | (with_reducible rfl) | rw [hp_drew] | rw [heap_setCell_other _ _ _ _ (by dsimp only; omega)] | rw [Below.heap_alloc _ _ _ (by first | omega | simp only [hp_drew, sz_set, World.size_alloc]; omega)] | rw [HH5.out.block _ (by first | omega | simp only [hp_drew, sz_set, World.size_alloc]; omega)])
              · try simp only [hp_drew, World.size_alloc, sz_set] at hk ⊢
                omega
      case rest =>
        obtain ⟨ba, bb, x0, x1, x2, y0, y1, y2, rfl, rfl, c3, c4, c5, d3, d4, d5, hta, htb, hbl⟩ := hcut
        have HTA := hide hta; have HTB := hide htb; have HBL := hide hbl
        have HNA := hide (plain_node t (tm_raw HT.out)); have HNB := hide (plain_node s (tm_raw HS.out))
        have hza := plain_size t
        have hzb := plain_size s
        clear hta htb hbl c0 c1 c2 d0 d1 d2
        have hba : ba < wc.heap.size := World.block_lt_of_cell? wc ⟨ba, 0, none⟩ c3
        have hbb : bb < wc.heap.size := World.block_lt_of_cell? wc ⟨bb, 0, none⟩ d3
        go_wp2_with fail
        have HSS : Hid (∀ w', Below wc.heap.size wc w' → (w'.cell? ⟨ba, 0, none⟩ = some x0 ∧ w'.cell? ⟨ba, 1, none⟩ = some x1 ∧ w'.cell? ⟨ba, 2, none⟩ = some x2 ∧ w'.cell? ⟨bb, 0, none⟩ = some y0 ∧ w'.cell? ⟨bb, 1, none⟩ = some y1 ∧ w'.cell? ⟨bb, 2, none⟩ = some y2)) := fun w' hw =>
          ⟨(hw.cell (p := ⟨ba, 0, none⟩) hba).trans c3, (hw.cell (p := ⟨ba, 1, none⟩) hba).trans c4, (hw.cell (p := ⟨ba, 2, none⟩) hba).trans c5, (hw.cell (p := ⟨bb, 0, none⟩) hbb).trans d3, (hw.cell (p := ⟨bb, 1, none⟩) hbb).trans d4, (hw.cell (p := ⟨bb, 2, none⟩) hbb).trans d5⟩
        refine wp_region_inv (by kernel_rfl) (by kernel_rfl) (fun L a6 w' => ∃ v4 v21 v22 v23 v24 v25 v26 v27 v28 v29 v30 v31 : Value, a6 = { tmps := #[.agg #[.int .i64 t.op, .int .i64 t.n, .slice a t.kids.length cap], .agg #[.int .i64 s.op, .int .i64 s.n, .slice a' s.kids.length cap'], .pointer (some ⟨w.heap.size, 0, none⟩), .pointer (some ⟨w.heap.size + 1, 0, none⟩), v4, .pointer (some ⟨ba, 0, none⟩), .pointer (some ⟨bb, 0, none⟩), u7, u8, u9, u10, u11, u12, u13, u14, u15, u16, u17, u18, u19, u20, v21, v22, v23, v24, v25, v26, v27, v28, v29, v30, v31], defers := [] } ∧ Below wc.heap.size wc w' ∧ (L 0 = true → v21 = .agg #[x0, x1, x2]) ∧ (L 1 = true → ∃ g7, v22 = .slice (some ⟨g7, 0, none⟩) (enc t.plain).length (enc t.plain).length ∧ w'.heap[g7]? = some (.cells (bys (enc t.plain)).toArray 5 (0, 0))) ∧ (L 2 = true → v23 = .string (strOfNums (enc t.plain))) ∧ (L 3 = true → v24 = .agg #[y0, y1, y2]) ∧ (L 4 = true → ∃ g8, v25 = .slice (some ⟨g8, 0, none⟩) (enc s.plain).length (enc s.plain).length ∧ w'.heap[g8]? = some (.cells (bys (enc s.plain)).toArray 5 (0, 0))) ∧ (L 5 = true → v26 = .string (strOfNums (enc s.plain))) ∧ (L 6 = true → v27 = .bool ((strOfNums (enc t.plain)).toList == (strOfNums (enc s.plain)).toList)) ∧ (L 7 = true → v28 = .agg #[x0, x1, x2]) ∧ (L 8 = true → v29 = .agg #[y0, y1, y2]) ∧ (L 9 = true → ∃ r, v30 = .bool r ∧ (r = true ↔ t.plain = s.plain)) ∧ (L 10 = true → v31 = .bool true) ∧ (L 11 = true → v4 = .bool true)) ?_ ?_ ?_
        · refine ⟨_, _, _, _, _, _, _, _, _, _, _, _, rfl, (Below.refl _ _).drew, ?_, ?_, ?_, ?_, ?_, ?_, ?_, ?_, ?_, ?_, ?_, ?_⟩ <;> (intro h; cases h)
        · refine ⟨?_, ?_, ?_, ?_, ?_, ?_, ?_, ?_, ?_, ?_, ?_, ?_, trivial⟩
          · intro L a6 w6 K hl hd hI hK
            obtain ⟨v4, v21, v22, v23, v24, v25, v26, v27, v28, v29, v30, v31, rfl, hb, f0, f1, f2, f3, f4, f5, f6, f7, f8, f9, f10, f11⟩ := hI
            simp [Region.binds] at hd
            obtain ⟨k0, k1, k2, k3, k4, k5⟩ := HSS.out w6 hb
            have F0 := hide f0; clear f0; have F1 := hide f1; clear f1; have F2 := hide f2; clear f2; have F3 := hide f3; clear f3; have F4 := hide f4; clear f4; have F5 := hide f5; clear f5; have F6 := hide f6; clear f6; have F7 := hide f7; clear f7; have F8 := hide f8; clear f8; have F9 := hide f9; clear f9; have F10 := hide f10; clear f10; have F11 := hide f11; clear f11
            go_simp
            have f0 := F0.out; have f1 := F1.out; have f2 := F2.out; have f3 := F3.out; have f4 := F4.out; have f5 := F5.out; have f6 := F6.out; have f7 := F7.out; have f8 := F8.out; have f9 := F9.out; have f10 := F10.out; have f11 := F11.out
            exact hK _ _ ⟨_, _, _, _, _, _, _, _, _, _, _, _, rfl, hb, fun _ => rfl, fun h => f1 (by simpa [upd] using h), fun h => f2 (by simpa [upd] using h), fun h => f3 (by simpa [upd] using h), fun h => f4 (by simpa [upd] using h), fun h => f5 (by simpa [upd] using h), fun h => f6 (by simpa [upd] using h), fun h => f7 (by simpa [upd] using h), fun h => f8 (by simpa [upd] using h), fun h => f9 (by simpa [upd] using h), fun h => f10 (by simpa [upd] using h), fun h => f11 (by simpa [upd] using h)⟩
          · intro L a6 w6 K hl hd hI hK
            obtain ⟨v4, v21, v22, v23, v24, v25, v26, v27, v28, v29, v30, v31, rfl, hb, f0, f1, f2, f3, f4, f5, f6, f7, f8, f9, f10, f11⟩ := hI
            simp [Region.binds] at hd
            obtain rfl := f0 (by simp [hd])
            have F0 := hide f0; clear f0; have F1 := hide f1; clear f1; have F2 := hide f2; clear f2; have F3 := hide f3; clear f3; have F4 := hide f4; clear f4; have F5 := hide f5; clear f5; have F6 := hide f6; clear f6; have F7 := hide f7; clear f7; have F8 := hide f8; clear f8; have F9 := hide f9; clear f9; have F10 := hide f10; clear f10; have F11 := hide f11; clear f11
            have hsz := hb.size
            go_simp
            refine (bytes_any wc.heap.size (g + 1) t.plain _ _ (TmAt.below HTA.out hb (Nat.le_refl _) (Nat.le_refl _)) hsz (by omega) (fun x hx => (HNA.out x hx).2.2.2)).mono ?_
            rintro e w7 ⟨r7, rfl, ⟨g7, rfl, hg7, hh7⟩, hb7⟩
            have f0 := F0.out; have f1 := F1.out; have f2 := F2.out; have f3 := F3.out; have f4 := F4.out; have f5 := F5.out; have f6 := F6.out; have f7 := F7.out; have f8 := F8.out; have f9 := F9.out; have f10 := F10.out; have f11 := F11.out
            exact hK _ _ ⟨_, _, _, _, _, _, _, _, _, _, _, _, rfl, (hb.trans (hb7.mono hsz)), fun h => f0 (by simpa [upd] using h), fun _ => ⟨g7, rfl, hh7⟩, fun h => f2 (by simpa [upd] using h), fun h => f3 (by simpa [upd] using h), fun h => by obtain ⟨q, hq1, hq2⟩ := f4 (by simpa [upd] using h); exact ⟨q, hq1, (hb7.block q (size_of_block hq2)).trans hq2⟩, fun h => f5 (by simpa [upd] using h), fun h => f6 (by simpa [upd] using h), fun h => f7 (by simpa [upd] using h), fun h => f8 (by simpa [upd] using h), fun h => f9 (by simpa [upd] using h), fun h => f10 (by simpa [upd] using h), fun h => f11 (by simpa [upd] using h)⟩
          · intro L a6 w6 K hl hd hI hK
            obtain ⟨v4, v21, v22, v23, v24, v25, v26, v27, v28, v29, v30, v31, rfl, hb, f0, f1, f2, f3, f4, f5, f6, f7, f8, f9, f10, f11⟩ := hI
            simp [Region.binds] at hd
            obtain ⟨q, rfl, hq⟩ := f1 (by simp [hd])
            have cv := conv_any hq (Below.refl _ _)
            have F0 := hide f0; clear f0; have F1 := hide f1; clear f1; have F2 := hide f2; clear f2; have F3 := hide f3; clear f3; have F4 := hide f4; clear f4; have F5 := hide f5; clear f5; have F6 := hide f6; clear f6; have F7 := hide f7; clear f7; have F8 := hide f8; clear f8; have F9 := hide f9; clear f9; have F10 := hide f10; clear f10; have F11 := hide f11; clear f11
            go_simp
            have f0 := F0.out; have f1 := F1.out; have f2 := F2.out; have f3 := F3.out; have f4 := F4.out; have f5 := F5.out; have f6 := F6.out; have f7 := F7.out; have f8 := F8.out; have f9 := F9.out; have f10 := F10.out; have f11 := F11.out
            exact hK _ _ ⟨_, _, _, _, _, _, _, _, _, _, _, _, rfl, hb, fun h => f0 (by simpa [upd] using h), fun h => f1 (by simpa [upd] using h), fun _ => rfl, fun h => f3 (by simpa [upd] using h), fun h => f4 (by simpa [upd] using h), fun h => f5 (by simpa [upd] using h), fun h => f6 (by simpa [upd] using h), fun h => f7 (by simpa [upd] using h), fun h => f8 (by simpa [upd] using h), fun h => f9 (by simpa [upd] using h), fun h => f10 (by simpa [upd] using h), fun h => f11 (by simpa [upd] using h)⟩
          · intro L a6 w6 K hl hd hI hK
            obtain ⟨v4, v21, v22, v23, v24, v25, v26, v27, v28, v29, v30, v31, rfl, hb, f0, f1, f2, f3, f4, f5, f6, f7, f8, f9, f10, f11⟩ := hI
            simp [Region.binds] at hd
            obtain ⟨k0, k1, k2, k3, k4, k5⟩ := HSS.out w6 hb
            have F0 := hide f0; clear f0; have F1 := hide f1; clear f1; have F2 := hide f2; clear f2; have F3 := hide f3; clear f3; have F4 := hide f4; clear f4; have F5 := hide f5; clear f5; have F6 := hide f6; clear f6; have F7 := hide f7; clear f7; have F8 := hide f8; clear f8; have F9 := hide f9; clear f9; have F10 := hide f10; clear f10; have F11 := hide f11; clear f11
            go_simp
            have f0 := F0.out; have f1 := F1.out; have f2 := F2.out; have f3 := F3.out; have f4 := F4.out; have f5 := F5.out; have f6 := F6.out; have f7 := F7.out; have f8 := F8.out; have f9 := F9.out; have f10 := F10.out; have f11 := F11.out
            exact hK _ _ ⟨_, _, _, _, _, _, _, _, _, _, _, _, rfl, hb, fun h => f0 (by simpa [upd] using h), fun h => f1 (by simpa [upd] using h), fun h => f2 (by simpa [upd] using h), fun _ => rfl, fun h => f4 (by simpa [upd] using h), fun h => f5 (by simpa [upd] using h), fun h => f6 (by simpa [upd] using h), fun h => f7 (by simpa [upd] using h), fun h => f8 (by simpa [upd] using h), fun h => f9 (by simpa [upd] using h), fun h => f10 (by simpa [upd] using h), fun h => f11 (by simpa [upd] using h)⟩
          · intro L a6 w6 K hl hd hI hK
            obtain ⟨v4, v21, v22, v23, v24, v25, v26, v27, v28, v29, v30, v31, rfl, hb, f0, f1, f2, f3, f4, f5, f6, f7, f8, f9, f10, f11⟩ := hI
            simp [Region.binds] at hd
            obtain rfl := f3 (by simp [hd])
            have F0 := hide f0; clear f0; have F1 := hide f1; clear f1; have F2 := hide f2; clear f2; have F3 := hide f3; clear f3; have F4 := hide f4; clear f4; have F5 := hide f5; clear f5; have F6 := hide f6; clear f6; have F7 := hide f7; clear f7; have F8 := hide f8; clear f8; have F9 := hide f9; clear f9; have F10 := hide f10; clear f10; have F11 := hide f11; clear f11
            have hsz := hb.size
            go_simp
            refine (bytes_any wc.heap.size (g + 1) s.plain _ _ (TmAt.below HTB.out hb (Nat.le_refl _) (Nat.le_refl _)) hsz (by omega) (fun x hx => (HNB.out x hx).2.2.2)).mono ?_
            rintro e w7 ⟨r7, rfl, ⟨g7, rfl, hg7, hh7⟩, hb7⟩
            have f0 := F0.out; have f1 := F1.out; have f2 := F2.out; have f3 := F3.out; have f4 := F4.out; have f5 := F5.out; have f6 := F6.out; have f7 := F7.out; have f8 := F8.out; have f9 := F9.out; have f10 := F10.out; have f11 := F11.out
            exact hK _ _ ⟨_, _, _, _, _, _, _, _, _, _, _, _, rfl, (hb.trans (hb7.mono hsz)), fun h => f0 (by simpa [upd] using h), fun h => by obtain ⟨q, hq1, hq2⟩ := f1 (by simpa [upd] using h); exact ⟨q, hq1, (hb7.block q (size_of_block hq2)).trans hq2⟩, fun h => f2 (by simpa [upd] using h), fun h => f3 (by simpa [upd] using h), fun _ => ⟨g7, rfl, hh7⟩, fun h => f5 (by simpa [upd] using h), fun h => f6 (by simpa [upd] using h), fun h => f7 (by simpa [upd] using h), fun h => f8 (by simpa [upd] using h), fun h => f9 (by simpa [upd] using h), fun h => f10 (by simpa [upd] using h), fun h => f11 (by simpa [upd] using h)⟩
          · intro L a6 w6 K hl hd hI hK
            obtain ⟨v4, v21, v22, v23, v24, v25, v26, v27, v28, v29, v30, v31, rfl, hb, f0, f1, f2, f3, f4, f5, f6, f7, f8, f9, f10, f11⟩ := hI
            simp [Region.binds] at hd
            obtain ⟨q, rfl, hq⟩ := f4 (by simp [hd])
            have cv := conv_any hq (Below.refl _ _)
            have F0 := hide f0; clear f0; have F1 := hide f1; clear f1; have F2 := hide f2; clear f2; have F3 := hide f3; clear f3; have F4 := hide f4; clear f4; have F5 := hide f5; clear f5; have F6 := hide f6; clear f6; have F7 := hide f7; clear f7; have F8 := hide f8; clear f8; have F9 := hide f9; clear f9; have F10 := hide f10; clear f10; have F11 := hide f11; clear f11
            go_simp
            have f0 := F0.out; have f1 := F1.out; have f2 := F2.out; have f3 := F3.out; have f4 := F4.out; have f5 := F5.out; have f6 := F6.out; have f7 := F7.out; have f8 := F8.out; have f9 := F9.out; have f10 := F10.out; have f11 := F11.out
            exact hK _ _ ⟨_, _, _, _, _, _, _, _, _, _, _, _, rfl, hb, fun h => f0 (by simpa [upd] using h), fun h => f1 (by simpa [upd] using h), fun h => f2 (by simpa [upd] using h), fun h => f3 (by simpa [upd] using h), fun h => f4 (by simpa [upd] using h), fun _ => rfl, fun h => f6 (by simpa [upd] using h), fun h => f7 (by simpa [upd] using h), fun h => f8 (by simpa [upd] using h), fun h => f9 (by simpa [upd] using h), fun h => f10 (by simpa [upd] using h), fun h => f11 (by simpa [upd] using h)⟩
          · intro L a6 w6 K hl hd hI hK
            obtain ⟨v4, v21, v22, v23, v24, v25, v26, v27, v28, v29, v30, v31, rfl, hb, f0, f1, f2, f3, f4, f5, f6, f7, f8, f9, f10, f11⟩ := hI
            simp [Region.binds] at hd
            obtain rfl := f2 (by simp [hd])
            obtain rfl := f5 (by simp [hd])
            have F0 := hide f0; clear f0; have F1 := hide f1; clear f1; have F2 := hide f2; clear f2; have F3 := hide f3; clear f3; have F4 := hide f4; clear f4; have F5 := hide f5; clear f5; have F6 := hide f6; clear f6; have F7 := hide f7; clear f7; have F8 := hide f8; clear f8; have F9 := hide f9; clear f9; have F10 := hide f10; clear f10; have F11 := hide f11; clear f11
            go_simp
            have f0 := F0.out; have f1 := F1.out; have f2 := F2.out; have f3 := F3.out; have f4 := F4.out; have f5 := F5.out; have f6 := F6.out; have f7 := F7.out; have f8 := F8.out; have f9 := F9.out; have f10 := F10.out; have f11 := F11.out
            exact hK _ _ ⟨_, _, _, _, _, _, _, _, _, _, _, _, rfl, hb, fun h => f0 (by simpa [upd] using h), fun h => f1 (by simpa [upd] using h), fun h => f2 (by simpa [upd] using h), fun h => f3 (by simpa [upd] using h), fun h => f4 (by simpa [upd] using h), fun h => f5 (by simpa [upd] using h), fun _ => rfl, fun h => f7 (by simpa [upd] using h), fun h => f8 (by simpa [upd] using h), fun h => f9 (by simpa [upd] using h), fun h => f10 (by simpa [upd] using h), fun h => f11 (by simpa [upd] using h)⟩
          · intro L a6 w6 K hl hd hI hK
            obtain ⟨v4, v21, v22, v23, v24, v25, v26, v27, v28, v29, v30, v31, rfl, hb, f0, f1, f2, f3, f4, f5, f6, f7, f8, f9, f10, f11⟩ := hI
            simp [Region.binds] at hd
            obtain ⟨k0, k1, k2, k3, k4, k5⟩ := HSS.out w6 hb
            have F0 := hide f0; clear f0; have F1 := hide f1; clear f1; have F2 := hide f2; clear f2; have F3 := hide f3; clear f3; have F4 := hide f4; clear f4; have F5 := hide f5; clear f5; have F6 := hide f6; clear f6; have F7 := hide f7; clear f7; have F8 := hide f8; clear f8; have F9 := hide f9; clear f9; have F10 := hide f10; clear f10; have F11 := hide f11; clear f11
            go_simp
            have f0 := F0.out; have f1 := F1.out; have f2 := F2.out; have f3 := F3.out; have f4 := F4.out; have f5 := F5.out; have f6 := F6.out; have f7 := F7.out; have f8 := F8.out; have f9 := F9.out; have f10 := F10.out; have f11 := F11.out
            exact hK _ _ ⟨_, _, _, _, _, _, _, _, _, _, _, _, rfl, hb, fun h => f0 (by simpa [upd] using h), fun h => f1 (by simpa [upd] using h), fun h => f2 (by simpa [upd] using h), fun h => f3 (by simpa [upd] using h), fun h => f4 (by simpa [upd] using h), fun h => f5 (by simpa [upd] using h), fun h => f6 (by simpa [upd] using h), fun _ => rfl, fun h => f8 (by simpa [upd] using h), fun h => f9 (by simpa [upd] using h), fun h => f10 (by simpa [upd] using h), fun h => f11 (by simpa [upd] using h)⟩
          · intro L a6 w6 K hl hd hI hK
            obtain ⟨v4, v21, v22, v23, v24, v25, v26, v27, v28, v29, v30, v31, rfl, hb, f0, f1, f2, f3, f4, f5, f6, f7, f8, f9, f10, f11⟩ := hI
            simp [Region.binds] at hd
            obtain ⟨k0, k1, k2, k3, k4, k5⟩ := HSS.out w6 hb
            have F0 := hide f0; clear f0; have F1 := hide f1; clear f1; have F2 := hide f2; clear f2; have F3 := hide f3; clear f3; have F4 := hide f4; clear f4; have F5 := hide f5; clear f5; have F6 := hide f6; clear f6; have F7 := hide f7; clear f7; have F8 := hide f8; clear f8; have F9 := hide f9; clear f9; have F10 := hide f10; clear f10; have F11 := hide f11; clear f11
            go_simp
            have f0 := F0.out; have f1 := F1.out; have f2 := F2.out; have f3 := F3.out; have f4 := F4.out; have f5 := F5.out; have f6 := F6.out; have f7 := F7.out; have f8 := F8.out; have f9 := F9.out; have f10 := F10.out; have f11 := F11.out
            exact hK _ _ ⟨_, _, _, _, _, _, _, _, _, _, _, _, rfl, hb, fun h => f0 (by simpa [upd] using h), fun h => f1 (by simpa [upd] using h), fun h => f2 (by simpa [upd] using h), fun h => f3 (by simpa [upd] using h), fun h => f4 (by simpa [upd] using h), fun h => f5 (by simpa [upd] using h), fun h => f6 (by simpa [upd] using h), fun h => f7 (by simpa [upd] using h), fun _ => rfl, fun h => f9 (by simpa [upd] using h), fun h => f10 (by simpa [upd] using h), fun h => f11 (by simpa [upd] using h)⟩
          · intro L a6 w6 K hl hd hI hK
            obtain ⟨v4, v21, v22, v23, v24, v25, v26, v27, v28, v29, v30, v31, rfl, hb, f0, f1, f2, f3, f4, f5, f6, f7, f8, f9, f10, f11⟩ := hI
            simp [Region.binds] at hd
            obtain rfl := f7 (by simp [hd])
            obtain rfl := f8 (by simp [hd])
            have F0 := hide f0; clear f0; have F1 := hide f1; clear f1; have F2 := hide f2; clear f2; have F3 := hide f3; clear f3; have F4 := hide f4; clear f4; have F5 := hide f5; clear f5; have F6 := hide f6; clear f6; have F7 := hide f7; clear f7; have F8 := hide f8; clear f8; have F9 := hide f9; clear f9; have F10 := hide f10; clear f10; have F11 := hide f11; clear f11
            have hsz := hb.size
            go_simp
            refine (same_any wc.heap.size (g + 1) t.plain s.plain _ _ _ (TmAt.below HTA.out hb (Nat.le_refl _) (Nat.le_refl _)) (TmAt.below HTB.out hb (Nat.le_refl _) (Nat.le_refl _)) hsz).mono ?_
            rintro e w7 ⟨r7, rfl, hr7, hb7⟩
            have f0 := F0.out; have f1 := F1.out; have f2 := F2.out; have f3 := F3.out; have f4 := F4.out; have f5 := F5.out; have f6 := F6.out; have f7 := F7.out; have f8 := F8.out; have f9 := F9.out; have f10 := F10.out; have f11 := F11.out
            exact hK _ _ ⟨_, _, _, _, _, _, _, _, _, _, _, _, rfl, (hb.trans (hb7.mono hsz)), fun h => f0 (by simpa [upd] using h), fun h => by obtain ⟨q, hq1, hq2⟩ := f1 (by simpa [upd] using h); exact ⟨q, hq1, (hb7.block q (size_of_block hq2)).trans hq2⟩, fun h => f2 (by simpa [upd] using h), fun h => f3 (by simpa [upd] using h), fun h => by obtain ⟨q, hq1, hq2⟩ := f4 (by simpa [upd] using h); exact ⟨q, hq1, (hb7.block q (size_of_block hq2)).trans hq2⟩, fun h => f5 (by simpa [upd] using h), fun h => f6 (by simpa [upd] using h), fun h => f7 (by simpa [upd] using h), fun h => f8 (by simpa [upd] using h), fun _ => ⟨r7, rfl, hr7⟩, fun h => f10 (by simpa [upd] using h), fun h => f11 (by simpa [upd] using h)⟩
          · intro L a6 w6 K hl hd hI hK
            obtain ⟨v4, v21, v22, v23, v24, v25, v26, v27, v28, v29, v30, v31, rfl, hb, f0, f1, f2, f3, f4, f5, f6, f7, f8, f9, f10, f11⟩ := hI
            simp [Region.binds] at hd
            obtain rfl := f6 (by simp [hd])
            obtain ⟨r, rfl, hr⟩ := f9 (by simp [hd])
            have hfin : (((strOfNums (enc t.plain)).toList == (strOfNums (enc s.plain)).toList) == r) = true := law_eq HNA.out HNB.out hr
            have F0 := hide f0; clear f0; have F1 := hide f1; clear f1; have F2 := hide f2; clear f2; have F3 := hide f3; clear f3; have F4 := hide f4; clear f4; have F5 := hide f5; clear f5; have F6 := hide f6; clear f6; have F7 := hide f7; clear f7; have F8 := hide f8; clear f8; have F9 := hide f9; clear f9; have F10 := hide f10; clear f10; have F11 := hide f11; clear f11
            go_simp
            have f0 := F0.out; have f1 := F1.out; have f2 := F2.out; have f3 := F3.out; have f4 := F4.out; have f5 := F5.out; have f6 := F6.out; have f7 := F7.out; have f8 := F8.out; have f9 := F9.out; have f10 := F10.out; have f11 := F11.out
            exact hK _ _ ⟨_, _, _, _, _, _, _, _, _, _, _, _, rfl, hb, fun h => f0 (by simpa [upd] using h), fun h => f1 (by simpa [upd] using h), fun h => f2 (by simpa [upd] using h), fun h => f3 (by simpa [upd] using h), fun h => f4 (by simpa [upd] using h), fun h => f5 (by simpa [upd] using h), fun h => f6 (by simpa [upd] using h), fun h => f7 (by simpa [upd] using h), fun h => f8 (by simpa [upd] using h), fun h => f9 (by simpa [upd] using h), fun _ => rfl, fun h => f11 (by simpa [upd] using h)⟩
          · intro L a6 w6 K hl hd hI hK
            obtain ⟨v4, v21, v22, v23, v24, v25, v26, v27, v28, v29, v30, v31, rfl, hb, f0, f1, f2, f3, f4, f5, f6, f7, f8, f9, f10, f11⟩ := hI
            simp [Region.binds] at hd
            obtain rfl := f10 (by simp [hd])
            have F0 := hide f0; clear f0; have F1 := hide f1; clear f1; have F2 := hide f2; clear f2; have F3 := hide f3; clear f3; have F4 := hide f4; clear f4; have F5 := hide f5; clear f5; have F6 := hide f6; clear f6; have F7 := hide f7; clear f7; have F8 := hide f8; clear f8; have F9 := hide f9; clear f9; have F10 := hide f10; clear f10; have F11 := hide f11; clear f11
            go_simp
            have f0 := F0.out; have f1 := F1.out; have f2 := F2.out; have f3 := F3.out; have f4 := F4.out; have f5 := F5.out; have f6 := F6.out; have f7 := F7.out; have f8 := F8.out; have f9 := F9.out; have f10 := F10.out; have f11 := F11.out
            exact hK _ _ ⟨_, _, _, _, _, _, _, _, _, _, _, _, rfl, hb, fun h => f0 (by simpa [upd] using h), fun h => f1 (by simpa [upd] using h), fun h => f2 (by simpa [upd] using h), fun h => f3 (by simpa [upd] using h), fun h => f4 (by simpa [upd] using h), fun h => f5 (by simpa [upd] using h), fun h => f6 (by simpa [upd] using h), fun h => f7 (by simpa [upd] using h), fun h => f8 (by simpa [upd] using h), fun h => f9 (by simpa [upd] using h), fun h => f10 (by simpa [upd] using h), fun _ => rfl⟩
        · intro L a6 w6 hall hI
          obtain ⟨v4, v21, v22, v23, v24, v25, v26, v27, v28, v29, v30, v31, rfl, hb, f0, f1, f2, f3, f4, f5, f6, f7, f8, f9, f10, f11⟩ := hI
          obtain rfl := f11 (hall 11 (by decide))
          clear f0 f1 f2 f3 f4 f5 f6 f7 f8 f9 f10 f11
          go_wp2_with fail
          go_ret
          exact ⟨rfl, HBL.out.trans (hb.mono (HBL.out.size))⟩
    · rw [decide_eq_false hq2]
      go_wp2_with fail
      go_ret
      exact ⟨rfl, HBL3.out⟩
  · rw [decide_eq_false hq1]
    go_wp2_with fail
    go_ret
    exact ⟨rfl, HBL2.out⟩
#print axioms unlike_any
end Go.Proofs.Ytafafeplciidhaa
