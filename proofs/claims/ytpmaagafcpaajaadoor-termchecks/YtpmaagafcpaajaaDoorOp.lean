/- How an argument of type Raw is opened: a tree lies there. -/
import Derived.Test.YtpmaagafcpaajaaDoorRows
import Derived.Test.YtpmaagafcpaajaaDoorTree
import Derived.ProofKit
import Derived.Deep.Slices
namespace Go.Proofs.YtpmaagafcpaajaaDoor
open Go.RowKit Go.ChangeShapes Go.WideShapes Go.ChangeAt

theorem Tryd.cells24 : Tryd.prog.cellsOf 24 = 3 := by kernel_rfl
theorem Tryd.cells22 : Tryd.prog.cellsOf 22 = 1 := by kernel_rfl
theorem Tryd.cells3 : Tryd.prog.cellsOf 3 = 1 := by kernel_rfl

theorem wf_i64 {n : Int} (h : (Lit.int .i64 n).wf = true) : I64 n := by
  unfold I64
  simp [Lit.wf, IntKind.min, IntKind.max, IntKind.signed, IntKind.bits] at h
  omega

theorem three {α : Type} {l : List α} (h : l.length = 3) : ∃ a b c, l = [a, b, c] := by
  match l, h with
  | [a, b, c], _ => exact ⟨a, b, c, rfl⟩

theorem tm_of_trod {H : Type} {enc : TypeId × Value → H} {W : World} {held : Bool} {sp : Nat → Bool} (fuel : Nat) : ∀ (cs : List Value) (x : DataW H × List MemPlace), DataW.trod enc Tryd.prog W 0 sp held fuel 24 cs = some x →
    ∃ c0 c1 c2 t, cs = [c0, c1, c2] ∧ TmAt W W.heap.size fuel t (.agg #[c0, c1, c2]) := by
  induction fuel using Nat.strongRecOn with
  | _ fuel ih =>
    intro cs x h
    obtain ⟨xs, n, rfl, rfl, hl, hlen, hf⟩ := DataW.trod_struct Tryd.underlying24 h
    rw [Tryd.cells24] at hl
    obtain ⟨c0, c1, c2, rfl⟩ := three hl
    obtain ⟨y0, y1, y2, rfl⟩ := three hlen
    have h0 : DataW.trod enc Tryd.prog W 0 sp held n 3 (List.take (Tryd.prog.cellsOf 3) (List.drop 0 [c0, c1, c2])) = [y0, y1, y2][0]? := hf 0 _ rfl
    have h1 : DataW.trod enc Tryd.prog W 0 sp held n 3 (List.take (Tryd.prog.cellsOf 3) (List.drop 1 [c0, c1, c2])) = [y0, y1, y2][1]? := hf 1 _ rfl
    have h2 : DataW.trod enc Tryd.prog W 0 sp held n 22 (List.take (Tryd.prog.cellsOf 22) (List.drop 2 [c0, c1, c2])) = [y0, y1, y2][2]? := hf 2 _ rfl
    rw [Tryd.cells3] at h0 h1
    rw [Tryd.cells22] at h2
    simp at h0 h1 h2
    obtain ⟨a, e0, _, w0⟩ := DataW.trod_int Tryd.underlying3 h0
    obtain ⟨b, e1, _, w1⟩ := DataW.trod_int Tryd.underlying3 h1
    simp at e0 e1
    subst e0 e1
    rcases DataW.trod_slice Tryd.underlying22 h2 with ⟨e2, _⟩ | ⟨ad, len, cap, elems, rest, m, rfl, e2, _, hb, hlc, hcm, hel, hx, _, _⟩
    · simp at e2
      subst e2
      exact ⟨_, _, _, ⟨a, b, []⟩, rfl, none, 0, rfl, wf_i64 w0, wf_i64 w1, RowAt.nil (by unfold maxLen; omega)⟩
    · simp at e2
      subst e2
      have key : ∀ i, i < len → ∃ (t : Tr) (x0 x1 x2 : Value), W.cell? (ad.add (i * 3)) = some x0 ∧ W.cell? (ad.add (i * 3 + 1)) = some x1 ∧ W.cell? (ad.add (i * 3 + 2)) = some x2 ∧ TmAt W W.heap.size m t (.agg #[x0, x1, x2]) := by
        intro i hi
        have hxi := hx i hi
        rw [List.getElem?_eq_getElem (by omega), Tryd.cells24] at hxi
        obtain ⟨cs', hc1, hc2⟩ := Option.bind_eq_some_iff.1 hxi
        obtain ⟨x0, x1, x2, t, rfl, ht⟩ := ih m (by omega) cs' _ hc2
        obtain ⟨_, _, hc⟩ := World.cells?_some hc1
        have q0 := hc 0 (by omega)
        have q1 := hc 1 (by omega)
        have q2 := hc 2 (by omega)
        rw [Deep.add_add] at q0 q1 q2
        exact ⟨t, x0, x1, x2, q0, q1, q2, ht⟩
      obtain ⟨T, hT⟩ := @Deep.choose_lt Tr ⟨⟨0, 0, []⟩⟩ len ( fun i t => ∃ (x0 x1 x2 : Value), W.cell? (ad.add (i * 3)) = some x0 ∧ W.cell? (ad.add (i * 3 + 1)) = some x1 ∧ W.cell? (ad.add (i * 3 + 2)) = some x2 ∧ TmAt W W.heap.size m t (.agg #[x0, x1, x2])) key
      have hlen2 : ((List.range len).map T).length = len := by simp
      refine ⟨_, _, _, ⟨a, b, (List.range len).map T⟩, rfl, some ad, cap, by simp, wf_i64 w0, wf_i64 w1, by simpa using hlc, hcm, fun hne => ?_⟩
      have hpos : 0 < len := by
        rcases Nat.eq_zero_or_pos len with h0 | h0
        · subst h0; simp at hne
        · exact h0
      obtain ⟨bl, off, rfl⟩ : ∃ bl off, ad = ⟨bl, off, none⟩ := by
        obtain ⟨x0, _, _, q0, _⟩ := hT 0 hpos
        rw [Nat.zero_mul] at q0
        have : ad.add 0 = ad := rfl
        rw [this] at q0
        obtain ⟨bl, off, sp⟩ := ad
        refine ⟨bl, off, ?_⟩
        cases sp with
        | none => rfl
        | some _ => simp [World.cell?] at q0; split at q0 <;> simp at q0
      have hbl : bl < W.heap.size := by
        obtain ⟨x0, _, _, q0, _⟩ := hT 0 hpos
        exact World.block_lt_of_cell? W _ q0
      refine ⟨bl, off, rfl, hbl, fun i hi => ?_⟩
      obtain ⟨x0, x1, x2, q0, q1, q2, ht⟩ := hT i (by simpa using hi)
      rw [Addr.add_lit] at q0 q1 q2
      refine ⟨x0, x1, x2, q0, q1, q2, ?_⟩
      simp only [List.getElem_map, List.getElem_range]
      exact TmAt.more ht (by omega)
set_option maxRecDepth 100000 in
theorem ownUn : ownKnob Tryd.prog.godebug = none := by kernel_rfl
set_option maxRecDepth 100000 in
theorem laidUn : laidOutB Tryd.prog = true := by kernel_rfl

set_option maxRecDepth 100000 in
/-- A raw term that came in. -/
theorem raw_in {H : Type} {enc : TypeId × Value → H} {W : World} {v : Value} {d : DataW H} {p : List MemPlace} {r : Reach} {base : Nat} (hv : Value.okWide Tryd.prog W r base 24 v) (h : DataW.Trod enc Tryd.prog W 0 (fun _ => true) true 24 v d p) :
    ∃ f t, TmAt W W.heap.size f t v := by
  obtain ⟨cs, rfl, _⟩ := okWide_struct Tryd.underlying24 hv
  obtain ⟨fuel, hf⟩ := h
  obtain ⟨c0, c1, c2, t, hc, ht⟩ := tm_of_trod fuel _ _ hf
  have e : cs = #[c0, c1, c2] := by
    have h1 : cs.toList = [c0, c1, c2] := hc
    rw [← Array.toArray_toList (xs := cs), h1]
  subst e
  exact ⟨fuel, t, ht⟩

#print axioms tm_of_trod
end Go.Proofs.YtpmaagafcpaajaaDoor
