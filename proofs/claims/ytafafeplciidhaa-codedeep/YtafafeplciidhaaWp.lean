/- put: a head is laid behind what lies there. -/
import Derived.Test.YtafafeplciidhaaWb
import Derived.Deep.RegionHeld3
import Derived.Laws.CopyOwn
import Derived.Deep.DrawnRows
namespace Go.Proofs.Ytafafeplciidhaa
open Go.RowKit

theorem hd_ten (op n : Int) (len : Nat) : ∃ b0 b1 b2 b3 b4 b5 b6 b7 b8 b9 : Int, Hid (hd op n len = [b0, b1, b2, b3, b4, b5, b6, b7, b8, b9]) := ⟨_, _, _, _, _, _, _, _, _, _, rfl⟩

theorem headOf_ten (op n : Int) (a : Option Addr) (len cap : Nat) (w : World) (h1 : I64 op) (h2 : I64 n) (hl : len ≤ 255) {b0 b1 b2 b3 b4 b5 b6 b7 b8 b9 : Int} (hh : Hid (hd op n len = [b0, b1, b2, b3, b4, b5, b6, b7, b8, b9])) :
    Calls Try.prog 30 #[.agg #[.int .i64 op, .int .i64 n, .slice a len cap]] w fun e w' => e = .returned (.agg #[.int .u8 b0, .int .u8 b1, .int .u8 b2, .int .u8 b3, .int .u8 b4, .int .u8 b5, .int .u8 b6, .int .u8 b7, .int .u8 b8, .int .u8 b9]) ∧ Below w.heap.size w w' := by
  refine (headOf_any op n a len cap w h1 h2 hl).mono ?_
  rintro e w' ⟨rfl, hb⟩
  exact ⟨by rw [hh.out]; rfl, hb⟩

/-- A copy, as one step of a region that draws its order: the row of block g, written anew; all other blocks stand. -/
theorem step_copy_fr {P : Program} {ops : Array Oper} {o : Oper} {a : Act} {w : World} {K : Act → World → Prop} {Q : Exit → Act → World → Prop} {E : Prop} (hgd : o.guard = none) (d s : Operand) (dT sT : TypeId)
    (ho : o.op = .call { callee := .builtin .copy, args := #[d, s], argTypes := #[dT, sT] }) (elem : TypeId) (hu : P.underlying dT = some (.slice elem)) (hsz : (P.info? elem).map (·.size) = some 1)
    (g off dLen dCap : Nat) (ad : Addr) (sLen sCap : Nat) (hd : a.eval d = .slice (some ⟨g, off, none⟩) dLen dCap) (hs : a.eval s = .slice (some ad) sLen sCap)
    (cur : List Value) (t : TypeId) (hg : w.heap[g]? = some (.cells cur.toArray t (0, 0))) (cs : List Value) (hn : cs.length = Nat.min sLen dLen)
    (hsrc : ∀ j v, cs[j]? = some v → w.cell? (ad.add j) = some v) (hfit : off + cs.length ≤ cur.length) (h1 : ∀ v ∈ cs, v.oneCell' = true)
    (h : ∀ w', Fr (· = g) w w' → Hid (w'.heap[g]? = some (.cells (splice cur off cs).toArray t (0, 0))) → K (a.put o.dst (goInt cs.length)) w') :
    if Region.wanted o (yielded ops a.tmps) = true then Oper.wp P o a w K Q else E := by
  have hw : Region.wanted o (yielded ops a.tmps) = true := by simp [Region.wanted, hgd]
  rw [if_pos hw]
  have hrun := run_copy_row (P := P) w dT sT o.type elem g off dLen dCap ad sLen sCap cur.toArray t cs hu hsz hg hn hsrc (by simpa using hfit) h1
  unfold Oper.wp
  simp [execOp, ho, resolve, invoke, builtin, hd, hs, hrun, Result.andThen]
  refine h _ ⟨rfl, rfl, rfl, by simp [World.setRow], fun k _ hk => setRow_other w g k _ hk⟩ (show _ = _ from ?_)
  simpa [splice] using setRow_heap w g _ _ t _ hg

attribute [local go_sem ↓] Go.wp_at_zero Go.wp_at_succ

set_option maxHeartbeats 400000 in
theorem put_m (b g N L at0 : Nat) (cur : List Value) (op n : Int) (a : Option Addr) (len cap : Nat) (w : World) (h1 : I64 op) (h2 : I64 n) (hl : len ≤ 255) (hL : L ≤ 1000000) (hat : at0 + 10 ≤ L)
    (hb : w.heap[b]? = some (.cells #[.int .i64 N, .slice (some ⟨g, 0, none⟩) L L, .int .i64 at0] 54 (0, 0))) (hg : w.heap[g]? = some (.cells cur.toArray 5 (0, 0))) (hcur : cur.length = L) (hbg : b < g) :
    Calls Try.prog 26 #[.pointer (some ⟨b, 0, none⟩), .agg #[.int .i64 op, .int .i64 n, .slice a len cap]] w fun e w' => e = .returned (.tuple #[]) ∧ Fr (fun k => k = b ∨ k = g) w w' ∧
      w'.heap[b]? = some (.cells #[.int .i64 N, .slice (some ⟨g, 0, none⟩) L L, .int .i64 ((at0 + 10 : Nat) : Int)] 54 (0, 0)) ∧ w'.heap[g]? = some (.cells (splice cur at0 (bys (hd op n len))).toArray 5 (0, 0)) := by
  have hblt := size_of_block hb
  have hglt := size_of_block hg
  obtain ⟨b0, b1, b2, b3, b4, b5, b6, b7, b8, b9, hh⟩ := hd_ten op n len
  have HB := hide hb; clear hb
  have HG := hide hg; clear hg
  go_enter Try.func26, Try.ntmps26
  go_wp2_with fail
  refine (headOf_ten op n a len cap _ h1 h2 hl hh).mono ?_
  rintro e w2 ⟨rfl, hb2⟩
  go_wp2_with fail
  have hWb : (w2.alloc (.cells #[.int .u8 b0, .int .u8 b1, .int .u8 b2, .int .u8 b3, .int .u8 b4, .int .u8 b5, .int .u8 b6, .int .u8 b7, .int .u8 b8, .int .u8 b9] 68)).heap[b]? = some (.cells #[.int .i64 N, .slice (some ⟨g, 0, none⟩) L L, .int .i64 at0] 54 (0, 0)) := by
    have hs2 := hb2.size
    simp at hs2
    rw [Below.heap_alloc _ _ _ (by omega), hb2.block _ (by simp; omega), Below.heap_alloc _ _ _ hblt]; exact HB.out
  have hWg : (w2.alloc (.cells #[.int .u8 b0, .int .u8 b1, .int .u8 b2, .int .u8 b3, .int .u8 b4, .int .u8 b5, .int .u8 b6, .int .u8 b7, .int .u8 b8, .int .u8 b9] 68)).heap[g]? = some (.cells cur.toArray 5 (0, 0)) := by
    have hs2 := hb2.size
    simp at hs2
    rw [Below.heap_alloc _ _ _ (by omega), hb2.block _ (by simp; omega), Below.heap_alloc _ _ _ hglt]; exact HG.out
  have hWh : (w2.alloc (.cells #[.int .u8 b0, .int .u8 b1, .int .u8 b2, .int .u8 b3, .int .u8 b4, .int .u8 b5, .int .u8 b6, .int .u8 b7, .int .u8 b8, .int .u8 b9] 68)).heap[w2.heap.size]? = some (.cells #[.int .u8 b0, .int .u8 b1, .int .u8 b2, .int .u8 b3, .int .u8 b4, .int .u8 b5, .int .u8 b6, .int .u8 b7, .int .u8 b8, .int .u8 b9] 68 (0, 0)) := heap_alloc_new _ _
  have hFr : Fr (fun k => k = b ∨ k = g) w (w2.alloc (.cells #[.int .u8 b0, .int .u8 b1, .int .u8 b2, .int .u8 b3, .int .u8 b4, .int .u8 b5, .int .u8 b6, .int .u8 b7, .int .u8 b8, .int .u8 b9] 68)) :=
    (((Fr.refl _ w).alloc _).trans (Fr.of_below hb2)).alloc _
  generalize w2.alloc (.cells #[.int .u8 b0, .int .u8 b1, .int .u8 b2, .int .u8 b3, .int .u8 b4, .int .u8 b5, .int .u8 b6, .int .u8 b7, .int .u8 b8, .int .u8 b9] 68) = W at *
  generalize w2.heap.size = H at *
  clear HB HG hb2 w2
  have c1 : W.cell? ⟨b, 1, none⟩ = some (.slice (some ⟨g, 0, none⟩) L L) := by rw [cell_of_block hWb]; rfl
  have c2 : W.cell? ⟨b, 2, none⟩ = some (.int .i64 at0) := by rw [cell_of_block hWb]; rfl
  have HB := hide hWb; have HG := hide hWg; have HH := hide hWh
  clear hWb hWg hWh
  have c3 : W.frozen? ⟨b, 2, none⟩ = false := frozen_of_block HB.out 2
  have i1 : (0 : Int) ≤ (at0 : Int) := by omega
  have i2 : (at0 : Int) ≤ (L : Int) := by omega
  have i3 : ¬ L = at0 := by omega
  have i4 : IntKind.i64.wrap ((at0 : Int) + 10) = (at0 : Int) + 10 := by rw [IntKind.wrap_i64]; omega
  have hbW : b < W.heap.size := size_of_block HB.out
  have hsrc := hide (src_of_block (cs := [.int .u8 b0, .int .u8 b1, .int .u8 b2, .int .u8 b3, .int .u8 b4, .int .u8 b5, .int .u8 b6, .int .u8 b7, .int .u8 b8, .int .u8 b9]) HH.out)
  have hmin : Hid (10 = Nat.min 10 (L - at0)) := (Nat.min_eq_left (by omega)).symm
  have hfit : Hid (at0 + 10 ≤ cur.length) := by show at0 + 10 ≤ cur.length; omega
  go_region_law (refine step_copy_fr (by rfl) (.tmp 19) (.tmp 20) 32 32 (by rfl) 5 Try.underlying32 (by kernel_rfl) g at0 (L - at0) (L - at0) ⟨H, 0, none⟩ 10 10 (by rfl) (by rfl) cur 5 HG.out [.int .u8 b0, .int .u8 b1, .int .u8 b2, .int .u8 b3, .int .u8 b4, .int .u8 b5, .int .u8 b6, .int .u8 b7, .int .u8 b8, .int .u8 b9] hmin.out hsrc.out hfit.out (by simp [Value.oneCell']) ?_; intro w3 hf3 hg3; have c4 := (hf3.cell (i := 1) hbW (by omega)).trans c1; have c5 := (hf3.cell (i := 2) hbW (by omega)).trans c2; have c6 := (hf3.frozen (i := 2) hbW (by omega)).trans c3)
  all_goals
    go_wp2_with fail
    go_end0
    refine ⟨rfl, ?_, ?_, ?_⟩
    · exact hFr.drew.trans ((((hf3.mono (M' := fun k => k = b ∨ k = g) (fun k hk => Or.inr hk))).setCell (p := ⟨b, 2, none⟩) (Or.inl rfl) _))
    · rw [heap_setCell_same _ _ _ _ _ _ ((hf3.block b hbW (by omega)).trans HB.out)]; rfl
    · rw [heap_setCell_other _ _ _ _ (by show g ≠ b; omega)]; exact (hh.out ▸ hg3.out)
#print axioms put_m
end Go.Proofs.Ytafafeplciidhaa
