/- same: two rows of the same tokens are the same. -/
import Derived.Test.YtoadbgdkcdilhaaDoorKn
import Derived.BigQuiet
import Derived.Deep.DeepCutAuto
namespace Go.Proofs.YtoadbgdkcdilhaaDoor
open Go.RowKit

/-- A row of tokens lies in a value, wherever. -/
def TokRow (w : World) (v : Value) (ts : List Tok) : Prop :=
  ∃ a c, v = .slice a ts.length c ∧ ts.length ≤ c ∧ (0 < ts.length → ∃ g off, a = some ⟨g, off, none⟩ ∧ g < w.heap.size ∧
    ∀ (k : Nat) (hk : k < ts.length), w.cell? ⟨g, off + k * 4, none⟩ = some (.int .i64 ts[k].kind) ∧ w.cell? ⟨g, off + k * 4 + 1, none⟩ = some (.int .i64 ts[k].n) ∧ w.cell? ⟨g, off + k * 4 + 2, none⟩ = some (.int .i64 ts[k].at') ∧ w.cell? ⟨g, off + k * 4 + 3, none⟩ = some (.string ⟨⟨ts[k].s⟩⟩))

theorem TokRow.keep {w w' : World} {v : Value} {ts : List Tok} (h : TokRow w v ts) (hb : Below w.heap.size w w') : TokRow w' v ts := by
  obtain ⟨a, c, rfl, hc, hx⟩ := h
  refine ⟨a, c, rfl, hc, fun hp => ?_⟩
  obtain ⟨g, off, rfl, hg, hx⟩ := hx hp
  refine ⟨g, off, rfl, Nat.lt_of_lt_of_le hg hb.size, fun k hk => ?_⟩
  obtain ⟨h0, h1, h2, h3⟩ := hx k hk
  exact ⟨(hb.cell (p := ⟨g, off + k * 4, none⟩) hg).trans h0, (hb.cell (p := ⟨g, off + k * 4 + 1, none⟩) hg).trans h1, (hb.cell (p := ⟨g, off + k * 4 + 2, none⟩) hg).trans h2, (hb.cell (p := ⟨g, off + k * 4 + 3, none⟩) hg).trans h3⟩

theorem TokRow.of {w : World} {base : Nat} {v : Value} {ts : List Tok} (h : ToksAt w base v ts) : TokRow w v ts := by
  obtain ⟨a, c, rfl, hc, _⟩ := owns_form h
  refine ⟨a, c, rfl, hc, fun hp => ?_⟩
  obtain ⟨g, cap, he, _, hg, hx⟩ := toks_cells h hp
  simp only [Value.slice.injEq] at he
  obtain ⟨rfl, _, _⟩ := he
  refine ⟨g, 0, rfl, hg, fun k hk => ?_⟩
  simpa using hx k hk

set_option linter.unusedSimpArgs false in
set_option maxHeartbeats 1000000 in
theorem same_true (ts : List Tok) (v1 v2 : Value) (w : World) (h1 : TokRow w v1 ts) (h2 : TokRow w v2 ts) (hm : ts.length ≤ 100000) :
    Calls Tryd.prog 16 #[v1, v2] w fun e w' => e = .returned (.bool true) ∧ Below w.heap.size w w' := by
  have H1 := hide h1; have H2 := hide h2
  obtain ⟨a1, c1, rfl, hc1, hx1⟩ := h1
  obtain ⟨a2, c2, rfl, hc2, hx2⟩ := h2
  have HX1 := hide hx1; have HX2 := hide hx2
  clear hx1 hx2
  go_enter Tryd.func16, Tryd.ntmps16
  go_wp2_with fail
  go_loopw [5] (fun i wr => ∃ k : Nat, k ≤ ts.length ∧ i = .int .i64 k ∧ Below w.heap.size w wr) (fun i _ => ts.length - (intOf i).toNat)
  case atStart => exact ⟨0, by omega, rfl, Below.refl _ _⟩
  case round =>
    obtain ⟨k, hk, rfl, hb⟩ := hrel
    have HB := hide hb
    clear hb
    by_cases hlt : k < ts.length
    · obtain ⟨g1, o1, rfl, hg1, hy1⟩ := HX1.out (by omega)
      obtain ⟨g2, o2, rfl, hg2, hy2⟩ := HX2.out (by omega)
      obtain ⟨p0, p1, p2, p3⟩ := hy1 k hlt
      obtain ⟨q0, q1, q2, q3⟩ := hy2 k hlt
      have e0 := (HB.out.cell (p := ⟨g1, o1 + k * 4, none⟩) hg1).trans p0
      have e1 := (HB.out.cell (p := ⟨g1, o1 + k * 4 + 1, none⟩) hg1).trans p1
      have e2 := (HB.out.cell (p := ⟨g1, o1 + k * 4 + 2, none⟩) hg1).trans p2
      have e3 := (HB.out.cell (p := ⟨g1, o1 + k * 4 + 3, none⟩) hg1).trans p3
      have f0 := (HB.out.cell (p := ⟨g2, o2 + k * 4, none⟩) hg2).trans q0
      have f1 := (HB.out.cell (p := ⟨g2, o2 + k * 4 + 1, none⟩) hg2).trans q1
      have f2 := (HB.out.cell (p := ⟨g2, o2 + k * 4 + 2, none⟩) hg2).trans q2
      have f3 := (HB.out.cell (p := ⟨g2, o2 + k * 4 + 3, none⟩) hg2).trans q3
      clear hy1 hy2 p0 p1 p2 p3 q0 q1 q2 q3
      generalize ts[k] = t at *
      go_wp2_with fail
      go_quiet (fail)
      have HD : Hid (Below w.heap.size w (wr.drewN nq)) := ⟨HB.out.os, HB.out.tape, HB.out.output, HB.out.size, HB.out.block⟩
      go_wp2_with fail
      go_roundw
      case rel => exact ⟨k + 1, by omega, by go_num, HD.out⟩
      case measure => simp [intOf]; omega
    · have hke : k = ts.length := by omega
      subst hke
      go_wp2_with fail
      go_ret
      exact ⟨rfl, HB.out⟩
#print axioms same_true
end Go.Proofs.YtoadbgdkcdilhaaDoor
