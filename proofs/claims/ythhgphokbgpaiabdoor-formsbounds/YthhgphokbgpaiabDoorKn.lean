/- known, within: what they answer. -/
import Derived.Test.YthhgphokbgpaiabDoorWv
import Derived.Test.YthhgphokbgpaiabDoorPb
namespace Go.Proofs.YthhgphokbgpaiabDoor
open Go.RowKit

def wi (a n : Int) : Int := if a.tmod n < 0 then a.tmod n + n else a.tmod n

theorem tmodn (a n : Int) (h : 0 < n) : -n < a.tmod n ∧ a.tmod n < n := by
  constructor
  · have := Int.lt_tmod_of_pos a h; omega
  · exact Int.tmod_lt_of_pos a h

theorem wi_n (a n : Int) (h : 0 < n) : 0 ≤ wi a n ∧ wi a n < n := by
  have := tmodn a n h
  unfold wi; split <;> omega

theorem ret_int {k : IntKind} {a b : Int} (h : a = b) : Ending.returned (.int k a) = .returned (.int k b) := by rw [h]

set_option maxHeartbeats 400000 in
theorem within_n (a n : Int) (w : World) (hn : 0 < n) (hn2 : n ≤ 1000000) :
    Calls Tryd.prog 5 #[.int .i64 a, .int .i64 n] w fun e w' => e = .returned (.int .i64 (wi a n)) ∧ w' = w := by
  have h := tmodn a n hn
  have h0 : (n == 0) = false := beq_eq_false_iff_ne.2 (by omega)
  by_cases hlt : a.tmod n < 0
  · go_enter Tryd.func5, Tryd.ntmps5
    go_wp2_with fail
    go_ret
    exact ⟨ret_int (by rw [wi, if_pos hlt]), rfl⟩
  · go_enter Tryd.func5, Tryd.ntmps5
    go_wp2_with fail
    go_ret
    exact ⟨ret_int (by rw [wi, if_neg (by omega)]), rfl⟩

theorem par_known : parP [40, 97, 32, 40, 49, 41, 41] = .ok [⟨3, 0, [], [⟨1, 0, [97], []⟩, ⟨3, 0, [], [⟨2, 1, [], []⟩]⟩]⟩] := by kernel_rfl
theorem chk_nil : chkP ⟨3, 0, [], []⟩ = 0 := by kernel_rfl
theorem txt_nil : txtP ⟨3, 0, [], []⟩ = [40, 41] := by
  unfold txtP
  rw [if_pos chk_nil]
  rfl

theorem RowAt.cells {w : World} {D : Nat → Prop} {f cap : Nat} {ts : List Fm} {a : Option Addr} (h : RowAt w D (FmD w D f) ts a cap) (k : Nat) (hk : k < ts.length) :
    ∃ b off la lc, a = some ⟨b, off, none⟩ ∧ D b ∧ w.cell? ⟨b, off + k * 4, none⟩ = some (.int .i64 ts[k].kind) ∧ w.cell? ⟨b, off + k * 4 + 1, none⟩ = some (.int .i64 ts[k].n) ∧ w.cell? ⟨b, off + k * 4 + 2, none⟩ = some (.string ⟨⟨ts[k].s⟩⟩) ∧ w.cell? ⟨b, off + k * 4 + 3, none⟩ = some (.slice la ts[k].l.length lc) ∧
      FmD w D f ts[k] (.agg #[.int .i64 ts[k].kind, .int .i64 ts[k].n, .string ⟨⟨ts[k].s⟩⟩, .slice la ts[k].l.length lc]) := by
  obtain ⟨b, off, rfl, hb, hx⟩ := h.2.2 (fun e => by rw [e] at hk; simp at hk)
  obtain ⟨x0, x1, x2, x3, h0, h1, h2, h3, hr⟩ := hx k hk
  have hr' := hr
  obtain ⟨la, lc, he, _⟩ := FmD.shape hr
  simp only [Value.agg.injEq, Array.mk.injEq, List.cons.injEq, and_true] at he
  obtain ⟨rfl, rfl, rfl, rfl⟩ := he
  exact ⟨b, off, la, lc, rfl, hb, h0, h1, h2, h3, hr'⟩

theorem nil_form (w : World) : FmAt w w.heap.size 1 ⟨3, 0, [], []⟩ (.agg #[.int .i64 3, .int .i64 0, .string ⟨⟨[]⟩⟩, .slice none 0 0]) :=
  ⟨none, 0, rfl, by unfold I64; simp only; omega, by unfold I64; simp only; omega, RowAt.nil (by unfold maxLen; omega)⟩

theorem nil_short : Short ⟨3, 0, [], []⟩ := fun x hx => by
  rw [Fm.pre_eq] at hx
  simp at hx
  subst hx
  simp

theorem text_nil (w : World) (he : Errs w) (ht : Tabs w.heap.size w) : Calls Tryd.prog 8 #[.agg #[.int .i64 3, .int .i64 0, .string ⟨#[]⟩, .slice none 0 0]] w fun e w' => e = .returned (.string ⟨#[40, 41]⟩) ∧ Below w.heap.size w w' := by
  have h := text_any ⟨3, 0, [], []⟩ 1 none 0 w (nil_form w) nil_short he ht (by rw [show txtF 31 ⟨3, 0, [], []⟩ = [40, 41] from rfl]; decide)
  rw [txt_nil] at h
  exact h

set_option maxRecDepth 20000 in
set_option maxHeartbeats 1000000 in
theorem known_any (w : World) (he : Errs w) (ht : Tabs w.heap.size w) : Calls Tryd.prog 4 #[] w fun e w' => e = .returned (.bool true) ∧ Below w.heap.size w w' := by
  have HE := hide he; have HT := hide ht
  clear he ht
  go_enter Tryd.func4, Tryd.ntmps4
  go_wp2_with fail
  refine (parse_any _ [40, 97, 32, 40, 49, 41, 41] w rfl (by decide) HE.out).mono ?_
  rintro e w1 ⟨⟨er, p, h1, _⟩ | ⟨fs, a, cap, h1, hl, rfl, hrow⟩, hb⟩
  · rw [par_known] at h1; cases h1
  · rw [par_known] at h1
    cases h1
    obtain ⟨b, off, la, lc, rfl, hD, c0, c1, c2, c3, _⟩ := hrow.cells 0 (by simp)
    simp only [List.length_cons, List.length_nil, Nat.zero_mul, Nat.add_zero, List.getElem_cons_zero] at c0 c1 c2 c3
    have HB := hide hb
    have hbw : b < w1.heap.size := hD.2
    clear hb hrow hl hD
    have HE1 : Hid (Errs w1) := HE.out.keep HB.out
    have HT1 : Hid (Tabs w1.heap.size w1) := HT.out.later HB.out
    go_wp2_with fail
    refine (text_nil w1 HE1.out HT1.out).mono ?_
    rintro e w2 ⟨rfl, hb2⟩
    have d3 := (hb2.cell (p := ⟨b, off + 3, none⟩) hbw).trans c3
    have HB2 := hide hb2
    clear hb2
    go_wp2_with fail
    go_ret
    exact ⟨rfl, HB.out.trans (HB2.out.mono HB.out.size)⟩
#print axioms known_any
end Go.Proofs.YthhgphokbgpaiabDoor
