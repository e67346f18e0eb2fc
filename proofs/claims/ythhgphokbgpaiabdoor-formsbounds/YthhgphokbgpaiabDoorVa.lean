/- lex.value: what it answers. -/
import Derived.Test.YthhgphokbgpaiabDoorRn
import Derived.Lib.AtoiErrMem
namespace Go.Proofs.YthhgphokbgpaiabDoor
open Go.RowKit

/-- The two variables of package strconv that hold errors. -/
def Errs (w : World) : Prop := ∃ e0 e1, w.cell? ⟨0, 0, none⟩ = some e0 ∧ w.cell? ⟨1, 0, none⟩ = some e1 ∧ (e0 = .nilIface ∨ ∃ te pe, e0 = .iface te pe) ∧ (e1 = .nilIface ∨ ∃ te pe, e1 = .iface te pe)

theorem Errs.keep {w w' : World} (h : Errs w) (hb : Below w.heap.size w w') : Errs w' := by
  obtain ⟨e0, e1, h0, h1, h2, h3⟩ := h
  exact ⟨e0, e1, (hb.cell (World.block_lt_of_cell? w _ h0)).trans h0, (hb.cell (World.block_lt_of_cell? w _ h1)).trans h1, h2, h3⟩

/-- A number's value; none: it is none, or beyond the bounds. -/
def valP (l : List UInt8) : Option Int :=
  match Lib.parseIntB 64 l with
  | .ok v => if -4611686018427387904 ≤ v ∧ v ≤ 4611686018427387904 then some v else none
  | _ => none

set_option linter.unusedSimpArgs false in
theorem value_any (s : ByteArray) (l : List UInt8) (w : World) (hl : s.data.toList = l) (hm : s.size ≤ 5000) (he : Errs w) :
    Calls Tryd.prog 25 #[.string s] w fun e w' => (∃ v, valP l = some v ∧ e = .returned (.tuple #[.int .i64 v, .bool true]) ∨ valP l = none ∧ e = .returned (.tuple #[.int .i64 0, .bool false])) ∧ Below w.heap.size w w' := by
  obtain ⟨e0, e1, h0, h1, h2, h3⟩ := he
  have H0 := hide h0; have H1 := hide h1; have H2 := hide h2; have H3 := hide h3
  clear h0 h1 h2 h3
  cases hp : Lib.parseIntB 64 l with
  | ok v =>
    have HP := hide hp
    clear hp
    go_enter Tryd.func25, Tryd.ntmps25
    go_wp2_with fail
    refine (Tryd.strconv_ParseInt_10_at64_ok s (by omega) v (by rw [hl]; exact HP.out) w).mono ?_
    rintro e w1 ⟨rfl, hw1⟩
    have HB : Hid (Below w.heap.size w w1) := by
      rcases hw1 with rfl | ⟨t, rfl⟩
      · exact Below.refl _ _
      · exact Lib.bytesWorld_below _ _ _
    clear hw1
    by_cases q1 : v < -4611686018427387904
    · go_wp2_with fail
      go_ret2
      exact ⟨⟨0, Or.inr ⟨by unfold valP; rw [HP.out]; simp only; rw [if_neg (by omega)], rfl⟩⟩, HB.out⟩
    · by_cases q2 : v > 4611686018427387904
      · go_wp2_with fail
        go_ret2
        exact ⟨⟨0, Or.inr ⟨by unfold valP; rw [HP.out]; simp only; rw [if_neg (by omega)], rfl⟩⟩, HB.out⟩
      · go_wp2_with fail
        go_ret2
        exact ⟨⟨v, Or.inl ⟨by unfold valP; rw [HP.out]; simp only; rw [if_pos (by omega)], rfl⟩⟩, HB.out⟩
  | «syntax» =>
    have HP := hide hp
    clear hp
    go_enter Tryd.func25, Tryd.ntmps25
    go_wp2_with fail
    refine (Tryd.strconv_ParseInt_10_at64_syntax s (by omega) (by rw [hl]; exact HP.out) e0 w H0.out H2.out).mono ?_
    rintro e w1 ⟨N, rfl, hN, hb1, hbl⟩
    have HB := hide hbl
    clear hbl hb1
    go_wp2_with fail
    go_ret2
    exact ⟨⟨0, Or.inr ⟨by unfold valP; rw [HP.out], rfl⟩⟩, HB.out⟩
  | range =>
    have HP := hide hp
    clear hp
    go_enter Tryd.func25, Tryd.ntmps25
    go_wp2_with fail
    refine (Tryd.strconv_ParseInt_10_at64_range s (by omega) (by rw [hl]; exact HP.out) e1 w H1.out H3.out).mono ?_
    rintro e w1 ⟨N, rfl, hN, hb1, hbl⟩
    have HB := hide hbl
    clear hbl hb1
    go_wp2_with fail
    go_ret2
    exact ⟨⟨0, Or.inr ⟨by unfold valP; rw [HP.out], rfl⟩⟩, HB.out⟩
#print axioms value_any
end Go.Proofs.YthhgphokbgpaiabDoor
