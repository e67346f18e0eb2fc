/- Text: pieces, by numbers: a text of at most 300 bytes, none of them 13. -/
import Derived.Test.YtoadbgdkcdilhaaDoorKn
namespace Go.Proofs.YtoadbgdkcdilhaaDoor
open Go.RowKit

/-- A row of numbers that came in. -/
def NumRow (w : World) (v : Value) (n : Nat) : Prop :=
  ∃ a c, v = .slice a n c ∧ n ≤ c ∧ c ≤ maxLen ∧ (0 < n → ∃ g off, a = some ⟨g, off, none⟩ ∧ g < w.heap.size ∧ ∀ k, k < n → ∃ x : Int, w.cell? ⟨g, off + k, none⟩ = some (.int .i64 x))

theorem NumRow.keep {w w' : World} {v : Value} {n : Nat} (h : NumRow w v n) (hb : Below w.heap.size w w') : NumRow w' v n := by
  obtain ⟨a, c, rfl, hc, hc2, hx⟩ := h
  refine ⟨a, c, rfl, hc, hc2, fun hp => ?_⟩
  obtain ⟨g, off, rfl, hg, hx⟩ := hx hp
  refine ⟨g, off, rfl, Nat.lt_of_lt_of_le hg hb.size, fun k hk => ?_⟩
  obtain ⟨x, hx⟩ := hx k hk
  exact ⟨x, (hb.cell (p := ⟨g, off + k, none⟩) hg).trans hx⟩

/-- What Text answers. -/
def TextOut (w : World) (e : Ending) (w' : World) : Prop := ∃ s : ByteArray, e = .returned (.string s) ∧ s.size ≤ 300 ∧ (∀ c ∈ s.data.toList, c ≠ 13) ∧ Below w.heap.size w w'

theorem no13 {s t : ByteArray} (h1 : ∀ c ∈ s.data.toList, c ≠ 13) (h2 : ∀ c ∈ t.data.toList, c ≠ 13) : ∀ c ∈ (s ++ t).data.toList, c ≠ 13 := by
  rw [ByteArray.data_append, Array.toList_append]
  intro c hc
  rcases List.mem_append.1 hc with h | h
  · exact h1 c h
  · exact h2 c h

theorem pieces (q : Nat) (h : q < 20) : ∃ u : ByteArray, (#[.string ⟨#[40]⟩, .string ⟨#[41]⟩, .string ⟨#[97]⟩, .string ⟨#[102, 110, 32]⟩, .string ⟨#[32]⟩, .string ⟨#[49, 50]⟩, .string ⟨#[45, 51]⟩, .string ⟨#[45, 62]⟩, .string ⟨#[42]⟩, .string ⟨#[45]⟩, .string ⟨#[59, 32, 120, 10]⟩, .string ⟨#[10]⟩, .string ⟨#[98, 39]⟩, .string ⟨#[95, 99]⟩, .string ⟨#[48]⟩, .string ⟨#[122, 101, 114, 111, 32]⟩, .string ⟨#[57, 97]⟩, .string ⟨#[33]⟩, .string ⟨#[9]⟩, .string ⟨#[85, 48]⟩] : Array Value)[q]? = some (.string u) ∧ u.size ≤ 5 ∧ ∀ c ∈ u.data.toList, c ≠ 13 := by
  have key : q = 0 ∨ q = 1 ∨ q = 2 ∨ q = 3 ∨ q = 4 ∨ q = 5 ∨ q = 6 ∨ q = 7 ∨ q = 8 ∨ q = 9 ∨ q = 10 ∨ q = 11 ∨ q = 12 ∨ q = 13 ∨ q = 14 ∨ q = 15 ∨ q = 16 ∨ q = 17 ∨ q = 18 ∨ q = 19 := by omega
  rcases key with rfl | rfl | rfl | rfl | rfl | rfl | rfl | rfl | rfl | rfl | rfl | rfl | rfl | rfl | rfl | rfl | rfl | rfl | rfl | rfl <;> exact ⟨_, rfl, by decide, by decide⟩

set_option linter.unusedSimpArgs false in
set_option maxRecDepth 20000 in
set_option maxHeartbeats 4000000 in
theorem text_any (v : Value) (n : Nat) (w : World) (h : NumRow w v n) : Calls Tryd.prog 10 #[v] w (TextOut w) := by
  obtain ⟨a, c, rfl, hc, hc2, hx⟩ := h
  have HX := hide hx
  have hn : n ≤ maxLen := by omega
  clear hx
  go_enter Tryd.func10, Tryd.ntmps10
  go_wp2_with fail
  go_loopw [3, 4] (fun v i wr => ∃ (s : ByteArray) (k : Nat), v = .string s ∧ i = .int .i64 k ∧ k ≤ 60 ∧ s.size ≤ 5 * k ∧ Hid (∀ c ∈ s.data.toList, c ≠ 13) ∧ Below w.heap.size w wr) (fun _ i _ => 60 - (intOf i).toNat)
  case atStart => exact ⟨_, 0, rfl, rfl, by omega, Nat.zero_le _, (fun c hc => by cases hc), Below.refl _ _⟩
  case round =>
    obtain ⟨s, k, rfl, rfl, hk, hs, H13, hbl⟩ := hrel
    have HB := hide hbl
    clear hbl
    by_cases hlt : k < n ∧ k < 60
    · obtain ⟨h1, h2⟩ := hlt
      obtain ⟨g, off, rfl, hg, hx⟩ := HX.out (by omega)
      obtain ⟨x, hx⟩ := hx k h1
      have HC : Hid (∀ o, (wr.alloc o).cell? ⟨g, off + k, none⟩ = some (.int .i64 x)) := fun o => (((HB.out.alloc HB.out.size o).cell (p := ⟨g, off + k, none⟩) hg)).trans hx
      have hcell := HC.out
      clear hx HC
      have hwk : IntKind.i64.wrap ((k : Int) + 1) = ((k + 1 : Nat) : Int) := by rw [IntKind.wrap_i64]; omega
      have b1 : ¬ 9223372036854775807 < s.size + 1 := by omega
      have b2 : ¬ 9223372036854775807 < s.size + 2 := by omega
      have b3 : ¬ 9223372036854775807 < s.size + 3 := by omega
      have b4 : ¬ 9223372036854775807 < s.size + 4 := by omega
      have b5 : ¬ 9223372036854775807 < s.size + 5 := by omega
      go_wp2_with fail
      refine (within_n x 20 _ (by decide) (by decide)).mono ?_
      rintro e w2 ⟨rfl, h2⟩
      rw [h2]
      clear h2
      have hwi := wi_n x 20 (by decide)
      obtain ⟨q, hq⟩ : ∃ q : Nat, wi x 20 = q := ⟨(wi x 20).toNat, by omega⟩
      have hq20 : q < 20 := by omega
      rw [hq]
      clear hwi hq
      have hpc : ∃ u : ByteArray, (wr.alloc (.cells #[.string ⟨#[40]⟩, .string ⟨#[41]⟩, .string ⟨#[97]⟩, .string ⟨#[102, 110, 32]⟩, .string ⟨#[32]⟩, .string ⟨#[49, 50]⟩, .string ⟨#[45, 51]⟩, .string ⟨#[45, 62]⟩, .string ⟨#[42]⟩, .string ⟨#[45]⟩, .string ⟨#[59, 32, 120, 10]⟩, .string ⟨#[10]⟩, .string ⟨#[98, 39]⟩, .string ⟨#[95, 99]⟩, .string ⟨#[48]⟩, .string ⟨#[122, 101, 114, 111, 32]⟩, .string ⟨#[57, 97]⟩, .string ⟨#[33]⟩, .string ⟨#[9]⟩, .string ⟨#[85, 48]⟩] 9)).cell? ⟨wr.heap.size, q, none⟩ = some (.string u) ∧ u.size ≤ 5 ∧ ∀ c ∈ u.data.toList, c ≠ 13 := by
        rw [cell_of_block (heap_alloc_new wr _)]
        exact pieces q hq20
      have HBA : Hid (Below w.heap.size w (wr.alloc (.cells #[.string ⟨#[40]⟩, .string ⟨#[41]⟩, .string ⟨#[97]⟩, .string ⟨#[102, 110, 32]⟩, .string ⟨#[32]⟩, .string ⟨#[49, 50]⟩, .string ⟨#[45, 51]⟩, .string ⟨#[45, 62]⟩, .string ⟨#[42]⟩, .string ⟨#[45]⟩, .string ⟨#[59, 32, 120, 10]⟩, .string ⟨#[10]⟩, .string ⟨#[98, 39]⟩, .string ⟨#[95, 99]⟩, .string ⟨#[48]⟩, .string ⟨#[122, 101, 114, 111, 32]⟩, .string ⟨#[57, 97]⟩, .string ⟨#[33]⟩, .string ⟨#[9]⟩, .string ⟨#[85, 48]⟩] 9))) := HB.out.alloc HB.out.size _
      generalize wr.alloc (.cells #[.string ⟨#[40]⟩, .string ⟨#[41]⟩, .string ⟨#[97]⟩, .string ⟨#[102, 110, 32]⟩, .string ⟨#[32]⟩, .string ⟨#[49, 50]⟩, .string ⟨#[45, 51]⟩, .string ⟨#[45, 62]⟩, .string ⟨#[42]⟩, .string ⟨#[45]⟩, .string ⟨#[59, 32, 120, 10]⟩, .string ⟨#[10]⟩, .string ⟨#[98, 39]⟩, .string ⟨#[95, 99]⟩, .string ⟨#[48]⟩, .string ⟨#[122, 101, 114, 111, 32]⟩, .string ⟨#[57, 97]⟩, .string ⟨#[33]⟩, .string ⟨#[9]⟩, .string ⟨#[85, 48]⟩] 9) = wA at *
      obtain ⟨u, hu, hu5, hu13⟩ := hpc
      have H2 := hide hu13
      have hb : ¬ 9223372036854775807 < s.size + u.size := by omega
      clear hu13 hcell b1 b2 b3 b4 b5
      go_wp2_with fail
      go_roundw
      case rel => exact ⟨s ++ u, k + 1, rfl, by go_num, by omega, by rw [ByteArray.size_append]; omega, no13 H13.out H2.out, HBA.out⟩
      case measure => simp [intOf]; omega
    · have hor : ¬ k < n ∨ (k < n ∧ k = 60) := by omega
      rcases hor with h1 | ⟨h1, h2⟩
      · clear hlt
        go_wp2_with fail
        go_ret
        exact ⟨s, rfl, by omega, H13.out, HB.out⟩
      · clear hlt
        subst h2
        go_wp2_with fail
        go_ret
        exact ⟨s, rfl, by omega, H13.out, HB.out⟩
#print axioms text_any
end Go.Proofs.YtoadbgdkcdilhaaDoor
