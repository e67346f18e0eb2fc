/- known: what the chapter shows first holds. -/
import Derived.Test.YtafafeplciidhaaWg
namespace Go.Proofs.Ytafafeplciidhaa
open Go.RowKit

theorem hd_zero : hd 11 0 0 = [11, 0, 0, 0, 0, 0, 0, 0, 0, 0] := by decide +kernel

set_option maxHeartbeats 400000 in
theorem known_any (w : World) : Calls Try.prog 9 #[] w fun e w' => e = .returned (.bool true) ∧ Below w.heap.size w w' := by
  have ht : TmAt w 0 1 ⟨11, 0, []⟩ (.agg #[.int .i64 11, .int .i64 0, .slice none 0 0]) :=
    ⟨none, 0, rfl, by unfold I64; simp, by unfold I64; simp, RowAt.nil (by unfold maxLen; omega)⟩
  have he : enc ⟨11, 0, []⟩ = [11, 0, 0, 0, 0, 0, 0, 0, 0, 0] := by
    rw [enc, Tr.pre_eq]
    simp [encL, hd_zero]
  have HT := hide ht; have HE := hide he
  clear ht he
  go_enter Try.func9, Try.ntmps9
  go_wp2_with fail
  refine (bytes_any 0 1 ⟨11, 0, []⟩ _ w HT.out (Nat.zero_le _) (by rw [Tr.size_eq]; simp) (by rw [Tr.pre_eq]; simp)).mono ?_
  rintro e w1 ⟨r, rfl, ⟨g, hr, hg1, hg2⟩, hb⟩
  rw [HE.out] at hr hg2
  have hr' : r = .slice (some ⟨g, 0, none⟩) 10 10 := hr
  subst hr'
  have c0 : w1.cell? ⟨g, 0, none⟩ = some (.int .u8 11) := by rw [cell_of_block hg2]; rfl
  have c9 : w1.cell? ⟨g, 9, none⟩ = some (.int .u8 0) := by rw [cell_of_block hg2]; rfl
  clear hr hg2
  go_wp2_with fail
  go_ret
  exact ⟨rfl, hb⟩
#print axioms known_any
end Go.Proofs.Ytafafeplciidhaa
