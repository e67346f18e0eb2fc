/- What a term that doubles comes to. -/
import Derived.Test.YtjiecahopdaghaaDoorKdb
import Derived.Test.YtjiecahopdaghaaDoorKdc
import Derived.Test.YtjiecahopdaghaaDoorKdd
import Derived.Test.YtjiecahopdaghaaDoorKde
namespace Go.Proofs.YtjiecahopdaghaaDoor
open Go.RowKit

theorem norm_deep {n : Nat} (hn : n ≤ 10) : normM 1000 (deepT n) = some (treeD n, 0) := normIs_eq (allN_of fam_deep (by omega))
theorem norm_no {n : Nat} (h1 : 10 < n) (h2 : n < 40) : ∃ t, normM 1000 (deepT n) = some (t, 5) := by
  have h : deepNo 1000 n = true := by
    match n, h1, h2 with
    | 11, _, _ => exact no_11
    | 12, _, _ => exact no_12
    | 13, _, _ => exact no_13
    | 14, _, _ => exact no_14
    | 15, _, _ => exact no_15
    | 16, _, _ => exact no_16
    | 17, _, _ => exact no_17
    | 18, _, _ => exact no_18
    | 19, _, _ => exact no_19
    | 20, _, _ => exact no_20
    | 21, _, _ => exact no_21
    | 22, _, _ => exact no_22
    | 23, _, _ => exact no_23
    | 24, _, _ => exact no_24
    | 25, _, _ => exact no_25
    | 26, _, _ => exact no_26
    | 27, _, _ => exact no_27
    | 28, _, _ => exact no_28
    | 29, _, _ => exact no_29
    | 30, _, _ => exact no_30
    | 31, _, _ => exact no_31
    | 32, _, _ => exact no_32
    | 33, _, _ => exact no_33
    | 34, _, _ => exact no_34
    | 35, _, _ => exact no_35
    | 36, _, _ => exact no_36
    | 37, _, _ => exact no_37
    | 38, _, _ => exact no_38
    | 39, _, _ => exact no_39
    | 0, h, _ | 1, h, _ | 2, h, _ | 3, h, _ | 4, h, _ | 5, h, _ | 6, h, _ | 7, h, _ | 8, h, _ | 9, h, _ | 10, h, _ => omega
    | n + 40, _, h => omega
  unfold deepNo at h
  split at h
  · rename_i r hr
    exact ⟨r.1, by rw [hr, ← of_decide_eq_true h]⟩
  · simp at h
#print axioms norm_no
end Go.Proofs.YtjiecahopdaghaaDoor
