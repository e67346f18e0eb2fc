/- The walk of NormDeep. -/
import Derived.Test.YtjiecahopdaghaaDoorEk
import Derived.Test.YtjiecahopdaghaaDoorMLwxKd
namespace Go.Proofs.YtjiecahopdaghaaDoor
open Go.RowKit

/-- As far as Normal's answer. -/
theorem treeD_le {n : Nat} (h : n ≤ 10) : (treeD n).size ≤ 1000000 := by
  have := treeD_size n
  have h2 : 2 ^ (n + 1) ≤ 2 ^ 11 := Nat.pow_le_pow_right (by decide) (by omega)
  omega

attribute [local go_sem ↓] Go.wp_at_zero Go.wp_at_succ

set_option maxRecDepth 20000 in
set_option maxHeartbeats 4000000 in
theorem deep_any (a : Int) (w : World) (ht : Tb w) : Calls Tryd.prog 7 #[.int .i64 a] w fun e w' => e = .returned (.bool true) ∧ Below w.heap.size w w' := by
  have HT := hide ht
  clear ht
  obtain ⟨n, hn, hn40⟩ := wi_nat a 40 (by decide)
  have HTR : Hid (∀ {w : World}, ∀ k, w.heap.size ≤ k → (fun _ => True) k) := hide (fun _ _ => trivial)
  go_enter Tryd.func7, Tryd.ntmps7
  go_wp2_with fail
  refine (e_known HT.out).mono ?_
  rintro e w1 ⟨rfl, hb1⟩
  have HB1 := hide hb1
  clear hb1
  go_wp2_with fail
  refine (lwithin_n a 40 _ (by decide) (by decide)).mono ?_
  rintro e w9 ⟨rfl, h9⟩
  rw [h9, hn]
  clear h9 w9
  go_wp2_with fail
  refine (t_any 14 none 0 0 _).mono ?_
  rintro e w2 ⟨rfl, hb2⟩
  have HB2 := hide (HB1.out.trans (hb2.mono HB1.out.size))
  clear hb2
  go_wp2_with fail
  refine (t_any 15 none 0 0 _).mono ?_
  rintro e w3 ⟨rfl, hb3⟩
  have HB3 := hide (HB2.out.trans (hb3.mono HB2.out.size))
  clear hb3
  go_wp2_with fail
  refine (v_any 0 _).mono ?_
  rintro e w4 ⟨rfl, hb4⟩
  have HB4 := hide (HB3.out.trans (hb4.mono HB3.out.size))
  clear hb4
  go_wp2_with fail
  refine (v_any 0 _).mono ?_
  rintro e w5 ⟨rfl, hb5⟩
  have HB5 := hide (HB4.out.trans (hb5.mono HB4.out.size))
  clear hb5
  have HR5 := hide (row2 (D := fun _ => True) (w := w5) (T := varT 0) (S := varT 0) (fun _ _ => trivial) (IsD.of (tmd_leaf 0 i64_one i64_zero)) (IsD.of (tmd_leaf 0 i64_one i64_zero)))
  have HB6 := hide (HB5.out.trans ((later_alloc w5 (.cells #[.int .i64 1, .int .i64 0, .slice none 0 0, .int .i64 1, .int .i64 0, .slice none 0 0] 31)).mono HB5.out.size))
  go_wp2_with fail
  refine (e_t (op := 16) ⟨by decide, by decide⟩ HR5.out).mono ?_
  rintro e w6 ⟨u6, rfl, hu6, hb6⟩
  have HU6 := hide hu6
  obtain ⟨a0, a1, a2, a3, a4, rfl, _⟩ := hu6
  have HB7 := hide (HB6.out.trans (hb6.mono HB6.out.size))
  clear hb6
  go_wp2_with fail
  refine (e_num (D := fun _ => True) (n := n) (fun _ _ => trivial) (by omega)).mono ?_
  rintro e w7 ⟨u7, rfl, hu7, hb7⟩
  have HU7 := hide hu7
  obtain ⟨b0, b1, b2, b3, b4, rfl, _⟩ := hu7
  have HUA := hide (HU6.out.keep hb7)
  have HB8 := hide (HB7.out.trans (hb7.mono HB7.out.size))
  clear hb7
  have HR7 := hide (row4 (D := fun _ => True) (w := w7) (T := ⟨14, 0, []⟩) (S := ⟨15, 0, []⟩) (fun _ _ => trivial) (IsD.of (tmd_leaf 0 ⟨by decide, by decide⟩ i64_zero)) (IsD.of (tmd_leaf 0 ⟨by decide, by decide⟩ i64_zero)) HUA.out HU7.out)
  have HB9 := hide (HB8.out.trans ((later_alloc w7 (.cells #[.int .i64 14, .int .i64 0, .slice none 0 0, .int .i64 15, .int .i64 0, .slice none 0 0, .int .i64 a0, .int .i64 a1, .slice a2 a3 a4, .int .i64 b0, .int .i64 b1, .slice b2 b3 b4] 31)).mono HB8.out.size))
  go_wp2_with fail
  refine (e_t (op := 13) ⟨by decide, by decide⟩ HR7.out).mono ?_
  rintro e w8 ⟨u8, rfl, hu8, hb8⟩
  have HU8 := hide hu8
  have HB10 := hide (HB9.out.trans (hb8.mono HB9.out.size))
  have HTB := hide (HT.out.later HB10.out)
  have hz : (deepT n).size ≤ 1000000 := by simp only [deepT, Tr.size, num_size, List.map_cons, List.map_nil, List.sum_cons, List.sum_nil]; omega
  clear hb8 hu8
  by_cases h10 : n ≤ 10
  · have HC := hide (e_normal (D := fun _ => True) (fun _ _ => trivial) HU8.out hz HTB.out (norm_deep h10))
    have hgt : ¬ ((10 : Int) < (n : Int)) := by omega
    clear hz
    go_wp2_with fail
    refine HC.out.mono ?_
    rintro e w10 ⟨u, rfl, hu, hb⟩
    have HU : Hid (IsD (fun _ => True) (treeD n) u w10) := hide hu
    obtain ⟨c0, c1, c2, c3, c4, rfl, _⟩ := HU.out
    clear hu
    have HB11 := hide (HB10.out.trans (hb.mono HB10.out.size))
    have hal := later_alloc w10 (.cells #[.int .i64 c0, .int .i64 c1, .slice c2 c3 c4] 31)
    have HB12 := hide (HB11.out.trans (hal.mono HB11.out.size))
    have HS := hide (e_size (HU.out.keep hal) (treeD_le h10))
    have hsz := treeD_size n
    clear hb hal
    go_wp2_with fail
    refine HS.out.mono ?_
    rintro e w11 ⟨rfl, hb11⟩
    have HB13 := hide (HB12.out.trans (hb11.mono HB12.out.size))
    clear hb11 HS HU HC
    rw [show (treeD n).size = 2 ^ (n + 1) - 1 by omega]
    clear hsz hgt hn hn40
    rcases (show n = 0 ∨ n = 1 ∨ n = 2 ∨ n = 3 ∨ n = 4 ∨ n = 5 ∨ n = 6 ∨ n = 7 ∨ n = 8 ∨ n = 9 ∨ n = 10 by omega) with rfl | rfl | rfl | rfl | rfl | rfl | rfl | rfl | rfl | rfl | rfl
    all_goals
      go_wp2_with fail
      go_ret
      exact ⟨rfl, HB13.out⟩
  · obtain ⟨t, ht⟩ := norm_no (by omega) (show n < 40 by omega)
    have HC := hide (e_normal (D := fun _ => True) (fun _ _ => trivial) HU8.out hz HTB.out ht)
    have hgt : (10 : Int) < (n : Int) := by omega
    clear hz ht
    go_wp2_with fail
    refine HC.out.mono ?_
    rintro e w10 ⟨u, rfl, hu, hb⟩
    have hu2 : IsD (fun _ => True) noTm u w10 := hu
    obtain ⟨c0, c1, c2, c3, c4, rfl, htm⟩ := hu2
    rw [show noTm.size = 1 by simp [noTm, Tr.size]] at htm
    obtain ⟨d2, d4, he, _⟩ := htm
    simp only [noTm, List.length_nil, Value.agg.injEq, Array.mk.injEq, List.cons.injEq, Value.int.injEq, Value.slice.injEq, and_true, true_and] at he
    obtain ⟨rfl, rfl, rfl, rfl, rfl⟩ := he
    have HB11 := hide (HB10.out.trans ((hb.trans ((later_alloc w10 (.cells #[.int .i64 0, .int .i64 0, .slice c2 0 c4] 31)).mono hb.size)).mono HB10.out.size))
    clear hb hu
    go_wp2_with fail
    go_ret
    exact ⟨rfl, HB11.out⟩
#print axioms deep_any
end Go.Proofs.YtjiecahopdaghaaDoor
