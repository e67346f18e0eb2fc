/- rebuild: what Subst makes. -/
import Derived.Test.YtpmaagafcpaajaaDoorSh
import Derived.Test.YtpmaagafcpaajaaDoorTs
namespace Go.Proofs.YtpmaagafcpaajaaDoor
open Go.RowKit

theorem NewTm.more {w w' : World} {f g : Nat} {t : Tr} {e : Ending} (h : NewTm w f t e w') (hg : f ≤ g) : NewTm w g t e w' := by
  obtain ⟨p0, p1, pa, pl, pc, h1, h2, h3⟩ := h
  exact ⟨p0, p1, pa, pl, pc, h1, h2.more hg, h3⟩

set_option maxRecDepth 20000 in
set_option maxHeartbeats 1000000 in
theorem uput_eq (B g : Nat) (s : Tr) (n u so sn : Int) (sa : Option Addr) (sl sc : Nat) (w : World) (h : TmAt w B g s (.agg #[.int .i64 so, .int .i64 sn, .slice sa sl sc])) (hB : B ≤ w.heap.size) (ht : Tb w) (h4 : 4 ≤ B) (hs : s.size ≤ 8388608) (hg : g ≤ 200000) (hsd : Snd 1000000000 s) (hu : 0 ≤ u ∧ u ≤ 1000000) :
    Calls Tryd.prog 49 #[.agg #[.int .i64 n, .int .i64 so, .int .i64 sn, .slice sa sl sc], .agg #[.int .i64 n, .int .i64 u]] w (NewTm w g (shf u 0 0 s)) := by
  have HT := hide h; have HS := hide hs; have HF := hide hg; have HTB := hide ht; have HSD := hide hsd
  clear h hs hg ht hsd
  have HA : Hid (Below w.heap.size w (((w.alloc (.cells #[.int .i64 n, .int .i64 so, .int .i64 sn, .slice sa sl sc] 74)).alloc (.cells #[.int .i64 n, .int .i64 u] 67)).alloc (.cells #[.int .i64 0, .int .i64 0, .slice none 0 0] 29))) := (((Below.refl w.heap.size w).alloc (Nat.le_refl _) _).alloc (by simp) _).alloc (by simp; omega) _
  go_enter Tryd.func49, Tryd.ntmps49
  go_wp2_with fail
  refine (shift_any B g u 0 s _ 0 _ (TmAt.below HT.out HA.out hB (Nat.le_refl _)) (Nat.le_trans hB HA.out.size) (HTB.out.later HA.out) h4 HS.out (by omega) (by have := HF.out; omega) HSD.out (by omega) (by omega)).mono ?_
  rintro e w1 ⟨p0, p1, pa, pl, pc, rfl, ht1, hb1⟩
  obtain ⟨_, _, k2, hbl, hs1⟩ := box_three hb1
  obtain ⟨y0, y1, y2⟩ := blk3 k2
  obtain ⟨z0, z1, z2⟩ := frz3 k2
  have HB := hide hbl; have HT1 := hide ht1
  clear hb1 hbl k2 ht1
  go_wp2_with fail
  refine bodyPost_ret (v := .agg #[.int .i64 p0, .int .i64 p1, .slice pa pl pc]) (by simp [results, Tryd.results49, go_sem, y0, y1, y2]) rfl ⟨_, _, _, _, _, rfl, tm_put3 HT1.out (by simp; omega) (by simp), ?_⟩
  exact ((HB.out.setCell (show w.heap.size ≤ w.heap.size + 1 + 1 by omega) _).setCell (show w.heap.size ≤ w.heap.size + 1 + 1 by omega) _).setCell (show w.heap.size ≤ w.heap.size + 1 + 1 by omega) _

set_option maxRecDepth 20000 in
set_option maxHeartbeats 1000000 in
theorem uput_ne (n x u r so sn : Int) (sa : Option Addr) (sl sc : Nat) (w : World) (hx : 0 ≤ x ∧ x ≤ 1000000000) (hu : 0 ≤ u ∧ u ≤ 1000000) (hne : ¬ x = n) (hn : 0 ≤ n) (hr : Hid (r = if n < x then x - 1 + u else x + u)) :
    Calls Tryd.prog 49 #[.agg #[.int .i64 n, .int .i64 so, .int .i64 sn, .slice sa sl sc], .agg #[.int .i64 x, .int .i64 u]] w fun e w' => e = .returned (.agg #[.int .i64 1, .int .i64 r, .slice none 0 0]) ∧ Below w.heap.size w w' := by
  have hb := ne_beq hne
  by_cases h : n < x
  · have HE : Hid (r = x - 1 + u) := hide (by have := hr.out; rwa [if_pos h] at this)
    clear hr
    go_enter Tryd.func49, Tryd.ntmps49
    go_wp2_with fail
    refine (node_any (x - 1) u _ (by omega) (by omega)).mono ?_
    rintro e w1 ⟨rfl, hb1⟩
    obtain ⟨_, _, k2, hbl, _⟩ := box_three hb1
    obtain ⟨y0, y1, y2⟩ := blk3 k2
    obtain ⟨z0, z1, z2⟩ := frz3 k2
    have HB := hide hbl
    clear hb1 hbl k2
    go_wp2_with fail
    refine bodyPost_ret (v := .agg #[.int .i64 1, .int .i64 (x - 1 + u), .slice none 0 0]) (by simp [results, Tryd.results49, go_sem, y0, y1, y2]) rfl ⟨by rw [HE.out], ?_⟩
    exact ((HB.out.setCell (show w.heap.size ≤ w.heap.size + 1 + 1 by omega) _).setCell (show w.heap.size ≤ w.heap.size + 1 + 1 by omega) _).setCell (show w.heap.size ≤ w.heap.size + 1 + 1 by omega) _
  · have HE : Hid (r = x + u) := hide (by have := hr.out; rwa [if_neg h] at this)
    clear hr
    go_enter Tryd.func49, Tryd.ntmps49
    go_wp2_with fail
    refine (node_any (x) u _ (by omega) (by omega)).mono ?_
    rintro e w1 ⟨rfl, hb1⟩
    obtain ⟨_, _, k2, hbl, _⟩ := box_three hb1
    obtain ⟨y0, y1, y2⟩ := blk3 k2
    obtain ⟨z0, z1, z2⟩ := frz3 k2
    have HB := hide hbl
    clear hb1 hbl k2
    go_wp2_with fail
    refine bodyPost_ret (v := .agg #[.int .i64 1, .int .i64 (x + u), .slice none 0 0]) (by simp [results, Tryd.results49, go_sem, y0, y1, y2]) rfl ⟨by rw [HE.out], ?_⟩
    exact ((HB.out.setCell (show w.heap.size ≤ w.heap.size + 1 + 1 by omega) _).setCell (show w.heap.size ≤ w.heap.size + 1 + 1 by omega) _).setCell (show w.heap.size ≤ w.heap.size + 1 + 1 by omega) _

set_option maxRecDepth 20000 in
set_option maxHeartbeats 1000000 in
theorem subst_var (B g : Nat) (s : Tr) (n so sn : Int) (sa : Option Addr) (sl sc : Nat) (a : Option Addr) (cap : Nat) (m u : Int) (w : World) (h : TmAt w B g s (.agg #[.int .i64 so, .int .i64 sn, .slice sa sl sc])) (hB : B ≤ w.heap.size) (ht : Tb w) (h4 : 4 ≤ B) (hs : s.size ≤ 8388608) (hg : g ≤ 200000) (hg1 : 1 ≤ g) (hsd : Snd 1000000000 s) (hm : I64 m) (h0 : 0 ≤ u) (h1 : u ≤ m) (hu : u ≤ 1000000) (hm2 : m ≤ 1000000000) (hn : 0 ≤ n) :
    Calls Tryd.prog 48 #[.agg #[.int .i64 1, .int .i64 m, .slice a 0 cap], .int .i64 u, .agg #[.int .i64 n, .int .i64 so, .int .i64 sn, .slice sa sl sc], .func (.func 49) #[] #[]] w (NewTm w g (sub n s u ⟨1, m, []⟩)) := by
  have HM := hide hm
  clear hm
  have H1 := hide h1
  have HT := hide h; have HS := hide hs; have HF := hide hg; have HTB := hide ht; have HSD := hide hsd
  clear h hs hg ht hsd
  go_enter Tryd.func48, Tryd.ntmps48
  go_wp2_with fail
  refine (freeat_yes m u _ _ _ _ HM.out ⟨h0, by omega⟩ H1.out).mono ?_
  rintro e w1 ⟨rfl, hb1⟩
  obtain ⟨k0, k1, k2, hbl, hs1⟩ := box_three hb1
  have HB1 := hide hbl
  have e0 : ∀ o, (w1.alloc o).cell? ⟨w.heap.size + 1, 0, none⟩ = some (.int .i64 n) := (old_cell ((cell_of_block k1 0).trans rfl) (by omega)).1
  have e1 : ∀ o, (w1.alloc o).cell? ⟨w.heap.size + 1, 1, none⟩ = some (.int .i64 so) := (old_cell ((cell_of_block k1 1).trans rfl) (by omega)).1
  have e2 : ∀ o, (w1.alloc o).cell? ⟨w.heap.size + 1, 2, none⟩ = some (.int .i64 sn) := (old_cell ((cell_of_block k1 2).trans rfl) (by omega)).1
  have e3 : ∀ o, (w1.alloc o).cell? ⟨w.heap.size + 1, 3, none⟩ = some (.slice sa sl sc) := (old_cell ((cell_of_block k1 3).trans rfl) (by omega)).1
  have HK2 := hide k2
  clear hb1 hbl k0 k1 k2
  have HAL : Hid (∀ o, Below w.heap.size w (w1.alloc o)) := hide (fun o => HB1.out.alloc (by omega) o)
  go_wp2_with fail
  have key : ∀ w2 p0 p1 pa pl pc, TmD w2 (fun k => w1.heap.size + 1 ≤ k ∧ k < w2.heap.size) g (sub n s u ⟨1, m, []⟩) (.agg #[.int .i64 p0, .int .i64 p1, .slice pa pl pc]) → Below (w1.heap.size + 1) (w1.alloc (.cells #[.int .i64 (m - u), .int .i64 u] 67)) w2 →
      w2.heap[w.heap.size + 2]? = some (.cells #[.int .i64 0, .int .i64 0, .slice none 0 0] 29 (0, 0)) ∧ Below w.heap.size w w2 := fun w2 _ _ _ _ _ _ hb2 => ⟨(hb2.block _ (by omega)).trans ((Below.heap_alloc _ _ _ (by omega)).trans HK2.out), (HAL.out _).trans (hb2.mono (by omega))⟩
  have KEY := hide key
  clear key
  by_cases hq : m - u = n
  · subst hq
    refine (uput_eq B g s (m - u) u so sn sa sl sc _ (TmAt.below HT.out (HAL.out _) hB (Nat.le_refl _)) (by rw [World.size_alloc]; omega) (HTB.out.later (HAL.out _)) h4 HS.out HF.out HSD.out ⟨h0, hu⟩).mono ?_
    rintro e w2 ⟨p0, p1, pa, pl, pc, rfl, ht2, hb2⟩
    have ht2' : TmD w2 (fun k => w1.heap.size + 1 ≤ k ∧ k < w2.heap.size) g (sub (m - u) s u ⟨1, m, []⟩) (.agg #[.int .i64 p0, .int .i64 p1, .slice pa pl pc]) := by
      rw [sub_var _ _ _ rfl, if_pos (by show m = m - u + u; omega)]
      rw [World.size_alloc] at ht2
      exact ht2
    rw [World.size_alloc] at hb2
    obtain ⟨k2, hbl⟩ := KEY.out w2 p0 p1 pa pl pc ht2' hb2
    obtain ⟨y0, y1, y2⟩ := blk3 k2
    obtain ⟨z0, z1, z2⟩ := frz3 k2
    have HB2 := hide hbl; have HT2 := hide ht2'
    clear hb2 ht2 ht2' k2 hbl
    go_wp2_with fail
    refine bodyPost_ret (v := .agg #[.int .i64 p0, .int .i64 p1, .slice pa pl pc]) (by simp [results, Tryd.results48, go_sem, y0, y1, y2]) rfl ⟨_, _, _, _, _, rfl, tm_put3 HT2.out (by omega) (by omega), ?_⟩
    exact ((HB2.out.setCell (show w.heap.size ≤ w.heap.size + 1 + 1 by omega) _).setCell (show w.heap.size ≤ w.heap.size + 1 + 1 by omega) _).setCell (show w.heap.size ≤ w.heap.size + 1 + 1 by omega) _
  · refine (uput_ne n (m - u) u _ so sn sa sl sc _ (by omega) ⟨h0, hu⟩ hq hn (hide rfl)).mono ?_
    rintro e w2 ⟨rfl, hb2⟩
    generalize hr : (if n < m - u then m - u - 1 + u else m - u + u) = r
    have ht2' : TmD w2 (fun k => w1.heap.size + 1 ≤ k ∧ k < w2.heap.size) g (sub n s u ⟨1, m, []⟩) (.agg #[.int .i64 1, .int .i64 r, .slice none 0 0]) := by
      obtain ⟨g', rfl⟩ : ∃ g', g = g' + 1 := ⟨g - 1, by omega⟩
      rw [sub_var _ _ _ rfl, if_neg (by show ¬ m = n + u; omega)]
      have hrr : (if n + u < m then (⟨1, m - 1, []⟩ : Tr) else ⟨1, m, []⟩) = ⟨1, r, []⟩ := by
        rw [← hr]
        by_cases hc : n < m - u
        · rw [if_pos (by omega), if_pos hc, show m - u - 1 + u = m - 1 by omega]
        · rw [if_neg (by omega), if_neg hc, show m - u + u = m by omega]
      simp only
      rw [hrr]
      exact tmd_leaf g' (by unfold I64; omega) (by unfold I64; rw [← hr]; split <;> omega)
    rw [World.size_alloc] at hb2
    obtain ⟨k2, hbl⟩ := KEY.out w2 _ _ _ _ _ ht2' hb2
    obtain ⟨y0, y1, y2⟩ := blk3 k2
    obtain ⟨z0, z1, z2⟩ := frz3 k2
    have HB2 := hide hbl; have HT2 := hide ht2'
    clear hb2 ht2' k2 hbl hr
    go_wp2_with fail
    refine bodyPost_ret (v := .agg #[.int .i64 1, .int .i64 r, .slice none 0 0]) (by simp [results, Tryd.results48, go_sem, y0, y1, y2]) rfl ⟨_, _, _, _, _, rfl, tm_put3 HT2.out (by omega) (by omega), ?_⟩
    exact ((HB2.out.setCell (show w.heap.size ≤ w.heap.size + 1 + 1 by omega) _).setCell (show w.heap.size ≤ w.heap.size + 1 + 1 by omega) _).setCell (show w.heap.size ≤ w.heap.size + 1 + 1 by omega) _
#print axioms subst_var
end Go.Proofs.YtpmaagafcpaajaaDoor
