/- rebuild: what Subst makes, the walk. -/
import Derived.Test.YtpmaagafcpaajaaDoorSu
import Derived.Deep.DeepCutAuto
import Derived.Deep.CutBlock
import Derived.Deep.RegionHeld3
namespace Go.Proofs.YtpmaagafcpaajaaDoor
open Go.RowKit

theorem held_su {w w5 : World} {x0 x1 x2 y0 y1 y2 y3 y4 y5 : Value} {q m : Nat} (hb : Below (w.alloc (.cells #[x0, x1, x2] 29)).drew.heap.size (w.alloc (.cells #[x0, x1, x2] 29)).drew w5)
    (h0 : (w.alloc (.cells #[x0, x1, x2] 29)).cell? ⟨q, 0, none⟩ = some y0) (h1 : (w.alloc (.cells #[x0, x1, x2] 29)).cell? ⟨q + 1, 0, none⟩ = some y1) (h2 : (w.alloc (.cells #[x0, x1, x2] 29)).cell? ⟨q + 1, 1, none⟩ = some y2) (h4 : (w.alloc (.cells #[x0, x1, x2] 29)).cell? ⟨q + 1, 2, none⟩ = some y4) (h5 : (w.alloc (.cells #[x0, x1, x2] 29)).cell? ⟨q + 1, 3, none⟩ = some y5) (h3 : (w.alloc (.cells #[x0, x1, x2] 29)).cell? ⟨m, 2, none⟩ = some y3)
    (_ : q < w.heap.size) (hq1 : q + 1 < w.heap.size) (hm : m < w.heap.size) :
    w5.cell? ⟨w.heap.size, 0, none⟩ = some x0 ∧ w5.cell? ⟨w.heap.size, 1, none⟩ = some x1 ∧ w5.cell? ⟨w.heap.size, 2, none⟩ = some x2 ∧ w5.cell? ⟨q, 0, none⟩ = some y0 ∧ w5.cell? ⟨q + 1, 0, none⟩ = some y1 ∧ w5.cell? ⟨q + 1, 1, none⟩ = some y2 ∧ w5.cell? ⟨q + 1, 2, none⟩ = some y4 ∧ w5.cell? ⟨q + 1, 3, none⟩ = some y5 ∧ w5.cell? ⟨m, 2, none⟩ = some y3 := by
  have hc : ∀ p : Addr, p.block < w.heap.size + 1 → w5.cell? p = (w.alloc (.cells #[x0, x1, x2] 29)).cell? p := fun p hp => hb.cell (p := p) (by rw [size_drew, World.size_alloc]; exact hp)
  refine ⟨?_, ?_, ?_, ?_, ?_, ?_, ?_, ?_, ?_⟩
  · rw [hc _ (by simp)]; simp
  · rw [hc _ (by simp)]; simp
  · rw [hc _ (by simp)]; simp
  · rw [hc _ (by show q < _; omega)]; exact h0
  · rw [hc _ (by show q + 1 < _; omega)]; exact h1
  · rw [hc _ (by show q + 1 < _; omega)]; exact h2
  · rw [hc _ (by show q + 1 < _; omega)]; exact h4
  · rw [hc _ (by show q + 1 < _; omega)]; exact h5
  · rw [hc _ (by show m < _; omega)]; exact h3
theorem held_put4 {w5 : World} {N q m rb i j l : Nat} {x0 x1 x2 y0 y1 y2 y3 y4 y5 p0 p1 p2 : Value}
    (h : w5.cell? ⟨N, 0, none⟩ = some x0 ∧ w5.cell? ⟨N, 1, none⟩ = some x1 ∧ w5.cell? ⟨N, 2, none⟩ = some x2 ∧ w5.cell? ⟨q, 0, none⟩ = some y0 ∧ w5.cell? ⟨q + 1, 0, none⟩ = some y1 ∧ w5.cell? ⟨q + 1, 1, none⟩ = some y2 ∧ w5.cell? ⟨q + 1, 2, none⟩ = some y4 ∧ w5.cell? ⟨q + 1, 3, none⟩ = some y5 ∧ w5.cell? ⟨m, 2, none⟩ = some y3)
    (hN : N ≠ rb) (hq : q ≠ rb) (hq1 : q + 1 ≠ rb) (hm : m ≠ rb) :
    (((w5.setCell ⟨rb, i, none⟩ p0).setCell ⟨rb, j, none⟩ p1).setCell ⟨rb, l, none⟩ p2).cell? ⟨N, 0, none⟩ = some x0 ∧ (((w5.setCell ⟨rb, i, none⟩ p0).setCell ⟨rb, j, none⟩ p1).setCell ⟨rb, l, none⟩ p2).cell? ⟨N, 1, none⟩ = some x1 ∧ (((w5.setCell ⟨rb, i, none⟩ p0).setCell ⟨rb, j, none⟩ p1).setCell ⟨rb, l, none⟩ p2).cell? ⟨N, 2, none⟩ = some x2 ∧ (((w5.setCell ⟨rb, i, none⟩ p0).setCell ⟨rb, j, none⟩ p1).setCell ⟨rb, l, none⟩ p2).cell? ⟨q, 0, none⟩ = some y0 ∧ (((w5.setCell ⟨rb, i, none⟩ p0).setCell ⟨rb, j, none⟩ p1).setCell ⟨rb, l, none⟩ p2).cell? ⟨q + 1, 0, none⟩ = some y1 ∧ (((w5.setCell ⟨rb, i, none⟩ p0).setCell ⟨rb, j, none⟩ p1).setCell ⟨rb, l, none⟩ p2).cell? ⟨q + 1, 1, none⟩ = some y2 ∧ (((w5.setCell ⟨rb, i, none⟩ p0).setCell ⟨rb, j, none⟩ p1).setCell ⟨rb, l, none⟩ p2).cell? ⟨q + 1, 2, none⟩ = some y4 ∧ (((w5.setCell ⟨rb, i, none⟩ p0).setCell ⟨rb, j, none⟩ p1).setCell ⟨rb, l, none⟩ p2).cell? ⟨q + 1, 3, none⟩ = some y5 ∧ (((w5.setCell ⟨rb, i, none⟩ p0).setCell ⟨rb, j, none⟩ p1).setCell ⟨rb, l, none⟩ p2).cell? ⟨m, 2, none⟩ = some y3 := by
  obtain ⟨a0, a1, a2, a3, a4, a5, a6, a7, a8⟩ := h
  exact ⟨(cell_put3 hN).trans a0, (cell_put3 hN).trans a1, (cell_put3 hN).trans a2, (cell_put3 hq).trans a3, (cell_put3 hq1).trans a4, (cell_put3 hq1).trans a5, (cell_put3 hq1).trans a6, (cell_put3 hq1).trans a7, (cell_put3 hm).trans a8⟩

theorem sub_take_succ (n : Int) (s : Tr) (u : Int) (t : Tr) (k : Nat) (hk : k < t.kids.length) {b : Int} (hs : Snd b t) : (sub n s u t).kids.take (k + 1) = (sub n s u t).kids.take k ++ [sub n s (u + (bnd t.op (k : Nat) : Nat)) t.kids[k]] := by
  have ho : ¬ t.op = 1 := fun h => by have := (hs.top h).1; rw [this] at hk; simp at hk
  rw [sub_non _ _ _ ho]
  simp only
  rw [List.take_succ_eq_append_getElem (by simpa using hk), List.getElem_mapIdx]

set_option maxRecDepth 20000 in
set_option maxHeartbeats 1000000 in
theorem subst_any (B f g : Nat) (s : Tr) (m so sn : Int) (sa : Option Addr) (sl sc : Nat) : ∀ (t : Tr) (v : Value) (u : Int) (w : World), TmAt w B f t v → B ≤ w.heap.size → Tb w → 4 ≤ B → t.size ≤ 8388608 → 0 ≤ u → u + 2 * f ≤ 1000000 → Snd 1000000000 t → TmAt w B g s (.agg #[.int .i64 so, .int .i64 sn, .slice sa sl sc]) → s.size ≤ 8388608 → g ≤ 200000 → 1 ≤ g → Snd 1000000000 s → 0 ≤ m →
    Calls Tryd.prog 48 #[v, .int .i64 u, .agg #[.int .i64 m, .int .i64 so, .int .i64 sn, .slice sa sl sc], .func (.func 49) #[] #[]] w fun e w' => ∃ p0 p1 pa pl pc, e = .returned (.agg #[.int .i64 p0, .int .i64 p1, .slice pa pl pc]) ∧ TmD w' (fun k => w.heap.size ≤ k ∧ k < w'.heap.size) (f + g) (sub m s u t) (.agg #[.int .i64 p0, .int .i64 p1, .slice pa pl pc]) ∧ Below w.heap.size w w' := by
  induction f with
  | zero => intro t v u w h; exact h.elim
  | succ f ih =>
    rintro t v u w ⟨a, cap, rfl, hop, hn, hrow⟩ hB ht hB4 hsz hu0 hu1 hsd hs hss hg hg1 hsb hn0
    by_cases hq : t.op = 1 ∧ u ≤ t.n
    · have hk := hsd.top hq.1
      have h := subst_var B g s m so sn sa sl sc a cap t.n u w hs hB ht hB4 hss hg hg1 hsb hn hu0 hq.2 (by omega) hk.2.2 hn0
      rw [hk.1, hq.1]
      rw [var_eta hq.1 hk.1] at h
      exact h.mono (fun e w' hx => hx.more (by omega))
    · have IH := hide ih; clear ih
      have HR := hide hrow
      have hlm : t.kids.length ≤ maxLen := Nat.le_trans hrow.1 hrow.2.1
      clear hrow
      unfold maxLen at hlm
      have HU1 := hide hu1; have HSD := hide hsd; have HT := hide ht; have HQ := hide hq; have HSZ := hide hsz; have HOP := hide hop; have HN := hide hn
      have huu : u ≤ 1000000 := by omega
      have hkl : t.kids.length ≤ 8388608 := Nat.le_trans (len_size t) hsz
      have HS1 := hide hs; have HSS := hide hss; have HSB := hide hsb
      clear hu1 hsd ht hq hsz hop hn hs hss hsb
      have HV1 : Hid (t.op = 1 → 0 ≤ t.n) := fun h => (HSD.out.top h).2.1
      have HSH : Hid ((sub m s u t).op = t.op ∧ (sub m s u t).n = t.n ∧ (sub m s u t).kids.length = t.kids.length) := hide (by
        by_cases ho : t.op = 1
        · have hlt : ¬ u ≤ t.n := fun h => HQ.out ⟨ho, h⟩
          rw [sub_var _ _ _ ho, if_neg (by omega), if_neg (by omega)]; exact ⟨rfl, rfl, rfl⟩
        · rw [sub_non _ _ _ ho]; simp)
      have HSK : Hid (∀ k (h : k < t.kids.length), (sub m s u t).kids.take (k + 1) = (sub m s u t).kids.take k ++ [sub m s (u + (bnd t.op (k : Nat) : Nat)) t.kids[k]]) := hide (fun k hk => sub_take_succ m s u t k hk HSD.out)
      go_enter Tryd.func48, Tryd.ntmps48
      go_wp2_with fail
      refine (freeat_no t.op t.n u _ _ _ _ HN.out ⟨hu0, by omega⟩ HV1.out HQ.out).mono ?_
      rintro e w1 ⟨rfl, hb1⟩
      obtain ⟨k0, k1, k2, hbl, hs1⟩ := box_three hb1
      have HB1 := hide hbl
      have HK0 := hide k0; have HK1 := hide k1; have HK2 := hide k2
      obtain ⟨c0, c1, c2⟩ := blk3 k0
      clear hb1 hbl k0 k1 k2
      obtain ⟨d0, d0', d0''⟩ := old_cell c0 (by omega)
      obtain ⟨d1, d1', d1''⟩ := old_cell c1 (by omega)
      obtain ⟨d2, d2', d2''⟩ := old_cell c2 (by omega)
      by_cases hk : t.kids = []
      · have hkz : t.kids.length = 0 := by rw [hk]; rfl
        have HKE := hide hk
        rw [hkz] at c2 d2 d2' d2'' ⊢
        clear hk hkz hkl hlm
        have k2 : ∀ o o', ((w1.alloc o).alloc o').heap[w.heap.size + 1 + 1]? = some (.cells #[.int .i64 0, .int .i64 0, .slice none 0 0] 29 (0, 0)) := old_blk3 HK2.out
        have y0 := fun o o' => (blk3 (k2 o o')).1
        have y1 := fun o o' => (blk3 (k2 o o')).2.1
        have y2 := fun o o' => (blk3 (k2 o o')).2.2
        have z0 := fun o o' => (frz3 (k2 o o')).1
        have z1 := fun o o' => (frz3 (k2 o o')).2.1
        have z2 := fun o o' => (frz3 (k2 o o')).2.2
        clear k2
        go_wp2_with fail
        have HE : Hid (sub m s u t = ⟨t.op, t.n, []⟩) := hide (by rw [← Tr.eta (sub m s u t), HSH.out.1, HSH.out.2.1, List.eq_nil_of_length_eq_zero (HSH.out.2.2.trans (by rw [HKE.out]; rfl))])
        refine bodyPost_ret (v := .agg #[.int .i64 t.op, .int .i64 t.n, .slice none 0 0]) (by simp [results, Tryd.results48, go_sem, y0, y1, y2]) rfl ⟨_, _, _, _, _, rfl, by rw [HE.out]; rw [show f + 1 + g = f + g + 1 by omega]; exact tmd_leaf _ HOP.out HN.out, ?_⟩
        exact ((((HB1.out.alloc (by omega) _).alloc (by simp; omega) _).setCell (show w.heap.size ≤ w.heap.size + 1 + 1 by omega) _).setCell (show w.heap.size ≤ w.heap.size + 1 + 1 by omega) _).setCell (show w.heap.size ≤ w.heap.size + 1 + 1 by omega) _
      · have hk0 : ((t.kids.length : Int) == 0) = false := ne_beq (by have : t.kids.length ≠ 0 := fun e => hk (List.eq_nil_of_length_eq_zero e); omega)
        have HKN := hide hk
        clear hk
        obtain ⟨cs, hcs, hmk⟩ := make29 ((w1.alloc (.cells #[.int .i64 0, .int .i64 0] 67)).alloc (.cells #[.int .i64 t.op, .int .i64 t.n, .slice none 0 0] 29)) t.kids.length (by omega)
        have HCS := hide hcs
        clear hcs
        have HS0 : Hid (ShS w (((w1.alloc (.cells #[.int .i64 0, .int .i64 0] 67)).alloc (.cells #[.int .i64 t.op, .int .i64 t.n, .slice (some ⟨w1.heap.size + 1 + 1, 0, none⟩) t.kids.length t.kids.length] 29)).alloc (.cells cs 29)) w1.heap.size t.kids.length (f + g) (.cells #[.int .i64 t.op, .int .i64 t.n, .slice a t.kids.length cap] 29) (.cells #[.int .i64 m, .int .i64 so, .int .i64 sn, .slice sa sl sc] 74) t.op t.n ((sub m s u t).kids.take 0)) := hide (shs_start HB1.out HK0.out HK1.out HK2.out HCS.out hs1)
        go_wp2_with fail
        clear c0 c1 c2 d0 d1 d2 d0' d1' d2' d0'' d1'' d2''
        generalize (((w1.alloc (.cells #[.int .i64 0, .int .i64 0] 67)).alloc (.cells #[.int .i64 t.op, .int .i64 t.n, .slice (some ⟨w1.heap.size + 1 + 1, 0, none⟩) t.kids.length t.kids.length] 29)).alloc (.cells cs 29)) = w2 at *
        go_loopw [12, 43] (fun _ i wr => ∃ k : Nat, k ≤ t.kids.length ∧ i = .int .i64 k ∧ Hid (ShS w wr w1.heap.size t.kids.length (f + g) (.cells #[.int .i64 t.op, .int .i64 t.n, .slice a t.kids.length cap] 29) (.cells #[.int .i64 m, .int .i64 so, .int .i64 sn, .slice sa sl sc] 74) t.op t.n ((sub m s u t).kids.take k))) (fun _ i _ => t.kids.length - (intOf i).toNat)
        case atStart => exact ⟨0, Nat.zero_le _, rfl, HS0⟩
        case round =>
          obtain ⟨k, hk, rfl, HX⟩ := hrel
          clear HS0
          by_cases hlt : k < t.kids.length
          · obtain ⟨b2, off, ka, kc, rfl, hbB, f0, f1, f2, hr⟩ := HR.out.form hlt
            have HBX : Hid (Below w.heap.size w wr) := HX.out.bl
            have e0 := (HBX.out.cell (p := ⟨b2, off + k * 3, none⟩) (show b2 < w.heap.size by omega)).trans f0
            have e1 := (HBX.out.cell (p := ⟨b2, off + k * 3 + 1, none⟩) (show b2 < w.heap.size by omega)).trans f1
            have e2 := (HBX.out.cell (p := ⟨b2, off + k * 3 + 2, none⟩) (show b2 < w.heap.size by omega)).trans f2
            have HS := hide (HSK.out k hlt)
            have HMEM := hide (List.getElem_mem hlt)
            have hkz := Tr.kid_size (List.getElem_mem hlt)
            have HKZ : Hid (t.kids[k].size ≤ 8388608) := hide (by have := HSZ.out; omega)
            clear f0 f1 f2 hkz
            obtain ⟨p, hp⟩ : ∃ p, p = t.kids[k] := ⟨_, rfl⟩
            rw [← hp] at e0 e1 e2 hr HS HKZ HMEM
            clear hp
            have HRK := hide hr
            clear hr
            have hsr : w1.heap.size + 1 + 1 < wr.heap.size := by obtain ⟨cs', h1, _⟩ := HX.out.row; exact size_of_block h1
            have HW3 : Hid (Below w.heap.size w (wr.alloc (.cells #[.int .i64 p.op, .int .i64 p.n, .slice ka p.kids.length kc] 29))) := HBX.out.alloc (by omega) _
            have HT3 : Hid (Tb (wr.alloc (.cells #[.int .i64 p.op, .int .i64 p.n, .slice ka p.kids.length kc] 29))) := HT.out.later HW3.out
            have g0 := (old_cell ((cell_of_block HX.out.b0 0).trans rfl) (size_of_block HX.out.b0)).1
            have g1 := (old_cell ((cell_of_block HX.out.b1 0).trans rfl) (size_of_block HX.out.b1)).1
            have g2 := (old_cell ((cell_of_block HX.out.b1 1).trans rfl) (size_of_block HX.out.b1)).1
            have g4 := (old_cell ((cell_of_block HX.out.b1 2).trans rfl) (size_of_block HX.out.b1)).1
            have g5 := (old_cell ((cell_of_block HX.out.b1 3).trans rfl) (size_of_block HX.out.b1)).1
            have g3 := (old_cell ((cell_of_block HX.out.bo 2).trans rfl) (size_of_block HX.out.bo)).1
            obtain ⟨bn, hbn⟩ : ∃ bn : Int, bn = (bnd t.op (k : Nat) : Nat) := ⟨_, rfl⟩
            have hbn0 : 0 ≤ bn := by omega
            have hbn2 : bn ≤ 2 := by have := bnd_le t.op (k : Nat); omega
            have hwu : IntKind.i64.wrap (u + bn) = u + bn := by rw [IntKind.wrap_i64]; omega
            have HBI : Hid (∀ w', Tb w' → Calls Tryd.prog 18 #[.int .i64 t.op, .int .i64 (k : Nat)] w' fun e w'' => e = .returned (.int .i64 bn) ∧ w'' = w') := hide (fun w' h' => by rw [hbn]; exact tbinders_any t.op (k : Nat) w' h')
            rw [← hbn] at HS
            clear hbn
            have HC : Hid (Calls Tryd.prog 48 #[.agg #[.int .i64 p.op, .int .i64 p.n, .slice ka p.kids.length kc], .int .i64 (u + bn), .agg #[.int .i64 m, .int .i64 so, .int .i64 sn, .slice sa sl sc], .func (.func 49) #[] #[]] (wr.alloc (.cells #[.int .i64 p.op, .int .i64 p.n, .slice ka p.kids.length kc] 29)).drew fun e w' => ∃ p0 p1 pa pl pc, e = .returned (.agg #[.int .i64 p0, .int .i64 p1, .slice pa pl pc]) ∧ TmD w' (fun k => (wr.alloc (.cells #[.int .i64 p.op, .int .i64 p.n, .slice ka p.kids.length kc] 29)).drew.heap.size ≤ k ∧ k < w'.heap.size) (f + g) (sub m s (u + bn) p) (.agg #[.int .i64 p0, .int .i64 p1, .slice pa pl pc]) ∧ Below (wr.alloc (.cells #[.int .i64 p.op, .int .i64 p.n, .slice ka p.kids.length kc] 29)).drew.heap.size (wr.alloc (.cells #[.int .i64 p.op, .int .i64 p.n, .slice ka p.kids.length kc] 29)).drew w') :=
              hide (IH.out p _ (u + bn) _ (TmD.drew (TmAt.below HRK.out HW3.out hB (Nat.le_refl _))) (by rw [size_drew, World.size_alloc]; omega) HT3.out.drew hB4 HKZ.out (by omega) (by have := HU1.out; omega) (HSD.out.kid HMEM.out) (TmD.drew (TmAt.below HS1.out HW3.out hB (Nat.le_refl _))) HSS.out hg hg1 HSB.out hn0)
            go_wp2_with fail
            go_region_held3 (fun w' => w'.cell? ⟨wr.heap.size, 0, none⟩ = some (.int .i64 p.op) ∧ w'.cell? ⟨wr.heap.size, 1, none⟩ = some (.int .i64 p.n) ∧ w'.cell? ⟨wr.heap.size, 2, none⟩ = some (.slice ka p.kids.length kc) ∧ w'.cell? ⟨w.heap.size, 0, none⟩ = some (.int .i64 t.op) ∧ w'.cell? ⟨w.heap.size + 1, 0, none⟩ = some (.int .i64 m) ∧ w'.cell? ⟨w.heap.size + 1, 1, none⟩ = some (.int .i64 so) ∧ w'.cell? ⟨w.heap.size + 1, 2, none⟩ = some (.int .i64 sn) ∧ w'.cell? ⟨w.heap.size + 1, 3, none⟩ = some (.slice sa sl sc) ∧ w'.cell? ⟨w1.heap.size + 1, 2, none⟩ = some (.slice (some ⟨w1.heap.size + 1 + 1, 0, none⟩) t.kids.length t.kids.length))
              (first | exact HS5.out | exact held_put4 HS5.out (by omega) (by omega) (by omega) (by omega) | go_keep)
              (first
               | (go_at_call 18; refine (HBI.out _ HT3.out.drew).mono ?_; rintro e w4 ⟨rfl, rfl⟩)
               | (go_at_call 48; refine HC.out.mono ?_; rintro e w5 ⟨p0, p1, pa, pl, pc, rfl, ht5, hb5⟩; have HS5 := hide (held_su hb5 (g0 _) (g1 _) (g2 _) (g4 _) (g5 _) (g3 _) (size_of_block HX.out.b0) (size_of_block HX.out.b1) (size_of_block HX.out.bo)); have HX5 := hide (HX.out.later (w5 := w5) (drew_below2 hb5)); have HT5 := hide (ht5.keep (D' := fun q => w1.heap.size + 1 + 1 < q ∧ q < w5.heap.size) (fun _ _ => rfl) (fun q hq => ⟨Nat.lt_of_lt_of_le hsr (Nat.le_trans (drew_le _ _) hq.1), hq.2⟩) (f + g) _ _); obtain ⟨⟨v0, r0⟩, z0⟩ := HX5.out.row.cells (i := k * 3) (by omega); obtain ⟨⟨v1, r1⟩, z1⟩ := HX5.out.row.cells (i := k * 3 + 1) (by omega); obtain ⟨⟨v2, r2⟩, z2⟩ := HX5.out.row.cells (i := k * 3 + 2) (by omega); clear ht5 hb5))
            all_goals
              have HX6 := hide (HX5.out.put (k := k) (by rw [List.length_take, HSH.out.2.2]; omega) hlt HT5.out)
              go_wp2_with fail
              go_roundw
              case rel => exact ⟨k + 1, by omega, by go_num, by rw [HS.out]; exact HX6.out⟩
              case measure => simp [intOf]; omega
          · have hke : k = t.kids.length := by omega
            subst hke
            obtain ⟨y0, y1, y2⟩ := blk3 HX.out.b2
            obtain ⟨z0, z1, z2⟩ := frz3 HX.out.b2
            obtain ⟨x0, x1, x2⟩ := blk3 HX.out.bo
            go_wp2_with fail
            refine bodyPost_ret (v := .agg #[.int .i64 t.op, .int .i64 t.n, .slice (some ⟨w1.heap.size + 1 + 1, 0, none⟩) t.kids.length t.kids.length]) (by simp [results, Tryd.results48, go_sem, y0, y1, y2]) rfl ⟨_, _, _, _, _, rfl, ?_, ?_⟩
            · rw [show f + 1 + g = f + g + 1 by omega]; exact sh_fin HX.out HSH.out HOP.out HN.out (by unfold maxLen; omega)
            · exact ((HX.out.bl.setCell (show w.heap.size ≤ w.heap.size + 1 + 1 by omega) _).setCell (show w.heap.size ≤ w.heap.size + 1 + 1 by omega) _).setCell (show w.heap.size ≤ w.heap.size + 1 + 1 by omega) _
#print axioms subst_any
end Go.Proofs.YtpmaagafcpaajaaDoor
