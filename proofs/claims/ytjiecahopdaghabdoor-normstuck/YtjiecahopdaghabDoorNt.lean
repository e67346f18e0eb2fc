/- Normal. -/
import Derived.Test.YtjiecahopdaghabDoorNs
namespace Go.Proofs.YtjiecahopdaghabDoor
open Go.RowKit

/-- What Normal answers. -/
def NormOut (w : World) (r : Tr × Int) (x : Ending) (w' : World) : Prop :=
  ∃ p0 p1 pa pl pc, x = .returned (.tuple #[.agg #[.int .i64 p0, .int .i64 p1, .slice pa pl pc], .int .i64 r.2]) ∧ Below w.heap.size w w' ∧
    (r.2 = 0 → TmD w' (fun q => w.heap.size ≤ q ∧ q < w'.heap.size) 122 r.1 (.agg #[.int .i64 p0, .int .i64 p1, .slice pa pl pc])) ∧ (r.2 ≠ 0 → p0 = 0 ∧ p1 = 0 ∧ pa = none ∧ pl = 0 ∧ pc = 0)

theorem st0_get (i : Nat) : st0.get i = none := by
  unfold St.get st0
  show Sto.none_.get (i + 1) i = none
  have key : ∀ (k i : Nat) (s : Sto), s = Sto.none_ → s.get k i = none := by
    intro k
    induction k with
    | zero => intro i s h; rw [h]; rfl
    | succ k ih =>
      intro i s h
      subst h
      simp only [Sto.get]
      split
      · rfl
      · split
        · exact ih _ _ rfl
        · exact ih _ _ rfl
  exact key _ _ _ rfl

attribute [local go_sem ↓] Go.wp_at_zero Go.wp_at_succ

set_option maxRecDepth 20000 in
set_option maxHeartbeats 2000000 in
theorem normal_any (g : Nat) {w : World} {f : Nat} {t : Tr} {a : Option Addr} {cap : Nat} {r : Tr × Int} (ht : TmAt w w.heap.size f t (.agg #[.int .i64 t.op, .int .i64 t.n, .slice a t.kids.length cap])) (hs : t.size ≤ 1000000) (hb : Tb w) (he : normM g t = some r) :
    Calls Tryd.prog 19 #[.agg #[.int .i64 t.op, .int .i64 t.n, .slice a t.kids.length cap]] w (NormOut w r) := by
  have HT := hide ht; have HB := hide hb; have HS := hide hs; have HE := hide he
  clear ht hb hs he
  go_enter Tryd.func19, Tryd.ntmps19
  go_wp2_with fail
  refine (newm_any _).mono ?_
  rintro e w1 ⟨rfl, hm, hbl, hlt⟩
  have htb := heap_alloc_new w (.cells #[.int .i64 t.op, .int .i64 t.n, .slice a t.kids.length cap] 26)
  have hrb := heap_alloc_new (w.alloc (.cells #[.int .i64 t.op, .int .i64 t.n, .slice a t.kids.length cap] 26)) (.cells #[.int .i64 0, .int .i64 0, .slice none 0 0] 26)
  have htb2 := (Below.heap_alloc (w.alloc (.cells #[.int .i64 t.op, .int .i64 t.n, .slice a t.kids.length cap] 26)) (.cells #[.int .i64 0, .int .i64 0, .slice none 0 0] 26) w.heap.size (by simp)).trans htb
  have hb0 : Below w.heap.size w ((w.alloc (.cells #[.int .i64 t.op, .int .i64 t.n, .slice a t.kids.length cap] 26)).alloc (.cells #[.int .i64 0, .int .i64 0, .slice none 0 0] 26)) := ((Below.refl _ _).alloc (Nat.le_refl _) _).alloc (by simp) _
  have hs0 : ((w.alloc (.cells #[.int .i64 t.op, .int .i64 t.n, .slice a t.kids.length cap] 26)).alloc (.cells #[.int .i64 0, .int .i64 0, .slice none 0 0] 26)).heap.size = w.heap.size + 2 := by simp
  rw [World.size_alloc] at hrb
  obtain ⟨W0, hW0⟩ : ∃ W0, W0 = ((w.alloc (.cells #[.int .i64 t.op, .int .i64 t.n, .slice a t.kids.length cap] 26)).alloc (.cells #[.int .i64 0, .int .i64 0, .slice none 0 0] 26)) := ⟨_, rfl⟩
  rw [← hW0] at hrb htb2 hb0 hs0 hm hbl hlt ⊢
  clear htb hW0
  rw [hs0] at hm hlt ⊢
  have HM := hide hm
  have hB1 : Below w.heap.size w w1 := hb0.trans (hbl.mono (by omega))
  have HTB := hide ((hbl.block w.heap.size (by omega)).trans htb2)
  have HRB := hide ((hbl.block (w.heap.size + 1) (by omega)).trans hrb)
  have HB1 := hide hB1
  have HLT := hide hlt
  clear hm hbl hrb htb2 hb0 hs0 hB1 hlt
  -- the reader's box
  obtain ⟨w2, hw2⟩ : ∃ w2, w2 = w1.alloc (.cells #[pt (w.heap.size + 2), .int .i64 0] 64) := ⟨_, rfl⟩
  have hb2 : Below w1.heap.size w1 w2 := by rw [hw2]; exact later_alloc _ _
  have hrq : w2.heap[w1.heap.size]? = some (.cells #[pt (w.heap.size + 2), .int .i64 0] 64 (0, 0)) := by rw [hw2]; exact heap_alloc_new _ _
  have hmb : w.heap.size + 2 < w1.heap.size := HLT.out
  have HI : Hid (Inv w2 (fun q => q = w1.heap.size) (w.heap.size + 1) (w.heap.size + 2) (fun _ => 0) st0) := hide (by
    refine ⟨?_, fun i hi => absurd hi (Nat.not_lt_zero _), fun i j hi => absurd hi (Nat.not_lt_zero _), fun i hi => absurd hi (Nat.not_lt_zero _), ⟨by omega, ?_⟩, ?_, by omega, fun q hq => ?_, fun _ => ⟨by decide, by decide⟩⟩
    · obtain ⟨cs, h1, h2⟩ := HM.out
      exact ⟨cs, (hb2.block _ hmb).trans h1, h2⟩
    · have := hb2.size; omega
    · exact HB.out.later (HB1.out.trans (hb2.mono (by omega)))
    · subst hq
      exact ⟨by omega, size_of_block hrq, by omega, fun j hj => absurd hj (Nat.not_lt_zero _)⟩)
  have HTP : Hid (TmP w2 (w.heap.size + 1) w.heap.size 0 t) := hide (by
    have h0 := (hb2.block w.heap.size (by omega)).trans HTB.out
    obtain ⟨c0, c1, c2⟩ := blk3 h0
    refine ⟨f, a, cap, by omega, HS.out, c0, c1, c2, ?_⟩
    exact TmD.keep (fun k hk => (hb2.block k (by omega)).trans (HB1.out.block k hk)) (fun k hk => by omega) f _ _ HT.out)
  have HRQ := hide hrq; have HB2 := hide hb2
  clear hrq hb2
  have HE2 := HE.out
  unfold normM at HE2
  obtain ⟨red, hred, hr⟩ := Option.map_eq_some_iff.1 HE2
  have HRED := hide hred; have HRR := hide hr.symm
  clear HE2 hred hr HE
  go_upto_region 3 with fail
  rw [← hw2]
  clear hw2
  go_wp2_with fail
  refine (suspend_any HI.out HTP.out (bn := 0) (sc := []) (by decide) (prow_nil max0)).mono ?_
  rintro e w3 ⟨A3, rfl, hp3, h3⟩
  have H3 := hide h3
  have hx3 : Hid (w3.heap[w1.heap.size]? = some (.cells #[pt (w.heap.size + 2), .int .i64 0] 64 (0, 0))) := hide ((h3.fr.block _ (size_of_block HRQ.out) (by
    rintro (e | ⟨j, hj, _⟩)
    · omega
    · exact absurd hj (Nat.not_lt_zero _))).trans HRQ.out)
  clear h3
  go_wp2_with fail
  refine ((read_any g 122).out H3.out.inv hp3 rfl hx3.out HRED.out).mono ?_
  rintro e w4 ⟨A4, p0, p1, pa, pl, pc, rfl, h4, hrd4, ht4⟩
  have H4 := hide h4; have HT4 := hide ht4
  have m4 := h4.inv.mach.cells.2.2.1
  have nm4 : ¬ MutR (w.heap.size + 2) w1.heap.size A3 (st0.suspend t 0 []).2.size (w.heap.size + 1) := by
    have h2 := HB2.out.size
    rintro ((e | ⟨j, hj, e⟩) | e)
    · omega
    · have := H3.out.new j (Nat.zero_le _) hj; omega
    · omega
  have nm3 : ¬ Mut (w.heap.size + 2) (fun _ => 0) st0.size (w.heap.size + 1) := by
    rintro (e | ⟨j, hj, _⟩)
    · omega
    · exact absurd hj (Nat.not_lt_zero _)
  have hl1 : w.heap.size + 1 < w1.heap.size := by omega
  have hl2 : w.heap.size + 1 < w2.heap.size := by have := HB2.out.size; omega
  have hl3 : w.heap.size + 1 < w3.heap.size := by have := H3.out.fr.size; omega
  have HRB4 : Hid (w4.heap[w.heap.size + 1]? = some (.cells #[.int .i64 0, .int .i64 0, .slice none 0 0] 26 (0, 0))) := hide ((h4.fr.block _ hl3 nm4).trans ((H3.out.fr.block _ hl2 nm3).trans ((HB2.out.block _ hl1).trans HRB.out)))
  have HBW : Hid (Below w.heap.size w w4) := hide (by
    refine (HB1.out.trans (HB2.out.mono (by omega))).trans ?_
    refine ⟨h4.fr.os.trans H3.out.fr.os, h4.fr.tape.trans H3.out.fr.tape, h4.fr.output.trans H3.out.fr.output, Nat.le_trans H3.out.fr.size h4.fr.size, fun q hq => ?_⟩
    rw [h4.fr.block q (by omega) ?_, H3.out.fr.block q (by omega) ?_]
    · rintro (e | ⟨j, hj, _⟩)
      · omega
      · exact absurd hj (Nat.not_lt_zero _)
    · rintro ((e | ⟨j, hj, e⟩) | e)
      · omega
      · have := H3.out.new j (Nat.zero_le _) hj; omega
      · omega)
  have HTW : Hid (red.s.err = 0 → TmD w4 (fun q => w.heap.size + 2 ≤ q ∧ q < w4.heap.size) 122 red.t (.agg #[.int .i64 p0, .int .i64 p1, .slice pa pl pc])) := hide (fun he => (ht4 he).keep (fun _ _ => rfl) (fun q hq => ⟨by have := hq.1; have := H3.out.fr.size; omega, hq.2.1⟩) _ _ _)
  have m4l : w.heap.size + 2 < w4.heap.size := h4.inv.hmb.2
  clear h4 ht4 hrd4 nm3 nm4
  by_cases herr : red.s.err = 0
  · have hbe : (red.s.err != 0) = false := by simp [herr]
    have hrv := HRR.out
    rw [if_pos herr] at hrv
    subst hrv
    obtain ⟨y0, y1, y2⟩ := blk3 HRB4.out
    obtain ⟨z0, z1, z2⟩ := frz3 HRB4.out
    have mm4 := (old_cell m4 m4l).1
    have yy0 := (old_cell y0 (size_of_block HRB4.out)).1; have yy1 := (old_cell y1 (size_of_block HRB4.out)).1; have yy2 := (old_cell y2 (size_of_block HRB4.out)).1
    have zz0 : ∀ o, (w4.alloc o).frozen? ⟨w.heap.size + 1, 0, none⟩ = false := fun o => frozen_of_block ((Below.heap_alloc w4 o _ (size_of_block HRB4.out)).trans HRB4.out) 0
    have zz1 : ∀ o, (w4.alloc o).frozen? ⟨w.heap.size + 1, 1, none⟩ = false := fun o => frozen_of_block ((Below.heap_alloc w4 o _ (size_of_block HRB4.out)).trans HRB4.out) 1
    have zz2 : ∀ o, (w4.alloc o).frozen? ⟨w.heap.size + 1, 2, none⟩ = false := fun o => frozen_of_block ((Below.heap_alloc w4 o _ (size_of_block HRB4.out)).trans HRB4.out) 2
    clear m4 y0 y1 y2 z0 z1 z2 m4l hl1 hl2 hl3 hmb
    go_wp2_with fail
    refine bodyPost_ret (v := .tuple #[.agg #[.int .i64 p0, .int .i64 p1, .slice pa pl pc], .int .i64 0]) (by simp [results, Tryd.results19, go_sem, yy0, yy1, yy2]) rfl ?_
    have hbf : Below w.heap.size w ((((w4.alloc (.cells #[.int .i64 p0, .int .i64 p1, .slice pa pl pc] 26)).setCell ⟨w.heap.size + 1, 0, none⟩ (.int .i64 p0)).setCell ⟨w.heap.size + 1, 1, none⟩ (.int .i64 p1)).setCell ⟨w.heap.size + 1, 2, none⟩ (.slice pa pl pc)) := (((HBW.out.alloc HBW.out.size _).setCell (p := ⟨w.heap.size + 1, 0, none⟩) (by show w.heap.size ≤ w.heap.size + 1; omega) _).setCell (p := ⟨w.heap.size + 1, 1, none⟩) (by show w.heap.size ≤ w.heap.size + 1; omega) _).setCell (p := ⟨w.heap.size + 1, 2, none⟩) (by show w.heap.size ≤ w.heap.size + 1; omega) _
    refine ⟨p0, p1, pa, pl, pc, rfl, hbf, fun _ => (HTW.out herr).keep (fun q hq => ?_) (fun q hq => ⟨by omega, ?_⟩) _ _ _, fun h => absurd rfl h⟩
    · rw [heap_setCell_other _ _ _ _ (show q ≠ w.heap.size + 1 by omega), heap_setCell_other _ _ _ _ (show q ≠ w.heap.size + 1 by omega), heap_setCell_other _ _ _ _ (show q ≠ w.heap.size + 1 by omega), Below.heap_alloc _ _ _ hq.2]
    · have := (fr_box3 (w4.alloc (.cells #[.int .i64 p0, .int .i64 p1, .slice pa pl pc] 26)) (w.heap.size + 1) (.int .i64 p0) (.int .i64 p1) (.slice pa pl pc)).size
      rw [World.size_alloc] at this
      omega
  · have hbe : (red.s.err != 0) = true := by simp [herr]
    have hrv := HRR.out
    rw [if_neg herr] at hrv
    subst hrv
    obtain ⟨y0, y1, y2⟩ := blk3 HRB4.out
    obtain ⟨z0, z1, z2⟩ := frz3 HRB4.out
    have mm4 := (old_cell m4 m4l).1
    have yy0 := (old_cell y0 (size_of_block HRB4.out)).1; have yy1 := (old_cell y1 (size_of_block HRB4.out)).1; have yy2 := (old_cell y2 (size_of_block HRB4.out)).1
    have zz0 : ∀ o, (w4.alloc o).frozen? ⟨w.heap.size + 1, 0, none⟩ = false := fun o => frozen_of_block ((Below.heap_alloc w4 o _ (size_of_block HRB4.out)).trans HRB4.out) 0
    have zz1 : ∀ o, (w4.alloc o).frozen? ⟨w.heap.size + 1, 1, none⟩ = false := fun o => frozen_of_block ((Below.heap_alloc w4 o _ (size_of_block HRB4.out)).trans HRB4.out) 1
    have zz2 : ∀ o, (w4.alloc o).frozen? ⟨w.heap.size + 1, 2, none⟩ = false := fun o => frozen_of_block ((Below.heap_alloc w4 o _ (size_of_block HRB4.out)).trans HRB4.out) 2
    clear m4 y0 y1 y2 z0 z1 z2 m4l hl1 hl2 hl3 hmb
    go_wp2_with fail
    go_region
    go_wp2_with fail
    refine bodyPost_ret (v := .tuple #[.agg #[.int .i64 0, .int .i64 0, .slice none 0 0], .int .i64 red.s.err]) (by simp [results, Tryd.results19, go_sem, yy0, yy1, yy2]) rfl ?_
    have hbf : Below w.heap.size w ((((w4.alloc (.cells #[.int .i64 p0, .int .i64 p1, .slice pa pl pc] 26)).setCell ⟨w.heap.size + 1, 0, none⟩ (.int .i64 0)).setCell ⟨w.heap.size + 1, 1, none⟩ (.int .i64 0)).setCell ⟨w.heap.size + 1, 2, none⟩ (.slice none 0 0)).drew := ((((HBW.out.alloc HBW.out.size _).setCell (p := ⟨w.heap.size + 1, 0, none⟩) (by show w.heap.size ≤ w.heap.size + 1; omega) _).setCell (p := ⟨w.heap.size + 1, 1, none⟩) (by show w.heap.size ≤ w.heap.size + 1; omega) _).setCell (p := ⟨w.heap.size + 1, 2, none⟩) (by show w.heap.size ≤ w.heap.size + 1; omega) _).drew
    exact ⟨0, 0, none, 0, 0, rfl, hbf, fun h => absurd h herr, fun _ => ⟨rfl, rfl, rfl, rfl, rfl⟩⟩
#print axioms normal_any
end Go.Proofs.YtjiecahopdaghabDoor
