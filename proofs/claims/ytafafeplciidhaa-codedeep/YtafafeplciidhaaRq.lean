/- The second saying's Parse answers as the first's. -/
import Derived.Test.YtafafeplciidhaaRp
import Derived.Test.YtafafeplciidhaaQp
namespace Go.Proofs.Ytafafeplciidhaa
open Go.RowKit

attribute [local go_sem ↓] Go.wp_at_zero Go.wp_at_succ

set_option maxRecDepth 20000 in
set_option maxHeartbeats 1000000 in
theorem rparse_any (v : Value) (l : List Int) (w : World) (hl : LeftAt w (fun k => k < w.heap.size) v l) (hb : Byt l) :
    Calls Try.prog 15 #[v] w (ParseOut l w) := by
  have HL := hide hl
  obtain ⟨a, c, rfl, hc1, hc2, hx⟩ := hl
  clear hx
  have HB := hide hb
  clear hb
  unfold maxLen at hc2
  go_enter Try.func15, Try.ntmps15
  go_wp2_with fail
  have hsz : ((w.alloc (.cells #[.int .i64 0, .int .i64 0, .slice none 0 0] 29)).alloc (.cells #[.slice a l.length c, .int .i64 0, .int .i64 0, .int .i64 0] 62)).heap.size = w.heap.size + 2 := by simp
  have hrd : Pr ((w.alloc (.cells #[.int .i64 0, .int .i64 0, .slice none 0 0] 29)).alloc (.cells #[.slice a l.length c, .int .i64 0, .int .i64 0, .int .i64 0] 62)) (w.heap.size + 1) (.slice a l.length c) ((0 : Nat) : Int) ((0 : Nat) : Int) 0 := by
    unfold Pr
    have := heap_alloc_new (w.alloc (.cells #[.int .i64 0, .int .i64 0, .slice none 0 0] 29)) (.cells #[.slice a l.length c, .int .i64 0, .int .i64 0, .int .i64 0] 62)
    rw [World.size_alloc] at this
    exact this
  have hz : ((w.alloc (.cells #[.int .i64 0, .int .i64 0, .slice none 0 0] 29)).alloc (.cells #[.slice a l.length c, .int .i64 0, .int .i64 0, .int .i64 0] 62)).heap[w.heap.size]? = some (.cells #[.int .i64 0, .int .i64 0, .slice none 0 0] 29 (0, 0)) := by
    rw [Below.heap_alloc _ _ _ (by simp)]; exact heap_alloc_new w _
  have hbl : Below w.heap.size w ((w.alloc (.cells #[.int .i64 0, .int .i64 0, .slice none 0 0] 29)).alloc (.cells #[.slice a l.length c, .int .i64 0, .int .i64 0, .int .i64 0] 62)) := ((Below.refl _ _).alloc (Nat.le_refl _) _).alloc (by simp) _
  generalize (w.alloc (.cells #[.int .i64 0, .int .i64 0, .slice none 0 0] 29)).alloc (.cells #[.slice a l.length c, .int .i64 0, .int .i64 0, .int .i64 0] 62) = W at *
  have HS := hide hsz; have HRD := hide hrd; have HZ := hide hz; have HBL := hide hbl
  clear hsz hrd hz hbl
  refine (pterm_any 120 (w.heap.size + 1) 0 0 (fun k => k < w.heap.size) (.slice a l.length c) l 1 W HRD.out (HL.out.keep (fun q hq => HBL.out.block q hq) (fun _ h => h)) HB.out (by omega) (by omega) (fun k hk => ⟨by have := HS.out; omega, by omega⟩) (by omega) (by omega)).mono ?_
  rintro e w2 (⟨er, her, hp1, hp2, rfl, hfr, p', n', hpr⟩ | ⟨t, n', p', hok, hpl, hn', p0, p1, pa, pl, pc, rfl, htm, hpr, hfr⟩)
  · have hz2 : w2.heap[w.heap.size]? = some (.cells #[.int .i64 0, .int .i64 0, .slice none 0 0] 29 (0, 0)) := (hfr.block w.heap.size (by have := HS.out; omega) (by omega)).trans HZ.out
    obtain ⟨⟨y0, y1, y2⟩, x0, x1, x2⟩ := cells_z hz2
    have m3 : ∀ o, (w2.alloc o).cell? ⟨w.heap.size + 1, 3, none⟩ = some (.int .i64 (er : Nat)) := fun o => (World.cell?_of_block (a := ⟨w.heap.size + 1, 3, none⟩) (Below.heap_alloc w2 o _ (size_of_block hpr))).trans (pr_cells hpr).2.2.2
    have hne : ((er : Int) != 0) = true := by rw [bne_iff_ne]; omega
    have heq : ((er : Int) == 0) = false := by rw [beq_eq_false_iff_ne]; omega
    have HB2 : Hid (Below w.heap.size w w2) := HBL.out.trans (hfr.below (by have := HS.out; omega) (fun k hk => by omega))
    have hs2 : W.heap.size ≤ w2.heap.size := hfr.size
    have HE := hide (show termP 120 0 l = .error er from her)
    clear her hfr hz2 hpr
    have hsW := HS.out
    go_wp2_with fail
    go_region
    all_goals go_wp2_with fail
    all_goals refine bodyPost_ret (v := .tuple #[.agg #[.int .i64 0, .int .i64 0, .slice none 0 0], .int .i64 (er : Nat)]) (by simp [results, Try.results15, go_sem, *]) rfl (Or.inl ⟨er, by unfold parseP; rw [HE.out], hp1, hp2, rfl, ?_⟩)
    all_goals exact ((((HB2.out.alloc (by omega) _).setCell (by simp) _).setCell (by simp) _).setCell (by simp) _).drew
  · have hz2 : w2.heap[w.heap.size]? = some (.cells #[.int .i64 0, .int .i64 0, .slice none 0 0] 29 (0, 0)) := (hfr.block w.heap.size (by have := HS.out; omega) (by omega)).trans HZ.out
    obtain ⟨⟨y0, y1, y2⟩, x0, x1, x2⟩ := cells_z hz2
    have hpa : ∀ o, Pr (w2.alloc o) (w.heap.size + 1) (.slice a l.length c) (p' : Nat) (n' : Nat) 0 := fun o => (Below.heap_alloc w2 o _ (size_of_block hpr)).trans hpr
    have m3 := fun o => (pr_cells (hpa o)).2.2.2
    have m1 := fun o => (pr_cells (hpa o)).2.1
    have k3 := fun o => pr_frozen (hpa o) 3
    have hp3 : ∀ o x, Pr ((w2.alloc o).setCell ⟨w.heap.size + 1, 3, none⟩ (.int .i64 x)) (w.heap.size + 1) (.slice a l.length c) (p' : Nat) (n' : Nat) x := fun o x => (pr_set (hpa o)).2.2
    have q3 := fun o x => (pr_cells (hp3 o x)).2.2.2
    have hz3 : ∀ o x, ((w2.alloc o).setCell ⟨w.heap.size + 1, 3, none⟩ x).heap[w.heap.size]? = some (.cells #[.int .i64 0, .int .i64 0, .slice none 0 0] 29 (0, 0)) := fun o x => by rw [heap_setCell_other _ _ _ _ (by dsimp only; omega), Below.heap_alloc _ _ _ (size_of_block hz2)]; exact hz2
    have r0 := fun o x => (blk3 (hz3 o x)).1
    have r1 := fun o x => (blk3 (hz3 o x)).2.1
    have r2 := fun o x => (blk3 (hz3 o x)).2.2
    have v0 := fun o x => frozen_of_block (hz3 o x) 0
    have v1 := fun o x => frozen_of_block (hz3 o x) 1
    have v2 := fun o x => frozen_of_block (hz3 o x) 2
    have HB2 : Hid (Below w.heap.size w w2) := HBL.out.trans (hfr.below (by have := HS.out; omega) (fun k hk => by omega))
    have hs2 : W.heap.size ≤ w2.heap.size := hfr.size
    have HE := hide (show termP 120 0 l = .ok (t, n', l.drop p') from hok)
    have HTM := hide htm
    clear hok hfr hz2 hpr hpa hp3 hz3 htm
    have hsW := HS.out
    by_cases hlt : p' < l.length
    · have HP : Hid (parseP l = .error 3) := by
        unfold parseP; rw [HE.out]; simp only
        rw [if_neg (fun e => by have := congrArg List.length e; simp at this; omega)]
        exact hide rfl
      go_wp2_with fail
      go_region
      all_goals go_wp2_with fail
      all_goals refine bodyPost_ret (v := .tuple #[.agg #[.int .i64 0, .int .i64 0, .slice none 0 0], .int .i64 ((3 : Nat) : Int)]) (by simp [results, Try.results15, go_sem, *]) rfl (Or.inl ⟨3, HP.out, by omega, by omega, rfl, ?_⟩)
      all_goals exact (((((HB2.out.alloc (by omega) _).setCell (by simp) _).setCell (by simp) _).setCell (by simp) _).setCell (by simp) _).drew
    · have HP : Hid (parseP l = .ok t) := by
        unfold parseP; rw [HE.out]; simp only
        rw [if_pos (List.drop_eq_nil_of_le (by omega))]
        exact hide rfl
      go_wp2_with fail
      refine bodyPost_ret (v := .tuple #[.agg #[.int .i64 p0, .int .i64 p1, .slice pa pl pc], .int .i64 0]) (by simp [results, Try.results15, go_sem, *]) rfl (Or.inr ⟨t, HP.out, p0, p1, pa, pl, pc, rfl, ?_, ?_⟩)
      · refine HTM.out.keep (fun q hq => ?_) (fun q hq => ?_) _ _ _
        · rw [heap_setCell_other _ _ _ _ (by dsimp only; omega), heap_setCell_other _ _ _ _ (by dsimp only; omega), heap_setCell_other _ _ _ _ (by dsimp only; omega), Below.heap_alloc _ _ _ hq.2]
        · simp [World.setCell]; omega
      · exact (((HB2.out.alloc (by omega) _).setCell (by simp) _).setCell (by simp) _).setCell (by simp) _
#print axioms rparse_any
end Go.Proofs.Ytafafeplciidhaa
