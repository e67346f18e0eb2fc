/- Parse: a term is read from its bytes as the document says. -/
import Derived.Test.YtafafeplciidhaaQt
namespace Go.Proofs.Ytafafeplciidhaa
open Go.RowKit

/-- What a reading answers. -/
def ParseOut (l : List Int) (w : World) (e : Ending) (w' : World) : Prop :=
  (∃ er, parseP l = .error er ∧ 0 < er ∧ er < 100 ∧ e = .returned (.tuple #[.agg #[.int .i64 0, .int .i64 0, .slice none 0 0], .int .i64 (er : Nat)]) ∧ Below w.heap.size w w') ∨
  (∃ t, parseP l = .ok t ∧ ∃ p0 p1 pa pl pc, e = .returned (.tuple #[.agg #[.int .i64 p0, .int .i64 p1, .slice pa pl pc], .int .i64 0]) ∧
    TmD w' (fun k => w.heap.size ≤ k ∧ k < w'.heap.size) 120 t (.agg #[.int .i64 p0, .int .i64 p1, .slice pa pl pc]) ∧ Below w.heap.size w w')

set_option maxRecDepth 20000 in
set_option maxHeartbeats 1000000 in
theorem parse_any (v : Value) (l : List Int) (w : World) (hl : LeftAt w (fun k => k < w.heap.size) v l) (hb : Byt l) :
    Calls Try.prog 14 #[v] w (ParseOut l w) := by
  have HL := hide hl
  obtain ⟨a, c, rfl, hc1, hc2, hx⟩ := hl
  clear hx
  have HB := hide hb
  clear hb
  go_enter Try.func14, Try.ntmps14
  go_wp2_with fail
  have hsz : ((w.alloc (.cells #[.int .i64 0, .int .i64 0, .slice none 0 0] 29)).alloc (.cells #[.slice a l.length c, .int .i64 0] 58)).heap.size = w.heap.size + 2 := by simp
  have hrd : Rd ((w.alloc (.cells #[.int .i64 0, .int .i64 0, .slice none 0 0] 29)).alloc (.cells #[.slice a l.length c, .int .i64 0] 58)) (w.heap.size + 1) (.slice a l.length c) 0 := by
    unfold Rd
    have := heap_alloc_new (w.alloc (.cells #[.int .i64 0, .int .i64 0, .slice none 0 0] 29)) (.cells #[.slice a l.length c, .int .i64 0] 58)
    rw [World.size_alloc] at this
    exact this
  have hz : ((w.alloc (.cells #[.int .i64 0, .int .i64 0, .slice none 0 0] 29)).alloc (.cells #[.slice a l.length c, .int .i64 0] 58)).heap[w.heap.size]? = some (.cells #[.int .i64 0, .int .i64 0, .slice none 0 0] 29 (0, 0)) := by
    rw [Below.heap_alloc _ _ _ (by simp)]; exact heap_alloc_new w _
  have hbl : Below w.heap.size w ((w.alloc (.cells #[.int .i64 0, .int .i64 0, .slice none 0 0] 29)).alloc (.cells #[.slice a l.length c, .int .i64 0] 58)) := ((Below.refl _ _).alloc (Nat.le_refl _) _).alloc (by simp) _
  generalize (w.alloc (.cells #[.int .i64 0, .int .i64 0, .slice none 0 0] 29)).alloc (.cells #[.slice a l.length c, .int .i64 0] 58) = W at *
  have HS := hide hsz; have HRD := hide hrd; have HZ := hide hz; have HBL := hide hbl
  clear hsz hrd hz hbl
  refine (term_all 120 (w.heap.size + 1) 0 (fun k => k < w.heap.size) (.slice a l.length c) l 1 W ⟨HRD.out, HL.out.keep (fun q hq => HBL.out.block q hq) (fun _ h => h), HB.out, by omega, Fr.refl _ _⟩ (fun k hk => ⟨by have := HS.out; omega, by omega⟩) (by omega) (by omega)).mono ?_
  rintro e w2 (⟨er, her, hp1, hp2, rfl, hfr⟩ | ⟨t, n', l', hok, p0, p1, pa, pl, pc, lv', rfl, htm, hgo⟩)
  · have hz2 : w2.heap[w.heap.size]? = some (.cells #[.int .i64 0, .int .i64 0, .slice none 0 0] 29 (0, 0)) := (hfr.block w.heap.size (by have := HS.out; omega) (by omega)).trans HZ.out
    obtain ⟨⟨y0, y1, y2⟩, x0, x1, x2⟩ := cells_z hz2
    have hne : ((er : Int) != 0) = true := by rw [bne_iff_ne]; omega
    have HB2 : Hid (Below w.heap.size w w2) := HBL.out.trans (hfr.below (by have := HS.out; omega) (fun k hk => by omega))
    have hs2 : W.heap.size ≤ w2.heap.size := hfr.size
    have HE := hide her
    clear her hfr hz2
    have hsW := HS.out
    go_wp2_with fail
    refine bodyPost_ret (v := .tuple #[.agg #[.int .i64 0, .int .i64 0, .slice none 0 0], .int .i64 (er : Nat)]) (by simp [results, Try.results14, go_sem, *]) rfl (Or.inl ⟨er, ?_, hp1, hp2, rfl, ?_⟩)
    · unfold parseP; rw [HE.out]
    · exact (((HB2.out.alloc (by omega) _).setCell (by simp) _).setCell (by simp) _).setCell (by simp) _
  · have hz2 : w2.heap[w.heap.size]? = some (.cells #[.int .i64 0, .int .i64 0, .slice none 0 0] 29 (0, 0)) := (hgo.fr.block w.heap.size (by have := HS.out; omega) (by omega)).trans HZ.out
    obtain ⟨⟨y0, y1, y2⟩, x0, x1, x2⟩ := cells_z hz2
    have HB2 : Hid (Below w.heap.size w w2) := HBL.out.trans (hgo.fr.below (by have := HS.out; omega) (fun k hk => by omega))
    have hs2 : W.heap.size ≤ w2.heap.size := hgo.fr.size
    obtain ⟨a2, c2, rfl, hl1, hl2, hl3⟩ := hgo.left
    have m0 : ∀ o, (w2.alloc o).cell? ⟨w.heap.size + 1, 0, none⟩ = some (.slice a2 l'.length c2) := fun o => by
      rw [cell_of_block ((Below.heap_alloc w2 o _ (size_of_block hgo.rd)).trans hgo.rd)]; rfl
    have HE := hide hok; have HTM := hide htm
    clear hok htm hz2 hl3 hgo
    have hsW := HS.out
    by_cases hl0 : l'.length = 0
    · have hl0' : l' = [] := List.eq_nil_of_length_eq_zero hl0
      subst hl0'
      go_wp2_with fail
      refine bodyPost_ret (v := .tuple #[.agg #[.int .i64 p0, .int .i64 p1, .slice pa pl pc], .int .i64 0]) (by simp [results, Try.results14, go_sem, *]) rfl (Or.inr ⟨t, ?_, p0, p1, pa, pl, pc, rfl, ?_, ?_⟩)
      · unfold parseP; rw [HE.out]; rfl
      · refine HTM.out.keep (fun q hq => ?_) (fun q hq => ?_) _ _ _
        · rw [heap_setCell_other _ _ _ _ (by dsimp only; omega), heap_setCell_other _ _ _ _ (by dsimp only; omega), heap_setCell_other _ _ _ _ (by dsimp only; omega), Below.heap_alloc _ _ _ hq.2]
        · simp [World.setCell]; omega
      · exact (((HB2.out.alloc (by omega) _).setCell (by simp) _).setCell (by simp) _).setCell (by simp) _
    · have hpos : 0 < l'.length := by omega
      go_wp2_with fail
      refine bodyPost_ret (v := .tuple #[.agg #[.int .i64 0, .int .i64 0, .slice none 0 0], .int .i64 ((3 : Nat) : Int)]) (by simp [results, Try.results14, go_sem, *]) rfl (Or.inl ⟨3, ?_, by omega, by omega, rfl, ?_⟩)
      · unfold parseP; rw [HE.out]; simp only; rw [if_neg (fun e => by simp [e] at hpos)]
      · exact (((HB2.out.alloc (by omega) _).setCell (by simp) _).setCell (by simp) _).setCell (by simp) _
#print axioms parse_any
end Go.Proofs.Ytafafeplciidhaa
