/- The document's Free and Below. -/
import Derived.Test.YtpmaagafcpaajaaDoorFr
import Derived.Deep.RegionHeld3
namespace Go.Proofs.YtpmaagafcpaajaaDoor
open Go.RowKit

theorem drew_bel {w w' : World} (h : Below w.drew.heap.size w.drew w') : Below w.heap.size w w' := ⟨h.os, h.tape, h.output, h.size, h.block⟩
theorem held_rf {w w5 : World} {b off k q : Nat} {x0 x1 x2 y0 y2 : Value} (hb : Below w.heap.size w w5) (e0 : w.cell? ⟨b, off + k * 3, none⟩ = some x0) (e1 : w.cell? ⟨b, off + k * 3 + 1, none⟩ = some x1) (e2 : w.cell? ⟨b, off + k * 3 + 2, none⟩ = some x2) (d0 : w.cell? ⟨q, 0, none⟩ = some y0) (d2 : w.cell? ⟨q, 2, none⟩ = some y2) (h1 : b < w.heap.size) (h2 : q < w.heap.size) :
    w5.cell? ⟨b, off + k * 3, none⟩ = some x0 ∧ w5.cell? ⟨b, off + k * 3 + 1, none⟩ = some x1 ∧ w5.cell? ⟨b, off + k * 3 + 2, none⟩ = some x2 ∧ w5.cell? ⟨q, 0, none⟩ = some y0 ∧ w5.cell? ⟨q, 2, none⟩ = some y2 :=
  ⟨(hb.cell (p := ⟨b, off + k * 3, none⟩) h1).trans e0, (hb.cell (p := ⟨b, off + k * 3 + 1, none⟩) h1).trans e1, (hb.cell (p := ⟨b, off + k * 3 + 2, none⟩) h1).trans e2, (hb.cell (p := ⟨q, 0, none⟩) h2).trans d0, (hb.cell (p := ⟨q, 2, none⟩) h2).trans d2⟩
theorem fre_hit {ks : List Tr} {f : Nat → Tr → Bool} {k : Nat} {hk : k < ks.length} (h : f k ks[k] = true) : true = (ks.mapIdx f).any id := (any_mapIdx.2 ⟨k, hk, h⟩).symm
theorem fre_none {ks : List Tr} {f : Nat → Tr → Bool} (h : ∀ (j : Nat) (hj : j < ks.length), f j ks[j] = false) : (ks.mapIdx f).any id = false := by
  apply Bool.eq_false_iff.2
  intro h2
  obtain ⟨j, hj, h3⟩ := any_mapIdx.1 h2
  rw [h j hj] at h3; cases h3
theorem bel_hit {ks : List Tr} {f : Nat → Tr → Bool} {k : Nat} {hk : k < ks.length} (h : f k ks[k] = false) : false = (ks.mapIdx f).all id := by
  symm
  apply Bool.eq_false_iff.2
  intro h2
  rw [all_mapIdx.1 h2 k hk] at h; cases h
theorem bel_none {ks : List Tr} {f : Nat → Tr → Bool} (h : ∀ (j : Nat) (hj : j < ks.length), f j ks[j] = true) : (ks.mapIdx f).all id = true := all_mapIdx.2 h

set_option maxRecDepth 20000 in
set_option maxHeartbeats 1000000 in
theorem rfree_any (B f : Nat) : ∀ (t : Tr) (v : Value) (m u : Int) (w : World), TmAt w B f t v → B ≤ w.heap.size → 0 ≤ m + u → m + u + 2 * f ≤ 1000000 →
    Calls Tryd.prog 22 #[v, .int .i64 (m + u)] w fun e w' => e = .returned (.bool (fre m u t)) ∧ Below w.heap.size w w' := by
  induction f with
  | zero => intro t v m u w h; exact h.elim
  | succ f ih =>
    rintro t v m u w ⟨a, cap, rfl, hop, hn, hrow⟩ hB hu0 hu1
    by_cases ho : t.op = 1
    · clear ih hrow
      rw [fre_eq, if_pos ho, ho]
      go_enter Tryd.func22, Tryd.ntmps22
      go_wp2_with fail
      go_ret
      exact ⟨ret_bool (by rw [Bool.eq_iff_iff, beq_iff_eq, decide_eq_true_iff]), later_alloc w _⟩
    · have IH := hide ih; clear ih
      have HR := hide hrow
      have hlm : t.kids.length ≤ maxLen := Nat.le_trans hrow.1 hrow.2.1
      clear hrow
      unfold maxLen at hlm
      have HU1 := hide hu1; have HO := hide ho
      have huu : m + u ≤ 1000000 := by omega
      have hb1 := ne_beq ho
      clear hu1 ho
      obtain ⟨res, hres⟩ : ∃ res, res = fre m u t := ⟨_, rfl⟩
      rw [← hres]
      have HRES : Hid (res = (t.kids.mapIdx (fun j k => fre m (u + (bnd t.op ((j : Nat) : Int) : Nat)) k)).any id) := hide (by rw [hres, fre_eq, if_neg HO.out])
      clear hres
      obtain ⟨N, hN⟩ : ∃ N, N = m + u := ⟨_, rfl⟩
      rw [← hN] at hu0 huu ⊢
      have HN := hide hN
      clear hN
      go_enter Tryd.func22, Tryd.ntmps22
      go_wp2_with fail
      have HB0 : Hid (Below w.heap.size w (w.alloc (.cells #[.int .i64 t.op, .int .i64 t.n, .slice a t.kids.length cap] 29))) := later_alloc w _
      have HX0 : Hid ((w.alloc (.cells #[.int .i64 t.op, .int .i64 t.n, .slice a t.kids.length cap] 29)).heap[w.heap.size]? = some (.cells #[.int .i64 t.op, .int .i64 t.n, .slice a t.kids.length cap] 29 (0, 0))) := heap_alloc_new w _
      generalize (w.alloc (.cells #[.int .i64 t.op, .int .i64 t.n, .slice a t.kids.length cap] 29)) = w2 at *
      go_loopw [5] (fun i wr => ∃ k : Nat, k ≤ t.kids.length ∧ i = .int .i64 k ∧ Hid (∀ (j : Nat) (h : j < t.kids.length), j < k → fre m (u + (bnd t.op (j : Nat) : Nat)) t.kids[j] = false) ∧ Hid (wr.heap[w.heap.size]? = some (.cells #[.int .i64 t.op, .int .i64 t.n, .slice a t.kids.length cap] 29 (0, 0))) ∧ Hid (Below w.heap.size w wr)) (fun i _ => t.kids.length - (intOf i).toNat)
      case atStart => exact ⟨0, Nat.zero_le _, rfl, (fun j _ h => absurd h (by omega)), HX0, HB0⟩
      case round =>
        obtain ⟨k, hk, rfl, HNO, HX, HBX⟩ := hrel
        clear HX0 HB0
        obtain ⟨d0, d1, d2⟩ := blk3 HX.out
        have hsr := size_of_block HX.out
        by_cases hlt : k < t.kids.length
        · obtain ⟨b, off, ka, kc, rfl, hbB, f0, f1, f2, hr⟩ := HR.out.form hlt
          have e0 := (HBX.out.cell (p := ⟨b, off + k * 3, none⟩) (show b < w.heap.size by omega)).trans f0
          have e1 := (HBX.out.cell (p := ⟨b, off + k * 3 + 1, none⟩) (show b < w.heap.size by omega)).trans f1
          have e2 := (HBX.out.cell (p := ⟨b, off + k * 3 + 2, none⟩) (show b < w.heap.size by omega)).trans f2
          clear f0 f1 f2
          obtain ⟨bn, hbn⟩ : ∃ bn : Int, bn = (bnd t.op (k : Nat) : Nat) := ⟨_, rfl⟩
          have hbn0 : 0 ≤ bn := by omega
          have hbn2 : bn ≤ 2 := by have := bnd_le t.op (k : Nat); omega
          have hwu : IntKind.i64.wrap (N + bn) = N + bn := by rw [IntKind.wrap_i64]; omega
          have HBI : Hid (∀ w', Calls Tryd.prog 19 #[.int .i64 t.op, .int .i64 (k : Nat)] w' fun e w'' => e = .returned (.int .i64 bn) ∧ w'' = w') := hide (fun w' => by rw [hbn]; exact rbinders_any t.op (k : Nat) w')
          obtain ⟨p, hp⟩ : ∃ p, p = t.kids[k] := ⟨_, rfl⟩
          rw [← hp] at e0 e1 e2 hr
          have HP := hide hp
          obtain ⟨q, hq⟩ : ∃ q, q = fre m (u + bn) p := ⟨_, rfl⟩
          have HQ : Hid (q = fre m (u + (bnd t.op (k : Nat) : Nat)) t.kids[k]) := hide (by rw [hq, hbn, hp])
          have HC : Hid (Calls Tryd.prog 22 #[.agg #[.int .i64 p.op, .int .i64 p.n, .slice ka p.kids.length kc], .int .i64 (N + bn)] wr.drew fun e w' => e = .returned (.bool q) ∧ Below wr.drew.heap.size wr.drew w') := hide (by
            rw [hq, show N + bn = m + (u + bn) by rw [HN.out]; omega]
            exact IH.out p _ m (u + bn) _ (TmD.drew (TmAt.below hr HBX.out hB (Nat.le_refl _))) (by rw [size_drew]; omega) (by have := HN.out; omega) (by have := HU1.out; omega))
          clear hr hbn hp hq
          go_wp2_with fail
          go_region_held3 (fun w' => w'.cell? ⟨b, off + k * 3, none⟩ = some (.int .i64 p.op) ∧ w'.cell? ⟨b, off + k * 3 + 1, none⟩ = some (.int .i64 p.n) ∧ w'.cell? ⟨b, off + k * 3 + 2, none⟩ = some (.slice ka p.kids.length kc) ∧ w'.cell? ⟨w.heap.size, 0, none⟩ = some (.int .i64 t.op) ∧ w'.cell? ⟨w.heap.size, 2, none⟩ = some (.slice (some ⟨b, off, none⟩) t.kids.length cap))
            (first | exact HS5.out | go_keep)
            (first
             | (go_at_call 19; refine (HBI.out _).mono ?_; rintro e w4 ⟨rfl, rfl⟩)
             | (go_at_call 22; refine HC.out.mono ?_; rintro e w5 ⟨rfl, hb5⟩; have HB5 := hide (drew_bel hb5); have HS5 := hide (held_rf HB5.out e0 e1 e2 d0 d2 (World.block_lt_of_cell? _ _ e0) hsr); have HX5 := hide ((HB5.out.block _ hsr).trans HX.out); clear hb5))
          all_goals
            have HBL : Hid (Below w.heap.size w w5) := HBX.out.trans (HB5.out.mono HBX.out.size)
            cases q with
            | true =>
              go_wp2_with fail
              go_ret
              exact ⟨ret_bool (by rw [HRES.out]; exact fre_hit HQ.out.symm), HBL.out⟩
            | false =>
              go_wp2_with fail
              go_roundw
              case rel =>
                refine ⟨k + 1, by omega, by go_num, fun j hj hjk => ?_, HX5.out, HBL.out⟩
                by_cases hjk2 : j < k
                · exact HNO.out j hj hjk2
                · have : j = k := by omega
                  subst this
                  exact HQ.out.symm
              case measure => simp [intOf]; omega
        · go_wp2_with fail
          go_ret
          exact ⟨ret_bool (by rw [HRES.out]; exact (fre_none (fun j hj => HNO.out j hj (by omega))).symm), HBX.out⟩

#print axioms rfree_any
end Go.Proofs.YtpmaagafcpaajaaDoor
