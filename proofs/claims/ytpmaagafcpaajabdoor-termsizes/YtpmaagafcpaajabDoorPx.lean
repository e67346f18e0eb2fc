/- places: where a variable stands: how often. -/
import Derived.Test.YtpmaagafcpaajabDoorFr
import Derived.Deep.RegionHeld3
namespace Go.Proofs.YtpmaagafcpaajabDoor
open Go.RowKit

theorem drew_bel {w w' : World} (h : Below w.drew.heap.size w.drew w') : Below w.heap.size w w' := ⟨h.os, h.tape, h.output, h.size, h.block⟩
theorem held_rf {w w5 : World} {b off k q : Nat} {x0 x1 x2 y0 y2 : Value} (hb : Below w.heap.size w w5) (e0 : w.cell? ⟨b, off + k * 3, none⟩ = some x0) (e1 : w.cell? ⟨b, off + k * 3 + 1, none⟩ = some x1) (e2 : w.cell? ⟨b, off + k * 3 + 2, none⟩ = some x2) (d0 : w.cell? ⟨q, 0, none⟩ = some y0) (d2 : w.cell? ⟨q, 2, none⟩ = some y2) (h1 : b < w.heap.size) (h2 : q < w.heap.size) :
    w5.cell? ⟨b, off + k * 3, none⟩ = some x0 ∧ w5.cell? ⟨b, off + k * 3 + 1, none⟩ = some x1 ∧ w5.cell? ⟨b, off + k * 3 + 2, none⟩ = some x2 ∧ w5.cell? ⟨q, 0, none⟩ = some y0 ∧ w5.cell? ⟨q, 2, none⟩ = some y2 :=
  ⟨(hb.cell (p := ⟨b, off + k * 3, none⟩) h1).trans e0, (hb.cell (p := ⟨b, off + k * 3 + 1, none⟩) h1).trans e1, (hb.cell (p := ⟨b, off + k * 3 + 2, none⟩) h1).trans e2, (hb.cell (p := ⟨q, 0, none⟩) h2).trans d0, (hb.cell (p := ⟨q, 2, none⟩) h2).trans d2⟩
def plcTo (m u : Int) (t : Tr) (k : Nat) : Nat := ((t.kids.mapIdx (fun j x => plc m (u + (bnd t.op ((j : Nat) : Int) : Nat)) x)).take k).sum
theorem plcTo_succ (m u : Int) (t : Tr) (k : Nat) (hk : k < t.kids.length) : plcTo m u t (k + 1) = plcTo m u t k + plc m (u + (bnd t.op (k : Nat) : Nat)) t.kids[k] := by
  unfold plcTo
  rw [List.take_succ_eq_append_getElem (by simpa using hk), List.sum_append, List.getElem_mapIdx]
  simp
theorem plc_size (m : Int) (t : Tr) : ∀ u, plc m u t ≤ t.size := by
  induction t using Tr.ind with
  | h t ih =>
    intro u
    rw [plc_eq]
    have hz := t.size_pos
    split
    · split <;> omega
    · have key : ∀ k, k ≤ t.kids.length → plcTo m u t k ≤ ((t.kids.take k).map Tr.size).sum := by
        intro k
        induction k with
        | zero => intro _; simp [plcTo]
        | succ k ihk =>
          intro hk
          have h1 := ihk (by omega)
          have h2 := ih t.kids[k] (List.getElem_mem _) (u + (bnd t.op ((k : Nat) : Int) : Nat))
          rw [plcTo_succ m u t k (by omega), List.take_succ_eq_append_getElem (by omega)]
          simp only [List.map_append, List.sum_append, List.map_cons, List.map_nil, List.sum_cons, List.sum_nil]
          omega
      have := key t.kids.length (Nat.le_refl _)
      unfold plcTo at this
      rw [List.take_of_length_le (by simp), List.take_length] at this
      rw [Tr.size_eq]
      omega

set_option maxRecDepth 20000 in
set_option maxHeartbeats 1000000 in
theorem places_any (B f : Nat) : ∀ (t : Tr) (v : Value) (m u : Int) (w : World), TmAt w B f t v → B ≤ w.heap.size → t.size ≤ 8388608 → 0 ≤ m + u → m + u + 2 * f ≤ 1000000 →
    Calls Tryd.prog 19 #[v, .int .i64 (m + u)] w fun e w' => e = .returned (.int .i64 (plc m u t : Nat)) ∧ Below w.heap.size w w' := by
  induction f with
  | zero => intro t v m u w h; exact h.elim
  | succ f ih =>
    rintro t v m u w ⟨a, cap, rfl, hop, hn, hrow⟩ hB hsz hu0 hu1
    by_cases ho : t.op = 1
    · clear ih hrow
      rw [plc_eq, if_pos ho, ho]
      by_cases hq : t.n = m + u
      · rw [if_pos hq, hq]
        go_enter Tryd.func19, Tryd.ntmps19
        go_wp2_with fail
        go_ret
        exact ⟨rfl, later_alloc w _⟩
      · have hb := ne_beq hq
        rw [if_neg hq]
        go_enter Tryd.func19, Tryd.ntmps19
        go_wp2_with fail
        go_ret
        exact ⟨rfl, later_alloc w _⟩
    · have IH := hide ih; clear ih
      have HR := hide hrow
      have hlm : t.kids.length ≤ maxLen := Nat.le_trans hrow.1 hrow.2.1
      clear hrow
      unfold maxLen at hlm
      have HU1 := hide hu1; have HO := hide ho; have HSZ := hide hsz
      have huu : m + u ≤ 1000000 := by omega
      have hb1 := ne_beq ho
      clear hu1 ho hsz
      obtain ⟨res, hres⟩ : ∃ res, res = plc m u t := ⟨_, rfl⟩
      rw [← hres]
      have HRES : Hid (res = plcTo m u t t.kids.length) := hide (by rw [hres, plc_eq, if_neg HO.out, plcTo, List.take_of_length_le (by simp)])
      have HRZ : Hid (∀ k, plcTo m u t k ≤ 8388608) := hide (fun k => by
        have h1 := sum_take_le (t.kids.mapIdx (fun j x => plc m (u + (bnd t.op ((j : Nat) : Int) : Nat)) x)) k
        have h2 := plc_size m t u
        rw [plc_eq, if_neg HO.out] at h2
        have := HSZ.out
        unfold plcTo
        omega)
      clear hres
      obtain ⟨N, hN⟩ : ∃ N, N = m + u := ⟨_, rfl⟩
      rw [← hN] at hu0 huu ⊢
      have HN := hide hN
      clear hN
      go_enter Tryd.func19, Tryd.ntmps19
      go_wp2_with fail
      have HB0 : Hid (Below w.heap.size w (w.alloc (.cells #[.int .i64 t.op, .int .i64 t.n, .slice a t.kids.length cap] 26))) := later_alloc w _
      have HX0 : Hid ((w.alloc (.cells #[.int .i64 t.op, .int .i64 t.n, .slice a t.kids.length cap] 26)).heap[w.heap.size]? = some (.cells #[.int .i64 t.op, .int .i64 t.n, .slice a t.kids.length cap] 26 (0, 0))) := heap_alloc_new w _
      generalize (w.alloc (.cells #[.int .i64 t.op, .int .i64 t.n, .slice a t.kids.length cap] 26)) = w2 at *
      go_loopw [5, 6] (fun s i wr => ∃ k : Nat, k ≤ t.kids.length ∧ i = .int .i64 k ∧ s = .int .i64 (plcTo m u t k : Nat) ∧ Hid (wr.heap[w.heap.size]? = some (.cells #[.int .i64 t.op, .int .i64 t.n, .slice a t.kids.length cap] 26 (0, 0))) ∧ Hid (Below w.heap.size w wr)) (fun _ i _ => t.kids.length - (intOf i).toNat)
      case atStart => exact ⟨0, Nat.zero_le _, rfl, rfl, HX0, HB0⟩
      case round =>
        obtain ⟨k, hk, rfl, rfl, HX, HBX⟩ := hrel
        clear HX0 HB0
        obtain ⟨d0, d1, d2⟩ := blk3 HX.out
        have hsr := size_of_block HX.out
        by_cases hlt : k < t.kids.length
        · obtain ⟨b, off, ka, kc, rfl, hbB, f0, f1, f2, hr⟩ := HR.out.form hlt
          have e0 := (HBX.out.cell (p := ⟨b, off + k * 3, none⟩) (show b < w.heap.size by omega)).trans f0
          have e1 := (HBX.out.cell (p := ⟨b, off + k * 3 + 1, none⟩) (show b < w.heap.size by omega)).trans f1
          have e2 := (HBX.out.cell (p := ⟨b, off + k * 3 + 2, none⟩) (show b < w.heap.size by omega)).trans f2
          clear f0 f1 f2
          have HS := hide (plcTo_succ m u t k hlt)
          have HL := hide (HRZ.out (k + 1))
          have hkz := Tr.kid_size (List.getElem_mem hlt)
          have HKZ : Hid (t.kids[k].size ≤ 8388608) := hide (by have := HSZ.out; omega)
          clear hkz
          obtain ⟨bn, hbn⟩ : ∃ bn : Int, bn = (bnd t.op (k : Nat) : Nat) := ⟨_, rfl⟩
          have hbn0 : 0 ≤ bn := by omega
          have hbn2 : bn ≤ 2 := by have := bnd_le t.op (k : Nat); omega
          have hwu : IntKind.i64.wrap (N + bn) = N + bn := by rw [IntKind.wrap_i64]; omega
          have HBI : Hid (∀ w', Calls Tryd.prog 37 #[.int .i64 t.op, .int .i64 (k : Nat)] w' fun e w'' => e = .returned (.int .i64 bn) ∧ w'' = w') := hide (fun w' => by rw [hbn]; exact rbinders_any t.op (k : Nat) w')
          rw [← hbn] at HS
          clear hbn
          obtain ⟨p, hp⟩ : ∃ p, p = t.kids[k] := ⟨_, rfl⟩
          rw [← hp] at e0 e1 e2 hr HS HKZ
          clear hp
          obtain ⟨c, hc⟩ : ∃ c : Nat, c = plcTo m u t k := ⟨_, rfl⟩
          rw [← hc] at HS ⊢
          clear hc
          obtain ⟨c2, hc2⟩ : ∃ c2 : Nat, c2 = plc m (u + bn) p := ⟨_, rfl⟩
          have hw2 : IntKind.i64.wrap ((c : Int) + (c2 : Int)) = (c : Int) + (c2 : Int) := by have h1 := HS.out; have h2 := HL.out; rw [IntKind.wrap_i64]; omega
          have HW2 := hide hw2
          have HC : Hid (Calls Tryd.prog 19 #[.agg #[.int .i64 p.op, .int .i64 p.n, .slice ka p.kids.length kc], .int .i64 (N + bn)] wr.drew fun e w' => e = .returned (.int .i64 (c2 : Nat)) ∧ Below wr.drew.heap.size wr.drew w') := hide (by
            rw [hc2, show N + bn = m + (u + bn) by rw [HN.out]; omega]
            exact IH.out p _ m (u + bn) _ (TmD.drew (TmAt.below hr HBX.out hB (Nat.le_refl _))) (by rw [size_drew]; omega) HKZ.out (by have := HN.out; omega) (by have := HU1.out; omega))
          rw [← hc2] at HS
          clear hr hc2 hw2
          go_wp2_with fail
          go_region_held3 (fun w' => w'.cell? ⟨b, off + k * 3, none⟩ = some (.int .i64 p.op) ∧ w'.cell? ⟨b, off + k * 3 + 1, none⟩ = some (.int .i64 p.n) ∧ w'.cell? ⟨b, off + k * 3 + 2, none⟩ = some (.slice ka p.kids.length kc) ∧ w'.cell? ⟨w.heap.size, 0, none⟩ = some (.int .i64 t.op) ∧ w'.cell? ⟨w.heap.size, 2, none⟩ = some (.slice (some ⟨b, off, none⟩) t.kids.length cap))
            (first | exact HS5.out | go_keep)
            (first
             | (go_at_call 37; refine (HBI.out _).mono ?_; rintro e w4 ⟨rfl, rfl⟩)
             | (go_at_call 19; refine HC.out.mono ?_; rintro e w5 ⟨rfl, hb5⟩; have HB5 := hide (drew_bel hb5); have HS5 := hide (held_rf HB5.out e0 e1 e2 d0 d2 (World.block_lt_of_cell? _ _ e0) hsr); have HX5 := hide ((HB5.out.block _ hsr).trans HX.out); clear hb5))
          all_goals
            have HBL : Hid (Below w.heap.size w w5) := HBX.out.trans (HB5.out.mono HBX.out.size)
            go_wp2_with fail
            go_roundw
            case rel => exact ⟨k + 1, by omega, by go_num, by rw [HS.out, Int.natCast_add, HW2.out], HX5.out, HBL.out⟩
            case measure => simp [intOf]; omega
        · go_wp2_with fail
          go_ret
          exact ⟨by rw [HRES.out, show t.kids.length = k by omega]; rfl, HBX.out⟩
#print axioms places_any
end Go.Proofs.YtpmaagafcpaajabDoor
