/- term.Subst. -/
import Derived.Test.YtpmaagafcpaajaaDoorSv
namespace Go.Proofs.YtpmaagafcpaajaaDoor
open Go.RowKit

/-- What the two boxes hold. -/
theorem held_fit {w w5 : World} {n so sn o m : Int} {sa a : Option Addr} {sl sc tl cap : Nat} (h0 : w5.heap[w.heap.size]? = some (.cells #[.int .i64 n, .int .i64 so, .int .i64 sn, .slice sa sl sc] 74)) (h1 : w5.heap[w.heap.size + 1]? = some (.cells #[.int .i64 o, .int .i64 m, .slice a tl cap] 29)) :
    w5.cell? ⟨w.heap.size, 0, none⟩ = some (.int .i64 n) ∧ w5.cell? ⟨w.heap.size, 1, none⟩ = some (.int .i64 so) ∧ w5.cell? ⟨w.heap.size, 2, none⟩ = some (.int .i64 sn) ∧ w5.cell? ⟨w.heap.size, 3, none⟩ = some (.slice sa sl sc) ∧ w5.cell? ⟨w.heap.size + 1, 0, none⟩ = some (.int .i64 o) ∧ w5.cell? ⟨w.heap.size + 1, 1, none⟩ = some (.int .i64 m) ∧ w5.cell? ⟨w.heap.size + 1, 2, none⟩ = some (.slice a tl cap) :=
  ⟨(cell_of_block h0 0).trans rfl, (cell_of_block h0 1).trans rfl, (cell_of_block h0 2).trans rfl, (cell_of_block h0 3).trans rfl, (cell_of_block h1 0).trans rfl, (cell_of_block h1 1).trans rfl, (cell_of_block h1 2).trans rfl⟩

theorem fit5 {w w5 : World} {n so sn o m : Int} {sa a : Option Addr} {sl sc tl cap : Nat} (hb5 : Below ((w.alloc (.cells #[.int .i64 n, .int .i64 so, .int .i64 sn, .slice sa sl sc] 74)).alloc (.cells #[.int .i64 o, .int .i64 m, .slice a tl cap] 29)).drew.heap.size ((w.alloc (.cells #[.int .i64 n, .int .i64 so, .int .i64 sn, .slice sa sl sc] 74)).alloc (.cells #[.int .i64 o, .int .i64 m, .slice a tl cap] 29)).drew w5) :
    (w5.heap[w.heap.size]? = some (.cells #[.int .i64 n, .int .i64 so, .int .i64 sn, .slice sa sl sc] 74) ∧ w5.heap[w.heap.size + 1]? = some (.cells #[.int .i64 o, .int .i64 m, .slice a tl cap] 29)) ∧ Below w.heap.size w w5 ∧ w.heap.size + 2 ≤ w5.heap.size := by
  have hb : Below ((w.alloc (.cells #[.int .i64 n, .int .i64 so, .int .i64 sn, .slice sa sl sc] 74)).alloc (.cells #[.int .i64 o, .int .i64 m, .slice a tl cap] 29)).heap.size ((w.alloc (.cells #[.int .i64 n, .int .i64 so, .int .i64 sn, .slice sa sl sc] 74)).alloc (.cells #[.int .i64 o, .int .i64 m, .slice a tl cap] 29)) w5 := ⟨hb5.os, hb5.tape, hb5.output, hb5.size, hb5.block⟩
  obtain ⟨k0, k1, hbl, hs5⟩ := box_two hb
  exact ⟨⟨k0, k1⟩, hbl, hs5⟩
theorem fit6 {w w5 w6 : World} {n so sn o m : Int} {sa a : Option Addr} {sl sc tl cap : Nat} (h : (w5.heap[w.heap.size]? = some (.cells #[.int .i64 n, .int .i64 so, .int .i64 sn, .slice sa sl sc] 74) ∧ w5.heap[w.heap.size + 1]? = some (.cells #[.int .i64 o, .int .i64 m, .slice a tl cap] 29)) ∧ Below w.heap.size w w5 ∧ w.heap.size + 2 ≤ w5.heap.size) (hb6 : Below w5.heap.size w5 w6) :
    (w6.heap[w.heap.size]? = some (.cells #[.int .i64 n, .int .i64 so, .int .i64 sn, .slice sa sl sc] 74) ∧ w6.heap[w.heap.size + 1]? = some (.cells #[.int .i64 o, .int .i64 m, .slice a tl cap] 29)) ∧ Below w.heap.size w w6 ∧ w.heap.size + 2 ≤ w6.heap.size := by
  obtain ⟨⟨k0, k1⟩, hbl, hs5⟩ := h
  exact ⟨⟨(hb6.block _ (by omega)).trans k0, (hb6.block _ (by omega)).trans k1⟩, hbl.trans (hb6.mono (by omega)), Nat.le_trans hs5 hb6.size⟩

set_option maxRecDepth 20000 in
set_option maxHeartbeats 1000000 in
theorem sfits_any (B f g : Nat) (t s : Tr) (v : Value) (n so sn : Int) (sa : Option Addr) (sl sc : Nat) (w : World) (h : TmAt w B f t v) (hs : TmAt w B g s (.agg #[.int .i64 so, .int .i64 sn, .slice sa sl sc])) (hB : B ≤ w.heap.size) (ht : Tb w) (h4 : 4 ≤ B) (hf : f ≤ 200000) (hg : g ≤ 200000) (hsd : Snd 1000000000 t)
    (hz : t.size + s.size * cnt (fun x => decide (x = n)) 0 t ≤ 8388608) (hzs : s.size ≤ 8388608) :
    Calls Tryd.prog 47 #[.agg #[.int .i64 n, .int .i64 so, .int .i64 sn, .slice sa sl sc], v] w fun e w' => e = .returned (.bool true) ∧ Below w.heap.size w w' := by
  have HT := hide h; have HTS := hide hs
  obtain ⟨a, cap, rfl, _, _, hop, hn'⟩ := h.shape
  have HZT : Hid (t.size ≤ 8388608) := hide (by omega)
  have HZ := hide hz; have HZS := hide hzs; have HF := hide hf; have HG := hide hg; have HTB := hide ht; have HSD := hide hsd
  clear hs hf h ht hsd hz hg hzs
  have HA : Hid (Below w.heap.size w ((w.alloc (.cells #[.int .i64 n, .int .i64 so, .int .i64 sn, .slice sa sl sc] 74)).alloc (.cells #[.int .i64 t.op, .int .i64 t.n, .slice a t.kids.length cap] 29))) := ((Below.refl w.heap.size w).alloc (Nat.le_refl _) _).alloc (by simp) _
  obtain ⟨tz, htz⟩ : ∃ tz, tz = t.size := ⟨_, rfl⟩
  obtain ⟨sz, hsz⟩ : ∃ sz, sz = s.size := ⟨_, rfl⟩
  have hp1 : 0 < tz := by rw [htz]; exact t.size_pos
  have hp2 : 0 < sz := by rw [hsz]; exact s.size_pos
  have HC1 : Hid (Calls Tryd.prog 40 #[.agg #[.int .i64 t.op, .int .i64 t.n, .slice a t.kids.length cap]] ((w.alloc (.cells #[.int .i64 n, .int .i64 so, .int .i64 sn, .slice sa sl sc] 74)).alloc (.cells #[.int .i64 t.op, .int .i64 t.n, .slice a t.kids.length cap] 29)).drew fun e w' => e = .returned (.int .i64 (tz : Nat)) ∧ Below ((w.alloc (.cells #[.int .i64 n, .int .i64 so, .int .i64 sn, .slice sa sl sc] 74)).alloc (.cells #[.int .i64 t.op, .int .i64 t.n, .slice a t.kids.length cap] 29)).drew.heap.size ((w.alloc (.cells #[.int .i64 n, .int .i64 so, .int .i64 sn, .slice sa sl sc] 74)).alloc (.cells #[.int .i64 t.op, .int .i64 t.n, .slice a t.kids.length cap] 29)).drew w') := hide (by rw [htz]; exact measured_any B f t _ _ (TmD.drew (TmAt.below HT.out HA.out hB (Nat.le_refl _))) (by rw [size_drew]; exact Nat.le_trans hB HA.out.size) HZT.out HF.out)
  have HC2 : Hid (∀ w5, Below w.heap.size w w5 → Calls Tryd.prog 40 #[.agg #[.int .i64 so, .int .i64 sn, .slice sa sl sc]] w5 fun e w' => e = .returned (.int .i64 (sz : Nat)) ∧ Below w5.heap.size w5 w') := hide (fun w5 hb5 => by rw [hsz]; exact measured_any B g s _ _ (TmAt.below HTS.out hb5 hB (Nat.le_refl _)) (Nat.le_trans hB hb5.size) HZS.out HG.out)
  rw [← htz, ← hsz] at HZ
  clear htz hsz
  obtain ⟨q, hq⟩ : ∃ q, q = cnt (fun x => decide (x = n)) 0 t := ⟨_, rfl⟩
  rw [← hq] at HZ
  have HQ := hide hq
  clear hq
  have hm1 : IntKind.i64.wrap ((sz : Int) * (q : Int)) = (sz : Int) * (q : Int) := by have h := HZ.out; have h2 : ((sz : Int) * (q : Int)) = ((sz * q : Nat) : Int) := (Int.natCast_mul _ _).symm; rw [h2, IntKind.wrap_i64]; omega
  have hm2 : IntKind.i64.wrap ((tz : Int) + (sz : Int) * (q : Int)) = (tz : Int) + (sz : Int) * (q : Int) := by have h := HZ.out; have h2 : ((sz : Int) * (q : Int)) = ((sz * q : Nat) : Int) := (Int.natCast_mul _ _).symm; rw [h2, IntKind.wrap_i64]; omega
  have HM3 : Hid ((tz : Int) + (sz : Int) * (q : Int) ≤ 8388608) := hide (by have h := HZ.out; have h2 : ((sz : Int) * (q : Int)) = ((sz * q : Nat) : Int) := (Int.natCast_mul _ _).symm; rw [h2]; omega)
  go_enter Tryd.func47, Tryd.ntmps47
  go_wp2_with fail
  go_region_held3 (fun w' => w'.cell? ⟨w.heap.size, 0, none⟩ = some (.int .i64 n) ∧ w'.cell? ⟨w.heap.size, 1, none⟩ = some (.int .i64 so) ∧ w'.cell? ⟨w.heap.size, 2, none⟩ = some (.int .i64 sn) ∧ w'.cell? ⟨w.heap.size, 3, none⟩ = some (.slice sa sl sc) ∧ w'.cell? ⟨w.heap.size + 1, 0, none⟩ = some (.int .i64 t.op) ∧ w'.cell? ⟨w.heap.size + 1, 1, none⟩ = some (.int .i64 t.n) ∧ w'.cell? ⟨w.heap.size + 1, 2, none⟩ = some (.slice a t.kids.length cap))
    (first | exact HS5.out | exact HS6.out | go_keep)
    (first
     | (go_at_call 40; with_reducible refine HC1.out.mono ?_; rintro e w5 ⟨rfl, hb5⟩; have HX5 := hide (fit5 hb5); have HS5 := hide (held_fit HX5.out.1.1 HX5.out.1.2); clear hb5)
     | (go_at_call 40; with_reducible refine (HC2.out _ HX5.out.2.1).mono ?_; rintro e w6 ⟨rfl, hb6⟩; have HX6 := hide (fit6 HX5.out hb6); have HS6 := hide (held_fit HX6.out.1.1 HX6.out.1.2); clear hb6))
  all_goals
    obtain ⟨c0, c1, c2, c3, d0, d1, d2⟩ := HS6.out
    have hc1 : ((tz : Int) == 0) = false := ne_beq (by omega)
    have hc2 : ((sz : Int) == 0) = false := ne_beq (by omega)
    go_wp2_with fail
    refine (count43_any B f n t _ 0 w6 (TmAt.below HT.out HX6.out.2.1 hB (Nat.le_refl _)) (Nat.le_trans hB HX6.out.2.1.size) (HTB.out.later HX6.out.2.1) h4 HZT.out (by omega) (by have := HF.out; omega) HSD.out).mono ?_
    rintro e w7 ⟨rfl, hb7⟩
    rw [← HQ.out]
    have HB7 : Hid (Below w.heap.size w w7) := HX6.out.2.1.trans (hb7.mono HX6.out.2.1.size)
    clear hb7
    go_wp2_with fail
    go_ret
    exact ⟨ret_bool (decide_eq_true HM3.out), HB7.out⟩

theorem box_four {w w1 : World} {x0 x1 x2 x3 : Array Value} {T0 T1 T2 T3 : TypeId} (hb : Below ((((w.alloc (.cells x0 T0)).alloc (.cells x1 T1)).alloc (.cells x2 T2)).alloc (.cells x3 T3)).heap.size ((((w.alloc (.cells x0 T0)).alloc (.cells x1 T1)).alloc (.cells x2 T2)).alloc (.cells x3 T3)) w1) :
    w1.heap[w.heap.size]? = some (.cells x0 T0) ∧ w1.heap[w.heap.size + 2]? = some (.cells x2 T2) ∧ w1.heap[w.heap.size + 3]? = some (.cells x3 T3) ∧ Below w.heap.size w w1 ∧ w.heap.size + 4 ≤ w1.heap.size := by
  have hsz : ((((w.alloc (.cells x0 T0)).alloc (.cells x1 T1)).alloc (.cells x2 T2)).alloc (.cells x3 T3)).heap.size = w.heap.size + 4 := by simp
  have h0 := heap_alloc_new w (.cells x0 T0)
  have h2 := heap_alloc_new ((w.alloc (.cells x0 T0)).alloc (.cells x1 T1)) (.cells x2 T2)
  have h3 := heap_alloc_new (((w.alloc (.cells x0 T0)).alloc (.cells x1 T1)).alloc (.cells x2 T2)) (.cells x3 T3)
  rw [World.size_alloc, World.size_alloc] at h2
  rw [World.size_alloc, World.size_alloc, World.size_alloc] at h3
  refine ⟨?_, ?_, ?_, ?_, ?_⟩
  · rw [hb.block _ (by omega), Below.heap_alloc _ _ _ (by simp; omega), Below.heap_alloc _ _ _ (by simp; omega), Below.heap_alloc _ _ _ (by simp)]; exact h0
  · rw [hb.block _ (by omega), Below.heap_alloc _ _ _ (by simp)]; exact h2
  · rw [hb.block _ (by omega)]; exact h3
  · exact ((((Below.refl w.heap.size w).alloc (Nat.le_refl _) _).alloc (by simp) _).alloc (by simp; omega) _).alloc (by simp; omega) _ |>.trans (hb.mono (by omega))
  · have := hb.size; omega

set_option maxRecDepth 20000 in
set_option maxHeartbeats 1000000 in
theorem tsubst_any (B f g : Nat) (t s : Tr) (v vs : Value) (n : Int) (w : World) (h : TmAt w B f t v) (hs : TmAt w B g s vs) (hB : B ≤ w.heap.size) (ht : Tb w) (h4 : 4 ≤ B) (hf : f ≤ 200000) (hg : g ≤ 200000) (hsd : Snd 1000000000 t) (hss : Snd 1000000000 s)
    (hz : t.size + s.size * cnt (fun x => decide (x = n)) 0 t ≤ 8388608) (hzs : s.size ≤ 8388608) (hn : 0 ≤ n) :
    Calls Tryd.prog 28 #[v, .int .i64 n, vs] w (NewTm w (f + g) (sub n s 0 t)) := by
  have HT := hide h; have HTS := hide hs
  obtain ⟨a, cap, rfl, _, _, hop, hn'⟩ := h.shape
  obtain ⟨sa, sc, rfl, _, _, hop2, hn2⟩ := hs.shape
  have HG1 : Hid (1 ≤ g) := by cases g with | zero => exact hs.elim | succ g => exact hide (by omega)
  have HZ := hide hz; have HZS := hide hzs; have HF := hide hf; have HG := hide hg; have HTB := hide ht; have HSD := hide hsd; have HSS := hide hss
  have HZT : Hid (t.size ≤ 8388608) := hide (by omega)
  clear hs hf h ht hsd hz hg hzs hss
  go_enter Tryd.func28, Tryd.ntmps28
  go_wp2_with fail
  have HA : Hid (∀ a b c d, Below w.heap.size w ((((w.alloc a).alloc b).alloc c).alloc d)) := hide (fun a b c d => ((((Below.refl w.heap.size w).alloc (Nat.le_refl _) _).alloc (by simp) _).alloc (by simp; omega) _).alloc (by simp; omega) _)
  refine (sfits_any B f g t s _ n _ _ _ _ _ _ (TmAt.below HT.out (HA.out _ _ _ _) hB (Nat.le_refl _)) (TmAt.below HTS.out (HA.out _ _ _ _) hB (Nat.le_refl _)) (Nat.le_trans hB (HA.out _ _ _ _).size) (HTB.out.later (HA.out _ _ _ _)) h4 HF.out HG.out HSD.out HZ.out HZS.out).mono ?_
  rintro e w1 ⟨rfl, hb1⟩
  obtain ⟨k0, k2, k3, hbl, hs1⟩ := box_four hb1
  obtain ⟨c0, c1, c2⟩ := blk3 k0
  have d0 : w1.cell? ⟨w.heap.size + 1 + 1 + 1, 0, none⟩ = some (.int .i64 n) := (cell_of_block k3 0).trans rfl
  have d1 : w1.cell? ⟨w.heap.size + 1 + 1 + 1, 1, none⟩ = some (.int .i64 s.op) := (cell_of_block k3 1).trans rfl
  have d2 : w1.cell? ⟨w.heap.size + 1 + 1 + 1, 2, none⟩ = some (.int .i64 s.n) := (cell_of_block k3 2).trans rfl
  have d3 : w1.cell? ⟨w.heap.size + 1 + 1 + 1, 3, none⟩ = some (.slice sa s.kids.length sc) := (cell_of_block k3 3).trans rfl
  have HB1 := hide hbl; have HK2 := hide k2
  clear hb1 hbl k0 k2 k3
  go_wp2_with fail
  refine (subst_any B f g s n _ _ _ _ _ t _ 0 w1 (TmAt.below HT.out HB1.out hB (Nat.le_refl _)) (by omega) (HTB.out.later HB1.out) h4 HZT.out (by omega) (by have := HF.out; omega) HSD.out (TmAt.below HTS.out HB1.out hB (Nat.le_refl _)) HZS.out HG.out HG1.out HSS.out hn).mono ?_
  rintro e w2 ⟨p0, p1, pa, pl, pc, rfl, ht2, hb2⟩
  have k1 := (hb2.block _ (by omega)).trans HK2.out
  obtain ⟨y0, y1, y2⟩ := blk3 k1
  obtain ⟨z0, z1, z2⟩ := frz3 k1
  have HB2 : Hid (Below w.heap.size w w2) := HB1.out.trans (hb2.mono (by omega))
  have HT2 := hide ht2
  clear hb2 ht2 k1
  go_wp2_with fail
  refine bodyPost_ret (v := .agg #[.int .i64 p0, .int .i64 p1, .slice pa pl pc]) (by simp [results, Tryd.results28, go_sem, y0, y1, y2]) rfl ⟨_, _, _, _, _, rfl, tm_put3 HT2.out (by omega) (by omega), ?_⟩
  exact ((HB2.out.setCell (show w.heap.size ≤ w.heap.size + 1 + 1 by omega) _).setCell (show w.heap.size ≤ w.heap.size + 1 + 1 by omega) _).setCell (show w.heap.size ≤ w.heap.size + 1 + 1 by omega) _
#print axioms tsubst_any
end Go.Proofs.YtpmaagafcpaajaaDoor
