/- The document's own functions of terms, as contracts in regions. -/
import Derived.Test.YtpmaagafcpaajaaDoorLd
import Derived.Test.YtpmaagafcpaajaaDoorAl
import Derived.Test.YtpmaagafcpaajaaDoorRg
import Derived.Test.YtpmaagafcpaajaaDoorRi
import Derived.Test.YtpmaagafcpaajaaDoorRx
namespace Go.Proofs.YtpmaagafcpaajaaDoor
open Go.RowKit

theorem e_text {f : Nat} {t : Tr} {v : Value} {w : World} (h : IsT f t v w) (hg : Gd f t) (ht : Tabs w.heap.size w) (hl : Tl w) (hz : (txtT t).length ≤ 140737488355328) :
    Calls Tryd.prog 30 #[v] w fun e w' => e = .returned (.string ⟨⟨txtT t⟩⟩) ∧ Below w.heap.size w w' :=
  text_any w.heap.size f t v w h.tm (Nat.le_refl _) hg.size hg.fuel ht hl hz
theorem e_tsame {f g : Nat} {t s : Tr} {v u : Value} {w : World} (h : IsT f t v w) (hs : IsT g s u w) (hg : Gd f t) (hgs : Gd g s) :
    Calls Tryd.prog 32 #[v, u] w fun e w' => ∃ r, e = .returned (.bool r) ∧ (r = true ↔ t = s) ∧ Below w.heap.size w w' :=
  tsame_any w.heap.size (max f g) t s v u w (TmAt.more h.tm (Nat.le_max_left _ _)) (TmAt.more hs.tm (Nat.le_max_right _ _)) (Nat.le_refl _) hg.size (by have := hg.fuel; have := hgs.fuel; omega)
theorem shp_num {t : Tr} (h : Shp t) : ∀ x ∈ t.pre, I64 x.op ∧ I64 x.n := by
  intro x hx
  obtain ⟨h1, h2, _, h4, h5⟩ := h x hx
  unfold I64
  unfold loN at h4
  unfold hiN at h5
  refine ⟨by omega, ?_⟩
  split at h4 <;> (repeat' (split at h5)) <;> omega
theorem e_rsize {f : Nat} {t : Tr} {v : Value} {w : World} (h : IsT f t v w) (hz : t.size ≤ 1000000) :
    Calls Tryd.prog 14 #[v] w fun e w' => e = .returned (.int .i64 (t.size : Nat)) ∧ Below w.heap.size w w' :=
  size_any w.heap.size f t v w h.tm (Nat.le_refl _) hz
theorem e_rfree {f : Nat} {t : Tr} {v : Value} {n : Int} {w : World} (h : IsT f t v w) (hg : Gd f t) (hn : 0 ≤ n ∧ n ≤ 3000) :
    Calls Tryd.prog 22 #[v, .int .i64 n] w fun e w' => e = .returned (.bool (fre n 0 t)) ∧ Below w.heap.size w w' := by
  have := rfree_any w.heap.size f t v n 0 w h.tm (Nat.le_refl _) (by omega) (by have := hg.fuel; omega)
  rw [Int.add_zero] at this
  exact this
theorem e_rbelow {f : Nat} {t : Tr} {v : Value} {n : Int} {w : World} (h : IsT f t v w) (hg : Gd f t) (hn : 0 ≤ n ∧ n ≤ 3000) :
    Calls Tryd.prog 24 #[v, .int .i64 n] w fun e w' => e = .returned (.bool (bel n 0 t)) ∧ Below w.heap.size w w' := by
  have := rbelow_any w.heap.size f t v n 0 w h.tm (Nat.le_refl _) (by omega) (by have := hg.fuel; omega)
  rw [Int.add_zero] at this
  exact this
theorem e_rshift {f : Nat} {t : Tr} {v : Value} {b fr : Int} {w : World} (h : IsT f t v w) (hg : Gd f t) (hb : 0 ≤ b ∧ b ≤ 3000) (hf : 0 ≤ fr ∧ fr ≤ 3000) :
    Calls Tryd.prog 27 #[v, .int .i64 b, .int .i64 fr] w fun e w' => ∃ u, e = .returned u ∧ IsT f (shf b fr 0 t) u w' ∧ Below w.heap.size w w' := by
  have := rshift_any w.heap.size f b fr t v 0 w h.tm (Nat.le_refl _) hb.1 (by omega) (by omega) (by have := hg.fuel; omega) hg.size hg.snd
  rw [Int.add_zero] at this
  exact this.mono (fun _ _ h => newT h)
theorem e_rtext {f : Nat} {t : Tr} {v : Value} {w : World} (h : IsT f t v w) (hs : Shp t) (hz : (txtT t).length ≤ 140737488355328) :
    Calls Tryd.prog 31 #[v] w fun e w' => e = .returned (.string ⟨⟨txtT t⟩⟩) ∧ Below w.heap.size w w' := by
  refine (rtext_any w.heap.size f t v w h.tm (Nat.le_refl _) hs hz).mono ?_
  rintro e w' ⟨s, rfl, hs, hb⟩
  exact ⟨by rw [← hs], hb⟩
theorem e_make {d f : Nat} {r : Tr} {v : Value} {vars : Int} {w : World} (h : IsT f r v w) (hd : d ≤ 10) (h0 : 0 ≤ vars) (h1 : vars ≤ 50) :
    Calls Tryd.prog 11 #[v, .int .i64 (d : Nat), .int .i64 vars] w fun e w' => ∃ u, e = .returned u ∧ IsT (d + 1) (mkT d vars r) u w' ∧ Below w.heap.size w w' := by
  refine (c_make (fun _ => False) (fun q h => h.elim) h.tm (Nat.le_refl _) hd h0 h1).mono ?_
  rintro e w' ⟨u, rfl, ⟨p0, p1, pa, pl, pc, rfl, ht⟩, hb⟩
  exact ⟨_, rfl, ⟨p0, p1, pa, pl, pc, rfl, ht.keep (fun _ _ => rfl) (fun q hq => hq.1) _ _ _⟩, hb⟩

set_option maxRecDepth 20000 in
set_option maxHeartbeats 1000000 in
theorem rsub_any (B f g : Nat) (t s : Tr) (v uv : Value) (n : Int) (w : World) (ht : TmAt w B f t v) (hs : TmAt w B g s uv) (hB : B ≤ w.heap.size) (hn : 0 ≤ n ∧ n ≤ 3000) (hgt : Gd f t) (hgs : Gd g s) :
    Calls Tryd.prog 29 #[v, .int .i64 n, uv] w (NewTm w (f + g) (sub n s 0 t)) := by
  have HT := hide ht; have HS := hide hs; have HG := hide hgt; have HH := hide hgs
  obtain ⟨a, cap, rfl, _, _, hop, hn'⟩ := ht.shape
  obtain ⟨sa, scap, rfl, _, _, hsop, hsn⟩ := hs.shape
  clear ht hs hgt hgs
  obtain ⟨hn0, hn1⟩ := hn
  obtain ⟨hx0, hx1, hx2, hx3⟩ := box3_facts w (.cells #[.int .i64 t.op, .int .i64 t.n, .slice a t.kids.length cap] 29) (.cells #[.int .i64 s.op, .int .i64 s.n, .slice sa s.kids.length scap] 29) (.cells #[.int .i64 0, .int .i64 0, .slice none 0 0] 29)
  obtain ⟨WW, hWW⟩ : ∃ WW, WW = ((w.alloc (.cells #[.int .i64 t.op, .int .i64 t.n, .slice a t.kids.length cap] 29)).alloc (.cells #[.int .i64 s.op, .int .i64 s.n, .slice sa s.kids.length scap] 29)).alloc (.cells #[.int .i64 0, .int .i64 0, .slice none 0 0] 29) := ⟨_, rfl⟩
  rw [← hWW] at hx0 hx1 hx2 hx3
  have HC : Hid (Calls Tryd.prog 50 #[.agg #[.int .i64 t.op, .int .i64 t.n, .slice a t.kids.length cap], .int .i64 n, .int .i64 0, .agg #[.int .i64 s.op, .int .i64 s.n, .slice sa s.kids.length scap]] WW (NewTm WW (f + g) (sub n s 0 t))) := hide (by
    have := rsubst_any B f g n s _ t _ 0 WW (TmAt.below HT.out hx3 hB (Nat.le_refl _)) (TmAt.below HS.out hx3 hB (Nat.le_refl _)) (by have := hx3.size; omega) hn0 (by omega) (by have := HG.out.fuel; omega) HH.out.fuel HG.out.size HH.out.size HG.out.snd HH.out.snd
    rw [Int.add_zero] at this
    exact this)
  have HX2 := hide hx2; have HX3 := hide hx3
  have hw2 := size_of_block hx2
  clear hx0 hx1 hx2 hx3
  go_enter Tryd.func29, Tryd.ntmps29
  go_wp2_with fail
  rw [← hWW]
  refine HC.out.mono ?_
  rintro e w2 ⟨p0, p1, pa, pl, pc, rfl, ht2, hb2⟩
  have k2 := (hb2.block _ hw2).trans HX2.out
  obtain ⟨y0, y1, y2⟩ := blk3 k2
  obtain ⟨z0, z1, z2⟩ := frz3 k2
  have HB2 : Hid (Below w.heap.size w w2) := HX3.out.trans (hb2.mono (by omega))
  have HT2 := hide ht2
  clear hb2 ht2 k2 hWW
  go_wp2_with fail
  refine bodyPost_ret (v := .agg #[.int .i64 p0, .int .i64 p1, .slice pa pl pc]) (by simp [results, Tryd.results29, go_sem, y0, y1, y2]) rfl ⟨_, _, _, _, _, rfl, tm_put3 HT2.out (by omega) (by omega), ?_⟩
  exact ((HB2.out.setCell (show w.heap.size ≤ w.heap.size + 2 by omega) _).setCell (show w.heap.size ≤ w.heap.size + 2 by omega) _).setCell (show w.heap.size ≤ w.heap.size + 2 by omega) _
theorem e_rsubst {f g : Nat} {t s : Tr} {v u : Value} {n : Int} {w : World} (h : IsT f t v w) (hs : IsT g s u w) (hg : Gd f t) (hgs : Gd g s) (hn : 0 ≤ n ∧ n ≤ 3000) :
    Calls Tryd.prog 29 #[v, .int .i64 n, u] w fun e w' => ∃ u, e = .returned u ∧ IsT (f + g) (sub n s 0 t) u w' ∧ Below w.heap.size w w' :=
  (rsub_any w.heap.size f g t s v u n w h.tm hs.tm (Nat.le_refl _) hn hg hgs).mono (fun _ _ h => newT h)
#print axioms e_rsubst
end Go.Proofs.YtpmaagafcpaajaaDoor
