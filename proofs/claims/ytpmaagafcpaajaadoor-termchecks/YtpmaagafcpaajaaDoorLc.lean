/- Terms as values in regions: what stays; the contracts in that form. -/
import Derived.Test.YtpmaagafcpaajaaDoorBx
import Derived.Test.YtpmaagafcpaajaaDoorMk
import Derived.Test.YtpmaagafcpaajaaDoorTu
import Derived.Test.YtpmaagafcpaajaaDoorFr
import Derived.Test.YtpmaagafcpaajaaDoorSm
import Derived.Test.YtpmaagafcpaajaaDoorWv
namespace Go.Proofs.YtpmaagafcpaajaaDoor
open Go.RowKit

/-- A term lies in a value, anywhere. -/
def IsT (f : Nat) (t : Tr) (v : Value) (w : World) : Prop := ∃ p0 p1 pa pl pc, v = .agg #[.int .i64 p0, .int .i64 p1, .slice pa pl pc] ∧ TmAt w w.heap.size f t (.agg #[.int .i64 p0, .int .i64 p1, .slice pa pl pc])
theorem IsT.keep {f : Nat} {t : Tr} {v : Value} {w w' : World} (h : IsT f t v w) (hb : Below w.heap.size w w') : IsT f t v w' := by
  obtain ⟨p0, p1, pa, pl, pc, rfl, ht⟩ := h
  exact ⟨p0, p1, pa, pl, pc, rfl, TmAt.below ht hb (Nat.le_refl _) hb.size⟩
theorem IsT.tm {f : Nat} {t : Tr} {v : Value} {w : World} (h : IsT f t v w) : TmAt w w.heap.size f t v := by
  obtain ⟨p0, p1, pa, pl, pc, rfl, ht⟩ := h
  exact ht
theorem IsT.of {f : Nat} {t : Tr} {v : Value} {w : World} (h : TmAt w w.heap.size f t v) : IsT f t v w := by
  obtain ⟨a, cap, rfl, _⟩ := h.shape
  exact ⟨_, _, _, _, _, rfl, h⟩
/-- .. outside the boxes. -/
def IsM (f : Nat) (t : Tr) (v : Value) (w : World) (M : Nat → Prop) : Prop := ∃ p0 p1 pa pl pc, v = .agg #[.int .i64 p0, .int .i64 p1, .slice pa pl pc] ∧ TmD w (fun q => q < w.heap.size ∧ ¬ M q) f t (.agg #[.int .i64 p0, .int .i64 p1, .slice pa pl pc])
theorem IsM.keep {f : Nat} {t : Tr} {v : Value} {w w' : World} {M M' : Nat → Prop} (h : IsM f t v w M) (hf : Fr M w w') (hM : ∀ q, q < w.heap.size → (M' q ↔ M q)) : IsM f t v w' M' := by
  obtain ⟨p0, p1, pa, pl, pc, rfl, ht⟩ := h
  refine ⟨p0, p1, pa, pl, pc, rfl, ht.keep (fun q hq => hf.block q hq.1 hq.2) (fun q hq => ⟨Nat.lt_of_lt_of_le hq.1 hf.size, fun h => hq.2 ((hM q hq.1).1 h)⟩) f _ _⟩
theorem IsM.box {f : Nat} {t : Tr} {v : Value} {w : World} {M : Nat → Prop} {cs : Array Value} (h : IsM f t v w M) (he : v = .agg cs) : ∃ p0 p1 pa pl pc, cs = #[.int .i64 p0, .int .i64 p1, .slice pa pl pc] ∧ TmAt w w.heap.size f t (.agg #[.int .i64 p0, .int .i64 p1, .slice pa pl pc]) := by
  obtain ⟨p0, p1, pa, pl, pc, rfl, ht⟩ := h
  exact ⟨p0, p1, pa, pl, pc, by simpa using he.symm, ht.keep (fun _ _ => rfl) (fun q hq => hq.1) f _ _⟩

/-- A term that may be handed to every function. -/
structure Gd (f : Nat) (t : Tr) : Prop where
  size : t.size ≤ 8388608
  fuel : f ≤ 200000
  snd : Snd 1000000000 t

theorem c_make {d B f : Nat} {r : Tr} {v : Value} {vars : Int} {w : World} (M : Nat → Prop) (hM : ∀ q, M q → q < w.heap.size) (h : TmAt w B f r v) (hB : B ≤ w.heap.size) (hd : d ≤ 10) (h0 : 0 ≤ vars) (h1 : vars ≤ 50) :
    Calls Tryd.prog 11 #[v, .int .i64 (d : Nat), .int .i64 vars] w fun e w' => ∃ u, e = .returned u ∧ IsM (d + 1) (mkT d vars r) u w' M ∧ Below w.heap.size w w' := by
  refine (make_any d B f r v (d : Nat) vars w h hB rfl (by omega) h0 (by omega)).mono ?_
  rintro e w' ⟨p0, p1, pa, pl, pc, rfl, ht, hb⟩
  refine ⟨_, rfl, ⟨p0, p1, pa, pl, pc, rfl, ht.keep (fun _ _ => rfl) (fun q hq => ⟨hq.2, fun h => ?_⟩) _ _ _⟩, hb⟩
  have := hM q h
  have := hq.1
  omega

theorem newT {w w' : World} {f : Nat} {t : Tr} {e : Ending} (h : NewTm w f t e w') : ∃ u, e = .returned u ∧ IsT f t u w' ∧ Below w.heap.size w w' := by
  obtain ⟨p0, p1, pa, pl, pc, rfl, ht, hb⟩ := h
  exact ⟨_, rfl, ⟨p0, p1, pa, pl, pc, rfl, ht.keep (fun _ _ => rfl) (fun q hq => hq.2) _ _ _⟩, hb⟩
theorem c_shift {f : Nat} {t : Tr} {v : Value} {b fr : Int} {w : World} (h : IsT f t v w) (hg : Gd f t) (ht : Tb w) (hb : 0 ≤ b ∧ b ≤ 3000) (hf : 0 ≤ fr ∧ fr ≤ 3000) :
    Calls Tryd.prog 26 #[v, .int .i64 b, .int .i64 fr] w fun e w' => ∃ u, e = .returned u ∧ IsT f (shf b fr 0 t) u w' ∧ Below w.heap.size w w' :=
  (tshift_any w.heap.size f t v b fr w h.tm (Nat.le_refl _) ht ht.size hg.size hg.fuel hg.snd hb hf).mono (fun _ _ h => newT h)
theorem c_subst {f g : Nat} {t s : Tr} {v u : Value} {n : Int} {w : World} (h : IsT f t v w) (hs : IsT g s u w) (hg : Gd f t) (hgs : Gd g s) (ht : Tb w) (hz : t.size + s.size * cnt (fun x => decide (x = n)) 0 t ≤ 8388608) (hn : 0 ≤ n) :
    Calls Tryd.prog 28 #[v, .int .i64 n, u] w fun e w' => ∃ u, e = .returned u ∧ IsT (f + g) (sub n s 0 t) u w' ∧ Below w.heap.size w w' :=
  (tsubst_any w.heap.size f g t s v u n w h.tm hs.tm (Nat.le_refl _) ht ht.size hg.fuel hgs.fuel hg.snd hgs.snd hz hgs.size hn).mono (fun _ _ h => newT h)
theorem c_free {f : Nat} {t : Tr} {v : Value} {n : Int} {w : World} (h : IsT f t v w) (hg : Gd f t) (ht : Tb w) (hn : 0 ≤ n) :
    Calls Tryd.prog 21 #[v, .int .i64 n] w fun e w' => e = .returned (.bool (fre n 0 t)) ∧ Below w.heap.size w w' :=
  tfree_any w.heap.size f t v n w h.tm (Nat.le_refl _) ht ht.size hg.size hg.fuel hg.snd hn
theorem c_below {f : Nat} {t : Tr} {v : Value} {n : Int} {w : World} (h : IsT f t v w) (hg : Gd f t) (ht : Tb w) (hn : 0 ≤ n) :
    Calls Tryd.prog 23 #[v, .int .i64 n] w fun e w' => e = .returned (.bool (bel n 0 t)) ∧ Below w.heap.size w w' :=
  tbelow_any w.heap.size f t v n w h.tm (Nat.le_refl _) ht ht.size hg.size hg.fuel hg.snd hn
theorem c_same {f g : Nat} {t s : Tr} {v u : Value} {w : World} (h : IsT f t v w) (hs : IsT g s u w) :
    Calls Tryd.prog 25 #[v, u] w fun e w' => ∃ r, e = .returned (.bool r) ∧ (r = true ↔ t = s) ∧ Below w.heap.size w w' :=
  same_any w.heap.size (max f g) t s v u w (TmAt.more h.tm (Nat.le_max_left _ _)) (TmAt.more hs.tm (Nat.le_max_right _ _)) (Nat.le_refl _)
theorem c_size {f : Nat} {t : Tr} {v : Value} {w : World} (h : IsT f t v w) (hg : Gd f t) :
    Calls Tryd.prog 20 #[v] w fun e w' => e = .returned (.int .i64 (t.size : Nat)) ∧ Below w.heap.size w w' :=
  tsize_any w.heap.size f t v w h.tm (Nat.le_refl _) hg.size hg.fuel

theorem snd_shf {t : Tr} {b fr c : Int} (hs : Snd c t) (hb : 0 ≤ b ∧ b ≤ 3000) (u : Int) : Snd (c + 3000) (shf b fr u t) := by
  induction t using Tr.ind generalizing u with
  | h t ih =>
    rw [shf_eq]
    refine Snd.mk (fun ho => ?_) (fun k hk => ?_)
    · simp only at ho ⊢
      obtain ⟨h1, h2, h3⟩ := hs.top ho
      rw [h1]
      refine ⟨by simp, ?_, ?_⟩ <;> split <;> omega
    · obtain ⟨i, hi, rfl⟩ := List.mem_mapIdx.1 hk
      exact ih _ (List.getElem_mem hi) (hs.kid (List.getElem_mem hi)) _
theorem Gd.shf {f : Nat} {t : Tr} {b fr : Int} (h : Gd f t) (hs : Snd 100000000 t) (hb : 0 ≤ b ∧ b ≤ 3000) (u : Int) : Gd f (shf b fr u t) := ⟨by rw [shf_size]; exact h.size, h.fuel, (snd_shf hs hb u).more (by omega)⟩
theorem Gd.mk' {d : Nat} {vars : Int} {r : Tr} (hr : Raw64 r) (hd : d ≤ 6) (h0 : 0 ≤ vars) (h1 : vars ≤ 50) : Gd (d + 1) (mkT d vars r) ∧ Shp (mkT d vars r) ∧ (mkT d vars r).size ≤ most d := by
  have hs := mk_shp d vars r h0 (by omega) hr
  have hz := mk_size d vars r
  have hm : most d ≤ most 6 := by
    match d, hd with
    | 0, _ => decide
    | 1, _ => decide
    | 2, _ => decide
    | 3, _ => decide
    | 4, _ => decide
    | 5, _ => decide
    | 6, _ => decide
  have h6 : most 6 = 5461 := by decide
  exact ⟨⟨by omega, by omega, hs.snd.more (by omega)⟩, hs, hz⟩
theorem raw64_of {w : World} {D : Nat → Prop} {f : Nat} : ∀ {t : Tr} {v : Value}, TmD w D f t v → Raw64 t := by
  induction f with
  | zero => intro t v h; exact h.elim
  | succ f ih =>
    rintro t v ⟨a, cap, rfl, h1, h2, h3⟩
    intro x hx
    rw [Tr.pre_eq, List.mem_cons] at hx
    rcases hx with rfl | hx
    · exact h2
    · obtain ⟨l, hl, hx⟩ := List.mem_flatten.1 hx
      obtain ⟨k, hk, rfl⟩ := List.mem_map.1 hl
      obtain ⟨i, hi, rfl⟩ := List.getElem_of_mem hk
      obtain ⟨b, off, _, _, hrow⟩ := h3.2.2 (by intro e; rw [e] at hi; simp at hi)
      obtain ⟨x0, x1, x2, _, _, _, hr⟩ := hrow i hi
      exact ih hr x hx
set_option maxHeartbeats 400000 in
theorem lwithin_n (a n : Int) (w : World) (hn : 0 < n) (hn2 : n ≤ 1000000) :
    Calls Tryd.prog 13 #[.int .i64 a, .int .i64 n] w fun e w' => e = .returned (.int .i64 (wi a n)) ∧ w' = w := by
  have h := tmodn a n hn
  have h0 : (n == 0) = false := beq_eq_false_iff_ne.2 (by omega)
  by_cases hlt : a.tmod n < 0
  · go_enter Tryd.func13, Tryd.ntmps13
    go_wp2
    go_ret
    exact ⟨ret_int (by rw [wi, if_pos hlt]), rfl⟩
  · go_enter Tryd.func13, Tryd.ntmps13
    go_wp2
    go_ret
    exact ⟨ret_int (by rw [wi, if_neg (by omega)]), rfl⟩
/-- How much greater a term may get by a substitution. -/
theorem fit_le {t s : Tr} {p : Int → Bool} {a b : Nat} (ha : t.size ≤ a) (hb : s.size ≤ b) (h : a + b * a ≤ 8388608) : t.size + s.size * cnt p 0 t ≤ 8388608 := by
  have h1 := cnt_size p t 0
  have h2 := Nat.mul_le_mul hb (Nat.le_trans h1 ha)
  omega
theorem cells3'  {w0 wx : World} {b : Nat} {x y z : Value} {T : TypeId} {fr : Nat × Nat} (hb : Below w0.heap.size w0 wx) (h : w0.heap[b]? = some (.cells #[x, y, z] T fr)) : wx.cell? ⟨b, 0, none⟩ = some x ∧ wx.cell? ⟨b, 1, none⟩ = some y ∧ wx.cell? ⟨b, 2, none⟩ = some z :=
  blk3 ((hb.block b (size_of_block h)).trans h)
theorem fr_put3 (w : World) (q : Nat) (x y z : Value) : Fr (fun k => k = q) w (((w.setCell ⟨q, 0, none⟩ x).setCell ⟨q, 1, none⟩ y).setCell ⟨q, 2, none⟩ z) :=
  (((Fr.refl (fun k => k = q) w).setCell (p := ⟨q, 0, none⟩) rfl x).setCell (p := ⟨q, 1, none⟩) rfl y).setCell (p := ⟨q, 2, none⟩) rfl z
theorem put3_blk {w : World} {q : Nat} {a b c : Value} {T : TypeId} (h : w.heap[q]? = some (.cells #[a, b, c] T (0, 0))) (x y z : Value) : (((w.setCell ⟨q, 0, none⟩ x).setCell ⟨q, 1, none⟩ y).setCell ⟨q, 2, none⟩ z).heap[q]? = some (.cells #[x, y, z] T (0, 0)) := by
  rw [heap_setCell_same _ _ _ _ _ _ (heap_setCell_same _ _ _ _ _ _ (heap_setCell_same _ _ _ _ _ _ h))]
  rfl
#print axioms c_make
#print axioms Gd.shf
end Go.Proofs.YtpmaagafcpaajaaDoor
