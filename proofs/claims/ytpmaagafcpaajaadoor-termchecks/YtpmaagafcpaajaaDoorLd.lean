/- More of terms in regions; how many variables a term has. -/
import Derived.Test.YtpmaagafcpaajaaDoorLc
namespace Go.Proofs.YtpmaagafcpaajaaDoor
open Go.RowKit

theorem snd_shf' {t : Tr} {b fr c : Int} (hs : Snd c t) (hb : 0 ≤ b ∧ b ≤ 20000) (u : Int) : Snd (c + 20000) (shf b fr u t) := by
  induction t using Tr.ind generalizing u with
  | h t ih =>
    rw [shf_eq]
    refine Snd.mk (fun ho => ?_) (fun k hk => ?_)
    · simp only at ho ⊢
      obtain ⟨h1, h2, h3⟩ := hs.top ho
      rw [h1]
      refine ⟨by simp, ?_, ?_⟩ <;> split <;> omega
    · obtain ⟨i, hi, rfl⟩ := List.mem_mapIdx.1 hk
      exact ih _ (List.getElem_mem hi) (hs.kid (List.getElem_mem hi)) _
theorem IsM.t {f : Nat} {t : Tr} {v : Value} {w : World} {M : Nat → Prop} (h : IsM f t v w M) : IsT f t v w := by
  obtain ⟨p0, p1, pa, pl, pc, rfl, ht⟩ := h
  exact ⟨p0, p1, pa, pl, pc, rfl, ht.keep (fun _ _ => rfl) (fun q hq => hq.1) f _ _⟩
theorem IsM.old {f : Nat} {t : Tr} {p0 p1 : Int} {pa : Option Addr} {pl pc : Nat} {w0 w : World} {M : Nat → Prop} (h : TmAt w0 w0.heap.size f t (.agg #[.int .i64 p0, .int .i64 p1, .slice pa pl pc])) (hb : Below w0.heap.size w0 w) (hM : ∀ q, M q → w0.heap.size ≤ q ∧ q < w.heap.size) : IsM f t (.agg #[.int .i64 p0, .int .i64 p1, .slice pa pl pc]) w M := by
  refine ⟨p0, p1, pa, pl, pc, rfl, TmD.keep (w := w0) (fun q hq => hb.block q hq) (fun q hq => ⟨Nat.lt_of_lt_of_le hq hb.size, fun h => ?_⟩) f _ _ h⟩
  have := (hM q h).1
  omega
theorem newM {w w' : World} {f : Nat} {t : Tr} {e : Ending} {M : Nat → Prop} (hM : ∀ q, M q → q < w.heap.size) (h : NewTm w f t e w') : ∃ u, e = .returned u ∧ IsM f t u w' M ∧ Below w.heap.size w w' := by
  obtain ⟨p0, p1, pa, pl, pc, rfl, ht, hb⟩ := h
  refine ⟨_, rfl, ⟨p0, p1, pa, pl, pc, rfl, ht.keep (fun _ _ => rfl) (fun q hq => ⟨hq.2, fun h => ?_⟩) _ _ _⟩, hb⟩
  have := hM q h
  have := hq.1
  omega
theorem c_shiftM {f : Nat} {t : Tr} {v : Value} {b fr : Int} {w : World} {M : Nat → Prop} (hM : ∀ q, M q → q < w.heap.size) (h : IsM f t v w M) (hg : Gd f t) (ht : Tb w) (hb : 0 ≤ b ∧ b ≤ 3000) (hf : 0 ≤ fr ∧ fr ≤ 3000) :
    Calls Tryd.prog 26 #[v, .int .i64 b, .int .i64 fr] w fun e w' => ∃ u, e = .returned u ∧ IsM f (shf b fr 0 t) u w' M ∧ Below w.heap.size w w' :=
  (tshift_any w.heap.size f t v b fr w h.t.tm (Nat.le_refl _) ht ht.size hg.size hg.fuel hg.snd hb hf).mono (fun _ _ h => newM hM h)
theorem c_substM {f g : Nat} {t s : Tr} {v u : Value} {n : Int} {w : World} {M : Nat → Prop} (hM : ∀ q, M q → q < w.heap.size) (h : IsM f t v w M) (hs : IsM g s u w M) (hg : Gd f t) (hgs : Gd g s) (ht : Tb w) (hz : t.size + s.size * cnt (fun x => decide (x = n)) 0 t ≤ 8388608) (hn : 0 ≤ n) :
    Calls Tryd.prog 28 #[v, .int .i64 n, u] w fun e w' => ∃ u, e = .returned u ∧ IsM (f + g) (sub n s 0 t) u w' M ∧ Below w.heap.size w w' :=
  (tsubst_any w.heap.size f g t s v u n w h.t.tm hs.t.tm (Nat.le_refl _) ht ht.size hg.fuel hgs.fuel hg.snd hgs.snd hz hgs.size hn).mono (fun _ _ h => newM hM h)

/-- How many variables a term has. -/
def Tr.lvs : Tr → Nat
  | ⟨o, _, ks⟩ => (if o = 1 then 1 else 0) + (ks.map Tr.lvs).sum
theorem Tr.lvs_eq (t : Tr) : t.lvs = (if t.op = 1 then 1 else 0) + (t.kids.map Tr.lvs).sum := by cases t; rw [Tr.lvs]
theorem sum_mapIdx_le {ks : List Tr} {f : Nat → Tr → Nat} {g : Tr → Nat} {m : Nat} (h : ∀ (i : Nat) (hi : i < ks.length), f i ks[i] ≤ g ks[i] * m) : (ks.mapIdx f).sum ≤ (ks.map g).sum * m := by
  induction ks generalizing f with
  | nil => simp
  | cons x ks ih =>
    have h0 := h 0 (by simp)
    have h1 := ih (f := fun i => f (i + 1)) (fun i hi => by have := h (i + 1) (by simpa using hi); simpa using this)
    simp only [List.mapIdx_cons, List.map_cons, List.sum_cons, Nat.add_mul]
    simp only [List.getElem_cons_zero] at h0
    omega
theorem map_mapIdx_eq {ks : List Tr} {f : Nat → Tr → Tr} (g : Tr → Nat) : (ks.mapIdx f).map g = ks.mapIdx (fun i x => g (f i x)) := by
  apply List.ext_getElem
  · simp
  · intro i h1 h2; simp
theorem lvs_shf (b fr u : Int) (t : Tr) : (shf b fr u t).lvs = t.lvs := by
  induction t using Tr.ind generalizing u with
  | h t ih =>
    rw [shf_eq, Tr.lvs_eq, Tr.lvs_eq t]
    simp only
    congr 2
    apply List.ext_getElem
    · simp
    · intro i h1 h2
      simp only [List.getElem_map, List.getElem_mapIdx]
      exact ih _ (List.getElem_mem _) _
theorem lvs_sub (n : Int) (s : Tr) (u : Int) (t : Tr) {b : Int} (hs : Snd b t) {m : Nat} (hm : 1 ≤ m) (hsm : s.lvs ≤ m) : (sub n s u t).lvs ≤ t.lvs * m := by
  induction t using Tr.ind generalizing u with
  | h t ih =>
    by_cases ho : t.op = 1
    · have hk := (hs.top ho).1
      have h1 : t.lvs = 1 := by rw [Tr.lvs_eq, if_pos ho, hk]; simp
      rw [sub_var _ _ _ ho, h1]
      split
      · rw [lvs_shf]; omega
      · split
        · rw [Tr.lvs_eq]; simp; omega
        · omega
    · rw [sub_non _ _ _ ho, Tr.lvs_eq, Tr.lvs_eq t, if_neg (by exact ho), Nat.zero_add, Nat.zero_add]
      simp only
      rw [map_mapIdx_eq]
      exact sum_mapIdx_le (fun i hi => ih _ (List.getElem_mem hi) _ (hs.kid (List.getElem_mem hi)))
theorem sum_mapIdx_le2 {ks : List Tr} {f : Nat → Tr → Nat} {g h : Tr → Nat} {m : Nat} (H : ∀ (i : Nat) (hi : i < ks.length), f i ks[i] ≤ h ks[i] + g ks[i] * m) : (ks.mapIdx f).sum ≤ (ks.map h).sum + (ks.map g).sum * m := by
  induction ks generalizing f with
  | nil => simp
  | cons x ks ih =>
    have h0 := H 0 (by simp)
    have h1 := ih (f := fun i => f (i + 1)) (fun i hi => by have := H (i + 1) (by simpa using hi); simpa using this)
    simp only [List.mapIdx_cons, List.map_cons, List.sum_cons, Nat.add_mul]
    simp only [List.getElem_cons_zero] at h0
    omega
theorem size_sub_le (n : Int) (s : Tr) (u : Int) (t : Tr) {b : Int} (hs : Snd b t) : (sub n s u t).size ≤ t.size + t.lvs * s.size := by
  induction t using Tr.ind generalizing u with
  | h t ih =>
    by_cases ho : t.op = 1
    · have hk := (hs.top ho).1
      have h1 : t.lvs = 1 := by rw [Tr.lvs_eq, if_pos ho, hk]; simp
      have h2 : t.size = 1 := by rw [Tr.size_eq, hk]; simp
      rw [sub_var _ _ _ ho, h1, h2]
      split
      · rw [shf_size]; omega
      · split
        · rw [Tr.size_eq]; simp
        · omega
    · rw [sub_non _ _ _ ho, Tr.size_eq, Tr.size_eq t, Tr.lvs_eq, if_neg ho, Nat.zero_add]
      simp only
      rw [map_mapIdx_eq]
      have := sum_mapIdx_le2 (ks := t.kids) (f := fun i x => (sub n s (u + (bnd t.op ((i : Nat) : Int) : Nat)) x).size) (g := Tr.lvs) (h := Tr.size) (m := s.size) (fun i hi => ih _ (List.getElem_mem hi) _ (hs.kid (List.getElem_mem hi)))
      omega
theorem cnt_lvs (p : Int → Bool) (u : Int) (t : Tr) : cnt p u t ≤ t.lvs := by
  induction t using Tr.ind generalizing u with
  | h t ih =>
    rw [cnt_eq, Tr.lvs_eq]
    have := sum_mapIdx_le (ks := t.kids) (f := fun j k => cnt p (u + (bnd t.op ((j : Nat) : Int) : Nat)) k) (g := Tr.lvs) (m := 1) (fun i hi => by rw [Nat.mul_one]; exact ih _ (List.getElem_mem hi) _)
    rw [Nat.mul_one] at this
    refine Nat.add_le_add ?_ this
    split
    · rename_i h; rw [if_pos h.1]; omega
    · omega
theorem mk_lvs (d : Nat) : ∀ (vars : Int) (r : Tr), (mkT d vars r).lvs ≤ 4 ^ d := by
  induction d with
  | zero => intro vars r; rw [mkT, Tr.lvs_eq]; simp only [List.map_nil, List.sum_nil]; split <;> simp
  | succ d ih =>
    intro vars r
    rw [mkT_eq, Tr.lvs_eq]
    simp only
    have h1 := sum_le_mul ((mkKs (d + 1) vars r (ar (mkOp (d + 1) r))).map Tr.lvs) (4 ^ d) (fun x hx => by
      obtain ⟨t, ht, rfl⟩ := List.mem_map.1 hx
      obtain ⟨d', i, hd, _, rfl⟩ := mkKs_mem ht
      have : d = d' := by omega
      subst this
      exact ih _ _)
    rw [List.length_map, mkKs_len] at h1
    by_cases ho : mkOp (d + 1) r = 1
    · rw [ho] at h1 ⊢
      have : ar 1 = 0 := by decide
      rw [this, Nat.zero_mul] at h1
      have h4 : 1 ≤ 4 ^ (d + 1) := Nat.pow_pos (by decide)
      rw [if_pos rfl, this]
      omega
    · rw [if_neg ho]
      have h2 := Nat.mul_le_mul_right (4 ^ d) (ar_le (mkOp (d + 1) r))
      rw [Nat.pow_succ, Nat.mul_comm _ 4]
      omega
theorem fit_lvs {t s : Tr} {p : Int → Bool} {a b c : Nat} (ha : t.size ≤ a) (hl : t.lvs ≤ c) (hb : s.size ≤ b) (h : a + b * c ≤ 8388608) : t.size + s.size * cnt p 0 t ≤ 8388608 := by
  have h1 := cnt_lvs p 0 t
  have h2 := Nat.mul_le_mul hb (Nat.le_trans h1 hl)
  omega
theorem snd_sub {n u b c : Int} {s t : Tr} (hn : 0 ≤ n) (hu : 0 ≤ u) (hs : Snd b s) (ht : Snd c t) (hd : u + 2 * t.size ≤ 20000) : Snd (max c (b + 20000)) (sub n s u t) := by
  induction t using Tr.ind generalizing u with
  | h t ih =>
    by_cases ho : t.op = 1
    · obtain ⟨hk, h0, h1⟩ := ht.top ho
      rw [sub_var _ _ _ ho]
      have hz := t.size_pos
      split
      · exact (snd_shf' hs ⟨hu, by omega⟩ 0).more (by omega)
      · split
        · exact Snd.mk (fun _ => ⟨rfl, by simp only; omega, by simp only; omega⟩) (fun k hk => by cases hk)
        · exact ht.more (by omega)
    · rw [sub_non _ _ _ ho]
      refine Snd.mk (fun h => absurd h ho) (fun k hk => ?_)
      obtain ⟨i, hi, rfl⟩ := List.mem_mapIdx.1 hk
      have h1 := Tr.kid_size (List.getElem_mem hi)
      have h2 := bnd_le t.op ((i : Nat) : Int)
      exact ih _ (List.getElem_mem hi) (by omega) (ht.kid (List.getElem_mem hi)) (by omega)
#print axioms mk_lvs
#print axioms snd_sub
end Go.Proofs.YtpmaagafcpaajaaDoor
