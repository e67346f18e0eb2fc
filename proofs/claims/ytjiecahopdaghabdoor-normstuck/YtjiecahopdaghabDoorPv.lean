/- Laws of shifts and substitutions, of trees alone. -/
import Derived.Test.YtjiecahopdaghabDoorPu
namespace Go.Proofs.YtjiecahopdaghabDoor
open Go.RowKit

theorem mapIdx_ext {α β : Type} (ks : List α) (f g : Nat → α → β) (h : ∀ (i : Nat) (hi : i < ks.length), f i ks[i] = g i ks[i]) : ks.mapIdx f = ks.mapIdx g := by
  apply List.ext_getElem
  · simp
  · intro i h1 h2
    simp only [List.getElem_mapIdx]
    exact h i (by simpa using h1)
theorem mapIdx_id' {α : Type} (ks : List α) (f : Nat → α → α) (h : ∀ (i : Nat) (hi : i < ks.length), f i ks[i] = ks[i]) : ks.mapIdx f = ks := by
  apply List.ext_getElem
  · simp
  · intro i h1 h2
    simp only [List.getElem_mapIdx]
    exact h i (by simpa using h1)
theorem Tr.eta (t : Tr) : (⟨t.op, t.n, t.kids⟩ : Tr) = t := by cases t; rfl
theorem Tr.mk_congr {o o' n n' : Int} {k k' : List Tr} (h1 : o = o') (h2 : n = n') (h3 : k = k') : (⟨o, n, k⟩ : Tr) = ⟨o', n', k'⟩ := by subst h1 h2 h3; rfl

/-- Shifts: only the number at which they begin counts. -/
theorem shf_at (b fr fr' u u' : Int) (t : Tr) : fr + u = fr' + u' → shf b fr u t = shf b fr' u' t := by
  induction t using Tr.ind generalizing u u' with
  | h t ih =>
    intro h
    rw [shf_eq, shf_eq b fr']
    refine Tr.mk_congr rfl (by rw [h]) (mapIdx_ext _ _ _ (fun i hi => ih _ (List.getElem_mem hi) _ _ (by omega)))

theorem shf_zero (fr u : Int) (t : Tr) : shf 0 fr u t = t := by
  induction t using Tr.ind generalizing u with
  | h t ih =>
    rw [shf_eq]
    rw [mapIdx_id' _ _ (fun i hi => ih _ (List.getElem_mem hi) _)]
    split <;> simp [Tr.eta]

/-- Two shifts, the second one beginning within the first one's room. -/
theorem shf_shf (a b fr fr' u : Int) (t : Tr) (_ : 0 ≤ a) (h1 : fr ≤ fr') (h2 : fr' ≤ fr + a) : shf b fr' u (shf a fr u t) = shf (a + b) fr u t := by
  induction t using Tr.ind generalizing u with
  | h t ih =>
    rw [shf_eq a, shf_eq b, shf_eq (a + b)]
    simp only
    refine Tr.mk_congr rfl ?_ ?_
    · repeat' split
      all_goals omega
    · rw [List.mapIdx_mapIdx]
      exact mapIdx_ext _ _ _ (fun i hi => ih _ (List.getElem_mem hi) _)

theorem shf_op (b fr u : Int) (t : Tr) : (shf b fr u t).op = t.op := by rw [shf_eq]
theorem shf_len (b fr u : Int) (t : Tr) : (shf b fr u t).kids.length = t.kids.length := by rw [shf_eq]; simp

theorem size_mapIdx {ks : List Tr} {f : Nat → Tr → Tr} (h : ∀ (i : Nat) (hi : i < ks.length), (f i ks[i]).size = ks[i].size) : ((ks.mapIdx f).map Tr.size).sum = (ks.map Tr.size).sum := by
  congr 1
  apply List.ext_getElem
  · simp
  · intro i h1 h2
    simp only [List.getElem_map, List.getElem_mapIdx]
    exact h i (by simpa using h1)

theorem shf_size (b fr u : Int) (t : Tr) : (shf b fr u t).size = t.size := by
  induction t using Tr.ind generalizing u with
  | h t ih =>
    rw [shf_eq, Tr.size_eq, Tr.size_eq t]
    simp only
    rw [size_mapIdx (fun i hi => ih _ (List.getElem_mem hi) _)]

/-- Substitutions: what is put in may have been shifted ahead. -/
theorem sub_at (n n' : Int) (s : Tr) (u u' : Int) (t : Tr) (c : Int) (hc : 0 ≤ c) (hu : 0 ≤ u') : n + u = n' + u' → u = u' + c → sub n s u t = sub n' (shf c 0 0 s) u' t := by
  induction t using Tr.ind generalizing u u' with
  | h t ih =>
    intro h1 h2
    rw [sub_eq, sub_eq n']
    rw [h1]
    split
    · split
      · rw [shf_shf c u' 0 0 0 s hc (Int.le_refl _) (by omega), h2, Int.add_comm c u']
      · rfl
    · exact Tr.mk_congr rfl rfl (mapIdx_ext _ _ _ (fun i hi => ih _ (List.getElem_mem hi) _ _ (by omega) (by omega) (by omega)))

/-- What is made room for is taken away. -/
theorem var_eta {t : Tr} (ho : t.op = 1) (hk : t.kids = []) : (⟨1, t.n, []⟩ : Tr) = t := by cases t; simp at ho hk; subst ho hk; rfl
theorem shf_var (b fr u : Int) {t : Tr} (ho : t.op = 1) (hk : t.kids = []) : shf b fr u t = ⟨1, if fr + u ≤ t.n then t.n + b else t.n, []⟩ := by
  rw [shf_eq, hk, ho]; simp
theorem shf_non (b fr u : Int) {t : Tr} (ho : ¬ t.op = 1) : shf b fr u t = ⟨t.op, t.n, t.kids.mapIdx (fun j k => shf b fr (u + (bnd t.op ((j : Nat) : Int) : Nat)) k)⟩ := by
  rw [shf_eq, if_neg (fun h => ho h.1)]
theorem sub_var (n : Int) (s : Tr) (u : Int) {t : Tr} (ho : t.op = 1) : sub n s u t = if t.n = n + u then shf u 0 0 s else if n + u < t.n then ⟨1, t.n - 1, []⟩ else t := by
  rw [sub_eq, if_pos ho]
theorem sub_non (n : Int) (s : Tr) (u : Int) {t : Tr} (ho : ¬ t.op = 1) : sub n s u t = ⟨t.op, t.n, t.kids.mapIdx (fun j k => sub n s (u + (bnd t.op ((j : Nat) : Int) : Nat)) k)⟩ := by
  rw [sub_eq, if_neg ho]
theorem sub_shf (fr : Int) (s : Tr) (u : Int) (t : Tr) {b : Int} (hs : Snd b t) : sub fr s u (shf 1 fr u t) = t := by
  induction t using Tr.ind generalizing u with
  | h t ih =>
    by_cases ho : t.op = 1
    · obtain ⟨hk, h0, h1⟩ := hs.top ho
      rw [shf_var _ _ _ ho hk, sub_var _ _ _ rfl]
      simp only
      by_cases hn : fr + u ≤ t.n
      · rw [if_pos hn, if_neg (by omega), if_pos (by omega), show t.n + 1 - 1 = t.n by omega]
        exact var_eta ho hk
      · rw [if_neg hn, if_neg (by omega), if_neg (by omega)]
        exact var_eta ho hk
    · rw [shf_non _ _ _ ho, sub_non _ _ _ (by exact ho)]
      simp only
      rw [List.mapIdx_mapIdx, mapIdx_id' _ _ (fun i hi => ih _ (List.getElem_mem hi) _ (hs.kid (List.getElem_mem hi))), Tr.eta]

theorem any_mapIdx {ks : List Tr} {f : Nat → Tr → Bool} : (ks.mapIdx f).any id = true ↔ ∃ (i : Nat) (h : i < ks.length), f i ks[i] = true := by
  rw [List.any_eq_true]
  constructor
  · rintro ⟨x, hx, h⟩
    obtain ⟨i, hi, rfl⟩ := List.mem_mapIdx.1 hx
    exact ⟨i, hi, h⟩
  · rintro ⟨i, hi, h⟩
    exact ⟨_, List.mem_mapIdx.2 ⟨i, hi, rfl⟩, h⟩
theorem all_mapIdx {ks : List Tr} {f : Nat → Tr → Bool} : (ks.mapIdx f).all id = true ↔ ∀ (i : Nat) (h : i < ks.length), f i ks[i] = true := by
  rw [List.all_eq_true]
  constructor
  · intro h i hi
    exact h _ (List.mem_mapIdx.2 ⟨i, hi, rfl⟩)
  · intro h x hx
    obtain ⟨i, hi, rfl⟩ := List.mem_mapIdx.1 hx
    exact h i hi

/-- What a shift left out is not free. -/
theorem fre_shf (fr u : Int) (t : Tr) : fre fr u (shf 1 fr u t) = false := by
  induction t using Tr.ind generalizing u with
  | h t ih =>
    rw [shf_eq, fre_eq]
    simp only
    split
    · rename_i ho
      apply decide_eq_false
      by_cases hn : fr + u ≤ t.n
      · rw [if_pos ⟨ho, hn⟩]; omega
      · rw [if_neg (fun h => hn h.2)]; omega
    · apply Bool.eq_false_iff.2
      intro h
      rw [List.mapIdx_mapIdx] at h
      obtain ⟨i, hi, h⟩ := any_mapIdx.1 h
      simp only [Function.comp] at h
      rw [ih _ (List.getElem_mem hi)] at h
      cases h

/-- A free variable of what is shifted. -/
theorem fre_shift (n c u : Int) (t : Tr) (hn : 0 ≤ n) (hc : 0 ≤ c) : fre n (c + u) (shf c 0 u t) = fre n u t := by
  induction t using Tr.ind generalizing u with
  | h t ih =>
    rw [shf_eq, fre_eq, fre_eq n u t]
    simp only
    split
    · rename_i ho
      simp only [ho, true_and]
      split <;> simp only [decide_eq_decide] <;> omega
    · congr 1
      rw [List.mapIdx_mapIdx]
      refine mapIdx_ext _ _ _ (fun i hi => ?_)
      simp only [Function.comp]
      rw [Int.add_assoc]
      exact ih _ (List.getElem_mem hi) _

/-- The free variables of what is put in. -/
theorem fre_sub (i : Int) (s : Tr) (u : Int) (t : Tr) (hi : 0 ≤ i) (hu : 0 ≤ u) : fre i u (sub 0 s u t) = (fre (i + 1) u t || fre 0 u t && fre i 0 s) := by
  induction t using Tr.ind generalizing u with
  | h t ih =>
    by_cases ho : t.op = 1
    · rw [sub_var _ _ _ ho, fre_eq (i + 1) u t, fre_eq 0 u t, if_pos ho, if_pos ho]
      by_cases h1 : t.n = 0 + u
      · rw [if_pos h1, decide_eq_true h1, decide_eq_false (by omega)]
        have := fre_shift i u 0 s hi hu
        rw [Int.add_zero] at this
        simp [this]
      · rw [if_neg h1, decide_eq_false h1]
        by_cases h2 : 0 + u < t.n
        · rw [if_pos h2, fre_eq, if_pos rfl]
          simp only [Bool.false_and, Bool.or_false, decide_eq_decide]
          omega
        · rw [if_neg h2, fre_eq, if_pos ho]
          simp only [Bool.false_and, Bool.or_false, decide_eq_decide]
          omega
    · rw [sub_non _ _ _ ho, fre_eq i, fre_eq (i + 1), fre_eq 0 u t, if_neg (by exact ho), if_neg ho, if_neg ho]
      simp only
      rw [List.mapIdx_mapIdx]
      apply Bool.eq_iff_iff.2
      rw [any_mapIdx, Bool.or_eq_true, Bool.and_eq_true, any_mapIdx, any_mapIdx]
      constructor
      · rintro ⟨j, hj, h⟩
        simp only [Function.comp] at h
        rw [ih _ (List.getElem_mem hj) _ (by omega), Bool.or_eq_true, Bool.and_eq_true] at h
        rcases h with h | ⟨h, h2⟩
        · exact Or.inl ⟨j, hj, h⟩
        · exact Or.inr ⟨⟨j, hj, h⟩, h2⟩
      · rintro (⟨j, hj, h⟩ | ⟨⟨j, hj, h⟩, h2⟩)
        · refine ⟨j, hj, ?_⟩
          simp only [Function.comp]
          rw [ih _ (List.getElem_mem hj) _ (by omega), h]; simp
        · refine ⟨j, hj, ?_⟩
          simp only [Function.comp]
          rw [ih _ (List.getElem_mem hj) _ (by omega), h, h2]; simp

/-- All below a number: none from it on is free. -/
theorem bel_iff (n u : Int) (t : Tr) : bel n u t = true ↔ ∀ i, n ≤ i → fre i u t = false := by
  induction t using Tr.ind generalizing u with
  | h t ih =>
    rw [bel_eq]
    by_cases ho : t.op = 1
    · rw [if_pos ho, decide_eq_true_iff]
      constructor
      · intro h i hi
        rw [fre_eq, if_pos ho, decide_eq_false (by omega)]
      · intro h
        by_cases hl : t.n < n + u
        · exact hl
        · have := h (t.n - u) (by omega)
          rw [fre_eq, if_pos ho, decide_eq_true (by omega)] at this
          cases this
    · rw [if_neg ho, all_mapIdx]
      constructor
      · intro h i hi
        rw [fre_eq, if_neg ho]
        apply Bool.eq_false_iff.2
        intro h2
        obtain ⟨j, hj, h2⟩ := any_mapIdx.1 h2
        rw [(ih _ (List.getElem_mem hj) _).1 (h j hj) i hi] at h2
        cases h2
      · intro h j hj
        refine (ih _ (List.getElem_mem hj) _).2 (fun i hi => ?_)
        have := h i hi
        rw [fre_eq, if_neg ho] at this
        apply Bool.eq_false_iff.2
        intro h2
        rw [any_mapIdx.2 ⟨j, hj, h2⟩] at this
        cases this

theorem bel_mono {n m u : Int} {t : Tr} (h : bel n u t = true) (hm : n ≤ m) : bel m u t = true := (bel_iff m u t).2 (fun i hi => (bel_iff n u t).1 h i (by omega))

/-- Where a variable is not free what is put in does not count. -/
theorem sub_none (n : Int) (s s' : Tr) (u : Int) (t : Tr) (h : fre n u t = false) : sub n s u t = sub n s' u t := by
  induction t using Tr.ind generalizing u with
  | h t ih =>
    rw [fre_eq] at h
    by_cases ho : t.op = 1
    · rw [if_pos ho, decide_eq_false_iff_not] at h
      rw [sub_var _ _ _ ho, sub_var _ _ _ ho, if_neg h, if_neg h]
    · rw [if_neg ho] at h
      rw [sub_non _ _ _ ho, sub_non _ _ _ ho]
      refine Tr.mk_congr rfl rfl (mapIdx_ext _ _ _ (fun i hi => ih _ (List.getElem_mem hi) _ ?_))
      apply Bool.eq_false_iff.2
      intro h2
      rw [any_mapIdx.2 ⟨i, hi, h2⟩] at h
      cases h

theorem sub_bel (n : Int) (s : Tr) (u : Int) (t : Tr) (h : bel n u t = true) : sub n s u t = t := by
  induction t using Tr.ind generalizing u with
  | h t ih =>
    rw [bel_eq] at h
    by_cases ho : t.op = 1
    · rw [if_pos ho, decide_eq_true_iff] at h
      rw [sub_var _ _ _ ho, if_neg (by omega), if_neg (by omega)]
    · rw [if_neg ho, all_mapIdx] at h
      rw [sub_non _ _ _ ho, mapIdx_id' _ _ (fun i hi => ih _ (List.getElem_mem hi) _ (h i hi)), Tr.eta]

theorem shf_bel (b n u : Int) (t : Tr) {c : Int} (hs : Snd c t) (h : bel n u t = true) : shf b n u t = t := by
  induction t using Tr.ind generalizing u with
  | h t ih =>
    rw [bel_eq] at h
    by_cases ho : t.op = 1
    · rw [if_pos ho, decide_eq_true_iff] at h
      have hk := (hs.top ho).1
      rw [shf_var _ _ _ ho hk, if_neg (by omega), var_eta ho hk]
    · rw [if_neg ho, all_mapIdx] at h
      rw [shf_non _ _ _ ho, mapIdx_id' _ _ (fun i hi => ih _ (List.getElem_mem hi) _ (hs.kid (List.getElem_mem hi)) (h i hi)), Tr.eta]

/-- What was shifted by one more loses it. -/
theorem sub_back (v : Tr) (u k : Int) (s : Tr) {b : Int} (hs : Snd b s) (hu : 0 ≤ u) : sub 0 v (u + k) (shf (u + 1) 0 k s) = shf u 0 k s := by
  induction s using Tr.ind generalizing k with
  | h t ih =>
    by_cases ho : t.op = 1
    · obtain ⟨hk, h0, h1⟩ := hs.top ho
      rw [shf_var _ _ _ ho hk, shf_var _ _ _ ho hk, sub_var _ _ _ rfl]
      simp only
      by_cases hn : 0 + k ≤ t.n
      · rw [if_pos hn, if_pos hn, if_neg (by omega), if_pos (by omega), show t.n + (u + 1) - 1 = t.n + u by omega]
      · rw [if_neg hn, if_neg hn, if_neg (by omega), if_neg (by omega)]
    · rw [shf_non _ _ _ ho, shf_non _ _ _ ho, sub_non _ _ _ (by exact ho)]
      simp only
      rw [List.mapIdx_mapIdx]
      refine Tr.mk_congr rfl rfl (mapIdx_ext _ _ _ (fun i hi => ?_))
      simp only [Function.comp]
      rw [Int.add_assoc]
      exact ih _ (List.getElem_mem hi) _ (hs.kid (List.getElem_mem hi))

/-- Two variables given way to, in one order or the other one. -/
theorem sub_sub (s v : Tr) (u : Int) (t : Tr) {b c d : Int} (ht : Snd b t) (hs : Snd c s) (hv : Snd d v) (hu : 0 ≤ u) : sub 0 v u (sub 0 (shf 1 0 0 s) u t) = sub 0 s u (sub 1 (shf 1 0 0 v) u t) := by
  induction t using Tr.ind generalizing u with
  | h t ih =>
    by_cases ho : t.op = 1
    · obtain ⟨hk, h0, h1⟩ := ht.top ho
      have back : ∀ (x y : Tr) {e : Int}, Snd e y → sub 0 x u (shf u 0 0 (shf 1 0 0 y)) = shf u 0 0 y := by
        intro x y e hy
        rw [shf_shf 1 u 0 0 0 y (by omega) (by omega) (by omega), Int.add_comm 1 u]
        have := sub_back x u 0 y hy hu
        rwa [Int.add_zero] at this
      rw [sub_var _ (shf 1 0 0 s) _ ho, sub_var _ (shf 1 0 0 v) _ ho]
      by_cases h2 : t.n = 0 + u
      · rw [if_pos h2, back v s hs, if_neg (by omega), if_neg (by omega), sub_var _ _ _ ho, if_pos h2]
      · rw [if_neg h2]
        by_cases h3 : t.n = 1 + u
        · rw [if_pos (by omega), if_pos h3, back s v hv, sub_var _ _ _ rfl, if_pos (by show t.n - 1 = 0 + u; omega)]
        · rw [if_neg h3]
          by_cases h4 : 0 + u < t.n
          · rw [if_pos h4, if_pos (by omega), sub_var _ _ _ rfl, sub_var _ _ _ rfl]
            simp only
            rw [if_neg (by omega), if_pos (by omega), if_neg (by omega)]
          · rw [if_neg h4, if_neg (by omega), sub_var _ _ _ ho, sub_var _ _ _ ho, if_neg h2, if_neg h2, if_neg h4]
    · rw [sub_non _ _ _ ho, sub_non _ _ _ ho, sub_non _ _ _ (by exact ho), sub_non _ _ _ (by exact ho)]
      simp only
      rw [List.mapIdx_mapIdx, List.mapIdx_mapIdx]
      exact Tr.mk_congr rfl rfl (mapIdx_ext _ _ _ (fun i hi => ih _ (List.getElem_mem hi) _ (ht.kid (List.getElem_mem hi)) (by omega)))

/-- A shift behind a substitution, or ahead of it. -/
theorem shf_sub (s : Tr) (a u : Int) (t : Tr) {b : Int} (ht : Snd b t) (ha : 0 ≤ a) (hu : 0 ≤ u) : shf a 0 u (sub 0 s u t) = sub 0 (shf a 0 0 s) u (shf a 1 u t) := by
  induction t using Tr.ind generalizing u with
  | h t ih =>
    by_cases ho : t.op = 1
    · obtain ⟨hk, h0, h1⟩ := ht.top ho
      rw [sub_var _ _ _ ho, shf_var a 1 u ho hk, sub_var _ _ _ rfl]
      simp only
      by_cases h2 : t.n = 0 + u
      · rw [if_pos h2, if_neg (show ¬ 1 + u ≤ t.n by omega), if_pos h2, shf_at a 0 u u 0 _ (by omega), shf_shf u a 0 u 0 s hu hu (by omega), shf_shf a u 0 0 0 s ha (by omega) (by omega), Int.add_comm]
      · rw [if_neg h2]
        by_cases h3 : 0 + u < t.n
        · rw [if_pos h3, if_pos (show 1 + u ≤ t.n by omega), if_neg (by omega), if_pos (by omega), shf_var _ _ _ rfl rfl]
          simp only
          rw [if_pos (by omega), show t.n - 1 + a = t.n + a - 1 by omega]
        · rw [if_neg h3, if_neg (show ¬ 1 + u ≤ t.n by omega), if_neg h2, if_neg h3, shf_var _ _ _ ho hk, if_neg (by omega)]
    · rw [sub_non _ _ _ ho, shf_non _ _ _ (by exact ho), shf_non _ _ _ ho, sub_non _ _ _ (by exact ho)]
      simp only
      rw [List.mapIdx_mapIdx, List.mapIdx_mapIdx]
      exact Tr.mk_congr rfl rfl (mapIdx_ext _ _ _ (fun i hi => ih _ (List.getElem_mem hi) _ (ht.kid (List.getElem_mem hi)) (by omega)))

/-- Where a variable stands: how often. -/
def plc (n u : Int) (t : Tr) : Nat := t.fold (fun t u rs => if t.op = 1 then (if t.n = n + u then 1 else 0) else rs.sum) u
theorem plc_eq (n u : Int) (t : Tr) : plc n u t = if t.op = 1 then (if t.n = n + u then 1 else 0) else (t.kids.mapIdx (fun j k => plc n (u + (bnd t.op ((j : Nat) : Int) : Nat)) k)).sum := by
  unfold plc; rw [fold_eq]

theorem sum_mapIdx_rel {ks : List Tr} {f g h : Nat → Tr → Nat} {c : Nat} (H : ∀ (i : Nat) (hi : i < ks.length), f i ks[i] + g i ks[i] = h i ks[i] + g i ks[i] * c) : (ks.mapIdx f).sum + (ks.mapIdx g).sum = (ks.mapIdx h).sum + (ks.mapIdx g).sum * c := by
  induction ks generalizing f g h with
  | nil => simp
  | cons x ks ih =>
    have h0 := H 0 (by simp)
    have h1 := ih (f := fun i => f (i + 1)) (g := fun i => g (i + 1)) (h := fun i => h (i + 1)) (fun i hi => by have := H (i + 1) (by simpa using hi); simpa using this)
    simp only [List.mapIdx_cons, List.sum_cons, Nat.add_mul]
    simp only [List.getElem_cons_zero] at h0
    omega

theorem size_sub (n : Int) (s : Tr) (u : Int) (t : Tr) {b : Int} (ht : Snd b t) : (sub n s u t).size + plc n u t = t.size + plc n u t * s.size := by
  induction t using Tr.ind generalizing u with
  | h t ih =>
    rw [plc_eq]
    by_cases ho : t.op = 1
    · obtain ⟨hk, h0, h1⟩ := ht.top ho
      have h9 : t.size = 1 := by rw [Tr.size_eq, hk]; simp
      rw [sub_var _ _ _ ho, if_pos ho]
      by_cases h2 : t.n = n + u
      · rw [if_pos h2, if_pos h2, shf_size]; omega
      · rw [if_neg h2, if_neg h2]
        split
        · rw [Tr.size_eq]; simp; omega
        · omega
    · rw [sub_non _ _ _ ho, if_neg ho, Tr.size_eq, Tr.size_eq t]
      simp only
      have key := sum_mapIdx_rel (ks := t.kids) (f := fun j k => (sub n s (u + (bnd t.op ((j : Nat) : Int) : Nat)) k).size) (g := fun j k => plc n (u + (bnd t.op ((j : Nat) : Int) : Nat)) k) (h := fun _ k => k.size) (c := s.size) (fun i hi => ih _ (List.getElem_mem hi) _ (ht.kid (List.getElem_mem hi)))
      have e1 : (t.kids.mapIdx (fun j k => sub n s (u + (bnd t.op ((j : Nat) : Int) : Nat)) k)).map Tr.size = t.kids.mapIdx (fun j k => (sub n s (u + (bnd t.op ((j : Nat) : Int) : Nat)) k).size) := by
        apply List.ext_getElem
        · simp
        · intro i h1 h2; simp
      rw [e1]
      have e2 : (t.kids.mapIdx (fun _ k => k.size)) = t.kids.map Tr.size := by
        apply List.ext_getElem
        · simp
        · intro i h1 h2; simp
      rw [e2] at key
      omega

#print axioms fre_shf
#print axioms size_sub
end Go.Proofs.YtjiecahopdaghabDoor
