/- Regions that draw their order: the record of the one order that is reckoned. -/
import Derived.Test.YthklnpkjlepagaaGreatDoorQx
namespace Go.Proofs.YthklnpkjlepagaaGreatDoor.Ab
open Go.RowKit
variable {S : Nat → Value}

theorem plan_at {ops : Array Oper} {bs : List Nat} {ps : List Plan} {i : Nat} {o : Oper} (hi : ops[i]? = some o) (hps : ∀ k, ps[k]? = (planOf ops bs)[i + k]?) (d : Plan) : ps.headD d = planAt ops bs (anyChk ops bs) i := by
  have hlt : i < ops.size := by
    rcases Nat.lt_or_ge i ops.size with h | h
    · exact h
    · rw [Array.getElem?_eq_none h] at hi; cases hi
  have h0 := hps 0
  unfold planOf at h0
  rw [Nat.add_zero, List.getElem?_map, List.getElem?_range hlt] at h0
  cases ps with
  | nil => simp at h0
  | cons p ps =>
    simp at h0
    simp [h0]
theorem tail_at {α : Type} {ps l : List α} {i : Nat} (hps : ∀ k, ps[k]? = l[i + k]?) (k : Nat) : ps.tail[k]? = l[i + 1 + k]? := by
  have := hps (k + 1)
  rw [show i + (k + 1) = i + 1 + k by omega] at this
  rw [← this]
  cases ps <;> simp

theorem drawGo_mono {P : Program} {T : Tabs} {call : CallA} (hle : ∀ g args H n out, call g args H n = .ok out → Tidy H n out) {N loc : Nat} {ops : Array Oper} : ∀ (os : List Oper) (ps : List Plan) (i : Nat) (s : Sta) (recs : List Rec) (q : List Ent × Sta × Bool), drawGo P T call N loc ops os ps i s recs = .ok q → s.n ≤ q.2.1.n ∧ ∀ b, s.wr.testBit b = true → q.2.1.wr.testBit b = true
  | [], ps, i, s, recs, q, h => by
    simp only [drawGo, Except.ok.injEq] at h
    subst h
    exact ⟨Nat.le_refl _, fun _ h => h⟩
  | o :: os, ps, i, s, recs, q, h => by
    simp only [drawGo] at h
    obtain ⟨r, h1, h⟩ := bindR_ok h
    obtain ⟨q', h2, h⟩ := bindR_ok h
    simp only [Except.ok.injEq] at h
    subst h
    have ih := drawGo_mono hle os ps.tail (i + 1) r.s r.r q' h2
    have key : s.n ≤ r.s.n ∧ ∀ b, s.wr.testBit b = true → r.s.wr.testBit b = true := by
      have hfin : ∀ {ts : Option Nat} {H H' : Hp} {out : Out}, Tidy H s.n out → finE N (loc + i) i (ps.headD ⟨0, true, true⟩) o s recs ts H' out = .ok r → s.n ≤ r.s.n ∧ ∀ b, s.wr.testBit b = true → r.s.wr.testBit b = true := by
        intro ts H H' out ht hf
        unfold finE at hf
        split at hf
        · simp only [Except.ok.injEq] at hf
          subst hf
          refine ⟨ht.le, fun b hb => ?_⟩
          show ((out.wr % 2 ^ s.n) ||| s.wr).testBit b = true
          rw [Nat.testBit_or, hb, Bool.or_true]
        · cases hf
      have hop : ∀ {H : Hp} {out : Out}, opA P T call (loc + i) H s.n s.fr o = .ok out → Tidy H s.n out := by
        intro H out ho
        unfold opA at ho
        split at ho
        · obtain ⟨p, _, h2⟩ := bindR_ok ho
          exact hle _ _ _ _ _ h2
        · exact sop_tidy (orErr_ok ho)
      unfold stepE at h1
      obtain ⟨b, _, h1⟩ := bindR_ok h1
      cases b with
      | false =>
        simp only [Bool.false_eq_true, if_false, Except.ok.injEq] at h1
        subst h1
        exact ⟨Nat.le_refl _, fun _ h => h⟩
      | true =>
        simp only [if_true] at h1
        cases hcl : calleeOf T s.fr o with
        | some x =>
          simp only [hcl] at h1
          by_cases hba : Nat.beq (if (ps.headD ⟨0, true, true⟩).chk then orAsg (badR (ps.headD ⟨0, true, true⟩).bi recs) else 0) 0 = true
          · rw [if_pos hba] at h1
            obtain ⟨out, w2, h1⟩ := bindR_ok h1
            exact hfin (hop w2) h1
          · rw [if_neg hba] at h1
            obtain ⟨out, w2, h1⟩ := bindR_ok h1
            exact hfin (hop w2) h1
        | none =>
          simp only [hcl] at h1
          split at h1
          · obtain ⟨q, _, h1⟩ := bindR_ok h1
            simp only [Except.ok.injEq] at h1
            subst h1
            exact ⟨Nat.le_refl _, fun _ h => h⟩
          · obtain ⟨out, w2, h1⟩ := bindR_ok h1
            exact hfin (hop w2) h1
    exact ⟨Nat.le_trans key.1 ih.1, fun b hb => ih.2 b (key.2 b hb)⟩

theorem drawGo_good {P : Program} {T : Tabs} (hT : TabOk P T) (hz : zeroB T = true) (hNum : noNum P = true) {call : CallA} (hcall : CallOk P T S call) (hbody : ∀ g args H n out, call g args H n = .ok out → hasBody P g = true) {N loc : Nat} {ops : Array Oper} {BS : List Nat} {s0 : Sta} :
    ∀ (os : List Oper) (ps : List Plan) (i : Nat) (s : Sta) (recs : List Rec) (E : List Ent) (s' : Sta) (w : Bool) (pre : List Ent), drawGo P T call N loc ops os ps i s recs = .ok (E, s', w) → pre.length = i → ops.toList = pre.map (·.o) ++ os → (∀ k, ps[k]? = (planOf ops BS)[i + k]?) → s.fr = frT N pre s0.fr → (∀ b, s.H.get b = (hpT pre s0.H).get b) → HB s.H s.n → s0.n ≤ s.n → (∀ (j : Nat) (ej : Ent), pre[j]? = some ej → ej.n1 ≤ s.n) → (∀ (j : Nat) (ej : Ent), pre[j]? = some ej → KindOk ej) →
      (anyChk ops BS = true → ∀ (j : Nat) (ej : Ent), pre[j]? = some ej → dull ej = true ∨ ∃ q ∈ recs, RecOk q j ej) →
      GoodL P T call N loc ops BS s0 i pre E ∧ E.map (·.o) = os ∧ s'.fr = frT N (pre ++ E) s0.fr ∧ (∀ b, s'.H.get b = (hpT (pre ++ E) s0.H).get b) ∧ HB s'.H s'.n ∧ s.n ≤ s'.n ∧ (∀ e ∈ E, e.n1 ≤ s'.n) ∧ (∀ b, s.wr.testBit b = true → s'.wr.testBit b = true) ∧ (∀ e ∈ E, ∀ b ∈ e.asg, b < e.n0 → s'.wr.testBit b = true) ∧ (∀ b, s'.wr.testBit b = true → s.wr.testBit b = true ∨ ∃ e ∈ E, b ∈ e.asg ∧ b < e.n0) ∧ (w = false → ∀ e ∈ E, e.wt = none)
  | [], ps, i, s, recs, E, s', w, pre, h, hl, hops, hps, hfr, hH, hB, hs0, hn, hkind, hrec => by
    simp only [drawGo, Except.ok.injEq, Prod.mk.injEq] at h
    obtain ⟨rfl, rfl, rfl⟩ := h
    exact ⟨trivial, rfl, by simpa using hfr, by simpa using hH, hB, Nat.le_refl _, fun e he => (by cases he), fun _ h => h, fun e he => (by cases he), fun b hb => Or.inl hb, fun _ e he => (by cases he)⟩
  | o :: os, ps, i, s, recs, E, s', w, pre, h, hl, hops, hps, hfr, hH, hB, hs0, hn, hkind, hrec => by
    simp only [drawGo] at h
    obtain ⟨r, h1, h⟩ := bindR_ok h
    obtain ⟨⟨E', s2, w2⟩, h2, h⟩ := bindR_ok h
    simp only [Except.ok.injEq, Prod.mk.injEq] at h
    obtain ⟨rfl, rfl, rfl⟩ := h
    have hi : ops[i]? = some o := by
      rw [← Array.getElem?_toList, hops, List.getElem?_append_right (by simp; omega)]
      simp [hl]
    have hpo : ∀ (j : Nat) (ej : Ent), pre[j]? = some ej → ops[j]? = some ej.o ∧ j < i := fun j ej hj => by
      have hlt : j < pre.length := by
        rcases Nat.lt_or_ge j pre.length with h9 | h9
        · exact h9
        · rw [List.getElem?_eq_none h9] at hj; cases hj
      refine ⟨?_, by omega⟩
      rw [← Array.getElem?_toList, hops, List.getElem?_append_left (by simpa using hlt), List.getElem?_map, hj]
      rfl
    have hplan := plan_at hi hps ⟨0, true, true⟩
    have K := stepE_ok hT hz hNum hcall hbody h1 hi (by rw [hplan]; rfl) (by rw [hplan]; rfl) hpo hkind hrec hfr hH hB hs0 hn
    have hpre : ∀ {j : Nat} {ej : Ent}, (pre ++ [r.e])[j]? = some ej → pre[j]? = some ej ∨ (j = i ∧ ej = r.e) := by
      intro j ej hj
      rcases Nat.lt_or_ge j pre.length with hlt | hge
      · rw [List.getElem?_append_left hlt] at hj; exact Or.inl hj
      · rw [List.getElem?_append_right hge] at hj
        rcases Nat.eq_zero_or_pos (j - pre.length) with h0 | h0
        · rw [h0] at hj; simp at hj; exact Or.inr ⟨by omega, hj.symm⟩
        · rw [List.getElem?_eq_none (by simp; omega)] at hj; cases hj
    have kn1 := K.n1
    have kle := K.le
    obtain ⟨r1, r2, r3, r4, r5, r6, r7, r8, r9, r10, r11⟩ := drawGo_good (BS := BS) (s0 := s0) hT hz hNum hcall hbody os ps.tail (i + 1) r.s r.r E' s2 w2 (pre ++ [r.e]) h2 (by simp [hl]) (by rw [hops]; simp [K.o]) (tail_at hps) (by rw [frT_snoc, K.fr, hfr]) (fun b => by rw [hpT_snoc, K.H, asgH_get, asgH_get, hH]) K.bnd (by omega) (fun j ej hj => by
      rcases hpre hj with h9 | ⟨_, rfl⟩
      · have := hn j ej h9; omega
      · omega) (fun j ej hj => by
      rcases hpre hj with h9 | ⟨_, rfl⟩
      · exact hkind j ej h9
      · exact K.kind) (fun ha j ej hj => by
      rcases hpre hj with h9 | ⟨rfl, rfl⟩
      · rcases hrec ha j ej h9 with h8 | ⟨q, h8, h7⟩
        · exact Or.inl h8
        · exact Or.inr ⟨q, K.old q h8, h7⟩
      · by_cases hk : kindOf o = 0
        · exact Or.inl (K.kind.k0 (by rw [K.o]; exact hk))
        · refine K.keep ?_
          rw [hplan]
          simp only [planAt, ha, hi, Bool.true_and]
          exact Nat.ble_eq_true_of_le (by omega))
    refine ⟨⟨K.good, r1⟩, by simp [K.o, r2], by rw [r3]; simp, fun b => by rw [r4]; simp, r5, by omega, fun e' he' => ?_, fun b hb => r8 b (K.w0 b hb), fun e' he' b hb hlt => ?_, fun b hb => ?_, fun hw e' he' => ?_⟩
    · rcases List.mem_cons.1 he' with rfl | h9
      · omega
      · exact r7 e' h9
    · rcases List.mem_cons.1 he' with rfl | h9
      · exact r8 b (K.w1 b hb hlt)
      · exact r9 e' h9 b hb hlt
    · rcases r10 b hb with h9 | ⟨e', h8, h9⟩
      · rcases K.w2 b h9 with h7 | h7
        · exact Or.inl h7
        · exact Or.inr ⟨r.e, List.mem_cons_self .., h7⟩
      · exact Or.inr ⟨e', List.mem_cons_of_mem _ h8, h9⟩
    · simp only [Bool.or_eq_false_iff] at hw
      rcases List.mem_cons.1 he' with rfl | h9
      · exact K.wt hw.1
      · exact r11 hw.2 e' h9
#print axioms drawGo_good
end Go.Proofs.YthklnpkjlepagaaGreatDoor.Ab
