/- Qy, Qm: the texts of these names, one behind the other. -/
import Derived.Test.YthklnpkjlepagaaGreatDoorMQwxQx
namespace Go.Proofs.YthklnpkjlepagaaGreatDoor.Ab
open Go.RowKit
variable {S : Nat → Value}

theorem plan_at {ops : Array Oper} {bs : List Nat} {ps : List Plan} {i : Nat} {o : Oper} (hi : ops[i]? = some o) (hps : ∀ k, ps[k]? = (planOf ops bs)[i + k]?) (d : Plan) : ps.headD d = planAt ops bs (anyChk ops bs) i := by
  have hlt : i < ops.size := by
    rcases Nat.lt_or_ge i ops.size with h | h
    · exact h
    · rw [Array.getElem?_eq_none h] at hi; cases hi
  have h0 := hps 0
  unfold planOf at h0
  rw [Nat.add_zero, List.getElem?_map, List.getElem?_range hlt] at h0
  cases ps with
  | nil => simp at h0
  | cons p ps =>
    simp at h0
    simp [h0]
theorem tail_at {α : Type} {ps l : List α} {i : Nat} (hps : ∀ k, ps[k]? = l[i + k]?) (k : Nat) : ps.tail[k]? = l[i + 1 + k]? := by
  have := hps (k + 1)
  rw [show i + (k + 1) = i + 1 + k by omega] at this
  rw [← this]
  cases ps <;> simp

theorem drawGo_mono {P : Program} {T : Tabs} {call : CallA} (hle : ∀ g args H n out, call g args H n = .ok out → Tidy H n out) {N loc : Nat} {ops : Array Oper} : ∀ (os : List Oper) (ps : List Plan) (i : Nat) (s : Sta) (recs : List Rec) (q : List Ent × Sta × Bool), drawGo P T call N loc ops os ps i s recs = .ok q → s.n ≤ q.2.1.n ∧ ∀ b, s.wr.testBit b = true → q.2.1.wr.testBit b = true
  | [], ps, i, s, recs, q, h => by
    simp only [drawGo, Except.ok.injEq] at h
    subst h
    exact ⟨Nat.le_refl _, fun _ h => h⟩
  | o :: os, ps, i, s, recs, q, h => by
    simp only [drawGo] at h
    obtain ⟨r, h1, h⟩ := bindR_ok h
    obtain ⟨q', h2, h⟩ := bindR_ok h
    simp only [Except.ok.injEq] at h
    subst h
    have ih := drawGo_mono hle os ps.tail (i + 1) r.s r.r q' h2
    have key : s.n ≤ r.s.n ∧ ∀ b, s.wr.testBit b = true → r.s.wr.testBit b = true := by
      have hfin : ∀ {ts : Option Nat} {H H' : Hp} {out : Out}, Tidy H s.n out → finE N (loc + i) i (ps.headD ⟨0, true, true⟩) o s recs ts H' out = .ok r → s.n ≤ r.s.n ∧ ∀ b, s.wr.testBit b = true → r.s.wr.testBit b = true := by
        intro ts H H' out ht hf
        unfold finE at hf
        split at hf
        · simp only [Except.ok.injEq] at hf
          subst hf
          refine ⟨ht.le, fun b hb => ?_⟩
          show ((out.wr % 2 ^ s.n) ||| s.wr).testBit b = true
          rw [Nat.testBit_or, hb, Bool.or_true]
        · cases hf
      have hop : ∀ {H : Hp} {out : Out}, opA P T call (loc + i) H s.n s.fr o = .ok out → Tidy H s.n out := by
        intro H out ho
        unfold opA at ho
        split at ho
        · obtain ⟨p, _, h2⟩ := bindR_ok ho
          exact hle _ _ _ _ _ h2
        · exact sop_tidy (orErr_ok ho)
      unfold stepE at h1
      obtain ⟨b, _, h1⟩ := bindR_ok h1
      cases b with
      | false =>
        simp only [Bool.false_eq_true, if_false, Except.ok.injEq] at h1
        subst h1
        exact ⟨Nat.le_refl _, fun _ h => h⟩
      | true =>
        simp only [if_true] at h1
        cases hcl : calleeOf T s.fr o with
        | some x =>
          simp only [hcl] at h1
          by_cases hba : Nat.beq (if (ps.headD ⟨0, true, true⟩).chk then orAsg (badR (ps.headD ⟨0, true, true⟩).bi recs) else 0) 0 = true
          · rw [if_pos hba] at h1
            obtain ⟨out, w2, h1⟩ := bindR_ok h1
            exact hfin (hop w2) h1
          · rw [if_neg hba] at h1
            obtain ⟨out, w2, h1⟩ := bindR_ok h1
            exact hfin (hop w2) h1
        | none =>
          simp only [hcl] at h1
          split at h1
          · obtain ⟨q, _, h1⟩ := bindR_ok h1
            simp only [Except.ok.injEq] at h1
            subst h1
            exact ⟨Nat.le_refl _, fun _ h => h⟩
          · obtain ⟨out, w2, h1⟩ := bindR_ok h1
            exact hfin (hop w2) h1
    exact ⟨Nat.le_trans key.1 ih.1, fun b hb => ih.2 b (key.2 b hb)⟩

theorem drawGo_good {P : Program} {T : Tabs} (hT : TabOk P T) (hz : zeroB T = true) (hNum : noNum P = true) {call : CallA} (hcall : CallOk P T S call) (hbody : ∀ g args H n out, call g args H n = .ok out → hasBody P g = true) {N loc : Nat} {ops : Array Oper} {BS : List Nat} {s0 : Sta} :
    ∀ (os : List Oper) (ps : List Plan) (i : Nat) (s : Sta) (recs : List Rec) (E : List Ent) (s' : Sta) (w : Bool) (pre : List Ent), drawGo P T call N loc ops os ps i s recs = .ok (E, s', w) → pre.length = i → ops.toList = pre.map (·.o) ++ os → (∀ k, ps[k]? = (planOf ops BS)[i + k]?) → s.fr = frT N pre s0.fr → (∀ b, s.H.get b = (hpT pre s0.H).get b) → HB s.H s.n → s0.n ≤ s.n → (∀ (j : Nat) (ej : Ent), pre[j]? = some ej → ej.n1 ≤ s.n) → (∀ (j : Nat) (ej : Ent), pre[j]? = some ej → KindOk ej) →
      (anyChk ops BS = true → ∀ (j : Nat) (ej : Ent), pre[j]? = some ej → dull ej = true ∨ ∃ q ∈ recs, RecOk q j ej) →
      GoodL P T call N loc ops BS s0 i pre E ∧ E.map (·.o) = os ∧ s'.fr = frT N (pre ++ E) s0.fr ∧ (∀ b, s'.H.get b = (hpT (pre ++ E) s0.H).get b) ∧ HB s'.H s'.n ∧ s.n ≤ s'.n ∧ (∀ e ∈ E, e.n1 ≤ s'.n) ∧ (∀ b, s.wr.testBit b = true → s'.wr.testBit b = true) ∧ (∀ e ∈ E, ∀ b ∈ e.asg, b < e.n0 → s'.wr.testBit b = true) ∧ (∀ b, s'.wr.testBit b = true → s.wr.testBit b = true ∨ ∃ e ∈ E, b ∈ e.asg ∧ b < e.n0) ∧ (w = false → ∀ e ∈ E, e.wt = none)
  | [], ps, i, s, recs, E, s', w, pre, h, hl, hops, hps, hfr, hH, hB, hs0, hn, hkind, hrec => by
    simp only [drawGo, Except.ok.injEq, Prod.mk.injEq] at h
    obtain ⟨rfl, rfl, rfl⟩ := h
    exact ⟨trivial, rfl, by simpa using hfr, by simpa using hH, hB, Nat.le_refl _, fun e he => (by cases he), fun _ h => h, fun e he => (by cases he), fun b hb => Or.inl hb, fun _ e he => (by cases he)⟩
  | o :: os, ps, i, s, recs, E, s', w, pre, h, hl, hops, hps, hfr, hH, hB, hs0, hn, hkind, hrec => by
    simp only [drawGo] at h
    obtain ⟨r, h1, h⟩ := bindR_ok h
    obtain ⟨⟨E', s2, w2⟩, h2, h⟩ := bindR_ok h
    simp only [Except.ok.injEq, Prod.mk.injEq] at h
    obtain ⟨rfl, rfl, rfl⟩ := h
    have hi : ops[i]? = some o := by
      rw [← Array.getElem?_toList, hops, List.getElem?_append_right (by simp; omega)]
      simp [hl]
    have hpo : ∀ (j : Nat) (ej : Ent), pre[j]? = some ej → ops[j]? = some ej.o ∧ j < i := fun j ej hj => by
      have hlt : j < pre.length := by
        rcases Nat.lt_or_ge j pre.length with h9 | h9
        · exact h9
        · rw [List.getElem?_eq_none h9] at hj; cases hj
      refine ⟨?_, by omega⟩
      rw [← Array.getElem?_toList, hops, List.getElem?_append_left (by simpa using hlt), List.getElem?_map, hj]
      rfl
    have hplan := plan_at hi hps ⟨0, true, true⟩
    have K := stepE_ok hT hz hNum hcall hbody h1 hi (by rw [hplan]; rfl) (by rw [hplan]; rfl) hpo hkind hrec hfr hH hB hs0 hn
    have hpre : ∀ {j : Nat} {ej : Ent}, (pre ++ [r.e])[j]? = some ej → pre[j]? = some ej ∨ (j = i ∧ ej = r.e) := by
      intro j ej hj
      rcases Nat.lt_or_ge j pre.length with hlt | hge
      · rw [List.getElem?_append_left hlt] at hj; exact Or.inl hj
      · rw [List.getElem?_append_right hge] at hj
        rcases Nat.eq_zero_or_pos (j - pre.length) with h0 | h0
        · rw [h0] at hj; simp at hj; exact Or.inr ⟨by omega, hj.symm⟩
        · rw [List.getElem?_eq_none (by simp; omega)] at hj; cases hj
    have kn1 := K.n1
    have kle := K.le
    obtain ⟨r1, r2, r3, r4, r5, r6, r7, r8, r9, r10, r11⟩ := drawGo_good (BS := BS) (s0 := s0) hT hz hNum hcall hbody os ps.tail (i + 1) r.s r.r E' s2 w2 (pre ++ [r.e]) h2 (by simp [hl]) (by rw [hops]; simp [K.o]) (tail_at hps) (by rw [frT_snoc, K.fr, hfr]) (fun b => by rw [hpT_snoc, K.H, asgH_get, asgH_get, hH]) K.bnd (by omega) (fun j ej hj => by
      rcases hpre hj with h9 | ⟨_, rfl⟩
      · have := hn j ej h9; omega
      · omega) (fun j ej hj => by
      rcases hpre hj with h9 | ⟨_, rfl⟩
      · exact hkind j ej h9
      · exact K.kind) (fun ha j ej hj => by
      rcases hpre hj with h9 | ⟨rfl, rfl⟩
      · rcases hrec ha j ej h9 with h8 | ⟨q, h8, h7⟩
        · exact Or.inl h8
        · exact Or.inr ⟨q, K.old q h8, h7⟩
      · by_cases hk : kindOf o = 0
        · exact Or.inl (K.kind.k0 (by rw [K.o]; exact hk))
        · refine K.keep ?_
          rw [hplan]
          simp only [planAt, ha, hi, Bool.true_and]
          exact Nat.ble_eq_true_of_le (by omega))
    refine ⟨⟨K.good, r1⟩, by simp [K.o, r2], by rw [r3]; simp, fun b => by rw [r4]; simp, r5, by omega, fun e' he' => ?_, fun b hb => r8 b (K.w0 b hb), fun e' he' b hb hlt => ?_, fun b hb => ?_, fun hw e' he' => ?_⟩
    · rcases List.mem_cons.1 he' with rfl | h9
      · omega
      · exact r7 e' h9
    · rcases List.mem_cons.1 he' with rfl | h9
      · exact r8 b (K.w1 b hb hlt)
      · exact r9 e' h9 b hb hlt
    · rcases r10 b hb with h9 | ⟨e', h8, h9⟩
      · rcases K.w2 b h9 with h7 | h7
        · exact Or.inl h7
        · exact Or.inr ⟨r.e, List.mem_cons_self .., h7⟩
      · exact Or.inr ⟨e', List.mem_cons_of_mem _ h8, h9⟩
    · simp only [Bool.or_eq_false_iff] at hw
      rcases List.mem_cons.1 he' with rfl | h9
      · exact K.wt hw.1
      · exact r11 hw.2 e' h9
end Go.Proofs.YthklnpkjlepagaaGreatDoor.Ab
namespace Go.Proofs.YthklnpkjlepagaaGreatDoor.Ab
open Go.RowKit
variable {S : Nat → Value}

/-- Of what some have done: the frame, the blocks. -/
def frO (N : Nat) (L : Nat → Bool) : List Ent → Nat → Fr → Fr
  | [], _, fr => fr
  | e :: E, i, fr => frO N L E (i + 1) (if L i then putA N fr e.o.dst e.x else fr)
def hpO (L : Nat → Bool) : List Ent → Nat → Hp → Hp
  | [], _, H => H
  | e :: E, i, H => hpO L E (i + 1) (if L i then asgH H e.asg e.res else H)

def fF (N t : Nat) (e : Ent) : Option AV := if e.o.dst = some t ∧ t < N ∧ t < 512 then some e.x else none
def fH (b : Nat) (e : Ent) : Option (Option Blk) := if b ∈ e.asg then some (e.res.get b) else none

theorem frO_get (N : Nat) (L : Nat → Bool) (t : Nat) : ∀ (E : List Ent) (i : Nat) (fr : Fr), (frO N L E i fr).get t = look (fF N t) L E i (fr.get t)
  | [], _, _ => rfl
  | e :: E, i, fr => by
    simp only [frO, look]
    cases hL : L i with
    | false => simp only [Bool.false_eq_true, if_false]; exact frO_get N L t E (i + 1) fr
    | true =>
      simp only [if_true]
      rw [frO_get N L t E (i + 1) _, putA_get]
      congr 1
      unfold fF
      split <;> simp
theorem hpO_get (L : Nat → Bool) (b : Nat) : ∀ (E : List Ent) (i : Nat) (H : Hp), (hpO L E i H).get b = look (fH b) L E i (H.get b)
  | [], _, _ => rfl
  | e :: E, i, H => by
    simp only [hpO, look]
    cases hL : L i with
    | false => simp only [Bool.false_eq_true, if_false]; exact hpO_get L b E (i + 1) H
    | true =>
      simp only [if_true]
      rw [hpO_get L b E (i + 1) _, asgH_get]
      congr 1
      unfold fH
      split <;> simp

/-- All ahead of i. -/
def bef (i : Nat) : Nat → Bool := fun j => decide (j < i)
theorem frO_bef {N : Nat} : ∀ (E : List Ent) (i k : Nat) (fr : Fr), frO N (bef (i + k)) E i fr = frT N (E.take k) fr
  | [], _, _, _ => by simp [frO, frT]
  | e :: E, i, 0, fr => by
    have : ∀ (E : List Ent) (i' : Nat) (fr : Fr), i ≤ i' → frO N (bef (i + 0)) E i' fr = fr := by
      intro E
      induction E with
      | nil => intro i' fr _; rfl
      | cons e E ih =>
        intro i' fr hi
        simp only [frO]
        have : bef (i + 0) i' = false := by simp [bef]; omega
        rw [this]
        exact ih (i' + 1) fr (by omega)
    rw [this (e :: E) i fr (Nat.le_refl _)]
    rfl
  | e :: E, i, k + 1, fr => by
    simp only [frO]
    have : bef (i + (k + 1)) i = true := by simp [bef]
    rw [this, show i + (k + 1) = i + 1 + k by omega]
    simp only [if_true]
    rw [frO_bef E (i + 1) k]
    simp [frT]
theorem hpO_bef : ∀ (E : List Ent) (i k : Nat) (H : Hp), hpO (bef (i + k)) E i H = hpT (E.take k) H
  | [], _, _, _ => by simp [hpO, hpT]
  | e :: E, i, 0, H => by
    have : ∀ (E : List Ent) (i' : Nat) (H : Hp), i ≤ i' → hpO (bef (i + 0)) E i' H = H := by
      intro E
      induction E with
      | nil => intro i' H _; rfl
      | cons e E ih =>
        intro i' H hi
        simp only [hpO]
        have : bef (i + 0) i' = false := by simp [bef]; omega
        rw [this]
        exact ih (i' + 1) H (by omega)
    rw [this (e :: E) i H (Nat.le_refl _)]
    rfl
  | e :: E, i, k + 1, H => by
    simp only [hpO]
    have : bef (i + (k + 1)) i = true := by simp [bef]
    rw [this, show i + (k + 1) = i + 1 + k by omega]
    simp only [if_true]
    rw [hpO_bef E (i + 1) k]
    simp [hpT]

/-- A part of what is known goes on; what else is known stands beside it. -/
theorem Goes.beside {C C' : Cx} (hC : Ok C) {V : Hp} (hV : ∀ b B, V.get b = some B → C.H.get b = some B) (h : Goes { C with H := V } C') {H : Hp}
    (hH : ∀ b B, H.get b = some B → C'.H.get b = some B ∨ (C.H.get b = some B ∧ V.get b = none)) : Goes C { C' with H := H } := by
  have hout : ∀ b B, C.H.get b = some B → V.get b = none → ({ C with H := V } : Cx).Oth (C.mu b) := fun b B hb hn b' B' hb' e => by
    have hb2 : V.get b' = some B' := hb'
    have := hC.inj b' B' b B (hV b' B' hb2) hb e
    subst this
    rw [hn] at hb2
    cases hb2
  have hmu : ∀ b B, C.H.get b = some B → C'.mu b = C.mu b := fun b B hb => h.le.mu b (hC.blk b B hb).1
  have le : C.le { C' with H := H } := ⟨h.le.A, h.le.mu, h.le.size, h.le.imm, h.le.shape, h.le.S⟩
  have le2 : C'.le { C' with H := H } := ⟨fun _ h => h, fun _ _ => rfl, Nat.le_refl _, fun _ h => ⟨h, rfl⟩, fun _ cs _ _ h => ⟨cs, h, rfl⟩, rfl⟩
  refine ⟨le, ⟨fun b B hb => ?_, fun b B b' B' hb hb' he => ?_, fun b B hb => ?_⟩, h.s3, fun k hk ho => ?_, h.zold⟩
  · rcases hH b B hb with h3 | ⟨h3, h4⟩
    · obtain ⟨g1, g2⟩ := h.ok.blk b B h3
      exact ⟨g1, g2.mono le2 rfl⟩
    · obtain ⟨g1, g2⟩ := hC.blk b B h3
      refine ⟨h.le.A b g1, g2.mono le ?_⟩
      show C'.w.heap[C'.mu b]? = _
      rw [hmu b B h3, (h.oth _ (hC.lt h3) (hout b B h3 h4)).1]
  · have he : C'.mu b = C'.mu b' := he
    rcases hH b B hb with h3 | ⟨h3, h4⟩ <;> rcases hH b' B' hb' with g3 | ⟨g3, g4⟩
    · exact h.ok.inj _ _ _ _ h3 g3 he
    · rw [hmu b' B' g3] at he
      exact absurd he ((h.oth _ (hC.lt g3) (hout b' B' g3 g4)).2 b B h3)
    · rw [hmu b B h3] at he
      exact absurd he.symm ((h.oth _ (hC.lt h3) (hout b B h3 h4)).2 b' B' g3)
    · rw [hmu b B h3, hmu b' B' g3] at he
      exact hC.inj _ _ _ _ h3 g3 he
  · rcases hH b B hb with h3 | ⟨h3, _⟩
    · exact h.ok.zone b B h3
    · intro hz
      have hz : C'.Z (C'.mu b) := hz
      rw [hmu b B h3] at hz
      exact hC.zone b B h3 (h.zold _ (hC.lt h3) hz)
  · obtain ⟨h1, h2⟩ := h.oth k hk fun b B hb => ho b B (hV b B hb)
    refine ⟨h1, fun b B hb => ?_⟩
    show C'.mu b ≠ k
    rcases hH b B hb with h3 | ⟨h3, _⟩
    · exact h2 b B h3
    · rw [hmu b B h3]
      exact ho b B h3

/-- Two operations of which one writes what the other one reads or writes wait for each other. -/
def clash (ops : Array Oper) (a b : Oper) : Bool := (match a.dst with
    | some t => (reads ops b).contains t
    | none => false) || (match b.dst with
    | some t => (reads ops a).contains t
    | none => false) || (match a.dst, b.dst with
    | some t, some u => t == u
    | _, _ => false)
def tmpOk (ops : Array Oper) : Bool := (List.range ops.size).all fun k => (List.range k).all fun i => match ops[i]?, ops[k]? with
  | some a, some b => !clash ops a b || ((bits ops).getD k 0).testBit i
  | _, _ => true
def regOk (ops : Array Oper) : Bool := backB2 ops && tmpOk ops

theorem tmpOk_ok {ops : Array Oper} (h : tmpOk ops = true) {i k : Nat} {a b : Oper} (hi : ops[i]? = some a) (hk : ops[k]? = some b) (hlt : i < k) (hc : clash ops a b = true) : ((bits ops).getD k 0).testBit i = true := by
  have hks : k < ops.size := by
    rcases Nat.lt_or_ge k ops.size with h | h
    · exact h
    · rw [Array.getElem?_eq_none h] at hk; cases hk
  have h1 := List.all_eq_true.1 (List.all_eq_true.1 h k (List.mem_range.2 hks)) i (List.mem_range.2 hlt)
  rw [hi, hk] at h1
  simpa [hc] using h1
theorem back_ok {ops : Array Oper} (h : backB2 ops = true) (i : Nat) (o : Oper) (hi : ops[i]? = some o) : ∀ e ∈ o.after.toList, Region.binds .any e = true → e.on < i := by
  intro e he hb
  have his : i < ops.size := by
    rcases Nat.lt_or_ge i ops.size with h | h
    · exact h
    · rw [Array.getElem?_eq_none h] at hi; cases hi
  have h1 := List.all_eq_true.1 h i (List.mem_range.2 his)
  rw [hi] at h1
  simp only [Option.map_some, Option.getD_some] at h1
  have h2 := Array.all_eq_true_iff_forall_mem.1 h1 e (by simpa using he)
  simpa [hb] using h2
theorem clash_l {ops : Array Oper} {a b : Oper} {t : Nat} (h1 : a.dst = some t) (h2 : t ∈ reads ops b) : clash ops a b = true := by
  simp [clash, h1, h2]
theorem clash_r {ops : Array Oper} {a b : Oper} {t : Nat} (h1 : b.dst = some t) (h2 : t ∈ reads ops a) : clash ops a b = true := by
  simp [clash, h1, h2]
theorem clash_d {ops : Array Oper} {a b : Oper} {t : Nat} (h1 : a.dst = some t) (h2 : b.dst = some t) : clash ops a b = true := by
  simp [clash, h1, h2]

theorem AllOps.of {p : Nat → Oper → Prop} : ∀ (l : List Oper) (n : Nat), (∀ (i : Nat) (o : Oper), l[i]? = some o → p (n + i) o) → AllOps p n l
  | [], _, _ => trivial
  | o :: l, n, h => ⟨by simpa using h 0 o rfl, AllOps.of l (n + 1) fun i o' hi => by
      have := h (i + 1) o' (by simpa using hi)
      rwa [show n + 1 + i = n + (i + 1) by omega]⟩

theorem frO_none {N : Nat} : ∀ (E : List Ent) (i : Nat) (fr : Fr), frO N (fun _ => false) E i fr = fr
  | [], _, _ => rfl
  | e :: E, i, fr => by simp only [frO, Bool.false_eq_true, if_false]; exact frO_none E _ fr
theorem hpO_none : ∀ (E : List Ent) (i : Nat) (H : Hp), hpO (fun _ => false) E i H = H
  | [], _, _ => rfl
  | e :: E, i, H => by simp only [hpO, Bool.false_eq_true, if_false]; exact hpO_none E _ H
theorem frO_all {N : Nat} {L : Nat → Bool} : ∀ (E : List Ent) (i : Nat) (fr : Fr), (∀ k, k < E.length → L (i + k) = true) → frO N L E i fr = frT N E fr
  | [], _, _, _ => rfl
  | e :: E, i, fr, h => by
    have h0 : L i = true := h 0 (by simp)
    simp only [frO, h0, if_true]
    rw [frO_all E (i + 1) _ fun k hk => by rw [show i + 1 + k = i + (k + 1) by omega]; exact h (k + 1) (by simp; omega)]
    rfl
theorem hpO_all {L : Nat → Bool} : ∀ (E : List Ent) (i : Nat) (H : Hp), (∀ k, k < E.length → L (i + k) = true) → hpO L E i H = hpT E H
  | [], _, _, _ => rfl
  | e :: E, i, H, h => by
    have h0 : L i = true := h 0 (by simp)
    simp only [hpO, h0, if_true]
    rw [hpO_all E (i + 1) _ fun k hk => by rw [show i + 1 + k = i + (k + 1) by omega]; exact h (k + 1) (by simp; omega)]
    rfl

/-- What is told no more: it has told nothing. -/
theorem look_same {α ε : Type} {f : ε → Option α} {L : Nat → Bool} {E : List ε} {k i : Nat} {e : ε} {d : α} (hk : E[k]? = some e) (hf : f e = none) : look f (upd L (i + k)) E i d = look f L E i d :=
  look_congr fun k' e' hk' hn => by
    unfold upd
    split
    · rename_i h
      have : k' = k := by omega
      subst this
      rw [hk] at hk'
      cases hk'
      exact absurd hf hn
    · rfl

/-- What an index of a region's record gives. -/
theorem ent_at {E : List Ent} {ops : Array Oper} (h : E.map (·.o) = ops.toList) {i : Nat} {o : Oper} (hi : ops[i]? = some o) : ∃ e, E[i]? = some e ∧ e.o = o := by
  rw [← Array.getElem?_toList, ← h, List.getElem?_map] at hi
  obtain ⟨e, h1, h2⟩ := Option.map_eq_some_iff.1 hi
  exact ⟨e, h1, h2⟩
theorem at_ent {E : List Ent} {ops : Array Oper} (h : E.map (·.o) = ops.toList) {i : Nat} {e : Ent} (hi : E[i]? = some e) : ops[i]? = some e.o := by
  rw [← Array.getElem?_toList, ← h, List.getElem?_map, hi]; rfl
/-- Are two values surely the same? -/
def eqV : Value → Value → Bool
  | .int k a, .int k' b => decide (k = k') && decide (a = b)
  | .bool a, .bool b => decide (a = b)
  | .string a, .string b => decide (a = b)
  | .pointer none, .pointer none => true
  | .slice none a b, .slice none a' b' => decide (a = a') && decide (b = b')
  | .nilFunc, .nilFunc => true
  | .nilIface, .nilIface => true
  | .map none, .map none => true
  | .func (.func f) ⟨[]⟩ ⟨[]⟩, .func (.func g) ⟨[]⟩ ⟨[]⟩ => decide (f = g)
  | _, _ => false
theorem eqV_eq {v u : Value} (h : eqV v u = true) : v = u := by
  unfold eqV at h
  split at h <;> simp at h <;> first | (obtain ⟨rfl, rfl⟩ := h; rfl) | (subst h; rfl) | rfl
def eqAV : Nat → AV → AV → Bool
  | 0, _, _ => false
  | f + 1, x, y => decide (x.t = y.t) && eqV x.v y.v && decide (x.a = y.a) && decide (x.b = y.b) && decide (x.c = y.c) && decide (x.d = y.d) && (decide (x.ks.length = y.ks.length) && (x.ks.zip y.ks).all fun p => eqAV f p.1 p.2)
theorem zip_eq {α : Type} {p : α × α → Bool} (hp : ∀ q, p q = true → q.1 = q.2) : ∀ (as bs : List α), as.length = bs.length → (as.zip bs).all p = true → as = bs
  | [], [], _, _ => rfl
  | a :: as, b :: bs, hl, h => by
    simp only [List.zip_cons_cons, List.all_cons, Bool.and_eq_true] at h
    rw [show a = b from hp (a, b) h.1, zip_eq hp as bs (by simpa using hl) h.2]
  | [], _ :: _, hl, _ => by simp at hl
  | _ :: _, [], hl, _ => by simp at hl
theorem eqAV_eq : ∀ (f : Nat) (x y : AV), eqAV f x y = true → x = y
  | 0, _, _, h => by simp [eqAV] at h
  | f + 1, x, y, h => by
    simp only [eqAV, Bool.and_eq_true, decide_eq_true_eq] at h
    obtain ⟨⟨⟨⟨⟨⟨h1, h2⟩, h3⟩, h4⟩, h5⟩, h6⟩, h7, h8⟩ := h
    have hk := zip_eq (fun q hq => eqAV_eq f q.1 q.2 hq) x.ks y.ks h7 h8
    have hv := eqV_eq h2
    cases x; cases y
    simp_all
/-- Do these cells stand in a block? -/
def cellsAt (B : Option Blk) (o : Nat) (ws : List AV) : Bool := match B with
  | some B => decide (((B.cs.drop o).take ws.length).length = ws.length) && ((((B.cs.drop o).take ws.length).zip ws).all fun p => eqAV 20 p.1 p.2)
  | none => false
theorem cellsAt_ok {B : Option Blk} {o : Nat} {ws : List AV} (h : cellsAt B o ws = true) : ∃ B', B = some B' ∧ (B'.cs.drop o).take ws.length = ws := by
  unfold cellsAt at h
  split at h
  · rename_i B'
    simp only [Bool.and_eq_true, decide_eq_true_eq] at h
    exact ⟨B', rfl, zip_eq (fun q hq => eqAV_eq 20 q.1 q.2 hq) _ _ h.1 h.2⟩
  · cases h
/-- The cells that were loaded beside a write stay as they are, whoever runs. -/
def watchB (H : Hp) (E : List Ent) : Bool := E.all fun e => match e.wt with
  | none => true
  | some (b, o, ws) => cellsAt (H.get b) o ws && E.all fun e' => !(e'.asg.contains b) || cellsAt (e'.res.get b) o ws
theorem look_all {α ε : Type} {f : ε → Option α} {L : Nat → Bool} {p : α → Prop} : ∀ {E : List ε} {i : Nat} {d : α}, p d → (∀ e ∈ E, ∀ a, f e = some a → p a) → p (look f L E i d)
  | [], _, _, hd, _ => hd
  | e :: E, i, d, hd, h => by
    simp only [look]
    refine look_all ?_ fun e' he' => h e' (List.mem_cons_of_mem _ he')
    split
    · cases hf : f e with
      | none => exact hd
      | some a => exact h e (List.mem_cons_self ..) a hf
    · exact hd
theorem watch_ok {H : Hp} {E : List Ent} (h : watchB H E = true) {k : Nat} {e : Ent} (hk : E[k]? = some e) {b o : Nat} {ws : List AV} (hw : e.wt = some (b, o, ws)) (L : Nat → Bool) : ∃ B, (hpO L E 0 H).get b = some B ∧ (B.cs.drop o).take ws.length = ws := by
  have h1 := List.all_eq_true.1 h e (List.mem_of_getElem? hk)
  rw [hw] at h1
  simp only [Bool.and_eq_true] at h1
  rw [hpO_get]
  refine look_all (p := fun (d : Option Blk) => ∃ B, d = some B ∧ (B.cs.drop o).take ws.length = ws) (cellsAt_ok h1.1) fun e' he' a ha => ?_
  unfold fH at ha
  split at ha
  · rename_i hm
    cases ha
    have h2 := List.all_eq_true.1 h1.2 e' he'
    simp only [Bool.or_eq_true, Bool.not_eq_true'] at h2
    rcases h2 with h2 | h2
    · simp at h2
      exact absurd hm h2
    · exact cellsAt_ok h2
  · cases ha
end Go.Proofs.YthklnpkjlepagaaGreatDoor.Ab
