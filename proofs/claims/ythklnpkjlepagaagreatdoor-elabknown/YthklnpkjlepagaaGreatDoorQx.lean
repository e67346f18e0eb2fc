/- Regions that draw their order: each step of the one order that is reckoned. -/
import Derived.Test.YthklnpkjlepagaaGreatDoorQw
namespace Go.Proofs.YthklnpkjlepagaaGreatDoor.Ab
open Go.RowKit
variable {S : Nat → Value}

theorem kind_le (o : Oper) : kindOf o ≤ 3 := by
  unfold kindOf
  split <;> try decide
  split <;> decide
theorem touch_kind {T : Tabs} {fr : Fr} {o : Oper} (h : kindOf o = 0 ∨ kindOf o = 2) : touchM T fr o = 0 := by
  unfold kindOf at h
  unfold touchM
  cases ho : o.op <;> simp only [ho] at h ⊢ <;> first
    | (exfalso; revert h; decide)
    | skip
  rename_i c
  cases hc : c.callee with
  | value f => simp [hc] at h
  | invoke r m => simp [hc] at h
  | builtin b => cases b <;> simp [hc] at h ⊢
theorem bitsL_zero : bitsL 0 = [] := rfl
theorem asgL_nil {n : Nat} {out : Out} (h1 : out.wr = 0) (h2 : out.n = n) : asgL n out = [] := by
  unfold asgL
  rw [h1, h2, Nat.zero_mod, bitsL_zero, Nat.sub_self]
  rfl

/-- Behind an operation that ran on all that is there, only what it turned is other. -/
theorem same_out {H : Hp} {n : Nat} {out : Out} (ht : Tidy H n out) (hB : HB H n) (b : Nat) : out.H.get b = (asgH H (asgL n out) out.H).get b := by
  rw [asgH_get]
  by_cases h : b ∈ asgL n out
  · rw [if_pos h]
  · rw [if_neg h]
    have h := fun h9 => h (mem_asgL.2 h9)
    by_cases hlt : b < n
    · refine ht.keep hB b hlt ?_
      cases hw : out.wr.testBit b with
      | false => rfl
      | true => exact absurd (Or.inl ⟨hw, hlt⟩) h
    · have h1 : H.get b = none := by
        cases hg : H.get b with
        | none => rfl
        | some B => exact absurd (hB b B hg) hlt
      have h2 : out.H.get b = none := by
        cases hg : out.H.get b with
        | none => rfl
        | some B =>
          have := ht.bnd hB b B hg
          exact absurd (Or.inr ⟨by omega, this⟩) h
      rw [h1, h2]

theorem bnd_asg {H : Hp} {n : Nat} {out : Out} (hB : HB H n) (hle : n ≤ out.n) : HB (asgH H (asgL n out) out.H) out.n := by
  intro b B hb
  rw [asgH_get] at hb
  split at hb
  · rename_i h
    rcases mem_asgL.1 h with h | h <;> omega
  · have := hB b B hb
    omega

section
variable {P : Program} {T : Tabs} {call : CallA} {N loc i : Nat} {ops : Array Oper} {BS : List Nat} {s0 s : Sta} {pre : List Ent} {p : Plan} {recs : List Rec} {o : Oper}

/-- Who was not waited for has an entry among those that are looked at. -/
theorem bad_rec (hbi : p.bi = BS.getD i 0) (hrec : ∀ (j : Nat) (ej : Ent), pre[j]? = some ej → dull ej = true ∨ ∃ q ∈ recs, RecOk q j ej) {j : Nat} {ej : Ent} (hj : pre[j]? = some ej) (hu : (BS.getD i 0).testBit j = false) (hd : dull ej = false) : ∃ q ∈ badR p.bi recs, RecOk q j ej := by
  rcases hrec j ej hj with h | ⟨q, h1, h2⟩
  · rw [h] at hd; cases hd
  · refine ⟨q, List.mem_filter.2 ⟨h1, ?_⟩, h2⟩
    rw [h2.j, hbi]
    simp only [hu]
    rfl
theorem dull_asg {e : Ent} {b : Nat} (h : b ∈ e.asg) : dull e = false := by
  unfold dull
  cases hA : e.asg with
  | nil => rw [hA] at h; cases h
  | cons x xs => simp

theorem finE_ok {ts : Option Nat} {H' V : Hp} {out outV : Out} {r : StepR} (hbi : p.bi = BS.getD i 0) (hrec : p.chk = true → ∀ (j : Nat) (ej : Ent), pre[j]? = some ej → dull ej = true ∨ ∃ q ∈ recs, RecOk q j ej)
    (hfr : s.fr = frT N pre s0.fr) (hH : ∀ b, s.H.get b = (hpT pre s0.H).get b) (hs0 : s0.n ≤ s.n) (hn : ∀ (j : Nat) (ej : Ent), pre[j]? = some ej → ej.n1 ≤ s.n) (hw : wantedA ops s.fr o = some true)
    (h : finE N (loc + i) i p o s recs ts H' out = .ok r)
    (hop : opA P T call (loc + i) V s.n s.fr o = .ok outV) (hx : outV.x = out.x) (hon : outV.n = out.n) (how : outV.wr = out.wr) (hres : ∀ b ∈ asgL s.n out, out.H.get b = outV.H.get b)
    (hV : ∀ b B, V.get b = some B → s.H.get b = some B ∧ (∀ m, ts = some m → m.testBit b = true) ∧ ∀ (j : Nat) (ej : Ent), pre[j]? = some ej → (BS.getD i 0).testBit j = false → b ∉ ej.asg)
    (hl0 : p.chk = false → (∃ b, out.wr.testBit b = true) → ∀ (j : Nat) (ej : Ent), pre[j]? = some ej → (BS.getD i 0).testBit j = false → dull ej = true)
    (hH' : ∀ b, H'.get b = (asgH s.H (asgL s.n out) out.H).get b) (hB' : HB H' out.n) (hle : s.n ≤ out.n)
    (hk1 : kindOf o ≤ 1 → out.wr = 0 ∧ out.n = s.n) (hk0 : kindOf o = 0 → ts = some 0) : StepOk P T call N loc ops BS s0 i pre p recs o s r := by
  unfold finE at h
  split at h
  case isFalse => cases h
  rename_i hlate
  simp only [Except.ok.injEq] at h
  subst h
  have hnil : kindOf o ≤ 1 → asgL s.n out = [] := fun hk => asgL_nil (hk1 hk).1 (hk1 hk).2
  have hdull : kindOf o = 0 → dull (⟨o, true, out.x, asgL s.n out, out.H, ts.map bitsL, s.n, out.n, none⟩ : Ent) = true := fun hk => by
    unfold dull
    simp only
    rw [hnil (by omega), hk0 hk]
    simp [bitsL_zero]
  refine ⟨rfl, ⟨by rw [← hfr]; exact hw, fun e => (by cases e), fun _ _ => ⟨outV, V, by rw [← hfr]; exact hop, hx.symm, hres, hon.symm, fun b => ?_, fun b B hb => ?_⟩, fun _ _ _ e => (by cases e), fun j ej hj hu b hb hlt hd => ?_, hle, hs0, fun j ej hj => hn j ej hj⟩, rfl, rfl, rfl, hH', hB', hle, fun b hb => ?_, fun b hb hlt => ?_, fun b hb => ?_, ⟨hnil, hdull⟩, fun hk => ?_, fun q hq => ?_, fun _ => rfl⟩
  · show b ∈ asgL s.n out ↔ _
    rw [mem_asgL, how]
  · obtain ⟨h1, h2, h3⟩ := hV b B hb
    refine ⟨by rw [← hH]; exact h1, fun l hl => ?_, h3⟩
    obtain ⟨m, h4, rfl⟩ := Option.map_eq_some_iff.1 hl
    exact mem_bitsL.2 (h2 m h4)
  · have hwb : out.wr.testBit b = true := by
      rcases mem_asgL.1 hb with h9 | h9
      · exact h9.1
      · have hlt : b < s.n := hlt
        omega
    cases hc : p.chk with
    | false =>
      have := hl0 hc ⟨b, hwb⟩ j ej hj hu
      rw [this] at hd
      cases hd
    | true =>
      rw [hc] at hlate
      simp only [Bool.not_true, Bool.false_or] at hlate
      obtain ⟨q, hq, hr⟩ := bad_rec hbi (hrec hc) hj hu hd
      have hlt : b < s.n := hlt
      have hob : (out.wr % 2 ^ s.n).testBit b = true := by
        rw [Nat.testBit_mod_two_pow, hwb]
        simp [hlt]
      unfold lateOk at hlate
      rcases Bool.or_eq_true_iff.1 hlate with h9 | h9
      · rw [Nat.eq_of_beq_eq_true h9] at hob
        simp at hob
      · have h8 := List.all_eq_true.1 h9 q hq
        cases hts : q.ts with
        | none => simp [hts] at h8
        | some m =>
          simp only [hts] at h8
          obtain ⟨l, h6, h7⟩ := hr.ts m hts
          exact ⟨l, h6, fun hbl => and_zero h8 hob (h7 b hbl)⟩
  · show ((out.wr % 2 ^ s.n) ||| s.wr).testBit b = true
    rw [Nat.testBit_or, hb, Bool.or_true]
  · show ((out.wr % 2 ^ s.n) ||| s.wr).testBit b = true
    have hlt : b < s.n := hlt
    rcases mem_asgL.1 hb with h9 | h9
    · rw [Nat.testBit_or, Nat.testBit_mod_two_pow, h9.1]
      simp [hlt]
    · omega
  · have hb : ((out.wr % 2 ^ s.n) ||| s.wr).testBit b = true := hb
    rw [Nat.testBit_or, Nat.testBit_mod_two_pow] at hb
    simp only [Bool.or_eq_true, Bool.and_eq_true, decide_eq_true_eq] at hb
    rcases hb with h9 | h9
    · exact Or.inr ⟨mem_asgL.2 (Or.inl ⟨h9.2, h9.1⟩), h9.1⟩
    · exact Or.inl h9
  · refine Or.inr ⟨⟨i, asgM s.n out, ts⟩, by simp [hk], rfl, fun b hb => asgM_bit hb, fun m hm => ⟨bitsL m, ?_, fun b hb => mem_bitsL.1 hb⟩⟩
    have hm : ts = some m := hm
    rw [hm]
    rfl
  · show q ∈ (if p.keep then _ else _)
    split
    · exact List.mem_cons_of_mem _ hq
    · exact hq

variable (hT : TabOk P T) (hz : zeroB T = true) (hNum : noNum P = true) (hcall : CallOk P T S call) (hbody : ∀ g args H n out, call g args H n = .ok out → hasBody P g = true)
include hT hz hNum hcall hbody in
theorem stepE_ok {r : StepR} (h : stepE P T call N (loc + i) ops i p o s recs = .ok r) (hi : ops[i]? = some o) (hbi : p.bi = BS.getD i 0) (hchk : p.chk = chkAt ops BS i) (hpre : ∀ (j : Nat) (ej : Ent), pre[j]? = some ej → ops[j]? = some ej.o ∧ j < i) (hkind : ∀ (j : Nat) (ej : Ent), pre[j]? = some ej → KindOk ej)
    (hrec : anyChk ops BS = true → ∀ (j : Nat) (ej : Ent), pre[j]? = some ej → dull ej = true ∨ ∃ q ∈ recs, RecOk q j ej)
    (hfr : s.fr = frT N pre s0.fr) (hH : ∀ b, s.H.get b = (hpT pre s0.H).get b) (hB : HB s.H s.n) (hs0 : s0.n ≤ s.n) (hn : ∀ (j : Nat) (ej : Ent), pre[j]? = some ej → ej.n1 ≤ s.n) : StepOk P T call N loc ops BS s0 i pre p recs o s r := by
  have hrec' : p.chk = true → ∀ (j : Nat) (ej : Ent), pre[j]? = some ej → dull ej = true ∨ ∃ q ∈ recs, RecOk q j ej := fun hc => hrec (chk_any (by rw [← hchk]; exact hc))
  have hno : p.chk = false → ∀ (j : Nat) (ej : Ent), pre[j]? = some ej → (BS.getD i 0).testBit j = false → needs (kindOf o) (kindOf ej.o) = false := fun hc j ej hj hu => by
    cases hne : needs (kindOf o) (kindOf ej.o) with
    | false => rfl
    | true =>
      obtain ⟨h1, h2⟩ := hpre j ej hj
      rw [chk_no hi h1 h2 (by rw [← hchk]; exact hc) hne] at hu
      cases hu
  have hdul : ∀ {e : Ent}, e.asg = [] → e.ts = some [] → dull e = true := fun h1 h2 => by
    unfold dull
    rw [h1, h2]
    rfl
  unfold stepE at h
  obtain ⟨b, w1, h⟩ := bindR_ok h
  have w1 := orErr_ok w1
  cases b with
  | false =>
    simp only [Bool.false_eq_true, if_false, Except.ok.injEq] at h
    subst h
    exact ⟨rfl, ⟨by rw [← hfr]; exact w1, fun _ => ⟨rfl, rfl, rfl⟩, fun e => (by cases e), fun _ _ _ e => (by cases e), fun _ _ _ _ b hb => (by cases hb), Nat.le_refl _, hs0, fun j ej hj => hn j ej hj⟩, rfl, rfl, rfl, fun _ => rfl, hB, Nat.le_refl _, fun _ h => h, fun _ h => (by cases h), fun _ h => Or.inl h, ⟨fun _ => rfl, fun _ => hdul rfl rfl⟩, fun _ => Or.inl (hdul rfl rfl), fun _ h => h, fun _ => rfl⟩
  | true =>
    simp only [if_true] at h
    cases hcl : calleeOf T s.fr o with
    | some x =>
      simp only [hcl] at h
      have hk3 : kindOf o = 3 := by
        have := kind_le o
        rcases Nat.lt_or_ge 2 (kindOf o) with h9 | h9
        · omega
        · rw [callee_kind h9] at hcl; cases hcl
      have hdl : p.chk = false → ∀ (j : Nat) (ej : Ent), pre[j]? = some ej → (BS.getD i 0).testBit j = false → dull ej = true := fun hc j ej hj hu => by
        have := hno hc j ej hj hu
        rw [hk3] at this
        refine (hkind j ej hj).k0 ?_
        unfold needs at this
        have h9 : Nat.ble 1 (kindOf ej.o) = false := by simpa using this
        have := Nat.le_of_ble_eq_true (n := 1) (m := kindOf ej.o)
        rcases Nat.eq_zero_or_pos (kindOf ej.o) with h0 | h0
        · exact h0
        · rw [Nat.ble_eq_true_of_le h0] at h9; cases h9
      by_cases hba : Nat.beq (if p.chk then orAsg (badR p.bi recs) else 0) 0 = true
      · rw [if_pos hba] at h
        obtain ⟨out, w2, h⟩ := bindR_ok h
        have ht := (opA_ok (N := N) hT hz hNum hcall hbody w2).1
        refine finE_ok hbi hrec' hfr hH hs0 hn w1 h w2 rfl rfl rfl (fun _ _ => rfl) (fun b B hb => ⟨hb, fun m hm => (by cases hm), fun j ej hj hu hba2 => ?_⟩) (fun hc _ j ej hj hu => hdl hc j ej hj hu) (same_out ht hB) (ht.bnd hB) ht.le (fun hk => absurd hk (by omega)) (fun hk => absurd hk (by omega))
        have hd := dull_asg hba2
        cases hc : p.chk with
        | false => rw [hdl hc j ej hj hu] at hd; cases hd
        | true =>
          rw [hc] at hba
          obtain ⟨q, hq, hr⟩ := bad_rec hbi (hrec' hc) hj hu hd
          have h9 := orAsg_bit hq (hr.asg b hba2)
          rw [if_pos rfl] at hba
          rw [Nat.eq_of_beq_eq_true hba] at h9
          simp at h9
      · rw [if_neg hba] at h
        obtain ⟨out, w2, h⟩ := bindR_ok h
        have hc : p.chk = true := by
          cases hc : p.chk with
          | true => rfl
          | false => rw [hc] at hba; exact (hba rfl).elim
        have hVB : HB (eraseH s.H (bitsL (orAsg (badR p.bi recs)))) s.n := fun b B hb => by
          rw [eraseH_get] at hb
          split at hb
          · cases hb
          · exact hB b B hb
        have ht := (opA_ok (N := N) hT hz hNum hcall hbody w2).1
        refine finE_ok hbi hrec' hfr hH hs0 hn w1 h w2 rfl rfl rfl (fun _ _ => rfl) (fun b B hb => ?_) (fun hc' => by rw [hc] at hc'; cases hc') (fun _ => rfl) (bnd_asg hB ht.le) ht.le (fun hk => absurd hk (by omega)) (fun hk => absurd hk (by omega))
        rw [eraseH_get] at hb
        split at hb
        · cases hb
        · rename_i hnb
          refine ⟨hb, fun m hm => (by cases hm), fun j ej hj hu hba2 => ?_⟩
          obtain ⟨q, hq, hr⟩ := bad_rec hbi (hrec' hc) hj hu (dull_asg hba2)
          exact hnb (mem_bitsL.2 (orAsg_bit hq (hr.asg b hba2)))
    | none =>
      simp only [hcl] at h
      split at h
      · rename_i hcf
        obtain ⟨q, w2, h⟩ := bindR_ok h
        have w2 := orErr_ok w2
        simp only [Except.ok.injEq] at h
        subst h
        refine ⟨rfl, ⟨by rw [← hfr]; exact w1, fun e => (by cases e), fun _ e => (by cases e), fun b o' ws e => ?_, fun _ _ _ _ b hb => (by cases hb), Nat.le_refl _, hs0, fun j ej hj => hn j ej hj⟩, rfl, rfl, rfl, fun _ => rfl, hB, Nat.le_refl _, fun _ h => h, fun _ h => (by cases h), fun _ h => Or.inl h, ⟨fun _ => rfl, fun _ => hdul rfl rfl⟩, fun _ => Or.inl (hdul rfl rfl), fun _ h => h, fun e => (by cases e)⟩
        simp only [Option.some.injEq, Prod.mk.injEq] at e
        obtain ⟨rfl, rfl, rfl⟩ := e
        unfold watched at w2
        split at w2
        · rename_i t x ho
          split at w2
          · rename_i ht
            obtain ⟨ti, k1, w2⟩ := Option.bind_eq_some_iff.1 w2
            obtain ⟨B, k2, w2⟩ := Option.bind_eq_some_iff.1 w2
            obtain ⟨y, k3, rfl⟩ := Option.map_eq_some_iff.1 w2
            exact ⟨rfl, rfl, t, x, ti, ho, by rw [← hfr]; exact ht, by rw [← hfr], by rw [← hfr], k1, k3⟩
          · cases w2
        · cases w2
      · rename_i hcf
        obtain ⟨out, w2, h⟩ := bindR_ok h
        have ht := (opA_ok (N := N) hT hz hNum hcall hbody w2).1
        have hs : sop P T s.H s.n s.fr o = some out := by
          unfold opA at w2
          rw [hcl] at w2
          exact orErr_ok w2
        obtain ⟨outV, k1, k2, k3, k4, k5⟩ := sop_local (H' := restrH s.H (bitsL (touchM T s.fr o))) (fun b hb => by rw [restrH_get, if_pos (mem_bitsL.2 hb)]) hs
        refine finE_ok hbi hrec' hfr hH hs0 hn w1 h (V := restrH s.H (bitsL (touchM T s.fr o))) (outV := outV) (by unfold opA; rw [hcl]; simp only [k1, orErr]) k2 k3 k4 (fun b hb => (k5 b ?_).symm) (fun b B hb => ?_) (fun hc ⟨b, hb⟩ j ej hj hu => ?_) (same_out ht hB) (ht.bnd hB) ht.le (fun hk => ⟨(sop_kind (by omega) hs).1, (sop_kind (by omega) hs).2 hk⟩) (fun hk => by rw [touch_kind (Or.inl hk)])
        · rcases mem_asgL.1 hb with h9 | h9
          · exact Or.inl h9.1
          · exact Or.inr h9
        · rw [restrH_get] at hb
          split at hb
          · rename_i htb
            have htb := mem_bitsL.1 htb
            refine ⟨hb, fun m hm => by cases hm; exact htb, fun j ej hj hu hba => ?_⟩
            cases hc : p.chk with
            | true =>
              obtain ⟨q, hq, hr⟩ := bad_rec hbi (hrec' hc) hj hu (dull_asg hba)
              rw [hc] at hcf
              simp only [Bool.true_and, Bool.not_eq_true', Bool.not_eq_false] at hcf
              exact and_zero hcf htb (orAsg_bit hq (hr.asg b hba))
            | false =>
              have h9 := hno hc j ej hj hu
              have hk2 : 2 ≤ kindOf ej.o := by
                rcases Nat.lt_or_ge 1 (kindOf ej.o) with h8 | h8
                · exact h8
                · rw [(hkind j ej hj).k1 h8] at hba; cases hba
              have hk := kind_le o
              have hko : kindOf o = 1 ∨ kindOf o = 3 := by
                by_cases hz : kindOf o = 0 ∨ kindOf o = 2
                · rw [touch_kind hz] at htb; simp at htb
                · omega
              unfold needs at h9
              rcases hko with h7 | h7 <;> rw [h7] at h9 <;> simp [Nat.ble_eq_true_of_le hk2, Nat.ble_eq_true_of_le (show 1 ≤ kindOf ej.o by omega)] at h9
          · cases hb
        · have h9 := hno hc j ej hj hu
          have hk := kind_le o
          have hk3 : kindOf o = 3 := by
            rcases Nat.lt_or_ge 2 (kindOf o) with h8 | h8
            · omega
            · rw [(sop_kind h8 hs).1] at hb; simp at hb
          refine (hkind j ej hj).k0 ?_
          rcases Nat.eq_zero_or_pos (kindOf ej.o) with h0 | h0
          · exact h0
          · unfold needs at h9
            rw [hk3] at h9
            simp [Nat.ble_eq_true_of_le h0] at h9
end
#print axioms stepE_ok
end Go.Proofs.YthklnpkjlepagaaGreatDoor.Ab
