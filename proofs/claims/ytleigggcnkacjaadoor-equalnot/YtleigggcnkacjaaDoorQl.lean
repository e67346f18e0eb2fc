/- Regions that draw their order: one order is reckoned, and what is asked for it to stand for all. -/
import Derived.Test.YtleigggcnkacjaaDoorQk
namespace Go.Proofs.YtleigggcnkacjaaDoor.Ab
open Go.RowKit
variable {S : Nat → Value}

/-- What an operation of such a region came to: whether it was wanted, its value, the blocks that it turned (in res), the blocks that it looked at (none: any), the numbers ahead, behind; wt: cells of a block that it has loaded though another one writes to the block (they must stay). -/
structure Ent where
  o : Oper
  b : Bool
  x : AV
  asg : List Nat
  res : Hp
  ts : Option (List Nat)
  n0 : Nat
  n1 : Nat
  wt : Option (Nat × Nat × List AV)

def asgH (H : Hp) (l : List Nat) (res : Hp) : Hp := l.foldl (fun h b => h.set b (res.get b)) H
theorem asgH_get : ∀ (l : List Nat) (H res : Hp) (b : Nat), (asgH H l res).get b = if b ∈ l then res.get b else H.get b
  | [], _, _, _ => by simp [asgH]
  | a :: l, H, res, b => by
    have ih := asgH_get l (H.set a (res.get a)) res b
    show (asgH (H.set a (res.get a)) l res).get b = _
    rw [ih]
    by_cases h : b ∈ l
    · rw [if_pos h, if_pos (List.mem_cons_of_mem _ h)]
    · rw [if_neg h, Hp.get_set]
      by_cases e : a = b
      · subst e; simp
      · rw [if_neg e, if_neg (by simp; exact ⟨fun e' => e e'.symm, h⟩)]

def eraseH (H : Hp) (l : List Nat) : Hp := l.foldl (fun h b => h.set b none) H
theorem eraseH_get : ∀ (l : List Nat) (H : Hp) (b : Nat), (eraseH H l).get b = if b ∈ l then none else H.get b
  | [], _, _ => by simp [eraseH]
  | a :: l, H, b => by
    have ih := eraseH_get l (H.set a none) b
    show (eraseH (H.set a none) l).get b = _
    rw [ih]
    by_cases h : b ∈ l
    · rw [if_pos h, if_pos (List.mem_cons_of_mem _ h)]
    · rw [if_neg h, Hp.get_set]
      by_cases e : a = b
      · subst e; simp
      · rw [if_neg e, if_neg (by simp; exact ⟨fun e' => e e'.symm, h⟩)]
def restrH (H : Hp) (l : List Nat) : Hp := asgH Hp.emp l H
theorem emp_getN : ∀ (k b : Nat), Hp.getN k Hp.emp b = none
  | 0, _ => rfl
  | k + 1, b => by
    simp only [Hp.getN]
    split
    · rfl
    · split
      · exact emp_getN k _
      · exact emp_getN k _
theorem emp_get (b : Nat) : Hp.emp.get b = none := emp_getN _ _
theorem restrH_get (H : Hp) (l : List Nat) (b : Nat) : (restrH H l).get b = if b ∈ l then H.get b else none := by
  unfold restrH
  rw [asgH_get, emp_get]

def badOf (bi : Nat) (recs : List (Nat × Ent)) : List (Nat × Ent) := recs.filter fun r => !bi.testBit r.1
def idOf (x : AV) : List Nat := if x.t = 3 ∨ x.t = 5 then [x.a] else []
/-- The blocks that an operation looks at. -/
def touchA (T : Tabs) (fr : List AV) (o : Oper) : List Nat := match o.op with
  | .load _ a => idOf (evO T fr a)
  | .store _ a _ => idOf (evO T fr a)
  | .call c => c.args.toList.flatMap fun x => idOf (evO T fr x)
  | _ => []
def viewOf (T : Tabs) (H : Hp) (fr : List AV) (o : Oper) (bad : List (Nat × Ent)) : Option (Hp × Option (List Nat)) := match calleeOf T fr o with
  | some _ => some (eraseH H (bad.flatMap fun r => r.2.asg), none)
  | none => if (touchA T fr o).all (fun t => bad.all fun r => !r.2.asg.contains t) then some (restrH H (touchA T fr o), some (touchA T fr o)) else none
def okLate (ow : List Nat) (bad : List (Nat × Ent)) : Bool := ow.all fun b => bad.all fun r => match r.2.ts with
  | some l => !l.contains b
  | none => false

def dull (e : Ent) : Bool := e.asg.isEmpty && (match e.ts with
  | some l => l.isEmpty
  | none => false)

/-- What is loaded out of cells. -/
def loadCs (ti : TI) (cs : List AV) : Option AV := if ti.kind = 1 ∨ ti.kind = 2 then (if ti.size ≤ cs.length then some (AV.agg (cs.take ti.size)) else none) else cs.head?
theorem loadCs_pre {ti : TI} {cs ws : List AV} {y : AV} (h : cs.take ws.length = ws) (e : loadCs ti ws = some y) : loadCs ti cs = some y := by
  have hl : ws.length ≤ cs.length := by
    have := congrArg List.length h
    simp at this
    omega
  unfold loadCs at e ⊢
  split at e
  · rename_i hk
    rw [if_pos hk]
    split at e
    · rename_i hs
      cases e
      rw [if_pos (by omega)]
      congr 2
      conv => rhs; rw [← h]
      rw [List.take_take, Nat.min_eq_left hs]
    · cases e
  · rename_i hk
    rw [if_neg hk]
    cases ws with
    | nil => cases e
    | cons w ws =>
      cases cs with
      | nil => simp at hl
      | cons c cs =>
        simp at h e
        subst e
        simp [h.1]
/-- A load out of a block that another one writes to: the cells that it loads. -/
def watched (T : Tabs) (H : Hp) (fr : List AV) (o : Oper) : Option (Nat × Nat × List AV × AV) := match o.op with
  | .load t x => if (evO T fr x).t = 3 then (T.tiAt t).bind fun ti => (H.get (evO T fr x).a).bind fun B => (loadCs ti ((B.cs.drop (evO T fr x).b).take ti.size)).map fun y => ((evO T fr x).a, (evO T fr x).b, (B.cs.drop (evO T fr x).b).take ti.size, y) else none
  | _ => none

def stepE (P : Program) (T : Tabs) (call : CallA) (loc : Nat) (ops : Array Oper) (bi : Nat) (o : Oper) (s : Sta) (recs : List (Nat × Ent)) : R (Ent × Sta) :=
  bindR (orErr loc (wantedA ops s.fr o)) fun b => if b then
    match viewOf T s.H s.fr o (badOf bi recs) with
    | none => bindR (orErr (loc + 300) (watched T s.H s.fr o)) fun q => .ok (⟨o, true, q.2.2.2, [], s.H, some [], s.n, s.n, some (q.1, q.2.1, q.2.2.1)⟩, ⟨putA s.fr o.dst q.2.2.2, s.H, s.n, s.wr⟩)
    | some vw => bindR (opA P T call loc vw.1 s.n s.fr o) fun out =>
      if okLate (out.wr.filter fun b => decide (b < s.n)) (badOf bi recs) then .ok (⟨o, true, out.x, (out.wr.filter fun b => decide (b < s.n)) ++ List.range' s.n (out.n - s.n), out.H, vw.2, s.n, out.n, none⟩, ⟨putA s.fr o.dst out.x, asgH s.H ((out.wr.filter fun b => decide (b < s.n)) ++ List.range' s.n (out.n - s.n)) out.H, out.n, (out.wr.filter fun b => decide (b < s.n)) ++ s.wr⟩)
      else .error (loc + 400)
  else .ok (⟨o, false, AV.ex undef, [], s.H, some [], s.n, s.n, none⟩, ⟨putA s.fr o.dst (AV.ex undef), s.H, s.n, s.wr⟩)

def drawGo (P : Program) (T : Tabs) (call : CallA) (loc : Nat) (ops : Array Oper) : List Oper → List Nat → Nat → Sta → List (Nat × Ent) → R (List Ent × Sta)
  | [], _, _, s, _ => .ok ([], s)
  | o :: os, bs, i, s, recs => bindR (stepE P T call (loc + i) ops (bs.headD 0) o s recs) fun r =>
    bindR (drawGo P T call loc ops os bs.tail (i + 1) r.2 (if dull r.1 then recs else (i, r.1) :: recs)) fun q => .ok (r.1 :: q.1, q.2)

/-- The frame, the blocks behind some of them. -/
def frT (E : List Ent) (fr : List AV) : List AV := E.foldl (fun fr e => putA fr e.o.dst e.x) fr
def hpT (E : List Ent) (H : Hp) : Hp := E.foldl (fun H e => asgH H e.asg e.res) H

/-- What holds of an operation behind others. -/
structure GoodAt (P : Program) (T : Tabs) (call : CallA) (loc : Nat) (ops : Array Oper) (bs : List Nat) (s0 : Sta) (i : Nat) (pre : List Ent) (e : Ent) : Prop where
  want : wantedA ops (frT pre s0.fr) e.o = some e.b
  no : e.b = false → e.x = AV.ex undef ∧ e.asg = [] ∧ e.n1 = e.n0
  yes : e.b = true → e.wt = none → ∃ out V, opA P T call (loc + i) V e.n0 (frT pre s0.fr) e.o = .ok out ∧ e.x = out.x ∧ e.res = out.H ∧ e.n1 = out.n ∧ e.asg = (out.wr.filter fun b => decide (b < e.n0)) ++ List.range' e.n0 (e.n1 - e.n0) ∧
    ∀ b B, V.get b = some B → (hpT pre s0.H).get b = some B ∧ (∀ l, e.ts = some l → b ∈ l) ∧ ∀ (j : Nat) (ej : Ent), pre[j]? = some ej → (bs.getD i 0).testBit j = false → b ∉ ej.asg
  wat : ∀ b o ws, e.wt = some (b, o, ws) → e.asg = [] ∧ e.n1 = e.n0 ∧ ∃ t x ti, e.o.op = .load t x ∧ (evO T (frT pre s0.fr) x).t = 3 ∧ (evO T (frT pre s0.fr) x).a = b ∧ (evO T (frT pre s0.fr) x).b = o ∧ T.tiAt t = some ti ∧ loadCs ti ws = some e.x
  late : ∀ (j : Nat) (ej : Ent), pre[j]? = some ej → (bs.getD i 0).testBit j = false → ∀ b ∈ e.asg, b < e.n0 → dull ej = false → ∃ l, ej.ts = some l ∧ b ∉ l
  le : e.n0 ≤ e.n1
  start : s0.n ≤ e.n0
  chain : ∀ (j : Nat) (ej : Ent), pre[j]? = some ej → ej.n1 ≤ e.n0

def GoodL (P : Program) (T : Tabs) (call : CallA) (loc : Nat) (ops : Array Oper) (bs : List Nat) (s0 : Sta) : Nat → List Ent → List Ent → Prop
  | _, _, [] => True
  | i, pre, e :: E => GoodAt P T call loc ops bs s0 i pre e ∧ GoodL P T call loc ops bs s0 (i + 1) (pre ++ [e]) E
theorem GoodL.get {P : Program} {T : Tabs} {call : CallA} {loc : Nat} {ops : Array Oper} {bs : List Nat} {s0 : Sta} : ∀ {E pre : List Ent} {i k : Nat} {e : Ent}, GoodL P T call loc ops bs s0 i pre E → E[k]? = some e → GoodAt P T call loc ops bs s0 (i + k) (pre ++ E.take k) e
  | e0 :: E, pre, i, 0, e, h, hk => by
    simp at hk
    subst hk
    simpa using h.1
  | e0 :: E, pre, i, k + 1, e, h, hk => by
    have := GoodL.get h.2 (k := k) (e := e) (by simpa using hk)
    rw [show i + 1 + k = i + (k + 1) by omega] at this
    simpa using this
  | [], _, _, _, _, _, hk => by simp at hk

theorem frT_snoc (pre : List Ent) (e : Ent) (fr : List AV) : frT (pre ++ [e]) fr = putA (frT pre fr) e.o.dst e.x := by simp [frT, List.foldl_append]
theorem hpT_snoc (pre : List Ent) (e : Ent) (H : Hp) : hpT (pre ++ [e]) H = asgH (hpT pre H) e.asg e.res := by simp [hpT, List.foldl_append]

theorem tail_getD (bs : List Nat) (i : Nat) : bs.tail.getD i 0 = bs.getD (i + 1) 0 := by
  cases bs <;> simp [List.getD_eq_getElem?_getD]
theorem headD_getD (bs : List Nat) : bs.headD 0 = bs.getD 0 0 := by
  cases bs <;> simp [List.getD_eq_getElem?_getD]

theorem drawGo_good {P : Program} {T : Tabs} (hT : TabOk P T) (hz : zeroB T = true) (hNum : noNum P = true) {call : CallA} (hcall : CallOk P T S call) (hbody : ∀ g args H n out, call g args H n = .ok out → hasBody P g = true) {loc : Nat} {ops : Array Oper} {BS : List Nat} {s0 : Sta} :
    ∀ (os : List Oper) (bs : List Nat) (i : Nat) (s : Sta) (recs : List (Nat × Ent)) (E : List Ent) (s' : Sta) (pre : List Ent), drawGo P T call loc ops os bs i s recs = .ok (E, s') → pre.length = i → (∀ k, bs.getD k 0 = BS.getD (i + k) 0) → s.fr = frT pre s0.fr → s.H = hpT pre s0.H → s0.n ≤ s.n → (∀ (j : Nat) (ej : Ent), pre[j]? = some ej → ej.n1 ≤ s.n) →
      (∀ (j : Nat) (ej : Ent), pre[j]? = some ej → dull ej = true ∨ (j, ej) ∈ recs) →
      GoodL P T call loc ops BS s0 i pre E ∧ E.map (·.o) = os ∧ s'.fr = frT (pre ++ E) s0.fr ∧ s'.H = hpT (pre ++ E) s0.H ∧ s.n ≤ s'.n ∧ (∀ e ∈ E, e.n1 ≤ s'.n) ∧ (∀ b, b ∈ s.wr → b ∈ s'.wr) ∧ (∀ e ∈ E, ∀ b ∈ e.asg, b < e.n0 → b ∈ s'.wr) ∧ (∀ b ∈ s'.wr, b ∈ s.wr ∨ ∃ e ∈ E, b ∈ e.asg ∧ b < e.n0)
  | [], bs, i, s, recs, E, s', pre, h, hl, hbs, hfr, hH, hs0, hn, hrec => by
    simp only [drawGo, Except.ok.injEq, Prod.mk.injEq] at h
    obtain ⟨rfl, rfl⟩ := h
    exact ⟨trivial, rfl, by simpa using hfr, by simpa using hH, Nat.le_refl _, fun e he => (by cases he), fun _ h => h, fun e he => (by cases he), fun b hb => Or.inl hb⟩
  | o :: os, bs, i, s, recs, E, s', pre, h, hl, hbs, hfr, hH, hs0, hn, hrec => by
    simp only [drawGo] at h
    obtain ⟨⟨e, s1⟩, h1, h⟩ := bindR_ok h
    obtain ⟨⟨E', s2⟩, h2, h⟩ := bindR_ok h
    simp only [Except.ok.injEq, Prod.mk.injEq] at h
    obtain ⟨rfl, rfl⟩ := h
    have hb0 : bs.headD 0 = BS.getD i 0 := by rw [headD_getD, hbs 0, Nat.add_zero]
    unfold stepE at h1
    obtain ⟨b, w1, h1⟩ := bindR_ok h1
    have w1 := orErr_ok w1
    have hbad : ∀ (j : Nat) (ej : Ent), pre[j]? = some ej → (BS.getD i 0).testBit j = false → dull ej = false → (j, ej) ∈ badOf (bs.headD 0) recs := by
      intro j ej hj ht hd
      rcases hrec j ej hj with h9 | h9
      · rw [h9] at hd; cases hd
      · exact List.mem_filter.2 ⟨h9, by rw [hb0]; simp only [ht]; rfl⟩
    have key : e.o = o ∧ GoodAt P T call loc ops BS s0 i pre e ∧ e.n0 = s.n ∧ e.n1 = s1.n ∧ s1.fr = putA s.fr e.o.dst e.x ∧ s1.H = asgH s.H e.asg e.res ∧ s.n ≤ s1.n ∧ (∀ b, b ∈ s.wr → b ∈ s1.wr) ∧ (∀ b ∈ e.asg, b < e.n0 → b ∈ s1.wr) ∧ (∀ b ∈ s1.wr, b ∈ s.wr ∨ (b ∈ e.asg ∧ b < e.n0)) := by
      cases b with
      | false =>
        simp only [Bool.false_eq_true, if_false, Except.ok.injEq, Prod.mk.injEq] at h1
        obtain ⟨rfl, rfl⟩ := h1
        refine ⟨rfl, ⟨by rw [← hfr]; exact w1, fun _ => ⟨rfl, rfl, rfl⟩, fun e => (by cases e), fun _ _ _ e => (by cases e), fun _ _ _ _ b hb => (by cases hb), Nat.le_refl _, hs0, fun j ej hj => hn j ej hj⟩, rfl, rfl, rfl, rfl, Nat.le_refl _, fun _ h => h, fun _ h => (by cases h), fun _ h => Or.inl h⟩
      | true =>
        simp only [if_true] at h1
        split at h1
        · obtain ⟨q, w2, h1⟩ := bindR_ok h1
          have w2 := orErr_ok w2
          simp only [Except.ok.injEq, Prod.mk.injEq] at h1
          obtain ⟨rfl, rfl⟩ := h1
          refine ⟨rfl, ⟨by rw [← hfr]; exact w1, fun e => (by cases e), fun _ e => (by cases e), fun b o' ws e => ?_, fun _ _ _ _ b hb => (by cases hb), Nat.le_refl _, hs0, fun j ej hj => hn j ej hj⟩, rfl, rfl, rfl, rfl, Nat.le_refl _, fun _ h => h, fun _ h => (by cases h), fun _ h => Or.inl h⟩
          simp only [Option.some.injEq, Prod.mk.injEq] at e
          obtain ⟨rfl, rfl, rfl⟩ := e
          unfold watched at w2
          split at w2
          · rename_i t x ho
            split at w2
            · rename_i ht
              obtain ⟨ti, k1, w2⟩ := Option.bind_eq_some_iff.1 w2
              obtain ⟨B, k2, w2⟩ := Option.bind_eq_some_iff.1 w2
              obtain ⟨y, k3, rfl⟩ := Option.map_eq_some_iff.1 w2
              exact ⟨rfl, rfl, t, x, ti, ho, by rw [← hfr]; exact ht, by rw [← hfr], by rw [← hfr], k1, k3⟩
            · cases w2
          · cases w2
        rename_i vw w2
        obtain ⟨out, w3, h1⟩ := bindR_ok h1
        have hti := (opA_ok hT hz hNum hcall hbody w3).1
        split at h1
        · rename_i hlate
          simp only [Except.ok.injEq, Prod.mk.injEq] at h1
          obtain ⟨rfl, rfl⟩ := h1
          refine ⟨rfl, ⟨by rw [← hfr]; exact w1, fun e => (by cases e), fun _ _ => ⟨out, vw.1, by rw [← hfr]; exact w3, rfl, rfl, rfl, rfl, fun b B hV => ?_⟩, fun _ _ _ e => (by cases e), fun j ej hj ht b hb hlt hd => ?_, hti.le, hs0, fun j ej hj => hn j ej hj⟩, rfl, rfl, rfl, rfl, hti.le, fun _ h => List.mem_append_right _ h, fun b hb hlt => ?_, fun b hb => ?_⟩
          · unfold viewOf at w2
            split at w2
            · cases w2
              rw [eraseH_get] at hV
              split at hV
              · cases hV
              · rename_i hnb
                refine ⟨by rw [← hH]; exact hV, fun l hl => (by cases hl), fun j ej hj ht hba => hnb (List.mem_flatMap.2 ⟨(j, ej), hbad j ej hj ht ?_, hba⟩)⟩
                unfold dull
                cases hA : ej.asg with
                | nil => rw [hA] at hba; cases hba
                | cons x xs => simp
            · split at w2
              · rename_i hall
                cases w2
                rw [restrH_get] at hV
                split at hV
                · rename_i hts
                  refine ⟨by rw [← hH]; exact hV, fun l hl => (by cases hl; exact hts), fun j ej hj ht hba => ?_⟩
                  have hd : dull ej = false := by
                    unfold dull
                    cases hA : ej.asg with
                    | nil => rw [hA] at hba; cases hba
                    | cons x xs => simp
                  have h9 := List.all_eq_true.1 (List.all_eq_true.1 hall b hts) (j, ej) (hbad j ej hj ht hd)
                  simp at h9
                  exact h9 hba
                · cases hV
              · cases w2
          · have hb2 : b ∈ out.wr.filter fun b => decide (b < s.n) := by
              rcases List.mem_append.1 hb with h9 | h9
              · exact h9
              · have h8 := List.mem_range'_1.1 h9
                have h7 : b < s.n := hlt
                omega
            have h9 := List.all_eq_true.1 (List.all_eq_true.1 hlate b hb2) (j, ej) (hbad j ej hj ht hd)
            cases hts : ej.ts with
            | none => simp [hts] at h9
            | some l => simp [hts] at h9; exact ⟨l, rfl, h9⟩
          · rcases List.mem_append.1 hb with h9 | h9
            · exact List.mem_append_left _ h9
            · have h8 := List.mem_range'_1.1 h9
              have h7 : b < s.n := hlt
              omega
          · rcases List.mem_append.1 hb with h9 | h9
            · exact Or.inr ⟨List.mem_append_left _ h9, of_decide_eq_true (List.mem_filter.1 h9).2⟩
            · exact Or.inl h9
        · cases h1
    obtain ⟨ko, kg, kn0, kn1, kfr, kH, kle, kw1, kw2, kw3⟩ := key
    have hpre : ∀ {j : Nat} {ej : Ent}, (pre ++ [e])[j]? = some ej → pre[j]? = some ej ∨ (j = i ∧ ej = e) := by
      intro j ej hj
      rcases Nat.lt_or_ge j pre.length with hlt | hge
      · rw [List.getElem?_append_left hlt] at hj; exact Or.inl hj
      · rw [List.getElem?_append_right hge] at hj
        rcases Nat.eq_zero_or_pos (j - pre.length) with h0 | h0
        · rw [h0] at hj; simp at hj; exact Or.inr ⟨by omega, hj.symm⟩
        · rw [List.getElem?_eq_none (by simp; omega)] at hj; cases hj
    obtain ⟨r1, r2, r3, r4, r5, r6, r7, r8, r9⟩ := drawGo_good (BS := BS) (s0 := s0) hT hz hNum hcall hbody os bs.tail (i + 1) s1 _ E' s2 (pre ++ [e]) h2 (by simp [hl]) (fun k => by rw [tail_getD, hbs (k + 1)]; congr 1; omega) (by rw [frT_snoc, kfr, hfr]) (by rw [hpT_snoc, kH, hH]) (by omega) (fun j ej hj => by
      rcases hpre hj with h9 | ⟨_, rfl⟩
      · have := hn j ej h9; omega
      · omega) (fun j ej hj => by
      rcases hpre hj with h9 | ⟨rfl, rfl⟩
      · rcases hrec j ej h9 with h8 | h8
        · exact Or.inl h8
        · refine Or.inr ?_
          split
          · exact h8
          · exact List.mem_cons_of_mem _ h8
      · cases hd : dull ej with
        | true => exact Or.inl rfl
        | false =>
          refine Or.inr ?_
          simp)
    refine ⟨⟨kg, r1⟩, by simp [ko, r2], by rw [r3]; simp, by rw [r4]; simp, by omega, fun e' he' => ?_, fun b hb => r7 b (kw1 b hb), fun e' he' b hb hlt => ?_, fun b hb => ?_⟩
    · rcases List.mem_cons.1 he' with rfl | h9
      · omega
      · exact r6 e' h9
    · rcases List.mem_cons.1 he' with rfl | h9
      · exact r7 b (kw2 b hb hlt)
      · exact r8 e' h9 b hb hlt
    · rcases r9 b hb with h9 | ⟨e', h8, h9⟩
      · rcases kw3 b h9 with h7 | h7
        · exact Or.inl h7
        · exact Or.inr ⟨e, List.mem_cons_self .., h7⟩
      · exact Or.inr ⟨e', List.mem_cons_of_mem _ h8, h9⟩
#print axioms drawGo_good
end Go.Proofs.YtleigggcnkacjaaDoor.Ab
