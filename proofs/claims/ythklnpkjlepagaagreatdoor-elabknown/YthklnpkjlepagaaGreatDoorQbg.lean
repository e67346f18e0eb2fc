/- Structs, arrays, rows that are made of parts: where each part goes is reckoned once. -/
import Derived.Test.YthklnpkjlepagaaGreatDoorQbf
namespace Go.Proofs.YthklnpkjlepagaaGreatDoor.Ab
open Go.RowKit
variable {S : Nat → Value}

theorem setAll_mid : ∀ (ks done rest : List AV), ks.length ≤ rest.length → setAll (done ++ rest) done.length ks = done ++ ks ++ rest.drop ks.length
  | [], done, rest, _ => by simp [setAll]
  | x :: xs, done, [], h => by simp at h
  | x :: xs, done, r :: rs, h => by
    simp only [setAll]
    have e1 : (done ++ r :: rs).set done.length x = (done ++ [x]) ++ rs := by
      rw [List.set_append_right _ _ (Nat.le_refl _), Nat.sub_self]
      simp
    have e2 := setAll_mid xs (done ++ [x]) rs (by simpa using h)
    rw [List.length_append, List.length_singleton] at e2
    rw [e1, e2]
    simp

/-- What stands in the cells: what stood there, or a part of so many. -/
structure Item where
  z : AV
  k : Nat
  x : Operand
/-- Zs, from the place i on, so many of them taken already. -/
def mergeS (place : Nat → Option (Nat × Nat)) : List AV → Nat → Nat → List (Nat × Operand) → Option (List Item)
  | [], _, 0, [] => some []
  | [], _, _, _ => none
  | _ :: zs, i, sk + 1, ps => mergeS place zs (i + 1) sk ps
  | z :: zs, i, 0, [] => (mergeS place zs (i + 1) 0 []).map fun r => ⟨z, 0, .func 0⟩ :: r
  | z :: zs, i, 0, p :: ps => match place p.1 with
    | some (off, k + 1) => if off = i then (mergeS place zs (i + 1) k ps).map fun r => ⟨z, k + 1, p.2⟩ :: r else (mergeS place zs (i + 1) 0 (p :: ps)).map fun r => ⟨z, 0, .func 0⟩ :: r
    | _ => none
structure OuC where
  g : Fr → Option (List AV)
def partC (T : Tabs) (k : Nat) (x : Operand) (r : OuC) : OuC := if k = 1 then ⟨fun fr => ifB (scal ((evC T x).g fr)) (opt (r.g fr) fun l => some ((evC T x).g fr :: l)) none⟩ else ⟨fun fr => opt (cellsF ((evC T x).g fr)) fun ks => ifB ((lenC k).f ks) (opt (r.g fr) fun l => some ((tkaC k).f ks l)) none⟩
def outC (T : Tabs) : List Item → OuC
  | [] => ⟨fun _ => some []⟩
  | p :: r => Nat.casesOn p.k ⟨fun fr => opt ((outC T r).g fr) fun l => some (p.z :: l)⟩ fun k => partC T (Nat.succ k) p.x (outC T r)
theorem mergeS_le {place : Nat → Option (Nat × Nat)} : ∀ (zs : List AV) (i sk : Nat) (ps : List (Nat × Operand)) (r : List Item), mergeS place zs i sk ps = some r → sk ≤ zs.length
  | [], _, 0, [], _, _ => Nat.le_refl _
  | [], _, 0, _ :: _, _, h => by simp [mergeS] at h
  | [], _, _ + 1, _, _, h => by simp [mergeS] at h
  | _ :: zs, i, sk + 1, ps, r, h => by
    simp only [mergeS] at h
    have := mergeS_le zs (i + 1) sk ps r h
    simp
    omega
  | _ :: _, _, 0, _, _, _ => Nat.zero_le _
theorem part_out {T : Tabs} {k : Nat} {x : Operand} {r : OuC} {fr : Fr} {out : List AV} (h : (partC T k x r).g fr = some out) : ∃ ks l, (evO T fr x).cells = some ks ∧ ks.length = k ∧ r.g fr = some l ∧ out = ks ++ l := by
  unfold partC at h
  split at h
  · rename_i hk
    simp only [evC_eq, opt_eq, ifB_eq] at h
    split at h
    · rename_i hs
      obtain ⟨l, h1, h2⟩ := Option.bind_eq_some_iff.1 h
      cases h2
      exact ⟨_, l, (scal_ok hs).1, by rw [hk]; rfl, h1, rfl⟩
    · cases h
  · simp only [evC_eq, opt_eq, ifB_eq, cellsF_eq] at h
    obtain ⟨ks, h1, h2⟩ := Option.bind_eq_some_iff.1 h
    split at h2
    · rename_i hl
      rw [lenC_eq] at hl
      obtain ⟨l, h3, h4⟩ := Option.bind_eq_some_iff.1 h2
      cases h4
      refine ⟨ks, l, h1, of_decide_eq_true hl, h3, ?_⟩
      rw [tkaC_eq, ← of_decide_eq_true hl, List.take_length]
    · cases h2

theorem merge_ok {T : Tabs} {place : Nat → Option (Nat × Nat)} {fr : Fr} : ∀ (zs : List AV) (i sk : Nat) (ps : List (Nat × Operand)) (r : List Item) (done cv out : List AV), mergeS place zs i sk ps = some r → (outC T r).g fr = some out → done.length = i → cv.length = sk → fillA place (done ++ cv ++ zs.drop sk) (ps.map fun p => (p.1, evO T fr p.2)) = some (done ++ cv ++ out)
  | [], i, 0, [], r, done, cv, out, h, ho, hd, hc => by
    simp only [mergeS, Option.some.injEq] at h
    subst h
    have ho : some [] = some out := ho
    cases ho
    simp [fillA]
  | [], i, 0, _ :: _, _, _, _, _, h, _, _, _ => by simp [mergeS] at h
  | [], i, _ + 1, _, _, _, _, _, h, _, _, _ => by simp [mergeS] at h
  | z :: zs, i, sk + 1, ps, r, done, [], out, h, ho, hd, hc => by simp at hc
  | z :: zs, i, sk + 1, ps, r, done, c :: cv, out, h, ho, hd, hc => by
    simp only [mergeS] at h
    have := merge_ok zs (i + 1) sk ps r (done ++ [c]) cv out h ho (by simp [hd]) (by simpa using hc)
    simpa using this
  | z :: zs, i, 0, [], r, done, cv, out, h, ho, hd, hc => by
    obtain rfl := List.eq_nil_of_length_eq_zero hc
    simp only [mergeS] at h
    obtain ⟨r', h1, rfl⟩ := Option.map_eq_some_iff.1 h
    have ho : opt ((outC T r').g fr) (fun l => some (z :: l)) = some out := ho
    rw [opt_eq] at ho
    obtain ⟨l, h2, h3⟩ := Option.bind_eq_some_iff.1 ho
    cases h3
    have := merge_ok zs (i + 1) 0 [] r' (done ++ [z]) [] l h1 h2 (by simp [hd]) rfl
    simpa using this
  | z :: zs, i, 0, p :: ps, r, done, cv, out, h, ho, hd, hc => by
    obtain rfl := List.eq_nil_of_length_eq_zero hc
    simp only [mergeS] at h
    split at h
    · rename_i off k hp
      split at h
      · rename_i ho1
        subst ho1
        obtain ⟨r', h1, rfl⟩ := Option.map_eq_some_iff.1 h
        have ho : (partC T (Nat.succ k) p.2 (outC T r')).g fr = some out := ho
        obtain ⟨ks, l, h2, h3, h4, rfl⟩ := part_out ho
        have hle := mergeS_le _ _ _ _ _ h1
        match ks, h3 with
        | c :: cv, h3 =>
          have ih := merge_ok zs (off + 1) k ps r' (done ++ [c]) cv l h1 h4 (by simp [hd]) (by simpa using h3)
          simp only [List.map_cons, fillA]
          rw [hp, Option.bind_some, h2, Option.bind_some]
          simp only [List.append_nil, List.drop_zero]
          have e := setAll_mid (c :: cv) done (z :: zs) (by simp at h3 ⊢; omega)
          rw [hd] at e
          rw [if_pos ⟨h3, by simp at h3 ⊢; omega⟩, e]
          have e2 : (z :: zs).drop (c :: cv).length = zs.drop k := by
            rw [h3]
            rfl
          rw [e2]
          simpa using ih
        | [], h3 => simp at h3
      · rename_i ho1
        obtain ⟨r', h1, rfl⟩ := Option.map_eq_some_iff.1 h
        have ho : opt ((outC T r').g fr) (fun l => some (z :: l)) = some out := ho
        rw [opt_eq] at ho
        obtain ⟨l, h2, h3⟩ := Option.bind_eq_some_iff.1 ho
        cases h3
        have := merge_ok zs (i + 1) 0 (p :: ps) r' (done ++ [z]) [] l h1 h2 (by simp [hd]) rfl
        simpa using this
    · cases h

structure VaC where
  g : Hp → Fr → Option AV
/-- Parts of a struct, an array. -/
def bdC (T : Tabs) (t : Nat) (ps : List (Nat × Operand)) : VaC := match T.tiAt t with
  | some ti => if ti.kind = 1 then (match placesA T ti.fields with
    | some qs => (match mergeS (fun i => qs[i]?) (exZ ti) 0 0 ps with
      | some r => ⟨fun _ fr => optD ((outC T r).g fr) (xBuild T t ((epsC T ps).g fr)) fun l => some (AV.agg l)⟩
      | none => ⟨fun _ fr => xBuild T t ((epsC T ps).g fr)⟩)
    | none => ⟨fun _ _ => none⟩)
    else if ti.kind = 2 then (match T.tiAt ti.elem with
    | some te => (match mergeS (fun i => some (i * te.size, te.size)) (exZ ti) 0 0 ps with
      | some r => ⟨fun _ fr => optD ((outC T r).g fr) (xBuild T t ((epsC T ps).g fr)) fun l => some (AV.agg l)⟩
      | none => ⟨fun _ fr => xBuild T t ((epsC T ps).g fr)⟩)
    | none => ⟨fun _ _ => none⟩)
    else ⟨fun _ _ => none⟩
  | none => ⟨fun _ _ => none⟩
theorem bdC_eq (T : Tabs) (t : Nat) (ps : List (Nat × Operand)) (H : Hp) (fr : Fr) : (bdC T t ps).g H fr = xBuild T t (ps.map fun p => (p.1, evO T fr p.2)) := by
  unfold bdC
  cases h1 : T.tiAt t with
  | none => simp [xBuild, h1]
  | some ti =>
    simp only
    split
    · rename_i hk
      cases h2 : placesA T ti.fields with
      | none => simp [xBuild, h1, hk, h2]
      | some qs =>
        simp only
        cases h3 : mergeS (fun i => qs[i]?) (exZ ti) 0 0 ps with
        | none => simp only [epsC_eq]
        | some r =>
          simp only [epsC_eq]
          cases h4 : (outC T r).g fr with
          | none => rfl
          | some l =>
            rw [optD_some]
            have := merge_ok _ _ _ _ _ [] [] l h3 h4 rfl rfl
            simp only [List.append_nil, List.nil_append, List.drop_zero] at this
            simp only [xBuild, h1, Option.bind_some, if_pos hk, h2, this]
            rfl
    · rename_i hk
      split
      · rename_i hk2
        cases h2 : T.tiAt ti.elem with
        | none => simp [xBuild, h1, hk2, h2]
        | some te =>
          simp only
          cases h3 : mergeS (fun i => some (i * te.size, te.size)) (exZ ti) 0 0 ps with
          | none => simp only [epsC_eq]
          | some r =>
            simp only [epsC_eq]
            cases h4 : (outC T r).g fr with
            | none => rfl
            | some l =>
              rw [optD_some]
              have := merge_ok _ _ _ _ _ [] [] l h3 h4 rfl rfl
              simp only [List.append_nil, List.nil_append, List.drop_zero] at this
              simp only [xBuild, h1, Option.bind_some, if_neg hk, if_pos hk2, h2, this]
              rfl
      · rename_i hk2
        simp [xBuild, h1, hk, hk2]
structure MbC where
  f : Hp → Nat → Fr → Option Out
def bsC (T : Tabs) (t len : Nat) (ps : List (Nat × Operand)) : VaC := match T.tiAt t with
  | some ti => if ti.kind = 3 then (match T.tiAt ti.elem with
    | some te => if 0 < te.size ∧ len * te.size ≤ 16777216 then (match mergeS (fun i => some (i * te.size, te.size)) ((List.range (len * te.size)).map fun i => AV.ex (zv (te.zero.getD (i % te.zero.length) 1))) 0 0 ps with
      | some r => ⟨fun _ fr => optD ((outC T r).g fr) (xRow T t len ((epsC T ps).g fr)) fun l => some (AV.row len te.size l)⟩
      | none => ⟨fun _ fr => xRow T t len ((epsC T ps).g fr)⟩) else ⟨fun _ _ => none⟩
    | none => ⟨fun _ _ => none⟩) else ⟨fun _ _ => none⟩
  | none => ⟨fun _ _ => none⟩
theorem bsC_eq (T : Tabs) (t len : Nat) (ps : List (Nat × Operand)) (H : Hp) (fr : Fr) : (bsC T t len ps).g H fr = xRow T t len (ps.map fun p => (p.1, evO T fr p.2)) := by
  unfold bsC
  cases h1 : T.tiAt t with
  | none => simp [xRow, h1]
  | some ti =>
    simp only
    split
    · rename_i hk
      cases h2 : T.tiAt ti.elem with
      | none => simp [xRow, h1, hk, h2]
      | some te =>
        simp only
        split
        · rename_i hl
          cases h3 : mergeS (fun i => some (i * te.size, te.size)) ((List.range (len * te.size)).map fun i => AV.ex (zv (te.zero.getD (i % te.zero.length) 1))) 0 0 ps with
          | none => simp only [epsC_eq]
          | some r =>
            simp only [epsC_eq]
            cases h4 : (outC T r).g fr with
            | none => rfl
            | some l =>
              rw [optD_some]
              have := merge_ok _ _ _ _ _ [] [] l h3 h4 rfl rfl
              simp only [List.append_nil, List.nil_append, List.drop_zero] at this
              simp only [xRow, h1, Option.bind_some, if_pos hk, h2, if_pos hl, this]
              rfl
        · rename_i hl
          simp [xRow, h1, hk, h2]
          intro a b
          exact absurd ⟨by simpa using a, b⟩ hl
    · rename_i hk
      simp [xRow, h1, hk]
/-- A row, as it is made. -/
def bmC (T : Tabs) (t len : Nat) (ps : List (Nat × Operand)) : MbC := if isRows T t then ⟨fun H n fr => opt ((bsC T t len ps).g H fr) fun y => natL n fun n => some ⟨AV.sl n 0 y.c y.d, hpS H n (some ⟨elemT T t, y.ks⟩), Nat.succ n, 0⟩⟩ else ⟨fun H n fr => opt ((bsC T t len ps).g H fr) fun y => some ⟨y, H, n, 0⟩⟩
theorem bmC_eq (T : Tabs) (t len : Nat) (ps : List (Nat × Operand)) (H : Hp) (n : Nat) (fr : Fr) : (bmC T t len ps).f H n fr = xBuildSlice T H n t len (ps.map fun p => (p.1, evO T fr p.2)) := by
  unfold bmC xBuildSlice
  by_cases hr : isRows T t = true
  · rw [if_pos hr]
    simp only [opt_eq, bsC_eq, natL_eq, hpS_eq, if_pos hr]
    cases xRow T t len (ps.map fun p => (p.1, evO T fr p.2)) <;> rfl
  · rw [if_neg hr]
    simp only [opt_eq, bsC_eq, if_neg hr]
    cases xRow T t len (ps.map fun p => (p.1, evO T fr p.2)) <;> rfl
#print axioms bmC_eq
end Go.Proofs.YthklnpkjlepagaaGreatDoor.Ab
