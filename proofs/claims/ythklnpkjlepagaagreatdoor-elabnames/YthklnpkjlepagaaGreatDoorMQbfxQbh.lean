/- Qbf, Qbg, Qbh: the texts of these names, one behind the other. -/
import Derived.Test.YthklnpkjlepagaaGreatDoorQbe
namespace Go.Proofs.YthklnpkjlepagaaGreatDoor.Ab
open Go.RowKit
variable {S : Nat → Value}

def boolF (x : AV) : Option Bool := ifB (Nat.beq x.t 0) (match x.v with
  | .bool b => some b
  | _ => none) none
theorem boolF_eq (x : AV) : boolF x = x.bool := by
  unfold boolF
  rw [ifE]
  rfl
def nlF (x : AV) : Option AV := ifB (Nat.beq x.t 3) (some x) (xNilCheck x)
theorem nlF_eq (x : AV) : nlF x = xNilCheck x := by
  unfold nlF
  rw [ifE]
  split
  · rename_i h
    unfold xNilCheck
    rw [if_pos (Or.inl h)]
  · rfl

/-- Cells, again and again. -/
structure RpC where
  l : List AV
def repC (k : Nat) (zs : List AV) : Nat → RpC
  | 0 => ⟨[]⟩
  | n + 1 => ⟨(tkaC k).f zs (repC k zs n).l⟩
theorem repC_eq (k : Nat) (zs : List AV) (hk : zs.length = k) : ∀ n, (repC k zs n).l = (List.replicate n zs).flatten
  | 0 => rfl
  | n + 1 => by
    show (tkaC k).f zs (repC k zs n).l = _
    rw [tkaC_eq, repC_eq k zs hk n, ← hk, List.take_length, List.replicate_succ, List.flatten_cons]
theorem range_rep {α : Type} (zs : List Nat) (g : Nat → α) : ∀ n, ((List.range (n * zs.length)).map fun i => g (zs.getD (i % zs.length) 1)) = (List.replicate n (zs.map g)).flatten
  | 0 => by simp
  | n + 1 => by
    rw [List.replicate_succ, List.flatten_cons, ← range_rep zs g n, show (n + 1) * zs.length = zs.length + n * zs.length by rw [Nat.add_mul]; omega, List.range_add, List.map_append]
    congr 1
    · apply List.ext_getElem
      · simp
      · intro i h1 h2
        simp at h1 h2
        simp only [List.getElem_map, List.getElem_range, Nat.mod_eq_of_lt h1, List.getD_eq_getElem?_getD, List.getElem?_eq_getElem h1, Option.getD_some]
    · rw [List.map_map]
      congr 1
      funext i
      simp [Nat.add_mod_left]
structure MkC where
  f : Hp → Nat → AV → AV → Option Out
def mkC (T : Tabs) (t : Nat) : MkC := match T.tiAt t with
  | some ti => if ti.kind = 3 then (match T.tiAt ti.elem with
    | some te => if te.zero.length = te.size then ⟨fun H n l c => optD (intN l) (xMake T H n t l c) fun i => optD (intN c) (xMake T H n t l c) fun j => ifB (Nat.ble i j) (ifB (Nat.ble j 1000000) (ifB (Nat.ble (Nat.mul te.bytes j) 281474976710656) (natL n fun n => some ⟨AV.sl n 0 i te.size, hpS H n (some ⟨ti.elem, natL j fun j => (repC te.size (te.zero.map fun c => AV.ex (zv c)) j).l⟩), Nat.succ n, 0⟩) none) none) none⟩ else ⟨fun H n l c => xMake T H n t l c⟩
    | none => ⟨fun _ _ _ _ => none⟩) else ⟨fun _ _ _ _ => none⟩
  | none => ⟨fun _ _ _ _ => none⟩
theorem mkC_eq (T : Tabs) (t : Nat) (H : Hp) (n : Nat) (l c : AV) : (mkC T t).f H n l c = xMake T H n t l c := by
  unfold mkC
  cases h1 : T.tiAt t with
  | none => simp [xMake, h1]
  | some ti =>
    simp only
    split
    · rename_i hk
      cases h2 : T.tiAt ti.elem with
      | none => simp [xMake, h1, hk, h2]
      | some te =>
        simp only
        split
        · rename_i hz
          simp only
          cases hi : intN l with
          | none => rfl
          | some i =>
            rw [optD_some]
            cases hj : intN c with
            | none => rfl
            | some j =>
              rw [optD_some]
              simp only [xMake, h1, h2, if_pos hk, intN_some hi, intN_some hj, Option.bind_some, ifL, natL_eq, hpS_eq]
              have hb : ((te.bytes : Int) * (j : Int) ≤ 281474976710656) ↔ Nat.mul te.bytes j ≤ 281474976710656 := by
                show _ ↔ te.bytes * j ≤ 281474976710656
                rw [← Int.natCast_mul]
                omega
              have hc : ((0 : Int) ≤ (i : Int) ∧ (i : Int) ≤ (j : Int) ∧ (j : Int) ≤ 1000000 ∧ (te.bytes : Int) * (j : Int) ≤ 281474976710656) ↔ (i ≤ j ∧ j ≤ 1000000 ∧ Nat.mul te.bytes j ≤ 281474976710656) := by
                rw [hb]
                omega
              simp only [hc]
              by_cases h3 : i ≤ j
              · by_cases h4 : j ≤ 1000000
                · by_cases h5 : Nat.mul te.bytes j ≤ 281474976710656
                  · rw [if_pos h3, if_pos h4, if_pos h5, if_pos ⟨h3, h4, h5⟩]
                    rw [repC_eq _ _ (by simp [hz]), ← range_rep, hz]
                    rfl
                  · rw [if_pos h3, if_pos h4, if_neg h5, if_neg (fun g => h5 g.2.2)]
                · rw [if_pos h3, if_neg h4, if_neg (fun g => h4 g.2.1)]
              · rw [if_neg h3, if_neg (fun g => h3 g.1)]
        · rfl
    · rename_i hk
      simp [xMake, h1, hk]

/-- Conversions of numbers. -/
structure CvC where
  f : Hp → AV → Option AV
def xConv (P : Program) (T : Tabs) (H : Hp) (s d : Nat) (x : AV) : Option AV := match x.exact with
    | some v => (pureRun P (convert s d v)).map ofV
    | none => xBytes P T H s d x
def small (x : AV) : Option Nat := opt (intN x) fun n => ifB (Nat.ble n 127) (some n) none
def cvC (P : Program) (T : Tabs) (s d : Nat) : CvC := match P.underlying s, P.underlying d with
  | some _, some (.int kd) => ⟨fun H x => optD (small x) (xConv P T H s d x) fun n => some (AV.ex (.int kd (.ofNat n)))⟩
  | _, _ => ⟨fun H x => xConv P T H s d x⟩
theorem wrap_small (k : IntKind) {n : Nat} (h : n ≤ 127) : k.wrap (n : Int) = n := by
  unfold IntKind.wrap
  have e1 : ((n : Int) % (2 ^ k.bits : Int)) = n := Int.emod_eq_of_lt (by omega) (by cases k <;> simp only [IntKind.bits] <;> omega)
  simp only [e1]
  have h2 : ¬ ((n : Int) ≥ (2 ^ (k.bits - 1) : Int)) := by cases k <;> simp only [IntKind.bits] <;> omega
  simp only [h2, decide_false, Bool.and_false, Bool.false_eq_true, if_false]
theorem pure_conv {P : Program} {s d : Nat} {ds : TypeDesc} {kd k : IntKind} {n : Int} (h1 : P.underlying s = some ds) (h2 : P.underlying d = some (.int kd)) : pureRun P (convert s d (.int k n)) = some (.int kd (kd.wrap n)) := by
  have e : ∀ {α : Type} (t : Nat) (d : TypeDesc) (f : TypeDesc → Sem α), P.underlying t = some d → pureRun P (underlying t >>= f) = pureRun P (f d) := by
    intro α t d f h
    show pureRun P ((match P.underlying t with
      | some d => pure d
      | none => stuck "no such type" : Sem TypeDesc) >>= f) = _
    rw [h]
    rfl
  unfold convert
  rw [e s ds _ h1, e d (.int kd) _ h2]
  rfl
theorem cvC_eq (P : Program) (T : Tabs) (H : Hp) (s d : Nat) (x : AV) : (cvC P T s d).f H x = xConv P T H s d x := by
  unfold cvC
  split
  · rename_i ds kd h1 h2
    simp only
    cases hs : small x with
    | none => rfl
    | some n =>
      rw [optD_some]
      unfold small at hs
      rw [opt_eq] at hs
      obtain ⟨m, h3, h4⟩ := Option.bind_eq_some_iff.1 hs
      rw [ifL] at h4
      split at h4
      · rename_i h5
        cases h4
        have h6 : ∃ k, x.exact = some (.int k (n : Int)) := by
          unfold intN at h3
          rw [ifE] at h3
          unfold AV.exact
          split at h3
          · rename_i h0
            rw [if_pos h0]
            split at h3
            · rename_i k m' hv
              cases h3
              exact ⟨k, by rw [hv]; rfl⟩
            · cases h3
          · cases h3
        obtain ⟨k, h6⟩ := h6
        unfold xConv
        rw [h6]
        simp only [pure_conv h1 h2, wrap_small kd h5]
        rfl
      · cases h4
  · rfl
end Go.Proofs.YthklnpkjlepagaaGreatDoor.Ab
namespace Go.Proofs.YthklnpkjlepagaaGreatDoor.Ab
open Go.RowKit
variable {S : Nat → Value}

theorem setAll_mid : ∀ (ks done rest : List AV), ks.length ≤ rest.length → setAll (done ++ rest) done.length ks = done ++ ks ++ rest.drop ks.length
  | [], done, rest, _ => by simp [setAll]
  | x :: xs, done, [], h => by simp at h
  | x :: xs, done, r :: rs, h => by
    simp only [setAll]
    have e1 : (done ++ r :: rs).set done.length x = (done ++ [x]) ++ rs := by
      rw [List.set_append_right _ _ (Nat.le_refl _), Nat.sub_self]
      simp
    have e2 := setAll_mid xs (done ++ [x]) rs (by simpa using h)
    rw [List.length_append, List.length_singleton] at e2
    rw [e1, e2]
    simp

/-- What stands in the cells: what stood there, or a part of so many. -/
structure Item where
  z : AV
  k : Nat
  x : Operand
/-- Zs, from the place i on, so many of them taken already. -/
def mergeS (place : Nat → Option (Nat × Nat)) : List AV → Nat → Nat → List (Nat × Operand) → Option (List Item)
  | [], _, 0, [] => some []
  | [], _, _, _ => none
  | _ :: zs, i, sk + 1, ps => mergeS place zs (i + 1) sk ps
  | z :: zs, i, 0, [] => (mergeS place zs (i + 1) 0 []).map fun r => ⟨z, 0, .func 0⟩ :: r
  | z :: zs, i, 0, p :: ps => match place p.1 with
    | some (off, k + 1) => if off = i then (mergeS place zs (i + 1) k ps).map fun r => ⟨z, k + 1, p.2⟩ :: r else (mergeS place zs (i + 1) 0 (p :: ps)).map fun r => ⟨z, 0, .func 0⟩ :: r
    | _ => none
structure OuC where
  g : Fr → Option (List AV)
def partC (T : Tabs) (k : Nat) (x : Operand) (r : OuC) : OuC := if k = 1 then ⟨fun fr => ifB (scal ((evC T x).g fr)) (opt (r.g fr) fun l => some ((evC T x).g fr :: l)) none⟩ else ⟨fun fr => opt (cellsF ((evC T x).g fr)) fun ks => ifB ((lenC k).f ks) (opt (r.g fr) fun l => some ((tkaC k).f ks l)) none⟩
def outC (T : Tabs) : List Item → OuC
  | [] => ⟨fun _ => some []⟩
  | p :: r => Nat.casesOn p.k ⟨fun fr => opt ((outC T r).g fr) fun l => some (p.z :: l)⟩ fun k => partC T (Nat.succ k) p.x (outC T r)
theorem mergeS_le {place : Nat → Option (Nat × Nat)} : ∀ (zs : List AV) (i sk : Nat) (ps : List (Nat × Operand)) (r : List Item), mergeS place zs i sk ps = some r → sk ≤ zs.length
  | [], _, 0, [], _, _ => Nat.le_refl _
  | [], _, 0, _ :: _, _, h => by simp [mergeS] at h
  | [], _, _ + 1, _, _, h => by simp [mergeS] at h
  | _ :: zs, i, sk + 1, ps, r, h => by
    simp only [mergeS] at h
    have := mergeS_le zs (i + 1) sk ps r h
    simp
    omega
  | _ :: _, _, 0, _, _, _ => Nat.zero_le _
theorem part_out {T : Tabs} {k : Nat} {x : Operand} {r : OuC} {fr : Fr} {out : List AV} (h : (partC T k x r).g fr = some out) : ∃ ks l, (evO T fr x).cells = some ks ∧ ks.length = k ∧ r.g fr = some l ∧ out = ks ++ l := by
  unfold partC at h
  split at h
  · rename_i hk
    simp only [evC_eq, opt_eq, ifB_eq] at h
    split at h
    · rename_i hs
      obtain ⟨l, h1, h2⟩ := Option.bind_eq_some_iff.1 h
      cases h2
      exact ⟨_, l, (scal_ok hs).1, by rw [hk]; rfl, h1, rfl⟩
    · cases h
  · simp only [evC_eq, opt_eq, ifB_eq, cellsF_eq] at h
    obtain ⟨ks, h1, h2⟩ := Option.bind_eq_some_iff.1 h
    split at h2
    · rename_i hl
      rw [lenC_eq] at hl
      obtain ⟨l, h3, h4⟩ := Option.bind_eq_some_iff.1 h2
      cases h4
      refine ⟨ks, l, h1, of_decide_eq_true hl, h3, ?_⟩
      rw [tkaC_eq, ← of_decide_eq_true hl, List.take_length]
    · cases h2

theorem merge_ok {T : Tabs} {place : Nat → Option (Nat × Nat)} {fr : Fr} : ∀ (zs : List AV) (i sk : Nat) (ps : List (Nat × Operand)) (r : List Item) (done cv out : List AV), mergeS place zs i sk ps = some r → (outC T r).g fr = some out → done.length = i → cv.length = sk → fillA place (done ++ cv ++ zs.drop sk) (ps.map fun p => (p.1, evO T fr p.2)) = some (done ++ cv ++ out)
  | [], i, 0, [], r, done, cv, out, h, ho, hd, hc => by
    simp only [mergeS, Option.some.injEq] at h
    subst h
    have ho : some [] = some out := ho
    cases ho
    simp [fillA]
  | [], i, 0, _ :: _, _, _, _, _, h, _, _, _ => by simp [mergeS] at h
  | [], i, _ + 1, _, _, _, _, _, h, _, _, _ => by simp [mergeS] at h
  | z :: zs, i, sk + 1, ps, r, done, [], out, h, ho, hd, hc => by simp at hc
  | z :: zs, i, sk + 1, ps, r, done, c :: cv, out, h, ho, hd, hc => by
    simp only [mergeS] at h
    have := merge_ok zs (i + 1) sk ps r (done ++ [c]) cv out h ho (by simp [hd]) (by simpa using hc)
    simpa using this
  | z :: zs, i, 0, [], r, done, cv, out, h, ho, hd, hc => by
    obtain rfl := List.eq_nil_of_length_eq_zero hc
    simp only [mergeS] at h
    obtain ⟨r', h1, rfl⟩ := Option.map_eq_some_iff.1 h
    have ho : opt ((outC T r').g fr) (fun l => some (z :: l)) = some out := ho
    rw [opt_eq] at ho
    obtain ⟨l, h2, h3⟩ := Option.bind_eq_some_iff.1 ho
    cases h3
    have := merge_ok zs (i + 1) 0 [] r' (done ++ [z]) [] l h1 h2 (by simp [hd]) rfl
    simpa using this
  | z :: zs, i, 0, p :: ps, r, done, cv, out, h, ho, hd, hc => by
    obtain rfl := List.eq_nil_of_length_eq_zero hc
    simp only [mergeS] at h
    split at h
    · rename_i off k hp
      split at h
      · rename_i ho1
        subst ho1
        obtain ⟨r', h1, rfl⟩ := Option.map_eq_some_iff.1 h
        have ho : (partC T (Nat.succ k) p.2 (outC T r')).g fr = some out := ho
        obtain ⟨ks, l, h2, h3, h4, rfl⟩ := part_out ho
        have hle := mergeS_le _ _ _ _ _ h1
        match ks, h3 with
        | c :: cv, h3 =>
          have ih := merge_ok zs (off + 1) k ps r' (done ++ [c]) cv l h1 h4 (by simp [hd]) (by simpa using h3)
          simp only [List.map_cons, fillA]
          rw [hp, Option.bind_some, h2, Option.bind_some]
          simp only [List.append_nil, List.drop_zero]
          have e := setAll_mid (c :: cv) done (z :: zs) (by simp at h3 ⊢; omega)
          rw [hd] at e
          rw [if_pos ⟨h3, by simp at h3 ⊢; omega⟩, e]
          have e2 : (z :: zs).drop (c :: cv).length = zs.drop k := by
            rw [h3]
            rfl
          rw [e2]
          simpa using ih
        | [], h3 => simp at h3
      · rename_i ho1
        obtain ⟨r', h1, rfl⟩ := Option.map_eq_some_iff.1 h
        have ho : opt ((outC T r').g fr) (fun l => some (z :: l)) = some out := ho
        rw [opt_eq] at ho
        obtain ⟨l, h2, h3⟩ := Option.bind_eq_some_iff.1 ho
        cases h3
        have := merge_ok zs (i + 1) 0 (p :: ps) r' (done ++ [z]) [] l h1 h2 (by simp [hd]) rfl
        simpa using this
    · cases h

structure VaC where
  g : Hp → Fr → Option AV
/-- Parts of a struct, an array. -/
def bdC (T : Tabs) (t : Nat) (ps : List (Nat × Operand)) : VaC := match T.tiAt t with
  | some ti => if ti.kind = 1 then (match placesA T ti.fields with
    | some qs => (match mergeS (fun i => qs[i]?) (exZ ti) 0 0 ps with
      | some r => ⟨fun _ fr => optD ((outC T r).g fr) (xBuild T t ((epsC T ps).g fr)) fun l => some (AV.agg l)⟩
      | none => ⟨fun _ fr => xBuild T t ((epsC T ps).g fr)⟩)
    | none => ⟨fun _ _ => none⟩)
    else if ti.kind = 2 then (match T.tiAt ti.elem with
    | some te => (match mergeS (fun i => some (i * te.size, te.size)) (exZ ti) 0 0 ps with
      | some r => ⟨fun _ fr => optD ((outC T r).g fr) (xBuild T t ((epsC T ps).g fr)) fun l => some (AV.agg l)⟩
      | none => ⟨fun _ fr => xBuild T t ((epsC T ps).g fr)⟩)
    | none => ⟨fun _ _ => none⟩)
    else ⟨fun _ _ => none⟩
  | none => ⟨fun _ _ => none⟩
theorem bdC_eq (T : Tabs) (t : Nat) (ps : List (Nat × Operand)) (H : Hp) (fr : Fr) : (bdC T t ps).g H fr = xBuild T t (ps.map fun p => (p.1, evO T fr p.2)) := by
  unfold bdC
  cases h1 : T.tiAt t with
  | none => simp [xBuild, h1]
  | some ti =>
    simp only
    split
    · rename_i hk
      cases h2 : placesA T ti.fields with
      | none => simp [xBuild, h1, hk, h2]
      | some qs =>
        simp only
        cases h3 : mergeS (fun i => qs[i]?) (exZ ti) 0 0 ps with
        | none => simp only [epsC_eq]
        | some r =>
          simp only [epsC_eq]
          cases h4 : (outC T r).g fr with
          | none => rfl
          | some l =>
            rw [optD_some]
            have := merge_ok _ _ _ _ _ [] [] l h3 h4 rfl rfl
            simp only [List.append_nil, List.nil_append, List.drop_zero] at this
            simp only [xBuild, h1, Option.bind_some, if_pos hk, h2, this]
            rfl
    · rename_i hk
      split
      · rename_i hk2
        cases h2 : T.tiAt ti.elem with
        | none => simp [xBuild, h1, hk2, h2]
        | some te =>
          simp only
          cases h3 : mergeS (fun i => some (i * te.size, te.size)) (exZ ti) 0 0 ps with
          | none => simp only [epsC_eq]
          | some r =>
            simp only [epsC_eq]
            cases h4 : (outC T r).g fr with
            | none => rfl
            | some l =>
              rw [optD_some]
              have := merge_ok _ _ _ _ _ [] [] l h3 h4 rfl rfl
              simp only [List.append_nil, List.nil_append, List.drop_zero] at this
              simp only [xBuild, h1, Option.bind_some, if_neg hk, if_pos hk2, h2, this]
              rfl
      · rename_i hk2
        simp [xBuild, h1, hk, hk2]
structure MbC where
  f : Hp → Nat → Fr → Option Out
def bsC (T : Tabs) (t len : Nat) (ps : List (Nat × Operand)) : VaC := match T.tiAt t with
  | some ti => if ti.kind = 3 then (match T.tiAt ti.elem with
    | some te => if 0 < te.size ∧ len * te.size ≤ 16777216 then (match mergeS (fun i => some (i * te.size, te.size)) ((List.range (len * te.size)).map fun i => AV.ex (zv (te.zero.getD (i % te.zero.length) 1))) 0 0 ps with
      | some r => ⟨fun _ fr => optD ((outC T r).g fr) (xRow T t len ((epsC T ps).g fr)) fun l => some (AV.row len te.size l)⟩
      | none => ⟨fun _ fr => xRow T t len ((epsC T ps).g fr)⟩) else ⟨fun _ _ => none⟩
    | none => ⟨fun _ _ => none⟩) else ⟨fun _ _ => none⟩
  | none => ⟨fun _ _ => none⟩
theorem bsC_eq (T : Tabs) (t len : Nat) (ps : List (Nat × Operand)) (H : Hp) (fr : Fr) : (bsC T t len ps).g H fr = xRow T t len (ps.map fun p => (p.1, evO T fr p.2)) := by
  unfold bsC
  cases h1 : T.tiAt t with
  | none => simp [xRow, h1]
  | some ti =>
    simp only
    split
    · rename_i hk
      cases h2 : T.tiAt ti.elem with
      | none => simp [xRow, h1, hk, h2]
      | some te =>
        simp only
        split
        · rename_i hl
          cases h3 : mergeS (fun i => some (i * te.size, te.size)) ((List.range (len * te.size)).map fun i => AV.ex (zv (te.zero.getD (i % te.zero.length) 1))) 0 0 ps with
          | none => simp only [epsC_eq]
          | some r =>
            simp only [epsC_eq]
            cases h4 : (outC T r).g fr with
            | none => rfl
            | some l =>
              rw [optD_some]
              have := merge_ok _ _ _ _ _ [] [] l h3 h4 rfl rfl
              simp only [List.append_nil, List.nil_append, List.drop_zero] at this
              simp only [xRow, h1, Option.bind_some, if_pos hk, h2, if_pos hl, this]
              rfl
        · rename_i hl
          simp [xRow, h1, hk, h2]
          intro a b
          exact absurd ⟨by simpa using a, b⟩ hl
    · rename_i hk
      simp [xRow, h1, hk]
/-- A row, as it is made. -/
def bmC (T : Tabs) (t len : Nat) (ps : List (Nat × Operand)) : MbC := if isRows T t then ⟨fun H n fr => opt ((bsC T t len ps).g H fr) fun y => natL n fun n => some ⟨AV.sl n 0 y.c y.d, hpS H n (some ⟨elemT T t, y.ks⟩), Nat.succ n, 0⟩⟩ else ⟨fun H n fr => opt ((bsC T t len ps).g H fr) fun y => some ⟨y, H, n, 0⟩⟩
theorem bmC_eq (T : Tabs) (t len : Nat) (ps : List (Nat × Operand)) (H : Hp) (n : Nat) (fr : Fr) : (bmC T t len ps).f H n fr = xBuildSlice T H n t len (ps.map fun p => (p.1, evO T fr p.2)) := by
  unfold bmC xBuildSlice
  by_cases hr : isRows T t = true
  · rw [if_pos hr]
    simp only [opt_eq, bsC_eq, natL_eq, hpS_eq, if_pos hr]
    cases xRow T t len (ps.map fun p => (p.1, evO T fr p.2)) <;> rfl
  · rw [if_neg hr]
    simp only [opt_eq, bsC_eq, if_neg hr]
    cases xRow T t len (ps.map fun p => (p.1, evO T fr p.2)) <;> rfl
end Go.Proofs.YthklnpkjlepagaaGreatDoor.Ab
namespace Go.Proofs.YthklnpkjlepagaaGreatDoor.Ab
open Go.RowKit
variable {S : Nat → Value}

def unC (P : Program) (op : UnOp) : MvC := match op with
  | .not => ⟨fun x => optD (boolF x) (x.exact.bind fun v => (pureRun P (Op.unary .not v)).map ofV) fun b => some (AV.ex (.bool (ifB b false true)))⟩
  | op => ⟨fun x => x.exact.bind fun v => (pureRun P (Op.unary op v)).map ofV⟩
theorem unC_eq (P : Program) (op : UnOp) (x : AV) : (unC P op).f x = x.exact.bind fun v => (pureRun P (Op.unary op v)).map ofV := by
  cases op <;> first
    | rfl
    | skip
  show optD (boolF x) _ _ = _
  rw [boolF_eq]
  cases h : x.bool with
  | none => rfl
  | some b =>
    rw [optD_some]
    have : x.exact = some (.bool b) := by
      unfold AV.bool at h
      unfold AV.exact
      split at h
      · rename_i h0
        rw [if_pos h0]
        split at h
        · rename_i c hv
          cases h
          rw [hv]
        · cases h
      · cases h
    rw [this]
    cases b <;> rfl
def exF (x : AV) (i : Nat) : Option AV := ifB (Nat.beq x.t 2) ((nthC i).f x.ks) none
theorem exF_eq (x : AV) (i : Nat) : exF x i = xExtract x i := by
  unfold exF xExtract
  rw [ifE, nthC_eq]

def mapF (H : Hp) (m : AV) : Option (Blk × AV) := ifB (Nat.beq m.t 13) (opt (hpG H m.a) fun B => opt (entsOf B.cs) fun e => some (B, e)) none
theorem mapF_eq (H : Hp) (m : AV) : mapF H m = mapOf H m := by
  unfold mapF mapOf
  rw [ifE, hpG_eq, opt_eq]
  cases H.get m.a with
  | none => rfl
  | some B =>
    simp only [Option.bind_some, opt_eq]
    cases entsOf B.cs <;> rfl
def xMapGetF (P : Program) (T : Tabs) (H : Hp) (t : Nat) (m k : AV) (ok : Bool) : Option AV := opt (T.tiAt t) fun ti => ifB (Nat.beq ti.kind 10) (opt (T.tiAt ti.len) fun tk => ifB (Nat.beq tk.kind 5) (opt k.str fun s => opt (mapF H m) fun p => Option.map (fun (r : AV × Bool) => if ok then AV.tup [r.1, AV.ex (.bool r.2)] else r.1) (match findA s p.2.ks 0 with
  | .bad => none
  | .no => ((pureRun P (zeroValue ti.elem)).map ofV).map fun v => (v, false)
  | .at_ _ y => y.ks.head?.map fun v => (v, true))) none) none
theorem xMapGetF_eq (P : Program) (T : Tabs) (H : Hp) (t : Nat) (m k : AV) (ok : Bool) : xMapGetF P T H t m k ok = xMapGet P T H t m k ok := by
  unfold xMapGetF xMapGet
  simp only [opt_eq, ifE, mapF_eq]
  rfl
def xMapPutF (T : Tabs) (H : Hp) (n t : Nat) (m k x : AV) : Option Out := opt (T.tiAt t) fun ti => ifB (Nat.beq ti.kind 10) (opt (T.tiAt ti.len) fun tk => ifB (Nat.beq tk.kind 5) (opt k.str fun s => opt (mapF H m) fun p => Option.map (fun e => ⟨AV.ex undef, hpS H m.a (some ⟨p.1.ty, [e]⟩), n, bit1 m.a⟩) (match findA s p.2.ks 0 with
  | .bad => none
  | .no => some (AV.ents (p.2.ks ++ [AV.ent s x]))
  | .at_ i _ => some (AV.ents (p.2.ks.set i (AV.ent s x))))) none) none
theorem xMapPutF_eq (T : Tabs) (H : Hp) (n t : Nat) (m k x : AV) : xMapPutF T H n t m k x = xMapPut T H n t m k x := by
  unfold xMapPutF xMapPut
  simp only [opt_eq, ifE, mapF_eq, hpS_eq]
  rfl

/-- One that makes a value alone. -/
def vaC (P : Program) (T : Tabs) (o : Oper) : VaC := match o.op with
  | .move x | .assign x => ⟨fun _ fr => some ((evC T x).g fr)⟩
  | .pick c a b => ⟨fun _ fr => opt (boolF ((evC T c).g fr)) fun t => some (ifB t ((evC T a).g fr) ((evC T b).g fr))⟩
  | .build t ps => bdC T t ps.toList
  | .load t a => ⟨fun H fr => xLoadF T H t ((evC T a).g fr)⟩
  | .nilCheck x => ⟨fun _ fr => nlF ((evC T x).g fr)⟩
  | .binOp op t x y _ => ⟨fun _ fr => (biC P T op t x y).f ((evC T x).g fr) ((evC T y).g fr)⟩
  | .unOp op _ x => ⟨fun _ fr => (unC P op).f ((evC T x).g fr)⟩
  | .convert s d x => ⟨fun H fr => (cvC P T s d).f H ((evC T x).g fr)⟩
  | .makeInterface t x => ⟨fun _ fr => (T.tiAt t).bind fun ti => if ti.kind = 7 then none else some (AV.ifc t ((evC T x).g fr))⟩
  | .makeFunc fn first cap => if first.size = 0 ∧ cap.size = 0 then ⟨fun _ _ => some (AV.ex (.func fn #[] #[]))⟩ else ⟨fun _ fr => some (AV.fn (.func fn #[] #[]) first.size ((evsC T first.toList).g fr ++ (evsC T cap.toList).g fr))⟩
  | .slice t x lo hi none => ⟨fun H fr => match xSliceA T H t ((evC T x).g fr) ((eoC T lo).g fr) ((eoC T hi).g fr) with
    | some y => some y
    | none => xSlice T t ((evC T x).g fr) ((eoC T lo).g fr) ((eoC T hi).g fr)⟩
  | .fieldAddr t x f => ⟨fun _ fr => (faC T t f).f ((evC T x).g fr)⟩
  | .field t x f => ⟨fun _ fr => (fdC T t f).f ((evC T x).g fr)⟩
  | .indexAddr t x i => ⟨fun _ fr => (iaC T t).f ((evC T x).g fr) ((evC T i).g fr)⟩
  | .index t x i => ⟨fun _ fr => (ixC T t).f ((evC T x).g fr) ((evC T i).g fr)⟩
  | .sliceToArrayPointer t x => ⟨fun _ fr => xArrAt T t ((evC T x).g fr)⟩
  | .extract x i => ⟨fun _ fr => exF ((evC T x).g fr) i⟩
  | .lookup t x i ok => ⟨fun H fr => xMapGetF P T H t ((evC T x).g fr) ((evC T i).g fr) ok⟩
  | .call c => (match c.argTypes.toList, c.args.toList with
      | t :: _, [x] => ⟨fun _ fr => (lnC T t).f ((evC T x).g fr)⟩
      | _, _ => ⟨fun _ _ => none⟩)
  | _ => ⟨fun _ _ => none⟩
theorem vaC_eq {P : Program} {T : Tabs} {o : Oper} (hk : kindOf o ≤ 1) (H : Hp) (n : Nat) (fr : Fr) : sop P T H n fr o = ((vaC P T o).g H fr).map fun y => ⟨y, H, n, 0⟩ := by
  unfold kindOf at hk
  unfold vaC sop
  cases ho : o.op <;> simp only [ho] at hk ⊢ <;> first
    | (simp at hk; done)
    | simp only [evC_eq, evsC_eq, eoC_eq, boolF_eq, opt_eq, ifB_eq, bdC_eq, xLoadF_eq, nlF_eq, biC_eq, unC_eq, faC_eq, fdC_eq, iaC_eq, ixC_eq, exF_eq, cvC_eq, xMapGetF_eq]
    | skip
  case move x => rfl
  case assign x => rfl
  case pick c a b => cases (evO T fr c).bool <;> rfl
  case unOp op t x =>
    cases (evO T fr x).exact with
    | none => rfl
    | some v =>
      simp only [Option.bind_some]
      cases pureRun P (Op.unary op v) <;> rfl
  case convert s d x =>
    unfold xConv
    cases (evO T fr x).exact with
    | none => rfl
    | some v =>
      simp only
      cases pureRun P (convert s d v) <;> rfl
  case makeInterface t x =>
    cases T.tiAt t with
    | none => rfl
    | some ti =>
      simp only [Option.bind_some]
      split <;> rfl
  case makeFunc fn first cap =>
    split
    · rfl
    · rfl
  case slice t x lo hi mx =>
    cases mx with
    | some m => rfl
    | none => rfl
  case call c =>
    cases hc : c.callee with
    | value f => simp [hc] at hk
    | invoke r m => simp [hc] at hk
    | builtin b =>
      simp only [hc] at hk ⊢
      cases b <;> simp only at hk ⊢ <;> first
        | (simp at hk; done)
        | skip
      generalize c.argTypes.toList = la
      generalize c.args.toList = lb
      rcases la with _ | ⟨t, la⟩ <;> rcases lb with _ | ⟨s, _ | ⟨x, lb⟩⟩ <;> first
        | rfl
        | (simp only [lnC_eq])

/-- One that turns memory. -/
structure MeC where
  f : Hp → Nat → Fr → Option Out
def meC (P : Program) (T : Tabs) (o : Oper) : MeC := match o.op with
  | .alloc t => (match T.tiAt t with
    | some ti => ⟨fun H n _ => some (newF H n t (exZ ti))⟩
    | none => ⟨fun _ _ _ => none⟩)
  | .box t x => ⟨fun H n fr => opt (cellsF ((evC T x).g fr)) fun ks => some (newF H n t ks)⟩
  | .store t a x => ⟨fun H n fr => (stoC T t).f H n ((evC T a).g fr) ((evC T x).g fr)⟩
  | .makeSlice t l c => ⟨fun H n fr => (mkC T t).f H n ((evC T l).g fr) ((evC T c).g fr)⟩
  | .buildSlice t len ps => ⟨(bmC T t len ps.toList).f⟩
  | .mapUpdate t m k x => ⟨fun H n fr => xMapPutF T H n t ((evC T m).g fr) ((evC T k).g fr) ((evC T x).g fr)⟩
  | .insert t m k x => ⟨fun H n fr => xMapPutF T H n t ((evC T m).g fr) ((evC T k).g fr) ((evC T x).g fr)⟩
  | .call c => (match c.callee with
    | .builtin .append => (match c.argTypes.toList, c.args.toList with
      | [t, tx], [s, x] => ⟨fun H n fr => (apC T t tx).f H n ((evC T s).g fr) ((evC T x).g fr)⟩
      | _, _ => ⟨fun _ _ _ => none⟩)
    | _ => ⟨fun H n fr => sop P T H n fr o⟩)
  | _ => ⟨fun H n fr => sop P T H n fr o⟩
theorem meC_eq (P : Program) (T : Tabs) (o : Oper) (H : Hp) (n : Nat) (fr : Fr) : (meC P T o).f H n fr = sop P T H n fr o := by
  unfold meC
  cases ho : o.op <;> simp only [] <;> first
    | rfl
    | skip
  case alloc t =>
    unfold sop
    rw [ho]
    simp only
    cases T.tiAt t with
    | none => rfl
    | some ti => simp only [newF_eq]; rfl
  case box t x =>
    unfold sop
    rw [ho]
    simp only [evC_eq, opt_eq, cellsF_eq, newF_eq]
    cases (evO T fr x).cells <;> rfl
  case store t a x =>
    unfold sop
    rw [ho]
    simp only [evC_eq, stoC_eq]
  case makeSlice t l c =>
    unfold sop
    rw [ho]
    simp only [evC_eq, mkC_eq]
  case buildSlice t len ps =>
    unfold sop
    rw [ho]
    simp only [bmC_eq]
  case mapUpdate t m k x =>
    unfold sop
    rw [ho]
    simp only [evC_eq, xMapPutF_eq]
  case insert t m k x =>
    unfold sop
    rw [ho]
    simp only [evC_eq, xMapPutF_eq]
  case call c =>
    cases hc : c.callee with
    | value f => rfl
    | invoke r m => rfl
    | builtin b =>
      cases b <;> simp only [] <;> first
        | rfl
        | skip
      unfold sop
      rw [ho]
      simp only [hc]
      generalize c.argTypes.toList = la
      generalize c.args.toList = lb
      rcases la with _ | ⟨t, _ | ⟨tx, _ | ⟨ty, la⟩⟩⟩ <;> rcases lb with _ | ⟨s, _ | ⟨x, _ | ⟨y, lb⟩⟩⟩ <;> first
        | rfl
        | (simp only [evC_eq, apC_eq]; done)

def isCall (o : Oper) : Bool := match o.op with
  | .call c => match c.callee with
    | .value _ => true
    | _ => false
  | _ => false
theorem isCall_no {T : Tabs} {fr : Fr} {o : Oper} (h : isCall o = false) : calleeOf T fr o = none := by
  unfold isCall at h
  unfold calleeOf
  cases ho : o.op <;> simp only [ho] at h ⊢
  rename_i c
  cases hc : c.callee <;> simp [hc] at h ⊢
theorem isCall_yes {T : Tabs} {fr : Fr} {o : Oper} (h : isCall o = true) : ∃ x, calleeOf T fr o = some x := by
  unfold isCall at h
  unfold calleeOf
  cases ho : o.op <;> simp only [ho] at h ⊢ <;> first
    | (cases h; done)
    | skip
  rename_i c
  cases hc : c.callee <;> simp [hc] at h ⊢
/-- A call of a function. -/
structure ClC where
  r : CallA → Hp → Nat → Fr → R Out
def clC (P : Program) (T : Tabs) (loc : Nat) (o : Oper) : ClC := match o.op with
  | .call c => (match c.callee with
    | .value (.func g) => ⟨fun call H n fr => call g ((evsC T c.args.toList).g fr) H n⟩
    | .value f => ⟨fun call H n fr => bindX (orErr (loc + 500) (fnOf ((evC T f).g fr) ((evsC T c.args.toList).g fr))) fun p => call p.1 p.2 H n⟩
    | _ => ⟨fun call H n fr => opA P T call loc H n fr o⟩)
  | _ => ⟨fun call H n fr => opA P T call loc H n fr o⟩
theorem clC_eq (P : Program) (T : Tabs) (call : CallA) (loc : Nat) (H : Hp) (n : Nat) (fr : Fr) (o : Oper) : (clC P T loc o).r call H n fr = opA P T call loc H n fr o := by
  unfold clC
  cases ho : o.op <;> first
    | rfl
    | skip
  rename_i c
  simp only
  cases hc : c.callee with
  | value f =>
    cases f <;> simp only [opA, calleeOf, ho, hc, evC_eq, evsC_eq, bindX_eq]
    rfl
  | invoke r m => rfl
  | builtin b => rfl

/-- An operation, and what comes behind it. -/
structure RnC where
  r : CallA → Fr → Hp → Nat → (AV → Hp → Nat → Nat → R Sta) → R Sta
def runC (P : Program) (T : Tabs) (loc : Nat) (o : Oper) : RnC := if kindOf o ≤ 1 then ⟨fun _ fr H n k => optD ((vaC P T o).g H fr) (.error loc) fun x => k x H n 0⟩
  else if isCall o then ⟨fun call fr H n k => bindX ((clC P T loc o).r call H n fr) fun out => natL out.n fun n' => natL out.wr fun m => k out.x out.H n' m⟩
  else if kindOf o ≤ 2 then ⟨fun _ fr H n k => optD ((meC P T o).f H n fr) (.error loc) fun out => natL out.n fun n' => k out.x out.H n' 0⟩
  else ⟨fun _ fr H n k => optD ((meC P T o).f H n fr) (.error loc) fun out => natL out.n fun n' => natL out.wr fun m => k out.x out.H n' m⟩
theorem optD_ok {α : Type} {x : Option α} {l : Nat} {f : α → R Sta} {s : Sta} (h : optD x (.error l) f = .ok s) : ∃ a, x = some a ∧ f a = .ok s := by
  cases x with
  | none => cases h
  | some a => exact ⟨a, rfl, h⟩
theorem runC_ok {P : Program} {T : Tabs} {call : CallA} {loc : Nat} {o : Oper} {fr : Fr} {H : Hp} {n : Nat} {k : AV → Hp → Nat → Nat → R Sta} {s : Sta} (h : (runC P T loc o).r call fr H n k = .ok s) : ∃ out, opA P T call loc H n fr o = .ok out ∧ k out.x out.H out.n out.wr = .ok s := by
  have key : ∀ {out : Out}, isCall o = false → sop P T H n fr o = some out → opA P T call loc H n fr o = .ok out := by
    intro out hc h
    unfold opA
    rw [isCall_no hc]
    simp only [h, orErr]
  have hcl : kindOf o ≤ 2 → isCall o = false := by
    intro hk
    cases hc : isCall o with
    | false => rfl
    | true =>
      obtain ⟨x, hx⟩ := isCall_yes (T := T) (fr := fr) hc
      rw [callee_kind hk] at hx
      cases hx
  unfold runC at h
  split at h
  · rename_i hk
    obtain ⟨x, h1, h2⟩ := optD_ok h
    refine ⟨⟨x, H, n, 0⟩, key (hcl (by omega)) ?_, h2⟩
    rw [vaC_eq hk, h1]
    rfl
  · split at h
    · rename_i hk hc
      simp only [bindX_eq, clC_eq, natL_eq] at h
      obtain ⟨out, h1, h2⟩ := bindR_ok h
      exact ⟨out, h1, h2⟩
    · rename_i hk hc
      split at h
      · rename_i hk2
        obtain ⟨out, h1, h2⟩ := optD_ok h
        rw [meC_eq] at h1
        simp only [natL_eq] at h2
        refine ⟨out, key (hcl hk2) h1, ?_⟩
        rw [(sop_kind hk2 h1).1]
        exact h2
      · obtain ⟨out, h1, h2⟩ := optD_ok h
        rw [meC_eq] at h1
        simp only [natL_eq] at h2
        exact ⟨out, key (by simpa using hc) h1, h2⟩
end Go.Proofs.YthklnpkjlepagaaGreatDoor.Ab
