/- The operations, all in one, made quick. -/
import Derived.Test.YthklnpkjlepagaaGreatDoorQbe
namespace Go.Proofs.YthklnpkjlepagaaGreatDoor.Ab
open Go.RowKit
variable {S : Nat → Value}

def boolF (x : AV) : Option Bool := ifB (Nat.beq x.t 0) (match x.v with
  | .bool b => some b
  | _ => none) none
theorem boolF_eq (x : AV) : boolF x = x.bool := by
  unfold boolF
  rw [ifE]
  rfl
def nlF (x : AV) : Option AV := ifB (Nat.beq x.t 3) (some x) (xNilCheck x)
theorem nlF_eq (x : AV) : nlF x = xNilCheck x := by
  unfold nlF
  rw [ifE]
  split
  · rename_i h
    unfold xNilCheck
    rw [if_pos (Or.inl h)]
  · rfl

/-- Cells, again and again. -/
structure RpC where
  l : List AV
def repC (k : Nat) (zs : List AV) : Nat → RpC
  | 0 => ⟨[]⟩
  | n + 1 => ⟨(tkaC k).f zs (repC k zs n).l⟩
theorem repC_eq (k : Nat) (zs : List AV) (hk : zs.length = k) : ∀ n, (repC k zs n).l = (List.replicate n zs).flatten
  | 0 => rfl
  | n + 1 => by
    show (tkaC k).f zs (repC k zs n).l = _
    rw [tkaC_eq, repC_eq k zs hk n, ← hk, List.take_length, List.replicate_succ, List.flatten_cons]
theorem range_rep {α : Type} (zs : List Nat) (g : Nat → α) : ∀ n, ((List.range (n * zs.length)).map fun i => g (zs.getD (i % zs.length) 1)) = (List.replicate n (zs.map g)).flatten
  | 0 => by simp
  | n + 1 => by
    rw [List.replicate_succ, List.flatten_cons, ← range_rep zs g n, show (n + 1) * zs.length = zs.length + n * zs.length by rw [Nat.add_mul]; omega, List.range_add, List.map_append]
    congr 1
    · apply List.ext_getElem
      · simp
      · intro i h1 h2
        simp at h1 h2
        simp only [List.getElem_map, List.getElem_range, Nat.mod_eq_of_lt h1, List.getD_eq_getElem?_getD, List.getElem?_eq_getElem h1, Option.getD_some]
    · rw [List.map_map]
      congr 1
      funext i
      simp [Nat.add_mod_left]
structure MkC where
  f : Hp → Nat → AV → AV → Option Out
def mkC (T : Tabs) (t : Nat) : MkC := match T.tiAt t with
  | some ti => if ti.kind = 3 then (match T.tiAt ti.elem with
    | some te => if te.zero.length = te.size then ⟨fun H n l c => optD (intN l) (xMake T H n t l c) fun i => optD (intN c) (xMake T H n t l c) fun j => ifB (Nat.ble i j) (ifB (Nat.ble j 1000000) (ifB (Nat.ble (Nat.mul te.bytes j) 281474976710656) (natL n fun n => some ⟨AV.sl n 0 i te.size, hpS H n (some ⟨ti.elem, natL j fun j => (repC te.size (te.zero.map fun c => AV.ex (zv c)) j).l⟩), Nat.succ n, 0⟩) none) none) none⟩ else ⟨fun H n l c => xMake T H n t l c⟩
    | none => ⟨fun _ _ _ _ => none⟩) else ⟨fun _ _ _ _ => none⟩
  | none => ⟨fun _ _ _ _ => none⟩
theorem mkC_eq (T : Tabs) (t : Nat) (H : Hp) (n : Nat) (l c : AV) : (mkC T t).f H n l c = xMake T H n t l c := by
  unfold mkC
  cases h1 : T.tiAt t with
  | none => simp [xMake, h1]
  | some ti =>
    simp only
    split
    · rename_i hk
      cases h2 : T.tiAt ti.elem with
      | none => simp [xMake, h1, hk, h2]
      | some te =>
        simp only
        split
        · rename_i hz
          simp only
          cases hi : intN l with
          | none => rfl
          | some i =>
            rw [optD_some]
            cases hj : intN c with
            | none => rfl
            | some j =>
              rw [optD_some]
              simp only [xMake, h1, h2, if_pos hk, intN_some hi, intN_some hj, Option.bind_some, ifL, natL_eq, hpS_eq]
              have hb : ((te.bytes : Int) * (j : Int) ≤ 281474976710656) ↔ Nat.mul te.bytes j ≤ 281474976710656 := by
                show _ ↔ te.bytes * j ≤ 281474976710656
                rw [← Int.natCast_mul]
                omega
              have hc : ((0 : Int) ≤ (i : Int) ∧ (i : Int) ≤ (j : Int) ∧ (j : Int) ≤ 1000000 ∧ (te.bytes : Int) * (j : Int) ≤ 281474976710656) ↔ (i ≤ j ∧ j ≤ 1000000 ∧ Nat.mul te.bytes j ≤ 281474976710656) := by
                rw [hb]
                omega
              simp only [hc]
              by_cases h3 : i ≤ j
              · by_cases h4 : j ≤ 1000000
                · by_cases h5 : Nat.mul te.bytes j ≤ 281474976710656
                  · rw [if_pos h3, if_pos h4, if_pos h5, if_pos ⟨h3, h4, h5⟩]
                    rw [repC_eq _ _ (by simp [hz]), ← range_rep, hz]
                    rfl
                  · rw [if_pos h3, if_pos h4, if_neg h5, if_neg (fun g => h5 g.2.2)]
                · rw [if_pos h3, if_neg h4, if_neg (fun g => h4 g.2.1)]
              · rw [if_neg h3, if_neg (fun g => h3 g.1)]
        · rfl
    · rename_i hk
      simp [xMake, h1, hk]

/-- Conversions of numbers. -/
structure CvC where
  f : Hp → AV → Option AV
def xConv (P : Program) (T : Tabs) (H : Hp) (s d : Nat) (x : AV) : Option AV := match x.exact with
    | some v => (pureRun P (convert s d v)).map ofV
    | none => xBytes P T H s d x
def small (x : AV) : Option Nat := opt (intN x) fun n => ifB (Nat.ble n 127) (some n) none
def cvC (P : Program) (T : Tabs) (s d : Nat) : CvC := match P.underlying s, P.underlying d with
  | some _, some (.int kd) => ⟨fun H x => optD (small x) (xConv P T H s d x) fun n => some (AV.ex (.int kd (.ofNat n)))⟩
  | _, _ => ⟨fun H x => xConv P T H s d x⟩
theorem wrap_small (k : IntKind) {n : Nat} (h : n ≤ 127) : k.wrap (n : Int) = n := by
  unfold IntKind.wrap
  have e1 : ((n : Int) % (2 ^ k.bits : Int)) = n := Int.emod_eq_of_lt (by omega) (by cases k <;> simp only [IntKind.bits] <;> omega)
  simp only [e1]
  have h2 : ¬ ((n : Int) ≥ (2 ^ (k.bits - 1) : Int)) := by cases k <;> simp only [IntKind.bits] <;> omega
  simp only [h2, decide_false, Bool.and_false, Bool.false_eq_true, if_false]
theorem pure_conv {P : Program} {s d : Nat} {ds : TypeDesc} {kd k : IntKind} {n : Int} (h1 : P.underlying s = some ds) (h2 : P.underlying d = some (.int kd)) : pureRun P (convert s d (.int k n)) = some (.int kd (kd.wrap n)) := by
  have e : ∀ {α : Type} (t : Nat) (d : TypeDesc) (f : TypeDesc → Sem α), P.underlying t = some d → pureRun P (underlying t >>= f) = pureRun P (f d) := by
    intro α t d f h
    show pureRun P ((match P.underlying t with
      | some d => pure d
      | none => stuck "no such type" : Sem TypeDesc) >>= f) = _
    rw [h]
    rfl
  unfold convert
  rw [e s ds _ h1, e d (.int kd) _ h2]
  rfl
theorem cvC_eq (P : Program) (T : Tabs) (H : Hp) (s d : Nat) (x : AV) : (cvC P T s d).f H x = xConv P T H s d x := by
  unfold cvC
  split
  · rename_i ds kd h1 h2
    simp only
    cases hs : small x with
    | none => rfl
    | some n =>
      rw [optD_some]
      unfold small at hs
      rw [opt_eq] at hs
      obtain ⟨m, h3, h4⟩ := Option.bind_eq_some_iff.1 hs
      rw [ifL] at h4
      split at h4
      · rename_i h5
        cases h4
        have h6 : ∃ k, x.exact = some (.int k (n : Int)) := by
          unfold intN at h3
          rw [ifE] at h3
          unfold AV.exact
          split at h3
          · rename_i h0
            rw [if_pos h0]
            split at h3
            · rename_i k m' hv
              cases h3
              exact ⟨k, by rw [hv]; rfl⟩
            · cases h3
          · cases h3
        obtain ⟨k, h6⟩ := h6
        unfold xConv
        rw [h6]
        simp only [pure_conv h1 h2, wrap_small kd h5]
        rfl
      · cases h4
  · rfl
#print axioms cvC_eq
end Go.Proofs.YthklnpkjlepagaaGreatDoor.Ab
