/- What is known ahead of a run is reckoned once: operands, operations. -/
import Derived.Test.YthklnpkjlepagaaGreatDoorQp
import Derived.Test.YthklnpkjlepagaaGreatDoorQz
namespace Go.Proofs.YthklnpkjlepagaaGreatDoor.Ab
open Go.RowKit
variable {S : Nat → Value}

/-- A number, as a number. -/
def natL {α : Type} (i : Nat) (k : Nat → α) : α := Nat.casesOn i (k 0) fun m => k (Nat.succ m)
theorem natL_eq {α : Type} (i : Nat) (k : Nat → α) : natL i k = k i := by cases i <;> rfl
def bindX {α β : Type} (x : R α) (f : α → R β) : R β := Except.casesOn x (fun e => .error e) f
theorem bindX_eq {α β : Type} (x : R α) (f : α → R β) : bindX x f = bindR x f := by cases x <;> rfl
def ifB {α : Type} (b : Bool) (x y : α) : α := Bool.casesOn b y x
theorem ifB_eq {α : Type} (b : Bool) (x y : α) : ifB b x y = if b then x else y := by cases b <;> rfl
/-- A value, or none. -/
def okV (loc : Nat) (H : Hp) (n : Nat) (x : Option AV) : R Out := Option.casesOn x (.error loc) fun y => .ok ⟨y, H, n, 0⟩
theorem okV_eq (loc : Nat) (H : Hp) (n : Nat) (x : Option AV) : okV loc H n x = orErr loc (x.map fun y => ⟨y, H, n, 0⟩) := by cases x <;> rfl

/-- An operand. -/
def evC (T : Tabs) : Operand → EvC
  | .tmp t => rdE t
  | .const v => ⟨fun _ => ofV v⟩
  | .global g => ⟨fun _ => globAt T.glob g⟩
  | .func f => ⟨fun _ => AV.ex (.func (.func f) #[] #[])⟩
theorem evC_eq (T : Tabs) (fr : Fr) (x : Operand) : (evC T x).g fr = evO T fr x := by
  cases x with
  | tmp t => exact rdE_eq t fr
  | _ => rfl
/-- Several. -/
structure EvsC where
  g : Fr → List AV
def evsC (T : Tabs) : List Operand → EvsC
  | [] => ⟨fun _ => []⟩
  | x :: xs => ⟨fun fr => (evC T x).g fr :: (evsC T xs).g fr⟩
theorem evsC_eq (T : Tabs) (fr : Fr) : ∀ (xs : List Operand), (evsC T xs).g fr = xs.map (evO T fr)
  | [] => rfl
  | x :: xs => by
    show (evC T x).g fr :: (evsC T xs).g fr = _
    rw [evC_eq, evsC_eq T fr xs]
    rfl
structure EpsC where
  g : Fr → List (Nat × AV)
def epsC (T : Tabs) : List (Nat × Operand) → EpsC
  | [] => ⟨fun _ => []⟩
  | p :: ps => ⟨fun fr => (p.1, (evC T p.2).g fr) :: (epsC T ps).g fr⟩
theorem epsC_eq (T : Tabs) (fr : Fr) : ∀ (ps : List (Nat × Operand)), (epsC T ps).g fr = ps.map fun p => (p.1, evO T fr p.2)
  | [] => rfl
  | p :: ps => by
    show (p.1, (evC T p.2).g fr) :: (epsC T ps).g fr = _
    rw [evC_eq, epsC_eq T fr ps]
    rfl
structure EoC where
  g : Fr → Option AV
def eoC (T : Tabs) : Option Operand → EoC
  | none => ⟨fun _ => none⟩
  | some x => ⟨fun fr => some ((evC T x).g fr)⟩
theorem eoC_eq (T : Tabs) (fr : Fr) (x : Option Operand) : (eoC T x).g fr = x.map (evO T fr) := by
  cases x with
  | none => rfl
  | some x => show some ((evC T x).g fr) = _; rw [evC_eq]; rfl

#print axioms eoC_eq
end Go.Proofs.YthklnpkjlepagaaGreatDoor.Ab
