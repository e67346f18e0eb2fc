/- Aow, Aw, Abc, Qba: the texts of these names, one behind the other. -/
import Derived.Test.YtdacekkfncmhjaaDoorRows
import Derived.Test.YtdacekkfncmhjaaDoorAbg
import Derived.ProofKit
import Derived.LaidMore
import Derived.OpenShut
import Derived.Stop.Joined
import Derived.Stop.LaidErr
import Derived.LaidHandle
import Derived.MakeChecks
import Derived.Below
import Derived.ChangeSame
import Derived.Lib.LaidTab
import Derived.Test.YtdacekkfncmhjaaDoorQp
import Derived.Test.YtdacekkfncmhjaaDoorChecked
import Derived.Test.YtdacekkfncmhjaaDoorAbt
namespace Go.Proofs.YtdacekkfncmhjaaDoor.Ab
open Go.ChangeShapes Go.WideShapes Go.ChangeAt Go.RowKit

theorem ownT : ownKnob Tryd.prog.godebug = none := by kernel_rfl
/-- A variable at the head of the list: it reads as its datum. -/
theorem head_reads {W : World} {name : String} {d : DataW Unit} {rest : List (String × DataW Unit)} {g : Nat} {t : TypeId} (hg : Tryd.prog.globalNamed name = some g) (hty : (Tryd.prog.globals[g]?).map (·.type) = some t) (h : laidMet Tryd.prog ((name, d) :: rest) W) :
    ∃ cs fuel p enc base sp held, W.var? Tryd.prog name = some cs ∧ DataW.trod (H := Unit) enc Tryd.prog W base sp held fuel t cs.toList = some (d, p) := by
  obtain ⟨ps, ⟨g', t', cs, fuel, p, q, hg', ht', hvar, hd, _, _⟩, _⟩ := h
  obtain rfl := Option.some.inj (hg'.symm.trans hg)
  obtain rfl := Option.some.inj (ht'.symm.trans hty)
  exact ⟨cs, fuel, p, _, _, _, _, hvar, hd⟩
theorem at_of_map {α β : Type} {xs : List (α × β)} {F : Nat → α} {n : Nat} (h : xs.map (·.1) = (List.range n).map F) {i : Nat} (hi : i < n) : ∃ p, xs[i]? = some (F i, p) := by
  have h1 := congrArg (·[i]?) h
  simp only [List.getElem?_map, List.getElem?_range hi, Option.map_some] at h1
  obtain ⟨x, hx, he⟩ := Option.map_eq_some_iff.1 h1
  exact ⟨x.2, by rw [hx, ← he]⟩

theorem gn0 : Tryd.prog.globalNamed "thyrsus/term.binders" = some 0 := by kernel_rfl
theorem gt0 : (Tryd.prog.globals[0]?).map (·.type) = some 115 := by kernel_rfl
theorem ce114 : Tryd.prog.cellsOf 114 = 4 := by kernel_rfl
theorem ce113 : Tryd.prog.cellsOf 113 = 1 := by kernel_rfl
theorem data0 : (Rows.laid_thyrsus_term_binders : DataW Unit) = .agg ((List.range 31).map fun i => Lib.tabData .i8 ((List.range 4).map fun k => nums0.getD (i * 4 + k) 0)) := by kernel_rfl
set_option maxRecDepth 20000 in
theorem at0 {W : World} {rest : List (String × DataW Unit)} (h : laidMet Tryd.prog (("thyrsus/term.binders", Rows.laid_thyrsus_term_binders) :: rest) W) : NumsAt W 0 .i8 nums0 := by
  obtain ⟨cs, fuel, p, enc, base, sp, held, hv, hd⟩ := head_reads gn0 gt0 h
  have key : ∀ op k : Nat, op < 31 → k < 4 → W.cell? ⟨0, op * 4 + k, none⟩ = some (.int .i8 (nums0.getD (op * 4 + k) 0)) := by
    intro op k h1 h2
    rw [data0] at hd
    obtain ⟨xs, m, rfl, hx, hl, hxl, hf⟩ := DataW.trod_array Tryd.underlying115 hd
    have hx1 := congrArg Prod.fst hx
    simp only [DataW.agg.injEq] at hx1
    obtain ⟨pp, hp⟩ := at_of_map hx1.symm h1
    have hi := hf op (by omega)
    rw [hp, ce114] at hi
    have hc := Lib.cells_of_tab Tryd.underlying114 Tryd.underlying113 ce113 ce114 hi
    have h9 := World.var?_cell gn0 hv (op * 4 + k)
    rw [h9]
    have h8 := congrArg (·[k]?) hc
    simp only [List.getElem?_take, h2, if_true, List.getElem?_drop, List.getElem?_map, List.getElem?_range h2, Option.map_some] at h8
    simpa using h8
  refine ⟨World.block_lt_of_cell? W _ (key 0 0 (by decide) (by decide)), fun i z hi => ?_⟩
  have hlt : i < 124 := by
    rcases Nat.lt_or_ge i 124 with h | h
    · exact h
    · rw [List.getElem?_eq_none (by simp [nums0]; omega)] at hi; cases hi
  have := key (i / 4) (i % 4) (by omega) (by omega)
  rw [show i / 4 * 4 + i % 4 = i by omega] at this
  rw [this, List.getD_eq_getElem?_getD, hi]
  rfl

/-- The statements' list. -/
def laid6 : List (String × DataW Unit) := Rows.equalSumsRow.laid

set_option maxRecDepth 100000 in
theorem one_of {W : World} (h : laidMetH Tryd.prog laid6 W) : BndAt W := by
  rw [MakeChecks.laidMetH_plain _ _ _ (by kernel_rfl)] at h
  replace h : laidMet Tryd.prog (("thyrsus/term.binders", Rows.laid_thyrsus_term_binders) :: []) W := h
  exact ⟨at0 h, trivial⟩
set_option maxRecDepth 100000 in
theorem door6 (os : Os) (args : Array Value) : laidMetH Tryd.prog laid6 ((World.doorLaid Tryd.prog 4000 os).forCall (fun _ _ => 0) ⟨#[], args, []⟩).memory :=
  laidMetH_of_parts3 (fuel := 8) (laidMet_of_run' 8 (by kernel_rfl) (by kernel_rfl)) (by kernel_rfl) (by kernel_rfl)
end Go.Proofs.YtdacekkfncmhjaaDoor.Ab
namespace Go.Proofs.YtdacekkfncmhjaaDoor.Ab
open Go.RowKit

def wi (a n : Int) : Int := if a.tmod n < 0 then a.tmod n + n else a.tmod n
theorem tmodn (a n : Int) (h : 0 < n) : -n < a.tmod n ∧ a.tmod n < n := by
  constructor
  · have := Int.lt_tmod_of_pos a h; omega
  · exact Int.tmod_lt_of_pos a h
theorem wi_n (a n : Int) (h : 0 < n) : 0 ≤ wi a n ∧ wi a n < n := by
  have := tmodn a n h
  unfold wi; split <;> omega
theorem wi_nat (a n : Int) (hn : 0 < n) : ∃ k : Nat, wi a n = (k : Nat) ∧ (k : Int) < n := ⟨(wi a n).toNat, by have := wi_n a n hn; omega, by have := wi_n a n hn; omega⟩
theorem ret_same {a b : Int} (h : a = b) : (Ending.returned (.int .i64 a)) = .returned (.int .i64 b) := by rw [h]

theorem within6 (a n : Int) (w : World) (hn : 0 < n) (hn2 : n ≤ 1000000) : Calls Tryd.prog 6 #[.int .i64 a, .int .i64 n] w fun e w' => e = .returned (.int .i64 (wi a n)) ∧ w' = w := by
  have h := tmodn a n hn
  have h0 : (n == 0) = false := beq_eq_false_iff_ne.2 (by omega)
  by_cases hlt : a.tmod n < 0
  · go_enter Tryd.func6, Tryd.ntmps6
    go_wp2
    go_ret
    exact ⟨ret_same (by rw [wi, if_pos hlt]), rfl⟩
  · go_enter Tryd.func6, Tryd.ntmps6
    go_wp2
    go_ret
    exact ⟨ret_same (by rw [wi, if_neg (by omega)]), rfl⟩
/-- It is known at once, of numbers with names. -/
theorem ext6 {T : Tabs} {S : Nat → Value} {md om : List Int} (h : ∀ (i : Nat) (m k : Int), md[i]? = some m → om[i]? = some k → ∃ a, S i = .int .i64 a ∧ wi a m = k ∧ 0 < m ∧ m ≤ 1000000) : ExtOk Tryd.prog T S (extMod 6 md om) :=
  extMod_ok (by kernel_rfl) fun i m k w h1 h2 => by
    obtain ⟨a, h3, h4, h5, h6⟩ := h i m k h1 h2
    rw [h3, ← h4]
    exact within6 a m w h5 h6
end Go.Proofs.YtdacekkfncmhjaaDoor.Ab
namespace Go.Proofs.YtdacekkfncmhjaaDoor.Ab
set_option maxRecDepth 100000 in
theorem codes : codesOk Tryd.prog = true := by kernel_rfl
end Go.Proofs.YtdacekkfncmhjaaDoor.Ab
namespace Go.Proofs.YtdacekkfncmhjaaDoor.Ab
open Go.RowKit
variable {S : Nat → Value}

/-- A number, as a number. -/
def natL {α : Type} (i : Nat) (k : Nat → α) : α := Nat.casesOn i (k 0) fun m => k (Nat.succ m)
theorem natL_eq {α : Type} (i : Nat) (k : Nat → α) : natL i k = k i := by cases i <;> rfl
def bindX {α β : Type} (x : R α) (f : α → R β) : R β := Except.casesOn x (fun e => .error e) f
theorem bindX_eq {α β : Type} (x : R α) (f : α → R β) : bindX x f = bindR x f := by cases x <;> rfl
def ifB {α : Type} (b : Bool) (x y : α) : α := Bool.casesOn b y x
theorem ifB_eq {α : Type} (b : Bool) (x y : α) : ifB b x y = if b then x else y := by cases b <;> rfl
/-- A value, or none. -/
def okV (loc : Nat) (H : Hp) (n : Nat) (x : Option AV) : R Out := Option.casesOn x (.error loc) fun y => .ok ⟨y, H, n, 0⟩
theorem okV_eq (loc : Nat) (H : Hp) (n : Nat) (x : Option AV) : okV loc H n x = orErr loc (x.map fun y => ⟨y, H, n, 0⟩) := by cases x <;> rfl

/-- An operand. -/
structure EvC where
  g : Fr → AV
def evC (T : Tabs) : Operand → EvC
  | .tmp t => rdE t
  | .const v => ⟨fun _ => ofV v⟩
  | .global g => ⟨fun _ => globAt T.glob g⟩
  | .func f => ⟨fun _ => AV.ex (.func (.func f) #[] #[])⟩
where rdE (t : Nat) : EvC := if t < 512 then ⟨(slot t).g⟩ else ⟨fun _ => AV.any⟩
theorem evC_eq (T : Tabs) (fr : Fr) (x : Operand) : (evC T x).g fr = evO T fr x := by
  cases x with
  | tmp t =>
    simp only [evC, evC.rdE, evO, Fr.get, rdC]
    split <;> rfl
  | _ => rfl
/-- Several. -/
structure EvsC where
  g : Fr → List AV
def evsC (T : Tabs) : List Operand → EvsC
  | [] => ⟨fun _ => []⟩
  | x :: xs => ⟨fun fr => (evC T x).g fr :: (evsC T xs).g fr⟩
theorem evsC_eq (T : Tabs) (fr : Fr) : ∀ (xs : List Operand), (evsC T xs).g fr = xs.map (evO T fr)
  | [] => rfl
  | x :: xs => by
    show (evC T x).g fr :: (evsC T xs).g fr = _
    rw [evC_eq, evsC_eq T fr xs]
    rfl
structure EpsC where
  g : Fr → List (Nat × AV)
def epsC (T : Tabs) : List (Nat × Operand) → EpsC
  | [] => ⟨fun _ => []⟩
  | p :: ps => ⟨fun fr => (p.1, (evC T p.2).g fr) :: (epsC T ps).g fr⟩
theorem epsC_eq (T : Tabs) (fr : Fr) : ∀ (ps : List (Nat × Operand)), (epsC T ps).g fr = ps.map fun p => (p.1, evO T fr p.2)
  | [] => rfl
  | p :: ps => by
    show (p.1, (evC T p.2).g fr) :: (epsC T ps).g fr = _
    rw [evC_eq, epsC_eq T fr ps]
    rfl
structure EoC where
  g : Fr → Option AV
def eoC (T : Tabs) : Option Operand → EoC
  | none => ⟨fun _ => none⟩
  | some x => ⟨fun fr => some ((evC T x).g fr)⟩
theorem eoC_eq (T : Tabs) (fr : Fr) (x : Option Operand) : (eoC T x).g fr = x.map (evO T fr) := by
  cases x with
  | none => rfl
  | some x => show some ((evC T x).g fr) = _; rw [evC_eq]; rfl

end Go.Proofs.YtdacekkfncmhjaaDoor.Ab
