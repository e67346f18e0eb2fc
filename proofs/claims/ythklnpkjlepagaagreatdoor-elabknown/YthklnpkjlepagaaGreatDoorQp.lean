/- A law that is run: from a bare bareC to its answer; what is known at once of some functions. -/
import Derived.Test.YthklnpkjlepagaaGreatDoorQo
import Derived.Below
namespace Go.Proofs.YthklnpkjlepagaaGreatDoor.Ab
open Go.RowKit
variable {S : Nat → Value}

/-- The bareC: all blocks that are there are never written. -/
def bareC (S : Nat → Value) (w : World) : Cx := ⟨w, fun _ => 0, fun _ => False, Hp.emp, fun k => k < w.heap.size, S⟩
theorem bareC_ok (w : World) : Ok (bareC S w) := by
  have hn : ∀ b B, (bareC S w).H.get b = some B → False := fun b B h => by
    have h : Hp.emp.get b = some B := h
    rw [emp_get] at h
    cases h
  exact ⟨fun b B h => (hn b B h).elim, fun b B b' B' h => (hn b B h).elim, fun b B h => (hn b B h).elim⟩
theorem bareC_below {w : World} {C' : Cx} (h : Goes (bareC S w) C') : Below w.heap.size w C'.w :=
  ⟨h.s3.1, h.s3.2.1, h.s3.2.2, h.le.size, fun k hk => (h.le.imm k ⟨hk, hk⟩).2⟩

def isTrueA (r : R Out) : Bool := match r with
  | .ok o => (match o.x.bool with
    | some b => b
    | none => false)
  | .error _ => false

/-- Where a run went wrong, for looking: 0 it is true, 1 it is no truth, others: the place. -/
def whyA (r : R Out) : Nat := match r with
  | .ok o => (match o.x.bool with
    | some true => 0
    | some false => 1
    | none => 2 + o.x.t)
  | .error e => e

theorem law_true {P : Program} {T : Tabs} (hT : TabOk P T) (hz : zeroB T = true) (hNum : noNum P = true) (hm : P.follows .mixedOrders = true) (hcodes : codesOk P = true) (hfns : FnsOk P T) {ext : Nat → List AV → Hp → Nat → Option (R Out)} (hext : ExtOk P T S ext) {lk f g : Nat} {args : List AV} (h : isTrueA (callA P T ext lk f g args Hp.emp 0) = true)
    {w : World} (hG : ∀ p ∈ T.glob, RV (bareC S w) p.2 (.pointer (some ⟨p.1, 0, none⟩))) {vs : Array Value} (ha : RL (bareC S w) args vs.toList) : Calls P g vs w fun e w' => e = .returned (.bool true) ∧ Below w.heap.size w w' := by
  unfold isTrueA at h
  split at h
  · rename_i o ho
    split at h
    · rename_i b hb
      subst h
      obtain ⟨_, h2⟩ := (callA_ok hT hz hNum hm hcodes hfns hext f).1 g args Hp.emp 0 o ho
      refine (h2 (bareC S w) vs rfl (fun b B h => by rw [emp_get] at h; cases h) (fun b _ _ h => h) (bareC_ok w) ⟨hG, rfl⟩ ha).mono ?_
      rintro e w' ⟨v, C', rfl, rfl, k1, k2, _, _⟩
      exact ⟨by rw [rv_bool k1 hb], bareC_below k2⟩
    · cases h
  · cases h

/-- Nothing is known at once. -/
def extNo : Nat → List AV → Hp → Nat → Option (R Out) := fun _ _ _ _ => none
theorem extNo_ok {P : Program} {T : Tabs} : ExtOk P T S extNo := ⟨fun g args H n out h => by simp [extNo] at h, fun g args H n r h => by simp [extNo] at h, fun g c h => by simp [extNo] at h⟩
def extOr (a b : Nat → List AV → Hp → Nat → Option (R Out)) : Nat → List AV → Hp → Nat → Option (R Out) := fun g args H n => match a g args H n with
  | some r => some r
  | none => b g args H n
theorem extOr_ok {P : Program} {T : Tabs} {a b : Nat → List AV → Hp → Nat → Option (R Out)} (ha : ExtOk P T S a) (hb : ExtOk P T S b) : ExtOk P T S (extOr a b) := by
  refine ⟨fun g args H n out h => ?_, fun g args H n r h => ?_, fun g c h => ?_⟩
  · simp only [extOr] at h
    cases hx : a g args H n with
    | some r => rw [hx] at h; exact ha.1 g args H n out (by simp only [hx]; exact h)
    | none => rw [hx] at h; exact hb.1 g args H n out h
  · simp only [extOr] at h
    cases hx : a g args H n with
    | some r' => exact ha.2.1 g args H n r' hx
    | none => rw [hx] at h; exact hb.2.1 g args H n r h
  · simp only [extOr] at h
    cases hx : a g [] Hp.emp 0 with
    | some r' => rw [hx] at h; cases h; exact ha.2.2 g c hx
    | none => rw [hx] at h; exact hb.2.2 g c h

/-- The int that a value is. -/
def AV.i64 (x : AV) : Option Int := if x.t = 0 then (match x.v with
  | .int .i64 i => some i
  | _ => none) else none
theorem rv_i64 {C : Cx} {x : AV} {v : Value} {i : Int} (h : RV C x v) (hi : x.i64 = some i) : v = .int .i64 i := by
  unfold AV.i64 at hi
  split at hi
  · rename_i e
    have := h.case.1 e
    split at hi
    · rename_i j hv
      cases hi
      rw [this, hv]
    · cases hi
  · cases hi
/-- A function of numbers that leaves the world as it is, at a number that has a name. -/
def extMod (wf : Nat) (md om : List Int) : Nat → List AV → Hp → Nat → Option (R Out) := fun g args H n => if g = wf then (match args with
  | [x, y] => if x.t = 12 then y.i64.bind fun m => if md[x.a]? = some m then (om[x.a]?).map fun k => .ok ⟨AV.ex (.int .i64 k), H, n, 0⟩ else none else none
  | _ => none) else none
theorem extMod_ok {P : Program} {T : Tabs} {wf : Nat} {md om : List Int} (hb : hasBody P wf = true) (h : ∀ (i : Nat) (m k : Int) (w : World), md[i]? = some m → om[i]? = some k → Calls P wf #[S i, .int .i64 m] w fun e w' => e = .returned (.int .i64 k) ∧ w' = w) : ExtOk P T S (extMod wf md om) := by
  refine ⟨fun g args H n out hx => ?_, fun g args H n r hx => ?_, fun g c hx => ?_⟩
  · simp only [extMod] at hx
    split at hx
    · rename_i r hr
      split at hr
      · rename_i hg
        subst hg
        split at hr
        · rename_i x y
          split at hr
          · rename_i hx12
            obtain ⟨m, h1, hr⟩ := Option.bind_eq_some_iff.1 hr
            split at hr
            · rename_i hm
              obtain ⟨k, h2, rfl⟩ := Option.map_eq_some_iff.1 hr
              simp only [Except.ok.injEq] at hx
              subst hx
              refine ⟨tidy_same, fun C vs hH hB hF hC hG hv => ?_⟩
              match vs, hv with
              | ⟨[v, u]⟩, hv =>
                obtain ⟨hv1, hv2, _⟩ := hv
                obtain rfl := rv_i64 hv2 h1
                have e1 : v = S x.a := by rw [← hG.2]; exact hv1.case.2.2.2.2.2.2.2.2.2.2.2 hx12
                subst e1
                refine (h x.a m k C.w hm h2).mono ?_
                rintro e w' ⟨rfl, rfl⟩
                exact ⟨_, C, rfl, rfl, rv_ex, Goes.refl hC, hH, newA_same rfl⟩
              | ⟨[]⟩, hv => exact hv.elim
              | ⟨[_]⟩, hv => exact hv.2.elim
              | ⟨_ :: _ :: _ :: _⟩, hv => exact hv.2.2.elim
            · cases hr
          · cases hr
        · cases hr
      · cases hr
    · cases hx
  · simp only [extMod] at hx
    split at hx
    · rename_i hg; rw [hg]; exact hb
    · cases hx
  · simp only [extMod] at hx
    split at hx
    · cases hx
    · cases hx
/-- Behind a call that turns nothing old. -/
theorem Ok.below {C : Cx} (h : Ok C) {w : World} (hb : Below C.w.heap.size C.w w) : Goes C { C with w := w, Z := fun k => C.Z k ∧ k < C.w.heap.size } := by
  have le : C.le { C with w := w, Z := fun k => C.Z k ∧ k < C.w.heap.size } := ⟨fun _ h => h, fun _ _ => rfl, hb.size, fun k hk => ⟨⟨Nat.lt_of_lt_of_le hk.1 hb.size, hk.2, hk.1⟩, hb.block k hk.1⟩, fun k cs t fr hk => ⟨cs, (hb.block k (size_of_block hk)).trans hk, rfl⟩, rfl⟩
  refine ⟨le, ⟨fun b B hB => ?_, h.inj, fun b B hB hz => h.zone b B hB hz.1⟩, ⟨hb.os, hb.tape, hb.output⟩, fun k hk ho => ⟨hb.block k hk, ho⟩, fun k hk hz => hz.1⟩
  obtain ⟨h1, h2⟩ := h.blk b B hB
  exact ⟨h1, h2.mono le (hb.block _ h2.lt)⟩

/-- A function without arguments that answers true. -/
def extTrue (g0 : Nat) : Nat → List AV → Hp → Nat → Option (R Out) := fun g args H n => if g = g0 then (match args with
  | [] => some (.ok ⟨AV.ex (.bool true), H, n, 0⟩)
  | _ => none) else none
theorem extTrue_ok {P : Program} {T : Tabs} {g0 : Nat} (hb : hasBody P g0 = true) (h : ∀ C, GOk T S C → Calls P g0 #[] C.w fun e w' => e = .returned (.bool true) ∧ Below C.w.heap.size C.w w') : ExtOk P T S (extTrue g0) := by
  refine ⟨fun g args H n out hx => ?_, fun g args H n r hx => ?_, fun g c hx => ?_⟩
  · simp only [extTrue] at hx
    split at hx
    · rename_i r hr
      split at hr
      · rename_i hg
        subst hg
        split at hr
        · simp only [Option.some.injEq] at hr
          subst hr
          simp only [Except.ok.injEq] at hx
          subst hx
          refine ⟨tidy_same, fun C vs hH hB hF hC hG hv => ?_⟩
          match vs, hv with
          | ⟨[]⟩, _ =>
            refine (h C hG).mono ?_
            rintro e w' ⟨rfl, hbl⟩
            exact ⟨_, _, rfl, rfl, rv_ex, hC.below hbl, hH, newA_same rfl⟩
          | ⟨_ :: _⟩, hv => exact hv.elim
        · cases hr
      · cases hr
    · cases hx
  · simp only [extTrue] at hx
    split at hx
    · rename_i hg; rw [hg]; exact hb
    · cases hx
  · simp only [extTrue] at hx
    split at hx
    · cases hx
    · cases hx
/-- A function of a string that hands it back. -/
def extStr (g0 : Nat) : Nat → List AV → Hp → Nat → Option (R Out) := fun g args H n => if g = g0 then (match args with
  | [x] => x.str.bind fun b => if Nat.ble b.data.toList.length 281474976710656 then some (.ok ⟨AV.ex (.string b), H, n, 0⟩) else none
  | _ => none) else none
theorem extStr_ok {P : Program} {T : Tabs} {g0 : Nat} (hb : hasBody P g0 = true) (h : ∀ (s : ByteArray) (w : World), s.size ≤ 281474976710656 → Calls P g0 #[.string s] w fun e w' => e = .returned (.string s) ∧ Below w.heap.size w w') : ExtOk P T S (extStr g0) := by
  refine ⟨fun g args H n out hx => ?_, fun g args H n r hx => ?_, fun g c hx => ?_⟩
  · simp only [extStr] at hx
    split at hx
    · rename_i r hr
      split at hr
      · rename_i hg
        subst hg
        split at hr
        · rename_i x
          obtain ⟨b, h1, hr⟩ := Option.bind_eq_some_iff.1 hr
          split at hr
          · rename_i hl
            simp only [Option.some.injEq] at hr
            subst hr
            simp only [Except.ok.injEq] at hx
            subst hx
            refine ⟨tidy_same, fun C vs hH hB hF hC hG hv => ?_⟩
            match vs, hv with
            | ⟨[v]⟩, hv =>
              obtain rfl := rv_str hv.1 h1
              have hs : b.size ≤ 281474976710656 := by
                have := Nat.le_of_ble_eq_true hl
                simpa using this
              refine (h b C.w hs).mono ?_
              rintro e w' ⟨rfl, hbl⟩
              exact ⟨_, _, rfl, rfl, rv_ex, hC.below hbl, hH, newA_same rfl⟩
            | ⟨[]⟩, hv => exact hv.elim
            | ⟨_ :: _ :: _⟩, hv => exact hv.2.elim
          · cases hr
        · cases hr
      · cases hr
    · cases hx
  · simp only [extStr] at hx
    split at hx
    · rename_i hg; rw [hg]; exact hb
    · cases hx
  · simp only [extStr] at hx
    split at hx
    · cases hx
    · cases hx
#print axioms extStr_ok
end Go.Proofs.YthklnpkjlepagaaGreatDoor.Ab
