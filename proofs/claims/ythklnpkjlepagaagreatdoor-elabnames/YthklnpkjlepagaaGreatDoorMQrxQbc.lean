/- Qr, Qbc: the texts of these names, one behind the other. -/
import Derived.Test.YthklnpkjlepagaaGreatDoorMQoxQp
import Derived.Test.YthklnpkjlepagaaGreatDoorQbb
namespace Go.Proofs.YthklnpkjlepagaaGreatDoor.Ab
open Go.RowKit
variable {S : Nat → Value}

def allO {α β : Type} (f : α → Option β) : List α → Option (List β)
  | [] => some []
  | a :: as => (f a).bind fun b => (allO f as).map fun bs => b :: bs

/-- The same value, told without memory. -/
def freeze (H : Hp) : Nat → AV → Option AV
  | 0, _ => none
  | f + 1, x =>
    if x.t = 0 then some x
    else if x.t = 1 then (allO (freeze H f) x.ks).map AV.agg
    else if x.t = 5 then (H.get x.a).bind fun B => if ((B.cs.drop x.b).take (x.c * x.d)).length = x.c * x.d then (allO (freeze H f) ((B.cs.drop x.b).take (x.c * x.d))).map (AV.row8 x.c x.d) else none
    else if x.t = 7 ∨ x.t = 8 then (allO (freeze H f) x.ks).map (AV.row8 x.c x.d)
    else none

theorem allO_rl {C D : Cx} {g : AV → Option AV} (hg : ∀ x v y, RV C x v → g x = some y → RV D y v) : ∀ {xs ys : List AV} {vs : List Value}, RL C xs vs → allO g xs = some ys → RL D ys vs
  | [], ys, [], _, h => by simp only [allO, Option.some.injEq] at h; subst h; trivial
  | x :: xs, ys, v :: vs, h, e => by
    simp only [allO] at e
    obtain ⟨y, h1, e⟩ := Option.bind_eq_some_iff.1 e
    obtain ⟨zs, h2, rfl⟩ := Option.map_eq_some_iff.1 e
    exact ⟨hg _ _ _ h.1 h1, allO_rl hg h.2 h2⟩
  | [], _, _ :: _, h, _ => h.elim
  | _ :: _, _, [], h, _ => h.elim

/-- Cells that are there are never written, for one who may write none. -/
theorem imm_bare {w : World} {k off : Nat} {us : List Value} (hk : k < w.heap.size) (h : ∀ (i : Nat) (u : Value), us[i]? = some u → w.cell? ⟨k, off + i, none⟩ = some u) : ImmAt (bareC S w) k off us := ⟨⟨hk, hk⟩, h⟩

theorem freeze_ok {C : Cx} (hC : Ok C) : ∀ (f : Nat) (x : AV) (v : Value) (y : AV), RV C x v → freeze C.H f x = some y → RV (bareC S C.w) y v
  | 0, _, _, _, _, h => by cases h
  | f + 1, x, v, y, h, e => by
    have ih := freeze_ok hC f
    simp only [freeze] at e
    split at e
    · rename_i h0
      cases e
      exact ⟨1, by simp [Rep, h0, h.case.1 h0]⟩
    · split at e
      · rename_i h1
        obtain ⟨us, rfl, hl⟩ := h.case.2.1 h1
        obtain ⟨ys, he, rfl⟩ := Option.map_eq_some_iff.1 e
        exact rv_agg (allO_rl ih hl he)
      · split at e
        · rename_i h5
          obtain ⟨cap, cs, ty, rfl, hA, hc, hm, hb, hs⟩ := h.case.2.2.2.2.2.1 h5
          obtain ⟨B, hB, e⟩ := Option.bind_eq_some_iff.1 e
          split at e
          · rename_i hlen
            obtain ⟨ys, he, rfl⟩ := Option.map_eq_some_iff.1 e
            obtain ⟨k, off, us, r1, r2, r3⟩ := ptrCells_ok hC (rv_ptr (b := x.b) hA hb) (ks := B.cs.drop x.b) (by simp [ptrCells, AV.ptr, hB])
            simp only [Value.pointer.injEq, Option.some.injEq, Addr.mk.injEq] at r1
            obtain ⟨rfl, rfl, _⟩ := r1
            have r4 := All2.take (x.c * x.d) r2
            have hul : (us.take (x.c * x.d)).length = x.c * x.d := by rw [← r4.len]; exact hlen
            exact rv_row8 hc hm hul (imm_bare (size_of_block hb) fun i u hu => r3 i u (by
              rw [List.getElem?_take] at hu
              split at hu
              · exact hu
              · cases hu)) (allO_rl ih r4 he)
          · cases e
        · split at e
          · rename_i h78
            obtain ⟨ys, he, rfl⟩ := Option.map_eq_some_iff.1 e
            rcases h78 with h7 | h8
            · obtain ⟨k, off, us, rfl, c1, c2, i, a⟩ := h.case.2.2.2.2.2.2.2.1 h7
              exact rv_row8 (Nat.le_refl _) c1 c2 (imm_bare i.1.1 i.2) (allO_rl ih a he)
            · obtain ⟨k, off, us, cap, rfl, c0, c1, c2, i, a⟩ := h.case.2.2.2.2.2.2.2.2.1 h8
              exact rv_row8 c0 c1 c2 (imm_bare i.1.1 i.2) (allO_rl ih a he)
          · cases e

def eqAVs (as bs : List AV) : Bool := decide (as.length = bs.length) && (as.zip bs).all fun p => eqAV 400 p.1 p.2
theorem eqAVs_eq {as bs : List AV} (h : eqAVs as bs = true) : as = bs := by
  simp only [eqAVs, Bool.and_eq_true, decide_eq_true_eq] at h
  exact zip_eq (fun q hq => eqAV_eq 400 q.1 q.2 hq) _ _ h.1 h.2

/-- A call of g0 with these trees answers the truth b. -/
def extMemo (g0 : Nat) (l : List AV) (b : Bool) : Nat → List AV → Hp → Nat → Option (R Out) := fun g args H n => if g = g0 then (allO (freeze H 400) args).bind fun as => if eqAVs as l = true then some (.ok ⟨AV.ex (.bool b), H, n, 0⟩) else none else none
theorem extMemo_ok {P : Program} {T : Tabs} {g0 : Nat} {l : List AV} {b : Bool} (hb : hasBody P g0 = true) (h : ∀ C vs, GOk T S C → RL (bareC S C.w) l vs.toList → Calls P g0 vs C.w fun e w' => e = .returned (.bool b) ∧ Below C.w.heap.size C.w w') : ExtOk P T S (extMemo g0 l b) := by
  refine ⟨fun g args H n out hx => ?_, fun g args H n r hx => ?_, fun g c hx => ?_⟩
  · simp only [extMemo] at hx
    split at hx
    · rename_i r hr
      split at hr
      · rename_i hg
        subst hg
        obtain ⟨as, h1, hr⟩ := Option.bind_eq_some_iff.1 hr
        split at hr
        · rename_i h2
          simp only [Option.some.injEq] at hr
          subst hr
          simp only [Except.ok.injEq] at hx
          subst hx
          obtain rfl := eqAVs_eq h2
          refine ⟨tidy_same, fun C vs hH hB hF hC hG hv => ?_⟩
          subst hH
          refine (h C vs hG (allO_rl (fun x v y => freeze_ok hC 400 x v y) hv h1)).mono ?_
          rintro e w' ⟨rfl, hbl⟩
          exact ⟨_, _, rfl, rfl, rv_ex, hC.below hbl, rfl, newA_same rfl⟩
        · cases hr
      · cases hr
    · cases hx
  · simp only [extMemo] at hx
    split at hx
    · rename_i hg; rw [hg]; exact hb
    · cases hx
  · simp only [extMemo] at hx
    split at hx
    · obtain ⟨as, _, hx⟩ := Option.bind_eq_some_iff.1 hx
      split at hx <;> cases hx
    · cases hx

/-- A run that answers the truth b. -/
def isA (b : Bool) (r : R Out) : Bool := match r with
  | .ok o => (match o.x.bool with
    | some c => if c then b else !b
    | none => false)
  | .error _ => false
theorem law_is {P : Program} {T : Tabs} (hT : TabOk P T) (hz : zeroB T = true) (hNum : noNum P = true) (hm : P.follows .mixedOrders = true) (hcodes : codesOk P = true) (hfns : FnsOk P T) {ext : Nat → List AV → Hp → Nat → Option (R Out)} (hext : ExtOk P T S ext) {lk f g : Nat} {b : Bool} {args : List AV} (h : isA b (callA P T ext lk f g args Hp.emp 0) = true)
    {w : World} (hG : ∀ p ∈ T.glob, RV (bareC S w) p.2 (.pointer (some ⟨p.1, 0, none⟩))) {vs : Array Value} (ha : RL (bareC S w) args vs.toList) : Calls P g vs w fun e w' => e = .returned (.bool b) ∧ Below w.heap.size w w' := by
  unfold isA at h
  split at h
  · rename_i o ho
    split at h
    · rename_i c hb
      obtain rfl : c = b := by revert h; cases b <;> cases c <;> simp
      obtain ⟨_, h2⟩ := (callA_ok hT hz hNum hm hcodes hfns hext f).1 g args Hp.emp 0 o ho
      refine (h2 (bareC S w) vs rfl (fun b B h => by rw [emp_get] at h; cases h) (fun b _ _ h => h) (bareC_ok w) ⟨hG, rfl⟩ ha).mono ?_
      rintro e w' ⟨v, C', rfl, rfl, k1, k2, _, _⟩
      exact ⟨by rw [rv_bool k1 hb], bareC_below k2⟩
    · cases h
  · cases h
end Go.Proofs.YthklnpkjlepagaaGreatDoor.Ab
namespace Go.Proofs.YthklnpkjlepagaaGreatDoor.Ab
open Go.RowKit
variable {S : Nat → Value}

theorem callG_ok {P : Program} {T : Tabs} (hT : TabOk P T) (hz : zeroB T = true) (hNum : noNum P = true) (hm : P.follows .mixedOrders = true) (hcodes : codesOk P = true) (hfns : FnsOk P T) {ext : Nat → List AV → Hp → Nat → Option (R Out)} (hext : ExtOk P T S ext) {lk : Nat} {call : CallA} (ih1 : CallOk P T S call) (ih2 : ∀ g args H n out, call g args H n = .ok out → hasBody P g = true) :
    CallOk P T S (callG P T ext lk call) ∧ ∀ g args H n out, callG P T ext lk call g args H n = .ok out → hasBody P g = true := by
  refine ⟨fun g args H n out h => ?_, fun g args H n out h => ?_⟩
  · simp only [callG] at h
    split at h
    · rename_i r hr
      exact hext.1 g args H n out (by simp only [hr]; exact h)
    · split at h
      · rename_i fn hfn
        replace hfn := hfns _ _ hfn
        split at h
        · rename_i c hc
          split at h
          case isFalse => cases h
          rename_i hal
          obtain ⟨⟨e, s'⟩, h1, h⟩ := bindR_ok h
          split at h
          · rename_i hk
            obtain ⟨xs, h2, h⟩ := bindR_ok h
            have h2 := orErr_ok h2
            simp only [Except.ok.injEq] at h
            subst h
            simp only at hk h2
            have hco : codeOk c = true := by
              have hm : fn ∈ P.funcs.toList := by
                rw [← Array.getElem?_toList] at hfn
                exact List.mem_of_getElem? hfn
              have := List.all_eq_true.1 hcodes fn hm
              simpa [hc] using this
            obtain ⟨t1, t2⟩ := bodyA_ok hT hz hNum hm ih1 ih2 (its_ok hext) c _ e s' hco h1
            refine ⟨⟨t1.le, t1.bnd, fun hB b hb hw => t1.keep hB b hb ?_, fun hB b hb hlt => ?_⟩, fun C vs hH hB hF hC hG hr => ?_⟩
            · have hw : (s'.wr % 2 ^ n).testBit b = false := hw
              rw [Nat.testBit_mod_two_pow] at hw
              simpa [hb] using hw
            · have hb : (s'.wr % 2 ^ n).testBit b = true := hb
              rw [Nat.testBit_mod_two_pow] at hb
              simp only [Bool.and_eq_true, decide_eq_true_eq] at hb
              rcases t1.had hB b hb.2 with h9 | h9 | h9
              · exact no_bit h9
              · have h9 : n ≤ b := h9
                omega
              · exact h9
            · refine calls_of_end hfn hc (t2 _ C _ ⟨hH, hC, rf_args (Nat.le_of_ble_eq_true hal) hr rfl, rfl, hB⟩ hG hF fun C' a' ds k1 kM k2 k3 => ?_)
              have hto : e.to = .normal ∨ e.to = .ret := by
                unfold Ex.to
                rcases hk with h9 | h9
                · exact Or.inl (if_pos h9)
                · exact Or.inr (by rw [if_neg (by omega), if_neg (by omega), if_neg (by omega)])
              have hend : (a'.defers = [] ∧ ∃ v, (results fn a'.tmps).run P C'.w = .ok v C'.w ∧ ∃ v' C2, Ending.returned v = .returned v' ∧ C2.w = C'.w ∧ RV C2 (oneA xs) v' ∧ Goes C C2 ∧ C2.H = s'.H ∧ NewA C C2 n s'.n) ∨ ∃ D w', a'.defers = [markD D] ∧ (Instr.takeDeferred D).run P C'.w = .ok [] w' ∧ ∃ v, (results fn a'.tmps).run P w' = .ok v w' ∧ ∃ v' C2, Ending.returned v = .returned v' ∧ C2.w = w' ∧ RV C2 (oneA xs) v' ∧ Goes C C2 ∧ C2.H = s'.H ∧ NewA C C2 n s'.n := by
                rw [← k1.H] at h2
                rcases kM with rfl | ⟨D, hD, rfl, hS⟩
                · obtain ⟨v, h3, h4⟩ := results_ok (P := P) hT k1.ok (hG.mono k2.le) k1.fr h2
                  exact Or.inl ⟨k1.df, v, h3, v, C', rfl, rfl, h4, k2, k1.H, k3⟩
                · obtain ⟨g6, _⟩ := hS.put k1.ok (.deferred none) rfl
                  have g7 := ((k2.gx D).trans g6).goes hD
                  obtain ⟨v, h3, h4⟩ := results_ok (P := P) hT g6.ok (hG.mono g7.le) (k1.fr.mono g6.le) h2
                  exact Or.inr ⟨D, (C'.put D (.deferred none)).w, k1.df, run_takeDeferred hS.at_, v, h3, v, C'.put D (.deferred none), rfl, rfl, h4, g7, k1.H, k3⟩
              rcases hto with h9 | h9 <;> (rw [h9]; exact hend)
          · cases h
        · cases h
      · cases h
  · simp only [callG] at h
    split at h
    · rename_i r hr
      exact hext.2.1 g args H n r hr
    · split at h
      · rename_i fn hfn
        replace hfn := hfns _ _ hfn
        split at h
        · rename_i c hc
          unfold hasBody
          rw [hfn]
          simp [hc]
        · cases h
      · cases h

theorem callF_ok {P : Program} {T : Tabs} (hT : TabOk P T) (hz : zeroB T = true) (hNum : noNum P = true) (hm : P.follows .mixedOrders = true) (hcodes : codesOk P = true) (hfns : FnsOk P T) {ext : Nat → List AV → Hp → Nat → Option (R Out)} (hext : ExtOk P T S ext) {lk : Nat} :
    ∀ (f : Nat), CallOk P T S (callF P T ext lk f) ∧ ∀ g args H n out, callF P T ext lk f g args H n = .ok out → hasBody P g = true
  | 0 => ⟨fun g args H n out h => by simp [callF] at h, fun g args H n out h => by simp [callF] at h⟩
  | f + 1 => by
    obtain ⟨ih1, ih2⟩ := callF_ok hT hz hNum hm hcodes hfns hext f
    obtain ⟨k1, k2⟩ := callG_ok hT hz hNum hm hcodes hfns hext (lk := lk) ih1 ih2
    exact ⟨fun g args H n out h => k1 g args H n out (callF_G h), fun g args H n out h => k2 g args H n out (callF_G h)⟩

theorem law_trueF {P : Program} {T : Tabs} (hT : TabOk P T) (hz : zeroB T = true) (hNum : noNum P = true) (hm : P.follows .mixedOrders = true) (hcodes : codesOk P = true) (hfns : FnsOk P T) {ext : Nat → List AV → Hp → Nat → Option (R Out)} (hext : ExtOk P T S ext) {lk f g : Nat} {args : List AV} (h : isTrueA (callF P T ext lk f g args Hp.emp 0) = true)
    {w : World} (hG : ∀ p ∈ T.glob, RV (bareC S w) p.2 (.pointer (some ⟨p.1, 0, none⟩))) {vs : Array Value} (ha : RL (bareC S w) args vs.toList) : Calls P g vs w fun e w' => e = .returned (.bool true) ∧ Below w.heap.size w w' := by
  unfold isTrueA at h
  split at h
  · rename_i o ho
    split at h
    · rename_i b hb
      subst h
      obtain ⟨_, h2⟩ := (callF_ok hT hz hNum hm hcodes hfns hext f).1 g args Hp.emp 0 o ho
      refine (h2 (bareC S w) vs rfl (fun b B h => by rw [emp_get] at h; cases h) (fun b _ _ h => h) (bareC_ok w) ⟨hG, rfl⟩ ha).mono ?_
      rintro e w' ⟨v, C', rfl, rfl, k1, k2, _, _⟩
      exact ⟨by rw [rv_bool k1 hb], bareC_below k2⟩
    · cases h
  · cases h

theorem law_isF {P : Program} {T : Tabs} (hT : TabOk P T) (hz : zeroB T = true) (hNum : noNum P = true) (hm : P.follows .mixedOrders = true) (hcodes : codesOk P = true) (hfns : FnsOk P T) {ext : Nat → List AV → Hp → Nat → Option (R Out)} (hext : ExtOk P T S ext) {lk f g : Nat} {b : Bool} {args : List AV} (h : isA b (callF P T ext lk f g args Hp.emp 0) = true)
    {w : World} (hG : ∀ p ∈ T.glob, RV (bareC S w) p.2 (.pointer (some ⟨p.1, 0, none⟩))) {vs : Array Value} (ha : RL (bareC S w) args vs.toList) : Calls P g vs w fun e w' => e = .returned (.bool b) ∧ Below w.heap.size w w' := by
  unfold isA at h
  split at h
  · rename_i o ho
    split at h
    · rename_i c hb
      obtain rfl : c = b := by revert h; cases b <;> cases c <;> simp
      obtain ⟨_, h2⟩ := (callF_ok hT hz hNum hm hcodes hfns hext f).1 g args Hp.emp 0 o ho
      refine (h2 (bareC S w) vs rfl (fun b B h => by rw [emp_get] at h; cases h) (fun b _ _ h => h) (bareC_ok w) ⟨hG, rfl⟩ ha).mono ?_
      rintro e w' ⟨v, C', rfl, rfl, k1, k2, _, _⟩
      exact ⟨by rw [rv_bool k1 hb], bareC_below k2⟩
    · cases h
  · cases h
end Go.Proofs.YthklnpkjlepagaaGreatDoor.Ab
