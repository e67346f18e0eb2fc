/- A law that is run by what was reckoned ahead. -/
import Derived.Test.YthklnpkjlepagaaGreatDoorQbb
import Derived.Test.YthklnpkjlepagaaGreatDoorQr
namespace Go.Proofs.YthklnpkjlepagaaGreatDoor.Ab
open Go.RowKit
variable {S : Nat → Value}

theorem callG_ok {P : Program} {T : Tabs} (hT : TabOk P T) (hz : zeroB T = true) (hNum : noNum P = true) (hm : P.follows .mixedOrders = true) (hcodes : codesOk P = true) (hfns : FnsOk P T) {ext : Nat → List AV → Hp → Nat → Option (R Out)} (hext : ExtOk P T S ext) {lk : Nat} {call : CallA} (ih1 : CallOk P T S call) (ih2 : ∀ g args H n out, call g args H n = .ok out → hasBody P g = true) :
    CallOk P T S (callG P T ext lk call) ∧ ∀ g args H n out, callG P T ext lk call g args H n = .ok out → hasBody P g = true := by
  refine ⟨fun g args H n out h => ?_, fun g args H n out h => ?_⟩
  · simp only [callG] at h
    split at h
    · rename_i r hr
      exact hext.1 g args H n out (by simp only [hr]; exact h)
    · split at h
      · rename_i fn hfn
        replace hfn := hfns _ _ hfn
        split at h
        · rename_i c hc
          split at h
          case isFalse => cases h
          rename_i hal
          obtain ⟨⟨e, s'⟩, h1, h⟩ := bindR_ok h
          split at h
          · rename_i hk
            obtain ⟨xs, h2, h⟩ := bindR_ok h
            have h2 := orErr_ok h2
            simp only [Except.ok.injEq] at h
            subst h
            simp only at hk h2
            have hco : codeOk c = true := by
              have hm : fn ∈ P.funcs.toList := by
                rw [← Array.getElem?_toList] at hfn
                exact List.mem_of_getElem? hfn
              have := List.all_eq_true.1 hcodes fn hm
              simpa [hc] using this
            obtain ⟨t1, t2⟩ := bodyA_ok hT hz hNum hm ih1 ih2 (its_ok hext) c _ e s' hco h1
            refine ⟨⟨t1.le, t1.bnd, fun hB b hb hw => t1.keep hB b hb ?_, fun hB b hb hlt => ?_⟩, fun C vs hH hB hF hC hG hr => ?_⟩
            · have hw : (s'.wr % 2 ^ n).testBit b = false := hw
              rw [Nat.testBit_mod_two_pow] at hw
              simpa [hb] using hw
            · have hb : (s'.wr % 2 ^ n).testBit b = true := hb
              rw [Nat.testBit_mod_two_pow] at hb
              simp only [Bool.and_eq_true, decide_eq_true_eq] at hb
              rcases t1.had hB b hb.2 with h9 | h9 | h9
              · exact no_bit h9
              · have h9 : n ≤ b := h9
                omega
              · exact h9
            · refine calls_of_end hfn hc (t2 _ C _ ⟨hH, hC, rf_args (Nat.le_of_ble_eq_true hal) hr rfl, rfl, hB⟩ hG hF fun C' a' ds k1 kM k2 k3 => ?_)
              have hto : e.to = .normal ∨ e.to = .ret := by
                unfold Ex.to
                rcases hk with h9 | h9
                · exact Or.inl (if_pos h9)
                · exact Or.inr (by rw [if_neg (by omega), if_neg (by omega), if_neg (by omega)])
              have hend : (a'.defers = [] ∧ ∃ v, (results fn a'.tmps).run P C'.w = .ok v C'.w ∧ ∃ v' C2, Ending.returned v = .returned v' ∧ C2.w = C'.w ∧ RV C2 (oneA xs) v' ∧ Goes C C2 ∧ C2.H = s'.H ∧ NewA C C2 n s'.n) ∨ ∃ D w', a'.defers = [markD D] ∧ (Instr.takeDeferred D).run P C'.w = .ok [] w' ∧ ∃ v, (results fn a'.tmps).run P w' = .ok v w' ∧ ∃ v' C2, Ending.returned v = .returned v' ∧ C2.w = w' ∧ RV C2 (oneA xs) v' ∧ Goes C C2 ∧ C2.H = s'.H ∧ NewA C C2 n s'.n := by
                rw [← k1.H] at h2
                rcases kM with rfl | ⟨D, hD, rfl, hS⟩
                · obtain ⟨v, h3, h4⟩ := results_ok (P := P) hT k1.ok (hG.mono k2.le) k1.fr h2
                  exact Or.inl ⟨k1.df, v, h3, v, C', rfl, rfl, h4, k2, k1.H, k3⟩
                · obtain ⟨g6, _⟩ := hS.put k1.ok (.deferred none) rfl
                  have g7 := ((k2.gx D).trans g6).goes hD
                  obtain ⟨v, h3, h4⟩ := results_ok (P := P) hT g6.ok (hG.mono g7.le) (k1.fr.mono g6.le) h2
                  exact Or.inr ⟨D, (C'.put D (.deferred none)).w, k1.df, run_takeDeferred hS.at_, v, h3, v, C'.put D (.deferred none), rfl, rfl, h4, g7, k1.H, k3⟩
              rcases hto with h9 | h9 <;> (rw [h9]; exact hend)
          · cases h
        · cases h
      · cases h
  · simp only [callG] at h
    split at h
    · rename_i r hr
      exact hext.2.1 g args H n r hr
    · split at h
      · rename_i fn hfn
        replace hfn := hfns _ _ hfn
        split at h
        · rename_i c hc
          unfold hasBody
          rw [hfn]
          simp [hc]
        · cases h
      · cases h

theorem callF_ok {P : Program} {T : Tabs} (hT : TabOk P T) (hz : zeroB T = true) (hNum : noNum P = true) (hm : P.follows .mixedOrders = true) (hcodes : codesOk P = true) (hfns : FnsOk P T) {ext : Nat → List AV → Hp → Nat → Option (R Out)} (hext : ExtOk P T S ext) {lk : Nat} :
    ∀ (f : Nat), CallOk P T S (callF P T ext lk f) ∧ ∀ g args H n out, callF P T ext lk f g args H n = .ok out → hasBody P g = true
  | 0 => ⟨fun g args H n out h => by simp [callF] at h, fun g args H n out h => by simp [callF] at h⟩
  | f + 1 => by
    obtain ⟨ih1, ih2⟩ := callF_ok hT hz hNum hm hcodes hfns hext f
    obtain ⟨k1, k2⟩ := callG_ok hT hz hNum hm hcodes hfns hext (lk := lk) ih1 ih2
    exact ⟨fun g args H n out h => k1 g args H n out (callF_G h), fun g args H n out h => k2 g args H n out (callF_G h)⟩

theorem law_trueF {P : Program} {T : Tabs} (hT : TabOk P T) (hz : zeroB T = true) (hNum : noNum P = true) (hm : P.follows .mixedOrders = true) (hcodes : codesOk P = true) (hfns : FnsOk P T) {ext : Nat → List AV → Hp → Nat → Option (R Out)} (hext : ExtOk P T S ext) {lk f g : Nat} {args : List AV} (h : isTrueA (callF P T ext lk f g args Hp.emp 0) = true)
    {w : World} (hG : ∀ p ∈ T.glob, RV (bareC S w) p.2 (.pointer (some ⟨p.1, 0, none⟩))) {vs : Array Value} (ha : RL (bareC S w) args vs.toList) : Calls P g vs w fun e w' => e = .returned (.bool true) ∧ Below w.heap.size w w' := by
  unfold isTrueA at h
  split at h
  · rename_i o ho
    split at h
    · rename_i b hb
      subst h
      obtain ⟨_, h2⟩ := (callF_ok hT hz hNum hm hcodes hfns hext f).1 g args Hp.emp 0 o ho
      refine (h2 (bareC S w) vs rfl (fun b B h => by rw [emp_get] at h; cases h) (fun b _ _ h => h) (bareC_ok w) ⟨hG, rfl⟩ ha).mono ?_
      rintro e w' ⟨v, C', rfl, rfl, k1, k2, _, _⟩
      exact ⟨by rw [rv_bool k1 hb], bareC_below k2⟩
    · cases h
  · cases h

theorem law_isF {P : Program} {T : Tabs} (hT : TabOk P T) (hz : zeroB T = true) (hNum : noNum P = true) (hm : P.follows .mixedOrders = true) (hcodes : codesOk P = true) (hfns : FnsOk P T) {ext : Nat → List AV → Hp → Nat → Option (R Out)} (hext : ExtOk P T S ext) {lk f g : Nat} {b : Bool} {args : List AV} (h : isA b (callF P T ext lk f g args Hp.emp 0) = true)
    {w : World} (hG : ∀ p ∈ T.glob, RV (bareC S w) p.2 (.pointer (some ⟨p.1, 0, none⟩))) {vs : Array Value} (ha : RL (bareC S w) args vs.toList) : Calls P g vs w fun e w' => e = .returned (.bool b) ∧ Below w.heap.size w w' := by
  unfold isA at h
  split at h
  · rename_i o ho
    split at h
    · rename_i c hb
      obtain rfl : c = b := by revert h; cases b <;> cases c <;> simp
      obtain ⟨_, h2⟩ := (callF_ok hT hz hNum hm hcodes hfns hext f).1 g args Hp.emp 0 o ho
      refine (h2 (bareC S w) vs rfl (fun b B h => by rw [emp_get] at h; cases h) (fun b _ _ h => h) (bareC_ok w) ⟨hG, rfl⟩ ha).mono ?_
      rintro e w' ⟨v, C', rfl, rfl, k1, k2, _, _⟩
      exact ⟨by rw [rv_bool k1 hb], bareC_below k2⟩
    · cases h
  · cases h
#print axioms law_isF
end Go.Proofs.YthklnpkjlepagaaGreatDoor.Ab
