/- Qo, Qp: the texts of these names, one behind the other. -/
import Derived.Test.YthklnpkjlepagaaGreatDoorMQjaxQoc
import Derived.Below
namespace Go.Proofs.YthklnpkjlepagaaGreatDoor.Ab
open Go.RowKit
variable {S : Nat → Value}

/-- What a function hands back. -/
def resA (T : Tabs) (H : Hp) (fr : Fr) : List ResultVar → Option (List AV)
  | [] => some []
  | .tmp t :: rs => (resA T H fr rs).map fun xs => (evO T fr (.tmp t)) :: xs
  | .cell a t :: rs => (xLoad T H t (evO T fr (.tmp a))).bind fun x => (resA T H fr rs).map fun xs => x :: xs
def oneA : List AV → AV
  | [x] => x
  | xs => AV.tup xs

/-- One of them. -/
def resV (a : Act) (r : ResultVar) : Sem Value := match r with
  | .tmp t => pure (a.tmps.getD t undef)
  | .cell x t => do loadVar t (← asAddr (a.tmps.getD x undef))
theorem resV_cons {P : Program} {a : Act} {w : World} {r : ResultVar} {rs : List ResultVar} {v : Value} {vs : List Value} (h1 : (resV a r).run P w = .ok v w) (h2 : (rs.mapM (resV a)).run P w = .ok vs w) : ((r :: rs).mapM (resV a)).run P w = .ok (v :: vs) w := by
  rw [List.mapM_cons]
  simp only [Sem.run_bind, h1, Result.andThen_ok, h2, Sem.run_pure]

theorem resA_ok {P : Program} {T : Tabs} (hT : TabOk P T) {C : Cx} (hC : Ok C) (hG : GOk T S C) {N : Nat} {fr : Fr} {a : Act} (hf : RF C N fr a) : ∀ (rs : List ResultVar) (xs : List AV), resA T C.H fr rs = some xs → ∃ vs, RL C xs vs ∧ (rs.mapM (resV a)).run P C.w = .ok vs C.w
  | [], xs, h => by
    simp only [resA, Option.some.injEq] at h
    subst h
    exact ⟨[], trivial, by simp⟩
  | .tmp t :: rs, xs, h => by
    simp only [resA] at h
    obtain ⟨ys, h1, rfl⟩ := Option.map_eq_some_iff.1 h
    obtain ⟨vs, h2, h3⟩ := resA_ok hT hC hG hf rs ys h1
    exact ⟨a.tmps.getD t undef :: vs, ⟨rv_op hG hf (.tmp t), h2⟩, resV_cons rfl h3⟩
  | .cell x t :: rs, xs, h => by
    simp only [resA] at h
    obtain ⟨y, h0, h⟩ := Option.bind_eq_some_iff.1 h
    obtain ⟨ys, h1, rfl⟩ := Option.map_eq_some_iff.1 h
    obtain ⟨vs, h2, h3⟩ := resA_ok hT hC hG hf rs ys h1
    have hx := rv_op hG hf (.tmp x)
    obtain ⟨u, h4, h5⟩ := xLoad_ok hT hC hx h0
    have : ∃ k off, a.tmps.getD x undef = .pointer (some ⟨k, off, none⟩) := by
      unfold xLoad at h0
      obtain ⟨ti, _, h0⟩ := Option.bind_eq_some_iff.1 h0
      obtain ⟨cs, h6, _⟩ := Option.bind_eq_some_iff.1 h0
      obtain ⟨k, off, us, h7, _⟩ := ptrCells_ok hC hx h6
      exact ⟨k, off, h7⟩
    obtain ⟨k, off, hp⟩ := this
    refine ⟨u :: vs, ⟨h5, h2⟩, resV_cons ?_ h3⟩
    have h4 : (loadVar t ⟨k, off, none⟩).run P C.w = .ok u C.w := by
      have h4 : (Instr.loadAt t (a.tmps.getD x undef)).run P C.w = .ok u C.w := h4
      rw [hp] at h4
      simpa [Instr.loadAt, Instr.sureAddr] using h4
    unfold resV
    simp only [hp, asAddr, Sem.run_bind, Sem.run_pure, Result.andThen_ok, h4]

theorem results_ok {P : Program} {T : Tabs} (hT : TabOk P T) {C : Cx} (hC : Ok C) (hG : GOk T S C) {N : Nat} {fr : Fr} {a : Act} (hf : RF C N fr a) {fn : Func} {xs : List AV} (h : resA T C.H fr fn.results.toList = some xs) : ∃ v, (results fn a.tmps).run P C.w = .ok v C.w ∧ RV C (oneA xs) v := by
  obtain ⟨vs, h1, h2⟩ := resA_ok (P := P) hT hC hG hf _ _ h
  have h0 : (fn.results.mapM (resV a)).run P C.w = .ok vs.toArray C.w := by
    rw [Array.mapM_eq_mapM_toList]
    simp only [Sem.run_bind, map_eq_pure_bind, h2, Result.andThen_ok, Sem.run_pure]
  have h3 : (results fn a.tmps).run P C.w = .ok (if h : vs.toArray.size = 1 then vs.toArray[0] else .tuple vs.toArray) C.w := by
    have : results fn a.tmps = (do let vs ← fn.results.mapM (resV a); pure (if h : vs.size = 1 then vs[0] else .tuple vs)) := rfl
    rw [this]
    simp only [Sem.run_bind, h0, Result.andThen_ok, Sem.run_pure]
  refine ⟨_, h3, ?_⟩
  match xs, vs, h1 with
  | [], [], _ => exact rv_tup (us := #[]) trivial
  | [x], [v], h1 => exact h1.1
  | x :: y :: xs, v :: u :: vs, h1 =>
    have : ¬ (v :: u :: vs).toArray.size = 1 := by simp
    rw [dif_neg this]
    exact rv_tup (us := (v :: u :: vs).toArray) (by simpa using h1)

/-- A function, all of whose code is fit. -/
def codesOk (P : Program) : Bool := P.funcs.toList.all fun fn => match fn.body with
  | some c => codeOk c
  | none => true

/-- The first frame of a call. -/
def noFr : Fr := Fr.all (AV.ex undef)
def frArgs (N : Nat) : List AV → Nat → Fr → Fr
  | [], _, fr => fr
  | x :: xs, i, fr => frArgs N xs (i + 1) (putA N fr (some i) x)
theorem noFr_get (t : Nat) : noFr.get t = AV.ex undef ∨ noFr.get t = AV.any := by
  unfold Fr.get rdC
  split
  · refine Or.inl ?_
    exact slot_all _ _
  · exact Or.inr rfl
theorem frArgs_get (N : Nat) (t : Nat) : ∀ (xs : List AV) (i : Nat) (fr : Fr), (frArgs N xs i fr).get t = if t < N ∧ t < 512 ∧ i ≤ t ∧ t < i + xs.length then xs.getD (t - i) AV.any else fr.get t
  | [], i, fr => by
    rw [if_neg (by simp only [List.length_nil]; omega)]
    rfl
  | x :: xs, i, fr => by
    simp only [frArgs]
    rw [frArgs_get N t xs (i + 1), putA_get]
    simp only [Option.some.injEq, List.length_cons]
    by_cases h : t < N ∧ t < 512
    · by_cases h1 : i = t
      · subst h1
        rw [if_neg (by omega), if_pos ⟨rfl, h⟩, if_pos (by omega), Nat.sub_self]
        rfl
      · by_cases h2 : i + 1 ≤ t ∧ t < i + 1 + xs.length
        · rw [if_pos ⟨h.1, h.2, h2.1, h2.2⟩, if_pos (by omega), show t - i = t - (i + 1) + 1 by omega]
          rfl
        · rw [if_neg (by omega), if_neg (by omega), if_neg (by omega)]
    · rw [if_neg (by omega), if_neg (by omega), if_neg (by omega)]
theorem rf_args {C : Cx} {N : Nat} {args : List AV} {vs : Array Value} (hl : args.length ≤ N) (h : RL C args vs.toList) {a : Act} (ha : a.tmps = vs ++ Array.replicate (N - vs.size) undef) : RF C N (frArgs N args 0 noFr) a := by
  have hlen := h.len
  simp at hlen
  refine ⟨by rw [ha]; simp; omega, fun t => ?_⟩
  rw [frArgs_get, Nat.zero_add, Nat.sub_zero]
  by_cases ht : t < N ∧ t < 512 ∧ 0 ≤ t ∧ t < args.length
  · rw [if_pos ht, List.getD_eq_getElem?_getD, List.getElem?_eq_getElem ht.2.2.2, Option.getD_some]
    obtain ⟨b, hb, hr⟩ := All2.get h (List.getElem?_eq_getElem ht.2.2.2)
    rw [ha, Array.getD_eq_getD_getElem?, Array.getElem?_append_left (by omega)]
    rw [Array.getElem?_toList] at hb
    rw [hb]
    exact hr
  · rw [if_neg ht]
    rcases noFr_get t with h9 | h9
    · rw [h9]
      have h5 : t < 512 := by
        rcases Nat.lt_or_ge t 512 with h | h
        · exact h
        · exfalso
          have : noFr.get t = AV.any := by simp only [Fr.get, rdC, if_neg (show ¬ t < 512 by omega)]
          rw [this] at h9
          exact absurd (congrArg AV.t h9) (by decide)
      have hge : vs.size ≤ t := by
        rcases Nat.lt_or_ge t args.length with h | h
        · exact absurd ⟨by omega, h5, Nat.zero_le _, h⟩ ht
        · omega
      rw [ha, Array.getD_eq_getD_getElem?, Array.getElem?_append_right hge]
      rw [Array.getElem?_replicate]
      split <;> exact rv_ex
    · rw [h9]
      exact rv_any

/-- Code, as a list. -/
def flat : Code → List Code
  | .seq a b => flat a ++ flat b
  | c => [c]
def wpS (P : Program) : List Code → (Exit → Act → World → Prop) → Act → World → Prop
  | [], Q, a, w => Q .normal a w
  | c :: cs, Q, a, w => c.wp P (Exit.then (fun a w => wpS P cs Q a w) Q) a w
theorem flat_ok {P : Program} {Q : Exit → Act → World → Prop} : ∀ (c : Code) (cs : List Code) (a : Act) (w : World), wpS P (flat c ++ cs) Q a w → c.wp P (Exit.then (fun a w => wpS P cs Q a w) Q) a w
  | .seq x y, cs, a, w, h => by
    have h : wpS P (flat x ++ flat y ++ cs) Q a w := h
    rw [List.append_assoc] at h
    refine wp_seq (Code.wp_mono (fun e a w he => ?_) (flat_ok x (flat y ++ cs) a w h))
    cases e with
    | normal => exact flat_ok y cs a w he
    | _ => exact he
  | .skip, _, _, _, h => h
  | .region _ _ _, _, _, _, h => h
  | .cond _ _ _, _, _, _, h => h
  | .block _ _, _, _, _, h => h
  | .loop _, _, _, _, h => h
  | .rangeFunc _ _ _ _, _, _, _, h => h
  | .exit _, _, _, _, h => h
  | .scope _, _, _, _, h => h
  | .label _, _, _, _, h => h
  | .goto _, _, _, _, h => h
  | .ret, _, _, _, h => h
  | .refuse _, _, _, _, h => h
theorem flat_wp {P : Program} {Q : Exit → Act → World → Prop} {c : Code} {a : Act} {w : World} (h : wpS P (flat c) Q a w) : c.wp P Q a w := by
  refine Code.wp_mono (fun e a w he => ?_) (flat_ok c [] a w (by rw [List.append_nil]; exact h))
  cases e with
  | normal => exact he
  | _ => exact he
theorem flat_code : ∀ (c : Code), codeOk c = true → ∀ x ∈ flat c, codeOk x = true
  | .seq a b, h, x, hx => by
    simp only [codeOk, Bool.and_eq_true] at h
    rcases List.mem_append.1 hx with hx | hx
    · exact flat_code a h.1 x hx
    · exact flat_code b h.2 x hx
  | .skip, h, x, hx => by rw [List.mem_singleton.1 hx]; exact h
  | .region _ _ _, h, x, hx => by rw [List.mem_singleton.1 hx]; exact h
  | .cond _ _ _, h, x, hx => by rw [List.mem_singleton.1 hx]; exact h
  | .block _ _, h, x, hx => by rw [List.mem_singleton.1 hx]; exact h
  | .loop _, h, x, hx => by rw [List.mem_singleton.1 hx]; exact h
  | .rangeFunc _ _ _ _, h, x, hx => by rw [List.mem_singleton.1 hx]; exact h
  | .exit _, h, x, hx => by rw [List.mem_singleton.1 hx]; exact h
  | .scope _, h, x, hx => by rw [List.mem_singleton.1 hx]; exact h
  | .label _, h, x, hx => by rw [List.mem_singleton.1 hx]; exact h
  | .goto _, h, x, hx => by rw [List.mem_singleton.1 hx]; exact h
  | .ret, h, x, hx => by rw [List.mem_singleton.1 hx]; exact h
  | .refuse _, h, x, hx => by rw [List.mem_singleton.1 hx]; exact h

/-- The parts of a function's code, one behind the other; one of them may be a range over a function. -/
def runL (P : Program) (T : Tabs) (call : CallA) (its : Nat → Option (Nat × Nat)) (N lk loc : Nat) : List Code → Bool → Sta → R (Ex × Sta)
  | [], _, s => .ok (⟨0, 0⟩, s)
  | c :: cs, u, s => match rfOf c with
    | some q => if u then .error (loc + 705) else bindR (rangeA P T call its N loc q s) fun r => if r.1.k = 0 then runL P T call its N lk loc cs true r.2 else .ok r
    | none => bindR (execA P T call N lk loc c s) fun r => if r.1.k = 0 then runL P T call its N lk loc cs u r.2 else .ok r
def hasRF : Code → Bool
  | .seq a b => hasRF a || hasRF b
  | c => (rfOf c).isSome
/-- A function's code. -/
def bodyA (P : Program) (T : Tabs) (call : CallA) (its : Nat → Option (Nat × Nat)) (N lk loc : Nat) (c : Code) (s : Sta) : R (Ex × Sta) := if hasRF c then runL P T call its N lk loc (flat c) false s else execA P T call N lk loc c s

section
variable {P : Program} {T : Tabs} (hT : TabOk P T) (hz : zeroB T = true) (hNum : noNum P = true) (hm : P.follows .mixedOrders = true) {call : CallA} (hcall : CallOk P T S call) (hbody : ∀ g args H n out, call g args H n = .ok out → hasBody P g = true)
include hT hz hNum hm hcall hbody
theorem runL_ok {its : Nat → Option (Nat × Nat)} (hits : ∀ it ts te, its it = some (ts, te) → BackOk P it ts te ∧ hasBody P it = true) {N lk loc : Nat} : ∀ (cs : List Code) (u : Bool) (s : Sta) (e : Ex) (s' : Sta), (∀ c ∈ cs, codeOk c = true) → runL P T call its N lk loc cs u s = .ok (e, s') →
    Tid s s' ∧ ∀ (b : Nat) (ds : List Deferred) (Q : Exit → Act → World → Prop) (C : Cx) (a : Act), StaOk ds C N s a → b ≤ C.w.heap.size → Marks b C ds → (u = false → ds = []) → GOk T S C → FreeA C s.n s'.n → (∀ C' a' ds', StaOk ds' C' N s' a' → Marks b C' ds' → Goes C C' → NewA C C' s.n s'.n → Q e.to a' C'.w) → wpS P cs Q a C.w
  | [], u, s, e, s', _, h => by
    simp only [runL, Except.ok.injEq, Prod.mk.injEq] at h
    obtain ⟨rfl, rfl⟩ := h
    exact ⟨Tid.refl s, fun b ds Q C a hs hb hm hu hG hF hQ => hQ C a ds hs hm (Goes.refl hs.ok) (newA_same rfl)⟩
  | c :: cs, u, s, e, s', hc, h => by
    simp only [runL] at h
    split at h
    · rename_i q hq
      have hcq := rfOf_eq hq
      split at h
      · cases h
      rename_i hu0
      have hu0 : u = false := by simpa using hu0
      obtain ⟨⟨e1, s1⟩, h1, h⟩ := bindR_ok h
      obtain ⟨t1, t2⟩ := range_ok hT hz hNum hcall hbody hits h1
      split at h
      · rename_i h0
        simp only at h0 h
        obtain ⟨t3, t4⟩ := runL_ok hits cs true s1 e s' (fun c hc' => hc c (List.mem_cons_of_mem _ hc')) h
        refine ⟨t1.trans t3, fun b ds Q C a hs hb hmk hu hG hF hQ => ?_⟩
        obtain rfl := hu hu0
        show c.wp P _ a C.w
        rw [hcq]
        refine t2 b _ C a hs hb hG (hF.left t3.le) fun C1 a1 ds1 k1 k4 k2 k3 => ?_
        have : e1.to = .normal := by unfold Ex.to; rw [if_pos h0]
        rw [this]
        exact t4 b ds1 Q C1 a1 k1 (Nat.le_trans hb k2.le.size) k4 (fun hh => by cases hh) (hG.mono k2.le) (hF.right k3 t1.le) fun C2 a2 ds2 m1 m4 m2 m3 => hQ C2 a2 ds2 m1 m4 (k2.trans m2) (k3.trans m3 t1.le t3.le)
      · rename_i h0
        simp only [Except.ok.injEq, Prod.mk.injEq] at h
        obtain ⟨rfl, rfl⟩ := h
        refine ⟨t1, fun b ds Q C a hs hb hmk hu hG hF hQ => ?_⟩
        obtain rfl := hu hu0
        show c.wp P _ a C.w
        rw [hcq]
        exact t2 b _ C a hs hb hG hF fun C1 a1 ds1 k1 k4 k2 k3 => exit_cases h0 (hQ C1 a1 ds1 k1 k4 k2 k3)
    · obtain ⟨⟨e1, s1⟩, h1, h⟩ := bindR_ok h
      obtain ⟨t1, t2⟩ := execA_ok hT hz hNum hm hcall hbody c s e1 s1 (hc c (List.mem_cons_self ..)) h1
      split at h
      · rename_i h0
        simp only at h0 h
        obtain ⟨t3, t4⟩ := runL_ok hits cs u s1 e s' (fun c hc' => hc c (List.mem_cons_of_mem _ hc')) h
        refine ⟨t1.trans t3, fun b ds Q C a hs hb hmk hu hG hF hQ => t2 _ C a hs hG (hF.left t3.le) fun C1 a1 k1 k2 k3 => ?_⟩
        have : e1.to = .normal := by unfold Ex.to; rw [if_pos h0]
        rw [this]
        exact t4 b ds Q C1 a1 k1 (Nat.le_trans hb k2.le.size) (hmk.goes k2) hu (hG.mono k2.le) (hF.right k3 t1.le) fun C2 a2 ds2 m1 m4 m2 m3 => hQ C2 a2 ds2 m1 m4 (k2.trans m2) (k3.trans m3 t1.le t3.le)
      · rename_i h0
        simp only [Except.ok.injEq, Prod.mk.injEq] at h
        obtain ⟨rfl, rfl⟩ := h
        exact ⟨t1, fun b ds Q C a hs hb hmk hu hG hF hQ => t2 _ C a hs hG hF fun C1 a1 k1 k2 k3 => exit_cases h0 (hQ C1 a1 ds k1 (hmk.goes k2) k2 k3)⟩
theorem bodyA_ok {its : Nat → Option (Nat × Nat)} (hits : ∀ it ts te, its it = some (ts, te) → BackOk P it ts te ∧ hasBody P it = true) {N lk loc : Nat} (c : Code) (s : Sta) (e : Ex) (s' : Sta) (hc : codeOk c = true) (h : bodyA P T call its N lk loc c s = .ok (e, s')) :
    Tid s s' ∧ ∀ (Q : Exit → Act → World → Prop) (C : Cx) (a : Act), StaOk [] C N s a → GOk T S C → FreeA C s.n s'.n → (∀ C' a' ds', StaOk ds' C' N s' a' → Marks C.w.heap.size C' ds' → Goes C C' → NewA C C' s.n s'.n → Q e.to a' C'.w) → c.wp P Q a C.w := by
  unfold bodyA at h
  split at h
  · obtain ⟨t1, t2⟩ := runL_ok hT hz hNum hm hcall hbody hits _ _ _ _ _ (flat_code c hc) h
    exact ⟨t1, fun Q C a hs hG hF hQ => flat_wp (t2 C.w.heap.size [] Q C a hs (Nat.le_refl _) (Or.inl rfl) (fun _ => rfl) hG hF hQ)⟩
  · obtain ⟨t1, t2⟩ := execA_ok hT hz hNum hm hcall hbody c s e s' hc h
    exact ⟨t1, fun Q C a hs hG hF hQ => t2 Q C a hs hG hF fun C' a' k1 k2 k3 => hQ C' a' [] k1 (Or.inl rfl) k2 k3⟩
end

/-- Which functions are known to hand a slice's elements over, backward: their numbers, the slice's type, the elements'. -/
def itsOf (ext : Nat → List AV → Hp → Nat → Option (R Out)) (g : Nat) : Option (Nat × Nat) := match ext g [] Hp.emp 0 with
  | some (.error c) => some (c / 100000, c % 100000)
  | _ => none

/-- A call. What ext knows it does at once. -/
def callA (P : Program) (T : Tabs) (ext : Nat → List AV → Hp → Nat → Option (R Out)) (lk : Nat) : Nat → CallA
  | 0 => fun g _ _ _ => .error (g * 1000000 + 999)
  | f + 1 => fun g args H n => match ext g args H n with
    | some r => r
    | none => match T.fnAt g with
      | some fn => match fn.body with
        | some c => if Nat.ble args.length fn.ntmps then bindR (bodyA P T (callA P T ext lk f) (itsOf ext) fn.ntmps lk (g * 1000000) c ⟨frArgs fn.ntmps args 0 noFr, H, n, 0⟩) fun r =>
          if r.1.k = 0 ∨ r.1.k = 3 then bindR (orErr (g * 1000000 + 998) (resA T r.2.H r.2.fr fn.results.toList)) fun xs => .ok ⟨oneA xs, r.2.H, r.2.n, r.2.wr % 2 ^ n⟩ else .error (g * 1000000 + 997)
          else .error (g * 1000000 + 994)
        | none => .error (g * 1000000 + 996)
      | none => .error (g * 1000000 + 995)

/-- What is known at once is so. -/
def ExtOk (P : Program) (T : Tabs) (S : Nat → Value) (ext : Nat → List AV → Hp → Nat → Option (R Out)) : Prop := CallOk P T S (fun g args H n => match ext g args H n with
    | some r => r
    | none => .error 0) ∧ (∀ g args H n r, ext g args H n = some r → hasBody P g = true) ∧ ∀ g c, ext g [] Hp.emp 0 = some (.error c) → BackOk P g (c / 100000) (c % 100000)
theorem its_ok {P : Program} {T : Tabs} {ext : Nat → List AV → Hp → Nat → Option (R Out)} (h : ExtOk P T S ext) : ∀ it ts te, itsOf ext it = some (ts, te) → BackOk P it ts te ∧ hasBody P it = true := by
  intro it ts te e
  unfold itsOf at e
  split at e
  · rename_i c hc
    cases e
    exact ⟨h.2.2 _ _ hc, h.2.1 _ _ _ _ _ hc⟩
  · cases e

theorem callA_ok {P : Program} {T : Tabs} (hT : TabOk P T) (hz : zeroB T = true) (hNum : noNum P = true) (hm : P.follows .mixedOrders = true) (hcodes : codesOk P = true) (hfns : FnsOk P T) {ext : Nat → List AV → Hp → Nat → Option (R Out)} (hext : ExtOk P T S ext) {lk : Nat} :
    ∀ (f : Nat), CallOk P T S (callA P T ext lk f) ∧ ∀ g args H n out, callA P T ext lk f g args H n = .ok out → hasBody P g = true
  | 0 => ⟨fun g args H n out h => by simp [callA] at h, fun g args H n out h => by simp [callA] at h⟩
  | f + 1 => by
    obtain ⟨ih1, ih2⟩ := callA_ok hT hz hNum hm hcodes hfns hext f
    refine ⟨fun g args H n out h => ?_, fun g args H n out h => ?_⟩
    · simp only [callA] at h
      split at h
      · rename_i r hr
        exact hext.1 g args H n out (by simp only [hr]; exact h)
      · split at h
        · rename_i fn hfn
          replace hfn := hfns _ _ hfn
          split at h
          · rename_i c hc
            split at h
            case isFalse => cases h
            rename_i hal
            obtain ⟨⟨e, s'⟩, h1, h⟩ := bindR_ok h
            split at h
            · rename_i hk
              obtain ⟨xs, h2, h⟩ := bindR_ok h
              have h2 := orErr_ok h2
              simp only [Except.ok.injEq] at h
              subst h
              simp only at hk h2
              have hco : codeOk c = true := by
                have hm : fn ∈ P.funcs.toList := by
                  rw [← Array.getElem?_toList] at hfn
                  exact List.mem_of_getElem? hfn
                have := List.all_eq_true.1 hcodes fn hm
                simpa [hc] using this
              obtain ⟨t1, t2⟩ := bodyA_ok hT hz hNum hm ih1 ih2 (its_ok hext) c _ e s' hco h1
              refine ⟨⟨t1.le, t1.bnd, fun hB b hb hw => t1.keep hB b hb ?_, fun hB b hb hlt => ?_⟩, fun C vs hH hB hF hC hG hr => ?_⟩
              · have hw : (s'.wr % 2 ^ n).testBit b = false := hw
                rw [Nat.testBit_mod_two_pow] at hw
                simpa [hb] using hw
              · have hb : (s'.wr % 2 ^ n).testBit b = true := hb
                rw [Nat.testBit_mod_two_pow] at hb
                simp only [Bool.and_eq_true, decide_eq_true_eq] at hb
                rcases t1.had hB b hb.2 with h9 | h9 | h9
                · exact no_bit h9
                · have h9 : n ≤ b := h9
                  omega
                · exact h9
              · refine calls_of_end hfn hc (t2 _ C _ ⟨hH, hC, rf_args (Nat.le_of_ble_eq_true hal) hr rfl, rfl, hB⟩ hG hF fun C' a' ds k1 kM k2 k3 => ?_)
                have hto : e.to = .normal ∨ e.to = .ret := by
                  unfold Ex.to
                  rcases hk with h9 | h9
                  · exact Or.inl (if_pos h9)
                  · exact Or.inr (by rw [if_neg (by omega), if_neg (by omega), if_neg (by omega)])
                have hend : (a'.defers = [] ∧ ∃ v, (results fn a'.tmps).run P C'.w = .ok v C'.w ∧ ∃ v' C2, Ending.returned v = .returned v' ∧ C2.w = C'.w ∧ RV C2 (oneA xs) v' ∧ Goes C C2 ∧ C2.H = s'.H ∧ NewA C C2 n s'.n) ∨ ∃ D w', a'.defers = [markD D] ∧ (Instr.takeDeferred D).run P C'.w = .ok [] w' ∧ ∃ v, (results fn a'.tmps).run P w' = .ok v w' ∧ ∃ v' C2, Ending.returned v = .returned v' ∧ C2.w = w' ∧ RV C2 (oneA xs) v' ∧ Goes C C2 ∧ C2.H = s'.H ∧ NewA C C2 n s'.n := by
                  rw [← k1.H] at h2
                  rcases kM with rfl | ⟨D, hD, rfl, hS⟩
                  · obtain ⟨v, h3, h4⟩ := results_ok (P := P) hT k1.ok (hG.mono k2.le) k1.fr h2
                    exact Or.inl ⟨k1.df, v, h3, v, C', rfl, rfl, h4, k2, k1.H, k3⟩
                  · obtain ⟨g6, _⟩ := hS.put k1.ok (.deferred none) rfl
                    have g7 := ((k2.gx D).trans g6).goes hD
                    obtain ⟨v, h3, h4⟩ := results_ok (P := P) hT g6.ok (hG.mono g7.le) (k1.fr.mono g6.le) h2
                    exact Or.inr ⟨D, (C'.put D (.deferred none)).w, k1.df, run_takeDeferred hS.at_, v, h3, v, C'.put D (.deferred none), rfl, rfl, h4, g7, k1.H, k3⟩
                rcases hto with h9 | h9 <;> (rw [h9]; exact hend)
            · cases h
          · cases h
        · cases h
    · simp only [callA] at h
      split at h
      · rename_i r hr
        exact hext.2.1 g args H n r hr
      · split at h
        · rename_i fn hfn
          replace hfn := hfns _ _ hfn
          split at h
          · rename_i c hc
            unfold hasBody
            rw [hfn]
            simp [hc]
          · cases h
        · cases h
end Go.Proofs.YthklnpkjlepagaaGreatDoor.Ab
namespace Go.Proofs.YthklnpkjlepagaaGreatDoor.Ab
open Go.RowKit
variable {S : Nat → Value}

/-- The bareC: all blocks that are there are never written. -/
def bareC (S : Nat → Value) (w : World) : Cx := ⟨w, fun _ => 0, fun _ => False, Hp.emp, fun k => k < w.heap.size, S⟩
theorem bareC_ok (w : World) : Ok (bareC S w) := by
  have hn : ∀ b B, (bareC S w).H.get b = some B → False := fun b B h => by
    have h : Hp.emp.get b = some B := h
    rw [emp_get] at h
    cases h
  exact ⟨fun b B h => (hn b B h).elim, fun b B b' B' h => (hn b B h).elim, fun b B h => (hn b B h).elim⟩
theorem bareC_below {w : World} {C' : Cx} (h : Goes (bareC S w) C') : Below w.heap.size w C'.w :=
  ⟨h.s3.1, h.s3.2.1, h.s3.2.2, h.le.size, fun k hk => (h.le.imm k ⟨hk, hk⟩).2⟩

def isTrueA (r : R Out) : Bool := match r with
  | .ok o => (match o.x.bool with
    | some b => b
    | none => false)
  | .error _ => false

/-- Where a run went wrong, for looking: 0 it is true, 1 it is no truth, others: the place. -/
def whyA (r : R Out) : Nat := match r with
  | .ok o => (match o.x.bool with
    | some true => 0
    | some false => 1
    | none => 2 + o.x.t)
  | .error e => e

theorem law_true {P : Program} {T : Tabs} (hT : TabOk P T) (hz : zeroB T = true) (hNum : noNum P = true) (hm : P.follows .mixedOrders = true) (hcodes : codesOk P = true) (hfns : FnsOk P T) {ext : Nat → List AV → Hp → Nat → Option (R Out)} (hext : ExtOk P T S ext) {lk f g : Nat} {args : List AV} (h : isTrueA (callA P T ext lk f g args Hp.emp 0) = true)
    {w : World} (hG : ∀ p ∈ T.glob, RV (bareC S w) p.2 (.pointer (some ⟨p.1, 0, none⟩))) {vs : Array Value} (ha : RL (bareC S w) args vs.toList) : Calls P g vs w fun e w' => e = .returned (.bool true) ∧ Below w.heap.size w w' := by
  unfold isTrueA at h
  split at h
  · rename_i o ho
    split at h
    · rename_i b hb
      subst h
      obtain ⟨_, h2⟩ := (callA_ok hT hz hNum hm hcodes hfns hext f).1 g args Hp.emp 0 o ho
      refine (h2 (bareC S w) vs rfl (fun b B h => by rw [emp_get] at h; cases h) (fun b _ _ h => h) (bareC_ok w) ⟨hG, rfl⟩ ha).mono ?_
      rintro e w' ⟨v, C', rfl, rfl, k1, k2, _, _⟩
      exact ⟨by rw [rv_bool k1 hb], bareC_below k2⟩
    · cases h
  · cases h

/-- Nothing is known at once. -/
def extNo : Nat → List AV → Hp → Nat → Option (R Out) := fun _ _ _ _ => none
theorem extNo_ok {P : Program} {T : Tabs} : ExtOk P T S extNo := ⟨fun g args H n out h => by simp [extNo] at h, fun g args H n r h => by simp [extNo] at h, fun g c h => by simp [extNo] at h⟩
def extOr (a b : Nat → List AV → Hp → Nat → Option (R Out)) : Nat → List AV → Hp → Nat → Option (R Out) := fun g args H n => match a g args H n with
  | some r => some r
  | none => b g args H n
theorem extOr_ok {P : Program} {T : Tabs} {a b : Nat → List AV → Hp → Nat → Option (R Out)} (ha : ExtOk P T S a) (hb : ExtOk P T S b) : ExtOk P T S (extOr a b) := by
  refine ⟨fun g args H n out h => ?_, fun g args H n r h => ?_, fun g c h => ?_⟩
  · simp only [extOr] at h
    cases hx : a g args H n with
    | some r => rw [hx] at h; exact ha.1 g args H n out (by simp only [hx]; exact h)
    | none => rw [hx] at h; exact hb.1 g args H n out h
  · simp only [extOr] at h
    cases hx : a g args H n with
    | some r' => exact ha.2.1 g args H n r' hx
    | none => rw [hx] at h; exact hb.2.1 g args H n r h
  · simp only [extOr] at h
    cases hx : a g [] Hp.emp 0 with
    | some r' => rw [hx] at h; cases h; exact ha.2.2 g c hx
    | none => rw [hx] at h; exact hb.2.2 g c h

/-- The int that a value is. -/
def AV.i64 (x : AV) : Option Int := if x.t = 0 then (match x.v with
  | .int .i64 i => some i
  | _ => none) else none
theorem rv_i64 {C : Cx} {x : AV} {v : Value} {i : Int} (h : RV C x v) (hi : x.i64 = some i) : v = .int .i64 i := by
  unfold AV.i64 at hi
  split at hi
  · rename_i e
    have := h.case.1 e
    split at hi
    · rename_i j hv
      cases hi
      rw [this, hv]
    · cases hi
  · cases hi
/-- A function of numbers that leaves the world as it is, at a number that has a name. -/
def extMod (wf : Nat) (md om : List Int) : Nat → List AV → Hp → Nat → Option (R Out) := fun g args H n => if g = wf then (match args with
  | [x, y] => if x.t = 12 then y.i64.bind fun m => if md[x.a]? = some m then (om[x.a]?).map fun k => .ok ⟨AV.ex (.int .i64 k), H, n, 0⟩ else none else none
  | _ => none) else none
theorem extMod_ok {P : Program} {T : Tabs} {wf : Nat} {md om : List Int} (hb : hasBody P wf = true) (h : ∀ (i : Nat) (m k : Int) (w : World), md[i]? = some m → om[i]? = some k → Calls P wf #[S i, .int .i64 m] w fun e w' => e = .returned (.int .i64 k) ∧ w' = w) : ExtOk P T S (extMod wf md om) := by
  refine ⟨fun g args H n out hx => ?_, fun g args H n r hx => ?_, fun g c hx => ?_⟩
  · simp only [extMod] at hx
    split at hx
    · rename_i r hr
      split at hr
      · rename_i hg
        subst hg
        split at hr
        · rename_i x y
          split at hr
          · rename_i hx12
            obtain ⟨m, h1, hr⟩ := Option.bind_eq_some_iff.1 hr
            split at hr
            · rename_i hm
              obtain ⟨k, h2, rfl⟩ := Option.map_eq_some_iff.1 hr
              simp only [Except.ok.injEq] at hx
              subst hx
              refine ⟨tidy_same, fun C vs hH hB hF hC hG hv => ?_⟩
              match vs, hv with
              | ⟨[v, u]⟩, hv =>
                obtain ⟨hv1, hv2, _⟩ := hv
                obtain rfl := rv_i64 hv2 h1
                have e1 : v = S x.a := by rw [← hG.2]; exact hv1.case.2.2.2.2.2.2.2.2.2.2.2 hx12
                subst e1
                refine (h x.a m k C.w hm h2).mono ?_
                rintro e w' ⟨rfl, rfl⟩
                exact ⟨_, C, rfl, rfl, rv_ex, Goes.refl hC, hH, newA_same rfl⟩
              | ⟨[]⟩, hv => exact hv.elim
              | ⟨[_]⟩, hv => exact hv.2.elim
              | ⟨_ :: _ :: _ :: _⟩, hv => exact hv.2.2.elim
            · cases hr
          · cases hr
        · cases hr
      · cases hr
    · cases hx
  · simp only [extMod] at hx
    split at hx
    · rename_i hg; rw [hg]; exact hb
    · cases hx
  · simp only [extMod] at hx
    split at hx
    · cases hx
    · cases hx
/-- Behind a call that turns nothing old. -/
theorem Ok.below {C : Cx} (h : Ok C) {w : World} (hb : Below C.w.heap.size C.w w) : Goes C { C with w := w, Z := fun k => C.Z k ∧ k < C.w.heap.size } := by
  have le : C.le { C with w := w, Z := fun k => C.Z k ∧ k < C.w.heap.size } := ⟨fun _ h => h, fun _ _ => rfl, hb.size, fun k hk => ⟨⟨Nat.lt_of_lt_of_le hk.1 hb.size, hk.2, hk.1⟩, hb.block k hk.1⟩, fun k cs t fr hk => ⟨cs, (hb.block k (size_of_block hk)).trans hk, rfl⟩, rfl⟩
  refine ⟨le, ⟨fun b B hB => ?_, h.inj, fun b B hB hz => h.zone b B hB hz.1⟩, ⟨hb.os, hb.tape, hb.output⟩, fun k hk ho => ⟨hb.block k hk, ho⟩, fun k hk hz => hz.1⟩
  obtain ⟨h1, h2⟩ := h.blk b B hB
  exact ⟨h1, h2.mono le (hb.block _ h2.lt)⟩

/-- A function without arguments that answers true. -/
def extTrue (g0 : Nat) : Nat → List AV → Hp → Nat → Option (R Out) := fun g args H n => if g = g0 then (match args with
  | [] => some (.ok ⟨AV.ex (.bool true), H, n, 0⟩)
  | _ => none) else none
theorem extTrue_ok {P : Program} {T : Tabs} {g0 : Nat} (hb : hasBody P g0 = true) (h : ∀ C, GOk T S C → Calls P g0 #[] C.w fun e w' => e = .returned (.bool true) ∧ Below C.w.heap.size C.w w') : ExtOk P T S (extTrue g0) := by
  refine ⟨fun g args H n out hx => ?_, fun g args H n r hx => ?_, fun g c hx => ?_⟩
  · simp only [extTrue] at hx
    split at hx
    · rename_i r hr
      split at hr
      · rename_i hg
        subst hg
        split at hr
        · simp only [Option.some.injEq] at hr
          subst hr
          simp only [Except.ok.injEq] at hx
          subst hx
          refine ⟨tidy_same, fun C vs hH hB hF hC hG hv => ?_⟩
          match vs, hv with
          | ⟨[]⟩, _ =>
            refine (h C hG).mono ?_
            rintro e w' ⟨rfl, hbl⟩
            exact ⟨_, _, rfl, rfl, rv_ex, hC.below hbl, hH, newA_same rfl⟩
          | ⟨_ :: _⟩, hv => exact hv.elim
        · cases hr
      · cases hr
    · cases hx
  · simp only [extTrue] at hx
    split at hx
    · rename_i hg; rw [hg]; exact hb
    · cases hx
  · simp only [extTrue] at hx
    split at hx
    · cases hx
    · cases hx
/-- A function of a string that hands it back. -/
def extStr (g0 : Nat) : Nat → List AV → Hp → Nat → Option (R Out) := fun g args H n => if g = g0 then (match args with
  | [x] => x.str.bind fun b => if Nat.ble b.data.toList.length 281474976710656 then some (.ok ⟨AV.ex (.string b), H, n, 0⟩) else none
  | _ => none) else none
theorem extStr_ok {P : Program} {T : Tabs} {g0 : Nat} (hb : hasBody P g0 = true) (h : ∀ (s : ByteArray) (w : World), s.size ≤ 281474976710656 → Calls P g0 #[.string s] w fun e w' => e = .returned (.string s) ∧ Below w.heap.size w w') : ExtOk P T S (extStr g0) := by
  refine ⟨fun g args H n out hx => ?_, fun g args H n r hx => ?_, fun g c hx => ?_⟩
  · simp only [extStr] at hx
    split at hx
    · rename_i r hr
      split at hr
      · rename_i hg
        subst hg
        split at hr
        · rename_i x
          obtain ⟨b, h1, hr⟩ := Option.bind_eq_some_iff.1 hr
          split at hr
          · rename_i hl
            simp only [Option.some.injEq] at hr
            subst hr
            simp only [Except.ok.injEq] at hx
            subst hx
            refine ⟨tidy_same, fun C vs hH hB hF hC hG hv => ?_⟩
            match vs, hv with
            | ⟨[v]⟩, hv =>
              obtain rfl := rv_str hv.1 h1
              have hs : b.size ≤ 281474976710656 := by
                have := Nat.le_of_ble_eq_true hl
                simpa using this
              refine (h b C.w hs).mono ?_
              rintro e w' ⟨rfl, hbl⟩
              exact ⟨_, _, rfl, rfl, rv_ex, hC.below hbl, hH, newA_same rfl⟩
            | ⟨[]⟩, hv => exact hv.elim
            | ⟨_ :: _ :: _⟩, hv => exact hv.2.elim
          · cases hr
        · cases hr
      · cases hr
    · cases hx
  · simp only [extStr] at hx
    split at hx
    · rename_i hg; rw [hg]; exact hb
    · cases hx
  · simp only [extStr] at hx
    split at hx
    · cases hx
    · cases hx
end Go.Proofs.YthklnpkjlepagaaGreatDoor.Ab
