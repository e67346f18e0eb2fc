/- Code in a round of a range over a function. -/
import Derived.Test.YthklnpkjlepagaaGreatDoorQoa
import Derived.Test.YthklnpkjlepagaaGreatDoorQja
namespace Go.Proofs.YthklnpkjlepagaaGreatDoor.Ab
open Go.RowKit
variable {S : Nat → Value}

/-- What is no defer statement is carried out in a round as everywhere. -/
def noDefer (o : Oper) : Bool := match o.op with
  | .defer _ => false
  | _ => true
theorem oper_in {P : Program} {o : Oper} {a : Act} {w : World} {K : Act → World → Prop} {Q : Exit → Act → World → Prop} {l n : Nat} (hd : noDefer o = true) (h : o.wp P a w K Q) : o.wpIn (Fence.wide.inRound l) n P a w K Q := by
  have hs : o.semAt (some l) a.eval = execOp a.eval o := Oper.semAt_some l a.eval o (fun c hc => by unfold noDefer at hd; rw [hc] at hd; cases hd)
  refine ⟨fun _ _ => trivial, ?_⟩
  show o.uponIn (Fence.wide.inRound l) n P a K Q ((o.semAt (some l) a.eval).run P w)
  rw [hs]
  unfold Oper.wp at h
  generalize (execOp a.eval o).run P w = r at h ⊢
  cases r with
  | ok r w' =>
    cases r with
    | value v => exact h
    | skip => exact h
    | defer d => exact h
    | enter f args => exact ⟨fun hh => (by cases hh), CallsIn.inRound l (callsIn_wide.2 h)⟩
    | row r args =>
      refine ⟨fun hh => (by cases hh), fun c cs _ => ?_⟩
      obtain ⟨v, w2, h1, h2⟩ := (show Rows P r args w' _ from h) c cs
      exact ⟨v, w2, h1, stepsIn_wide.2 h2⟩
    | _ => exact h.elim
  | halt k w' =>
    cases k with
    | panic v => exact h
    | _ => exact h.elim

theorem ordA_in {P : Program} {T : Tabs} (hT : TabOk P T) (hz : zeroB T = true) (hNum : noNum P = true) {call : CallA} (hcall : CallOk P T S call) (hbody : ∀ g args H n out, call g args H n = .ok out → hasBody P g = true) {N loc : Nat} {ops : Array Oper} {l n : Nat} :
    ∀ (os : List Oper) (i : Nat) (s s' : Sta), os.all noDefer = true → ordA P T call N loc ops os i s = .ok s' → Tid s s' ∧ ∀ {ds : List Deferred} (Q : Exit → Act → World → Prop) (C : Cx) (a : Act), StaOk ds C N s a → GOk T S C → FreeA C s.n s'.n →
      (∀ C' a', StaOk ds C' N s' a' → Goes C C' → NewA C C' s.n s'.n → Q .normal a' C'.w) → wpListIn (Fence.wide.inRound l) n P ops Q os a C.w
  | [], _, s, s', _, h => by
    simp only [ordA, Except.ok.injEq] at h
    subst h
    exact ⟨Tid.refl s, fun Q C a hs hG hF hQ => hQ C a hs (Goes.refl hs.ok) (newA_same rfl)⟩
  | o :: os, i, s, s', hd, h => by
    simp only [List.all_cons, Bool.and_eq_true] at hd
    simp only [ordA] at h
    obtain ⟨b, h1, h⟩ := bindR_ok h
    have h1 := orErr_ok h1
    cases b with
    | true =>
      simp only [if_true] at h
      obtain ⟨out, h2, h⟩ := bindR_ok h
      obtain ⟨t1, t2⟩ := opA_ok hT hz hNum hcall hbody h2
      obtain ⟨t3, t4⟩ := ordA_in hT hz hNum hcall hbody os (i + 1) _ s' hd.2 h
      refine ⟨Tid.trans (Tidy.tid t1) t3, fun Q C a hs hG hF hQ => ?_⟩
      simp only [wpListIn]
      rw [if_pos (wantedA_ok hs.fr h1)]
      refine oper_in hd.1 (t2 C a hs.H hs.bnd (fun b h1 h2 => hF b h1 (Nat.lt_of_lt_of_le h2 t3.le)) hs.ok hG hs.fr _ _ ?_)
      intro v C' k1 k2 k3 k4
      refine t4 Q C' _ ⟨k3, k2.ok, rf_put (RF.mono k2.le hs.fr) _ k1, (put_defers a _ _).trans hs.df, t1.bnd hs.bnd⟩ (hG.mono k2.le) (fun b h1 h2 h3 => ?_) (fun C2 a2 m1 m2 m3 => hQ C2 a2 m1 (k2.trans m2) (fun b hb => ?_))
      · rcases k4 b h3 with h4 | h4
        · exact hF b (Nat.le_trans t1.le h1) h2 h4
        · have h1 : out.n ≤ b := h1
          omega
      · have e1 : out.n ≤ s'.n := t3.le
        have e2 : s.n ≤ out.n := t1.le
        rcases m3 b hb with h | h
        · rcases k4 b h with h | h
          · exact Or.inl h
          · exact Or.inr (by omega)
        · have h : out.n ≤ b ∧ b < s'.n := h
          exact Or.inr (by omega)
    | false =>
      simp only [Bool.false_eq_true, if_false] at h
      obtain ⟨t3, t4⟩ := ordA_in hT hz hNum hcall hbody os (i + 1) _ s' hd.2 h
      refine ⟨Tid.trans (Tid.frame) t3, fun Q C a hs hG hF hQ => ?_⟩
      simp only [wpListIn]
      have hw := wantedA_ok hs.fr h1
      rw [if_neg (by rw [hw]; exact Bool.false_ne_true)]
      exact ⟨fun _ _ => trivial, t4 Q C _ ⟨hs.H, hs.ok, rf_put hs.fr _ rv_ex, (put_defers a _ _).trans hs.df, hs.bnd⟩ hG hF hQ⟩

/-- Code of a round: without regions that draw, loops, labels. -/
def execI (P : Program) (T : Tabs) (call : CallA) (N loc : Nat) : Code → Sta → R (Ex × Sta)
  | .skip, s => .ok (⟨0, 0⟩, s)
  | .region id ops d, s => if d || !(ops.toList.all noDefer) then .error (loc + 889) else bindR (ordA P T call N (loc + id * 1000) ops ops.toList 0 s) fun s' => .ok (⟨0, 0⟩, s')
  | .seq a b, s => bindR (execI P T call N loc a s) fun r => if r.1.k = 0 then execI P T call N loc b r.2 else .ok r
  | .cond c a b, s => bindR (orErr (loc + 777) (evO T s.fr c).bool) fun t => if t then execI P T call N loc a s else execI P T call N loc b s
  | .block id a, s => bindR (execI P T call N loc a s) fun r => if r.1.k = 1 ∧ r.1.id = id then .ok (⟨0, 0⟩, r.2) else .ok r
  | .exit id, s => .ok (⟨1, id⟩, s)
  | .ret, s => .ok (⟨3, 0⟩, s)
  | _, _ => .error (loc + 888)

/-- What is to be shown of it. -/
def ExecIn (P : Program) (T : Tabs) (S : Nat → Value) (N l n : Nat) (c : Code) (s : Sta) (e : Ex) (s' : Sta) : Prop :=
  Tid s s' ∧ ∀ {ds : List Deferred} (Q : Exit → Act → World → Prop) (C : Cx) (a : Act), StaOk ds C N s a → GOk T S C → FreeA C s.n s'.n → (∀ C' a', StaOk ds C' N s' a' → Goes C C' → NewA C C' s.n s'.n → Q e.to a' C'.w) → c.wpIn (Fence.wide.inRound l) n P Q a C.w

/-- A block catches its own exit. -/
theorem in_block {Q : Exit → Act → World → Prop} {id : Nat} {e1 e : Ex} {s1 s' : Sta} (h : (if e1.k = 1 ∧ e1.id = id then (.ok (⟨0, 0⟩, s1) : R (Ex × Sta)) else .ok (e1, s1)) = .ok (e, s')) {a : Act} {w : World} (hQ : Q e.to a w) : s' = s1 ∧ Exit.inBlock id Q e1.to a w := by
  split at h
  · rename_i h0
    cases h
    refine ⟨rfl, ?_⟩
    have : e1.to = .exit id := by unfold Ex.to; rw [if_neg (by rw [h0.1]; decide), if_pos h0.1, h0.2]
    rw [this]
    show (if id = id then _ else _)
    rw [if_pos rfl]
    exact hQ
  · rename_i h0
    cases h
    refine ⟨rfl, ?_⟩
    unfold Ex.to at hQ ⊢
    by_cases h2 : e1.k = 0
    · rw [if_pos h2] at hQ ⊢; exact hQ
    · rw [if_neg h2] at hQ ⊢
      by_cases h3 : e1.k = 1
      · rw [if_pos h3] at hQ ⊢
        show (if e1.id = id then _ else _)
        rw [if_neg fun h4 => h0 ⟨h3, h4⟩]
        exact hQ
      · rw [if_neg h3] at hQ ⊢
        by_cases h4 : e1.k = 2
        · rw [if_pos h4] at hQ ⊢; exact hQ
        · rw [if_neg h4] at hQ ⊢; exact hQ

theorem execI_ok {P : Program} {T : Tabs} (hT : TabOk P T) (hz : zeroB T = true) (hNum : noNum P = true) {call : CallA} (hcall : CallOk P T S call) (hbody : ∀ g args H n out, call g args H n = .ok out → hasBody P g = true) {N loc l n : Nat} :
    ∀ (c : Code) (s : Sta) (e : Ex) (s' : Sta), execI P T call N loc c s = .ok (e, s') → ExecIn P T S N l n c s e s'
  | .skip, s, e, s', h => by
    simp only [execI, Except.ok.injEq, Prod.mk.injEq] at h
    obtain ⟨rfl, rfl⟩ := h
    exact ⟨Tid.refl s, fun Q C a hs hG hF hQ => wpIn_skip (hQ C a hs (Goes.refl hs.ok) (newA_same rfl))⟩
  | .region id ops d, s, e, s', h => by
    simp only [execI] at h
    split at h
    · cases h
    · rename_i hd
      simp only [Bool.or_eq_true, Bool.not_eq_true', not_or, Bool.not_eq_true, Bool.not_eq_false] at hd
      obtain ⟨s1, h1, h⟩ := bindR_ok h
      simp only [Except.ok.injEq, Prod.mk.injEq] at h
      obtain ⟨rfl, rfl⟩ := h
      obtain ⟨rfl, hd⟩ := hd
      obtain ⟨t1, t2⟩ := ordA_in (l := l) (n := n) hT hz hNum hcall hbody _ _ _ _ hd h1
      exact ⟨t1, fun Q C a hs hG hF hQ => wpIn_region_list (t2 Q C a hs hG hF hQ)⟩
  | .seq x y, s, e, s', h => by
    simp only [execI] at h
    obtain ⟨⟨e1, s1⟩, h1, h⟩ := bindR_ok h
    obtain ⟨t1, t2⟩ := execI_ok hT hz hNum hcall hbody (l := l) (n := n) x s e1 s1 h1
    split at h
    · rename_i h0
      simp only at h0 h
      obtain ⟨t3, t4⟩ := execI_ok hT hz hNum hcall hbody (l := l) (n := n) y s1 e s' h
      refine ⟨t1.trans t3, fun Q C a hs hG hF hQ => wpIn_seq (t2 _ C a hs hG (hF.left t3.le) fun C1 a1 k1 k2 k3 => ?_)⟩
      have : e1.to = .normal := by unfold Ex.to; rw [if_pos h0]
      rw [this]
      exact t4 Q C1 a1 k1 (hG.mono k2.le) (hF.right k3 t1.le) fun C2 a2 m1 m2 m3 => hQ C2 a2 m1 (k2.trans m2) (k3.trans m3 t1.le t3.le)
    · rename_i h0
      simp only [Except.ok.injEq, Prod.mk.injEq] at h
      obtain ⟨rfl, rfl⟩ := h
      exact ⟨t1, fun Q C a hs hG hF hQ => wpIn_seq (t2 _ C a hs hG hF fun C1 a1 k1 k2 k3 => exit_cases h0 (hQ C1 a1 k1 k2 k3))⟩
  | .cond x a b, s, e, s', h => by
    simp only [execI] at h
    obtain ⟨t, h1, h⟩ := bindR_ok h
    have h1 := orErr_ok h1
    cases t with
    | true =>
      simp only [if_true] at h
      obtain ⟨t1, t2⟩ := execI_ok hT hz hNum hcall hbody (l := l) (n := n) a s e s' h
      exact ⟨t1, fun Q C ac hs hG hF hQ => wpIn_cond_true (rv_bool (rv_op hG hs.fr x) h1) (t2 Q C ac hs hG hF hQ)⟩
    | false =>
      simp only [Bool.false_eq_true, if_false] at h
      obtain ⟨t1, t2⟩ := execI_ok hT hz hNum hcall hbody (l := l) (n := n) b s e s' h
      exact ⟨t1, fun Q C ac hs hG hF hQ => wpIn_cond_false (rv_bool (rv_op hG hs.fr x) h1) (t2 Q C ac hs hG hF hQ)⟩
  | .block id x, s, e, s', h => by
    simp only [execI] at h
    obtain ⟨⟨e1, s1⟩, h1, h⟩ := bindR_ok h
    obtain ⟨t1, t2⟩ := execI_ok hT hz hNum hcall hbody (l := l) (n := n) x s e1 s1 h1
    have hs' : s' = s1 := (in_block (Q := fun _ _ _ => True) (a := ⟨#[], []⟩) (w := default) h trivial).1
    subst hs'
    exact ⟨t1, fun Q C a hs hG hF hQ => wpIn_block (t2 _ C a hs hG hF fun C1 a1 k1 k2 k3 => (in_block h (hQ C1 a1 k1 k2 k3)).2)⟩
  | .exit id, s, e, s', h => by
    simp only [execI, Except.ok.injEq, Prod.mk.injEq] at h
    obtain ⟨rfl, rfl⟩ := h
    exact ⟨Tid.refl s, fun Q C a hs hG hF hQ => wpIn_exit (hQ C a hs (Goes.refl hs.ok) (newA_same rfl))⟩
  | .ret, s, e, s', h => by
    simp only [execI, Except.ok.injEq, Prod.mk.injEq] at h
    obtain ⟨rfl, rfl⟩ := h
    exact ⟨Tid.refl s, fun Q C a hs hG hF hQ => wpIn_ret (hQ C a hs (Goes.refl hs.ok) (newA_same rfl))⟩
  | .loop _, s, e, s', h => by simp [execI] at h
  | .scope _, s, e, s', h => by simp [execI] at h
  | .label _, s, e, s', h => by simp [execI] at h
  | .goto _, s, e, s', h => by simp [execI] at h
  | .refuse _, s, e, s', h => by simp [execI] at h
  | .rangeFunc _ _ _ _, s, e, s', h => by simp [execI] at h
#print axioms execI_ok
end Go.Proofs.YthklnpkjlepagaaGreatDoor.Ab
