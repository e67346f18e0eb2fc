/- Qg, Qh: the texts of these names, one behind the other. -/
import Derived.Test.YthklnpkjlepagaaGreatDoorQf
namespace Go.Proofs.YthklnpkjlepagaaGreatDoor.Ab
open Go.RowKit

theorem xAppend_ok {P : Program} {T : Tabs} (hT : TabOk P T) {C : Cx} (hC : Ok C) {t tx ty : Nat} {s x : AV} {vs vx : Value} (hs : RV C s vs) (hx : RV C x vx) (hz : ∀ t ti, T.tiAt t = some ti → ti.zero.length = ti.size) {o : Out} {n : Nat} (e : xAppend T C.H n t tx s x = some o) (hN : FreeA C n o.n) :
    ∃ u C', (Builtin.append_ #[t, tx] ty #[vs, vx]).run P C.w = .ok u C'.w ∧ RV C' o.x u ∧ Goes C C' ∧ C'.H = o.H ∧ NewA C C' n o.n := by
  unfold xAppend at e
  obtain ⟨ti, h1, e⟩ := Option.bind_eq_some_iff.1 e
  obtain ⟨tj, h2, e⟩ := Option.bind_eq_some_iff.1 e
  split at e
  · rename_i k3
    obtain ⟨te, h3, e⟩ := Option.bind_eq_some_iff.1 e
    obtain ⟨⟨m, kn⟩, h4, e⟩ := Option.bind_eq_some_iff.1 e
    split at e
    · rename_i hcond
      obtain ⟨hone, hm⟩ := hcond
      obtain ⟨tk⟩ := hT _ _ h1
      obtain ⟨tkj⟩ := hT _ _ h2
      obtain ⟨tke⟩ := hT _ _ h3
      have hk := tk.kind
      unfold kindB at hk
      split at hk <;> simp [k3.1] at hk
      rename_i e' hd
      subst hk
      have hu : P.underlying t = some (.slice ti.elem) := by rw [tk.hd, hd]
      have hkj := tkj.kind
      unfold kindB at hkj
      split at hkj <;> simp [k3.2] at hkj
      rename_i ej hdj
      have huj : P.underlying tx = some (.slice ej) := by rw [tkj.hd, hdj]
      obtain ⟨news, hn, hsrc⟩ := rowCells_ok (P := P) hC hx h4 huj hone
      have hsz : tke.z.cells.size = tke.i.size := by
        have := congrArg List.length tke.zero
        simp at this
        rw [this, tke.size, hz _ _ h3]
      rw [← tke.size] at hsrc
      simp only at hm e
      split at e
      · rename_i h0
        split at e
        · rename_i hsv
          have hvs := hs.case.1 h0
          rw [hsv] at hvs
          subst hvs
          split at e
          · rename_i hm0
            cases e
            rw [hm0] at hsrc
            exact ⟨_, C, run_none hu tke.hi hsrc (Nat.le_refl _), hs, Goes.refl hC, rfl, newA_same rfl⟩
          · rename_i hm0
            split at e
            · rename_i hb
              cases e
              have := grown_ok hC (hN n (Nat.le_refl _) (Nat.lt_succ_self _)) (ty := ty) hu tke.hi tke.hz (base := none) (sLen := 0) (sCap := 0) (olds := []) (by rw [run_firstCells_none C.w.drew]) (by simp) hsrc (ko := []) (kn := kn) trivial hn (by omega) (by omega) (by rw [tke.bytes]; simpa using hb) hsz
              simp only [Nat.zero_add, List.nil_append, tke.size] at this
              exact this
            · cases e
        · cases e
      · rename_i h0
        split at e
        · rename_i hc
          cases e
          obtain ⟨hc, hm0⟩ := hc
          rw [hm0] at hsrc
          have : ∃ a n c, vs = .slice a n c ∧ n ≤ c := by
            rcases hc with k | k | k
            · obtain ⟨cap, _, _, r, _, l, _⟩ := hs.case.2.2.2.2.2.1 k; exact ⟨_, _, _, r, l⟩
            · obtain ⟨_, _, _, r, _⟩ := hs.case.2.2.2.2.2.2.2.1 k; exact ⟨_, _, _, r, Nat.le_refl _⟩
            · obtain ⟨_, _, _, _, r, l, _⟩ := hs.case.2.2.2.2.2.2.2.2.1 k; exact ⟨_, _, _, r, l⟩
          obtain ⟨a, n', c, rfl, hl⟩ := this
          exact ⟨_, C, run_none hu tke.hi hsrc hl, hs, Goes.refl hC, rfl, newA_same rfl⟩
        · rename_i hc
          split at e
          · rename_i hb
            obtain ⟨b1, b2, b3⟩ := hb
            have hmpos : ∀ k, (s.t = 5 ∨ s.t = 7 ∨ s.t = 8) → k = m → 0 < k := by
              intro k hk1 hk2
              rcases Nat.eq_zero_or_pos k with h9 | h9
              · exact absurd ⟨hk1, by show m = 0; omega⟩ hc
              · exact h9
            split at e
            · rename_i h7
              cases e
              obtain ⟨k, off, us, rfl, hcm, hl, hi, hr⟩ := hs.case.2.2.2.2.2.2.2.1 h7
              have hmp := hmpos m (Or.inr (Or.inl h7)) rfl
              have hold : (Builtin.firstCells tke.i.size s.c (.slice (some ⟨k, off, none⟩) s.c s.c)).run P C.w.drew = .ok us.toArray C.w.drew :=
                run_firstCells_some C.w.drew tke.i.size s.c _ _ _ us (by rw [hl, b2, tke.size]) (fun j v hj => by rw [Addr.add_mid]; exact hi.2 _ _ hj)
              have := grown_ok hC (hN n (Nat.le_refl _) (Nat.lt_succ_self _)) (ty := ty) hu tke.hi tke.hz hold (by rw [hl, b2, tke.size]) hsrc hr hn (by omega) (by omega) (by rw [tke.bytes]; exact b3) hsz
              rw [tke.size] at this
              exact this
            · split at e
              · rename_i h5
                split at e
                · rename_i B hB
                  split at e
                  · rename_i hBc
                    cases e
                    obtain ⟨cap, cs0, ty0, rfl, ha, hcc, hcm, hbk, hsz0⟩ := hs.case.2.2.2.2.2.1 h5.1
                    obtain ⟨q1, cs, q2, q3, q4⟩ := hC.cellsAt hB hbk
                    have hcs : cs = cs0 ∧ B.ty = ty0 := by
                      rw [q2] at hbk
                      cases hbk
                      exact ⟨rfl, rfl⟩
                    rw [← hcs.1] at hsz0
                    rw [h5.2, Nat.zero_add, b2] at hsz0
                    have hmp := hmpos m (Or.inl h5.1) rfl
                    have hlen1 := q4.len
                    simp at hlen1
                    have hko : RL C (B.cs.take (s.c * s.d)) ((cs.toList.take B.cs.length).take (s.c * s.d)) := All2.take _ q4
                    have hke : (cs.toList.take B.cs.length).take (s.c * s.d) = cs.toList.take (s.c * s.d) := by rw [List.take_take, Nat.min_eq_left hBc.2]
                    rw [hke] at hko
                    have hol : (cs.toList.take (s.c * s.d)).length = s.c * te.size := by rw [List.length_take, b2]; simp; rw [b2] at hBc; omega
                    by_cases hroom : s.c + m ≤ cap
                    · have hfit : s.c * tke.i.size + news.length ≤ cs.size := by
                        rw [hsrc.newsLen, ← Nat.add_mul, tke.size]
                        exact Nat.le_trans (Nat.mul_le_mul_right _ hroom) hsz0
                      have hrun := run_room (P := P) (ty := ty) hu tke.hi hsrc q2 hroom hfit
                      rw [tke.size] at hrun hfit
                      have hcl : (B.cs.take (s.c * s.d) ++ kn).length = s.c * te.size + news.length := by rw [List.length_append, hko.len, hol, hn.len]
                      have hus : (cs.toList.take (s.c * te.size) ++ news ++ cs.toList.drop (s.c * te.size + news.length)).toArray.size = cs.size := by simp; omega
                      have hg := hC.rehome (hN n (Nat.le_refl _) (Nat.lt_succ_self _)) hB (ks := B.cs.take (s.c * s.d) ++ kn) (us := (cs.toList.take (s.c * te.size) ++ news ++ cs.toList.drop (s.c * te.size + news.length)).toArray) (w := C.w.setRow (C.mu s.a) (cs.toList.take (s.c * te.size) ++ news ++ cs.toList.drop (s.c * te.size + news.length)).toArray) q2 hus (by rw [hus, hcl]; exact hfit)
                        (by
                          rw [hcl]
                          have h9 : (cs.toList.take (s.c * te.size) ++ news ++ cs.toList.drop (s.c * te.size + news.length)).toArray.toList.take (s.c * te.size + news.length) = cs.toList.take (s.c * te.size) ++ news := by
                            rw [List.toList_toArray]
                            have h10 : (cs.toList.take (s.c * te.size) ++ news).length = s.c * te.size + news.length := by
                              rw [b2] at hol; rw [List.length_append, hol]
                            rw [← h10, List.take_left]
                          rw [h9, ← b2]
                          exact All2.app hko hn) (by simp) (setRow_heap _ _ _ _ _ _ q2) (fun j hj => setRow_other _ _ _ _ hj) ⟨rfl, rfl, rfl⟩
                      rw [h5.2]
                      refine ⟨_, _, hrun, ?_, hg, ?_, newA_one rfl⟩
                      · have em : (C.home s.a n (C.w.setRow (C.mu s.a) (cs.toList.take (s.c * te.size) ++ news ++ cs.toList.drop (s.c * te.size + news.length)).toArray) ⟨B.ty, B.cs.take (s.c * s.d) ++ kn⟩).mu n = C.mu s.a := if_pos rfl
                        have hsl := rv_sl (C := C.home s.a n (C.w.setRow (C.mu s.a) (cs.toList.take (s.c * te.size) ++ news ++ cs.toList.drop (s.c * te.size + news.length)).toArray) ⟨B.ty, B.cs.take (s.c * s.d) ++ kn⟩) (a := n) (b := 0) (c := s.c + m) (d := te.size) (cap := cap) (ty := B.ty) (cs := (cs.toList.take (s.c * te.size) ++ news ++ cs.toList.drop (s.c * te.size + news.length)).toArray) (Or.inr rfl) hroom hcm (by rw [em]; exact setRow_heap _ _ _ _ _ _ q2) (by rw [hus]; omega)
                        rw [em] at hsl
                        exact hsl
                      · show (C.H.set s.a none).set n (some ⟨B.ty, _⟩) = _
                        rw [hBc.1]
                    · rw [h5.2]
                      have hold : (Builtin.firstCells tke.i.size s.c (.slice (some ⟨C.mu s.a, 0, none⟩) s.c cap)).run P C.w.drew = .ok (cs.toList.take (s.c * s.d)).toArray C.w.drew :=
                        run_firstCells_some C.w.drew tke.i.size s.c _ _ _ (cs.toList.take (s.c * s.d)) (by rw [hol, tke.size]) (fun j v hj => by
                          rw [Addr.add_mid, cell_of_row C.w.drew _ _ cs B.ty (0, 0) q2]
                          rw [List.getElem?_take] at hj
                          split at hj
                          · simpa using hj
                          · cases hj)
                      obtain ⟨u, C', r1, r2, r3, r4, r5⟩ := grown_ok hC (hN n (Nat.le_refl _) (Nat.lt_succ_self _)) (ty := ty) hu tke.hi tke.hz hold (by rw [hol, tke.size]) hsrc hko hn (by omega) (by omega) (by rw [tke.bytes]; exact b3) hsz
                      rw [tke.size] at r2
                      have hless : ∀ b B', ((C.H.set s.a none).set n (some ⟨ti.elem, B.cs.take (s.c * s.d) ++ kn⟩)).get b = some B' → C'.H.get b = some B' := by
                        intro b B' hb
                        rw [r4]
                        rw [Hp.get_set] at hb ⊢
                        split
                        · rename_i e9; rw [if_pos e9] at hb; exact hb
                        · rename_i e9
                          rw [if_neg e9, Hp.get_set] at hb
                          split at hb
                          · cases hb
                          · exact hb
                      have hl := r3.ok.less hless
                      exact ⟨u, { C' with H := (C.H.set s.a none).set n (some ⟨ti.elem, B.cs.take (s.c * s.d) ++ kn⟩) }, r1, r2.mono hl.le, r3.trans hl, rfl, r5⟩
                  · cases e
                · cases e
              · cases e
          · cases e
    · cases e
  · cases e
end Go.Proofs.YthklnpkjlepagaaGreatDoor.Ab
namespace Go.Proofs.YthklnpkjlepagaaGreatDoor.Ab
open Go.RowKit

/-- What needs no memory and asks nothing. -/
def pureRun {α : Type} (P : Program) : Sem α → Option α
  | .pure a => some a
  | .program k => pureRun P (k P)
  | .mark _ k => pureRun P k
  | _ => none
theorem pureRun_ok {α : Type} {P : Program} {a : α} (w : World) : ∀ (s : Sem α), pureRun P s = some a → s.run P w = .ok a w
  | .pure b, h => by simp [pureRun] at h; subst h; rfl
  | .program k, h => pureRun_ok w (k P) h
  | .mark _ k, h => pureRun_ok w k h

def ofV (v : Value) : AV := match v with
  | .agg cs => AV.agg (cs.toList.map AV.ex)
  | .tuple cs => AV.tup (cs.toList.map AV.ex)
  | v => AV.ex v
theorem rl_ex {C : Cx} : ∀ (vs : List Value), RL C (vs.map AV.ex) vs
  | [] => trivial
  | _ :: vs => ⟨rv_ex, rl_ex vs⟩
theorem rv_ofV {C : Cx} (v : Value) : RV C (ofV v) v := by
  unfold ofV
  split
  · exact rv_agg (rl_ex _)
  · exact rv_tup (rl_ex _)
  · exact rv_ex

def globAt : List (Nat × AV) → Nat → AV
  | [], _ => AV.any
  | p :: ps, g => if p.1 = g then p.2 else globAt ps g
/-- The variables are as the table says, the named values are these. -/
def GOk (T : Tabs) (S : Nat → Value) (C : Cx) : Prop := (∀ p ∈ T.glob, RV C p.2 (.pointer (some ⟨p.1, 0, none⟩))) ∧ C.S = S
variable {S : Nat → Value}
theorem GOk.mono {T : Tabs} {C C' : Cx} (h : GOk T S C) (g : C.le C') : GOk T S C' := ⟨fun p hp => (h.1 p hp).mono g, g.S.trans h.2⟩
theorem rv_glob {T : Tabs} {C : Cx} (h : GOk T S C) (g : Nat) : RV C (globAt T.glob g) (.pointer (some ⟨g, 0, none⟩)) := by
  replace h := h.1
  revert h
  generalize T.glob = l
  intro h
  induction l with
  | nil => exact rv_any
  | cons p ps ih =>
    simp only [globAt]
    split
    · rename_i e
      have := h p (List.mem_cons_self ..)
      rwa [e] at this
    · exact ih fun q hq => h q (List.mem_cons_of_mem _ hq)

/-- The true frame, of so many slots. -/
structure RF (C : Cx) (N : Nat) (fr : Fr) (a : Act) : Prop where
  size : a.tmps.size = N
  at_ : ∀ t, RV C (fr.get t) (a.tmps.getD t undef)
theorem RF.mono {C C' : Cx} (h : C.le C') {N : Nat} {fr : Fr} {a : Act} (g : RF C N fr a) : RF C' N fr a := ⟨g.size, fun t => (g.at_ t).mono h⟩
theorem RF.congr {C : Cx} {N : Nat} {fr fr' : Fr} {a : Act} (g : RF C N fr a) (h : ∀ t, fr'.get t = fr.get t) : RF C N fr' a := ⟨g.size, fun t => by rw [h t]; exact g.at_ t⟩
theorem rf_put {C : Cx} {N : Nat} {fr : Fr} {a : Act} (h : RF C N fr a) (d : Option Nat) {x : AV} {v : Value} (hx : RV C x v) : RF C N (putA N fr d x) (a.put d v) := by
  refine ⟨?_, fun t => ?_⟩
  · cases d with
    | none => exact h.size
    | some d => simp only [Act.put, Array.size_setIfInBounds]; exact h.size
  · rw [putA_get]
    cases d with
    | none => simp only [reduceCtorEq, false_and, if_false]; exact h.at_ t
    | some d =>
      simp only [Act.put, Option.some.injEq]
      by_cases e : d = t
      · subst e
        by_cases hl : d < N
        · by_cases h5 : d < 512
          · rw [if_pos ⟨rfl, hl, h5⟩]
            rw [Array.getD_eq_getD_getElem?, Array.getElem?_setIfInBounds_self_of_lt (by rw [h.size]; exact hl)]
            exact hx
          · rw [if_neg (fun g => h5 g.2.2)]
            have : fr.get d = AV.any := by simp only [Fr.get, rdC, if_neg h5]
            rw [this]
            exact rv_any
        · rw [if_neg (fun g => hl g.2.1)]
          have := h.at_ d
          have hs := h.size
          rw [Array.getD_eq_getD_getElem?, Array.getElem?_eq_none (by omega)] at this
          rw [Array.getD_eq_getD_getElem?, Array.getElem?_eq_none (by simp; omega)]
          exact this
      · rw [if_neg (fun g => e g.1)]
        have := h.at_ t
        rw [Array.getD_eq_getD_getElem?] at this ⊢
        rw [Array.getElem?_setIfInBounds_ne e]
        exact this

/-- An operand. -/
def evO (T : Tabs) (fr : Fr) : Operand → AV
  | .tmp t => fr.get t
  | .const v => ofV v
  | .global g => globAt T.glob g
  | .func f => AV.ex (.func (.func f) #[] #[])
theorem rv_op {T : Tabs} {C : Cx} {N : Nat} {fr : Fr} {a : Act} (hG : GOk T S C) (h : RF C N fr a) (x : Operand) : RV C (evO T fr x) (a.eval x) := by
  cases x with
  | tmp t => exact h.at_ t
  | const v => exact rv_ofV v
  | global g => exact rv_glob hG g
  | func f => exact rv_ex

/-- The value that an exact one is. -/
def AV.exact (x : AV) : Option Value := if x.t = 0 then some x.v else none
theorem rv_exact {C : Cx} {x : AV} {v u : Value} (h : RV C x v) (e : x.exact = some u) : v = u := by
  unfold AV.exact at e
  split at e
  · rename_i h0
    cases e
    exact h.case.1 h0
  · cases e
def AV.bool (x : AV) : Option Bool := if x.t = 0 then (match x.v with
  | .bool b => some b
  | _ => none) else none
theorem rv_bool {C : Cx} {x : AV} {v : Value} {b : Bool} (h : RV C x v) (e : x.bool = some b) : v = .bool b := by
  unfold AV.bool at e
  split at e
  · rename_i h0
    split at e
    · rename_i c hc
      cases e
      rw [h.case.1 h0, hc]
    · cases e
  · cases e

/-- One that is surely not nil, against nil. -/
def notNil (k : Nat) (x y : AV) : Bool := decide (y.t = 0) && (match y.v with
  | .pointer none => decide (k = 6) && (decide (x.t = 3) || decide (x.t = 4))
  | .slice none _ _ => decide (k = 3) && (decide (x.t = 5) || decide (x.t = 7) || decide (x.t = 8))
  | .nilFunc => decide (k = 9) && decide (x.t = 9)
  | .nilIface => decide (k = 7) && decide (x.t = 10)
  | _ => false)
def xNil (T : Tabs) (op : BinOp) (t : Nat) (x y : AV) : Option AV := (T.tiAt t).bind fun ti => if notNil ti.kind x y || notNil ti.kind y x then (match op with
  | .eql => some (AV.ex (.bool false))
  | .neq => some (AV.ex (.bool true))
  | _ => none) else none

theorem equal_one {P : Program} {w : World} {t : Nat} {v u : Value} {b : Bool} (h : (Op.equalIn (9999 + 1) t v u).run P w = .ok b w) : (Op.equal t v u).run P w = .ok b w := h

/-- What is asked of two values that are surely not equal. -/
def Unlike (P : Program) (w : World) (t : Nat) (v u : Value) : Prop :=
  (Op.equal t v u).run P w = .ok false w ∧ binOp .eql t v u = (do pure (.bool (← Op.equal t v u))) ∧ binOp .neq t v u = (do pure (.bool (!(← Op.equal t v u)))) ∧ ∀ op a b, (eqGuard op t a b v u).run P w = .ok () w

theorem notNil_ok {P : Program} {C : Cx} {t : Nat} {ti : TI} (tk : TOk P t ti) {x y : AV} {v u : Value} (hx : RV C x v) (hy : RV C y u) (h : notNil ti.kind x y = true) : Unlike P C.w t v u ∧ Unlike P C.w t u v := by
  unfold notNil at h
  simp only [Bool.and_eq_true, decide_eq_true_eq] at h
  obtain ⟨h0, h⟩ := h
  have hu := hy.case.1 h0
  have hk := tk.kind
  unfold kindB at hk
  split at h
  · rename_i hv
    rw [hv] at hu
    subst hu
    simp only [Bool.and_eq_true, Bool.or_eq_true, decide_eq_true_eq] at h
    have : ∃ a, v = .pointer (some a) := by
      rcases h.2 with k | k
      · exact ⟨_, (hx.case.2.2.2.1 k).1⟩
      · obtain ⟨_, _, _, r, _⟩ := hx.case.2.2.2.2.1 k; exact ⟨_, r⟩
    obtain ⟨a, rfl⟩ := this
    split at hk <;> simp [h.1] at hk
    rename_i e hd
    have hu : P.underlying t = some (.pointer e) := by rw [tk.hd, hd]
    exact ⟨⟨equal_one (by rw [Op.equalIn]; simp [run_underlying hu]), rfl, rfl, fun op a b => by cases op <;> simp [eqGuard]⟩, ⟨equal_one (by rw [Op.equalIn]; simp [run_underlying hu]), rfl, rfl, fun op a b => by cases op <;> simp [eqGuard]⟩⟩
  · rename_i n c hv
    rw [hv] at hu
    subst hu
    simp only [Bool.and_eq_true, Bool.or_eq_true, decide_eq_true_eq] at h
    have : ∃ a n c, v = .slice (some a) n c := by
      rcases h.2 with (k | k) | k
      · obtain ⟨_, _, _, r, _⟩ := hx.case.2.2.2.2.2.1 k; exact ⟨_, _, _, r⟩
      · obtain ⟨_, _, _, r, _⟩ := hx.case.2.2.2.2.2.2.2.1 k; exact ⟨_, _, _, r⟩
      · obtain ⟨_, _, _, _, r, _⟩ := hx.case.2.2.2.2.2.2.2.2.1 k; exact ⟨_, _, _, r⟩
    obtain ⟨a, n', c', rfl⟩ := this
    split at hk <;> simp [h.1] at hk
    rename_i e hd
    have hu : P.underlying t = some (.slice e) := by rw [tk.hd, hd]
    exact ⟨⟨equal_one (by rw [Op.equalIn]; simp [run_underlying hu]), rfl, rfl, fun op a b => by cases op <;> simp [eqGuard]⟩, ⟨equal_one (by rw [Op.equalIn]; simp [run_underlying hu]), rfl, rfl, fun op a b => by cases op <;> simp [eqGuard]⟩⟩
  · rename_i hv
    rw [hv] at hu
    subst hu
    simp only [Bool.and_eq_true, decide_eq_true_eq] at h
    obtain ⟨g, us, vs, _, rfl, _⟩ := hx.case.2.2.2.2.2.2.2.2.2.1 h.2
    split at hk <;> simp [h.1] at hk
    rename_i ps rs vr hd
    have hu : P.underlying t = some (.func ps rs vr) := by rw [tk.hd, hd]
    exact ⟨⟨equal_one (by rw [Op.equalIn]; simp [run_underlying hu]), rfl, rfl, fun op a b => by cases op <;> simp [eqGuard]⟩, ⟨equal_one (by rw [Op.equalIn]; simp [run_underlying hu]), rfl, rfl, fun op a b => by cases op <;> simp [eqGuard]⟩⟩
  · rename_i hv
    rw [hv] at hu
    subst hu
    simp only [Bool.and_eq_true, decide_eq_true_eq] at h
    obtain ⟨u, rfl, _⟩ := hx.case.2.2.2.2.2.2.2.2.2.2.1 h.2
    split at hk <;> simp [h.1] at hk
    rename_i ms hd
    have hu : P.underlying t = some (.interface ms) := by rw [tk.hd, hd]
    exact ⟨⟨equal_one (by rw [Op.equalIn]; simp [run_underlying hu]), rfl, rfl, fun op a b => by cases op <;> simp [eqGuard]⟩, ⟨equal_one (by rw [Op.equalIn]; simp [run_underlying hu]), rfl, rfl, fun op a b => by cases op <;> simp [eqGuard]⟩⟩
  · cases h

theorem xNil_ok {P : Program} {T : Tabs} (hT : TabOk P T) {C : Cx} {op : BinOp} {t : Nat} {x y z : AV} {v u : Value} (hx : RV C x v) (hy : RV C y u) (e : xNil T op t x y = some z) (a b : Operand) : ∃ r, (do eqGuard op t a b v u; binOp op t v u : Sem Value).run P C.w = .ok r C.w ∧ RV C z r := by
  unfold xNil at e
  obtain ⟨ti, h1, e⟩ := Option.bind_eq_some_iff.1 e
  obtain ⟨tk⟩ := hT _ _ h1
  split at e
  · rename_i hn
    have key : Unlike P C.w t v u := by
      rcases (Bool.or_eq_true_iff.1 hn : _ ∨ _) with h | h
      · exact (notNil_ok tk hx hy h).1
      · exact (notNil_ok tk hy hx h).2
    obtain ⟨k1, k2, k3, k4⟩ := key
    split at e
    · cases e
      exact ⟨.bool false, by rw [k2]; simp [k4, k1], rv_ex⟩
    · cases e
      exact ⟨.bool true, by rw [k3]; simp [k4, k1], rv_ex⟩
    · cases e
  · cases e

/-- An int that has a name, against itself. -/
def symEq (op : BinOp) : Option AV := match op with
  | .eql => some (AV.ex (.bool true))
  | .leq => some (AV.ex (.bool true))
  | .geq => some (AV.ex (.bool true))
  | .neq => some (AV.ex (.bool false))
  | .lss => some (AV.ex (.bool false))
  | .gtr => some (AV.ex (.bool false))
  | _ => none
theorem symEq_ok {P : Program} {C : Cx} {op : BinOp} {t : Nat} {n : Int} {z : AV} (e : symEq op = some z) (a b : Operand) : ∃ r, (do eqGuard op t a b (.int .i64 n) (.int .i64 n); binOp op t (.int .i64 n) (.int .i64 n) : Sem Value).run P C.w = .ok r C.w ∧ RV C z r := by
  unfold symEq at e
  split at e <;> first | cases e | skip
  all_goals refine ⟨_, ?_, rv_ex⟩
  all_goals simp [eqGuard, binOp, Op.intCmp]
/-- A binary operation. -/
def xBin (P : Program) (T : Tabs) (op : BinOp) (t : Nat) (a b : Operand) (x y : AV) : Option AV := match x.exact, y.exact with
  | some v, some u => (pureRun P (do eqGuard op t a b v u; binOp op t v u : Sem Value)).map ofV
  | _, _ => if x.t = 14 ∧ y.t = 14 ∧ x.a = y.a then symEq op else xNil T op t x y
theorem xBin_ok {P : Program} {T : Tabs} (hT : TabOk P T) {C : Cx} {op : BinOp} {t : Nat} {a b : Operand} {x y z : AV} {v u : Value} (hx : RV C x v) (hy : RV C y u) (e : xBin P T op t a b x y = some z) : ∃ r, (do eqGuard op t a b v u; binOp op t v u : Sem Value).run P C.w = .ok r C.w ∧ RV C z r := by
  unfold xBin at e
  split at e
  · rename_i v' u' h1 h2
    obtain rfl := rv_exact hx h1
    obtain rfl := rv_exact hy h2
    obtain ⟨r, h3, rfl⟩ := Option.map_eq_some_iff.1 e
    exact ⟨r, pureRun_ok C.w _ h3, rv_ofV r⟩
  · split at e
    · rename_i h
      obtain ⟨e1, n, e2⟩ := (hx.hi (by omega)).int h.1
      obtain ⟨e3, _⟩ := (hy.hi (by omega)).int h.2.1
      rw [h.2.2, ← e3] at e1
      subst e2
      subst e1
      exact symEq_ok e a b
    · exact xNil_ok hT hx hy e a b
end Go.Proofs.YthklnpkjlepagaaGreatDoor.Ab
