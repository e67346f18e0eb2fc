/- settle; eval; and all of it, by induction. -/
import Derived.Test.YtjiecahopdaghabDoorNk
import Derived.Laws.EntriesVeiled
namespace Go.Proofs.YtjiecahopdaghabDoor
open Go.RowKit

theorem eqq_nn (w : World) : (Op.equal 69 .nilFunc .nilFunc).run Tryd.prog w = .ok true w := by
  have h : Op.equal 69 .nilFunc .nilFunc = Op.equalIn (Op.maxDepth - 1 + 1) 69 .nilFunc .nilFunc := rfl
  rw [h, Op.equalIn]
  simp only [Sem.run_bind, run_underlying Tryd.underlying69, Result.andThen_ok, Sem.run_pure]
theorem eqq_fn (fn : Fn) (a b : Array Value) (w : World) : (Op.equal 69 (.func fn a b) .nilFunc).run Tryd.prog w = .ok false w := by
  have h : Op.equal 69 (.func fn a b) .nilFunc = Op.equalIn (Op.maxDepth - 1 + 1) 69 (.func fn a b) .nilFunc := rfl
  rw [h, Op.equalIn]
  simp only [Sem.run_bind, run_underlying Tryd.underlying69, Result.andThen_ok, Sem.run_pure]
theorem eq_nn (w : World) : (binOp .eql 69 .nilFunc .nilFunc).run Tryd.prog w = .ok (.bool true) w := by
  simp [binOp, go_sem, eqq_nn]
theorem eq_fn (fn : Fn) (a b : Array Value) (w : World) : (binOp .eql 69 (.func fn a b) .nilFunc).run Tryd.prog w = .ok (.bool false) w := by
  simp [binOp, go_sem, eqq_fn]
attribute [local go_sem] eq_nn eq_fn
attribute [local go_sem ↓] Go.wp_at_zero Go.wp_at_succ

theorem cf63 (args : Array Value) (w : World) : (callFunc 54 args).run Tryd.prog w = .ok (.enter 54 args) w := cf_of Tryd.func54 (by kernel_rfl) (by kernel_rfl) args w
theorem cf64 (args : Array Value) (w : World) : (callFunc 55 args).run Tryd.prog w = .ok (.enter 55 args) w := cf_of Tryd.func55 (by kernel_rfl) (by kernel_rfl) args w
theorem cf65 (args : Array Value) (w : World) : (callFunc 56 args).run Tryd.prog w = .ok (.enter 56 args) w := cf_of Tryd.func56 (by kernel_rfl) (by kernel_rfl) args w
theorem cf98 (args : Array Value) (w : World) : (callFunc 81 args).run Tryd.prog w = .ok (.enter 81 args) w := cf_of Tryd.func81 (by kernel_rfl) (by kernel_rfl) args w

/-- A rule, by its function. -/
theorem rule_any {go : Go1} (hg : ExC go) (mb : Nat) (v : Val) (hk : ruleKids v.op ≠ 0) :
    ∃ k v0, ruleFn mb v.op = .func (.func k) #[v0] #[] ∧ (∀ vs w, (callFunc k vs).run Tryd.prog w = .ok (.enter k vs) w) ∧ ∀ (w : World) (X : Nat → Prop) (B : Nat) (A : Nat → Nat) (s : St) (vq : Nat) (r : Val × St), Inv w X B mb A s → ValP w X mb A s.size vq v → mRule go v s = some r → Calls Tryd.prog k #[v0, pt vq] w (ValOut w X B mb A s r) := by
  by_cases h5 : v.op = 5
  · exact ⟨54, pt mb, by unfold ruleFn; rw [if_pos h5], cf63, fun w X B A s vq r i hv he => apply_any hg i hv (by unfold mRule at he; rwa [if_pos h5] at he)⟩
  by_cases h13 : v.op = 13
  · exact ⟨55, pt mb, by unfold ruleFn; rw [if_neg h5, if_pos h13], cf64, fun w X B A s vq r i hv he => recur_any hg i hv (by unfold mRule at he; rwa [if_neg h5, if_pos h13] at he)⟩
  by_cases h8 : v.op = 8
  · exact ⟨56, _, by unfold ruleFn; rw [if_neg h5, if_neg h13, if_pos h8]; rfl, cf65, fun w X B A s vq r i hv he => take_any (op := 7) (kids := 3) (part := 1) hg i (by decide) hv (by unfold mRule at he; rwa [if_neg h5, if_neg h13, if_pos h8] at he)⟩
  by_cases h9 : v.op = 9
  · exact ⟨56, _, by unfold ruleFn; rw [if_neg h5, if_neg h13, if_neg h8, if_pos h9]; rfl, cf65, fun w X B A s vq r i hv he => take_any (op := 7) (kids := 3) (part := 2) hg i (by decide) hv (by unfold mRule at he; rwa [if_neg h5, if_neg h13, if_neg h8, if_pos h9] at he)⟩
  by_cases h30 : v.op = 30
  · exact ⟨56, _, by unfold ruleFn; rw [if_neg h5, if_neg h13, if_neg h8, if_neg h9, if_pos h30]; rfl, cf65, fun w X B A s vq r i hv he => take_any (op := 19) (kids := 1) (part := 0) hg i (by decide) hv (by unfold mRule at he; rwa [if_neg h5, if_neg h13, if_neg h8, if_neg h9, if_pos h30] at he)⟩
  have h19 : v.op = 19 := by
    unfold ruleKids at hk
    rw [if_neg h5, if_neg h13] at hk
    by_cases h : v.op = 8 ∨ v.op = 9 ∨ v.op = 30 ∨ v.op = 19
    · omega
    · rw [if_neg h] at hk; exact absurd rfl hk
  exact ⟨56, _, by unfold ruleFn; rw [if_neg h5, if_neg h13, if_neg h8, if_neg h9, if_neg h30, if_pos h19]; rfl, cf65, fun w X B A s vq r i hv he => take_any (op := 30) (kids := 1) (part := 0) hg i (by decide) hv (by unfold mRule at he; rwa [if_neg h5, if_neg h13, if_neg h8, if_neg h9, if_neg h30] at he)⟩

theorem no_rule {mb : Nat} {op : Int} (h : ruleKids op = 0) : ruleFn mb op = .nilFunc := by
  unfold ruleKids at h
  unfold ruleFn
  split at h
  · simp at h
  · split at h
    · simp at h
    · split at h
      · simp at h
      · rename_i h5 h13 h8
        rw [if_neg h5, if_neg h13, if_neg (by omega), if_neg (by omega), if_neg (by omega), if_neg (by omega)]

theorem MachP.rule {w : World} {mb : Nat} {f n e : Int} (h : MachP w mb f n e) {op : Int} (h0 : 0 ≤ op) (h1 : op ≤ 30) : w.cell? ⟨mb, op.toNat * 2, none⟩ = some (.int .i64 (ruleKids op : Nat)) ∧ w.cell? ⟨mb, op.toNat * 2 + 1, none⟩ = some (ruleFn mb op) := by
  obtain ⟨cs, hb, _, hr, _⟩ := h
  obtain ⟨g1, g2⟩ := hr op.toNat (by omega)
  rw [show ((op.toNat : Nat) : Int) = op by omega] at g1 g2
  exact ⟨(cell_of_block hb _).trans g1, (cell_of_block hb _).trans g2⟩

/-- A call of one argument that is guarded. -/
theorem stepg1 {P : Program} {ops : Array Oper} {o : Oper} {a : Act} {w : World} {K : Act → World → Prop} {Q : Exit → Act → World → Prop} {E : Prop} (hw : Region.wanted o (yielded ops a.tmps) = true) (k : Nat) (x : Operand) (ts : Array TypeId)
    (ho : o.op = .call { callee := .value (.func k), args := #[x], argTypes := ts }) (hcf : ∀ vs w, (callFunc k vs).run P w = .ok (.enter k vs) w) (v : Value) (hv : a.eval x = v)
    (R : Ending → World → Prop) (h : Calls P k #[v] w R) (hK : ∀ e w', R e w' → ∃ u, e = .returned u ∧ K (a.put o.dst u) w') :
    if Region.wanted o (yielded ops a.tmps) = true then Oper.wp P o a w K Q else E := by
  rw [if_pos hw]
  unfold Oper.wp
  have hrun : (execOp a.eval o).run P w = .ok (.enter k #[v]) w := by
    have hf : a.eval (.func k) = .func (.func k) #[] #[] := rfl
    simp [execOp, ho, resolve, invoke, hcf, hv, hf, Deferred.ofValue]
  rw [hrun, Oper.upon_enter]
  refine h.mono ?_
  intro e w' hr
  obtain ⟨u, rfl, hk⟩ := hK e w' hr
  exact hk
theorem dr2 (w : World) (o : Obj) : Below w.heap.size w (w.alloc o).drew.drew := by
  have := later_alloc w o
  exact ⟨this.os, this.tape, this.output, this.size, this.block⟩

set_option maxRecDepth 20000 in
set_option maxHeartbeats 8000000 in
theorem settle_any {go : Go1} (hg : ExC go) {w : World} {X : Nat → Prop} {B mb : Nat} {A : Nat → Nat} {s : St} (i : Inv w X B mb A s) {vq : Nat} {v : Val} {r : Val × St} (hv : ValP w X mb A s.size vq v) (he : mSettle go v s = some r) :
    Calls Tryd.prog 79 #[pt mb, pt vq] w (ValOut w X B mb A s r) := by
  have HV := hide hv; have HI := hide i
  obtain ⟨_, _, nm, va, vc, hvb, hvr⟩ := hv
  obtain ⟨c0, c1, c2⟩ := blk3 hvb
  have hlm : v.parts.length ≤ 100000000 := Nat.le_trans hvr.1 hvr.2.1
  unfold mSettle at he
  by_cases hr0 : v.op < 0 ∨ 31 ≤ v.op
  · have hk0 : ruleKids v.op = 0 := by unfold ruleKids; rw [if_neg (by omega), if_neg (by omega), if_neg (by omega)]
    rw [if_pos (Or.inl hk0)] at he
    have he' := Option.some.inj he
    subst he'
    clear he hvb hvr nm hg i
    rcases hr0 with h | h
    · go_enter Tryd.func79, Tryd.ntmps79
      go_wp2_with fail
      go_ret
      exact ⟨A, vq, rfl, Stp.refl HI.out, HV.out⟩
    · go_enter Tryd.func79, Tryd.ntmps79
      go_wp2_with fail
      go_ret
      exact ⟨A, vq, rfl, Stp.refl HI.out, HV.out⟩
  have ho0 : 0 ≤ v.op := by omega
  have ho1 : v.op ≤ 30 := by omega
  obtain ⟨o, hop⟩ : ∃ o : Nat, v.op = (o : Nat) := ⟨v.op.toNat, by omega⟩
  obtain ⟨m0, m1⟩ := i.mach.rule ho0 ho1
  rw [hop] at m0 m1 c0 ho1
  rw [Int.toNat_natCast] at m0 m1
  obtain ⟨kk, hkk⟩ : ∃ kk : Nat, kk = ruleKids v.op := ⟨_, rfl⟩
  obtain ⟨fn, hfn⟩ : ∃ fn, fn = ruleFn mb v.op := ⟨_, rfl⟩
  rw [← hop, ← hkk] at m0
  rw [← hop, ← hfn] at m1
  have i0 : (0 : Int) ≤ ((o : Nat) : Int) := by omega
  have i1 : ((o : Nat) : Int) < 31 := by omega
  have hkb : kk ≤ 4 := by rw [hkk]; unfold ruleKids; repeat' (first | omega | split)
  have mm0 := (old_cell m0 i.hmb.2).1
  have mm1 := (old_cell m1 i.hmb.2).1
  have cc0 := (old_cell c0 (size_of_block hvb)).1
  have cc2 := (old_cell c2 (size_of_block hvb)).1
  rw [← hkk] at he
  have HOP := hide hop; have HKK := hide hkk; have HFN := hide hfn; have HG := hide hg; have NM := hide nm
  by_cases hk0 : kk = 0
  · rw [if_pos (Or.inl hk0)] at he
    have he' := Option.some.inj he
    subst he'
    have hfn' : fn = .nilFunc := by rw [hfn]; exact no_rule (by rw [← hkk]; exact hk0)
    subst hfn'
    have HS : Hid (Stp w X B mb A s (w.alloc (.cells #[.int .i64 0, .nilFunc] 71)).drew.drew A s) := hide (Stp.more i (dr2 w _))
    clear hop hkk hfn hg hvr nm hr0 ho0 he i hvb
    go_enter Tryd.func79, Tryd.ntmps79
    go_wp2_with fail
    go_region
    go_wp2_with fail
    go_region
    go_wp2_with fail
    go_ret
    exact ⟨A, vq, rfl, HS.out, HV.out.keep (Stp.keeps HI.out HS.out)⟩
  obtain ⟨k, v0, hfv, hcf, hrule⟩ := rule_any HG.out mb v (by rw [← hkk]; exact hk0)
  have hfv' : fn = .func (.func k) #[v0] #[] := hfn.trans hfv
  subst hfv'
  have HS : Hid (Stp w X B mb A s (w.alloc (.cells #[.int .i64 (kk : Nat), .func (.func k) #[v0] #[]] 71)).drew.drew A s) := hide (Stp.more i (dr2 w _))
  have hbk : (((kk : Nat) : Int) == 0) = false := ne_beq (by omega)
  have HRL := hide hrule; have HCF := hide hcf
  by_cases hl : v.parts.length = kk
  · rw [if_neg (by rintro (h | h); exact hk0 h; exact h hl)] at he
    have hbl : ((v.parts.length : Int) == ((kk : Nat) : Int)) = true := beq_iff_eq.2 (by omega)
    have HEN := hide (enter_any HS.out.inv)
    cases hb : s.enter.1 with
    | false =>
      simp only [hb, Bool.false_eq_true, if_false] at he
      have he' := Option.some.inj he
      subst he'
      have HB := hide hb
      clear hop hkk hfn hg hvr nm hr0 ho0 he i hvb hfv hrule hcf hb
      go_enter Tryd.func79, Tryd.ntmps79
      go_wp2_with fail
      go_region
      go_wp2_with fail
      go_region_law (first
        | (refine stepg1 (by rfl) 81 (.tmp 43) #[61] (by rfl) cf98 (pt mb) (by rfl) _ HEN.out ?_
           rintro e w2 ⟨rfl, h2⟩
           rw [HB.out]
           refine ⟨_, rfl, ?_⟩
           have HS2 := hide (Stp.trans HS.out h2)
           clear h2))
      all_goals
        go_wp2_with fail
        go_ret
        exact ⟨A, vq, rfl, HS2.out, HV.out.keep (Stp.keeps HI.out HS2.out)⟩
    | true =>
      simp only [hb, if_true] at he
      obtain ⟨r5, hr5, rfl⟩ := Option.map_eq_some_iff.1 he
      obtain ⟨nn, hnn⟩ : ∃ nn, nn = w64 (r5.2.nested - 1) := ⟨_, rfl⟩
      rw [← hnn]
      have HNN := hide hnn
      clear hnn
      have HB := hide hb; have HR5 := hide hr5
      have nbx : Hid (¬ Mut mb A s.size w.heap.size) := hide (by
        rintro (h | ⟨j, hj, h⟩)
        · have := i.hmb.2; omega
        · have := (i.lo j hj).2.1; omega)
      clear hop hkk hfn hg hvr nm hr0 ho0 he i hvb hfv hrule hcf hb hr5
      go_enter Tryd.func79, Tryd.ntmps79
      go_wp2_with fail
      go_region
      go_wp2_with fail
      go_region_law (first
        | (refine stepg1 (by rfl) 81 (.tmp 43) #[61] (by rfl) cf98 (pt mb) (by rfl) _ HEN.out ?_
           rintro e w2 ⟨rfl, h2⟩
           rw [HB.out]
           refine ⟨_, rfl, ?_⟩
           have HS2 := hide (Stp.trans HS.out h2)
           have bx2 : w2.heap[w.heap.size]? = some (.cells #[.int .i64 (kk : Nat), .func (.func k) #[v0] #[]] 71 (0, 0)) := (h2.fr.block _ (show w.heap.size < (w.alloc _).heap.size by simp) nbx.out).trans (heap_alloc_new w _)
           have x2 : w2.cell? ⟨w.heap.size, 1, none⟩ = some (.func (.func k) #[v0] #[]) := (cell_of_block bx2 1).trans rfl
           have HRC := hide (HRL.out w2 X B A s.enter.2 vq r5 HS2.out.inv (HV.out.keep (Stp.keeps HI.out HS2.out)) HR5.out)
           have hcf := HCF.out
           clear h2 bx2))
      all_goals
        go_wp2_with fail
        refine HRC.out.mono ?_
        rintro e w3 ⟨A3, uq, rfl, h3, hv3⟩
        obtain ⟨n0', n1', n2', nf⟩ := h3.inv.mach.cells
        have z3 := nf 63
        have H3 := hide (Stp.trans HS2.out h3); have HV3 := hide hv3
        have hwn : IntKind.i64.wrap (r5.2.nested - 1) = nn := HNN.out.symm
        clear h3 hv3 n0' n2' nf
        go_wp2_with fail
        go_ret
        have hst := Stp.mach (s' := { r5.2 with nested := nn }) H3.out.inv (fr_set _ _ _ _) (H3.out.inv.mach.set (k := 63) (by omega) nn) rfl rfl H3.out.inv.fuel
        exact ⟨A3, uq, rfl, Stp.trans H3.out hst, HV3.out.keep (Stp.keeps H3.out.inv hst)⟩
  · rw [if_pos (Or.inr hl)] at he
    have he' := Option.some.inj he
    subst he'
    have hbl : ((v.parts.length : Int) == ((kk : Nat) : Int)) = false := ne_beq (by omega)
    have hbn : ((v.parts.length : Int) != ((kk : Nat) : Int)) = true := by rw [bne, hbl]; rfl
    clear hop hkk hfn hg hvr nm hr0 ho0 he i hvb hfv hrule hcf
    go_enter Tryd.func79, Tryd.ntmps79
    go_wp2_with fail
    go_region
    go_wp2_with fail
    go_region
    all_goals
      go_wp2_with fail
      go_ret
      exact ⟨A, vq, rfl, HS.out, HV.out.keep (Stp.keeps HI.out HS.out)⟩

set_option maxRecDepth 20000 in
theorem eval_any {go : Go1} (hg : ExC go) {w : World} {X : Nat → Prop} {B mb : Nat} {A : Nat → Nat} {s : St} (i : Inv w X B mb A s) {a : Option Addr} {cap b off : Nat} {sc : List Nat} {t : Tr} {r : Val × St} (ht : TmP w B b off t) (hr : PRow w X mb A s.size a sc cap) (he : mEval go t sc s = some r) :
    Calls Tryd.prog 73 #[pt mb, .pointer (some ⟨b, off, none⟩), .slice a sc.length cap] w (ValOut w X B mb A s r) := by
  obtain ⟨ta, tc, _, _, c0, c1, c2, _, _, _⟩ := ht.open
  unfold mEval at he
  have HI := hide i; have HT := hide ht; have HR := hide hr; have HG := hide hg
  by_cases h : t.op = 1
  · rw [if_pos h] at he
    have hb : (t.op == 1) = true := beq_iff_eq.2 h
    have HE := hide he
    have HA := hide (at_any i t.n hr)
    clear he h hg i ht hr c2
    go_enter Tryd.func73, Tryd.ntmps73
    go_wp2_with fail
    refine HA.out.mono ?_
    rintro e w1 ⟨A1, rfl, hl, h1⟩
    have H1 := hide h1
    have HF := hide (HG.out.force h1.inv hl HE.out)
    clear h1 hl
    go_wp2_with fail
    refine HF.out.mono ?_
    rintro e w2 ⟨A2, vq, rfl, h2, hv2⟩
    have H2 := hide h2; have HV2 := hide hv2
    clear h2 hv2
    go_wp2_with fail
    go_ret
    exact ⟨A2, vq, rfl, Stp.trans H1.out H2.out, HV2.out⟩
  · rw [if_neg h] at he
    have hb : (t.op == 1) = false := ne_beq h
    have HE := hide he
    have HN := hide (nnode_any i ht hr)
    clear he h hg i ht hr c1 c2
    go_enter Tryd.func73, Tryd.ntmps73
    go_wp2_with fail
    refine HN.out.mono ?_
    rintro e w1 ⟨A1, vq, rfl, h1, hv1⟩
    have H1 := hide h1
    have HF := hide (settle_any HG.out h1.inv hv1 HE.out)
    clear h1 hv1
    go_wp2_with fail
    refine HF.out.mono ?_
    rintro e w2 ⟨A2, vq', rfl, h2, hv2⟩
    have H2 := hide h2; have HV2 := hide hv2
    clear h2 hv2
    go_wp2_with fail
    go_ret
    exact ⟨A2, vq', rfl, Stp.trans H1.out H2.out, HV2.out⟩

/-- All of it. -/
theorem exc_all : ∀ n, ExC (exec n)
  | 0 => ⟨fun _ _ h => by simp [exec] at h, fun _ _ _ h => by simp [exec] at h, fun _ _ h => by simp [exec] at h⟩
  | n + 1 => ⟨fun i hp h => value_any (exc_all n) i hp h, fun i ht hr h => eval_any (exc_all n) i ht hr h, fun i hv h => settle_any (exc_all n) i hv h⟩
#print axioms exc_all
end Go.Proofs.YtjiecahopdaghabDoor
