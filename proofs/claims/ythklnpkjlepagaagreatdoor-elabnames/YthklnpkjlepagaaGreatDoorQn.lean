/- Regions that draw their order: the theorem. -/
import Derived.Test.YthklnpkjlepagaaGreatDoorMQyxQm
namespace Go.Proofs.YthklnpkjlepagaaGreatDoor.Ab
open Go.RowKit
variable {S : Nat → Value}

/-- All that is known of a region's record. -/
structure RegFacts (P : Program) (T : Tabs) (call : CallA) (N loc : Nat) (ops : Array Oper) (s s' : Sta) (E : List Ent) : Prop where
  good : ∀ (k : Nat) (e : Ent), E[k]? = some e → GoodAt P T call N loc ops (bits ops) s k (E.take k) e
  ops_ : E.map (·.o) = ops.toList
  fr : s'.fr = frT N E s.fr
  H : ∀ b, s'.H.get b = (hpT E s.H).get b
  bnd : HB s'.H s'.n
  le : s.n ≤ s'.n
  top : ∀ (k : Nat) (e : Ent), E[k]? = some e → e.n1 ≤ s'.n
  wr0 : ∀ b, s.wr.testBit b = true → s'.wr.testBit b = true
  wr1 : ∀ (k : Nat) (e : Ent), E[k]? = some e → ∀ b ∈ e.asg, b < e.n0 → s'.wr.testBit b = true
  wr2 : ∀ b, s'.wr.testBit b = true → s.wr.testBit b = true ∨ ∃ (k : Nat) (e : Ent), E[k]? = some e ∧ b ∈ e.asg ∧ b < e.n0

section
variable {P : Program} {T : Tabs} (hT : TabOk P T) (hz : zeroB T = true) (hNum : noNum P = true) {call : CallA} (hcall : CallOk P T S call) (hbody : ∀ g args H n out, call g args H n = .ok out → hasBody P g = true) {N loc : Nat} {ops : Array Oper} {s s' : Sta} {E : List Ent} {w : Bool}

include hT hz hNum hcall hbody in
theorem facts_of (h : drawGo P T call N loc ops ops.toList (planOf ops (bits ops)) 0 s [] = .ok (E, s', w)) (hB : HB s.H s.n) : RegFacts P T call N loc ops s s' E ∧ (w = false → ∀ e ∈ E, e.wt = none) := by
  obtain ⟨r1, r2, r3, r4, r5, r6, r7, r8, r9, r10, r11⟩ := drawGo_good (BS := bits ops) (s0 := s) hT hz hNum hcall hbody ops.toList (planOf ops (bits ops)) 0 s [] E s' w [] h rfl rfl (fun k => by rw [Nat.zero_add]) rfl (fun _ => rfl) hB (Nat.le_refl _) (fun j ej hj => by simp at hj) (fun j ej hj => by simp at hj) (fun _ j ej hj => by simp at hj)
  refine ⟨⟨fun k e hk => ?_, r2, by simpa using r3, by simpa using r4, r5, r6, fun k e hk => r7 e (List.mem_of_getElem? hk), r8, fun k e hk => r9 e (List.mem_of_getElem? hk), fun b hb => ?_⟩, r11⟩
  · have := GoodL.get r1 hk
    simpa using this
  · rcases r10 b hb with h1 | ⟨e, h1, h2⟩
    · exact Or.inl h1
    · obtain ⟨k, hk, rfl⟩ := List.mem_iff_getElem.1 h1
      exact Or.inr ⟨k, _, List.getElem?_eq_getElem hk, h2⟩

theorem RegFacts.chain (F : RegFacts P T call N loc ops s s' E) {j k : Nat} {a b : Ent} (hj : E[j]? = some a) (hk : E[k]? = some b) (hlt : j < k) : a.n1 ≤ b.n0 :=
  (F.good k b hk).chain j a (by rw [List.getElem?_take, if_pos hlt]; exact hj)

/-- Which blocks an operation has turned: old ones, or its own new ones. -/
theorem RegFacts.asg (F : RegFacts P T call N loc ops s s' E) {k : Nat} {e : Ent} (hk : E[k]? = some e) {b : Nat} (hb : b ∈ e.asg) : b < e.n0 ∨ (e.n0 ≤ b ∧ b < e.n1) := by
  have G := F.good k e hk
  cases hB : e.b with
  | false => rw [(G.no hB).2.1] at hb; cases hb
  | true =>
    cases hw : e.wt with
    | some q =>
      obtain ⟨b', o', ws⟩ := q
      rw [(G.wat _ _ _ hw).1] at hb
      cases hb
    | none =>
    obtain ⟨out, V, _, _, _, _, h5, _⟩ := G.yes hB hw
    rcases (h5 b).1 hb with h | h
    · exact Or.inl h.2
    · exact Or.inr h

/-- A block that some operations have left is an old one, if its number is. -/
theorem RegFacts.stays (_F : RegFacts P T call N loc ops s s' E) (i : Nat) {b : Nat} {B : Blk} (h : (hpT (E.take i) s.H).get b = some B) (hn : ∀ (k : Nat) (e : Ent), E[k]? = some e → k < i → b ∉ e.asg) : s.H.get b = some B := by
  have := hpO_bef E 0 i s.H
  rw [Nat.zero_add] at this
  rw [← this, hpO_get] at h
  rw [← h]
  refine (look_none fun k e hk hL => ?_).symm
  rw [Nat.zero_add] at hL
  have hlt : k < i := by simpa [bef] using hL
  unfold fH
  rw [if_neg (hn k e hk hlt)]

/-- What an operation sees are old blocks. -/
theorem RegFacts.small (F : RegFacts P T call N loc ops s s' E) (hB0 : HB s.H s.n) {i : Nat} {e : Ent} (hE : E[i]? = some e) {V : Hp} (hV : ∀ b B, V.get b = some B → (hpT (E.take i) s.H).get b = some B) : HB V e.n0 := by
  intro b B h
  have hp := hV b B h
  by_cases hex : ∃ (k : Nat) (ek : Ent), E[k]? = some ek ∧ k < i ∧ b ∈ ek.asg
  · obtain ⟨k, ek, q1, q2, q3⟩ := hex
    have := F.chain q1 hE q2
    have := (F.good k ek q1).le
    rcases F.asg q1 q3 with q | q <;> omega
  · have := hB0 b B (F.stays i hp fun k ek q1 q2 q3 => hex ⟨k, ek, q1, q2, q3⟩)
    have := (F.good i e hE).start
    omega

include hT hz hNum hcall hbody in
theorem RegFacts.tid (F : RegFacts P T call N loc ops s s' E) (hB0 : HB s.H s.n) : (∀ b, b < s.n → s'.wr.testBit b = false → s'.H.get b = s.H.get b) ∧ ∀ b, s'.wr.testBit b = true → s.wr.testBit b = true ∨ s.n ≤ b ∨ ∃ B, s.H.get b = some B := by
  have hget : ∀ b, s'.H.get b = look (fH b) (fun _ => true) E 0 (s.H.get b) := fun b => by
    rw [F.H, ← hpO_all (L := fun _ => true) E 0 s.H fun _ _ => rfl, hpO_get]
  have hwr : ∀ (k : Nat) (e : Ent), E[k]? = some e → ∀ b ∈ e.asg, b < s.n → s'.wr.testBit b = true := fun k e hk b hb hlt => F.wr1 k e hk b hb (by
    rcases F.asg hk hb with h | h
    · exact h
    · have := (F.good k e hk).start; omega)
  have hadP : ∀ (i k : Nat) (e : Ent), k < i → E[k]? = some e → ∀ b ∈ e.asg, b < e.n0 → b < s.n → ∃ B, s.H.get b = some B := by
    intro i
    induction i with
    | zero => intro k e h; omega
    | succ i ih =>
      intro k e hki hk b hb hlt hbn
      have G := F.good k e hk
      cases hB : e.b with
      | false => rw [(G.no hB).2.1] at hb; cases hb
      | true =>
        cases hw : e.wt with
        | some q =>
          obtain ⟨b', o', ws⟩ := q
          rw [(G.wat _ _ _ hw).1] at hb
          cases hb
        | none =>
        obtain ⟨out, V, h1, _, _, _, h5, h6⟩ := G.yes hB hw
        rcases (h5 b).1 hb with h | h
        · obtain ⟨B, hV⟩ := (opA_ok (N := N) hT hz hNum hcall hbody h1).1.had (F.small hB0 hk fun b B hV => (h6 b B hV).1) b h.1 hlt
          have hp := (h6 b B hV).1
          by_cases hex : ∃ (k' : Nat) (e' : Ent), E[k']? = some e' ∧ k' < k ∧ b ∈ e'.asg
          · obtain ⟨k', e', q1, q2, q3⟩ := hex
            refine ih k' e' (by omega) q1 b q3 ?_ hbn
            have := (F.good k' e' q1).start
            omega
          · exact ⟨B, F.stays k hp fun k' e' q1 q2 q3 => hex ⟨k', e', q1, q2, q3⟩⟩
        · omega
  refine ⟨fun b hb hn => ?_, fun b hb => ?_⟩
  · rw [hget]
    refine look_none fun k e hk _ => ?_
    unfold fH
    rw [if_neg fun h2 => by rw [hwr k e hk b h2 hb] at hn; cases hn]
  · rcases F.wr2 b hb with h | ⟨k, e, h1, h2, h3⟩
    · exact Or.inl h
    · by_cases hlt : b < s.n
      · exact Or.inr (Or.inr (hadP (k + 1) k e (by omega) h1 b h2 h3 hlt))
      · exact Or.inr (Or.inl (by omega))

/-- What holds when some of the operations have run. -/
structure RegInv (C0 : Cx) (N : Nat) (ds : List Deferred) (s : Sta) (ops : Array Oper) (E : List Ent) (X : Cx → Act → Prop) (L : Nat → Bool) (a : Act) (w : World) : Prop where
  closed : ∀ i j, L i = true → ((bits ops).getD i 0).testBit j = true → L j = true
  cx : ∃ C, C.w = w ∧ C.H = hpO L E 0 s.H ∧ Goes C0 C ∧ RF C N (frO N L E 0 s.fr) a ∧ a.defers = ds ∧ (∀ b, C.A b → C0.A b ∨ ∃ (j : Nat) (e : Ent), E[j]? = some e ∧ L j = true ∧ e.n0 ≤ b ∧ b < e.n1) ∧ X C a

/-- What holds ahead of an operation that may run. -/
structure RegPre (N : Nat) (s : Sta) (ops : Array Oper) (E : List Ent) (L : Nat → Bool) (i : Nat) (e : Ent) : Prop where
  done : ∀ j, ((bits ops).getD i 0).testBit j = true → L j = true
  not_ : ∀ k, ((bits ops).getD k 0).testBit i = true → L k = false
  cl : ∀ x j, upd L i x = true → ((bits ops).getD x 0).testBit j = true → upd L i j = true
  read : ∀ t ∈ reads ops e.o, (frO N L E 0 s.fr).get t = (frT N (E.take i) s.fr).get t
  fr : ∀ t, (frO N (upd L i) E 0 s.fr).get t = (putA N (frO N L E 0 s.fr) e.o.dst e.x).get t
theorem reg_pre (F : RegFacts P T call N loc ops s s' E) (hr : regOk ops = true) {i : Nat} {e : Ent} (hi : ops[i]? = some e.o) (hE : E[i]? = some e) {L : Nat → Bool} (hLi : L i = false) (hpre : ∀ d ∈ e.o.after, Region.binds .any d = true → L d.on = true) (hcl : ∀ i j, L i = true → ((bits ops).getD i 0).testBit j = true → L j = true) : RegPre N s ops E L i e := by
  unfold regOk at hr
  simp only [Bool.and_eq_true] at hr
  obtain ⟨hback, htmp⟩ := hr
  have hbits := bits_ok (back_ok hback)
  -- who is waited for has run
  have hdone : ∀ j, ((bits ops).getD i 0).testBit j = true → L j = true := by
    intro j hj
    obtain ⟨ed, h1, h2, h3⟩ := hbits i e.o j (by rw [Array.getElem?_toList]; exact hi) hj
    have h4 := hpre ed (by simpa using h1) h2
    rcases h3 with rfl | h3
    · exact h4
    · exact hcl _ _ h4 h3
  have hnot : ∀ k, ((bits ops).getD k 0).testBit i = true → L k = false := by
    intro k hk
    cases hL : L k with
    | false => rfl
    | true =>
      have := hcl k i hL hk
      rw [hLi] at this
      cases this
  have hcl' : ∀ x j, upd L i x = true → ((bits ops).getD x 0).testBit j = true → upd L i j = true := by
    intro x j hx hj
    unfold upd at hx ⊢
    split
    · rfl
    · split at hx
      · rename_i h; subst h; exact hdone j hj
      · exact hcl x j hx hj
  -- what is read
  have hread : ∀ t ∈ reads ops e.o, (frO N L E 0 s.fr).get t = (frT N (E.take i) s.fr).get t := by
    intro t ht
    have h1 := frO_bef (N := N) E 0 i s.fr
    rw [Nat.zero_add] at h1
    rw [← h1, frO_get, frO_get]
    refine look_congr fun k ek hk hf => ?_
    rw [Nat.zero_add]
    have hdst : ek.o.dst = some t := by
      unfold fF at hf
      split at hf
      · rename_i h; exact h.1
      · exact absurd rfl hf
    have hok := at_ent F.ops_ hk
    rcases Nat.lt_trichotomy k i with h | h | h
    · rw [hdone k (tmpOk_ok htmp hok hi h (clash_l hdst ht))]
      simp [bef, h]
    · subst h
      rw [hLi]
      simp [bef]
    · rw [hnot k (tmpOk_ok htmp hi hok h (clash_r hdst ht))]
      have : ¬ k < i := by omega
      simp [bef, this]
  -- the frame behind it
  have hfr' : ∀ t, (frO N (upd L i) E 0 s.fr).get t = (putA N (frO N L E 0 s.fr) e.o.dst e.x).get t := by
    intro t
    rw [frO_get, putA_get]
    have hu := look_upd (f := fF N t) (L := L) (E := E) (k := i) (i := 0) (d := s.fr.get t) hE
    have hs := look_same (f := fF N t) (L := L) (E := E) (k := i) (i := 0) (d := s.fr.get t) hE
    rw [Nat.zero_add] at hu hs
    by_cases hd : e.o.dst = some t ∧ t < N ∧ t < 512
    · rw [if_pos hd, hu fun k' e' hk' hlt hL => ?_]
      · unfold fF
        rw [if_pos hd]
        rfl
      · rw [Nat.zero_add] at hL
        unfold fF
        rw [if_neg]
        intro h9
        rw [hnot k' (tmpOk_ok htmp hi (at_ent F.ops_ hk') hlt (clash_d hd.1 h9.1))] at hL
        cases hL
    · rw [if_neg hd, hs (by unfold fF; rw [if_neg hd]), frO_get]
  exact ⟨hdone, hnot, hcl', hread, hfr'⟩
/-- An operation that turns nothing that is known. -/
theorem reg_idle {ds : List Deferred} {X : Cx → Act → Prop} {C0 C C1 : Cx} {L : Nat → Bool} {i : Nat} {e : Ent} {a : Act} {v : Value} (hE : E[i]? = some e) (R : RegPre N s ops E L i e) (hCH : C.H = hpO L E 0 s.H) (hfr : RF C N (frO N L E 0 s.fr) a) (hdf : a.defers = ds) (hA : ∀ b, C.A b → C0.A b ∨ ∃ (j : Nat) (e : Ent), E[j]? = some e ∧ L j = true ∧ e.n0 ≤ b ∧ b < e.n1)
    (g0 : Goes C0 C1) (gl : C.le C1) (g2 : C1.H = C.H) (g3 : NewA C C1 0 0) (n2 : e.asg = []) (hv : RV C1 e.x v) (hX : ∀ C2, Goes C1 C2 → X C2 (a.put e.o.dst v)) : RegInv C0 N ds s ops E X (upd L i) (a.put e.o.dst v) C1.w := by
  have hless : ∀ b B, (hpO (upd L i) E 0 s.H).get b = some B → C1.H.get b = some B := by
    intro b B hb
    rw [g2, hCH, hpO_get]
    rw [hpO_get] at hb
    rw [← hb]
    have := look_same (f := fH b) (L := L) (E := E) (k := i) (i := 0) (d := s.H.get b) hE (by unfold fH; rw [n2, if_neg (by simp)])
    rw [Nat.zero_add] at this
    exact this.symm
  have hg := g0.ok.less hless
  refine ⟨R.cl, { C1 with H := hpO (upd L i) E 0 s.H }, rfl, rfl, g0.trans hg, ?_, (put_defers a _ _).trans hdf, fun b hb => ?_, hX _ hg⟩
  · exact (rf_put (RF.mono (gl.trans hg.le) hfr) _ (hv.mono hg.le)).congr R.fr
  · rcases g3 b hb with hb | hb
    · rcases hA b hb with h | ⟨j, ej, h1, h2, h3⟩
      · exact Or.inl h
      · refine Or.inr ⟨j, ej, h1, ?_, h3⟩
        unfold upd
        split
        · rfl
        · exact h2
    · omega

include hT hz hNum hcall hbody in
theorem reg_step {ds : List Deferred} (F : RegFacts P T call N loc ops s s' E) (hr : regOk ops = true) (hwatch : watchB s.H E = true) {X : Cx → Act → Prop} {C0 : Cx} (hG : GOk T S C0) (hF0 : FreeA C0 s.n s'.n) (hB0 : HB s.H s.n) {Q : Exit → Act → World → Prop} {i : Nat} {o : Oper} (hi : ops[i]? = some o) {L : Nat → Bool} {a : Act} {w : World} {K : Act → World → Prop} (hLi : L i = false) (hpre : ∀ e ∈ o.after, Region.binds .any e = true → L e.on = true)
    (hI : RegInv C0 N ds s ops E X L a w) (hX : ∀ C C' a v, X C a → Goes C C' → X C' (a.put o.dst v)) (hK : ∀ a' w', RegInv C0 N ds s ops E X (upd L i) a' w' → K a' w') : if Region.wanted o (yielded ops a.tmps) = true then Oper.wp P o a w K Q else K (a.put o.dst undef) w := by
  have hr0 := hr
  unfold regOk at hr
  simp only [Bool.and_eq_true] at hr
  obtain ⟨hback, htmp⟩ := hr
  obtain ⟨e, hE, heo⟩ := ent_at F.ops_ hi
  subst heo
  obtain ⟨hcl, C, rfl, hCH, hgo, hfr, hdf, hA, hx⟩ := hI
  have G := F.good i e hE
  have hC := hgo.ok
  obtain ⟨hdone, hnot, hcl', hread, hfr'⟩ := reg_pre F hr0 hi hE hLi hpre hcl
  have hwant : Region.wanted e.o (yielded ops a.tmps) = e.b := wantedA_ok hfr (by rw [reads_wanted hread]; exact G.want)
  -- an operation that turns nothing
  have hidle : ∀ {C1 : Cx} {v : Value}, Goes C C1 → C1.H = C.H → NewA C C1 0 0 → e.asg = [] → RV C1 e.x v → RegInv C0 N ds s ops E X (upd L i) (a.put e.o.dst v) C1.w := by
    intro C1 v g1 g2 g3 n2 hv
    exact reg_idle hE ⟨hdone, hnot, hcl', hread, hfr'⟩ hCH hfr hdf hA (hgo.trans g1) g1.le g2 g3 n2 hv fun C2 g => hX _ _ _ v hx (g1.trans g)
  cases hB : e.b with
  | false =>
    obtain ⟨n1, n2, n3⟩ := G.no hB
    rw [if_neg (by rw [hwant, hB]; exact Bool.false_ne_true)]
    exact hK _ _ (hidle (Goes.refl hC) rfl (newA_same rfl) n2 (by rw [n1]; exact rv_ex))
  | true =>
    rw [if_pos (by rw [hwant, hB])]
    cases hw : e.wt with
    | some q =>
      obtain ⟨b, off, ws⟩ := q
      obtain ⟨w1, _, t, x, ti, ho, wt3, wa, wb, wti, wl⟩ := G.wat _ _ _ hw
      obtain ⟨B, hB1, hB2⟩ := watch_ok hwatch hE hw L
      have hx : evO T (frT N (E.take i) s.fr) x = evO T (frO N L E 0 s.fr) x := (reads_op hread x (by rw [ho]; simp [Op.operands])).symm
      rw [hx] at wt3 wa wb
      have hload : xLoad T C.H t (evO T (frO N L E 0 s.fr) x) = some e.x := by
        unfold xLoad
        rw [wti, Option.bind_some]
        have : ptrCells C.H (evO T (frO N L E 0 s.fr) x) = some (B.cs.drop off) := by
          unfold ptrCells
          rw [if_neg (by omega), if_pos wt3, wa, hCH, hB1, wb]
        rw [this, Option.bind_some]
        exact loadCs_pre hB2 wl
      have hGC := hG.mono hgo.le
      refine opOk_same (n := 0) hC (s := Instr.loadAt t (a.eval x)) (by simp [execOp, ho]) (xLoad_ok hT hC (rv_op hGC hfr x) hload) K Q fun v C' k1 k2 k3 k4 => hK _ _ (hidle k2 k3 k4 w1 k1)
    | none =>
    obtain ⟨out, V, h1, h2, h3, h4, h5, h6⟩ := G.yes hB hw
    obtain ⟨t1, t2⟩ := opA_ok (N := N) hT hz hNum hcall hbody h1
    have h1' : opA P T call (loc + i) V e.n0 (frO N L E 0 s.fr) e.o = .ok out := by
      rw [opA_congr (reads_op hread)]
      exact h1
    -- what it sees is what is there
    have hVsmall : HB V e.n0 := F.small hB0 hE fun b B hV => (h6 b B hV).1
    have hlater : ∀ b B, V.get b = some B → ∀ (k : Nat) (ek : Ent), E[k]? = some ek → i < k → L k = true → b ∉ ek.asg := by
      intro b B hV k ek hk hlt hL hba
      have hunt : ((bits ops).getD k 0).testBit i = false := by
        cases hb : ((bits ops).getD k 0).testBit i with
        | false => rfl
        | true => rw [hnot k hb] at hL; cases hL
      have hbn := hVsmall b B hV
      have hch := F.chain hE hk hlt
      have hle := G.le
      have hts := (h6 b B hV).2.1
      cases hdl : dull e with
      | true =>
        unfold dull at hdl
        simp only [Bool.and_eq_true] at hdl
        cases hq : e.ts with
        | none => rw [hq] at hdl; simp at hdl
        | some l =>
          rw [hq] at hdl
          have := hts l hq
          have : l = [] := List.isEmpty_iff.1 hdl.2
          subst this
          exact absurd (hts [] hq) (by simp)
      | false =>
        obtain ⟨l, hl1, hl2⟩ := (F.good k ek hk).late i e (by rw [List.getElem?_take, if_pos hlt]; exact hE) hunt b hba (by omega) hdl
        exact hl2 (hts l hl1)
    have hsees : ∀ b B, V.get b = some B → C.H.get b = some B := by
      intro b B hV
      have hp := (h6 b B hV).1
      have q := hpO_bef E 0 i s.H
      rw [Nat.zero_add] at q
      rw [← q, hpO_get] at hp
      rw [hCH, hpO_get, ← hp]
      refine look_congr fun k ek hk hf => ?_
      rw [Nat.zero_add]
      have hba : b ∈ ek.asg := by
        unfold fH at hf
        split at hf
        · assumption
        · exact absurd rfl hf
      rcases Nat.lt_trichotomy k i with h | h | h
      · have : ((bits ops).getD i 0).testBit k = true := by
          cases hb : ((bits ops).getD i 0).testBit k with
          | true => rfl
          | false => exact absurd hba ((h6 b B hV).2.2 k ek (by rw [List.getElem?_take, if_pos h]; exact hk) hb)
        rw [hdone k this]
        simp [bef, h]
      · subst h
        rw [hLi]
        simp [bef]
      · have : ¬ k < i := by omega
        simp only [bef, this, decide_false]
        cases hL : L k with
        | false => rfl
        | true => exact absurd hba (hlater b B hV k ek hk h hL)
    have hv := hC.less hsees
    have hfree : FreeA ({ C with H := V } : Cx) e.n0 out.n := by
      intro b hb1 hb2 hb3
      have hb2 : b < e.n1 := by omega
      rcases hA b hb3 with h | ⟨j, ej, q1, q2, q3⟩
      · have := G.start
        have := F.top i e hE
        exact hF0 b (by omega) (by omega) h
      · rcases Nat.lt_trichotomy j i with h | h | h
        · have := F.chain q1 hE h; omega
        · subst h; rw [hLi] at q2; cases q2
        · have := F.chain hE q1 h; omega
    obtain ⟨_, t3⟩ := opA_ok (N := N) hT hz hNum hcall hbody h1'
    refine t3 { C with H := V } a rfl (fun b B hb => hVsmall b B hb) hfree hv.ok (hG.mono (hgo.trans hv).le) (RF.mono hv.le hfr) K Q ?_
    intro v C' k1 k2 k3 k4
    refine hK _ _ ⟨hcl', ?_⟩
    have hbes := Goes.beside hC hsees k2 (H := hpO (upd L i) E 0 s.H) (by
      intro b B hb
      rw [hpO_get] at hb
      by_cases hba : b ∈ e.asg
      · have hu := look_upd (f := fH b) (L := L) (E := E) (k := i) (i := 0) (d := s.H.get b) hE
        rw [Nat.zero_add] at hu
        rw [hu fun k ek hk hlt hL => ?_] at hb
        · unfold fH at hb
          rw [if_pos hba] at hb
          simp only [Option.getD_some] at hb
          rw [h3 b hba] at hb
          exact Or.inl (by rw [k3]; exact hb)
        · rw [Nat.zero_add] at hL
          unfold fH
          rw [if_neg]
          intro hbk
          have hch := F.chain hE hk hlt
          have hle := G.le
          have hunt : ((bits ops).getD k 0).testBit i = false := by
            cases hb : ((bits ops).getD k 0).testBit i with
            | false => rfl
            | true => rw [hnot k hb] at hL; cases hL
          rcases F.asg hE hba with q | q
          · -- an old block that it has written
            rcases (h5 b).1 hba with m | m
            · obtain ⟨B', hV⟩ := t1.had hVsmall b m.1 q
              exact hlater b B' hV k ek hk hlt hL hbk
            · omega
          · -- one of its own
            have Gk := F.good k ek hk
            cases hkb : ek.b with
            | false => rw [(Gk.no hkb).2.1] at hbk; cases hbk
            | true =>
              cases hwk : ek.wt with
              | some q =>
                obtain ⟨b', o', ws⟩ := q
                rw [(Gk.wat _ _ _ hwk).1] at hbk
                cases hbk
              | none =>
              obtain ⟨outk, Vk, g1, _, _, _, g5, g6⟩ := Gk.yes hkb hwk
              rcases (g5 b).1 hbk with m | m
              · obtain ⟨B', hV⟩ := (opA_ok (N := N) hT hz hNum hcall hbody g1).1.had (F.small hB0 hk fun b B hV => (g6 b B hV).1) b m.1 m.2
                exact (g6 b B' hV).2.2 i e (by rw [List.getElem?_take, if_pos hlt]; exact hE) hunt hba
              · omega
      · have hs := look_same (f := fH b) (L := L) (E := E) (k := i) (i := 0) (d := s.H.get b) hE (by unfold fH; rw [if_neg hba])
        rw [Nat.zero_add] at hs
        rw [hs, ← hpO_get, ← hCH] at hb
        cases hV : V.get b with
        | none => exact Or.inr ⟨hb, rfl⟩
        | some B' =>
          have := hsees b B' hV
          rw [hb] at this
          cases this
          refine Or.inl ?_
          rw [k3]
          have hlt := hVsmall b B hV
          rw [t1.keep hVsmall b hlt (by
            cases hw : out.wr.testBit b with
            | false => rfl
            | true => exact absurd ((h5 b).2 (Or.inl ⟨hw, hlt⟩)) hba)]
          exact hV)
    have le3 : C'.le { C' with H := hpO (upd L i) E 0 s.H } := ⟨fun _ h => h, fun _ _ => rfl, Nat.le_refl _, fun _ h => ⟨h, rfl⟩, fun _ cs _ _ h => ⟨cs, h, rfl⟩, rfl⟩
    refine ⟨{ C' with H := hpO (upd L i) E 0 s.H }, rfl, rfl, hgo.trans hbes, ?_, (put_defers a _ _).trans hdf, fun b hb => ?_, hX _ _ _ v hx hbes⟩
    · refine RF.congr ?_ hfr'
      rw [h2]
      exact rf_put (RF.mono hbes.le hfr) _ (k1.mono le3)
    · rcases k4 b hb with h | h
      · rcases hA b h with h | ⟨j, ej, q1, q2, q3⟩
        · exact Or.inl h
        · refine Or.inr ⟨j, ej, q1, ?_, q3⟩
          unfold upd
          split
          · rfl
          · exact q2
      · refine Or.inr ⟨i, e, hE, by simp [upd], by omega⟩

include hT hz hNum hcall hbody in
theorem draw_tid (h : drawGo P T call N loc ops ops.toList (planOf ops (bits ops)) 0 s [] = .ok (E, s', w)) : Tid s s' := by
  have hm := drawGo_mono (fun g args H n out hx => (hcall g args H n out hx).1) _ _ _ _ _ _ h
  exact ⟨hm.1, fun hB => (facts_of hT hz hNum hcall hbody h hB).1.bnd, hm.2, fun hB => ((facts_of hT hz hNum hcall hbody h hB).1.tid hT hz hNum hcall hbody hB).1, fun hB => ((facts_of hT hz hNum hcall hbody h hB).1.tid hT hz hNum hcall hbody hB).2⟩

include hT hz hNum hcall hbody in
/-- The theorem. -/
theorem draw_ok (hm : P.follows .mixedOrders = true) {id : Nat} (h : drawGo P T call N loc ops ops.toList (planOf ops (bits ops)) 0 s [] = .ok (E, s', w)) (hr : regOk ops = true) (hwatch : w = true → watchB s.H E = true) :
    Tid s s' ∧ ∀ {ds : List Deferred} (Q : Exit → Act → World → Prop) (C : Cx) (a : Act), StaOk ds C N s a → GOk T S C → FreeA C s.n s'.n → (∀ C' a', StaOk ds C' N s' a' → Goes C C' → NewA C C' s.n s'.n → Q .normal a' C'.w) → (Code.region id ops true).wp P Q a C.w := by
  have ht := draw_tid hT hz hNum hcall hbody h
  refine ⟨ht, fun {ds} Q C a hs hG hF hQ => ?_⟩
  obtain ⟨F, hwt⟩ := facts_of hT hz hNum hcall hbody h hs.bnd
  have hwatch : watchB s.H E = true := by
    cases hw : w with
    | true => exact hwatch hw
    | false =>
      refine List.all_eq_true.2 fun e he => ?_
      rw [hwt hw e he]
  have hb2 : backB2 ops = true := by unfold regOk at hr; simp only [Bool.and_eq_true] at hr; exact hr.1
  refine wp_region_inv2 hm hb2 (fun L a w => RegInv C N ds s ops E (fun _ _ => True) L a w) ?_ ?_ ?_
  · have hw := hs.ok.world (w := C.w.drew) rfl ⟨rfl, rfl, rfl⟩
    refine ⟨fun i j h => (by cases h), { C with w := C.w.drew }, rfl, ?_, hw, ?_, hs.df, fun b hb => Or.inl hb, trivial⟩
    · rw [hpO_none]; exact hs.H
    · rw [frO_none]; exact RF.mono hw.le hs.fr
  · refine AllOps.of _ _ fun i o hi => ?_
    rw [Nat.zero_add]
    intro L a w K hLi hpre hI hK
    exact reg_step hT hz hNum hcall hbody F hr hwatch hG hF hs.bnd (by rw [← Array.getElem?_toList]; exact hi) hLi hpre hI (fun _ _ _ _ _ _ => trivial) hK
  · rintro L a w hall ⟨_, C', rfl, hCH, hgo, hfr, hdf, hA, _⟩
    have hlen : E.length = ops.size := by
      have := congrArg List.length F.ops_
      simpa using this
    rw [frO_all E 0 s.fr fun k hk => by rw [Nat.zero_add]; exact hall k (by omega), ← F.fr] at hfr
    rw [hpO_all E 0 s.H fun k hk => by rw [Nat.zero_add]; exact hall k (by omega)] at hCH
    have hl := hgo.ok.less (H := s'.H) fun b B hb => by rw [hCH, ← F.H]; exact hb
    refine hQ { C' with H := s'.H } a ⟨rfl, hl.ok, RF.mono hl.le hfr, hdf, F.bnd⟩ (hgo.trans hl) fun b hb => ?_
    rcases hA b hb with h | ⟨j, e, h1, _, h2, h3⟩
    · exact Or.inl h
    · have := (F.good j e h1).start
      have := F.top j e h1
      exact Or.inr (by omega)
end
#print axioms draw_ok
end Go.Proofs.YthklnpkjlepagaaGreatDoor.Ab
