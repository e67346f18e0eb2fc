/- A truth that is drawn: a region that stores the one truth and the other one, in an order of its own, and loads what is there; two ways that come to the same. -/
import Derived.Test.YthklnpkjlepagaaGreatDoorQn
namespace Go.Proofs.YthklnpkjlepagaaGreatDoor.Ab
open Go.RowKit
variable {S : Nat → Value}

/-- Does an operation wait for the first one? -/
def waits0 (o : Oper) : Bool := o.after.toList.any fun e => Nat.beq e.on 0 && Region.binds .any e
theorem waits0_ok {o : Oper} (h : waits0 o = true) {L : Nat → Bool} (hL : ∀ e ∈ o.after, Region.binds .any e = true → L e.on = true) : L 0 = true := by
  obtain ⟨e, he, h2⟩ := List.any_eq_true.1 h
  simp only [Bool.and_eq_true] at h2
  have := hL e (by simpa using he) h2.2
  rwa [Nat.eq_of_beq_eq_true h2.1] at this
/-- A region of this kind: its type, where its variable stands, where what is drawn goes. -/
def coinOf (ops : Array Oper) : Option (Nat × Nat × Nat) := match ops.toList with
  | [o0, o1, o2, o3] => (match o0.op, o1.op, o2.op, o3.op, o0.dst, o3.dst with
    | .alloc t, .store t1 (.tmp x1) (.const (.bool _)), .store t2 (.tmp x2) (.const (.bool _)), .load t3 (.tmp x3), some d, some r =>
      if (Nat.beq t t1 && Nat.beq t t2 && Nat.beq t t3 && Nat.beq x1 d && Nat.beq x2 d && Nat.beq x3 d && !Nat.beq r d && o0.guard.isNone && o1.guard.isNone && o2.guard.isNone && o3.guard.isNone && o1.dst.isNone && o2.dst.isNone && waits0 o1 && waits0 o2 && waits0 o3 && backB2 ops) = true then some (t, d, r) else none
    | _, _, _, _, _, _ => none)
  | _ => none
/-- What it comes to. -/
def coinRun (T : Tabs) (N : Nat) (c : Nat × Nat × Nat) (s : Sta) : Option Sta := (T.tiAt c.1).bind fun ti => match ti.zero with
  | [1] => if ti.size = 1 ∧ ti.kind = 0 ∧ c.2.1 < N ∧ c.2.1 < 512 then some ⟨putA N (putA N s.fr (some c.2.1) (AV.ptr s.n 0)) (some c.2.2) AV.ub, s.H.set s.n (some ⟨c.1, [AV.ub]⟩), s.n + 1, s.wr⟩ else none
  | _ => none

theorem coin_tid {T : Tabs} {N : Nat} {c : Nat × Nat × Nat} {s s' : Sta} (h : coinRun T N c s = some s') : Tid s s' := by
  unfold coinRun at h
  obtain ⟨ti, _, h⟩ := Option.bind_eq_some_iff.1 h
  split at h
  · split at h
    · cases h
      exact ⟨Nat.le_succ _, hb_set, fun _ h => h, fun _ b hb _ => Hp.get_other _ _ (by omega), fun _ b hb => Or.inl hb⟩
    · cases h
  · cases h

theorem ubStore {T : Tabs} {H : Hp} {t n m : Nat} {ti : TI} (hti : T.tiAt t = some ti) (hs : ti.size = 1) (hH : H.get n = some ⟨t, [AV.ub]⟩) : xStore T H m t (AV.ptr n 0) AV.ub = some ⟨AV.ex undef, H.set n (some ⟨t, [AV.ub]⟩), m, bit1 n⟩ := by
  unfold xStore
  rw [hti]
  have hc : [AV.ub].length = ti.size ∧ [AV.ub].all AV.one = true ∧ 0 + [AV.ub].length ≤ [AV.ub].length := ⟨by rw [hs]; rfl, rfl, by decide⟩
  simp only [Option.bind_some, show AV.ub.cells = some [AV.ub] from rfl, AV.ptr, if_true, hH]
  refine (if_pos ?_).trans ?_
  · exact hc
  · rfl
theorem coin_ok {P : Program} {T : Tabs} (hT : TabOk P T) (hm : P.follows .mixedOrders = true) {N id : Nat} {ops : Array Oper} {c : Nat × Nat × Nat} (hc : coinOf ops = some c) {s s' : Sta} (h : coinRun T N c s = some s') :
    ∀ {ds : List Deferred} (Q : Exit → Act → World → Prop) (C : Cx) (a : Act), StaOk ds C N s a → FreeA C s.n s'.n → (∀ C' a', StaOk ds C' N s' a' → Goes C C' → NewA C C' s.n s'.n → Q .normal a' C'.w) → (Code.region id ops true).wp P Q a C.w := by
  unfold coinOf at hc
  split at hc
  case h_2 => cases hc
  rename_i o0 o1 o2 o3 hops
  split at hc
  case h_2 => cases hc
  rename_i t t1 x1 b1 t2 x2 b2 t3 x3 d r hp0 hp1 hp2 hp3 hd0 hd3
  split at hc
  case isFalse => cases hc
  rename_i hcond
  simp only [Bool.and_eq_true, Bool.not_eq_true', Option.isNone_iff_eq_none] at hcond
  obtain ⟨⟨⟨⟨⟨⟨⟨⟨⟨⟨⟨⟨⟨⟨⟨⟨q1, q2⟩, q3⟩, q4⟩, q5⟩, q6⟩, q7⟩, g0⟩, g1⟩, g2⟩, g3⟩, e1⟩, e2⟩, w1⟩, w2⟩, w3⟩, hback⟩ := hcond
  obtain rfl := Nat.eq_of_beq_eq_true q1
  obtain rfl := Nat.eq_of_beq_eq_true q2
  obtain rfl := Nat.eq_of_beq_eq_true q3
  obtain rfl := Nat.eq_of_beq_eq_true q4
  obtain rfl := Nat.eq_of_beq_eq_true q5
  obtain rfl := Nat.eq_of_beq_eq_true q6
  have hrd : r ≠ x3 := fun e => by rw [e, Nat.beq_refl] at q7; cases q7
  cases hc
  unfold coinRun at h
  obtain ⟨ti, hti, h⟩ := Option.bind_eq_some_iff.1 h
  split at h
  case h_2 => cases h
  rename_i hz
  split at h
  case isFalse => cases h
  rename_i hsz
  cases h
  simp only at hti hsz ⊢
  obtain ⟨hs1, hk0, hdN, hd5⟩ := hsz
  obtain ⟨tk⟩ := hT _ _ hti
  intro ds Q C a hs hF hQ
  have hzero : tk.z.cells.toList = [.bool false] := by rw [tk.zero, hz]; rfl
  have hn : ¬ C.A s.n := hF s.n (Nat.le_refl _) (Nat.lt_succ_self _)
  let fr1 := putA N s.fr (some x3) (AV.ptr s.n 0)
  let fr2 := putA N fr1 (some r) AV.ub
  let H1 := s.H.set s.n (some ⟨t, [AV.ub]⟩)
  have f1 : fr1.get x3 = AV.ptr s.n 0 := by
    show (putA N s.fr (some x3) (AV.ptr s.n 0)).get x3 = _
    rw [putA_get, if_pos ⟨rfl, hdN, hd5⟩]
  have f2 : fr2.get x3 = AV.ptr s.n 0 := by
    show (putA N fr1 (some r) AV.ub).get x3 = _
    rw [putA_get, if_neg (fun g => hrd (Option.some.inj g.1))]
    exact f1
  refine wp_region_inv2 hm hback (fun L a w => (∀ j, j < 4 → L j = true → L 0 = true) ∧ ∃ C', w = C'.w ∧ Goes C C' ∧ a.defers = ds ∧ (L 0 = false → C'.H = s.H ∧ C'.A = C.A ∧ RF C' N s.fr a) ∧
    (L 0 = true → (∀ b, C'.H.get b = H1.get b) ∧ NewA C C' s.n (s.n + 1) ∧ RF C' N (if L 3 = true then fr2 else fr1) a)) ?_ ?_ ?_
  · have hw := hs.ok.world (w := C.w.drew) rfl ⟨rfl, rfl, rfl⟩
    exact ⟨fun j _ h => h, { C with w := C.w.drew }, rfl, hw, hs.df, fun _ => ⟨hs.H, rfl, RF.mono hw.le hs.fr⟩, fun h => (by cases h)⟩
  · rw [hops]
    have wn : ∀ {o : Oper} {a : Act}, o.guard = none → Region.wanted o (yielded ops a.tmps) = true := fun h => by unfold Region.wanted; rw [h]
    have store : ∀ {o : Oper} {b : Bool}, o.op = .store t (.tmp x3) (.const (.bool b)) → o.dst = none → ∀ (L : Nat → Bool) (a : Act) (C' : Cx) (i : Nat) (K : Act → World → Prop), i ≠ 0 → i ≠ 3 → i < 4 → L 0 = true → (∀ j, j < 4 → L j = true → L 0 = true) → Goes C C' → a.defers = ds → (∀ b, C'.H.get b = H1.get b) → NewA C C' s.n (s.n + 1) → RF C' N (if L 3 = true then fr2 else fr1) a →
        (∀ a' w', ((∀ j, j < 4 → upd L i j = true → upd L i 0 = true) ∧ ∃ C', w' = C'.w ∧ Goes C C' ∧ a'.defers = ds ∧ (upd L i 0 = false → C'.H = s.H ∧ C'.A = C.A ∧ RF C' N s.fr a') ∧ (upd L i 0 = true → (∀ b, C'.H.get b = H1.get b) ∧ NewA C C' s.n (s.n + 1) ∧ RF C' N (if upd L i 3 = true then fr2 else fr1) a')) → K a' w') → Oper.wp P o a C'.w K Q := by
      intro o b ho hdst L a C' i K hi0 hi3 hi4 hL0 hmon hgo hdf hH hA hfr hK
      have hget : (if L 3 = true then fr2 else fr1).get x3 = AV.ptr s.n 0 := by split <;> assumption
      have hx : RV C' (AV.ptr s.n 0) (a.eval (.tmp x3)) := by rw [← hget]; exact hfr.at_ x3
      have ho1 : xStore T C'.H s.n t (AV.ptr s.n 0) AV.ub = some ⟨AV.ex undef, C'.H.set s.n (some ⟨t, [AV.ub]⟩), s.n, bit1 s.n⟩ := ubStore hti hs1 (by rw [hH]; exact Hp.get_same _ _ _)
      have ho3 : ∀ b, (C'.H.set s.n (some ⟨t, [AV.ub]⟩)).get b = H1.get b := fun b => by
        rw [Hp.get_set, hH]
        show _ = (s.H.set s.n (some ⟨t, [AV.ub]⟩)).get b
        rw [Hp.get_set]
        split <;> rfl
      obtain ⟨C2, r1, r2, r3, r4⟩ := xStore_ok hT hgo.ok hx (rv_ub (b := b)) ho1
      have key := opOk_put (P := P) (C := C') (n := s.n) (a := a) (o := o) (out := ⟨AV.ex undef, C'.H.set s.n (some ⟨t, [AV.ub]⟩), s.n, bit1 s.n⟩) (s := Instr.storeAt t (a.eval (.tmp x3)) (.bool b)) (by simp [execOp, ho]; rfl) ⟨C2, r1, r2, r3, r4⟩ rfl
      refine key K Q fun v C3 k1 k2 k3 k4 => hK _ _ ⟨fun j hj h => by
        unfold upd at h ⊢
        rw [if_neg (Ne.symm hi0)]
        split at h
        · exact hL0
        · exact hmon j hj h, C3, rfl, hgo.trans k2, by rw [put_defers]; exact hdf, fun h => (by unfold upd at h; rw [if_neg (Ne.symm hi0), hL0] at h; cases h), fun _ => ⟨fun b => by rw [k3]; exact ho3 b, fun b hb => ?_, ?_⟩⟩
      · rcases k4 b hb with h | h
        · exact hA b h
        · have h : s.n ≤ b ∧ b < s.n := h
          omega
      · have : upd L i 3 = L 3 := by unfold upd; rw [if_neg (Ne.symm hi3)]
        rw [this, hdst]
        exact RF.mono k2.le hfr
    refine ⟨?_, ?_, ?_, ?_, trivial⟩
    · rintro L a w K hLi - ⟨hmon, C', rfl, hgo, hdf, hno, _⟩ hK
      rw [if_pos (wn g0)]
      obtain ⟨hH, hA, hfr⟩ := hno hLi
      have hl : RL C' [AV.ub] tk.z.cells.toList := by rw [hzero]; exact ⟨rv_ub, trivial⟩
      obtain ⟨C2, h2, h3, h4, h5, h6⟩ := xNew_ok hgo.ok (n := s.n) (t := t) (by rw [hA]; exact hn) hl
      have key := opOk_val (P := P) (C := C') (n := s.n) (a := a) (o := o0) (out := xNew C'.H s.n t [AV.ub]) (s := Instr.alloc t true (.tuple #[])) (by simp [execOp, hp0]) ⟨_, C2, by rw [h2]; simp [Instr.alloc, zeroValue, typeInfo, tk.hi, tk.hz, newVar, newRow], h3, h4, h5, h6⟩
      refine key K Q fun v C3 k1 k2 k3 k4 => hK _ _ ⟨fun j _ _ => by unfold upd; rw [if_pos rfl], C3, rfl, hgo.trans k2, by rw [put_defers]; exact hdf, fun h => (by unfold upd at h; rw [if_pos rfl] at h; cases h), fun _ => ⟨fun b => by rw [k3]; show (C'.H.set s.n _).get b = _; rw [hH], fun b hb => ?_, ?_⟩⟩
      · rcases k4 b hb with h | h
        · rw [hA] at h; exact Or.inl h
        · exact Or.inr h
      · have h3 : upd L 0 3 = false := by
          unfold upd
          rw [if_neg (by decide)]
          cases h9 : L 3 with
          | false => rfl
          | true => rw [hmon 3 (by decide) h9] at hLi; cases hLi
        rw [h3, hd0]
        exact rf_put (RF.mono k2.le hfr) _ k1
    · rintro L a w K hLi hpre ⟨hmon, C', rfl, hgo, hdf, _, hyes⟩ hK
      rw [if_pos (wn g1)]
      have hL0 := waits0_ok w1 hpre
      obtain ⟨hH, hA, hfr⟩ := hyes hL0
      exact store hp1 e1 L a C' 1 K (by decide) (by decide) (by decide) hL0 hmon hgo hdf hH hA hfr hK
    · rintro L a w K hLi hpre ⟨hmon, C', rfl, hgo, hdf, _, hyes⟩ hK
      rw [if_pos (wn g2)]
      have hL0 := waits0_ok w2 hpre
      obtain ⟨hH, hA, hfr⟩ := hyes hL0
      exact store hp2 e2 L a C' 2 K (by decide) (by decide) (by decide) hL0 hmon hgo hdf hH hA hfr hK
    · rintro L a w K hLi hpre ⟨hmon, C', rfl, hgo, hdf, _, hyes⟩ hK
      rw [if_pos (wn g3)]
      have hL0 := waits0_ok w3 hpre
      obtain ⟨hH, hA, hfr⟩ := hyes hL0
      have h3 : L 3 = false := hLi
      rw [h3] at hfr
      have hx : RV C' (AV.ptr s.n 0) (a.eval (.tmp x3)) := by rw [← f1]; exact hfr.at_ x3
      have hld : xLoad T C'.H t (AV.ptr s.n 0) = some AV.ub := by
        unfold xLoad ptrCells
        rw [hti]
        simp [AV.ptr, hH, H1, Hp.get_same, hk0]
      have key := opOk_same (P := P) (n := s.n) (a := a) (o := o3) hgo.ok (s := Instr.loadAt t (a.eval (.tmp x3))) (by simp [execOp, hp3]) (xLoad_ok hT hgo.ok hx hld)
      refine key K Q fun v C3 k1 k2 k3 k4 => hK _ _ ⟨fun j hj h => by
        unfold upd at h ⊢
        rw [if_neg (by decide)]
        split at h
        · exact hL0
        · exact hmon j hj h, C3, rfl, hgo.trans k2, by rw [put_defers]; exact hdf, fun h => (by unfold upd at h; rw [if_neg (by decide), hL0] at h; cases h), fun _ => ⟨fun b => by rw [k3]; exact hH b, fun b hb => ?_, ?_⟩⟩
      · rcases k4 b hb with h | h
        · exact hA b h
        · have h : s.n ≤ b ∧ b < s.n := h
          omega
      · have : upd L 3 3 = true := by unfold upd; rw [if_pos rfl]
        rw [this, hd3]
        exact rf_put (RF.mono k2.le hfr) _ k1
  · rintro L a w hall ⟨_, C', rfl, hgo, hdf, _, hyes⟩
    have hsz : ops.size = 4 := by
      have := congrArg List.length hops
      simpa using this
    obtain ⟨hH, hA, hfr⟩ := hyes (hall 0 (by omega))
    rw [hall 3 (by omega)] at hfr
    have hl := hgo.ok.less (H := H1) fun b B hb => by rw [hH]; exact hb
    exact hQ { C' with H := H1 } a ⟨rfl, hl.ok, RF.mono hl.le hfr, hdf, hb_set hs.bnd⟩ (hgo.trans hl) fun b hb => hA b hb
#print axioms coin_ok
end Go.Proofs.YthklnpkjlepagaaGreatDoor.Ab
