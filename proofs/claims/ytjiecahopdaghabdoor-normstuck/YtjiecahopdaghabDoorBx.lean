/- A region that draws its order: values, new boxes, and stores of values into these boxes. -/
import Derived.Test.YtjiecahopdaghabDoorRv
import Derived.Test.YtjiecahopdaghabDoorKa
namespace Go.Proofs.YtjiecahopdaghabDoor
open Go.RowKit

abbrev ptr (q : Nat) : Value := .pointer (some ⟨q, 0, none⟩)
theorem ptr_inj {q q' : Nat} (h : ptr q = ptr q') : q = q' := by simpa [ptr] using h

/-- An operation that is no box's and no store's. -/
def Plainly (bx : List (Nat × Nat × Nat)) (i : Nat) : Prop := ∀ x ∈ bx, x.1 ≠ i ∧ x.2.2 ≠ i
/-- The boxes so far. -/
def Boxed (bx : List (Nat × Nat × Nat)) (L : Nat → Bool) (vs : Nat → Value) (q : Nat) : Prop := ∃ x ∈ bx, L x.1 = true ∧ vs x.1 = ptr q
def okB (bx : List (Nat × Nat × Nat)) : Bool := bx.all fun x => bx.all fun y => (decide (x.1 = y.1 → x = y)) && (decide (x.2.2 = y.2.2 → x = y)) && decide (x.1 ≠ y.2.2) && decide (x.2.1 ≠ y.1) && decide (x.2.1 ≠ y.2.2)
theorem okB_of {bx : List (Nat × Nat × Nat)} (h : okB bx = true) {x y : Nat × Nat × Nat} (hx : x ∈ bx) (hy : y ∈ bx) : (x.1 = y.1 → x = y) ∧ (x.2.2 = y.2.2 → x = y) ∧ x.1 ≠ y.2.2 ∧ x.2.1 ≠ y.1 ∧ x.2.1 ≠ y.2.2 := by
  have := List.all_eq_true.1 (List.all_eq_true.1 h x hx) y hy
  simp only [Bool.and_eq_true, decide_eq_true_eq] at this
  obtain ⟨⟨⟨⟨h1, h2⟩, h3⟩, h4⟩, h5⟩ := this
  exact ⟨h1, h2, h3, h4, h5⟩

theorem AllOps.imp {p q : Nat → Oper → Prop} (h : ∀ i o, p i o → q i o) : ∀ (l : List Oper) (n : Nat), AllOps p n l → AllOps q n l
  | [], _, _ => trivial
  | o :: r, n, hl => ⟨h n o hl.1, AllOps.imp h r (n + 1) hl.2⟩

structure BxI (bx : List (Nat × Nat × Nat)) (Z : Array Value) (T : TypeId) (F : Nat → Value → World → (Nat → Prop) → Prop) (w0 : World) (L : Nat → Bool) (vs : Nat → Value) (w : World) : Prop where
  bl : Below w0.heap.size w0 w
  vals : ∀ k, L k = true → Plainly bx k → F k (vs k) w (Boxed bx L vs)
  box : ∀ x ∈ bx, L x.1 = true → ∃ q cs, vs x.1 = ptr q ∧ w0.heap.size ≤ q ∧ q < w.heap.size ∧ w.heap[q]? = some (.cells cs T (0, 0)) ∧ (L x.2.2 = true → vs x.2.1 = .agg cs) ∧ (L x.2.2 = false → cs = Z)
  dist : ∀ x ∈ bx, ∀ y ∈ bx, L x.1 = true → L y.1 = true → vs x.1 = vs y.1 → x = y
  shut : ∀ x ∈ bx, L x.2.2 = true → L x.1 = true ∧ L x.2.1 = true

theorem wp_region_boxes {P : Program} {id : Nat} {ops : Array Oper} {Q : Exit → Act → World → Prop} {w0 : World} (hm : P.follows .mixedOrders = true) (hback : backB ops = true) (mk : (Nat → Value) → Act) (vs0 : Nat → Value)
    (bx : List (Nat × Nat × Nat)) (hok : okB bx = true) (Z : Array Value) (T : TypeId) (F : Nat → Value → World → (Nat → Prop) → Prop)
    (stable : ∀ k v w w' M M', F k v w M → Fr M w w' → (∀ q, q < w.heap.size → (M' q ↔ M q)) → F k v w' M')
    (step : AllOps (fun i o =>
      (Plainly bx i → ∀ (vs : Nat → Value) (w : World) (M : Nat → Prop) (K : Act → World → Prop), Below w0.heap.size w0 w → (∀ e ∈ o.after, Region.binds .any e = true → Plainly bx e.on → F e.on (vs e.on) w M) → (∀ q, M q → w0.heap.size ≤ q ∧ q < w.heap.size) →
        (∀ v w', Below w.heap.size w w' → F i v w' M → K (mk (put vs i v)) w') → (if Region.wanted o (yielded ops (mk vs).tmps) = true then Oper.wp P o (mk vs) w K Q else K ((mk vs).put o.dst undef) w)) ∧
      (∀ x ∈ bx, x.1 = i → ∀ (vs : Nat → Value) (w : World) (K : Act → World → Prop), K (mk (put vs i (ptr w.heap.size))) (w.alloc (.cells Z T)) → (if Region.wanted o (yielded ops (mk vs).tmps) = true then Oper.wp P o (mk vs) w K Q else K ((mk vs).put o.dst undef) w)) ∧
      (∀ x ∈ bx, x.2.2 = i → (∃ e ∈ o.after, Region.binds .any e = true ∧ e.on = x.1) ∧ (∃ e ∈ o.after, Region.binds .any e = true ∧ e.on = x.2.1) ∧
        ∀ (vs : Nat → Value) (w : World) (M : Nat → Prop) (K : Act → World → Prop) (q : Nat), F x.2.1 (vs x.2.1) w M → vs x.1 = ptr q → w.heap[q]? = some (.cells Z T (0, 0)) →
          (∀ w' cs, Fr (fun k => k = q) w w' → w'.heap[q]? = some (.cells cs T (0, 0)) → vs x.2.1 = .agg cs → K (mk vs) w') → (if Region.wanted o (yielded ops (mk vs).tmps) = true then Oper.wp P o (mk vs) w K Q else K ((mk vs).put o.dst undef) w))) 0 ops.toList)
    (fin : ∀ vs w M, Below w0.heap.size w0 w → (∀ k, k < ops.size → Plainly bx k → F k (vs k) w M) → (∀ x ∈ bx, x.1 < ops.size → x.2.2 < ops.size → ∃ q cs, vs x.1 = ptr q ∧ w0.heap.size ≤ q ∧ q < w.heap.size ∧ w.heap[q]? = some (.cells cs T (0, 0)) ∧ vs x.2.1 = .agg cs) → Q .normal (mk vs) w) :
    (Code.region id ops true).wp P Q (mk vs0) w0 := by
  refine wp_region_inv hm hback (fun L a w => ∃ vs, a = mk vs ∧ BxI bx Z T F w0 L vs w) ⟨vs0, rfl, (Below.refl _ _).drew, (fun k h => by cases h), (fun x _ h => by cases h), (fun x _ y _ h => by cases h), (fun x _ h => by cases h)⟩ ?_ ?_
  · refine AllOps.imp ?_ ops.toList 0 step
    · intro n o st L a w K hl hd hI hK
      obtain ⟨vs, rfl, hi⟩ := hI
      obtain ⟨sv, sb, ss⟩ := st
      by_cases hpl : Plainly bx n
      · refine sv hpl vs w (Boxed bx L vs) K hi.bl (fun e he h hp => hi.vals e.on (hd e he h) hp) ?_ ?_
        · rintro q ⟨x, hx, hLx, hq⟩
          obtain ⟨q', cs, e1, e2, e3, _⟩ := hi.box x hx hLx
          have := ptr_inj (hq.symm.trans e1)
          subst this
          exact ⟨e2, e3⟩
        · intro v w' hb' hv
          have hbv : ∀ x ∈ bx, put vs n v x.1 = vs x.1 ∧ upd L n x.1 = L x.1 ∧ upd L n x.2.2 = L x.2.2 := fun x hx => by
            have := hpl x hx
            unfold put upd
            rw [if_neg this.1, if_neg this.1, if_neg this.2]
            exact ⟨rfl, rfl, rfl⟩
          have hM : ∀ q, Boxed bx (upd L n) (put vs n v) q ↔ Boxed bx L vs q := fun q => by
            constructor
            · rintro ⟨x, hx, h1, h2⟩
              obtain ⟨g1, g2, _⟩ := hbv x hx
              exact ⟨x, hx, by rw [← g2]; exact h1, by rw [← g1]; exact h2⟩
            · rintro ⟨x, hx, h1, h2⟩
              obtain ⟨g1, g2, _⟩ := hbv x hx
              exact ⟨x, hx, by rw [g2]; exact h1, by rw [g1]; exact h2⟩
          refine hK _ _ ⟨_, rfl, hi.bl.trans (hb'.mono hi.bl.size), fun k hk hp => ?_, fun x hx h1 => ?_, fun x hx y hy h1 h2 h3 => ?_, fun x hx h1 => ?_⟩
          · by_cases hkn : k = n
            · subst hkn
              have : put vs k v k = v := by unfold put; rw [if_pos rfl]
              rw [this]
              exact stable k v w' w' _ _ hv (Fr.refl _ _) (fun q _ => hM q)
            · have e1 : put vs n v k = vs k := by unfold put; rw [if_neg hkn]
              rw [e1]
              exact stable k _ w w' _ _ (hi.vals k (by simpa [upd, hkn] using hk) hp) (Fr.of_below hb') (fun q _ => hM q)
          · obtain ⟨g1, g2, g3⟩ := hbv x hx
            rw [g2] at h1
            obtain ⟨q, cs, e1, e2, e3, e4, e5, e6⟩ := hi.box x hx h1
            refine ⟨q, cs, by rw [g1]; exact e1, e2, Nat.lt_of_lt_of_le e3 hb'.size, (hb'.block q e3).trans e4, fun h => ?_, fun h => e6 (by rw [← g3]; exact h)⟩
            rw [g3] at h
            have hc := (hi.shut x hx h).2
            have : put vs n v x.2.1 = vs x.2.1 := by unfold put; rw [if_neg (fun e => by rw [e, hl] at hc; cases hc)]
            rw [this]
            exact e5 h
          · obtain ⟨g1, g2, _⟩ := hbv x hx
            obtain ⟨k1, k2, _⟩ := hbv y hy
            rw [g2] at h1; rw [k2] at h2; rw [g1, k1] at h3
            exact hi.dist x hx y hy h1 h2 h3
          · obtain ⟨g1, g2, g3⟩ := hbv x hx
            rw [g3] at h1
            obtain ⟨k1, k2⟩ := hi.shut x hx h1
            exact ⟨by rw [g2]; exact k1, by unfold upd; split <;> first | rfl | exact k2⟩
      · have hex : ∃ x ∈ bx, x.1 = n ∨ x.2.2 = n := by
          by_cases h : ∃ x ∈ bx, x.1 = n ∨ x.2.2 = n
          · exact h
          · exact absurd (fun x hx => ⟨fun e => h ⟨x, hx, Or.inl e⟩, fun e => h ⟨x, hx, Or.inr e⟩⟩) hpl
        obtain ⟨x, hx, hx1 | hx1⟩ := hex
        · refine sb x hx hx1 vs w K (hK _ _ ⟨_, rfl, ?_⟩)
          have hpv : ∀ k, k ≠ n → put vs n (ptr w.heap.size) k = vs k ∧ upd L n k = L k := fun k hk => by unfold put upd; rw [if_neg hk, if_neg hk]; exact ⟨rfl, rfl⟩
          have hpn : put vs n (ptr w.heap.size) n = ptr w.heap.size ∧ upd L n n = true := by unfold put upd; rw [if_pos rfl, if_pos rfl]; exact ⟨rfl, rfl⟩
          have hM : ∀ q, q < w.heap.size → (Boxed bx (upd L n) (put vs n (ptr w.heap.size)) q ↔ Boxed bx L vs q) := fun q hq => by
            constructor
            · rintro ⟨y, hy, h1, h2⟩
              by_cases hyn : y.1 = n
              · rw [hyn, hpn.1] at h2
                have := ptr_inj h2
                omega
              · obtain ⟨g1, g2⟩ := hpv _ hyn
                exact ⟨y, hy, by rw [← g2]; exact h1, by rw [← g1]; exact h2⟩
            · rintro ⟨y, hy, h1, h2⟩
              have hyn : y.1 ≠ n := fun e => by rw [e, hl] at h1; cases h1
              obtain ⟨g1, g2⟩ := hpv _ hyn
              exact ⟨y, hy, by rw [g2]; exact h1, by rw [g1]; exact h2⟩
          have hb' := later_alloc w (.cells Z T)
          refine ⟨hi.bl.trans (hb'.mono hi.bl.size), fun k hk hp => ?_, fun y hy h1 => ?_, fun y hy z hz h1 h2 h3 => ?_, fun y hy h1 => ?_⟩
          · have hkn : k ≠ n := fun e => (hp x hx).1 (by rw [hx1, e])
            obtain ⟨g1, g2⟩ := hpv _ hkn
            rw [g1]
            exact stable k _ w _ _ _ (hi.vals k (by rw [← g2]; exact hk) hp) (Fr.of_below hb') hM
          · have hs : y.2.2 ≠ n := fun e => (okB_of hok hx hy).2.2.1 (by rw [hx1, e])
            by_cases hyn : y.1 = n
            · obtain rfl : x = y := (okB_of hok hx hy).1 (by rw [hx1, hyn])
              have hls : L x.2.2 = false := by
                cases hh : L x.2.2 with
                | false => rfl
                | true => have := (hi.shut x hx hh).1; rw [hyn, hl] at this; cases this
              refine ⟨w.heap.size, Z, by rw [hyn]; exact hpn.1, hi.bl.size, by simp, heap_alloc_new w _, fun h => ?_, fun _ => rfl⟩
              rw [(hpv _ hs).2, hls] at h; cases h
            · obtain ⟨g1, g2⟩ := hpv _ hyn
              rw [g2] at h1
              obtain ⟨q, cs, e1, e2, e3, e4, e5, e6⟩ := hi.box y hy h1
              have hc : y.2.1 ≠ n := fun e => (okB_of hok hy hx).2.2.2.1 (by rw [hx1, e])
              refine ⟨q, cs, by rw [g1]; exact e1, e2, by simp; omega, (hb'.block q e3).trans e4, fun h => ?_, fun h => e6 (by rw [← (hpv _ hs).2]; exact h)⟩
              rw [(hpv _ hs).2] at h
              rw [(hpv _ hc).1]
              exact e5 h
          · by_cases hyn : y.1 = n
            · by_cases hzn : z.1 = n
              · exact (okB_of hok hy hz).1 (by rw [hyn, hzn])
              · obtain ⟨g1, g2⟩ := hpv _ hzn
                rw [g2] at h2
                obtain ⟨q, cs, e1, e2, e3, _⟩ := hi.box z hz h2
                rw [hyn, hpn.1, g1, e1] at h3
                have := ptr_inj h3
                omega
            · obtain ⟨g1, g2⟩ := hpv _ hyn
              rw [g2] at h1
              by_cases hzn : z.1 = n
              · obtain ⟨q, cs, e1, e2, e3, _⟩ := hi.box y hy h1
                rw [hzn, hpn.1, g1, e1] at h3
                have := ptr_inj h3
                omega
              · obtain ⟨k1, k2⟩ := hpv _ hzn
                rw [k2] at h2
                rw [g1, k1] at h3
                exact hi.dist y hy z hz h1 h2 h3
          · have hs : y.2.2 ≠ n := fun e => (okB_of hok hx hy).2.2.1 (by rw [hx1, e])
            have hc : y.2.1 ≠ n := fun e => (okB_of hok hy hx).2.2.2.1 (by rw [hx1, e])
            rw [(hpv _ hs).2] at h1
            obtain ⟨k1, k2⟩ := hi.shut y hy h1
            exact ⟨(by unfold upd; split <;> first | rfl | exact k1), by rw [(hpv _ hc).2]; exact k2⟩
        · obtain ⟨⟨e1, he1, hb1, ho1⟩, ⟨e2, he2, hb2, ho2⟩, hst⟩ := ss x hx hx1
          have hL1 : L x.1 = true := by rw [← ho1]; exact hd e1 he1 hb1
          have hL2 : L x.2.1 = true := by rw [← ho2]; exact hd e2 he2 hb2
          have hLs : L x.2.2 = false := by rw [hx1]; exact hl
          obtain ⟨q, cs, g1, g2, g3, g4, g5, g6⟩ := hi.box x hx hL1
          have hcp : Plainly bx x.2.1 := fun y hy => ⟨fun e => (okB_of hok hx hy).2.2.2.1 e.symm, fun e => (okB_of hok hx hy).2.2.2.2 e.symm⟩
          rw [g6 hLs] at g4
          refine hst vs w (Boxed bx L vs) K q (hi.vals _ hL2 hcp) g1 g4 ?_
          intro w' cs' hf hq' hag
          have hup : ∀ k, k ≠ n → upd L n k = L k := fun k hk => by unfold upd; rw [if_neg hk]
          have hbn : ∀ y ∈ bx, y.1 ≠ n := fun y hy e => (okB_of hok hy hx).2.2.1 (by rw [e, hx1])
          have hcn : ∀ y ∈ bx, y.2.1 ≠ n := fun y hy e => (okB_of hok hy hx).2.2.2.2 (by rw [e, hx1])
          have hM : ∀ k, Boxed bx (upd L n) vs k ↔ Boxed bx L vs k := fun k => by
            constructor
            · rintro ⟨y, hy, h1, h2⟩
              exact ⟨y, hy, by rw [← hup _ (hbn y hy)]; exact h1, h2⟩
            · rintro ⟨y, hy, h1, h2⟩
              exact ⟨y, hy, by rw [hup _ (hbn y hy)]; exact h1, h2⟩
          have hfM : Fr (Boxed bx L vs) w w' := hf.mono (fun k hk => by subst hk; exact ⟨x, hx, hL1, g1⟩)
          refine hK _ _ ⟨vs, rfl, ?_, fun k hk hp => ?_, fun y hy h1 => ?_, fun y hy z hz h1 h2 h3 => ?_, fun y hy h1 => ?_⟩
          · exact hi.bl.trans (hf.below hi.bl.size (fun k hk => by subst hk; exact g2))
          · have hkn : k ≠ n := fun e => (hp x hx).2 (by rw [hx1, e])
            exact stable k _ w w' _ _ (hi.vals k (by rw [← hup k hkn]; exact hk) hp) hfM (fun q _ => hM q)
          · rw [hup _ (hbn y hy)] at h1
            by_cases hyx : y = x
            · subst hyx
              exact ⟨q, cs', g1, g2, Nat.lt_of_lt_of_le g3 hf.size, hq', fun _ => hag, fun h => by rw [hx1] at h; unfold upd at h; rw [if_pos rfl] at h; cases h⟩
            · obtain ⟨q2, cs2, k1, k2, k3, k4, k5, k6⟩ := hi.box y hy h1
              have hne : q2 ≠ q := fun e => hyx (hi.dist y hy x hx h1 hL1 (by rw [k1, g1, e]))
              have hs : y.2.2 ≠ n := fun e => hyx ((okB_of hok hy hx).2.1 (by rw [e, hx1]))
              exact ⟨q2, cs2, k1, k2, Nat.lt_of_lt_of_le k3 hf.size, (hf.block q2 k3 hne).trans k4, fun h => k5 (by rw [← hup _ hs]; exact h), fun h => k6 (by rw [← hup _ hs]; exact h)⟩
          · rw [hup _ (hbn y hy)] at h1
            rw [hup _ (hbn z hz)] at h2
            exact hi.dist y hy z hz h1 h2 h3
          · by_cases hyx : y = x
            · subst hyx
              exact ⟨by rw [hup _ (hbn y hy)]; exact hL1, by rw [hup _ (hcn y hy)]; exact hL2⟩
            · have hs : y.2.2 ≠ n := fun e => hyx ((okB_of hok hy hx).2.1 (by rw [e, hx1]))
              rw [hup _ hs] at h1
              obtain ⟨k1, k2⟩ := hi.shut y hy h1
              exact ⟨by rw [hup _ (hbn y hy)]; exact k1, by rw [hup _ (hcn y hy)]; exact k2⟩
  · intro L a w hall hI
    obtain ⟨vs, rfl, hi⟩ := hI
    refine fin vs w (Boxed bx L vs) hi.bl (fun k hk hp => hi.vals k (hall k hk) hp) (fun x hx h1 h2 => ?_)
    obtain ⟨q, cs, e1, e2, e3, e4, e5, _⟩ := hi.box x hx (hall _ h1)
    exact ⟨q, cs, e1, e2, e3, e4, e5 (hall _ h2)⟩
#print axioms wp_region_boxes
end Go.Proofs.YtjiecahopdaghabDoor
