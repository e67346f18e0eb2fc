/- A region that draws its order and only adds to memory: what each operation's value is, by a fact that stays true as memory grows. -/
import Derived.Test.YtjiecahopdaghabDoorReg
namespace Go.Proofs.YtjiecahopdaghabDoor
open Go.RowKit

/-- One value of many, set. -/
def put (vs : Nat → Value) (i : Nat) (v : Value) : Nat → Value := fun j => if j = i then v else vs j

theorem put_of {vs : Nat → Value} {i : Nat} {v : Value} (h : vs i = v) : ∃ vs0, vs = put vs0 i v :=
  ⟨vs, by funext j; unfold put; split
          · rename_i e; rw [e, h]
          · rfl⟩

theorem wp_region_vals {P : Program} {id : Nat} {ops : Array Oper} {Q : Exit → Act → World → Prop} {w0 : World} (hm : P.follows .mixedOrders = true) (hback : backB ops = true) (mk : (Nat → Value) → Act) (vs0 : Nat → Value)
    (F : Nat → Value → World → Prop) (stable : ∀ k v w w', F k v w → Below w.heap.size w w' → F k v w')
    (step : AllOps (fun i o => ∀ (vs : Nat → Value) (w : World) (K : Act → World → Prop), Below w0.heap.size w0 w → (∀ e ∈ o.after, Region.binds .any e = true → F e.on (vs e.on) w) →
      (∀ v w', Below w.heap.size w w' → F i v w' → K (mk (put vs i v)) w') → (if Region.wanted o (yielded ops (mk vs).tmps) = true then Oper.wp P o (mk vs) w K Q else K ((mk vs).put o.dst undef) w)) 0 ops.toList)
    (fin : ∀ vs w, Below w0.heap.size w0 w → (∀ k, k < ops.size → F k (vs k) w) → Q .normal (mk vs) w) : (Code.region id ops true).wp P Q (mk vs0) w0 := by
  refine wp_region_inv hm hback (fun L a w => ∃ vs, a = mk vs ∧ Below w0.heap.size w0 w ∧ ∀ k, L k = true → F k (vs k) w) ⟨vs0, rfl, (Below.refl _ _).drew, fun k h => by cases h⟩ ?_ ?_
  · revert step
    generalize ops.toList = l
    generalize 0 = n
    intro step
    induction l generalizing n with
    | nil => trivial
    | cons o r ih =>
      refine ⟨?_, ih (n + 1) step.2⟩
      intro L a w K _ hd hI hK
      obtain ⟨vs, rfl, hb, hF⟩ := hI
      refine step.1 vs w K hb (fun e he h => hF e.on (hd e he h)) ?_
      intro v w' hb' hv
      refine hK _ _ ⟨_, rfl, hb.trans (hb'.mono hb.size), fun k hk => ?_⟩
      unfold put
      split
      · rename_i e; rw [e]; exact hv
      · rename_i e
        refine stable k _ w w' (hF k ?_) hb'
        simpa [upd, e] using hk
  · intro L a w hall hI
    obtain ⟨vs, rfl, hb, hF⟩ := hI
    exact fin vs w hb (fun k hk => hF k (hall k hk))
#print axioms wp_region_vals
end Go.Proofs.YtjiecahopdaghabDoor
