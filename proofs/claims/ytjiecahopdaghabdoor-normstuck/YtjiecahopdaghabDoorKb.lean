/- Trees held against each other by the kernel; numbers' trees. -/
import Derived.Test.YtjiecahopdaghabDoorEl
namespace Go.Proofs.YtjiecahopdaghabDoor
open Go.RowKit

/-- Are two trees the same (f bounds their depth)? -/
def eqT : Nat → Tr → Tr → Bool
  | 0, _, _ => false
  | f + 1, t, s => decide (t.op = s.op) && decide (t.n = s.n) && (decide (t.kids.length = s.kids.length) && (t.kids.zip s.kids).all fun p => eqT f p.1 p.2)

theorem eqT_eq : ∀ (f : Nat) (t s : Tr), eqT f t s = true → t = s
  | 0, _, _, h => by simp [eqT] at h
  | f + 1, ⟨o, n, ks⟩, ⟨o', n', ks'⟩, h => by
    simp only [eqT, Bool.and_eq_true, decide_eq_true_eq] at h
    obtain ⟨⟨rfl, rfl⟩, hl, ha⟩ := h
    have key : ∀ (a b : List Tr), a.length = b.length → ((a.zip b).all fun p => eqT f p.1 p.2) = true → a = b := by
      intro a
      induction a with
      | nil => intro b hl _; simp at hl; exact (List.eq_nil_of_length_eq_zero hl.symm).symm
      | cons x a ih =>
        intro b hl ha
        match b, hl, ha with
        | [], hl, _ => simp at hl
        | y :: b, hl, ha =>
          simp only [List.zip_cons_cons, List.all_cons, Bool.and_eq_true] at ha
          rw [eqT_eq f x y ha.1, ih b (by simpa using hl) ha.2]
    rw [key _ _ hl ha]

/-- Does the machine come to just this? -/
def normIs (g : Nat) (t s : Tr) : Bool := match normM g t with
  | some r => decide (r.2 = 0) && eqT 130 r.1 s
  | none => false
theorem normIs_eq {g : Nat} {t s : Tr} (h : normIs g t s = true) : normM g t = some (s, 0) := by
  unfold normIs at h
  split at h
  · rename_i r hr
    simp only [Bool.and_eq_true, decide_eq_true_eq] at h
    rw [hr, ← eqT_eq _ _ _ h.2, ← h.1]
  · simp at h

/-- Of all numbers below one. -/
def allN (n : Nat) (p : Nat → Bool) : Bool := (List.range n).all p
theorem allN_of {n : Nat} {p : Nat → Bool} (h : allN n p = true) {k : Nat} (hk : k < n) : p k = true := List.all_eq_true.1 h k (List.mem_range.2 hk)

theorem shf_num (b u : Int) : ∀ n, shf b 0 u (numT n) = numT n
  | 0 => by rw [shf_eq]; simp [numT]
  | n + 1 => by
    rw [shf_eq]
    simp only [numT, List.mapIdx_cons, List.mapIdx_nil]
    have : bnd 12 ((0 : Nat) : Int) = 0 := by decide
    rw [this, shf_num b _ n]
    simp
theorem num_size : ∀ n, (numT n).size = n + 1
  | 0 => by simp [numT, Tr.size]
  | n + 1 => by simp [numT, Tr.size, num_size n]; omega
theorem num_pre (b : Int) : ∀ n, Snd b (numT n)
  | 0 => by
    intro x hx h
    rw [Tr.pre_eq] at hx
    simp [numT] at hx
    subst hx
    simp at h
  | n + 1 => by
    intro x hx h
    rw [Tr.pre_eq] at hx
    simp only [numT, List.map_cons, List.map_nil, List.flatten_cons, List.flatten_nil, List.append_nil, List.mem_cons] at hx
    rcases hx with rfl | hx
    · simp at h
    · exact num_pre b n x hx h
#print axioms num_pre
end Go.Proofs.YtjiecahopdaghabDoor
