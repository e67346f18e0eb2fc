/- Lw, Kb, Kda, Kdb, Kdc, Kdd, Kde, Kd: the texts of these names, one behind the other. -/
import Derived.Test.YtjiecahopdaghaaDoorMWaxMa
import Derived.Test.YtjiecahopdaghaaDoorEl
namespace Go.Proofs.YtjiecahopdaghaaDoor
open Go.RowKit

theorem lwithin_n (a n : Int) (w : World) (hn : 0 < n) (hn2 : n ≤ 1000000) :
    Calls Tryd.prog 23 #[.int .i64 a, .int .i64 n] w fun e w' => e = .returned (.int .i64 (wi a n)) ∧ w' = w := by
  have h := tmodn a n hn
  have h0 : (n == 0) = false := beq_eq_false_iff_ne.2 (by omega)
  by_cases hlt : a.tmod n < 0
  · go_enter Tryd.func23, Tryd.ntmps23
    go_wp2
    go_ret
    exact ⟨ret_int (by rw [wi, if_pos hlt]), rfl⟩
  · go_enter Tryd.func23, Tryd.ntmps23
    go_wp2
    go_ret
    exact ⟨ret_int (by rw [wi, if_neg (by omega)]), rfl⟩
theorem wi_nat (a n : Int) (hn : 0 < n) : ∃ k : Nat, wi a n = (k : Nat) ∧ (k : Int) < n := ⟨(wi a n).toNat, by have := wi_n a n hn; omega, by have := wi_n a n hn; omega⟩
end Go.Proofs.YtjiecahopdaghaaDoor
namespace Go.Proofs.YtjiecahopdaghaaDoor
open Go.RowKit

/-- Are two trees the same (f bounds their depth)? -/
def eqT : Nat → Tr → Tr → Bool
  | 0, _, _ => false
  | f + 1, t, s => decide (t.op = s.op) && decide (t.n = s.n) && (decide (t.kids.length = s.kids.length) && (t.kids.zip s.kids).all fun p => eqT f p.1 p.2)

theorem eqT_eq : ∀ (f : Nat) (t s : Tr), eqT f t s = true → t = s
  | 0, _, _, h => by simp [eqT] at h
  | f + 1, ⟨o, n, ks⟩, ⟨o', n', ks'⟩, h => by
    simp only [eqT, Bool.and_eq_true, decide_eq_true_eq] at h
    obtain ⟨⟨rfl, rfl⟩, hl, ha⟩ := h
    have key : ∀ (a b : List Tr), a.length = b.length → ((a.zip b).all fun p => eqT f p.1 p.2) = true → a = b := by
      intro a
      induction a with
      | nil => intro b hl _; simp at hl; exact (List.eq_nil_of_length_eq_zero hl.symm).symm
      | cons x a ih =>
        intro b hl ha
        match b, hl, ha with
        | [], hl, _ => simp at hl
        | y :: b, hl, ha =>
          simp only [List.zip_cons_cons, List.all_cons, Bool.and_eq_true] at ha
          rw [eqT_eq f x y ha.1, ih b (by simpa using hl) ha.2]
    rw [key _ _ hl ha]

/-- Does the machine come to just this? -/
def normIs (g : Nat) (t s : Tr) : Bool := match normM g t with
  | some r => decide (r.2 = 0) && eqT 130 r.1 s
  | none => false
theorem normIs_eq {g : Nat} {t s : Tr} (h : normIs g t s = true) : normM g t = some (s, 0) := by
  unfold normIs at h
  split at h
  · rename_i r hr
    simp only [Bool.and_eq_true, decide_eq_true_eq] at h
    rw [hr, ← eqT_eq _ _ _ h.2, ← h.1]
  · simp at h

/-- Of all numbers below one. -/
def allN (n : Nat) (p : Nat → Bool) : Bool := (List.range n).all p
theorem allN_of {n : Nat} {p : Nat → Bool} (h : allN n p = true) {k : Nat} (hk : k < n) : p k = true := List.all_eq_true.1 h k (List.mem_range.2 hk)

theorem shf_num (b u : Int) : ∀ n, shf b 0 u (numT n) = numT n
  | 0 => by rw [shf_eq]; simp [numT]
  | n + 1 => by
    rw [shf_eq]
    simp only [numT, List.mapIdx_cons, List.mapIdx_nil]
    have : bnd 12 ((0 : Nat) : Int) = 0 := by decide
    rw [this, shf_num b _ n]
    simp
theorem num_size : ∀ n, (numT n).size = n + 1
  | 0 => by simp [numT, Tr.size]
  | n + 1 => by simp [numT, Tr.size, num_size n]; omega
theorem num_pre (b : Int) : ∀ n, Snd b (numT n)
  | 0 => by
    intro x hx h
    rw [Tr.pre_eq] at hx
    simp [numT] at hx
    subst hx
    simp at h
  | n + 1 => by
    intro x hx h
    rw [Tr.pre_eq] at hx
    simp only [numT, List.map_cons, List.map_nil, List.flatten_cons, List.flatten_nil, List.append_nil, List.mem_cons] at hx
    rcases hx with rfl | hx
    · simp at h
    · exact num_pre b n x hx h
end Go.Proofs.YtjiecahopdaghaaDoor
namespace Go.Proofs.YtjiecahopdaghaaDoor
open Go.RowKit

abbrev deepT (n : Nat) : Tr := ⟨13, 0, [⟨14, 0, []⟩, ⟨15, 0, []⟩, ⟨16, 0, [varT 0, varT 0]⟩, numT n]⟩
def treeD : Nat → Tr
  | 0 => ⟨15, 0, []⟩
  | n + 1 => ⟨16, 0, [treeD n, treeD n]⟩
theorem treeD_size : ∀ n, (treeD n).size + 1 = 2 ^ (n + 1)
  | 0 => by simp [treeD, Tr.size]
  | n + 1 => by
    have := treeD_size n
    simp only [treeD, Tr.size, List.map_cons, List.map_nil, List.sum_cons, List.sum_nil]
    rw [Nat.pow_succ]
    omega
/-- Is it refused? -/
def deepNo (g n : Nat) : Bool := match normM g (deepT n) with
  | some r => decide (r.2 = 5)
  | none => false
set_option maxRecDepth 20000
set_option maxHeartbeats 8000000
theorem fam_deep : (allN 11 fun n => normIs 1000 (deepT n) (treeD n)) = true := by kernel_rfl
end Go.Proofs.YtjiecahopdaghaaDoor
namespace Go.Proofs.YtjiecahopdaghaaDoor
open Go.RowKit

set_option maxRecDepth 20000
set_option maxHeartbeats 8000000
theorem no_11 : deepNo 1000 11 = true := by kernel_rfl
theorem no_15 : deepNo 1000 15 = true := by kernel_rfl
theorem no_19 : deepNo 1000 19 = true := by kernel_rfl
theorem no_23 : deepNo 1000 23 = true := by kernel_rfl
theorem no_27 : deepNo 1000 27 = true := by kernel_rfl
theorem no_31 : deepNo 1000 31 = true := by kernel_rfl
theorem no_35 : deepNo 1000 35 = true := by kernel_rfl
theorem no_39 : deepNo 1000 39 = true := by kernel_rfl
end Go.Proofs.YtjiecahopdaghaaDoor
namespace Go.Proofs.YtjiecahopdaghaaDoor
open Go.RowKit

set_option maxRecDepth 20000
set_option maxHeartbeats 8000000
theorem no_12 : deepNo 1000 12 = true := by kernel_rfl
theorem no_16 : deepNo 1000 16 = true := by kernel_rfl
theorem no_20 : deepNo 1000 20 = true := by kernel_rfl
theorem no_24 : deepNo 1000 24 = true := by kernel_rfl
theorem no_28 : deepNo 1000 28 = true := by kernel_rfl
theorem no_32 : deepNo 1000 32 = true := by kernel_rfl
theorem no_36 : deepNo 1000 36 = true := by kernel_rfl
end Go.Proofs.YtjiecahopdaghaaDoor
namespace Go.Proofs.YtjiecahopdaghaaDoor
open Go.RowKit

set_option maxRecDepth 20000
set_option maxHeartbeats 8000000
theorem no_13 : deepNo 1000 13 = true := by kernel_rfl
theorem no_17 : deepNo 1000 17 = true := by kernel_rfl
theorem no_21 : deepNo 1000 21 = true := by kernel_rfl
theorem no_25 : deepNo 1000 25 = true := by kernel_rfl
theorem no_29 : deepNo 1000 29 = true := by kernel_rfl
theorem no_33 : deepNo 1000 33 = true := by kernel_rfl
theorem no_37 : deepNo 1000 37 = true := by kernel_rfl
end Go.Proofs.YtjiecahopdaghaaDoor
namespace Go.Proofs.YtjiecahopdaghaaDoor
open Go.RowKit

set_option maxRecDepth 20000
set_option maxHeartbeats 8000000
theorem no_14 : deepNo 1000 14 = true := by kernel_rfl
theorem no_18 : deepNo 1000 18 = true := by kernel_rfl
theorem no_22 : deepNo 1000 22 = true := by kernel_rfl
theorem no_26 : deepNo 1000 26 = true := by kernel_rfl
theorem no_30 : deepNo 1000 30 = true := by kernel_rfl
theorem no_34 : deepNo 1000 34 = true := by kernel_rfl
theorem no_38 : deepNo 1000 38 = true := by kernel_rfl
end Go.Proofs.YtjiecahopdaghaaDoor
namespace Go.Proofs.YtjiecahopdaghaaDoor
open Go.RowKit

theorem norm_deep {n : Nat} (hn : n ≤ 10) : normM 1000 (deepT n) = some (treeD n, 0) := normIs_eq (allN_of fam_deep (by omega))
theorem norm_no {n : Nat} (h1 : 10 < n) (h2 : n < 40) : ∃ t, normM 1000 (deepT n) = some (t, 5) := by
  have h : deepNo 1000 n = true := by
    match n, h1, h2 with
    | 11, _, _ => exact no_11
    | 12, _, _ => exact no_12
    | 13, _, _ => exact no_13
    | 14, _, _ => exact no_14
    | 15, _, _ => exact no_15
    | 16, _, _ => exact no_16
    | 17, _, _ => exact no_17
    | 18, _, _ => exact no_18
    | 19, _, _ => exact no_19
    | 20, _, _ => exact no_20
    | 21, _, _ => exact no_21
    | 22, _, _ => exact no_22
    | 23, _, _ => exact no_23
    | 24, _, _ => exact no_24
    | 25, _, _ => exact no_25
    | 26, _, _ => exact no_26
    | 27, _, _ => exact no_27
    | 28, _, _ => exact no_28
    | 29, _, _ => exact no_29
    | 30, _, _ => exact no_30
    | 31, _, _ => exact no_31
    | 32, _, _ => exact no_32
    | 33, _, _ => exact no_33
    | 34, _, _ => exact no_34
    | 35, _, _ => exact no_35
    | 36, _, _ => exact no_36
    | 37, _, _ => exact no_37
    | 38, _, _ => exact no_38
    | 39, _, _ => exact no_39
    | 0, h, _ | 1, h, _ | 2, h, _ | 3, h, _ | 4, h, _ | 5, h, _ | 6, h, _ | 7, h, _ | 8, h, _ | 9, h, _ | 10, h, _ => omega
    | n + 40, _, h => omega
  unfold deepNo at h
  split at h
  · rename_i r hr
    exact ⟨r.1, by rw [hr, ← of_decide_eq_true h]⟩
  · simp at h
end Go.Proofs.YtjiecahopdaghaaDoor
