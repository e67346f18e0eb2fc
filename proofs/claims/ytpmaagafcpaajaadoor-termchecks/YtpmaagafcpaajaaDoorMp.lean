/- What Make makes, as a function of trees; what holds of it. -/
import Derived.Test.YtpmaagafcpaajaaDoorTb
import Derived.Test.YtpmaagafcpaajaaDoorPv
namespace Go.Proofs.YtpmaagafcpaajaaDoor
open Go.RowKit

/-- A raw kid; a plain one, if there is none. -/
def kidR (r : Tr) (i : Nat) : Tr := if h : i < r.kids.length then r.kids[i] else ⟨0, wrap64 (r.n + i), []⟩
def mkOp (d : Nat) (r : Tr) : Int := if d = 0 ∧ 0 < ar (1 + wi r.op 30) then (if wi r.op 5 = 0 then 1 else if wi r.op 5 = 1 then 11 else if wi r.op 5 = 2 then 25 else if wi r.op 5 = 3 then 15 else 10) else 1 + wi r.op 30
def mkN (o vars : Int) (r : Tr) : Int := if o = 1 then wi r.n (vars + 1) else if o = 2 then wi r.n 3 else if o = 26 then wi r.n 5 else if o = 25 then r.n else 0

/-- Make: a term of sound shape, so deep at most, its variables up to a number. -/
def mkT : Nat → Int → Tr → Tr
  | 0, vars, r => ⟨mkOp 0 r, mkN (mkOp 0 r) vars r, []⟩
  | d + 1, vars, r => ⟨mkOp (d + 1) r, mkN (mkOp (d + 1) r) vars r, (List.range (ar (mkOp (d + 1) r))).map (fun i => mkT d (vars + (bnd (mkOp (d + 1) r) (i : Nat) : Nat)) (kidR r i))⟩

/-- The first k kids of what is made. -/
def mkKs (d : Nat) (vars : Int) (r : Tr) (k : Nat) : List Tr :=
  match d with
  | 0 => []
  | d + 1 => (List.range k).map (fun i => mkT d (vars + (bnd (mkOp (d + 1) r) (i : Nat) : Nat)) (kidR r i))

theorem mkOp_rng (d : Nat) (r : Tr) : 1 ≤ mkOp d r ∧ mkOp d r ≤ 30 := by
  have := wi_n r.op 30 (by decide)
  unfold mkOp
  repeat' split
  all_goals omega
theorem mkOp_zero (r : Tr) : ar (mkOp 0 r) = 0 := by
  unfold mkOp
  split
  · repeat' split
    all_goals decide
  · rename_i h
    have : ¬ 0 < ar (1 + wi r.op 30) := fun h2 => h ⟨rfl, h2⟩
    omega
theorem mkT_eq (d : Nat) (vars : Int) (r : Tr) : mkT d vars r = ⟨mkOp d r, mkN (mkOp d r) vars r, mkKs d vars r (ar (mkOp d r))⟩ := by
  cases d with
  | zero => rw [mkT]; rfl
  | succ d => rw [mkT]; rfl
theorem mkKs_zero (d : Nat) (vars : Int) (r : Tr) : mkKs d vars r 0 = [] := by cases d <;> rfl
theorem mkKs_succ {d d' : Nat} (hd : d = d' + 1) (vars : Int) (r : Tr) (k : Nat) : mkKs d vars r (k + 1) = mkKs d vars r k ++ [mkT d' (vars + (bnd (mkOp d r) (k : Nat) : Nat)) (kidR r k)] := by
  subst hd
  simp [mkKs, List.range_succ]
theorem mkN_i64 {o vars : Int} {r : Tr} (h0 : 0 ≤ vars) (h1 : vars ≤ 1000) (hr : I64 r.n) : I64 (mkN o vars r) := by
  have h2 := wi_n r.n (vars + 1) (by omega)
  have h3 := wi_n r.n 3 (by omega)
  have h4 := wi_n r.n 5 (by omega)
  unfold mkN
  unfold I64 at *
  repeat' split
  all_goals omega

/-- How many nodes a term that is made so deep may have; how many leaves. -/
def most : Nat → Nat
  | 0 => 1
  | d + 1 => 1 + 4 * most d

/-- Sound shape: each Op has its kids, each number is in its bounds. -/
def Shp (t : Tr) : Prop := ∀ x ∈ t.pre, 1 ≤ x.op ∧ x.op ≤ 30 ∧ x.kids.length = ar x.op ∧ loN x.op ≤ x.n ∧ x.n ≤ hiN x.op

theorem Shp.mk' {t : Tr} (h0 : 1 ≤ t.op ∧ t.op ≤ 30 ∧ t.kids.length = ar t.op ∧ loN t.op ≤ t.n ∧ t.n ≤ hiN t.op) (hk : ∀ k ∈ t.kids, Shp k) : Shp t := by
  intro x hx
  rw [Tr.pre_eq, List.mem_cons] at hx
  rcases hx with rfl | hx
  · exact h0
  · obtain ⟨l, hl, hx⟩ := List.mem_flatten.1 hx
    obtain ⟨k, hk', rfl⟩ := List.mem_map.1 hl
    exact hk k hk' x hx
theorem Shp.top {t : Tr} (h : Shp t) : 1 ≤ t.op ∧ t.op ≤ 30 ∧ t.kids.length = ar t.op ∧ loN t.op ≤ t.n ∧ t.n ≤ hiN t.op := h t (mem_pre_self t)
theorem Shp.kid {t k : Tr} (h : Shp t) (hk : k ∈ t.kids) : Shp k := fun x hx => h x (mem_pre_kid hk hx)
theorem Shp.snd {t : Tr} (h : Shp t) : Snd 3000 t := by
  intro x hx ho
  obtain ⟨_, _, h3, h4, h5⟩ := h x hx
  rw [ho] at h3 h4 h5
  exact ⟨List.eq_nil_of_length_eq_zero h3, h4, h5⟩

/-- The numbers of a raw tree are numbers. -/
def Raw64 (t : Tr) : Prop := ∀ x ∈ t.pre, I64 x.n
theorem Raw64.kidR {r : Tr} (h : Raw64 r) (i : Nat) : Raw64 (kidR r i) := by
  unfold Go.Proofs.YtpmaagafcpaajaaDoor.kidR
  split
  · rename_i hi
    exact fun x hx => h x (mem_pre_kid (List.getElem_mem hi) hx)
  · intro x hx
    rw [Tr.pre_eq] at hx
    simp at hx
    subst hx
    unfold I64; simp only; unfold wrap64; omega

theorem mkKs_mem {d : Nat} {vars : Int} {r : Tr} {k : Nat} {t : Tr} (h : t ∈ mkKs d vars r k) : ∃ d' i, d = d' + 1 ∧ i < k ∧ t = mkT d' (vars + (bnd (mkOp d r) (i : Nat) : Nat)) (kidR r i) := by
  cases d with
  | zero => cases h
  | succ d =>
    obtain ⟨i, hi, rfl⟩ := List.mem_map.1 h
    exact ⟨d, i, rfl, List.mem_range.1 hi, rfl⟩
theorem mkKs_len (d : Nat) (vars : Int) (r : Tr) : (mkKs d vars r (ar (mkOp d r))).length = ar (mkOp d r) := by
  cases d with
  | zero => rw [mkOp_zero]; rfl
  | succ d => simp [mkKs]

theorem mkN_bounds {o vars : Int} {r : Tr} (h0 : 0 ≤ vars) (h1 : vars ≤ 1000) (hr : I64 r.n) : loN o ≤ mkN o vars r ∧ mkN o vars r ≤ hiN o := by
  have h2 := wi_n r.n (vars + 1) (by omega)
  have h3 := wi_n r.n 3 (by omega)
  have h4 := wi_n r.n 5 (by omega)
  unfold I64 at hr
  unfold mkN loN hiN
  repeat' split
  all_goals omega

theorem mk_shp (d : Nat) : ∀ (vars : Int) (r : Tr), 0 ≤ vars → vars + 2 * d ≤ 1000 → Raw64 r → Shp (mkT d vars r) := by
  induction d with
  | zero =>
    intro vars r h0 h1 hr
    rw [mkT_eq]
    have := mkOp_rng 0 r
    have hb := mkN_bounds (o := mkOp 0 r) h0 (by omega) (hr r (mem_pre_self r))
    exact Shp.mk' ⟨this.1, this.2, by simp only; exact mkKs_len 0 vars r, hb.1, hb.2⟩ (fun k hk => by have hk : k ∈ mkKs 0 vars r (ar (mkOp 0 r)) := hk; obtain ⟨d', i, hd, _⟩ := mkKs_mem hk; omega)
  | succ d ih =>
    intro vars r h0 h1 hr
    rw [mkT_eq]
    have := mkOp_rng (d + 1) r
    have hb := mkN_bounds (o := mkOp (d + 1) r) h0 (by omega) (hr r (mem_pre_self r))
    refine Shp.mk' ⟨this.1, this.2, by simp only; exact mkKs_len (d + 1) vars r, hb.1, hb.2⟩ (fun k hk => ?_)
    have hk : k ∈ mkKs (d + 1) vars r (ar (mkOp (d + 1) r)) := hk
    obtain ⟨d', i, hd, _, rfl⟩ := mkKs_mem hk
    have : d = d' := by omega
    subst this
    have hle := bnd_le (mkOp (d + 1) r) (i : Nat)
    exact ih _ _ (by omega) (by omega) (hr.kidR i)

theorem sum_le_mul (l : List Nat) (m : Nat) (h : ∀ x ∈ l, x ≤ m) : l.sum ≤ l.length * m := by
  induction l with
  | nil => simp
  | cons y l ih =>
    have h1 := ih (fun x hx => h x (by simp [hx]))
    have h2 := h y (by simp)
    rw [List.sum_cons, List.length_cons, Nat.succ_mul]
    omega

theorem mk_size (d : Nat) : ∀ (vars : Int) (r : Tr), (mkT d vars r).size ≤ most d := by
  induction d with
  | zero => intro vars r; rw [mkT, Tr.size_eq]; simp [most]
  | succ d ih =>
    intro vars r
    rw [mkT_eq, Tr.size_eq]
    simp only [most]
    have h1 := sum_le_mul ((mkKs (d + 1) vars r (ar (mkOp (d + 1) r))).map Tr.size) (most d) (fun x hx => by
      obtain ⟨t, ht, rfl⟩ := List.mem_map.1 hx
      obtain ⟨d', i, hd, _, rfl⟩ := mkKs_mem ht
      have : d = d' := by omega
      subst this
      exact ih _ _)
    rw [List.length_map, mkKs_len] at h1
    have h2 := Nat.mul_le_mul_right (most d) (ar_le (mkOp (d + 1) r))
    omega

theorem mk_bel (d : Nat) : ∀ (vars0 u : Int) (r : Tr), 0 ≤ vars0 + u → bel (vars0 + 1) u (mkT d (vars0 + u) r) = true := by
  induction d with
  | zero =>
    intro vars0 u r h0
    rw [mkT_eq, bel_eq]
    simp only
    split
    · rename_i ho
      have := wi_n r.n (vars0 + u + 1) (by omega)
      simp only [mkN, if_pos ho, decide_eq_true_eq]
      omega
    · rfl
  | succ d ih =>
    intro vars0 u r h0
    rw [mkT_eq, bel_eq]
    simp only
    split
    · rename_i ho
      have := wi_n r.n (vars0 + u + 1) (by omega)
      simp only [mkN, if_pos ho, decide_eq_true_eq]
      omega
    · rw [all_mapIdx]
      intro i hi
      simp only [mkKs, List.getElem_map, List.getElem_range]
      rw [show vars0 + u + ((bnd (mkOp (d + 1) r) (i : Nat) : Nat) : Int) = vars0 + (u + ((bnd (mkOp (d + 1) r) (i : Nat) : Nat) : Int)) by omega]
      exact ih _ _ _ (by omega)
#print axioms mk_bel
end Go.Proofs.YtpmaagafcpaajaaDoor
