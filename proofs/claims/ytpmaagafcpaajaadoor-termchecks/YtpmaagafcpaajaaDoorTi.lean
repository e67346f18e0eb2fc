/- Two terms of sound shape have one text just where they are the same. -/
import Derived.Test.YtpmaagafcpaajaaDoorWt
import Derived.Test.YtpmaagafcpaajaaDoorMp
namespace Go.Proofs.YtpmaagafcpaajaaDoor
open Go.RowKit

/-- A byte of a number. -/
def NumB (c : UInt8) : Prop := c = 45 ∨ (48 ≤ c.toNat ∧ c.toNat ≤ 57)
theorem dec_bytes (u : Nat) : ∀ c ∈ Lib.decDigits u, 48 ≤ c.toNat ∧ c.toNat ≤ 57 := by
  induction u using Nat.strongRecOn with
  | _ u ih =>
    intro c hc
    rw [Lib.decDigits] at hc
    split at hc
    · rename_i h
      have hc := List.mem_singleton.1 hc
      subst hc
      rw [UInt8.toNat_ofNat_of_lt' (by simp [UInt8.size]; omega)]
      omega
    · rename_i h
      rcases List.mem_append.1 hc with hc | hc
      · exact ih (u / 10) (by omega) c hc
      · have hc := List.mem_singleton.1 hc
        subst hc
        rw [UInt8.toNat_ofNat_of_lt' (by simp [UInt8.size]; omega)]
        omega
def valD (l : List UInt8) : Nat := l.foldl (fun a c => a * 10 + (c.toNat - 48)) 0
theorem val_dec (u : Nat) : valD (Lib.decDigits u) = u := by
  induction u using Nat.strongRecOn with
  | _ u ih =>
    rw [Lib.decDigits]
    split
    · rename_i h
      simp only [valD, List.foldl_cons, List.foldl_nil]
      rw [UInt8.toNat_ofNat_of_lt' (by simp [UInt8.size]; omega)]
      omega
    · rename_i h
      have h1 := ih (u / 10) (by omega)
      unfold valD at h1 ⊢
      rw [List.foldl_append, h1]
      simp only [List.foldl_cons, List.foldl_nil]
      rw [UInt8.toNat_ofNat_of_lt' (by simp [UInt8.size]; omega)]
      omega
theorem itoa_bytes (n : Int) : ∀ c ∈ Lib.itoa n, NumB c := by
  intro c hc
  unfold Lib.itoa at hc
  split at hc
  · rcases List.mem_cons.1 hc with h | h
    · exact Or.inl h
    · exact Or.inr (dec_bytes _ c h)
  · exact Or.inr (dec_bytes _ c hc)
theorem dec_ne (u : Nat) : Lib.decDigits u ≠ [] := by
  intro e
  have := Lib.decDigits_length u
  rw [e] at this
  have := Lib.nDigits_pos u
  simp at *
  omega
theorem itoa_inj {n m : Int} (h : Lib.itoa n = Lib.itoa m) : n = m := by
  have hd : ∀ (u : Nat) (l : List UInt8), Lib.decDigits u ≠ 45 :: l := fun u l e => by
    have := dec_bytes u 45 (by rw [e]; simp)
    simp at this
  unfold Lib.itoa at h
  split at h
  · split at h
    · have h1 := congrArg valD (List.cons.inj h).2
      rw [val_dec, val_dec] at h1
      omega
    · exact absurd h.symm (hd _ _)
  · split at h
    · exact absurd h (hd _ _)
    · have h1 := congrArg valD h
      rw [val_dec, val_dec] at h1
      omega
/-- Numbers end where no byte of a number follows. -/
def Stop (r : List UInt8) : Prop := ∀ c, r.head? = some c → ¬ NumB c
theorem span_inj : ∀ (a b r r' : List UInt8), (∀ c ∈ a, NumB c) → (∀ c ∈ b, NumB c) → Stop r → Stop r' → a ++ r = b ++ r' → a = b ∧ r = r'
  | [], [], r, r', _, _, _, _, h => ⟨rfl, h⟩
  | [], c :: b, r, r', _, hb, hr, _, h => by
    exfalso
    have : r.head? = some c := by rw [show r = c :: b ++ r' from h]; rfl
    exact hr c this (hb c (by simp))
  | c :: a, [], r, r', ha, _, _, hr', h => by
    exfalso
    have : r'.head? = some c := by rw [show r' = c :: a ++ r from h.symm]; rfl
    exact hr' c this (ha c (by simp))
  | c :: a, d :: b, r, r', ha, hb, hr, hr', h => by
    have h1 := List.cons.inj h
    obtain ⟨e1, e2⟩ := span_inj a b r r' (fun x hx => ha x (by simp [hx])) (fun x hx => hb x (by simp [hx])) hr hr' h1.2
    exact ⟨by rw [h1.1, e1], e2⟩
theorem num_inj {n m : Int} {r r' : List UInt8} (hr : Stop r) (hr' : Stop r') (h : Lib.itoa n ++ r = Lib.itoa m ++ r') : n = m ∧ r = r' := by
  obtain ⟨h1, h2⟩ := span_inj _ _ _ _ (itoa_bytes n) (itoa_bytes m) hr hr' h
  exact ⟨itoa_inj h1, h2⟩
theorem stop_cons {c : UInt8} {r : List UInt8} (h : c = 32 ∨ c = 41 ∨ c = 47) : Stop (c :: r) := by
  intro d hd
  simp at hd
  subst hd
  rcases h with rfl | rfl | rfl <;> (unfold NumB; decide)
theorem itoa_head {n : Int} {r : List UInt8} : ∃ c l, Lib.itoa n ++ r = c :: l ∧ NumB c := by
  cases h : Lib.itoa n with
  | nil => exact absurd h (itoa_ne n)
  | cons c l => exact ⟨c, l ++ r, rfl, itoa_bytes n c (by rw [h]; simp)⟩
theorem num_not {c : UInt8} (h : NumB c) : c ≠ 118 ∧ c ≠ 85 ∧ c ≠ 105 ∧ c ≠ 40 := by
  refine ⟨?_, ?_, ?_, ?_⟩ <;> (rintro rfl; revert h; unfold NumB; decide)

theorem letL_cases (op : Int) : (op = 1 ∧ letL op = [118]) ∨ (op = 2 ∧ letL op = [85]) ∨ (op = 25 ∧ letL op = [105]) ∨ (op ≠ 1 ∧ op ≠ 2 ∧ op ≠ 25 ∧ letL op = []) := by
  unfold letL
  by_cases h1 : op = 1
  · exact Or.inl ⟨h1, by rw [if_pos h1]⟩
  · by_cases h2 : op = 2
    · exact Or.inr (Or.inl ⟨h2, by rw [if_neg h1, if_pos h2]⟩)
    · by_cases h3 : op = 25
      · exact Or.inr (Or.inr (Or.inl ⟨h3, by rw [if_neg h1, if_neg h2, if_pos h3]⟩))
      · exact Or.inr (Or.inr (Or.inr ⟨h1, h2, h3, by rw [if_neg h1, if_neg h2, if_neg h3]⟩))
/-- A leaf's text: how it begins. -/
theorem leaf_form (op n : Int) (r : List UInt8) : (op = 1 ∧ leafT op n ++ r = 118 :: (Lib.itoa n ++ r)) ∨ (op = 2 ∧ leafT op n ++ r = 85 :: (Lib.itoa n ++ r)) ∨ (op = 25 ∧ leafT op n ++ r = 105 :: (Lib.itoa n ++ r)) ∨ (op ≠ 1 ∧ op ≠ 2 ∧ op ≠ 25 ∧ leafT op n ++ r = Lib.itoa op ++ r) := by
  unfold leafT
  rcases letL_cases op with ⟨h, e⟩ | ⟨h, e⟩ | ⟨h, e⟩ | ⟨h1, h2, h3, e⟩
  · rw [e]; exact Or.inl ⟨h, by simp⟩
  · rw [e]; exact Or.inr (Or.inl ⟨h, by simp⟩)
  · rw [e]; exact Or.inr (Or.inr (Or.inl ⟨h, by simp⟩))
  · rw [e]; exact Or.inr (Or.inr (Or.inr ⟨h1, h2, h3, by simp⟩))
theorem leaf_not40 (op n : Int) (r l : List UInt8) : leafT op n ++ r ≠ 40 :: l := by
  intro e
  rcases leaf_form op n r with ⟨_, h⟩ | ⟨_, h⟩ | ⟨_, h⟩ | ⟨_, _, _, h⟩
  · rw [h] at e; simp at e
  · rw [h] at e; simp at e
  · rw [h] at e; simp at e
  · obtain ⟨c, l', h1, h2⟩ := itoa_head (n := op) (r := r)
    rw [h, h1] at e
    exact (num_not h2).2.2.2 (List.cons.inj e).1
theorem leaf_inj {op n op' n' : Int} {r r' : List UInt8} (hr : Stop r) (hr' : Stop r') (h : leafT op n ++ r = leafT op' n' ++ r') : op = op' ∧ r = r' ∧ ((op = 1 ∨ op = 2 ∨ op = 25) → n = n') := by
  rcases leaf_form op n r with ⟨h1, e1⟩ | ⟨h1, e1⟩ | ⟨h1, e1⟩ | ⟨h1, h1', h1'', e1⟩ <;> rcases leaf_form op' n' r' with ⟨h2, e2⟩ | ⟨h2, e2⟩ | ⟨h2, e2⟩ | ⟨h2, h2', h2'', e2⟩ <;> rw [e1, e2] at h
  all_goals first
    | (exfalso; have := (List.cons.inj h).1; revert this; decide)
    | (obtain ⟨h3, h4⟩ := num_inj hr hr' (List.cons.inj h).2; exact ⟨by rw [h1, h2], h4, fun _ => h3⟩)
    | (exfalso; obtain ⟨c, l', g1, g2⟩ := itoa_head (n := op') (r := r'); rw [g1] at h; have := num_not g2; have h5 := (List.cons.inj h).1; simp_all)
    | (exfalso; obtain ⟨c, l', g1, g2⟩ := itoa_head (n := op) (r := r); rw [g1] at h; have := num_not g2; have h5 := (List.cons.inj h).1; simp_all)
    | (obtain ⟨h3, h4⟩ := num_inj hr hr' h; exact ⟨h3, h4, fun h5 => by omega⟩)

theorem row_inj (ks : List Tr) (IH : ∀ k ∈ ks, ∀ (s : Tr) (r r' : List UInt8), Shp s → Stop r → Stop r' → txtT k ++ r = txtT s ++ r' → k = s ∧ r = r') : ∀ (ks' : List Tr) (r r' : List UInt8), (∀ k ∈ ks', Shp k) →
    ((ks.map txtT).map (fun l => 32 :: l)).flatten ++ 41 :: r = ((ks'.map txtT).map (fun l => 32 :: l)).flatten ++ 41 :: r' → ks = ks' ∧ r = r' := by
  induction ks with
  | nil =>
    intro ks' r r' _ h
    cases ks' with
    | nil => simp at h; exact ⟨rfl, h⟩
    | cons k ks' => simp at h
  | cons k ks ih =>
    intro ks' r r' hs h
    cases ks' with
    | nil => simp at h
    | cons k' ks' =>
      simp only [List.map_cons, List.flatten_cons, List.cons_append, List.append_assoc, List.cons.injEq, true_and] at h
      have st : ∀ (l : List Tr) (r : List UInt8), Stop (((l.map txtT).map (fun l => 32 :: l)).flatten ++ 41 :: r) := fun l r => by
        cases l with
        | nil => exact stop_cons (by simp)
        | cons x l => simp only [List.map_cons, List.flatten_cons, List.cons_append]; exact stop_cons (by simp)
      obtain ⟨h1, h2⟩ := IH k (by simp) k' _ _ (hs k' (by simp)) (st ks r) (st ks' r') h
      obtain ⟨h3, h4⟩ := ih (fun x hx => IH x (by simp [hx])) ks' r r' (fun x hx => hs x (by simp [hx])) h2
      exact ⟨by rw [h1, h3], h4⟩

theorem txt_pre_inj (t : Tr) : Shp t → ∀ (s : Tr) (r r' : List UInt8), Shp s → Stop r → Stop r' → txtT t ++ r = txtT s ++ r' → t = s ∧ r = r' := by
  induction t using Tr.ind with
  | h t ih =>
    intro ht s r r' hs hr hr' h
    have ht0 := ht.top
    have hs0 := hs.top
    have hz : ∀ op n : Int, op ≠ 1 → op ≠ 2 → op ≠ 25 → op ≠ 26 → loN op ≤ n → n ≤ hiN op → n = 0 := fun op n h1 h2 h3 h4 h5 h6 => by
      unfold loN at h5; unfold hiN at h6
      rw [if_neg h3] at h5
      rw [if_neg h1, if_neg h2, if_neg h3, if_neg h4] at h6
      omega
    by_cases hk : t.kids = []
    · rw [txtT_leaf t hk] at h
      by_cases hk' : s.kids = []
      · rw [txtT_leaf s hk'] at h
        obtain ⟨h1, h2, h3⟩ := leaf_inj hr hr' h
        refine ⟨?_, h2⟩
        have hn : t.n = s.n := by
          by_cases ho : t.op = 1 ∨ t.op = 2 ∨ t.op = 25
          · exact h3 ho
          · have h26 : t.op ≠ 26 := fun e => by have := ht0.2.2.1; rw [hk, e] at this; simp [ar] at this
            rw [hz t.op t.n (by omega) (by omega) (by omega) h26 ht0.2.2.2.1 ht0.2.2.2.2, hz s.op s.n (by omega) (by omega) (by omega) (by omega) hs0.2.2.2.1 hs0.2.2.2.2]
        rw [← Tr.eta t, ← Tr.eta s, h1, hn, hk, hk']
      · rw [txtT_node s hk'] at h
        exact absurd h (leaf_not40 _ _ _ _)
    · rw [txtT_node t hk] at h
      by_cases hk' : s.kids = []
      · rw [txtT_leaf s hk'] at h
        exact absurd h.symm (leaf_not40 _ _ _ _)
      · rw [txtT_node s hk'] at h
        have har : ∀ x : Tr, x.kids ≠ [] → x.kids.length = ar x.op → x.op ≠ 1 ∧ x.op ≠ 2 ∧ x.op ≠ 25 := fun x hx hl => by
          have : x.kids.length ≠ 0 := fun e => hx (List.eq_nil_of_length_eq_zero e)
          refine ⟨?_, ?_, ?_⟩ <;> (intro e; rw [e] at hl; simp [ar] at hl; exact hx hl)
        have a1 := har t hk ht0.2.2.1
        have a2 := har s hk' hs0.2.2.1
        simp only [List.cons_append, List.cons.injEq, true_and, headT, List.append_assoc, List.nil_append] at h
        have st : ∀ (x : Tr) (hx : x.kids ≠ []) (l : List UInt8), ∃ q, rowT x x.kids.length ++ l = 32 :: q := fun x hx l => by
          unfold rowT
          rw [List.take_length]
          cases hh : x.kids with
          | nil => exact absurd hh hx
          | cons k ks => simp only [List.map_cons, List.flatten_cons, List.cons_append]; exact ⟨_, rfl⟩
        have sx : ∀ (x : Tr) (hx : x.kids ≠ []) (l : List UInt8), Stop ((if x.op = 26 then 47 :: Lib.itoa x.n else []) ++ (rowT x x.kids.length ++ l)) := fun x hx l => by
          obtain ⟨q, hq⟩ := st x hx l
          split
          · exact stop_cons (by simp)
          · rw [hq]; exact stop_cons (by simp)
        obtain ⟨h1, h2⟩ := num_inj (sx t hk _) (sx s hk' _) h
        have key : t.n = s.n ∧ rowT t t.kids.length ++ 41 :: r = rowT s s.kids.length ++ 41 :: r' := by
          by_cases h26 : t.op = 26
          · rw [if_pos h26, if_pos (by rw [← h1]; exact h26)] at h2
            simp only [List.cons_append, List.cons.injEq, true_and] at h2
            obtain ⟨q, hq⟩ := st t hk (41 :: r)
            obtain ⟨q', hq'⟩ := st s hk' (41 :: r')
            exact num_inj (by rw [hq]; exact stop_cons (by simp)) (by rw [hq']; exact stop_cons (by simp)) h2
          · rw [if_neg h26, if_neg (by rw [← h1]; exact h26)] at h2
            simp only [List.nil_append] at h2
            exact ⟨by rw [hz t.op t.n a1.1 a1.2.1 a1.2.2 h26 ht0.2.2.2.1 ht0.2.2.2.2, hz s.op s.n a2.1 a2.2.1 a2.2.2 (by rw [← h1]; exact h26) hs0.2.2.2.1 hs0.2.2.2.2], h2⟩
        obtain ⟨hn, hrow⟩ := key
        unfold rowT at hrow
        rw [List.take_length, List.take_length] at hrow
        obtain ⟨h3, h4⟩ := row_inj t.kids (fun k hk2 => ih k hk2 (ht.kid hk2)) s.kids r r' (fun k hk2 => hs.kid hk2) hrow
        exact ⟨by rw [← Tr.eta t, ← Tr.eta s, h1, hn, h3], h4⟩
theorem txt_inj {t s : Tr} (ht : Shp t) (hs : Shp s) (h : txtT t = txtT s) : t = s :=
  (txt_pre_inj t ht s [] [] hs (fun c h => by cases h) (fun c h => by cases h) (by rw [h])).1
theorem nDigits_le : ∀ (k u : Nat), 1 ≤ k → u < 10 ^ k → Lib.nDigits u ≤ k := by
  intro k
  induction k with
  | zero => intro u h; omega
  | succ k ih =>
    intro u _ hu
    by_cases h : u < 10
    · rw [Lib.nDigits_small h]; omega
    · rw [Lib.nDigits_big h]
      have hk : 1 ≤ k := by
        cases k with
        | zero => simp at hu; omega
        | succ k => omega
      have := ih (u / 10) hk (by rw [Nat.pow_succ] at hu; omega)
      omega
theorem itoa_len {n : Int} (h : I64 n) : (Lib.itoa n).length ≤ 21 := by
  unfold I64 at h
  have hp : (10 : Nat) ^ 20 = 100000000000000000000 := by decide
  unfold Lib.itoa
  split
  · rw [List.length_cons, Lib.decDigits_length]
    have := nDigits_le 20 n.natAbs (by omega) (by omega)
    omega
  · rw [Lib.decDigits_length]
    have := nDigits_le 20 n.toNat (by omega) (by omega)
    omega
theorem txt_len (t : Tr) : (∀ x ∈ t.pre, I64 x.op ∧ I64 x.n) → (txtT t).length + 1 ≤ 60 * t.size := by
  induction t using Tr.ind with
  | h t ih =>
    intro hx
    have h0 := hx t (mem_pre_self t)
    have h1 := itoa_len h0.1
    have h2 := itoa_len h0.2
    have hz := t.size_pos
    by_cases hk : t.kids = []
    · rw [txtT_leaf t hk]
      have h3 : (leafT t.op t.n).length ≤ 22 := by
        unfold leafT
        rcases letL_cases t.op with ⟨_, e⟩ | ⟨_, e⟩ | ⟨_, e⟩ | ⟨_, _, _, e⟩ <;> rw [e] <;> simp <;> omega
      omega
    · rw [txtT_node t hk, Tr.size_eq]
      have key : ∀ l : List Tr, (∀ k ∈ l, (txtT k).length + 1 ≤ 60 * k.size) → (((l.map txtT).map (fun l => 32 :: l)).flatten).length ≤ 60 * (l.map Tr.size).sum := by
        intro l
        induction l with
        | nil => intro _; simp
        | cons x l ihl =>
          intro hl
          have g1 := hl x (by simp)
          have g2 := ihl (fun k hk => hl k (by simp [hk]))
          simp only [List.map_cons, List.flatten_cons, List.length_append, List.length_cons, List.sum_cons]
          omega
      have hkey := key t.kids (fun k hk2 => ih k hk2 (fun x hx2 => hx x (mem_pre_kid hk2 hx2)))
      have h26 : (if t.op = 26 then 47 :: Lib.itoa t.n else ([] : List UInt8)).length ≤ 22 := by split <;> simp <;> omega
      unfold rowT headT
      rw [List.take_length]
      simp only [List.length_cons, List.length_append, List.length_nil]
      omega
#print axioms txt_inj
#print axioms txt_len
end Go.Proofs.YtpmaagafcpaajaaDoor
