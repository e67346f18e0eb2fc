/- What is read from a term's bytes, from fewer, from one more. -/
import Derived.Test.YtafafeplciidhaaInj
import Derived.Test.YtafafeplciidhaaPs
import Derived.Test.YtafafeplciidhaaSm
namespace Go.Proofs.Ytafafeplciidhaa
open Go.RowKit

/-- No deeper than so. -/
def dep : Nat → Tr → Prop
  | 0, _ => False
  | f + 1, t => ∀ k ∈ t.kids, dep f k

theorem dep_of {w : World} {D : Nat → Prop} (f : Nat) : ∀ t v, TmD w D f t v → dep f t := by
  induction f with
  | zero => intro t v h; exact h
  | succ f ih =>
    rintro t v ⟨a, cap, rfl, _, _, hr⟩ k hk
    obtain ⟨b, off, _, _, hx⟩ := hr.2.2 (fun e => by rw [e] at hk; cases hk)
    obtain ⟨i, hi, rfl⟩ := List.getElem_of_mem hk
    obtain ⟨x0, x1, x2, _, _, _, h3⟩ := hx i hi
    exact ih _ _ h3

theorem dep_more {f : Nat} : ∀ {g : Nat} {t : Tr}, dep f t → f ≤ g → dep g t := by
  induction f with
  | zero => intro g t h; exact h.elim
  | succ f ih =>
    intro g t h hg
    match g, hg with
    | g + 1, hg => exact fun k hk => ih (h k hk) (by omega)

theorem num_hd (op n : Int) (len : Nat) (hn : I64 n) (r : List Int) : numOf (hd op n len ++ r) = n := by
  unfold numOf sum8 hd
  have h := wrap_range n
  have e : IntKind.u64.wrap n % 256 + IntKind.u64.wrap n / 256 % 256 * 256 + IntKind.u64.wrap n / 65536 % 256 * 65536 + IntKind.u64.wrap n / 16777216 % 256 * 16777216 + IntKind.u64.wrap n / 4294967296 % 256 * 4294967296 + IntKind.u64.wrap n / 1099511627776 % 256 * 1099511627776 + IntKind.u64.wrap n / 281474976710656 % 256 * 281474976710656 + IntKind.u64.wrap n / 72057594037927936 % 256 * 72057594037927936 = IntKind.u64.wrap n := by omega
  simp only [List.cons_append, List.getD_cons_succ, List.getD_cons_zero]
  rw [e, IntKind.wrap_u64, IntKind.wrap_i64]
  unfold I64 at hn
  omega

theorem row_enc (d : Nat) (hd : ∀ (t : Tr) (n : Nat) (r : List Int), dep d t → (∀ x ∈ t.pre, Node x) → n + t.size ≤ 3000 → termP d n (enc t ++ r) = .ok (t, n + t.size, r)) :
    ∀ (ks : List Tr) (n : Nat) (r : List Int), (∀ k ∈ ks, dep d k) → (∀ k ∈ ks, ∀ x ∈ k.pre, Node x) → n + (ks.map Tr.size).sum ≤ 3000 → rowP (termP d) ks.length n ((ks.map enc).flatten ++ r) = .ok (ks, n + (ks.map Tr.size).sum, r)
  | [], n, r, _, _, _ => by simp [rowP]
  | k :: ks, n, r, h1, h2, h3 => by
    rw [List.map_cons, List.sum_cons] at h3
    have e1 := hd k n ((ks.map enc).flatten ++ r) (h1 k (by simp)) (h2 k (by simp)) (by omega)
    have e2 := row_enc d hd ks (n + k.size) r (fun q hq => h1 q (by simp [hq])) (fun q hq => h2 q (by simp [hq])) (by omega)
    rw [List.map_cons, List.flatten_cons, List.append_assoc, List.length_cons, rowP, e1]
    simp only
    rw [e2]
    simp only [List.map_cons, List.sum_cons, Nat.add_assoc]

theorem hd_last (op n : Int) (len : Nat) (h : len ≤ 255) (r : List Int) : ((hd op n len ++ r).getD 9 0).toNat = len ∧ (hd op n len ++ r).drop 10 = r ∧ ¬ (hd op n len ++ r).length < 10 := by
  refine ⟨?_, ?_, ?_⟩
  · unfold hd; simp only [List.cons_append, List.getD_cons_succ, List.getD_cons_zero]; omega
  · exact List.drop_left' (hd_length _ _ _)
  · rw [List.length_append, hd_length]; omega

theorem hd_first (op n : Int) (len : Nat) (h0 : 0 ≤ op) (h : op < 256) (r : List Int) : (hd op n len ++ r).getD 0 0 = op := by
  unfold hd; simp only [List.cons_append, List.getD_cons_zero]; omega

theorem term_enc (d : Nat) : ∀ (t : Tr) (n : Nat) (r : List Int), dep d t → (∀ x ∈ t.pre, Node x) → n + t.size ≤ 3000 → termP d n (enc t ++ r) = .ok (t, n + t.size, r) := by
  induction d with
  | zero => intro t n r h; exact h.elim
  | succ d ih =>
    intro t n r h1 h2 h3
    obtain ⟨a1, a2, a3, a4⟩ := h2 t (mem_pre_self t)
    have hs := t.size_eq
    have hr := row_enc d ih t.kids (n + 1) r h1 (fun k hk x hx => h2 x (mem_pre_kid hk hx)) (by omega)
    obtain ⟨e1, e2, e3⟩ := hd_last t.op t.n t.kids.length a4 ((t.kids.map enc).flatten ++ r)
    rw [enc_eq, List.append_assoc, termP, if_neg (by omega), if_neg e3, e1, e2, hr]
    simp only [num_hd _ _ _ a3, hd_first _ _ _ a1 a2]
    rw [show n + 1 + (t.kids.map Tr.size).sum = n + t.size by omega]
    cases t; rfl

theorem row_cut (d : Nat) (hd : ∀ (t : Tr) (n m : Nat), dep d t → (∀ x ∈ t.pre, Node x) → n + t.size ≤ 3000 → m < (enc t).length → termP d n ((enc t).take m) = .error 2) :
    ∀ (ks : List Tr) (n m : Nat), (∀ k ∈ ks, dep d k) → (∀ k ∈ ks, ∀ x ∈ k.pre, Node x) → n + (ks.map Tr.size).sum ≤ 3000 → m < ((ks.map enc).flatten).length → rowP (termP d) ks.length n (((ks.map enc).flatten).take m) = .error 2
  | [], n, m, _, _, _, h => by simp at h
  | k :: ks, n, m, h1, h2, h3, h4 => by
    rw [List.map_cons, List.sum_cons] at h3
    rw [List.map_cons, List.flatten_cons, List.length_append] at h4
    rw [List.map_cons, List.flatten_cons, List.length_cons, rowP, List.take_append]
    by_cases hm : m < (enc k).length
    · have e1 := hd k n m (h1 k (by simp)) (h2 k (by simp)) (by omega) hm
      rw [show m - (enc k).length = 0 by omega, List.take_zero, List.append_nil, e1]
    · have e1 := term_enc d k n (((ks.map enc).flatten).take (m - (enc k).length)) (h1 k (by simp)) (h2 k (by simp)) (by omega)
      have e2 := row_cut d hd ks (n + k.size) (m - (enc k).length) (fun q hq => h1 q (by simp [hq])) (fun q hq => h2 q (by simp [hq])) (by omega) (by omega)
      rw [List.take_of_length_le (by omega), e1]
      simp only
      rw [e2]

theorem term_cut (d : Nat) : ∀ (t : Tr) (n m : Nat), dep d t → (∀ x ∈ t.pre, Node x) → n + t.size ≤ 3000 → m < (enc t).length → termP d n ((enc t).take m) = .error 2 := by
  induction d with
  | zero => intro t n m h; exact h.elim
  | succ d ih =>
    intro t n m h1 h2 h3 h4
    obtain ⟨a1, a2, a3, a4⟩ := h2 t (mem_pre_self t)
    have hs := t.size_eq
    rw [enc_eq, List.length_append, hd_length] at h4
    rw [enc_eq, List.take_append, hd_length]
    by_cases hm : m < 10
    · rw [termP, if_neg (by omega), if_pos (by simp [hd_length]; omega)]
    · have hr := row_cut d ih t.kids (n + 1) (m - 10) h1 (fun k hk x hx => h2 x (mem_pre_kid hk hx)) (by omega) (by omega)
      rw [List.take_of_length_le (by rw [hd_length]; omega)]
      obtain ⟨e1, e2, e3⟩ := hd_last t.op t.n t.kids.length a4 (((t.kids.map enc).flatten).take (m - 10))
      rw [termP, if_neg (by omega), if_neg e3, e1, e2, hr]

theorem parse_enc (t : Tr) (h1 : dep 120 t) (h2 : ∀ x ∈ t.pre, Node x) (h3 : t.size ≤ 3000) : parseP (enc t) = .ok t := by
  have h := term_enc 120 t 0 [] h1 h2 (by omega)
  rw [List.append_nil] at h
  unfold parseP
  rw [h]
  rfl

theorem parse_more (t : Tr) (x : Int) (h1 : dep 120 t) (h2 : ∀ x ∈ t.pre, Node x) (h3 : t.size ≤ 3000) : parseP (enc t ++ [x]) = .error 3 := by
  have h := term_enc 120 t 0 [x] h1 h2 (by omega)
  unfold parseP
  rw [h]
  rfl

theorem parse_cut (t : Tr) (m : Nat) (h1 : dep 120 t) (h2 : ∀ x ∈ t.pre, Node x) (h3 : t.size ≤ 3000) (hm : m < (enc t).length) : parseP ((enc t).take m) = .error 2 := by
  have h := term_cut 120 t 0 m h1 h2 (by omega) hm
  unfold parseP
  rw [h]

/-- What was read is what was written. -/
theorem row_back (d : Nat) (hd : ∀ (n : Nat) (l : List Int) (t : Tr) (n' : Nat) (r : List Int), Byt l → termP d n l = .ok (t, n', r) → l = enc t ++ r ∧ ∀ x ∈ t.pre, Node x) :
    ∀ (k n : Nat) (l : List Int) (ts : List Tr) (n' : Nat) (r : List Int), Byt l → rowP (termP d) k n l = .ok (ts, n', r) → l = (ts.map enc).flatten ++ r ∧ ts.length = k ∧ ∀ t ∈ ts, ∀ x ∈ t.pre, Node x
  | 0, n, l, ts, n', r, _, h => by
    simp only [rowP, Except.ok.injEq, Prod.mk.injEq] at h
    obtain ⟨rfl, rfl, rfl⟩ := h
    exact ⟨rfl, rfl, fun t ht => by cases ht⟩
  | k + 1, n, l, ts, n', r, hb, h => by
    rw [rowP] at h
    cases h1 : termP d n l with
    | error e => rw [h1] at h; cases h
    | ok p =>
      obtain ⟨t, n1, l1⟩ := p
      rw [h1] at h
      simp only at h
      cases h2 : rowP (termP d) k n1 l1 with
      | error e => rw [h2] at h; cases h
      | ok q =>
        obtain ⟨ts', n2, l2⟩ := q
        rw [h2] at h
        simp only [Except.ok.injEq, Prod.mk.injEq] at h
        obtain ⟨rfl, rfl, rfl⟩ := h
        obtain ⟨e1, g1⟩ := hd n l t n1 l1 hb h1
        have hb1 : Byt l1 := fun x hx => hb x (by rw [e1]; simp [hx])
        obtain ⟨e2, g2, g3⟩ := row_back d hd k n1 l1 ts' n2 l2 hb1 h2
        refine ⟨by rw [e1, e2, List.map_cons, List.flatten_cons, List.append_assoc], by simp [g2], fun q hq => ?_⟩
        rcases List.mem_cons.1 hq with rfl | hq
        · exact g1
        · exact g3 q hq

theorem term_back (d : Nat) : ∀ (n : Nat) (l : List Int) (t : Tr) (n' : Nat) (r : List Int), Byt l → termP d n l = .ok (t, n', r) → l = enc t ++ r ∧ ∀ x ∈ t.pre, Node x := by
  induction d with
  | zero => intro n l t n' r _ h; cases h
  | succ d ih =>
    intro n l t n' r hb h
    rw [termP] at h
    by_cases c1 : n = 3000
    · rw [if_pos c1] at h; cases h
    · rw [if_neg c1] at h
      by_cases c2 : l.length < 10
      · rw [if_pos c2] at h; cases h
      · rw [if_neg c2] at h
        obtain ⟨b0, b1, b2, b3, b4, b5, b6, b7, b8, b9, l', rfl⟩ := ten (l := l) (by omega)
        cases h2 : rowP (termP d) ((b0 :: b1 :: b2 :: b3 :: b4 :: b5 :: b6 :: b7 :: b8 :: b9 :: l').getD 9 0).toNat (n + 1) ((b0 :: b1 :: b2 :: b3 :: b4 :: b5 :: b6 :: b7 :: b8 :: b9 :: l').drop 10) with
        | error e => rw [h2] at h; cases h
        | ok q =>
          obtain ⟨ts, n2, l2⟩ := q
          rw [h2] at h
          simp only [Except.ok.injEq, Prod.mk.injEq] at h
          obtain ⟨rfl, rfl, rfl⟩ := h
          obtain ⟨e1, e2, e3⟩ := row_back d ih _ _ _ _ _ _ (hb.drop 10) h2
          have g0 := hb b0 (by simp)
          have g1 := hb b1 (by simp)
          have g2 := hb b2 (by simp)
          have g3 := hb b3 (by simp)
          have g4 := hb b4 (by simp)
          have g5 := hb b5 (by simp)
          have g6 := hb b6 (by simp)
          have g7 := hb b7 (by simp)
          have g8 := hb b8 (by simp)
          have g9 := hb b9 (by simp)
          have e4 : l' = (ts.map enc).flatten ++ l2 := e1
          have e5 : ts.length = b9.toNat := e2
          have hnum : I64 (numOf (b0 :: b1 :: b2 :: b3 :: b4 :: b5 :: b6 :: b7 :: b8 :: b9 :: l')) := by
            unfold numOf I64; rw [IntKind.wrap_i64]; omega
          refine ⟨?_, ?_⟩
          · rw [enc_eq, List.append_assoc, ← e4]
            simp only [List.getD_cons_zero]
            have hw : IntKind.u64.wrap (numOf (b0 :: b1 :: b2 :: b3 :: b4 :: b5 :: b6 :: b7 :: b8 :: b9 :: l')) = b1 + b2 * 256 + b3 * 65536 + b4 * 16777216 + b5 * 4294967296 + b6 * 1099511627776 + b7 * 281474976710656 + b8 * 72057594037927936 := by
              unfold numOf sum8
              simp only [List.getD_cons_succ, List.getD_cons_zero]
              rw [IntKind.wrap_u64, IntKind.wrap_i64]
              omega
            unfold hd
            rw [hw, e5]
            simp only [List.cons_append, List.nil_append, List.cons.injEq, and_true]
            refine ⟨?_, ?_, ?_, ?_, ?_, ?_, ?_, ?_, ?_, ?_⟩ <;> omega
          · intro x hx
            rw [Tr.pre_eq, List.mem_cons] at hx
            rcases hx with rfl | hx
            · exact ⟨g0.1, g0.2, hnum, by simp only; omega⟩
            · obtain ⟨m, hm, hx⟩ := List.mem_flatten.1 hx
              obtain ⟨y, hy, rfl⟩ := List.mem_map.1 hm
              exact e3 y hy x hx

theorem parse_back (t t' : Tr) (ht : ∀ x ∈ t.pre, Node x) (hb : Byt (enc t)) (h : parseP (enc t) = .ok t') : t' = t := by
  unfold parseP at h
  cases h1 : termP 120 0 (enc t) with
  | error e => rw [h1] at h; cases h
  | ok p =>
    obtain ⟨s, n, r⟩ := p
    rw [h1] at h
    simp only at h
    by_cases hr : r = []
    · rw [if_pos hr] at h
      cases h
      obtain ⟨e1, e2⟩ := term_back 120 0 _ _ _ _ hb h1
      rw [hr, List.append_nil] at e1
      exact (enc_inj t t' ht e2 e1).symm
    · rw [if_neg hr] at h; cases h
#print axioms parse_back
end Go.Proofs.Ytafafeplciidhaa
