/- Two unlike trees, of Ops from 0 to 255 and at most 255 kids each, have other bytes. -/
import Derived.Test.YtafafeplciidhaaWe
import Derived.Test.YtafafeplciidhaaPl
namespace Go.Proofs.Ytafafeplciidhaa
open Go.RowKit

/-- What may stand in a node. -/
def Node (x : Tr) : Prop := 0 ≤ x.op ∧ x.op < 256 ∧ I64 x.n ∧ x.kids.length ≤ 255

theorem enc_eq (t : Tr) : enc t = hd t.op t.n t.kids.length ++ (t.kids.map enc).flatten := by
  have e : ∀ ks : List Tr, encL ((ks.map Tr.pre).flatten) = (ks.map enc).flatten := by
    intro ks
    induction ks with
    | nil => rfl
    | cons k ks ih =>
      have ap : ∀ a b, encL (a ++ b) = encL a ++ encL b := fun a b => by simp [encL]
      rw [List.map_cons, List.flatten_cons, ap, ih]
      rfl
  rw [enc, Tr.pre_eq, ← e]
  rfl

theorem bytes8 (x y : Int) (hx : 0 ≤ x ∧ x < 18446744073709551616) (hy : 0 ≤ y ∧ y < 18446744073709551616) (h0 : x % 256 = y % 256) (h1 : x / 256 % 256 = y / 256 % 256) (h2 : x / 65536 % 256 = y / 65536 % 256) (h3 : x / 16777216 % 256 = y / 16777216 % 256)
    (h4 : x / 4294967296 % 256 = y / 4294967296 % 256) (h5 : x / 1099511627776 % 256 = y / 1099511627776 % 256) (h6 : x / 281474976710656 % 256 = y / 281474976710656 % 256) (h7 : x / 72057594037927936 % 256 = y / 72057594037927936 % 256) : x = y := by
  omega

theorem wrap_inj (n m : Int) (hn : I64 n) (hm : I64 m) (h : IntKind.u64.wrap n = IntKind.u64.wrap m) : n = m := by
  unfold I64 at hn hm
  rw [IntKind.wrap_u64, IntKind.wrap_u64] at h
  omega

theorem wrap_range (n : Int) : 0 ≤ IntKind.u64.wrap n ∧ IntKind.u64.wrap n < 18446744073709551616 := by
  rw [IntKind.wrap_u64]
  omega

theorem hd_inj (x y : Tr) (hx : Node x) (hy : Node y) (h : hd x.op x.n x.kids.length = hd y.op y.n y.kids.length) : x.op = y.op ∧ x.n = y.n ∧ x.kids.length = y.kids.length := by
  obtain ⟨a1, a2, a3, a4⟩ := hx
  obtain ⟨c1, c2, c3, c4⟩ := hy
  simp only [hd, List.cons.injEq, and_true] at h
  obtain ⟨h, h0, h1, h2, h3, h4, h5, h6, h7, h8⟩ := h
  refine ⟨by omega, wrap_inj _ _ a3 c3 (bytes8 _ _ (wrap_range _) (wrap_range _) h0 h1 h2 h3 h4 h5 h6 h7), by omega⟩

theorem kids_inj : ∀ (ks ks' : List Tr) (r r' : List Int), ks.length = ks'.length → (∀ k ∈ ks, ∀ (s : Tr) (r r' : List Int), (∀ x ∈ s.pre, Node x) → enc k ++ r = enc s ++ r' → k = s ∧ r = r') →
    (∀ k ∈ ks', ∀ x ∈ k.pre, Node x) → (ks.map enc).flatten ++ r = (ks'.map enc).flatten ++ r' → ks = ks' ∧ r = r'
  | [], [], r, r', _, _, _, h => ⟨rfl, by simpa using h⟩
  | k :: ks, k' :: ks', r, r', hl, hk, hn, h => by
    simp only [List.map_cons, List.flatten_cons, List.append_assoc] at h
    obtain ⟨h1, h2⟩ := hk k (by simp) k' _ _ (hn k' (by simp)) h
    obtain ⟨h3, h4⟩ := kids_inj ks ks' r r' (by simpa using hl) (fun q hq => hk q (by simp [hq])) (fun q hq => hn q (by simp [hq])) h2
    exact ⟨by rw [h1, h3], h4⟩

theorem mem_pre_self (t : Tr) : t ∈ t.pre := by rw [Tr.pre_eq]; simp
theorem mem_pre_kid {t k x : Tr} (hk : k ∈ t.kids) (hx : x ∈ k.pre) : x ∈ t.pre := by
  rw [Tr.pre_eq]
  refine List.mem_cons_of_mem _ (List.mem_flatten.2 ⟨k.pre, List.mem_map_of_mem hk, hx⟩)

theorem enc_pre_inj (t : Tr) : (∀ x ∈ t.pre, Node x) → ∀ (s : Tr) (r r' : List Int), (∀ x ∈ s.pre, Node x) → enc t ++ r = enc s ++ r' → t = s ∧ r = r' := by
  induction t using Tr.ind with
  | h t ih =>
    intro ht s r r' hs h
    rw [enc_eq t, enc_eq s, List.append_assoc, List.append_assoc] at h
    have h1 := congrArg (List.take 10) h
    rw [List.take_left' (hd_length _ _ _), List.take_left' (hd_length _ _ _)] at h1
    have h2 := congrArg (List.drop 10) h
    rw [List.drop_left' (hd_length _ _ _), List.drop_left' (hd_length _ _ _)] at h2
    obtain ⟨e1, e2, e3⟩ := hd_inj t s (ht t (mem_pre_self t)) (hs s (mem_pre_self s)) h1
    obtain ⟨e4, e5⟩ := kids_inj t.kids s.kids r r' e3 (fun k hk => ih k hk (fun x hx => ht x (mem_pre_kid hk hx))) (fun k hk x hx => hs x (mem_pre_kid hk hx)) h2
    exact ⟨by cases t; cases s; simp at *; exact ⟨e1, e2, e4⟩, e5⟩

theorem enc_inj (t s : Tr) (ht : ∀ x ∈ t.pre, Node x) (hs : ∀ x ∈ s.pre, Node x) (h : enc t = enc s) : t = s :=
  (enc_pre_inj t ht s [] [] hs (by simpa using h)).1

/-- A raw term's numbers: 64 bits each. -/
def Raw64 (t : Tr) : Prop := ∀ x ∈ t.pre, I64 x.n

theorem plain_node (t : Tr) : Raw64 t → ∀ x ∈ t.plain.pre, Node x := by
  induction t using Tr.ind with
  | h t ih =>
    intro ht x hx
    rw [Tr.pre_eq] at hx
    have hw := wi_256 t.op
    rcases List.mem_cons.1 hx with rfl | hx
    · rw [Tr.plain_eq]
      exact ⟨hw.1, hw.2, ht t (mem_pre_self t), by simp; omega⟩
    · obtain ⟨l, hl, hx⟩ := List.mem_flatten.1 hx
      obtain ⟨k, hk, rfl⟩ := List.mem_map.1 hl
      rw [Tr.plain_eq] at hk
      obtain ⟨q, hq, rfl⟩ := List.mem_map.1 (List.mem_of_mem_take hk)
      exact ih q hq (fun y hy => ht y (mem_pre_kid hq hy)) x hx

theorem sum_take_map_le {α : Type} (l : List α) (f g : α → Nat) (k : Nat) (h : ∀ x ∈ l, f x ≤ g x) : ((l.map f).take k).sum ≤ (l.map g).sum := by
  induction l generalizing k with
  | nil => simp
  | cons x l ih =>
    cases k with
    | zero => simp
    | succ k =>
      simp only [List.map_cons, List.take_succ_cons, List.sum_cons]
      have h1 := ih k (fun y hy => h y (by simp [hy]))
      have h2 := h x (by simp)
      omega

theorem plain_size (t : Tr) : t.plain.size ≤ t.size := by
  induction t using Tr.ind with
  | h t ih =>
    rw [Tr.size_eq t, Tr.size_eq t.plain, Tr.plain_eq]
    have := sum_take_map_le t.kids (fun k => k.plain.size) Tr.size 255 ih
    simp only [List.map_take, List.map_map] at this ⊢
    have e : Tr.size ∘ Tr.plain = fun k => k.plain.size := rfl
    rw [e]
    omega
#print axioms enc_inj
end Go.Proofs.Ytafafeplciidhaa
