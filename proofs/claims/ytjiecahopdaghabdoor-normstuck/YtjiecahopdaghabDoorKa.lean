/- Rows of terms that grow; small laws of memory. -/
import Derived.Test.YtjiecahopdaghabDoorChecked
import Derived.Test.YtjiecahopdaghabDoorTree
import Derived.Deep.AppendLies
namespace Go.Proofs.YtjiecahopdaghabDoor
open Go.RowKit

/-- The cells of a row of trees that grows. -/
def KidsAt (w : World) (D : Nat → Prop) (f : Nat) (ts : List Tr) (xs : List Value) : Prop :=
  xs.length = ts.length * 3 ∧ ∀ (i : Nat) (h : i < ts.length), ∃ x0 x1 x2, xs[i * 3]? = some x0 ∧ xs[i * 3 + 1]? = some x1 ∧ xs[i * 3 + 2]? = some x2 ∧ TmD w D f ts[i] (.agg #[x0, x1, x2])

theorem KidsAt.nil (w : World) (D : Nat → Prop) (f : Nat) : KidsAt w D f [] [] := ⟨rfl, fun _ h => absurd h (by simp)⟩

theorem KidsAt.keep {w w' : World} {D D' : Nat → Prop} {f : Nat} {ts : List Tr} {xs : List Value} (h : KidsAt w D f ts xs) (hb : ∀ k, D k → w'.heap[k]? = w.heap[k]?) (hD : ∀ k, D k → D' k) : KidsAt w' D' f ts xs := by
  refine ⟨h.1, fun i hi => ?_⟩
  obtain ⟨x0, x1, x2, h0, h1, h2, h3⟩ := h.2 i hi
  exact ⟨x0, x1, x2, h0, h1, h2, h3.keep hb hD f _ _⟩

theorem KidsAt.snoc {w : World} {D : Nat → Prop} {f : Nat} {ts : List Tr} {xs : List Value} (h : KidsAt w D f ts xs) {t : Tr} {a b c : Value} (ht : TmD w D f t (.agg #[a, b, c])) : KidsAt w D f (ts ++ [t]) (xs ++ [a, b, c]) := by
  have hl := h.1
  refine ⟨by simp [hl]; omega, fun i hi => ?_⟩
  by_cases hlt : i < ts.length
  · obtain ⟨x0, x1, x2, h0, h1, h2, h3⟩ := h.2 i hlt
    refine ⟨x0, x1, x2, ?_, ?_, ?_, by rw [List.getElem_append_left hlt]; exact h3⟩
    · rw [List.getElem?_append_left (by omega)]; exact h0
    · rw [List.getElem?_append_left (by omega)]; exact h1
    · rw [List.getElem?_append_left (by omega)]; exact h2
  · have he : i = ts.length := by simp at hi; omega
    subst he
    refine ⟨a, b, c, ?_, ?_, ?_, by rw [List.getElem_append_right (Nat.le_refl _)]; simpa using ht⟩
    · rw [List.getElem?_append_right (by omega), hl]; simp
    · rw [List.getElem?_append_right (by omega), hl]; simp
    · rw [List.getElem?_append_right (by omega), hl]; simp

/-- The row that has grown, as a row of trees. -/
theorem KidsAt.row {w : World} {D D' : Nat → Prop} {f base n : Nat} {ts : List Tr} {xs : List Value} {v : Value} (h : KidsAt w D f ts xs) (hown : w.ownsRow base 26 3 v n xs) (hn : n = ts.length)
    (hD : ∀ g, v.ownBlock = some g → D' g) (hR : ∀ t u, TmD w D f t u → TmD w D' f t u) : ∃ a cap, v = .slice a ts.length cap ∧ RowAt w D' (TmD w D' f) ts a cap := by
  subst hn
  rcases hown.2 with ⟨rfl, h0⟩ | ⟨g, cap, cur, rfl, hg, hh, hc1, hc2, hcs, htk⟩
  · have := List.eq_nil_of_length_eq_zero h0
    subst this
    exact ⟨none, 0, rfl, RowAt.nil (by unfold maxLen; omega)⟩
  · refine ⟨_, cap, rfl, hc1, hc2, fun _ => ⟨g, 0, rfl, hD g rfl, fun i hi => ?_⟩⟩
    obtain ⟨x0, x1, x2, h0, h1, h2, h3⟩ := h.2 i hi
    have key : ∀ j u, xs[j]? = some u → w.cell? ⟨g, 0 + j, none⟩ = some u := fun j u hu => by
      have := hown.cells (g := g) rfl j u hu
      rwa [Addr.add_lit] at this
    refine ⟨x0, x1, x2, key _ _ h0, ?_, ?_, hR _ _ h3⟩
    · rw [Nat.add_assoc]; exact key _ _ h1
    · rw [Nat.add_assoc]; exact key _ _ h2

theorem owns_form {w : World} {base n size : Nat} {e : TypeId} {v : Value} {xs : List Value} (h : w.ownsRow base e size v n xs) : ∃ a cap, v = .slice a n cap ∧ n ≤ cap ∧ cap ≤ maxLen := by
  rcases h.2 with ⟨h, h0⟩ | ⟨g, cap, cur, hv, _, _, h1, h2, _⟩
  · exact ⟨none, 0, by rw [h0]; exact h, by omega, Nat.zero_le _⟩
  · exact ⟨_, cap, hv, h1, h2⟩

theorem owns_keep {w w' : World} {base : Nat} {e : TypeId} {size : Nat} {v : Value} {n : Nat} {xs : List Value} (h : w.ownsRow base e size v n xs) (hk : ∀ g, base ≤ g → g < w.heap.size → w'.heap[g]? = w.heap[g]?) : w'.ownsRow base e size v n xs := by
  obtain ⟨h1, h2⟩ := h
  refine ⟨h1, ?_⟩
  rcases h2 with h2 | ⟨g, cap, cur, hv, hg, hh, r⟩
  · exact Or.inl h2
  · exact Or.inr ⟨g, cap, cur, hv, hg, by rw [hk g hg (size_of_block hh)]; exact hh, r⟩

theorem owns_same {w w' : World} {base n size : Nat} {e : TypeId} {v : Value} {xs : List Value} (h : w.ownsRow base e size v n xs) (hs : ∀ g, v.ownBlock = some g → w'.heap[g]? = w.heap[g]?) : w'.ownsRow base e size v n xs := by
  refine ⟨h.1, h.2.imp id ?_⟩
  rintro ⟨g, cap, cur, rfl, h1, h2, h3⟩
  exact ⟨g, cap, cur, rfl, h1, (hs g rfl).trans h2, h3⟩
theorem size_drew (w : World) : w.drew.heap.size = w.heap.size := rfl
theorem later_drew (w : World) (o : Obj) : Below w.heap.size w (w.alloc o).drew := by
  have := (Below.refl w.heap.size w).alloc (Nat.le_refl _) o
  exact ⟨this.os, this.tape, this.output, this.size, this.block⟩
theorem later_alloc (w : World) (o : Obj) : Below w.heap.size w (w.alloc o) := (Below.refl _ _).alloc (Nat.le_refl _) o
theorem hide {p : Prop} (h : p) : Hid p := h
theorem cells_z {w : World} {b : Nat} {x y z : Value} {T : TypeId} (h : w.heap[b]? = some (.cells #[x, y, z] T (0, 0))) :
    ((∀ o, (w.alloc o).cell? ⟨b, 0, none⟩ = some x) ∧ (∀ o, (w.alloc o).cell? ⟨b, 1, none⟩ = some y) ∧ (∀ o, (w.alloc o).cell? ⟨b, 2, none⟩ = some z)) ∧
    ((∀ o, (w.alloc o).frozen? ⟨b, 0, none⟩ = false) ∧ (∀ o, (w.alloc o).frozen? ⟨b, 1, none⟩ = false) ∧ (∀ o, (w.alloc o).frozen? ⟨b, 2, none⟩ = false)) := by
  have ha : ∀ o, (w.alloc o).heap[b]? = some (.cells #[x, y, z] T (0, 0)) := fun o => (Below.heap_alloc w o b (size_of_block h)).trans h
  exact ⟨⟨fun o => by rw [cell_of_block (ha o)]; rfl, fun o => by rw [cell_of_block (ha o)]; rfl, fun o => by rw [cell_of_block (ha o)]; rfl⟩, fun o => frozen_of_block (ha o) 0, fun o => frozen_of_block (ha o) 1, fun o => frozen_of_block (ha o) 2⟩

theorem blk3 {w : World} {b : Nat} {x y z : Value} {T : TypeId} {fr : Nat × Nat} (h : w.heap[b]? = some (.cells #[x, y, z] T fr)) : w.cell? ⟨b, 0, none⟩ = some x ∧ w.cell? ⟨b, 1, none⟩ = some y ∧ w.cell? ⟨b, 2, none⟩ = some z := by
  refine ⟨?_, ?_, ?_⟩ <;> (rw [cell_of_block h]; rfl)

theorem i64_range (x : Int) : I64 (IntKind.i64.wrap x) := by
  unfold I64
  rw [IntKind.wrap_i64]
  omega

theorem Tryd.info26 : (Tryd.prog.info? 26).map (fun i => (i.zero, i.size, i.bytes)) = some (some (.agg #[.int .i64 0, .int .i64 0, .slice none 0 0]), 3, 40) := by kernel_rfl
/-- One tree of a row. -/
theorem RowAt.form {w : World} {D : Nat → Prop} {f : Nat} {ts : List Tr} {a : Option Addr} {cap k : Nat} (h : RowAt w D (TmD w D f) ts a cap) (hlt : k < ts.length) :
    ∃ b off ka kc, a = some ⟨b, off, none⟩ ∧ D b ∧ w.cell? ⟨b, off + k * 3, none⟩ = some (.int .i64 ts[k].op) ∧ w.cell? ⟨b, off + k * 3 + 1, none⟩ = some (.int .i64 ts[k].n) ∧ w.cell? ⟨b, off + k * 3 + 2, none⟩ = some (.slice ka ts[k].kids.length kc) ∧
      TmD w D f ts[k] (.agg #[.int .i64 ts[k].op, .int .i64 ts[k].n, .slice ka ts[k].kids.length kc]) := by
  obtain ⟨b, off, rfl, hb, hx⟩ := h.2.2 (by intro e; simp [e] at hlt)
  obtain ⟨x0, x1, x2, e0, e1, e2, hr⟩ := hx k hlt
  have hr2 := hr
  cases f with
  | zero => exact hr2.elim
  | succ f =>
    obtain ⟨ka, kc, hv, _, _, _⟩ := hr2
    simp only [Value.agg.injEq, Array.mk.injEq, List.cons.injEq, and_true] at hv
    obtain ⟨rfl, rfl, rfl⟩ := hv
    exact ⟨b, off, ka, kc, rfl, hb, e0, e1, e2, hr⟩
theorem TmD.shape {w : World} {D : Nat → Prop} {f : Nat} {t : Tr} {v : Value} (h : TmD w D f t v) : ∃ a cap, v = .agg #[.int .i64 t.op, .int .i64 t.n, .slice a t.kids.length cap] ∧ t.kids.length ≤ cap ∧ cap ≤ maxLen ∧ I64 t.op ∧ I64 t.n := by
  match f, h with
  | f + 1, ⟨a, cap, hv, h1, h2, h3⟩ => exact ⟨a, cap, hv, h3.1, h3.2.1, h1, h2⟩
theorem TmAt.fr {w w' : World} {M : Nat → Prop} {B f : Nat} {t : Tr} {v : Value} (h : TmAt w B f t v) (hf : Fr M w w') (hB : B ≤ w.heap.size) (hM : ∀ k, k < B → ¬ M k) : TmAt w' B f t v :=
  TmD.keep (fun q hq => hf.block q (Nat.lt_of_lt_of_le hq hB) (hM q hq)) (fun _ h => h) f t v h
#print axioms KidsAt.row
end Go.Proofs.YtjiecahopdaghabDoor
