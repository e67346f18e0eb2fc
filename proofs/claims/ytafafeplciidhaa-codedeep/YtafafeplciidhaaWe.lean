/- Bytes: a term's bytes, whatever term it is. -/
import Derived.Test.YtafafeplciidhaaWp
import Derived.Test.YtafafeplciidhaaWw
namespace Go.Proofs.Ytafafeplciidhaa
open Go.RowKit

/-- The numbers of the heads of a list of trees. -/
def encL (l : List Tr) : List Int := (l.map (fun x => hd x.op x.n x.kids.length)).flatten

/-- A tree's bytes. -/
def enc (t : Tr) : List Int := encL t.pre

theorem encL_length (l : List Tr) : (encL l).length = l.length * 10 := by
  unfold encL
  induction l with
  | nil => rfl
  | cons x l ih => rw [List.map_cons, List.flatten_cons, List.length_append, ih, hd_length, List.length_cons]; omega

theorem encL_snoc (l : List Tr) (x : Tr) : encL (l ++ [x]) = encL l ++ hd x.op x.n x.kids.length := by simp [encL]

def JC (wb : Nat) (done : List Tr) (w : World) : Prop := w.heap[wb]? = some (.cells #[.int .i64 (done.length : Nat), .slice none 0 0, .int .i64 0] 54 (0, 0))

def JP (wb g N : Nat) (done : List Tr) (w : World) : Prop :=
  w.heap[wb]? = some (.cells #[.int .i64 (N : Nat), .slice (some ⟨g, 0, none⟩) (N * 10) (N * 10), .int .i64 ((done.length * 10 : Nat) : Int)] 54 (0, 0)) ∧
  ∃ cur : List Value, w.heap[g]? = some (.cells cur.toArray 5 (0, 0)) ∧ cur.length = N * 10 ∧ cur.take (done.length * 10) = bys (encL done)

theorem cf25 (args : Array Value) (w : World) : (callFunc 25 args).run Try.prog w = .ok (.enter 25 args) w := by
  have h : (Try.f25.name == "runtime.NumGoroutine") = false := by kernel_rfl
  have h2 : Try.f25.body.isNone = false := by kernel_rfl
  have h3 : Try.prog.funcs[25]? = some Try.f25 := Try.func25
  have h4 : ¬ Try.f25.name = "runtime.NumGoroutine" := fun e => by rw [e] at h; simp at h
  have h5 : ¬ Try.f25.body = none := fun e => by rw [e] at h2; cases h2
  simp [callFunc, h3, h4, h5]

theorem cf26 (args : Array Value) (w : World) : (callFunc 26 args).run Try.prog w = .ok (.enter 26 args) w := by
  have h : (Try.f26.name == "runtime.NumGoroutine") = false := by kernel_rfl
  have h2 : Try.f26.body.isNone = false := by kernel_rfl
  have h3 : Try.prog.funcs[26]? = some Try.f26 := Try.func26
  have h4 : ¬ Try.f26.name = "runtime.NumGoroutine" := fun e => by rw [e] at h; simp at h
  have h5 : ¬ Try.f26.body = none := fun e => by rw [e] at h2; cases h2
  simp [callFunc, h3, h4, h5]

theorem walk_count (wb B f : Nat) (t : Tr) (v : Value) (w : World) (h : TmAt w B f t v) (hB : B ≤ w.heap.size) (hwb : B ≤ wb) (h0 : JC wb [] w) (hsz : t.size ≤ 6000) :
    Calls Try.prog 24 #[v, .func (.func 25) #[.pointer (some ⟨wb, 0, none⟩)] #[]] w fun e w' => e = .returned (.tuple #[]) ∧ Fr (fun k => k = wb) w w' ∧ JC wb t.pre w' := by
  refine walk_any 25 wb B f (fun k => k = wb) (fun _ => True) (JC wb) t v w cf25 ?_ ?_ h hB ?_ h0 (fun _ _ => trivial) hsz
  · intro done w w' hj hk
    exact (hk wb rfl).trans hj
  · rintro done x g u w hj hx _ _ hdl
    obtain ⟨g, rfl⟩ : ∃ g', g = g' + 1 := by cases g with | zero => exact hx.elim | succ g => exact ⟨g, rfl⟩
    obtain ⟨a, cap, rfl, _⟩ := hx
    refine (count_m wb done.length _ _ _ (.slice none 0 0) (.int .i64 0) w (by omega) hj).mono ?_
    rintro e w' ⟨rfl, h1, h2⟩
    exact ⟨rfl, h1, by unfold JC; rw [List.length_append]; exact h2⟩
  · rintro k rfl
    exact ⟨hwb, size_of_block h0⟩

theorem walk_put (wb g N B f : Nat) (t : Tr) (v : Value) (w : World) (h : TmAt w B f t v) (hB : B ≤ w.heap.size) (hwb : B ≤ wb) (hwg : wb < g) (h0 : JP wb g N [] w) (hN : N = t.size) (hsz : t.size ≤ 6000) (hG : ∀ x ∈ t.pre, x.kids.length ≤ 255) :
    Calls Try.prog 24 #[v, .func (.func 26) #[.pointer (some ⟨wb, 0, none⟩)] #[]] w fun e w' => e = .returned (.tuple #[]) ∧ Fr (fun k => k = wb ∨ k = g) w w' ∧ JP wb g N t.pre w' := by
  refine walk_any 26 wb B f (fun k => k = wb ∨ k = g) (fun x => x.kids.length ≤ 255) (JP wb g N) t v w cf26 ?_ ?_ h hB ?_ h0 hG hsz
  · rintro done w w' ⟨h1, cur, h2, h3⟩ hk
    exact ⟨(hk wb (Or.inl rfl)).trans h1, cur, (hk g (Or.inr rfl)).trans h2, h3⟩
  · rintro done x q u w ⟨hj1, cur, hj2, hj3, hj4⟩ hx _ hG hdl
    obtain ⟨q, rfl⟩ : ∃ q', q = q' + 1 := by cases q with | zero => exact hx.elim | succ q => exact ⟨q, rfl⟩
    obtain ⟨a, cap, rfl, ho, hn, _⟩ := hx
    refine (put_m wb g N (N * 10) (done.length * 10) cur x.op x.n a x.kids.length cap w ho hn hG (by omega) (by omega) hj1 hj2 hj3 hwg).mono ?_
    rintro e w' ⟨rfl, h1, h2, h3⟩
    refine ⟨rfl, h1, ?_, _, h3, ?_, ?_⟩
    · rw [List.length_append, h2]
      congr 5
      simp
      omega
    · rw [length_splice _ _ _ (by simp [bys, hd_length]; omega)]; exact hj3
    · rw [encL_snoc, List.length_append]
      unfold splice
      have hb : (bys (hd x.op x.n x.kids.length)).length = 10 := by simp [bys, hd_length]
      have h10 : (cur.take (done.length * 10)).length = done.length * 10 := by rw [List.length_take]; omega
      rw [← List.append_assoc, List.take_append_of_le_length (by rw [List.length_append, h10, hb]; simp; omega), List.take_of_length_le (by rw [List.length_append, h10, hb]; simp; omega), hj4]
      simp [bys]
  · rintro k (rfl | rfl)
    · exact ⟨hwb, size_of_block h0.1⟩
    · obtain ⟨_, cur, h2, _⟩ := h0
      exact ⟨by omega, size_of_block h2⟩
#print axioms walk_put
end Go.Proofs.Ytafafeplciidhaa
