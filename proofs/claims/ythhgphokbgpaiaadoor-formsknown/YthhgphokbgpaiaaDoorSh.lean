/- No name of a text's forms is long; what twelve texts' forms are, written anew. -/
import Derived.Test.YthhgphokbgpaiaaDoorKn
namespace Go.Proofs.YthhgphokbgpaiaaDoor
open Go.RowKit

theorem oneP_short {l : List UInt8} {p k : Nat} {t : Tok} (h : oneP l p = .ok (k, some t)) : t.s.length ≤ l.length := by
  unfold oneP at h
  split at h
  · cases h
  split at h
  · cases h
  split at h
  · cases h; simp
  split at h
  · cases h; simp
  split at h
  · split at h
    · cases h
    · cases h; simp only [List.length_take]; omega
  split at h
  · cases h; simp only [List.length_take]; omega
  split at h
  · split at h
    · cases h
    · cases h; simp
  · cases h

theorem lexP_short : ∀ (f : Nat) (l : List UInt8) (p : Nat) (ts : List Tok), lexP f l p = .ok ts → ∀ t ∈ ts, t.s.length ≤ l.length := by
  intro f
  induction f with
  | zero => intro l p ts h; rw [lexP] at h; cases h; simp
  | succ f ih =>
    intro l p ts h
    rw [lexP] at h
    split at h
    · cases h; simp
    · split at h
      · cases h
      · rename_i k h1
        intro t ht
        have := ih _ _ _ h t ht
        rw [List.length_drop] at this
        omega
      · rename_i k t h1
        split at h
        · cases h
        · rename_i ts' h2
          cases h
          intro x hx
          rcases List.mem_cons.1 hx with rfl | hx
          · exact oneP_short h1
          · have := ih _ _ _ h2 x hx
            rw [List.length_drop] at this
            omega

theorem tokP_short {L : List UInt8} {ts : List Tok} (h : tokP L = .ok ts) : ∀ t ∈ ts, t.s.length ≤ 4000 := by
  unfold tokP at h
  split at h
  · cases h
  · intro t ht
    have := lexP_short _ _ _ _ h t ht
    omega

theorem short_leaf {k n : Int} {s : List UInt8} (h : s.length ≤ 140737488355328) : Short ⟨k, n, s, []⟩ := fun x hx => by
  rw [Fm.pre_eq] at hx
  simp at hx
  subst hx
  exact h

theorem short_list {k n : Int} {l : List Fm} (h : ∀ f ∈ l, Short f) : Short ⟨k, n, [], l⟩ := fun x hx => by
  rw [Fm.pre_eq] at hx
  rcases List.mem_cons.1 hx with rfl | hx
  · simp
  · obtain ⟨q, hq, hx⟩ := List.mem_flatten.1 hx
    obtain ⟨f, hf, rfl⟩ := List.mem_map.1 hq
    exact h f hf x hx

theorem takeF_short {up up' : List (List Fm)} {cur cur' : List Fm} {t : Tok} (h : takeF up cur t = .ok (up', cur')) (ht : t.s.length ≤ 4000) (h1 : ∀ f ∈ cur, Short f) (h2 : ∀ u ∈ up, ∀ f ∈ u, Short f) : (∀ f ∈ cur', Short f) ∧ ∀ u ∈ up', ∀ f ∈ u, Short f := by
  have snoc : ∀ {l : List Fm} {x : Fm}, (∀ f ∈ l, Short f) → Short x → ∀ f ∈ l ++ [x], Short f := by
    intro l x hl hx f hf
    rcases List.mem_append.1 hf with hf | hf
    · exact hl f hf
    · simp at hf; subst hf; exact hx
  unfold takeF at h
  split at h
  · split at h
    · cases h
    · cases h
      refine ⟨by simp, fun u hu => ?_⟩
      rcases List.mem_cons.1 hu with rfl | hu
      · exact h1
      · exact h2 u hu
  split at h
  · split at h
    · cases h
    · cases h
      exact ⟨snoc (h2 _ (by simp)) (short_list h1), fun u hu => h2 u (by simp [hu])⟩
  split at h
  · cases h; exact ⟨snoc h1 (short_leaf (by omega)), h2⟩
  · cases h; exact ⟨snoc h1 (short_leaf (by simp)), h2⟩

theorem runF_short : ∀ (ts : List Tok) (up up' : List (List Fm)) (cur cur' : List Fm), runF ts up cur = .ok (up', cur') → (∀ t ∈ ts, t.s.length ≤ 4000) → (∀ f ∈ cur, Short f) → (∀ u ∈ up, ∀ f ∈ u, Short f) → ∀ f ∈ cur', Short f := by
  intro ts
  induction ts with
  | nil => intro up up' cur cur' h _ h1 _; rw [runF] at h; cases h; exact h1
  | cons t ts ih =>
    intro up up' cur cur' h hs h1 h2
    rw [runF] at h
    split at h
    · cases h
    · rename_i h3
      have := takeF_short h3 (hs t (by simp)) h1 h2
      exact ih _ _ _ _ h (fun x hx => hs x (by simp [hx])) this.1 this.2

theorem parP_short {L : List UInt8} {fs : List Fm} (h : parP L = .ok fs) : ∀ f ∈ fs, Short f := by
  unfold parP at h
  split at h
  · cases h
  · rename_i ts h1
    split at h
    · cases h
    · rename_i cur h2
      cases h
      exact runF_short ts _ _ _ _ h2 (tokP_short h1) (by simp) (by simp)
    · cases h

/-- Forms written anew, a blank behind each. -/
def textsF (fs : List Fm) : List UInt8 := (fs.map (fun f => txtP f ++ [32])).flatten

theorem textsF_snoc (fs : List Fm) (f : Fm) : textsF (fs ++ [f]) = textsF fs ++ txtP f ++ [32] := by
  unfold textsF; simp

def sT : Nat → List UInt8
  | 1 => [97, 32, 98]
  | 2 => [40, 97, 40, 98, 32, 49, 41, 40, 41, 41]
  | 3 => [40, 32, 97, 32, 59, 32, 41, 10, 32, 98, 32, 41]
  | 4 => [41]
  | 5 => [40]
  | 6 => [97, 32, 40, 98]
  | 7 => [40, 40, 41]
  | 8 => [40, 41, 41]
  | 9 => [45, 53, 32, 45, 62]
  | 10 => [40, 33]
  | 11 => [40, 97, 41, 41, 98]
  | _ => []
def wT : Nat → List UInt8
  | 1 => [97, 32, 98, 32]
  | 2 => [40, 97, 32, 40, 98, 32, 49, 41, 32, 40, 41, 41, 32]
  | 3 => [40, 97, 32, 98, 41, 32]
  | 9 => [45, 53, 32, 45, 62, 32]
  | _ => []
def aT : Nat → Nat
  | 5 => 1
  | 6 => 4
  | 7 => 3
  | 8 => 2
  | 10 => 1
  | 11 => 3
  | _ => 0
def eT : Nat → Nat
  | 4 => 7
  | 5 => 7
  | 6 => 7
  | 7 => 7
  | 8 => 7
  | 10 => 6
  | 11 => 7
  | _ => 0

def resB (k : Nat) : Bool := match parP (sT k) with
  | .ok fs => textsF fs == wT k && aT k == 0 && eT k == 0 && fs.all (fun f => decide ((txtF 31 f).length ≤ 1000))
  | .error (e, p) => wT k == [] && aT k == p && eT k == e

theorem res_ok : ∀ k, k < 12 → resB k = true := by
  intro k hk
  rcases (show k = 0 ∨ k = 1 ∨ k = 2 ∨ k = 3 ∨ k = 4 ∨ k = 5 ∨ k = 6 ∨ k = 7 ∨ k = 8 ∨ k = 9 ∨ k = 10 ∨ k = 11 by omega) with rfl | rfl | rfl | rfl | rfl | rfl | rfl | rfl | rfl | rfl | rfl | rfl <;> kernel_rfl
#print axioms res_ok
end Go.Proofs.YthhgphokbgpaiaaDoor
