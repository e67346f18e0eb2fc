/- Reading a term from its bytes, said plainly; how the bytes that are left lie in memory. -/
import Derived.Test.YtafafeplciidhaaTree
namespace Go.Proofs.Ytafafeplciidhaa
open Go.RowKit

/-- The eight bytes of a number, together. -/
def sum8 (l : List Int) : Int := l.getD 1 0 + l.getD 2 0 * 256 + l.getD 3 0 * 65536 + l.getD 4 0 * 16777216 + l.getD 5 0 * 4294967296 + l.getD 6 0 * 1099511627776 + l.getD 7 0 * 281474976710656 + l.getD 8 0 * 72057594037927936
def numOf (l : List Int) : Int := IntKind.i64.wrap (sum8 l)

/-- So many terms, one behind the other. -/
def rowP (f : Nat → List Int → Except Nat (Tr × Nat × List Int)) : Nat → Nat → List Int → Except Nat (List Tr × Nat × List Int)
  | 0, n, l => .ok ([], n, l)
  | k + 1, n, l => match f n l with
    | .error e => .error e
    | .ok (t, n', l') => match rowP f k n' l' with
      | .error e => .error e
      | .ok (ts, n'', l'') => .ok (t :: ts, n'', l'')

/-- A term; d: how many levels there may be; n: how many terms were read. -/
def termP : Nat → Nat → List Int → Except Nat (Tr × Nat × List Int)
  | 0, _, _ => .error 5
  | d + 1, n, l =>
    if n = 3000 then .error 5
    else if l.length < 10 then .error 2
    else match rowP (termP d) (l.getD 9 0).toNat (n + 1) (l.drop 10) with
      | .error e => .error e
      | .ok (ts, n', l') => .ok (⟨l.getD 0 0, numOf l, ts⟩, n', l')

def parseP (l : List Int) : Except Nat Tr := match termP 120 0 l with
  | .error e => .error e
  | .ok (t, _, l') => if l' = [] then .ok t else .error 3

/-- Bytes. -/
def Byt (l : List Int) : Prop := ∀ x ∈ l, 0 ≤ x ∧ x < 256

/-- A row of bytes lies in a value, in a block of D. -/
def LeftAt (w : World) (D : Nat → Prop) (v : Value) (l : List Int) : Prop :=
  ∃ a c, v = .slice a l.length c ∧ l.length ≤ c ∧ c ≤ maxLen ∧ (l ≠ [] → ∃ b off, a = some ⟨b, off, none⟩ ∧ D b ∧ ∀ (i : Nat) (h : i < l.length), w.cell? ⟨b, off + i, none⟩ = some (.int .u8 l[i]))

theorem LeftAt.keep {w w' : World} {D D' : Nat → Prop} {v : Value} {l : List Int} (h : LeftAt w D v l) (hb : ∀ k, D k → w'.heap[k]? = w.heap[k]?) (hD : ∀ k, D k → D' k) : LeftAt w' D' v l := by
  obtain ⟨a, c, rfl, h1, h2, h3⟩ := h
  refine ⟨a, c, rfl, h1, h2, fun hne => ?_⟩
  obtain ⟨b, off, rfl, hb', hx⟩ := h3 hne
  exact ⟨b, off, rfl, hD b hb', fun i hi => by rw [World.cell?_of_block (w := w) (hb b hb')]; exact hx i hi⟩

theorem getD_range {l : List Int} (h : Byt l) (i : Nat) : 0 ≤ l.getD i 0 ∧ l.getD i 0 < 256 := by
  by_cases hi : i < l.length
  · have := h _ (List.getElem_mem hi)
    simpa [List.getD, hi] using this
  · simp [List.getD, hi]

theorem Byt.drop {l : List Int} (h : Byt l) (n : Nat) : Byt (l.drop n) := fun x hx => h x (List.mem_of_mem_drop hx)

/-- Ten at the head. -/
theorem ten {l : List Int} (h : 10 ≤ l.length) : ∃ b0 b1 b2 b3 b4 b5 b6 b7 b8 b9 r, l = b0 :: b1 :: b2 :: b3 :: b4 :: b5 :: b6 :: b7 :: b8 :: b9 :: r := by
  match l, h with
  | b0 :: b1 :: b2 :: b3 :: b4 :: b5 :: b6 :: b7 :: b8 :: b9 :: r, _ => exact ⟨b0, b1, b2, b3, b4, b5, b6, b7, b8, b9, r, rfl⟩
#print axioms ten
end Go.Proofs.Ytafafeplciidhaa
