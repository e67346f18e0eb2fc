/- lex.Tokens: what it answers. -/
import Derived.Test.YthhgphokbgpaiabDoorOb
import Derived.Deep.AppendLies
namespace Go.Proofs.YthhgphokbgpaiabDoor
open Go.RowKit

theorem list_map {α : Type} (d : α) (l : List α) : ∀ n, l.length = n → l = (List.range n).map (fun i => l.getD i d) := by
  intro n hn
  refine List.ext_getElem (by simp [hn]) (fun i h1 h2 => ?_)
  simp [h1]

set_option maxRecDepth 100000 in
theorem act105 (a : Act) (h1 : a.defers = []) (h2 : a.tmps.size = 105) : a = { tmps := #[a.tmps.getD 0 undef, a.tmps.getD 1 undef, a.tmps.getD 2 undef, a.tmps.getD 3 undef, a.tmps.getD 4 undef, a.tmps.getD 5 undef, a.tmps.getD 6 undef, a.tmps.getD 7 undef, a.tmps.getD 8 undef, a.tmps.getD 9 undef, a.tmps.getD 10 undef, a.tmps.getD 11 undef, a.tmps.getD 12 undef, a.tmps.getD 13 undef, a.tmps.getD 14 undef, a.tmps.getD 15 undef, a.tmps.getD 16 undef, a.tmps.getD 17 undef, a.tmps.getD 18 undef, a.tmps.getD 19 undef, a.tmps.getD 20 undef, a.tmps.getD 21 undef, a.tmps.getD 22 undef, a.tmps.getD 23 undef, a.tmps.getD 24 undef, a.tmps.getD 25 undef, a.tmps.getD 26 undef, a.tmps.getD 27 undef, a.tmps.getD 28 undef, a.tmps.getD 29 undef, a.tmps.getD 30 undef, a.tmps.getD 31 undef, a.tmps.getD 32 undef, a.tmps.getD 33 undef, a.tmps.getD 34 undef, a.tmps.getD 35 undef, a.tmps.getD 36 undef, a.tmps.getD 37 undef, a.tmps.getD 38 undef, a.tmps.getD 39 undef, a.tmps.getD 40 undef, a.tmps.getD 41 undef, a.tmps.getD 42 undef, a.tmps.getD 43 undef, a.tmps.getD 44 undef, a.tmps.getD 45 undef, a.tmps.getD 46 undef, a.tmps.getD 47 undef, a.tmps.getD 48 undef, a.tmps.getD 49 undef, a.tmps.getD 50 undef, a.tmps.getD 51 undef, a.tmps.getD 52 undef, a.tmps.getD 53 undef, a.tmps.getD 54 undef, a.tmps.getD 55 undef, a.tmps.getD 56 undef, a.tmps.getD 57 undef, a.tmps.getD 58 undef, a.tmps.getD 59 undef, a.tmps.getD 60 undef, a.tmps.getD 61 undef, a.tmps.getD 62 undef, a.tmps.getD 63 undef, a.tmps.getD 64 undef, a.tmps.getD 65 undef, a.tmps.getD 66 undef, a.tmps.getD 67 undef, a.tmps.getD 68 undef, a.tmps.getD 69 undef, a.tmps.getD 70 undef, a.tmps.getD 71 undef, a.tmps.getD 72 undef, a.tmps.getD 73 undef, a.tmps.getD 74 undef, a.tmps.getD 75 undef, a.tmps.getD 76 undef, a.tmps.getD 77 undef, a.tmps.getD 78 undef, a.tmps.getD 79 undef, a.tmps.getD 80 undef, a.tmps.getD 81 undef, a.tmps.getD 82 undef, a.tmps.getD 83 undef, a.tmps.getD 84 undef, a.tmps.getD 85 undef, a.tmps.getD 86 undef, a.tmps.getD 87 undef, a.tmps.getD 88 undef, a.tmps.getD 89 undef, a.tmps.getD 90 undef, a.tmps.getD 91 undef, a.tmps.getD 92 undef, a.tmps.getD 93 undef, a.tmps.getD 94 undef, a.tmps.getD 95 undef, a.tmps.getD 96 undef, a.tmps.getD 97 undef, a.tmps.getD 98 undef, a.tmps.getD 99 undef, a.tmps.getD 100 undef, a.tmps.getD 101 undef, a.tmps.getD 102 undef, a.tmps.getD 103 undef, a.tmps.getD 104 undef], defers := [] } := by
  obtain ⟨t, d⟩ := a
  simp only at h1 h2
  subst h1
  have h3 := list_map undef t.toList 105 (by rw [Array.length_toList]; exact h2)
  have h4 : ∀ i, t.toList.getD i undef = t.getD i undef := fun i => by simp [List.getD, Array.getD_eq_getD_getElem?]
  simp only [h4] at h3
  have h5 : t = ((List.range 105).map (fun i => t.getD i undef)).toArray := by rw [← h3]
  have h6 : ((List.range 105).map (fun i => t.getD i undef)).toArray = #[t.getD 0 undef, t.getD 1 undef, t.getD 2 undef, t.getD 3 undef, t.getD 4 undef, t.getD 5 undef, t.getD 6 undef, t.getD 7 undef, t.getD 8 undef, t.getD 9 undef, t.getD 10 undef, t.getD 11 undef, t.getD 12 undef, t.getD 13 undef, t.getD 14 undef, t.getD 15 undef, t.getD 16 undef, t.getD 17 undef, t.getD 18 undef, t.getD 19 undef, t.getD 20 undef, t.getD 21 undef, t.getD 22 undef, t.getD 23 undef, t.getD 24 undef, t.getD 25 undef, t.getD 26 undef, t.getD 27 undef, t.getD 28 undef, t.getD 29 undef, t.getD 30 undef, t.getD 31 undef, t.getD 32 undef, t.getD 33 undef, t.getD 34 undef, t.getD 35 undef, t.getD 36 undef, t.getD 37 undef, t.getD 38 undef, t.getD 39 undef, t.getD 40 undef, t.getD 41 undef, t.getD 42 undef, t.getD 43 undef, t.getD 44 undef, t.getD 45 undef, t.getD 46 undef, t.getD 47 undef, t.getD 48 undef, t.getD 49 undef, t.getD 50 undef, t.getD 51 undef, t.getD 52 undef, t.getD 53 undef, t.getD 54 undef, t.getD 55 undef, t.getD 56 undef, t.getD 57 undef, t.getD 58 undef, t.getD 59 undef, t.getD 60 undef, t.getD 61 undef, t.getD 62 undef, t.getD 63 undef, t.getD 64 undef, t.getD 65 undef, t.getD 66 undef, t.getD 67 undef, t.getD 68 undef, t.getD 69 undef, t.getD 70 undef, t.getD 71 undef, t.getD 72 undef, t.getD 73 undef, t.getD 74 undef, t.getD 75 undef, t.getD 76 undef, t.getD 77 undef, t.getD 78 undef, t.getD 79 undef, t.getD 80 undef, t.getD 81 undef, t.getD 82 undef, t.getD 83 undef, t.getD 84 undef, t.getD 85 undef, t.getD 86 undef, t.getD 87 undef, t.getD 88 undef, t.getD 89 undef, t.getD 90 undef, t.getD 91 undef, t.getD 92 undef, t.getD 93 undef, t.getD 94 undef, t.getD 95 undef, t.getD 96 undef, t.getD 97 undef, t.getD 98 undef, t.getD 99 undef, t.getD 100 undef, t.getD 101 undef, t.getD 102 undef, t.getD 103 undef, t.getD 104 undef] := rfl
  exact congrArg (fun x => Act.mk x []) (h5.trans h6)

theorem frame105 (a : Act) (h1 : a.defers = []) (h2 : a.tmps.size = 105) : ∃ u : Nat → Value, a = { tmps := #[u 0, u 1, u 2, u 3, u 4, u 5, u 6, u 7, u 8, u 9, u 10, u 11, u 12, u 13, u 14, u 15, u 16, u 17, u 18, u 19, u 20, u 21, u 22, u 23, u 24, u 25, u 26, u 27, u 28, u 29, u 30, u 31, u 32, u 33, u 34, u 35, u 36, u 37, u 38, u 39, u 40, u 41, u 42, u 43, u 44, u 45, u 46, u 47, u 48, u 49, u 50, u 51, u 52, u 53, u 54, u 55, u 56, u 57, u 58, u 59, u 60, u 61, u 62, u 63, u 64, u 65, u 66, u 67, u 68, u 69, u 70, u 71, u 72, u 73, u 74, u 75, u 76, u 77, u 78, u 79, u 80, u 81, u 82, u 83, u 84, u 85, u 86, u 87, u 88, u 89, u 90, u 91, u 92, u 93, u 94, u 95, u 96, u 97, u 98, u 99, u 100, u 101, u 102, u 103, u 104], defers := [] } := ⟨fun i => a.tmps.getD i undef, act105 a h1 h2⟩

theorem wp_scope_five {P : Program} {a : Act} {w : World} {Q : Exit → Act → World → Prop} {c : Code} {r0 r1 r2 r3 r4 : Code} (J : Nat → Act → World → Prop) (μ : Nat → Act → World → Nat)
    (h0 : findLabel c 0 = some r0) (h1 : findLabel c 1 = some (Code.skip.seq r1)) (h2 : findLabel c 2 = some (Code.skip.seq r2)) (h3 : findLabel c 3 = some r3) (h4 : findLabel c 4 = some r4) (hJ : ∀ l a w, J l a w → l ≤ 4)
    (first : (∀ a w, J 1 a w → r1.wp P (jumps J Q) a w) → c.wp P (jumps J Q) a w)
    (p0 : ∀ a w, J 0 a w → r0.wp P (jumps (fun l' a' w' => J l' a' w' ∧ μ l' a' w' < μ 0 a w) Q) a w)
    (p1 : ∀ a w, J 1 a w → r1.wp P (jumps (fun l' a' w' => J l' a' w' ∧ μ l' a' w' < μ 1 a w) Q) a w)
    (p2 : ∀ a w, J 2 a w → r2.wp P (jumps (fun l' a' w' => J l' a' w' ∧ μ l' a' w' < μ 2 a w) Q) a w)
    (p3 : ∀ a w, J 3 a w → r3.wp P (jumps (fun l' a' w' => J l' a' w' ∧ μ l' a' w' < μ 3 a w) Q) a w)
    (p4 : ∀ a w, J 4 a w → (∀ a' w', J 2 a' w' → μ 2 a' w' < μ 4 a w → r2.wp P (jumps (fun l' a' w' => J l' a' w' ∧ μ l' a' w' < μ 4 a w) Q) a' w') → r4.wp P (jumps (fun l' a' w' => J l' a' w' ∧ μ l' a' w' < μ 4 a w) Q) a w) : (Code.scope c).wp P Q a w := by
  refine wp_scope_labels (fun l => (findLabel c l).getD .skip) J μ (fun l a w h => ?_) (first (fun a w h => wp_mono (p1 a w h) (fun e a' w' hq => by cases e <;> first | exact hq | exact hq.1))) (fun l a w h => ?_)
  · have := hJ l a w h
    rcases (show l = 0 ∨ l = 1 ∨ l = 2 ∨ l = 3 ∨ l = 4 by omega) with rfl | rfl | rfl | rfl | rfl
    · rw [h0]; rfl
    · rw [h1]; rfl
    · rw [h2]; rfl
    · rw [h3]; rfl
    · rw [h4]; rfl
  · have := hJ l a w h
    rcases (show l = 0 ∨ l = 1 ∨ l = 2 ∨ l = 3 ∨ l = 4 by omega) with rfl | rfl | rfl | rfl | rfl
    · simp only [h0, Option.getD_some]; exact p0 a w h
    · simp only [h1, Option.getD_some]; exact wp_seq (wp_skip (p1 a w h))
    · simp only [h2, Option.getD_some]; exact wp_seq (wp_skip (p2 a w h))
    · simp only [h3, Option.getD_some]; exact p3 a w h
    · simp only [h4, Option.getD_some]; exact p4 a w h (fun a' w' h1 h2 => wp_mono (p2 a' w' h1) (fun e a'' w'' hq => by cases e <;> first | exact hq | exact ⟨hq.1, Nat.lt_trans hq.2 h2⟩))

def intOf : Value → Int | .int _ q => q | _ => 0

theorem Tryd.info44 : (Tryd.prog.info? 44).map (fun i => (i.zero, i.size, i.bytes)) = some (some (.agg #[.int .i64 0, .int .i64 0, .int .i64 0, .string ⟨#[]⟩]), 4, 40) := by kernel_rfl

/-- The cells of a row of tokens. -/
def rowC (ts : List Tok) : List Value := (ts.map Tok.cells).flatten

/-- A row of tokens lies in a value. -/
def ToksAt (w : World) (base : Nat) (v : Value) (ts : List Tok) : Prop := w.ownsRow base 44 4 v ts.length (rowC ts)

theorem own_mono {w : World} {base size n : Nat} {e : TypeId} {v : Value} {xs : List Value} (h : w.ownsRow (base + 1) e size v n xs) : w.ownsRow base e size v n xs :=
  ⟨h.1, h.2.imp id (fun ⟨g, cap, cur, h1, h2, h3⟩ => ⟨g, cap, cur, h1, by omega, h3⟩)⟩

/-- What the answers are. -/
def TokOut (L : List UInt8) (w : World) (e : Ending) (w' : World) : Prop :=
  ((∃ er p, tokP L = .error (er, p) ∧ e = .returned (.tuple #[.slice none 0 0, .int .i64 p, .int .i64 er])) ∨
   (∃ ts v, tokP L = .ok ts ∧ e = .returned (.tuple #[v, .int .i64 0, .int .i64 0]) ∧ ToksAt w' w.heap.size v ts)) ∧ Below w.heap.size w w'

/-- What holds at a jump. -/
def JJ (s : ByteArray) (L : List UInt8) (w : World) (l : Nat) (a : Act) (wx : World) : Prop :=
  l ≤ 4 ∧ a.defers = [] ∧ a.tmps.size = 105 ∧ a.tmps.getD 0 undef = .string s ∧ a.tmps.getD 5 undef = .pointer (some ⟨w.heap.size, 0, none⟩) ∧ Below w.heap.size w wx ∧
  ∃ (ts : List Tok) (lv : Value) (p E : Nat) (c0 c1 : Int) (c2 : Value) (c3 : Value),
    a.tmps.getD 7 undef = .int .i64 E ∧ E ≤ L.length ∧ wx.heap[w.heap.size]? = some (.cells #[.int .i64 c0, .int .i64 c1, c2, c3] 44 (0, 0)) ∧
    (l = 0 → a.tmps.getD 3 undef = .int .i64 p ∧ tokP L = .error (4, p)) ∧
    (l = 1 → a.tmps.getD 2 undef = lv ∧ a.tmps.getD 4 undef = .int .i64 0 ∧ ToksAt wx (w.heap.size + 1) lv ts ∧ L.length ≤ 4000 ∧ ts.length ≤ E ∧ Left L ts E) ∧
    (l = 2 → ∃ t : Tok, a.tmps.getD 2 undef = lv ∧ a.tmps.getD 4 undef = .int .i64 0 ∧ ToksAt wx (w.heap.size + 1) lv ts ∧ L.length ≤ 4000 ∧ ts.length < E ∧ Left L (ts ++ [t]) E ∧ t.cells = [.int .i64 c0, .int .i64 c1, c2, c3]) ∧
    (l = 3 → a.tmps.getD 2 undef = lv ∧ a.tmps.getD 4 undef = .int .i64 0 ∧ a.tmps.getD 3 undef = .int .i64 p ∧ ToksAt wx (w.heap.size + 1) lv ts ∧ L.length ≤ 4000 ∧ ts.length < E ∧ c1 = 0 ∧ c2 = .int .i64 p ∧ p ≤ E ∧ (20 < E - p → tokP L = .error (4, p)) ∧ (E - p ≤ 20 → Left L (ts ++ [⟨3, 0, p, (L.drop p).take (E - p)⟩]) E)) ∧
    (l = 4 → a.tmps.getD 2 undef = lv ∧ a.tmps.getD 4 undef = .int .i64 0 ∧ a.tmps.getD 3 undef = .int .i64 p ∧ ToksAt wx (w.heap.size + 1) lv ts ∧ L.length ≤ 4000 ∧ ts.length < E ∧ c2 = .int .i64 p ∧ c3 = .string ⟨#[]⟩ ∧ p ≤ E ∧ (valP ((L.drop p).take (E - p)) = none → tokP L = .error (4, p)) ∧ (∀ v, valP ((L.drop p).take (E - p)) = some v → Left L (ts ++ [⟨4, v, p, []⟩]) E))

def rank : Nat → Nat
  | 0 => 0
  | 1 => 1
  | 2 => 2
  | _ => 3

set_option linter.unusedSimpArgs false in
set_option maxRecDepth 20000 in
set_option maxHeartbeats 4000000 in
theorem tokens_any (s : ByteArray) (L : List UInt8) (w : World) (hL : s.data.toList = L) (hm : s.size ≤ 140737488355328) (he : Errs w) :
    Calls Tryd.prog 10 #[.string s] w (TokOut L w) := by
  have HZ := hide (size_len s L hL)
  go_enter Tryd.func10, Tryd.ntmps10
  go_wp2_with fail
  refine wp_scope_five (JJ s L w) (fun l a _ => 5 * (L.length - (intOf (a.tmps.getD 7 undef)).toNat) + rank l) rfl rfl rfl rfl rfl (fun l a w h => h.1) ?_ ?_ ?_ ?_ ?_ ?_
  · intro H1
    by_cases hlong : 4000 < s.size
    · go_wp2_with fail
      go_step3
      have h2 := HZ.out
      have hb : Below w.heap.size w (w.alloc (.cells #[.int .i64 0, .int .i64 0, .int .i64 0, .string ⟨#[]⟩] 44)) := (Below.refl _ _).alloc (Nat.le_refl _) _
      refine ⟨by omega, rfl, rfl, rfl, rfl, hb, [], .slice none 0 0, 0, 0, 0, 0, _, _, rfl, by omega, heap_alloc_new w _, fun _ => ⟨rfl, ?_⟩, fun h => by omega, fun h => by omega, fun h => by omega, fun h => by omega⟩
      unfold tokP
      rw [if_pos (by omega)]
    · have HQ := hide H1
      clear H1
      go_wp2_with fail
      go_step3
      have h2 := HZ.out
      have hb : Below w.heap.size w (w.alloc (.cells #[.int .i64 0, .int .i64 0, .int .i64 0, .string ⟨#[]⟩] 44)) := (Below.refl _ _).alloc (Nat.le_refl _) _
      show _
      apply_assumption
      exact HQ.out _ _ ⟨by omega, rfl, rfl, rfl, rfl, hb, [], .slice none 0 0, 0, 0, 0, 0, _, _, rfl, by omega, heap_alloc_new w _, fun h => by omega, fun _ => ⟨rfl, rfl, ⟨rfl, Or.inl ⟨rfl, rfl⟩⟩, by omega, by simp, Left.zero L⟩, fun h => by omega, fun h => by omega, fun h => by omega⟩
  · intro a wx hJ
    obtain ⟨-, hd, hz, h0, h5, hbl, ts, lv, p, E, c0, c1, c2, c3, h7, hE, hbt, j0, -, -, -, -⟩ := hJ
    obtain ⟨u, rfl⟩ := frame105 a hd hz
    obtain ⟨h3, herr⟩ := j0 rfl
    have k3 : u 3 = _ := h3
    simp only [k3]
    clear j0 h0 h5 h7 hd hz h3 k3
    have HB := hide hbl; have HE := hide herr
    clear hbl herr hbt
    go_wp2_with fail
    simp only [jumps]
    go_ret3
    exact ⟨Or.inl ⟨4, p, HE.out, rfl⟩, HB.out⟩
  · intro a wx hJ
    obtain ⟨-, hd, hz, h0, h5, hbl, ts, lv, p, E, c0, c1, c2, c3, h7, hE, hbt, -, j1, -, -, -⟩ := hJ
    obtain ⟨u, rfl⟩ := frame105 a hd hz
    obtain ⟨h2, h4, htk, hn, hts, hleft⟩ := j1 rfl
    have k0 : u 0 = _ := h0
    have k2 : u 2 = _ := h2
    have k4 : u 4 = _ := h4
    have k5 : u 5 = _ := h5
    have k7 : u 7 = _ := h7
    simp only [k0, k2, k4, k5, k7]
    have HB := hide hbl; have HBT := hide hbt; have HTK := hide htk; have HLF := hide hleft
    clear j1 hd hz h0 h2 h4 h5 h7 k0 k2 k4 k5 k7 hbl hbt htk hleft
    by_cases hend : E = L.length
    · have hes : ((E : Int) == (s.size : Int)) = true := by rw [HZ.out, hend]; simp
      go_wp2_with fail
      simp only [jumps]
      go_ret3
      obtain ⟨la, lc, hlv, _, _⟩ := owns_form HTK.out
      exact ⟨Or.inr ⟨ts, lv, by unfold tokP; rw [if_neg (by omega)]; exact HLF.out.last (by omega), rfl, own_mono HTK.out⟩, HB.out⟩
    · have hes : ((E : Int) == (s.size : Int)) = false := by rw [HZ.out]; simp; omega
      have hlt : E < s.size := by have := HZ.out; omega
      obtain ⟨d0, d1, d2, d3⟩ := blk4 HBT.out
      have z0 := frozen_of_block HBT.out 0; have z1 := frozen_of_block HBT.out 1; have z2 := frozen_of_block HBT.out 2; have z3 := frozen_of_block HBT.out 3
      go_wp2_with fail
      have hsz := HZ.out
      have htw : ((((wx.setCell ⟨w.heap.size, 0, none⟩ (.int .i64 0)).setCell ⟨w.heap.size, 1, none⟩ (.int .i64 0)).setCell ⟨w.heap.size, 2, none⟩ (.int .i64 E)).setCell ⟨w.heap.size, 3, none⟩ (.string ⟨#[]⟩)).heap[w.heap.size]? = some (.cells #[.int .i64 0, .int .i64 0, .int .i64 E, .string ⟨#[]⟩] 44 (0, 0)) := by
        rw [heap_setCell_same _ _ 3 _ _ _ (heap_setCell_same _ _ 2 _ _ _ (heap_setCell_same _ _ 1 _ _ _ (heap_setCell_same _ _ 0 _ _ _ HBT.out)))]; rfl
      have hbw : Below w.heap.size w ((((wx.setCell ⟨w.heap.size, 0, none⟩ (.int .i64 0)).setCell ⟨w.heap.size, 1, none⟩ (.int .i64 0)).setCell ⟨w.heap.size, 2, none⟩ (.int .i64 E)).setCell ⟨w.heap.size, 3, none⟩ (.string ⟨#[]⟩)) := (((HB.out.setCell (Nat.le_refl _) _).setCell (Nat.le_refl _) _).setCell (Nat.le_refl _) _).setCell (Nat.le_refl _) _
      have hkw : ToksAt ((((wx.setCell ⟨w.heap.size, 0, none⟩ (.int .i64 0)).setCell ⟨w.heap.size, 1, none⟩ (.int .i64 0)).setCell ⟨w.heap.size, 2, none⟩ (.int .i64 E)).setCell ⟨w.heap.size, 3, none⟩ (.string ⟨#[]⟩)) (w.heap.size + 1) lv ts :=
        ownsRow_setCell_below (ownsRow_setCell_below (ownsRow_setCell_below (ownsRow_setCell_below HTK.out (Nat.lt_succ_self _) _) (Nat.lt_succ_self _) _) (Nat.lt_succ_self _) _) (Nat.lt_succ_self _) _
      generalize (((wx.setCell ⟨w.heap.size, 0, none⟩ (.int .i64 0)).setCell ⟨w.heap.size, 1, none⟩ (.int .i64 0)).setCell ⟨w.heap.size, 2, none⟩ (.int .i64 E)).setCell ⟨w.heap.size, 3, none⟩ (.string ⟨#[]⟩) = W at *
      have HTW := hide htw; have HBW := hide hbw; have HKW := hide hkw
      clear htw hbw hkw d0 d1 d2 d3 z0 z1 z2 z3 HBT HTK HB
      have HRL : Hid ((s.extract E s.size).data.toList = L.drop E) := by
        have h1 := ext_list s L hL E s.size
        rw [List.take_of_length_le (by rw [List.length_drop]; omega)] at h1
        exact h1
      have HRS : Hid ((s.extract E s.size).size = L.length - E) := by
        have h1 := size_len _ _ HRL.out
        rw [List.length_drop] at h1
        exact h1
      rw [get_byt (s.extract E s.size) (L.drop E) HRL.out 0 (by rw [HRS.out]; omega)]
      generalize s.extract E s.size = R at *
      have hRp : 0 < R.size := by rw [HRS.out]; omega
      have E0 := hide (get_byt R (L.drop E) HRL.out 0 hRp)
      have HLE : Hid (E < L.length) := by show E < _; omega
      generalize hl : L.drop E = l at *
      have HDL := hide hl
      have hll : l.length = L.length - E := by rw [← hl, List.length_drop]
      clear hl
      have HRL2 : Hid (R.data.toList = l) := HRL.out
      have hR5 : R.size ≤ 5000 := by rw [HRS.out]; omega
      have hne : l ≠ [] := by intro h; rw [h] at hll; simp at hll; omega
      have HNE := hide hne
      clear hne
      refine (isBlank_any _ _).mono ?_
      rintro e w' ⟨rfl, rfl⟩
      cases hb : blankB (byt l 0)
      rotate_left
      · have HON : Hid (oneP (L.drop E) E = .ok (cnt blankB l, none)) := by rw [HDL.out]; exact one_blank hb
        have hcl := cnt_le blankB l
        have hcp := (oneP_len HNE.out (one_blank (p := E) hb)).1
        go_wp2_with fail
        refine (run22_any R l _ HRL2.out hR5).mono ?_
        rintro e w' ⟨rfl, rfl⟩
        generalize cnt blankB l = k at *
        have hwk : IntKind.i64.wrap ((E : Int) + (k : Int)) = ((E + k : Nat) : Int) := by rw [IntKind.wrap_i64]; omega
        go_wp2_with fail
        go_step3
        refine ⟨⟨by omega, rfl, rfl, rfl, rfl, HBW.out, ts, lv, E, E + k, 0, 0, _, _, by go_num, by omega, HTW.out, (fun h => by omega), fun _ => ⟨rfl, rfl, HKW.out, hn, by omega, HLF.out.skip HLE.out HON.out⟩, (fun h => by omega), (fun h => by omega), (fun h => by omega)⟩, ?_⟩
        simp [intOf, rank]; omega
      have HBK := hide hb
      clear hb
      by_cases h59 : byt l 0 = 59
      · have e59 : (((R[0]'hRp).toNat : Int) == 59) = true := by rw [E0.out, h59]; rfl
        have HON : Hid (oneP (L.drop E) E = .ok (cnt lineB l, none)) := by rw [HDL.out]; exact one_line HBK.out h59
        have hcl := cnt_le lineB l
        have hcp := (oneP_len HNE.out (one_line (p := E) HBK.out h59)).1
        go_wp2_with fail
        refine (run24_any R l _ HRL2.out hR5).mono ?_
        rintro e w' ⟨rfl, rfl⟩
        generalize cnt lineB l = k at *
        have hwk : IntKind.i64.wrap ((E : Int) + (k : Int)) = ((E + k : Nat) : Int) := by rw [IntKind.wrap_i64]; omega
        go_wp2_with fail
        go_step3
        refine ⟨⟨by omega, rfl, rfl, rfl, rfl, HBW.out, ts, lv, E, E + k, 0, 0, _, _, by go_num, by omega, HTW.out, (fun h => by omega), fun _ => ⟨rfl, rfl, HKW.out, hn, by omega, HLF.out.skip HLE.out HON.out⟩, (fun h => by omega), (fun h => by omega), (fun h => by omega)⟩, ?_⟩
        simp [intOf, rank]; omega
      have H59 := hide h59
      have e59 : (((R[0]'hRp).toNat : Int) == 59) = false := by rw [E0.out]; simpa using h59
      clear h59
      go_wp2_with fail
      rw [E0.out]
      refine (bracket_any _ _).mono ?_
      rintro e w' ⟨rfl, rfl⟩
      obtain ⟨d0, d1, d2, d3⟩ := blk4 HTW.out
      have z0 := frozen_of_block HTW.out 0
      by_cases h40 : byt l 0 = 40
      · rw [if_pos h40]
        have HON : Hid (oneP (L.drop E) E = .ok (1, some ⟨1, 0, E, []⟩)) := by rw [HDL.out]; exact one_open HBK.out H59.out h40
        have hwk : IntKind.i64.wrap ((E : Int) + 1) = ((E + 1 : Nat) : Int) := by rw [IntKind.wrap_i64]; omega
        go_wp2_with fail
        rw [E0.out]
        refine (bracket_any _ _).mono ?_
        rintro e w' ⟨rfl, rfl⟩
        rw [if_pos h40]
        go_wp2_with fail
        go_step3
        refine ⟨⟨by omega, rfl, rfl, rfl, rfl, (HBW.out.setCell (Nat.le_refl _) _), ts, lv, E, E + 1, 1, 0, _, _, by go_num, by omega, (by rw [heap_setCell_same _ _ 0 _ _ _ HTW.out]; rfl), (fun h => by omega), (fun h => by omega), fun _ => ⟨⟨1, 0, E, []⟩, rfl, rfl, ownsRow_setCell_below HKW.out (Nat.lt_succ_self _) _, hn, by omega, HLF.out.tok HLE.out HON.out, rfl⟩, (fun h => by omega), (fun h => by omega)⟩, ?_⟩
        simp [intOf, rank]; omega
      have H40 := hide h40
      rw [if_neg h40]
      by_cases h41 : byt l 0 = 41
      · rw [if_pos h41]
        have HON : Hid (oneP (L.drop E) E = .ok (1, some ⟨2, 0, E, []⟩)) := by rw [HDL.out]; exact one_close HBK.out H59.out h41
        have hwk : IntKind.i64.wrap ((E : Int) + 1) = ((E + 1 : Nat) : Int) := by rw [IntKind.wrap_i64]; omega
        clear h40
        go_wp2_with fail
        rw [E0.out]
        refine (bracket_any _ _).mono ?_
        rintro e w' ⟨rfl, rfl⟩
        rw [if_neg H40.out, if_pos h41]
        go_wp2_with fail
        go_step3
        refine ⟨⟨by omega, rfl, rfl, rfl, rfl, (HBW.out.setCell (Nat.le_refl _) _), ts, lv, E, E + 1, 2, 0, _, _, by go_num, by omega, (by rw [heap_setCell_same _ _ 0 _ _ _ HTW.out]; rfl), (fun h => by omega), (fun h => by omega), fun _ => ⟨⟨2, 0, E, []⟩, rfl, rfl, ownsRow_setCell_below HKW.out (Nat.lt_succ_self _) _, hn, by omega, HLF.out.tok HLE.out HON.out, rfl⟩, (fun h => by omega), (fun h => by omega)⟩, ?_⟩
        simp [intOf, rank]; omega
      have H41 := hide h41
      rw [if_neg h41]
      clear h40 h41
      go_wp2_with fail
      refine (beginsName_any R l _ HRL2.out hRp).mono ?_
      rintro e w' ⟨rfl, rfl⟩
      have HR1 : Hid ((R.extract 1 R.size).data.toList = l.drop 1) := by
        have h1 := ext_list R l HRL2.out 1 R.size
        rw [List.take_of_length_le (by rw [List.length_drop]; have := HRS.out; omega)] at h1
        exact h1
      have hR15 : (R.extract 1 R.size).size ≤ 5000 := by
        have h1 := size_len _ _ HR1.out
        rw [List.length_drop] at h1
        omega
      have HR15 := hide hR15
      clear hR15
      cases hnm : (nameB (byt l 0) && !digB (byt l 0))
      rotate_left
      · have HN1 : Hid (20 < 1 + cnt nameB (l.drop 1) → oneP (L.drop E) E = .error 4) := fun h => by rw [HDL.out]; exact one_long HBK.out H59.out H40.out H41.out hnm h
        have HN2 : Hid (¬ 20 < 1 + cnt nameB (l.drop 1) → oneP (L.drop E) E = .ok (1 + cnt nameB (l.drop 1), some ⟨3, 0, E, (L.drop E).take (1 + cnt nameB (l.drop 1))⟩)) := fun h => by rw [HDL.out]; exact one_name HBK.out H59.out H40.out H41.out hnm h
        have hcl := cnt_le nameB (l.drop 1)
        rw [List.length_drop] at hcl
        go_wp2_with fail
        refine (run27_any (R.extract 1 R.size) (l.drop 1) _ HR1.out HR15.out).mono ?_
        rintro e w' ⟨rfl, rfl⟩
        generalize cnt nameB (l.drop 1) = k at *
        have hwk1 : IntKind.i64.wrap (1 + (k : Int)) = ((1 + k : Nat) : Int) := by rw [IntKind.wrap_i64]; omega
        have hwk : IntKind.i64.wrap ((E : Int) + ((1 + k : Nat) : Int)) = ((E + (1 + k) : Nat) : Int) := by rw [IntKind.wrap_i64]; omega
        have hwk2 : IntKind.i64.wrap ((E : Int) + (1 + (k : Int))) = ((E + (1 + k) : Nat) : Int) := by rw [IntKind.wrap_i64]; omega
        go_wp2_with fail
        go_step3
        refine ⟨⟨by omega, rfl, rfl, rfl, rfl, HBW.out, ts, lv, E, E + (1 + k), 0, 0, _, _, by go_num, by omega, HTW.out, (fun h => by omega), (fun h => by omega), (fun h => by omega), fun _ => ⟨rfl, rfl, rfl, HKW.out, hn, by omega, rfl, rfl, by omega, fun h => tok_err hn HLF.out HLE.out (HN1.out (by omega)), fun h => by rw [show E + (1 + k) - E = 1 + k by omega]; exact HLF.out.tok HLE.out (HN2.out (by omega))⟩, (fun h => by omega)⟩, ?_⟩
        simp [intOf, rank]; omega
      have HNM := hide hnm
      clear hnm
      go_wp2_with fail
      refine (sign_any R l _ HRL2.out hRp).mono ?_
      rintro e w' ⟨rfl, rfl⟩
      by_cases hsg : 0 < signN l
      · have HON : Hid (oneP (L.drop E) E = .ok (signN l, some ⟨3, 0, E, (L.drop E).take (signN l)⟩)) := by rw [HDL.out]; exact one_sign HBK.out H59.out H40.out H41.out HNM.out hsg
        have hs2 : signN l ≤ 2 := by unfold signN; split <;> (try split) <;> omega
        have hsl := signN_le l HNE.out
        have hgt : decide (((signN l : Nat) : Int) > 0) = true := decide_eq_true (by omega)
        have hwk : IntKind.i64.wrap ((E : Int) + ((signN l : Nat) : Int)) = ((E + signN l : Nat) : Int) := by rw [IntKind.wrap_i64]; omega
        go_wp2_with fail
        refine (sign_any R l _ HRL2.out hRp).mono ?_
        rintro e w' ⟨rfl, rfl⟩
        generalize signN l = k at *
        go_wp2_with fail
        go_step3
        refine ⟨⟨by omega, rfl, rfl, rfl, rfl, HBW.out, ts, lv, E, E + k, 0, 0, _, _, by go_num, by omega, HTW.out, (fun h => by omega), (fun h => by omega), (fun h => by omega), fun _ => ⟨rfl, rfl, rfl, HKW.out, hn, by omega, rfl, rfl, by omega, fun h => by omega, fun h => by rw [show E + k - E = k by omega]; exact HLF.out.tok HLE.out HON.out⟩, (fun h => by omega)⟩, ?_⟩
        simp [intOf, rank]; omega
      have HSG := hide hsg
      have hs0 : signN l = 0 := by omega
      rw [hs0]
      clear hsg hs0
      go_wp2_with fail
      refine (beginsNumber_any R l _ HRL2.out hRp).mono ?_
      rintro e w' ⟨rfl, rfl⟩
      cases hnu : (digB (byt l 0) || (byt l 0 == 45 && decide (1 < l.length) && digB (byt l 1)))
      rotate_left
      · have HN1 : Hid (valP ((L.drop E).take (1 + cnt digB (l.drop 1))) = none → oneP (L.drop E) E = .error 4) := fun h => by rw [HDL.out] at *; exact one_far HBK.out H59.out H40.out H41.out HNM.out HSG.out hnu h
        have HN2 : Hid (∀ v, valP ((L.drop E).take (1 + cnt digB (l.drop 1))) = some v → oneP (L.drop E) E = .ok (1 + cnt digB (l.drop 1), some ⟨4, v, E, []⟩)) := fun v h => by rw [HDL.out] at *; exact one_num HBK.out H59.out H40.out H41.out HNM.out HSG.out hnu h
        have hcl := cnt_le digB (l.drop 1)
        rw [List.length_drop] at hcl
        go_wp2_with fail
        refine (run30_any (R.extract 1 R.size) (l.drop 1) _ HR1.out HR15.out).mono ?_
        rintro e w' ⟨rfl, rfl⟩
        generalize cnt digB (l.drop 1) = k at *
        have hwk1 : IntKind.i64.wrap (1 + (k : Int)) = ((1 + k : Nat) : Int) := by rw [IntKind.wrap_i64]; omega
        have hwk : IntKind.i64.wrap ((E : Int) + ((1 + k : Nat) : Int)) = ((E + (1 + k) : Nat) : Int) := by rw [IntKind.wrap_i64]; omega
        have hwk2 : IntKind.i64.wrap ((E : Int) + (1 + (k : Int))) = ((E + (1 + k) : Nat) : Int) := by rw [IntKind.wrap_i64]; omega
        go_wp2_with fail
        go_step3
        refine ⟨⟨by omega, rfl, rfl, rfl, rfl, HBW.out, ts, lv, E, E + (1 + k), 0, 0, _, _, by go_num, by omega, HTW.out, (fun h => by omega), (fun h => by omega), (fun h => by omega), (fun h => by omega), fun _ => ⟨rfl, rfl, rfl, HKW.out, hn, by omega, rfl, rfl, by omega, fun h => tok_err hn HLF.out HLE.out (HN1.out (by rw [show E + (1 + k) - E = 1 + k by omega] at h; exact h)), fun v h => HLF.out.tok HLE.out (HN2.out v (by rw [show E + (1 + k) - E = 1 + k by omega] at h; exact h))⟩⟩, ?_⟩
        simp [intOf, rank]; omega
      have HNU := hide hnu
      clear hnu
      go_wp2_with fail
      simp only [jumps]
      go_ret3
      exact ⟨Or.inl ⟨6, E, tok_err hn HLF.out HLE.out (by rw [HDL.out]; exact one_bad HBK.out H59.out H40.out H41.out HNM.out HSG.out HNU.out), rfl⟩, HBW.out⟩
  · intro a wx hJ
    obtain ⟨-, hd, hz, h0, h5, hbl, ts, lv, p, E, c0, c1, c2, c3, h7, hE, hbt, -, -, j2, -, -⟩ := hJ
    obtain ⟨u, rfl⟩ := frame105 a hd hz
    obtain ⟨t, h2, h4, htk, hn, hts, hleft, hcs⟩ := j2 rfl
    have k0 : u 0 = _ := h0
    have k2 : u 2 = _ := h2
    have k4 : u 4 = _ := h4
    have k5 : u 5 = _ := h5
    have k7 : u 7 = _ := h7
    simp only [k0, k2, k4, k5, k7]
    simp only [Tok.cells, List.cons.injEq, Value.int.injEq, true_and, and_true] at hcs
    obtain ⟨rfl, rfl, rfl, rfl⟩ := hcs
    obtain ⟨la, lc, hlv, hlc1, hlc2⟩ := owns_form htk
    subst hlv
    have HB := hide hbl; have HBT := hide hbt; have HTK := hide htk; have HLF := hide hleft
    clear j2 hd hz h0 h2 h4 h5 h7 k0 k2 k4 k5 k7 hbl hbt htk hleft
    obtain ⟨d0, d1, d2, d3⟩ := blk4 HBT.out
    have hts5 := size_of_block HBT.out
    obtain ⟨i, hi, hz0, hz1, hz2⟩ := info_parts Tryd.info44
    have HOB : Hid ((wx.alloc (.cells #[.int .i64 t.kind, .int .i64 t.n, .int .i64 t.at', .string ⟨⟨t.s⟩⟩] 44)).ownsRow (w.heap.size + 1) 44 4 (.slice la ts.length lc) ts.length (rowC ts)) := World.ownsRow.alloc HTK.out _
    have HNB : Hid (∀ q u, ([.int .i64 t.kind, .int .i64 t.n, .int .i64 t.at', .string ⟨⟨t.s⟩⟩] : List Value)[q]? = some u → (wx.alloc (.cells #[.int .i64 t.kind, .int .i64 t.n, .int .i64 t.at', .string ⟨⟨t.s⟩⟩] 44)).cell? ((⟨wx.heap.size, 0, none⟩ : Addr).add q) = some u) := World.news_of_block (heap_alloc_new wx _)
    go_wp2_with (at_builtin
                 refine wpList_append_lies _ rfl (.tmp 100) (.tmp 102) 35 rfl (w.heap.size + 1) 44 i (.agg #[.int .i64 0, .int .i64 0, .int .i64 0, .string ⟨#[]⟩]) 4 40 Tryd.underlying35 hi hz0 hz1 hz2 rfl (by decide) (.slice la ts.length lc) ts.length (rowC ts) rfl HOB.out ⟨wx.heap.size, 0, none⟩ 1 1 [.int .i64 t.kind, .int .i64 t.n, .int .i64 t.at', .string ⟨⟨t.s⟩⟩] rfl rfl HNB.out (fun u hu => by simp at hu; rcases hu with rfl | rfl | rfl | rfl <;> rfl) (by omega) (by unfold maxLen; omega) (by omega) (by simp; omega) (wx.heap.size + 1) (by simp) ?_
                 intro g6 cap6 w6 hown6 hgrow6 hat6 hlt6
                 have HB6 : Hid (Below w.heap.size w w6) := (HB.out.alloc HB.out.size _).grown hgrow6 (by have := HB.out.size; simp; omega) (fun q hq => by have := HOB.out.lt q hq; omega)
                 have HT6 : Hid (w6.heap[w.heap.size]? = some (.cells #[.int .i64 t.kind, .int .i64 t.n, .int .i64 t.at', .string ⟨⟨t.s⟩⟩] 44 (0, 0))) := (hgrow6.block _ (by simp; omega) (fun e => by have := HOB.out.lt _ e.symm; omega)).trans ((Below.heap_alloc _ _ _ hts5).trans HBT.out)
                 have HO6 := hide hown6
                 clear hown6 hgrow6 hat6 hlt6)
    go_step3
    refine ⟨⟨by omega, rfl, rfl, rfl, rfl, HB6.out, ts ++ [t], _, 0, E, _, _, _, _, rfl, by omega, HT6.out, (fun h => by omega), fun _ => ⟨rfl, rfl, ?_, hn, by simp; omega, HLF.out⟩, (fun h => by omega), (fun h => by omega), (fun h => by omega)⟩, ?_⟩
    · unfold ToksAt rowC
      rw [List.length_append, List.map_append, List.flatten_append]
      exact HO6.out
    · simp [intOf, rank]
  · intro a wx hJ
    obtain ⟨-, hd, hz, h0, h5, hbl, ts, lv, p, E, c0, c1, c2, c3, h7, hE, hbt, -, -, -, j3, -⟩ := hJ
    obtain ⟨u, rfl⟩ := frame105 a hd hz
    obtain ⟨h2, h4, h3, htk, hn, hts, rfl, rfl, hpE, herr, hok⟩ := j3 rfl
    have k0 : u 0 = _ := h0
    have k2 : u 2 = _ := h2
    have k3 : u 3 = _ := h3
    have k4 : u 4 = _ := h4
    have k5 : u 5 = _ := h5
    have k7 : u 7 = _ := h7
    simp only [k0, k2, k3, k4, k5, k7]
    have HB := hide hbl; have HBT := hide hbt; have HTK := hide htk; have HER := hide herr; have HOK := hide hok
    clear j3 hd hz h0 h2 h3 h4 h5 h7 k0 k2 k3 k4 k5 k7 hbl hbt htk herr hok
    obtain ⟨d0, d1, d2, d3⟩ := blk4 HBT.out
    have z0 := frozen_of_block HBT.out 0; have z3 := frozen_of_block HBT.out 3
    have hwk : IntKind.i64.wrap ((E : Int) - (p : Int)) = ((E - p : Nat) : Int) := by rw [IntKind.wrap_i64]; omega
    by_cases h20 : 20 < E - p
    · have hgt : decide ((20 : Int) < ((E - p : Nat) : Int)) = true := decide_eq_true (by omega)
      go_wp2_with fail
      go_step3
      refine ⟨⟨by omega, rfl, rfl, rfl, rfl, HB.out, ts, lv, p, E, _, _, _, _, rfl, by omega, HBT.out, fun _ => ⟨rfl, HER.out h20⟩, (fun h => by omega), (fun h => by omega), (fun h => by omega), (fun h => by omega)⟩, ?_⟩
      simp [intOf, rank]
    · have hgt : decide ((20 : Int) < ((E - p : Nat) : Int)) = false := decide_eq_false (by omega)
      have hes : E ≤ s.size := by have := HZ.out; omega
      go_wp2_with fail
      have hsx : (s.extract p E).size ≤ 5000 := by
        have h1 := size_len _ _ (ext_list s L hL p E)
        rw [List.length_take] at h1
        omega
      have hw1 : (wx.setCell ⟨w.heap.size, 0, none⟩ (.int .i64 3)).heap[w.heap.size]? = some (.cells #[.int .i64 3, .int .i64 0, .int .i64 p, c3] 44 (0, 0)) := by rw [heap_setCell_same _ _ 0 _ _ _ HBT.out]; rfl
      have hw2 : Below w.heap.size w (wx.setCell ⟨w.heap.size, 0, none⟩ (.int .i64 3)) := HB.out.setCell (Nat.le_refl _) _
      have hw3 : ToksAt (wx.setCell ⟨w.heap.size, 0, none⟩ (.int .i64 3)) (w.heap.size + 1) lv ts := ownsRow_setCell_below HTK.out (Nat.lt_succ_self _) _
      generalize (wx.setCell ⟨w.heap.size, 0, none⟩ (.int .i64 3)) = W at *
      refine (clone_any _ _ hsx).mono ?_
      rintro e w1 ⟨rfl, hb1⟩
      have HX1 : Hid (w1.heap[w.heap.size]? = some (.cells #[.int .i64 3, .int .i64 0, .int .i64 p, c3] 44 (0, 0))) := (hb1.block _ (size_of_block hw1)).trans hw1
      have HX2 : Hid (Below w.heap.size w w1) := hw2.trans (hb1.mono hw2.size)
      have HX3 : Hid (ToksAt w1 (w.heap.size + 1) lv ts) := own_keep hw3 hb1
      clear hw1 hw2 hw3 hb1 d0 d1 d2 d3 z0 z3 hsx
      obtain ⟨d0, d1, d2, d3⟩ := blk4 HX1.out
      have z3 := frozen_of_block HX1.out 3
      have HLIT := hide (ext_lit s L hL p E)
      go_wp2_with fail
      go_step3
      refine ⟨⟨by omega, rfl, rfl, rfl, rfl, HX2.out.setCell (Nat.le_refl _) _, ts, lv, p, E, 3, 0, .int .i64 p, .string (s.extract p E), rfl, by omega, (by rw [heap_setCell_same _ _ 3 _ _ _ HX1.out]; rfl), (fun h => by omega), (fun h => by omega), fun _ => ⟨⟨3, 0, p, (L.drop p).take (E - p)⟩, rfl, rfl, ownsRow_setCell_below HX3.out (Nat.lt_succ_self _) _, hn, hts, HOK.out (by omega), by rw [HLIT.out]; rfl⟩, (fun h => by omega), (fun h => by omega)⟩, ?_⟩
      simp [intOf, rank]
  · intro a wx hJ H2
    obtain ⟨-, hd, hz, h0, h5, hbl, ts, lv, p, E, c0, c1, c2, c3, h7, hE, hbt, -, -, -, -, j4⟩ := hJ
    obtain ⟨u, rfl⟩ := frame105 a hd hz
    obtain ⟨h2, h4, h3, htk, hn, hts, rfl, rfl, hpE, herr, hok⟩ := j4 rfl
    have k0 : u 0 = _ := h0
    have k2 : u 2 = _ := h2
    have k3 : u 3 = _ := h3
    have k4 : u 4 = _ := h4
    have k5 : u 5 = _ := h5
    have k7 : u 7 = _ := h7
    simp only [k0, k2, k3, k4, k5, k7] at H2 ⊢
    have HB := hide hbl; have HBT := hide hbt; have HTK := hide htk; have HER := hide herr; have HOK := hide hok; have HH2 := hide H2
    clear j4 hd hz h0 h2 h3 h4 h5 h7 k0 k2 k3 k4 k5 k7 hbl hbt htk herr hok H2
    have hes : E ≤ s.size := by have := HZ.out; omega
    have hsx : (s.extract p E).size ≤ 5000 := by
      have h1 := size_len _ _ (ext_list s L hL p E)
      rw [List.length_take] at h1
      omega
    have HSX := hide hsx
    clear hsx
    have HEX := hide (he.keep HB.out)
    go_wp2_with fail
    refine (value_any _ _ _ (ext_list s L hL p E) HSX.out HEX.out).mono ?_
    rintro e w1 ⟨⟨v, hv⟩, hb1⟩
    have HX1 : Hid (w1.heap[w.heap.size]? = some (.cells #[.int .i64 c0, .int .i64 c1, .int .i64 p, .string ⟨#[]⟩] 44 (0, 0))) := (hb1.block _ (size_of_block HBT.out)).trans HBT.out
    have HX2 : Hid (Below w.heap.size w w1) := HB.out.trans (hb1.mono HB.out.size)
    have HX3 : Hid (ToksAt w1 (w.heap.size + 1) lv ts) := own_keep HTK.out hb1
    clear hb1
    obtain ⟨d0, d1, d2, d3⟩ := blk4 HX1.out
    have z0 := frozen_of_block HX1.out 0; have z1 := frozen_of_block HX1.out 1
    rcases hv with ⟨hv, rfl⟩ | ⟨hv, rfl⟩
    · have HL2 := hide (HOK.out v hv)
      clear hv
      go_wp2_with fail
      go_step3
      apply_assumption
      refine HH2.out _ _ ⟨by omega, rfl, rfl, rfl, rfl, (HX2.out.setCell (Nat.le_refl _) _).setCell (Nat.le_refl _) _, ts, lv, p, E, 4, v, .int .i64 p, .string ⟨#[]⟩, rfl, by omega, ?_, (fun h => by omega), (fun h => by omega), fun _ => ⟨⟨4, v, p, []⟩, rfl, rfl, ownsRow_setCell_below (ownsRow_setCell_below HX3.out (Nat.lt_succ_self _) _) (Nat.lt_succ_self _) _, hn, hts, HL2.out, rfl⟩, (fun h => by omega), (fun h => by omega)⟩ ?_
      · rw [heap_setCell_same _ _ 0 _ _ _ (heap_setCell_same _ _ 1 _ _ _ HX1.out)]; rfl
      · simp [intOf, rank]
    · have HL2 := hide (HER.out hv)
      clear hv
      go_wp2_with fail
      go_step3
      refine ⟨⟨by omega, rfl, rfl, rfl, rfl, HX2.out.setCell (Nat.le_refl _) _, ts, lv, p, E, c0, 0, _, _, rfl, by omega, (by rw [heap_setCell_same _ _ 1 _ _ _ HX1.out]; rfl), fun _ => ⟨rfl, HL2.out⟩, (fun h => by omega), (fun h => by omega), (fun h => by omega), (fun h => by omega)⟩, ?_⟩
      simp [intOf, rank]
#print axioms tokens_any
end Go.Proofs.YthhgphokbgpaiabDoor
