/- within, the second saying's small functions, rows of tokens as they lie in memory, and the chapter's example. -/
import Derived.Test.YtoadbgdkcdilhaaDoorTw
import Derived.Laws.BytesArg
namespace Go.Proofs.YtoadbgdkcdilhaaDoor
open Go.RowKit

def wi (a n : Int) : Int := if a.tmod n < 0 then a.tmod n + n else a.tmod n

theorem tmodn (a n : Int) (h : 0 < n) : -n < a.tmod n ∧ a.tmod n < n := by
  constructor
  · have := Int.lt_tmod_of_pos a h; omega
  · exact Int.tmod_lt_of_pos a h

theorem wi_n (a n : Int) (h : 0 < n) : 0 ≤ wi a n ∧ wi a n < n := by
  have := tmodn a n h
  unfold wi; split <;> omega

theorem ret_int {k : IntKind} {a b : Int} (h : a = b) : Ending.returned (.int k a) = .returned (.int k b) := by rw [h]

set_option maxHeartbeats 400000 in
theorem within_n (a n : Int) (w : World) (hn : 0 < n) (hn2 : n ≤ 1000000) :
    Calls Tryd.prog 12 #[.int .i64 a, .int .i64 n] w fun e w' => e = .returned (.int .i64 (wi a n)) ∧ w' = w := by
  have h := tmodn a n hn
  have h0 : (n == 0) = false := beq_eq_false_iff_ne.2 (by omega)
  by_cases hlt : a.tmod n < 0
  · go_enter Tryd.func12, Tryd.ntmps12
    go_wp2_with fail
    go_ret
    exact ⟨ret_int (by rw [wi, if_pos hlt]), rfl⟩
  · go_enter Tryd.func12, Tryd.ntmps12
    go_wp2_with fail
    go_ret
    exact ⟨ret_int (by rw [wi, if_neg (by omega)]), rfl⟩

theorem digit_any (c : Int) (w : World) : Calls Tryd.prog 20 #[.int .u8 c] w fun e w' => e = .returned (.bool (digB c)) ∧ w' = w := by
  by_cases h1 : 48 ≤ c
  · go_enter Tryd.func20, Tryd.ntmps20
    go_wp2_with fail
    go_ret
    exact ⟨by simp [digB, h1], rfl⟩
  · go_enter Tryd.func20, Tryd.ntmps20
    go_wp2_with fail
    go_ret
    exact ⟨ret_bool (by simp only [digB, Bool.and_eq_true, decide_eq_true_eq]; first | omega | (simp; omega)), rfl⟩

/-- A byte that begins a name. -/
def firstB (c : Int) : Bool := decide (97 ≤ c) && decide (c ≤ 122) || decide (65 ≤ c) && decide (c ≤ 90) || c == 95 || c == 39

set_option linter.unusedSimpArgs false in
theorem first_any (c : Int) (w : World) : Calls Tryd.prog 18 #[.int .u8 c] w fun e w' => e = .returned (.bool (firstB c)) ∧ w' = w := by
  have key : (97 ≤ c ∧ c ≤ 122) ∨ (97 ≤ c ∧ ¬ c ≤ 122) ∨ (¬ 97 ≤ c ∧ 65 ≤ c ∧ c ≤ 90) ∨ c = 95 ∨ (¬ 97 ≤ c ∧ 65 ≤ c ∧ ¬ c ≤ 90 ∧ c ≠ 95) ∨ (¬ 97 ≤ c ∧ ¬ 65 ≤ c) := by omega
  rcases key with ⟨h1, h2⟩ | ⟨h1, h2⟩ | ⟨h1, h2, h3⟩ | rfl | ⟨h1, h2, h3, h4⟩ | ⟨h1, h2⟩
  all_goals
    go_enter Tryd.func18, Tryd.ntmps18
    go_wp2_with fail
    go_ret
    exact ⟨ret_bool (by simp only [firstB, Bool.or_eq_true, Bool.and_eq_true, decide_eq_true_eq, beq_iff_eq, eq_self, true_iff]; first | omega | (simp; done) | (simp; omega)), rfl⟩

theorem inner_any (c : Int) (w : World) : Calls Tryd.prog 19 #[.int .u8 c] w fun e w' => e = .returned (.bool (nameB c)) ∧ w' = w := by
  go_enter Tryd.func19, Tryd.ntmps19
  go_wp2_with fail
  refine (first_any _ _).mono ?_
  rintro e w' ⟨rfl, rfl⟩
  cases h1 : firstB c
  · go_wp2_with fail
    refine (digit_any _ _).mono ?_
    rintro e w' ⟨rfl, rfl⟩
    go_wp2_with fail
    go_ret
    refine ⟨ret_bool ?_, rfl⟩
    simp only [firstB, Bool.or_eq_false_iff, Bool.and_eq_false_iff, decide_eq_false_iff_not, beq_eq_false_iff_ne] at h1
    simp only [nameB, digB, Bool.or_eq_true, Bool.and_eq_true, decide_eq_true_eq, beq_iff_eq]
    omega
  · go_wp2_with fail
    go_ret
    refine ⟨ret_bool ?_, rfl⟩
    simp only [firstB, Bool.or_eq_true, Bool.and_eq_true, decide_eq_true_eq, beq_iff_eq] at h1
    simp only [nameB, digB, Bool.or_eq_true, Bool.and_eq_true, decide_eq_true_eq, beq_iff_eq, eq_self, true_iff]
    omega

/-- A name is one. -/
theorem name_true (s : ByteArray) (l : List UInt8) (w : World) (hl : s.data.toList = l) (h0 : 0 < l.length) (h20 : l.length ≤ 20) (hf : firstB (byt l 0) = true) (hn : ∀ j, j < l.length → nameB (byt l j) = true) :
    Calls Tryd.prog 15 #[.string s] w fun e w' => e = .returned (.bool true) ∧ w' = w := by
  have hz := size_len s l hl
  have HG : Hid (∀ (i : Nat) (h : i < s.size), ((s[i]'h).toNat : Int) = byt l i) := get_byt s l hl
  have HN := hide hn
  have hsp : 0 < s.size := by omega
  have hs20 : s.size ≤ 20 := by omega
  have HZ := hide hz
  have hem : (s.toList == ([] : List UInt8)) = false := by
    rw [ByteArray.toList_eq, hl]
    cases l with
    | nil => simp at h0
    | cons => rfl
  clear hz hn h0 h20
  go_enter Tryd.func15, Tryd.ntmps15
  go_wp2_with fail
  rw [HG.out 0 hsp]
  refine (first_any _ _).mono ?_
  rintro e w' ⟨rfl, rfl⟩
  rw [hf]
  go_wp2_with fail
  go_loopw [3] (fun i wr => ∃ k : Nat, k ≤ s.size ∧ i = .int .i64 k ∧ wr = w') (fun i _ => s.size - (intOf i).toNat)
  case atStart => exact ⟨0, by omega, rfl, rfl⟩
  case round =>
    obtain ⟨k, hk, rfl, rfl⟩ := hrel
    by_cases hlt : k < s.size
    · have E := hide (HG.out k hlt)
      have E2 := hide (HN.out k (by have := HZ.out; omega))
      go_wp2_with fail
      rw [E.out]
      refine (inner_any _ _).mono ?_
      rintro e w' ⟨rfl, rfl⟩
      rw [E2.out]
      go_wp2_with fail
      go_roundw
      case rel => exact ⟨k + 1, by omega, by go_num, trivial⟩
      case measure => simp [intOf]; omega
    · have hke : k = s.size := by omega
      subst hke
      go_wp2_with fail
      go_ret
      exact ⟨rfl, rfl⟩

/-- The cells of a row's tokens. -/
theorem row_at : ∀ (ts : List Tok) (k j : Nat) (hk : k < ts.length), j < 4 → (rowC ts)[k * 4 + j]? = (ts[k].cells)[j]?
  | t :: ts, 0, j, _, hj => by
    unfold rowC
    rw [List.map_cons, List.flatten_cons, Nat.zero_mul, Nat.zero_add, List.getElem?_append_left (by simp [Tok.cells]; omega)]
    rfl
  | t :: ts, k + 1, j, hk, hj => by
    have h := row_at ts k j (by simpa using hk) hj
    unfold rowC at h ⊢
    rw [List.map_cons, List.flatten_cons, List.getElem?_append_right (by simp [Tok.cells]; omega)]
    rw [show (k + 1) * 4 + j - t.cells.length = k * 4 + j by simp [Tok.cells]; omega]
    exact h

theorem toks_cells {w : World} {base : Nat} {v : Value} {ts : List Tok} (h : ToksAt w base v ts) (hne : 0 < ts.length) :
    ∃ g cap, v = .slice (some ⟨g, 0, none⟩) ts.length cap ∧ ts.length ≤ cap ∧ g < w.heap.size ∧ ∀ (k : Nat) (hk : k < ts.length), w.cell? ⟨g, k * 4, none⟩ = some (.int .i64 ts[k].kind) ∧ w.cell? ⟨g, k * 4 + 1, none⟩ = some (.int .i64 ts[k].n) ∧ w.cell? ⟨g, k * 4 + 2, none⟩ = some (.int .i64 ts[k].at') ∧ w.cell? ⟨g, k * 4 + 3, none⟩ = some (.string ⟨⟨ts[k].s⟩⟩) := by
  have h' := h
  rcases h.2 with ⟨_, h0⟩ | ⟨g, cap, cur, rfl, hg, hh, hc1, hc2, hcs, htk⟩
  · omega
  · refine ⟨g, cap, rfl, hc1, size_of_block hh, fun k hk => ?_⟩
    have key : ∀ j, j < 4 → w.cell? ⟨g, k * 4 + j, none⟩ = (ts[k].cells)[j]? := fun j hj => by
      rw [World.ownsRow.cellAt h' (k * 4 + j) (by omega)]
      exact row_at ts k j hk hj
    exact ⟨key 0 (by omega), key 1 (by omega), key 2 (by omega), key 3 (by omega)⟩

theorem tok_known : tokP [40, 97, 32, 45, 49, 41] = .ok [⟨1, 0, 0, []⟩, ⟨3, 0, 1, [97]⟩, ⟨4, -1, 3, []⟩, ⟨2, 0, 5, []⟩] := by kernel_rfl

set_option linter.unusedSimpArgs false in
theorem known_any (w : World) (he : Errs w) : Calls Tryd.prog 9 #[] w fun e w' => e = .returned (.bool true) ∧ Below w.heap.size w w' := by
  go_enter Tryd.func9, Tryd.ntmps9
  go_wp2_with fail
  refine (tokens_any _ [40, 97, 32, 45, 49, 41] w rfl (by decide) he).mono ?_
  rintro e w1 ⟨⟨er, p, h1, _⟩ | ⟨ts, v, h1, rfl, htk⟩, hb⟩
  · rw [tok_known] at h1; cases h1
  · rw [tok_known] at h1
    cases h1
    obtain ⟨g, cap, rfl, hc, hg, hx⟩ := toks_cells htk (by simp)
    have h2 : w1.cell? ⟨g, 9, none⟩ = some (.int .i64 (-1)) := (hx 2 (by simp)).2.1
    have HB := hide hb
    clear hx htk hb
    simp only [List.length_cons, List.length_nil]
    go_wp2_with fail
    go_ret
    exact ⟨rfl, HB.out⟩
#print axioms known_any
end Go.Proofs.YtoadbgdkcdilhaaDoor
