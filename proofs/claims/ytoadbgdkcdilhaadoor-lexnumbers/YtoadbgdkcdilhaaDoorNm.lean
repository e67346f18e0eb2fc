/- LexNames: the walk of the statement's function. -/
import Derived.Test.YtoadbgdkcdilhaaDoorKn
import Derived.Deep.DeepCutAuto
import Derived.Deep.CutBlock
namespace Go.Proofs.YtoadbgdkcdilhaaDoor
open Go.RowKit

/-- A name's bytes. -/
def Nam (nm : List UInt8) : Prop := 0 < nm.length ∧ firstB (byt nm 0) = true ∧ ∀ j, j < nm.length → nameB (byt nm j) = true

theorem byt_app (a b : List UInt8) (j : Nat) (h : j < a.length) : byt (a ++ b) j = byt a j := by
  unfold byt; rw [List.getD_eq_getElem?_getD, List.getD_eq_getElem?_getD, List.getElem?_append_left h]
theorem byt_end (a : List UInt8) (c : UInt8) : byt (a ++ [c]) a.length = (c.toNat : Int) := by
  unfold byt; rw [List.getD_eq_getElem?_getD, List.getElem?_append_right (Nat.le_refl _)]; simp
theorem byt_drop (a : List UInt8) (k j : Nat) : byt (a.drop k) j = byt a (k + j) := by
  unfold byt; rw [List.getD_eq_getElem?_getD, List.getD_eq_getElem?_getD, List.getElem?_drop]

theorem first_facts {c : Int} (h : firstB c = true) : blankB c = false ∧ c ≠ 59 ∧ c ≠ 40 ∧ c ≠ 41 ∧ (nameB c && !digB c) = true := by
  simp only [firstB, Bool.or_eq_true, Bool.and_eq_true, decide_eq_true_eq, beq_iff_eq] at h
  refine ⟨?_, by omega, by omega, by omega, ?_⟩
  · simp only [blankB, Bool.or_eq_false_iff, beq_eq_false_iff_ne]; omega
  · rw [Bool.and_eq_true, Bool.not_eq_true']
    refine ⟨?_, ?_⟩
    · simp only [nameB, Bool.or_eq_true, Bool.and_eq_true, decide_eq_true_eq, beq_iff_eq]; omega
    · simp only [digB, Bool.and_eq_false_iff, decide_eq_false_iff_not]; omega

theorem cnt_name {nm : List UInt8} (h : Nam nm) : 1 + cnt nameB ((nm ++ [41]).drop 1) = nm.length := by
  have h1 : cnt nameB ((nm ++ [41]).drop 1) = nm.length - 1 := by
    refine cnt_stop nameB _ _ (by rw [List.length_drop, List.length_append]; simp; have := h.1; omega) (fun j hj => ?_) ?_
    · rw [byt_drop, byt_app _ _ _ (by omega)]; exact h.2.2 _ (by omega)
    · rw [byt_drop, show 1 + (nm.length - 1) = nm.length by have := h.1; omega, byt_end]; decide
  have := h.1
  omega

theorem first_name {c : Int} (h : firstB c = true) : nameB c = true := by
  have := (first_facts h).2.2.2.2
  rw [Bool.and_eq_true] at this
  exact this.1

theorem nam_one (c : UInt8) (h : firstB (c.toNat : Int) = true) : Nam [c] := by
  refine ⟨by simp, h, fun j hj => ?_⟩
  have hj0 : j = 0 := by simp at hj; omega
  subst hj0
  exact first_name h

theorem nam_snoc {nm : List UInt8} (h : Nam nm) (c : UInt8) (hc : nameB (c.toNat : Int) = true) : Nam (nm ++ [c]) := by
  refine ⟨by simp, by rw [byt_app _ _ _ h.1]; exact h.2.1, fun j hj => ?_⟩
  by_cases hlt : j < nm.length
  · rw [byt_app _ _ _ hlt]; exact h.2.2 j hlt
  · have hje : j = nm.length := by simp at hj; omega
    subst hje
    rw [byt_end]; exact hc

def strLen : Value → Nat | .string s => s.size | _ => 0

/-- A name in brackets. -/
theorem tok_open (nm : List UInt8) : Left (40 :: (nm ++ [41])) [⟨1, 0, 0, []⟩] 1 := by
  have h1 := (Left.zero (40 :: (nm ++ [41]))).tok (by simp) (one_open (l := List.drop 0 (40 :: (nm ++ [41]))) (p := 0) (show blankB 40 = false by decide) (show (40 : Int) ≠ 59 by decide) rfl)
  exact h1

theorem byt_zero {nm : List UInt8} (h : Nam nm) : byt ((40 :: (nm ++ [41])).drop 1) 0 = byt nm 0 := byt_app nm [41] 0 h.1

theorem tok_name_long {nm : List UInt8} (h : Nam nm) (hl : 20 < nm.length) (hm : nm.length ≤ 30) : tokP (40 :: (nm ++ [41])) = .error (4, 1) := by
  obtain ⟨a1, a2, a3, a4, a5⟩ := first_facts h.2.1
  rw [← byt_zero h] at a1 a2 a3 a4 a5
  exact tok_err (by simp; omega) (tok_open nm) (by simp) (one_long a1 a2 a3 a4 a5 (by rw [show (List.drop 1 (40 :: (nm ++ [41]))) = nm ++ [41] from rfl, cnt_name h]; exact hl))

theorem tok_name_ok {nm : List UInt8} (h : Nam nm) (hl : nm.length ≤ 20) : tokP (40 :: (nm ++ [41])) = .ok [⟨1, 0, 0, []⟩, ⟨3, 0, 1, nm⟩, ⟨2, 0, 1 + nm.length, []⟩] := by
  obtain ⟨a1, a2, a3, a4, a5⟩ := first_facts h.2.1
  rw [← byt_zero h] at a1 a2 a3 a4 a5
  have e1 : List.drop 1 (40 :: (nm ++ [41])) = nm ++ [41] := rfl
  have h2 := (tok_open nm).tok (by simp) (one_name (p := 1) a1 a2 a3 a4 a5 (by rw [e1, cnt_name h]; omega))
  rw [e1, cnt_name h, List.take_left' rfl] at h2
  have e2 : List.drop (1 + nm.length) (40 :: (nm ++ [41])) = [41] := by
    rw [Nat.add_comm, List.drop_succ_cons, List.drop_left' rfl]
  have h3 := h2.tok (by simp; omega) (by rw [e2]; exact one_close (p := 1 + nm.length) (by decide) (by decide) rfl)
  have h4 := h3.last (by simp; omega)
  unfold tokP
  rw [if_neg (by simp; omega)]
  exact h4

theorem lit_of (s : ByteArray) (l : List UInt8) (h : s.data.toList = l) : s = ⟨⟨l⟩⟩ := by
  cases s with
  | mk d => cases d with | mk t => simp only at h; rw [h]

theorem app_list (s t : ByteArray) (a b : List UInt8) (h1 : s.data.toList = a) (h2 : t.data.toList = b) : (s ++ t).data.toList = a ++ b := by
  rw [ByteArray.data_append, Array.toList_append, h1, h2]

theorem app_one (s : ByteArray) (x : Int) : (s ++ strOfNums [x]).size = s.size + 1 := by
  rw [size_len _ _ (app_list s (strOfNums [x]) _ _ rfl rfl), List.length_append, ← size_len s _ rfl]
  rfl

theorem nam_step {s : ByteArray} {nm : List UInt8} (hs : s.data.toList = nm) (hn : Nam nm) (x : Int) (hc : nameB ((UInt8.ofNat x.toNat).toNat : Int) = true) : (s ++ strOfNums [x]).data.toList = nm ++ [UInt8.ofNat x.toNat] ∧ Nam (nm ++ [UInt8.ofNat x.toNat]) :=
  ⟨app_list s (strOfNums [x]) nm _ hs rfl, nam_snoc hn _ hc⟩

theorem cv38 (W : World) (x : Int) : (convert 38 9 (.slice (some ⟨W.heap.size, 0, none⟩) 1 1)).run Tryd.prog (W.alloc (.cells #[.int .u8 x] 5)) = .ok (.string (strOfNums [x])) (W.alloc (.cells #[.int .u8 x] 5)) := by
  refine run_convert_bytes_arg _ 38 5 Tryd.underlying38 Tryd.underlying5 W.heap.size 0 1 1 [x] rfl (fun i hi => ?_) 9 Tryd.underlying9
  have hi0 : i = 0 := by omega
  subst hi0
  rw [cell_of_block (heap_alloc_new W _)]
  rfl

set_option linter.unusedSimpArgs false in
set_option maxRecDepth 20000 in
set_option maxHeartbeats 4000000 in
theorem lexnames_any (n0 c d : Int) (w : World) (he : Errs w) : Calls Tryd.prog 5 #[.int .i64 n0, .int .i64 c, .int .i64 d] w fun e w' => e = .returned (.bool true) ∧ Below w.heap.size w w' := by
  go_enter Tryd.func5, Tryd.ntmps5
  go_wp2_with fail
  refine (known_any w he).mono ?_
  rintro e w1 ⟨rfl, hb1⟩
  have HB1 := hide hb1
  have HE := hide he
  clear hb1 he
  go_wp2_with fail
  refine (within_n n0 7 _ (by decide) (by decide)).mono ?_
  rintro e w2 ⟨rfl, h2⟩
  rw [h2]
  clear h2
  have hwi := wi_n n0 7 (by decide)
  obtain ⟨k, hk⟩ : ∃ k : Nat, wi n0 7 = k := ⟨(wi n0 7).toNat, by omega⟩
  have hk7 : k < 7 := by omega
  rw [hk]
  clear hwi hk
  have hwk : IntKind.i64.wrap (17 + (k : Int)) = ((17 + k : Nat) : Int) := by rw [IntKind.wrap_i64]; omega
  have CV := cv38
  go_upto_region 4 with fail
  go_cut [7] (fun v wx => ∃ (s : ByteArray) (nm : List UInt8), v = .string s ∧ s.data.toList = nm ∧ Nam nm ∧ nm.length = 1 ∧ Below w.heap.size w wx)
  case first =>
    go_wp2_with fail
    refine (within_n c 7 _ (by decide) (by decide)).mono ?_
    rintro e w2 ⟨rfl, h2⟩
    rw [h2]
    clear h2
    have hwi := wi_n c 7 (by decide)
    have key : wi c 7 = 0 ∨ wi c 7 = 1 ∨ wi c 7 = 2 ∨ wi c 7 = 3 ∨ wi c 7 = 4 ∨ wi c 7 = 5 ∨ wi c 7 = 6 := by omega
    rcases key with h | h | h | h | h | h | h
    all_goals
      rw [h]
      clear hwi h
      go_wp2_with fail
    all_goals
      go_meet
    all_goals exact ⟨_, _, rfl, rfl, nam_one _ (by decide), rfl, HB1.out.alloc HB1.out.size _⟩
  case rest =>
    obtain ⟨s, nm, rfl, hs, hnm, hl1, hbl⟩ := hcut
    have HS := hide hs; have HN := hide hnm; have HL := hide hl1; have HBL := hide hbl
    clear hs hnm hl1 hbl HB1
    go_wp2_with fail
    go_loopw [7] (fun v wr => ∃ (s : ByteArray) (nm : List UInt8), v = .string s ∧ s.data.toList = nm ∧ Nam nm ∧ nm.length ≤ 17 + k ∧ Below w.heap.size w wr) (fun v _ => 17 + k - strLen v)
    case atStart => exact ⟨s, nm, rfl, HS.out, HN.out, by have := HL.out; omega, HBL.out⟩
    case round =>
      clear HS HN HL HBL
      obtain ⟨s, nm, rfl, hs, hnm, hln, hbl⟩ := hrel
      have HS := hide hs; have HN := hide hnm; have HBL := hide hbl
      have hz := size_len s nm hs
      clear hs hnm hbl
      by_cases hlt : s.size < 17 + k
      · have hone : ∀ x : Int, (strOfNums [x]).size = 1 := fun x => strOfNums_size _
        have hbig : ¬ 9223372036854775807 < nm.length + 1 := by omega
        go_wp2_with fail
        refine (within_n _ 7 _ (by decide) (by decide)).mono ?_
        rintro e w2 ⟨rfl, h2⟩
        rw [h2]
        clear h2
        generalize hx : wi _ 7 = x
        have hwi : 0 ≤ x ∧ x < 7 := by rw [← hx]; exact wi_n _ 7 (by decide)
        clear hx
        have key : x = 0 ∨ x = 1 ∨ x = 2 ∨ x = 3 ∨ x = 4 ∨ x = 5 ∨ x = 6 := by omega
        rcases key with rfl | rfl | rfl | rfl | rfl | rfl | rfl
        all_goals
          clear hwi
          go_wp2_with fail
        all_goals
          go_roundw
          case rel => exact ⟨_, _, rfl, (nam_step HS.out HN.out _ (by decide)).1, (nam_step HS.out HN.out _ (by decide)).2, by rw [List.length_append, List.length_singleton]; omega, HBL.out.alloc HBL.out.size _⟩
          case measure => simp only [strLen]; rw [app_one]; omega
      · have hke : nm.length = 17 + k := by omega
        have HKE := hide hke
        have h40 : ((⟨#[40]⟩ : ByteArray) ++ s ++ (⟨#[41]⟩ : ByteArray)).data.toList = 40 :: (nm ++ [41]) := by
          rw [app_list _ _ _ _ (app_list _ _ _ _ rfl HS.out) rfl]; rfl
        have H40 := hide h40
        clear h40
        go_wp2_with fail
        refine (tokens_any _ (40 :: (nm ++ [41])) wr H40.out (by rw [size_len _ _ H40.out]; simp; omega) (HE.out.keep HBL.out)).mono ?_
        rintro e w3 ⟨ho, hb3⟩
        have HB3 : Hid (Below w.heap.size w w3) := HBL.out.trans (hb3.mono HBL.out.size)
        clear hb3
        by_cases h20 : 20 < nm.length
        · rw [tok_name_long HN.out h20 (by omega)] at ho
          rcases ho with ⟨er, p, h1, rfl⟩ | ⟨ts, v, h1, _⟩
          · cases h1
            have hgt : decide ((20 : Int) < 17 + (k : Int)) = true := decide_eq_true (by omega)
            clear H40
            go_wp2_with fail
            go_ret
            exact ⟨rfl, HB3.out⟩
          · cases h1
        · rw [tok_name_ok HN.out (by omega)] at ho
          rcases ho with ⟨er, p, h1, _⟩ | ⟨ts, v, h1, rfl, htk⟩
          · cases h1
          · cases h1
            obtain ⟨g, cap, rfl, hc, hg, hx⟩ := toks_cells htk (by simp)
            have x0 : w3.cell? ⟨g, 4, none⟩ = some (.int .i64 3) := (hx 1 (by simp)).1
            have x1 : w3.cell? ⟨g, 5, none⟩ = some (.int .i64 0) := (hx 1 (by simp)).2.1
            have x2 : w3.cell? ⟨g, 6, none⟩ = some (.int .i64 1) := (hx 1 (by simp)).2.2.1
            have x3 : w3.cell? ⟨g, 7, none⟩ = some (.string ⟨⟨nm⟩⟩) := (hx 1 (by simp)).2.2.2
            have hse : s = ⟨⟨nm⟩⟩ := lit_of s nm HS.out
            have HSE := hide hse
            have hgt : decide ((20 : Int) < 17 + (k : Int)) = false := decide_eq_false (by omega)
            have hn20 : nm.length ≤ 20 := by omega
            clear hx htk hse H40
            rw [← HSE.out] at x3
            simp only [List.length_cons, List.length_nil]
            go_wp2_with fail
            refine (name_true s nm _ HS.out HN.out.1 hn20 HN.out.2.1 HN.out.2.2).mono ?_
            rintro e w' ⟨rfl, rfl⟩
            go_wp2_with fail
            go_ret
            exact ⟨rfl, HB3.out⟩
#print axioms lexnames_any
end Go.Proofs.YtoadbgdkcdilhaaDoor
