/- LexNumbers: the walk of the statement's function. -/
import Derived.Test.YtoadbgdkcdilhaaDoorDh
namespace Go.Proofs.YtoadbgdkcdilhaaDoor
open Go.RowKit

set_option linter.unusedSimpArgs false in
set_option maxRecDepth 20000 in
set_option maxHeartbeats 4000000 in
theorem lexnumbers_any (n wh mo : Int) (w : World) (he : Errs w) (hn1 : -9223372036854775808 ≤ n) (hn2 : n ≤ 9223372036854775807) : Calls Tryd.prog 4 #[.int .i64 n, .int .i64 wh, .int .i64 mo] w fun e w' => e = .returned (.bool true) ∧ Below w.heap.size w w' := by
  go_enter Tryd.func4, Tryd.ntmps4
  go_wp2_with fail
  refine (known_any w he).mono ?_
  rintro e w1 ⟨rfl, hb1⟩
  have HB1 := hide hb1
  have HE := hide he
  clear hb1 he
  go_wp2_with fail
  refine (digits_any n _ hn1 hn2).mono ?_
  rintro e w2 ⟨s1, rfl, hs1, hb2⟩
  have HS1 := hide hs1
  have HB2 : Hid (Below w.heap.size w w2) := HB1.out.trans (hb2.mono HB1.out.size)
  have hz1 : s1.size ≤ 100000 := by have := size_len _ _ hs1; have := (txt_facts n hn1 hn2).2.1; omega
  have HZ1 := hide hz1
  clear hs1 hb2 hz1
  go_wp2_with fail
  refine (tokens_any _ _ _ HS1.out HZ1.out (HE.out.keep HB2.out)).mono ?_
  rintro e w3 ⟨ho, hb3⟩
  have HB3 : Hid (Below w.heap.size w w3) := HB2.out.trans (hb3.mono HB2.out.size)
  rw [tok_txt n hn1 hn2] at ho
  clear hb3
  by_cases hin : -4611686018427387904 ≤ n ∧ n ≤ 4611686018427387904
  · rw [if_pos hin] at ho
    rcases ho with ⟨er, p, h1, _⟩ | ⟨ts, v, h1, rfl, htk⟩
    · cases h1
    cases h1
    obtain ⟨g, cap, rfl, hc, hg, hx⟩ := toks_cells htk (by simp)
    have x0 : w3.cell? ⟨g, 0, none⟩ = some (.int .i64 4) := (hx 0 (by simp)).1
    have x1 : w3.cell? ⟨g, 1, none⟩ = some (.int .i64 n) := (hx 0 (by simp)).2.1
    clear hx htk
    have hin1 := hin.1
    have hin2 := hin.2
    simp only [List.length_cons, List.length_nil]
    go_wp2_with fail
    refine (within_n mo 5 _ (by decide) (by decide)).mono ?_
    rintro e wz ⟨rfl, hz⟩
    rw [hz]
    clear hz
    have hwi := wi_n mo 5 (by decide)
    obtain ⟨k, hk⟩ : ∃ k : Nat, wi mo 5 = k := ⟨(wi mo 5).toNat, by omega⟩
    have hk5 : k < 5 := by omega
    rw [hk]
    clear hwi hk
    have hwk : IntKind.i64.wrap (4611686018427387902 + (k : Int)) = ((4611686018427387902 + k : Nat) : Int) := by rw [IntKind.wrap_i64]; omega
    go_wp2_with fail
    refine (within_n wh 2 _ (by decide) (by decide)).mono ?_
    rintro e wz ⟨rfl, hz⟩
    rw [hz]
    clear hz
    have hwi := wi_n wh 2 (by decide)
    rcases (show wi wh 2 = 0 ∨ wi wh 2 = 1 by omega) with hk | hk
    · rw [hk]
      clear hwi hk
      go_wp2_with fail
      refine (digits_any ((4611686018427387902 + k : Nat) : Int) _ (by omega) (by omega)).mono ?_
      rintro e w4 ⟨s2, rfl, hs2, hb4⟩
      have HS2 := hide hs2
      have HB4 : Hid (Below w.heap.size w w4) := HB3.out.trans (hb4.mono HB3.out.size)
      have hz2 := size_len _ _ hs2
      have hf2 := (txt_facts ((4611686018427387902 + k : Nat) : Int) (by omega) (by omega)).2.1
      have hbig : ¬ 9223372036854775807 < 1 + s2.size := by omega
      have HL2 : Hid (((⟨#[32]⟩ : ByteArray) ++ s2).data.toList = 32 :: txtN ((4611686018427387902 + k : Nat) : Int)) := app_list _ _ [32] _ rfl hs2
      have HZ2 : Hid (((⟨#[32]⟩ : ByteArray) ++ s2).size ≤ 100000) := by
        show _ ≤ _
        rw [size_len _ _ HL2.out, List.length_cons]
        omega
      clear hs2 hb4 hz2 hf2
      go_wp2_with fail
      refine (tokens_any _ _ _ HL2.out HZ2.out (HE.out.keep HB4.out)).mono ?_
      rintro e w5 ⟨ho, hb5⟩
      have HB5 : Hid (Below w.heap.size w w5) := HB4.out.trans (hb5.mono HB4.out.size)
      rw [tok_txt1 ((4611686018427387902 + k : Nat) : Int) (by omega) (by omega)] at ho
      clear hb5
      by_cases hin : -4611686018427387904 ≤ ((4611686018427387902 + k : Nat) : Int) ∧ ((4611686018427387902 + k : Nat) : Int) ≤ 4611686018427387904
      · rw [if_pos hin] at ho
        rcases ho with ⟨er, p, h1, _⟩ | ⟨ts, v, h1, rfl, htk⟩
        · cases h1
        cases h1
        obtain ⟨g, cap, rfl, hc, hg, hx⟩ := toks_cells htk (by simp)
        have x0 : w5.cell? ⟨g, 0, none⟩ = some (.int .i64 4) := (hx 0 (by simp)).1
        have x1 : w5.cell? ⟨g, 1, none⟩ = some (.int .i64 (((4611686018427387902 + k : Nat) : Int))) := (hx 0 (by simp)).2.1
        have x2 : w5.cell? ⟨g, 2, none⟩ = some (.int .i64 1) := (hx 0 (by simp)).2.2.1
        have x3 : w5.cell? ⟨g, 3, none⟩ = some (.string ⟨#[]⟩) := (hx 0 (by simp)).2.2.2
        clear hx htk
        have hin1 := hin.1
        have hin2 := hin.2
        simp only [List.length_cons, List.length_nil]
        go_wp2_with fail
        go_ret
        exact ⟨rfl, HB5.out⟩
      · rw [if_neg hin] at ho
        rcases ho with ⟨er, p, h1, rfl⟩ | ⟨ts, v, h1, _⟩
        rotate_left
        · cases h1
        cases h1
        have hout : ((4611686018427387902 + k : Nat) : Int) > 4611686018427387904 ∨ ((4611686018427387902 + k : Nat) : Int) < -4611686018427387904 := by omega
        clear hin
        rcases hout with hout | hout
        all_goals
          (go_wp2_with fail) <;> (go_ret; exact ⟨rfl, HB5.out⟩)
    · rw [hk]
      clear hwi hk
      have hng : IntKind.i64.wrap (0 - ((4611686018427387902 + k : Nat) : Int)) = -((4611686018427387902 + k : Nat) : Int) := by rw [IntKind.wrap_i64]; omega
      have hng2 : IntKind.i64.wrap (-((4611686018427387902 + k : Nat) : Int)) = -((4611686018427387902 + k : Nat) : Int) := by rw [IntKind.wrap_i64]; omega
      go_wp2_with fail
      refine (digits_any (-((4611686018427387902 + k : Nat) : Int)) _ (by omega) (by omega)).mono ?_
      rintro e w4 ⟨s2, rfl, hs2, hb4⟩
      have HS2 := hide hs2
      have HB4 : Hid (Below w.heap.size w w4) := HB3.out.trans (hb4.mono HB3.out.size)
      have hz2 := size_len _ _ hs2
      have hf2 := (txt_facts (-((4611686018427387902 + k : Nat) : Int)) (by omega) (by omega)).2.1
      have hbig : ¬ 9223372036854775807 < 1 + s2.size := by omega
      have HL2 : Hid (((⟨#[32]⟩ : ByteArray) ++ s2).data.toList = 32 :: txtN (-((4611686018427387902 + k : Nat) : Int))) := app_list _ _ [32] _ rfl hs2
      have HZ2 : Hid (((⟨#[32]⟩ : ByteArray) ++ s2).size ≤ 100000) := by
        show _ ≤ _
        rw [size_len _ _ HL2.out, List.length_cons]
        omega
      clear hs2 hb4 hz2 hf2
      go_wp2_with fail
      refine (tokens_any _ _ _ HL2.out HZ2.out (HE.out.keep HB4.out)).mono ?_
      rintro e w5 ⟨ho, hb5⟩
      have HB5 : Hid (Below w.heap.size w w5) := HB4.out.trans (hb5.mono HB4.out.size)
      rw [tok_txt1 (-((4611686018427387902 + k : Nat) : Int)) (by omega) (by omega)] at ho
      clear hb5
      by_cases hin : -4611686018427387904 ≤ (-((4611686018427387902 + k : Nat) : Int)) ∧ (-((4611686018427387902 + k : Nat) : Int)) ≤ 4611686018427387904
      · rw [if_pos hin] at ho
        rcases ho with ⟨er, p, h1, _⟩ | ⟨ts, v, h1, rfl, htk⟩
        · cases h1
        cases h1
        obtain ⟨g, cap, rfl, hc, hg, hx⟩ := toks_cells htk (by simp)
        have x0 : w5.cell? ⟨g, 0, none⟩ = some (.int .i64 4) := (hx 0 (by simp)).1
        have x1 : w5.cell? ⟨g, 1, none⟩ = some (.int .i64 ((-((4611686018427387902 + k : Nat) : Int)))) := (hx 0 (by simp)).2.1
        have x2 : w5.cell? ⟨g, 2, none⟩ = some (.int .i64 1) := (hx 0 (by simp)).2.2.1
        have x3 : w5.cell? ⟨g, 3, none⟩ = some (.string ⟨#[]⟩) := (hx 0 (by simp)).2.2.2
        clear hx htk
        have hin1 := hin.1
        have hin2 := hin.2
        simp only [List.length_cons, List.length_nil]
        go_wp2_with fail
        go_ret
        exact ⟨rfl, HB5.out⟩
      · rw [if_neg hin] at ho
        rcases ho with ⟨er, p, h1, rfl⟩ | ⟨ts, v, h1, _⟩
        rotate_left
        · cases h1
        cases h1
        have hout : (-((4611686018427387902 + k : Nat) : Int)) > 4611686018427387904 ∨ (-((4611686018427387902 + k : Nat) : Int)) < -4611686018427387904 := by omega
        clear hin
        rcases hout with hout | hout
        all_goals
          (go_wp2_with fail) <;> (go_ret; exact ⟨rfl, HB5.out⟩)
  · rw [if_neg hin] at ho
    rcases ho with ⟨er, p, h1, rfl⟩ | ⟨ts, v, h1, _⟩
    rotate_left
    · cases h1
    cases h1
    have hout : n < -4611686018427387904 ∨ n > 4611686018427387904 := by omega
    clear hin
    rcases hout with hout | hout
    · go_wp2_with fail
      refine (within_n mo 5 _ (by decide) (by decide)).mono ?_
      rintro e wz ⟨rfl, hz⟩
      rw [hz]
      clear hz
      have hwi := wi_n mo 5 (by decide)
      obtain ⟨k, hk⟩ : ∃ k : Nat, wi mo 5 = k := ⟨(wi mo 5).toNat, by omega⟩
      have hk5 : k < 5 := by omega
      rw [hk]
      clear hwi hk
      have hwk : IntKind.i64.wrap (4611686018427387902 + (k : Int)) = ((4611686018427387902 + k : Nat) : Int) := by rw [IntKind.wrap_i64]; omega
      go_wp2_with fail
      refine (within_n wh 2 _ (by decide) (by decide)).mono ?_
      rintro e wz ⟨rfl, hz⟩
      rw [hz]
      clear hz
      have hwi := wi_n wh 2 (by decide)
      rcases (show wi wh 2 = 0 ∨ wi wh 2 = 1 by omega) with hk | hk
      · rw [hk]
        clear hwi hk
        go_wp2_with fail
        refine (digits_any ((4611686018427387902 + k : Nat) : Int) _ (by omega) (by omega)).mono ?_
        rintro e w4 ⟨s2, rfl, hs2, hb4⟩
        have HS2 := hide hs2
        have HB4 : Hid (Below w.heap.size w w4) := HB3.out.trans (hb4.mono HB3.out.size)
        have hz2 := size_len _ _ hs2
        have hf2 := (txt_facts ((4611686018427387902 + k : Nat) : Int) (by omega) (by omega)).2.1
        have hbig : ¬ 9223372036854775807 < 1 + s2.size := by omega
        have HL2 : Hid (((⟨#[32]⟩ : ByteArray) ++ s2).data.toList = 32 :: txtN ((4611686018427387902 + k : Nat) : Int)) := app_list _ _ [32] _ rfl hs2
        have HZ2 : Hid (((⟨#[32]⟩ : ByteArray) ++ s2).size ≤ 100000) := by
          show _ ≤ _
          rw [size_len _ _ HL2.out, List.length_cons]
          omega
        clear hs2 hb4 hz2 hf2
        go_wp2_with fail
        refine (tokens_any _ _ _ HL2.out HZ2.out (HE.out.keep HB4.out)).mono ?_
        rintro e w5 ⟨ho, hb5⟩
        have HB5 : Hid (Below w.heap.size w w5) := HB4.out.trans (hb5.mono HB4.out.size)
        rw [tok_txt1 ((4611686018427387902 + k : Nat) : Int) (by omega) (by omega)] at ho
        clear hb5
        by_cases hin : -4611686018427387904 ≤ ((4611686018427387902 + k : Nat) : Int) ∧ ((4611686018427387902 + k : Nat) : Int) ≤ 4611686018427387904
        · rw [if_pos hin] at ho
          rcases ho with ⟨er, p, h1, _⟩ | ⟨ts, v, h1, rfl, htk⟩
          · cases h1
          cases h1
          obtain ⟨g, cap, rfl, hc, hg, hx⟩ := toks_cells htk (by simp)
          have x0 : w5.cell? ⟨g, 0, none⟩ = some (.int .i64 4) := (hx 0 (by simp)).1
          have x1 : w5.cell? ⟨g, 1, none⟩ = some (.int .i64 (((4611686018427387902 + k : Nat) : Int))) := (hx 0 (by simp)).2.1
          have x2 : w5.cell? ⟨g, 2, none⟩ = some (.int .i64 1) := (hx 0 (by simp)).2.2.1
          have x3 : w5.cell? ⟨g, 3, none⟩ = some (.string ⟨#[]⟩) := (hx 0 (by simp)).2.2.2
          clear hx htk
          have hin1 := hin.1
          have hin2 := hin.2
          simp only [List.length_cons, List.length_nil]
          go_wp2_with fail
          go_ret
          exact ⟨rfl, HB5.out⟩
        · rw [if_neg hin] at ho
          rcases ho with ⟨er, p, h1, rfl⟩ | ⟨ts, v, h1, _⟩
          rotate_left
          · cases h1
          cases h1
          have hout : ((4611686018427387902 + k : Nat) : Int) > 4611686018427387904 ∨ ((4611686018427387902 + k : Nat) : Int) < -4611686018427387904 := by omega
          clear hin
          rcases hout with hout | hout
          all_goals
            (go_wp2_with fail) <;> (go_ret; exact ⟨rfl, HB5.out⟩)
      · rw [hk]
        clear hwi hk
        have hng : IntKind.i64.wrap (0 - ((4611686018427387902 + k : Nat) : Int)) = -((4611686018427387902 + k : Nat) : Int) := by rw [IntKind.wrap_i64]; omega
        have hng2 : IntKind.i64.wrap (-((4611686018427387902 + k : Nat) : Int)) = -((4611686018427387902 + k : Nat) : Int) := by rw [IntKind.wrap_i64]; omega
        go_wp2_with fail
        refine (digits_any (-((4611686018427387902 + k : Nat) : Int)) _ (by omega) (by omega)).mono ?_
        rintro e w4 ⟨s2, rfl, hs2, hb4⟩
        have HS2 := hide hs2
        have HB4 : Hid (Below w.heap.size w w4) := HB3.out.trans (hb4.mono HB3.out.size)
        have hz2 := size_len _ _ hs2
        have hf2 := (txt_facts (-((4611686018427387902 + k : Nat) : Int)) (by omega) (by omega)).2.1
        have hbig : ¬ 9223372036854775807 < 1 + s2.size := by omega
        have HL2 : Hid (((⟨#[32]⟩ : ByteArray) ++ s2).data.toList = 32 :: txtN (-((4611686018427387902 + k : Nat) : Int))) := app_list _ _ [32] _ rfl hs2
        have HZ2 : Hid (((⟨#[32]⟩ : ByteArray) ++ s2).size ≤ 100000) := by
          show _ ≤ _
          rw [size_len _ _ HL2.out, List.length_cons]
          omega
        clear hs2 hb4 hz2 hf2
        go_wp2_with fail
        refine (tokens_any _ _ _ HL2.out HZ2.out (HE.out.keep HB4.out)).mono ?_
        rintro e w5 ⟨ho, hb5⟩
        have HB5 : Hid (Below w.heap.size w w5) := HB4.out.trans (hb5.mono HB4.out.size)
        rw [tok_txt1 (-((4611686018427387902 + k : Nat) : Int)) (by omega) (by omega)] at ho
        clear hb5
        by_cases hin : -4611686018427387904 ≤ (-((4611686018427387902 + k : Nat) : Int)) ∧ (-((4611686018427387902 + k : Nat) : Int)) ≤ 4611686018427387904
        · rw [if_pos hin] at ho
          rcases ho with ⟨er, p, h1, _⟩ | ⟨ts, v, h1, rfl, htk⟩
          · cases h1
          cases h1
          obtain ⟨g, cap, rfl, hc, hg, hx⟩ := toks_cells htk (by simp)
          have x0 : w5.cell? ⟨g, 0, none⟩ = some (.int .i64 4) := (hx 0 (by simp)).1
          have x1 : w5.cell? ⟨g, 1, none⟩ = some (.int .i64 ((-((4611686018427387902 + k : Nat) : Int)))) := (hx 0 (by simp)).2.1
          have x2 : w5.cell? ⟨g, 2, none⟩ = some (.int .i64 1) := (hx 0 (by simp)).2.2.1
          have x3 : w5.cell? ⟨g, 3, none⟩ = some (.string ⟨#[]⟩) := (hx 0 (by simp)).2.2.2
          clear hx htk
          have hin1 := hin.1
          have hin2 := hin.2
          simp only [List.length_cons, List.length_nil]
          go_wp2_with fail
          go_ret
          exact ⟨rfl, HB5.out⟩
        · rw [if_neg hin] at ho
          rcases ho with ⟨er, p, h1, rfl⟩ | ⟨ts, v, h1, _⟩
          rotate_left
          · cases h1
          cases h1
          have hout : (-((4611686018427387902 + k : Nat) : Int)) > 4611686018427387904 ∨ (-((4611686018427387902 + k : Nat) : Int)) < -4611686018427387904 := by omega
          clear hin
          rcases hout with hout | hout
          all_goals
            (go_wp2_with fail) <;> (go_ret; exact ⟨rfl, HB5.out⟩)
    · go_wp2_with fail
      refine (within_n mo 5 _ (by decide) (by decide)).mono ?_
      rintro e wz ⟨rfl, hz⟩
      rw [hz]
      clear hz
      have hwi := wi_n mo 5 (by decide)
      obtain ⟨k, hk⟩ : ∃ k : Nat, wi mo 5 = k := ⟨(wi mo 5).toNat, by omega⟩
      have hk5 : k < 5 := by omega
      rw [hk]
      clear hwi hk
      have hwk : IntKind.i64.wrap (4611686018427387902 + (k : Int)) = ((4611686018427387902 + k : Nat) : Int) := by rw [IntKind.wrap_i64]; omega
      go_wp2_with fail
      refine (within_n wh 2 _ (by decide) (by decide)).mono ?_
      rintro e wz ⟨rfl, hz⟩
      rw [hz]
      clear hz
      have hwi := wi_n wh 2 (by decide)
      rcases (show wi wh 2 = 0 ∨ wi wh 2 = 1 by omega) with hk | hk
      · rw [hk]
        clear hwi hk
        go_wp2_with fail
        refine (digits_any ((4611686018427387902 + k : Nat) : Int) _ (by omega) (by omega)).mono ?_
        rintro e w4 ⟨s2, rfl, hs2, hb4⟩
        have HS2 := hide hs2
        have HB4 : Hid (Below w.heap.size w w4) := HB3.out.trans (hb4.mono HB3.out.size)
        have hz2 := size_len _ _ hs2
        have hf2 := (txt_facts ((4611686018427387902 + k : Nat) : Int) (by omega) (by omega)).2.1
        have hbig : ¬ 9223372036854775807 < 1 + s2.size := by omega
        have HL2 : Hid (((⟨#[32]⟩ : ByteArray) ++ s2).data.toList = 32 :: txtN ((4611686018427387902 + k : Nat) : Int)) := app_list _ _ [32] _ rfl hs2
        have HZ2 : Hid (((⟨#[32]⟩ : ByteArray) ++ s2).size ≤ 100000) := by
          show _ ≤ _
          rw [size_len _ _ HL2.out, List.length_cons]
          omega
        clear hs2 hb4 hz2 hf2
        go_wp2_with fail
        refine (tokens_any _ _ _ HL2.out HZ2.out (HE.out.keep HB4.out)).mono ?_
        rintro e w5 ⟨ho, hb5⟩
        have HB5 : Hid (Below w.heap.size w w5) := HB4.out.trans (hb5.mono HB4.out.size)
        rw [tok_txt1 ((4611686018427387902 + k : Nat) : Int) (by omega) (by omega)] at ho
        clear hb5
        by_cases hin : -4611686018427387904 ≤ ((4611686018427387902 + k : Nat) : Int) ∧ ((4611686018427387902 + k : Nat) : Int) ≤ 4611686018427387904
        · rw [if_pos hin] at ho
          rcases ho with ⟨er, p, h1, _⟩ | ⟨ts, v, h1, rfl, htk⟩
          · cases h1
          cases h1
          obtain ⟨g, cap, rfl, hc, hg, hx⟩ := toks_cells htk (by simp)
          have x0 : w5.cell? ⟨g, 0, none⟩ = some (.int .i64 4) := (hx 0 (by simp)).1
          have x1 : w5.cell? ⟨g, 1, none⟩ = some (.int .i64 (((4611686018427387902 + k : Nat) : Int))) := (hx 0 (by simp)).2.1
          have x2 : w5.cell? ⟨g, 2, none⟩ = some (.int .i64 1) := (hx 0 (by simp)).2.2.1
          have x3 : w5.cell? ⟨g, 3, none⟩ = some (.string ⟨#[]⟩) := (hx 0 (by simp)).2.2.2
          clear hx htk
          have hin1 := hin.1
          have hin2 := hin.2
          simp only [List.length_cons, List.length_nil]
          go_wp2_with fail
          go_ret
          exact ⟨rfl, HB5.out⟩
        · rw [if_neg hin] at ho
          rcases ho with ⟨er, p, h1, rfl⟩ | ⟨ts, v, h1, _⟩
          rotate_left
          · cases h1
          cases h1
          have hout : ((4611686018427387902 + k : Nat) : Int) > 4611686018427387904 ∨ ((4611686018427387902 + k : Nat) : Int) < -4611686018427387904 := by omega
          clear hin
          rcases hout with hout | hout
          all_goals
            (go_wp2_with fail) <;> (go_ret; exact ⟨rfl, HB5.out⟩)
      · rw [hk]
        clear hwi hk
        have hng : IntKind.i64.wrap (0 - ((4611686018427387902 + k : Nat) : Int)) = -((4611686018427387902 + k : Nat) : Int) := by rw [IntKind.wrap_i64]; omega
        have hng2 : IntKind.i64.wrap (-((4611686018427387902 + k : Nat) : Int)) = -((4611686018427387902 + k : Nat) : Int) := by rw [IntKind.wrap_i64]; omega
        go_wp2_with fail
        refine (digits_any (-((4611686018427387902 + k : Nat) : Int)) _ (by omega) (by omega)).mono ?_
        rintro e w4 ⟨s2, rfl, hs2, hb4⟩
        have HS2 := hide hs2
        have HB4 : Hid (Below w.heap.size w w4) := HB3.out.trans (hb4.mono HB3.out.size)
        have hz2 := size_len _ _ hs2
        have hf2 := (txt_facts (-((4611686018427387902 + k : Nat) : Int)) (by omega) (by omega)).2.1
        have hbig : ¬ 9223372036854775807 < 1 + s2.size := by omega
        have HL2 : Hid (((⟨#[32]⟩ : ByteArray) ++ s2).data.toList = 32 :: txtN (-((4611686018427387902 + k : Nat) : Int))) := app_list _ _ [32] _ rfl hs2
        have HZ2 : Hid (((⟨#[32]⟩ : ByteArray) ++ s2).size ≤ 100000) := by
          show _ ≤ _
          rw [size_len _ _ HL2.out, List.length_cons]
          omega
        clear hs2 hb4 hz2 hf2
        go_wp2_with fail
        refine (tokens_any _ _ _ HL2.out HZ2.out (HE.out.keep HB4.out)).mono ?_
        rintro e w5 ⟨ho, hb5⟩
        have HB5 : Hid (Below w.heap.size w w5) := HB4.out.trans (hb5.mono HB4.out.size)
        rw [tok_txt1 (-((4611686018427387902 + k : Nat) : Int)) (by omega) (by omega)] at ho
        clear hb5
        by_cases hin : -4611686018427387904 ≤ (-((4611686018427387902 + k : Nat) : Int)) ∧ (-((4611686018427387902 + k : Nat) : Int)) ≤ 4611686018427387904
        · rw [if_pos hin] at ho
          rcases ho with ⟨er, p, h1, _⟩ | ⟨ts, v, h1, rfl, htk⟩
          · cases h1
          cases h1
          obtain ⟨g, cap, rfl, hc, hg, hx⟩ := toks_cells htk (by simp)
          have x0 : w5.cell? ⟨g, 0, none⟩ = some (.int .i64 4) := (hx 0 (by simp)).1
          have x1 : w5.cell? ⟨g, 1, none⟩ = some (.int .i64 ((-((4611686018427387902 + k : Nat) : Int)))) := (hx 0 (by simp)).2.1
          have x2 : w5.cell? ⟨g, 2, none⟩ = some (.int .i64 1) := (hx 0 (by simp)).2.2.1
          have x3 : w5.cell? ⟨g, 3, none⟩ = some (.string ⟨#[]⟩) := (hx 0 (by simp)).2.2.2
          clear hx htk
          have hin1 := hin.1
          have hin2 := hin.2
          simp only [List.length_cons, List.length_nil]
          go_wp2_with fail
          go_ret
          exact ⟨rfl, HB5.out⟩
        · rw [if_neg hin] at ho
          rcases ho with ⟨er, p, h1, rfl⟩ | ⟨ts, v, h1, _⟩
          rotate_left
          · cases h1
          cases h1
          have hout : (-((4611686018427387902 + k : Nat) : Int)) > 4611686018427387904 ∨ (-((4611686018427387902 + k : Nat) : Int)) < -4611686018427387904 := by omega
          clear hin
          rcases hout with hout | hout
          all_goals
            (go_wp2_with fail) <;> (go_ret; exact ⟨rfl, HB5.out⟩)
#print axioms lexnumbers_any
end Go.Proofs.YtoadbgdkcdilhaaDoor
