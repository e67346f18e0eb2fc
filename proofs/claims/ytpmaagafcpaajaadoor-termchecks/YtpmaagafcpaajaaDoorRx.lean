/- The document's Digits, and its Text. -/
import Derived.Test.YtpmaagafcpaajaaDoorWv
import Derived.Test.YtpmaagafcpaajaaDoorTi
import Derived.Test.YtpmaagafcpaajaaDoorMk
import Derived.Deep.DeepCutAuto
import Derived.Deep.CutBlock
namespace Go.Proofs.YtpmaagafcpaajaaDoor
open Go.RowKit

theorem size_len (s : ByteArray) (l : List UInt8) (hl : s.data.toList = l) : s.size = l.length := by
  subst hl
  exact Array.length_toList.symm
theorem app_list (s t : ByteArray) (a b : List UInt8) (h1 : s.data.toList = a) (h2 : t.data.toList = b) : (s ++ t).data.toList = a ++ b := by
  rw [ByteArray.data_append, Array.toList_append, h1, h2]
theorem cv38 (W : World) (x : Int) : (convert 79 9 (.slice (some ⟨W.heap.size, 0, none⟩) 1 1)).run Tryd.prog (W.alloc (.cells #[.int .u8 x] 5)) = .ok (.string (strOfNums [x])) (W.alloc (.cells #[.int .u8 x] 5)) := by
  refine run_convert_bytes_arg _ 79 5 Tryd.underlying79 Tryd.underlying5 W.heap.size 0 1 1 [x] rfl (fun i hi => ?_) 9 Tryd.underlying9
  have hi0 : i = 0 := by omega
  subst hi0
  rw [cell_of_block (heap_alloc_new W _)]
  rfl

set_option linter.unusedSimpArgs false in
set_option maxHeartbeats 1000000 in
theorem digits_one (n : Nat) (w : World) (h : n < 10) : Calls Tryd.prog 53 #[.int .i64 n] w fun e w' => ∃ s : ByteArray, e = .returned (.string s) ∧ s.data.toList = Lib.decDigits n ∧ Below w.heap.size w w' := by
  have CV := cv38
  have hw1 : IntKind.i64.wrap (48 + (n : Int)) = ((48 + n : Nat) : Int) := by rw [IntKind.wrap_i64]; omega
  have hw8 : IntKind.u8.wrap ((48 + n : Nat) : Int) = ((48 + n : Nat) : Int) := by simp [IntKind.wrap, IntKind.bits, IntKind.signed]; omega
  have hw9 : IntKind.u8.wrap (48 + (n : Int)) = ((48 + n : Nat) : Int) := by simp [IntKind.wrap, IntKind.bits, IntKind.signed]; omega
  have HD : Hid (Lib.decDigits n = [UInt8.ofNat (48 + n)]) := hide (by rw [Lib.decDigits, dif_pos h])
  go_enter Tryd.func53, Tryd.ntmps53
  go_wp2_with fail
  go_ret
  refine ⟨_, rfl, ?_, (Below.refl _ _).alloc (Nat.le_refl _) _⟩
  rw [HD.out]
  show [UInt8.ofNat (48 + (n : Int)).toNat] = _
  rw [show (48 + (n : Int)).toNat = 48 + n by omega]

theorem dec_len (u : Nat) (h : u ≤ 9223372036854775807) : (Lib.decDigits u).length ≤ 21 := by
  have h1 := itoa_len (n := (u : Int)) (by unfold I64; omega)
  rw [Lib.itoa_nonneg] at h1
  exact h1

set_option linter.unusedSimpArgs false in
set_option maxHeartbeats 1000000 in
theorem digits_nat : ∀ (n : Nat) (w : World), n ≤ 9223372036854775807 → Calls Tryd.prog 53 #[.int .i64 n] w fun e w' => ∃ s : ByteArray, e = .returned (.string s) ∧ s.data.toList = Lib.decDigits n ∧ Below w.heap.size w w' := by
  intro n
  induction n using Nat.strongRecOn with
  | _ n ih =>
    intro w hm
    by_cases h10 : n < 10
    · exact digits_one n w h10
    · have hdec : Lib.decDigits n = Lib.decDigits (n / 10) ++ Lib.decDigits (n % 10) := by
        rw [Lib.decDigits, dif_neg h10]
        congr 1
        rw [Lib.decDigits, dif_pos (by omega)]
      have HD := hide hdec
      have IH := hide (ih (n / 10) (by omega))
      have hl := dec_len (n / 10) (by omega)
      have hl2 := dec_len (n % 10) (by omega)
      clear hdec ih
      have e1 : (n : Int).tdiv 10 = ((n / 10 : Nat) : Int) := by rw [Int.tdiv_eq_ediv_of_nonneg (by omega)]; omega
      have e2 : (n : Int).tmod 10 = ((n % 10 : Nat) : Int) := by rw [Int.tmod_eq_emod_of_nonneg (by omega)]; omega
      go_enter Tryd.func53, Tryd.ntmps53
      go_wp2_with fail
      rw [show ((n : Int) / 10) = ((n / 10 : Nat) : Int) by omega]
      refine (IH.out w (by omega)).mono ?_
      rintro e w1 ⟨s1, rfl, hs1, hb1⟩
      have HS1 := hide hs1; have HB1 := hide hb1
      have hz1 := size_len _ _ hs1
      clear hs1 hb1
      go_wp2_with fail
      rw [show ((n : Int) % 10) = ((n % 10 : Nat) : Int) by omega]
      refine (digits_one (n % 10) _ (by omega)).mono ?_
      rintro e w2 ⟨s2, rfl, hs2, hb2⟩
      have HS2 := hide hs2
      have HB2 : Hid (Below w.heap.size w w2) := HB1.out.trans (hb2.mono HB1.out.size)
      have hz2 := size_len _ _ hs2
      have hbig : ¬ 9223372036854775807 < s1.size + s2.size := by omega
      have HZ1 := hide hz1
      clear hs2 hb2 hz1 hz2
      go_wp2_with fail
      go_ret
      exact ⟨_, rfl, by rw [HD.out]; exact app_list _ _ _ _ HS1.out HS2.out, HB2.out⟩

theorem min_txt : Lib.itoa (-9223372036854775808) = [45, 57, 50, 50, 51, 51, 55, 50, 48, 51, 54, 56, 53, 52, 55, 55, 53, 56, 48, 56] := by kernel_rfl

set_option linter.unusedSimpArgs false in
set_option maxRecDepth 20000 in
set_option maxHeartbeats 1000000 in
theorem digits_any (n : Int) (w : World) (hi : I64 n) : Calls Tryd.prog 53 #[.int .i64 n] w fun e w' => ∃ s : ByteArray, e = .returned (.string s) ∧ s.data.toList = Lib.itoa n ∧ Below w.heap.size w w' := by
  obtain ⟨h1, h2⟩ := hi
  by_cases hneg : n < 0
  · by_cases hmin : n = -9223372036854775808
    · subst hmin
      have HM := hide min_txt
      go_enter Tryd.func53, Tryd.ntmps53
      go_wp2_with fail
      go_ret
      exact ⟨_, rfl, by rw [HM.out], Below.refl _ _⟩
    · have ht : Lib.itoa n = 45 :: Lib.decDigits n.natAbs := by unfold Lib.itoa; rw [if_pos hneg]
      have HT := hide ht
      have hl := dec_len n.natAbs (by omega)
      have hw : IntKind.i64.wrap (0 - n) = ((n.natAbs : Nat) : Int) := by rw [IntKind.wrap_i64]; omega
      have hw2 : IntKind.i64.wrap (-n) = ((n.natAbs : Nat) : Int) := by rw [IntKind.wrap_i64]; omega
      have heq : (n == -9223372036854775808) = false := by rw [beq_eq_false_iff_ne]; exact hmin
      clear ht
      go_enter Tryd.func53, Tryd.ntmps53
      go_wp2_with fail
      refine (digits_nat n.natAbs _ (by omega)).mono ?_
      rintro e w1 ⟨s1, rfl, hs1, hb1⟩
      have HS1 := hide hs1; have HB1 := hide hb1
      have hz1 := size_len _ _ hs1
      have hbig : ¬ 9223372036854775807 < 1 + s1.size := by omega
      clear hs1 hb1 hz1
      go_wp2_with fail
      go_ret
      exact ⟨_, rfl, by rw [HT.out]; exact app_list _ _ [45] _ rfl HS1.out, HB1.out⟩
  · obtain ⟨m, rfl⟩ : ∃ m : Nat, n = m := ⟨n.toNat, by omega⟩
    rw [Lib.itoa_nonneg]
    exact digits_nat m w (by omega)

/-- What stands ahead of the kids. -/
def dT (op n : Int) : List UInt8 := if op = 1 then 118 :: Lib.itoa n else if op = 2 then 85 :: Lib.itoa n else if op = 25 then 105 :: Lib.itoa n else if op = 26 then (Lib.itoa op ++ [47]) ++ Lib.itoa n else Lib.itoa op
theorem dT_len (op n : Int) (h1 : I64 op) (h2 : I64 n) : (dT op n).length ≤ 50 := by
  have a := itoa_len h1
  have b := itoa_len h2
  unfold dT
  repeat' split
  all_goals simp
  all_goals omega
theorem dT_leaf {t : Tr} (h : Shp t) (hk : t.kids = []) : txtT t = dT t.op t.n := by
  have h26 : t.op ≠ 26 := fun e => by
    have := h.top.2.2.1
    rw [hk, e] at this
    revert this; decide
  rw [txtT_leaf t hk]
  unfold leafT letL dT
  by_cases h1 : t.op = 1
  · rw [if_pos h1, if_pos h1]; rfl
  · rw [if_neg h1, if_neg h1]
    by_cases h2 : t.op = 2
    · rw [if_pos h2, if_pos h2]; rfl
    · rw [if_neg h2, if_neg h2]
      by_cases h3 : t.op = 25
      · rw [if_pos h3, if_pos h3]; rfl
      · rw [if_neg h3, if_neg h3, if_neg h26]; rfl
theorem dT_node {t : Tr} (h : Shp t) (hk : t.kids ≠ []) : txtT t = 40 :: (dT t.op t.n ++ rowT t t.kids.length) ++ [41] := by
  have hx : ∀ o : Int, ar o = 0 → t.op ≠ o := fun o ho e => by
    have := h.top.2.2.1
    rw [e, ho] at this
    exact hk (List.eq_nil_of_length_eq_zero this)
  rw [txtT_node t hk]
  have : headT t.op t.n = dT t.op t.n := by
    unfold headT dT
    rw [if_neg (hx 1 (by decide)), if_neg (hx 2 (by decide)), if_neg (hx 25 (by decide))]
    split <;> simp
  rw [this]
  simp

attribute [local go_sem ↓] Go.wp_at_zero Go.wp_at_succ

/-- Behind the switch. -/
def CutD (w : World) (t : Tr) (a : Option Addr) (cap : Nat) (dv : Value) (wx : World) : Prop :=
  ∃ s : ByteArray, dv = .string s ∧ s.data.toList = dT t.op t.n ∧ wx.heap[w.heap.size]? = some (.cells #[.int .i64 t.op, .int .i64 t.n, .slice a t.kids.length cap] 29 (0, 0)) ∧ Below w.heap.size w wx

set_option linter.unusedSimpArgs false in
set_option maxRecDepth 20000 in
set_option maxHeartbeats 2000000 in
theorem rtext_any (B f : Nat) : ∀ (t : Tr) (v : Value) (w : World), TmAt w B f t v → B ≤ w.heap.size → Shp t → (txtT t).length ≤ 140737488355328 →
    Calls Tryd.prog 31 #[v] w fun e w' => ∃ s : ByteArray, e = .returned (.string s) ∧ s.data.toList = txtT t ∧ Below w.heap.size w w' := by
  induction f with
  | zero => intro t v w h; exact h.elim
  | succ f ih =>
    rintro t v w ⟨a, cap, rfl, hop, hn, hrow⟩ hB hsp hlen
    have IH := hide ih; clear ih
    have HR := hide hrow
    have hlm : t.kids.length ≤ maxLen := Nat.le_trans hrow.1 hrow.2.1
    unfold maxLen at hlm
    clear hrow
    have HSP := hide hsp; have HL := hide hlen; have HOP := hide hop; have HN := hide hn
    have hdl := dT_len t.op t.n hop hn
    clear hsp hlen
    have HX0 : Hid ((w.alloc (.cells #[.int .i64 t.op, .int .i64 t.n, .slice a t.kids.length cap] 29)).heap[w.heap.size]? = some (.cells #[.int .i64 t.op, .int .i64 t.n, .slice a t.kids.length cap] 29 (0, 0))) := hide (heap_alloc_new w _)
    have HB0 : Hid (Below w.heap.size w (w.alloc (.cells #[.int .i64 t.op, .int .i64 t.n, .slice a t.kids.length cap] 29))) := hide (later_alloc w _)
    go_enter Tryd.func31, Tryd.ntmps31
    go_wp2_with fail
    refine (digits_any t.op _ hop).mono ?_
    rintro e w1 ⟨s1, rfl, hs1, hb1⟩
    have HX1 := hide ((hb1.block _ (size_of_block HX0.out)).trans HX0.out)
    have HB1 : Hid (Below w.heap.size w w1) := HB0.out.trans (hb1.mono HB0.out.size)
    have HS1 := hide hs1
    have hz1 := size_len _ _ hs1
    have hil := itoa_len hop
    have hil2 := itoa_len hn
    clear hb1 hs1 HX0 HB0
    obtain ⟨c0, c1, c2⟩ := blk3 HX1.out
    go_upto_block 0 with fail
    go_cut [3] (fun dv wx => CutD w t a cap dv wx)
    case first =>
      by_cases h1 : t.op = 1
      · have q1 : (t.op == 1) = true := beq_iff_eq.2 h1
        have H1 := hide h1
        clear h1
        go_wp2_with fail
        refine (digits_any t.n _ HN.out).mono ?_
        rintro e w2 ⟨s2, rfl, hs2, hb2⟩
        have hz2 := size_len _ _ hs2
        have hbig : ¬ 9223372036854775807 < 1 + s2.size := by omega
        have HS2 := hide hs2; have HB2 := hide hb2
        clear hs2 hb2 hz2
        go_wp2_with fail
        go_meet
        case rel => exact ⟨_, rfl, by unfold dT; rw [if_pos H1.out]; exact app_list _ _ [118] _ rfl HS2.out, (HB2.out.block _ (size_of_block HX1.out)).trans HX1.out, HB1.out.trans (HB2.out.mono HB1.out.size)⟩
      · have q1 := ne_beq h1
        by_cases h2 : t.op = 2
        · have q2 : (t.op == 2) = true := beq_iff_eq.2 h2
          have H1 := hide h1; have H2 := hide h2
          clear h1 h2
          go_wp2_with fail
          refine (digits_any t.n _ HN.out).mono ?_
          rintro e w2 ⟨s2, rfl, hs2, hb2⟩
          have hz2 := size_len _ _ hs2
          have hbig : ¬ 9223372036854775807 < 1 + s2.size := by omega
          have HS2 := hide hs2; have HB2 := hide hb2
          clear hs2 hb2 hz2
          go_wp2_with fail
          go_meet
          case rel => exact ⟨_, rfl, by unfold dT; rw [if_neg H1.out, if_pos H2.out]; exact app_list _ _ [85] _ rfl HS2.out, (HB2.out.block _ (size_of_block HX1.out)).trans HX1.out, HB1.out.trans (HB2.out.mono HB1.out.size)⟩
        · have q2 := ne_beq h2
          by_cases h3 : t.op = 25
          · have q3 : (t.op == 25) = true := beq_iff_eq.2 h3
            have H1 := hide h1; have H2 := hide h2; have H3 := hide h3
            clear h1 h2 h3
            go_wp2_with fail
            refine (digits_any t.n _ HN.out).mono ?_
            rintro e w2 ⟨s2, rfl, hs2, hb2⟩
            have hz2 := size_len _ _ hs2
            have hbig : ¬ 9223372036854775807 < 1 + s2.size := by omega
            have HS2 := hide hs2; have HB2 := hide hb2
            clear hs2 hb2 hz2
            go_wp2_with fail
            go_meet
            case rel => exact ⟨_, rfl, by unfold dT; rw [if_neg H1.out, if_neg H2.out, if_pos H3.out]; exact app_list _ _ [105] _ rfl HS2.out, (HB2.out.block _ (size_of_block HX1.out)).trans HX1.out, HB1.out.trans (HB2.out.mono HB1.out.size)⟩
          · have q3 := ne_beq h3
            by_cases h4 : t.op = 26
            · have q4 : (t.op == 26) = true := beq_iff_eq.2 h4
              have H1 := hide h1; have H2 := hide h2; have H3 := hide h3; have H4 := hide h4
              have hbig0 : ¬ 9223372036854775807 < s1.size + 1 := by omega
              clear h1 h2 h3 h4
              go_wp2_with fail
              refine (digits_any t.n _ HN.out).mono ?_
              rintro e w2 ⟨s2, rfl, hs2, hb2⟩
              have hz2 := size_len _ _ hs2
              have hbig : ¬ 9223372036854775807 < s1.size + 1 + s2.size := by omega
              have hbig' : ¬ 9223372036854775807 < (s1 ++ (⟨#[47]⟩ : ByteArray)).size + s2.size := by rw [ByteArray.size_append]; exact hbig
              have HS2 := hide hs2; have HB2 := hide hb2
              clear hs2 hb2 hz2
              go_wp2_with fail
              go_meet
              case rel => exact ⟨_, rfl, by unfold dT; rw [if_neg H1.out, if_neg H2.out, if_neg H3.out, if_pos H4.out]; exact app_list _ _ _ _ (app_list _ _ _ [47] HS1.out rfl) HS2.out, (HB2.out.block _ (size_of_block HX1.out)).trans HX1.out, HB1.out.trans (HB2.out.mono HB1.out.size)⟩
            · have q4 := ne_beq h4
              have H1 := hide h1; have H2 := hide h2; have H3 := hide h3; have H4 := hide h4
              clear h1 h2 h3 h4
              go_wp2_with fail
              go_meet
              case rel => exact ⟨_, rfl, by unfold dT; rw [if_neg H1.out, if_neg H2.out, if_neg H3.out, if_neg H4.out]; exact HS1.out, HX1.out, HB1.out⟩
    case rest =>
      clear HX1 HB1 HS1 hz1 c0 c1 c2
      obtain ⟨s, rfl, hs, hx, hb⟩ := hcut
      have HS := hide hs; have HX := hide hx; have HB := hide hb
      have hz := size_len _ _ hs
      obtain ⟨c0, c1, c2⟩ := blk3 HX.out
      clear hs hx hb
      by_cases hk : t.kids = []
      · have HK := hide hk
        have hk0 : t.kids.length = 0 := by rw [hk]; rfl
        have hk1 : ((t.kids.length : Int) == 0) = true := by rw [hk0]; rfl
        clear hk hk0
        go_wp2_with fail
        go_ret
        exact ⟨_, rfl, by rw [dT_leaf HSP.out HK.out]; exact HS.out, HB.out⟩
      · have hk1 : ((t.kids.length : Int) == 0) = false := by
          rw [beq_eq_false_iff_ne]
          intro h
          exact hk (List.eq_nil_of_length_eq_zero (by omega))
        have HK := hide hk
        clear hk
        have hbig : ¬ 9223372036854775807 < 1 + s.size := by omega
        have HE : Hid (txtT t = 40 :: (dT t.op t.n ++ rowT t t.kids.length) ++ [41]) := hide (dT_node HSP.out HK.out)
        have hll : (rowT t t.kids.length).length + 2 ≤ 140737488355328 := by
          have h1 := HL.out
          rw [HE.out] at h1
          simp at h1
          omega
        go_wp2_with fail
        go_loopw [4, 5] (fun sv i wr => ∃ (k : Nat) (s : ByteArray), k ≤ t.kids.length ∧ sv = .string s ∧ i = .int .i64 k ∧ Hid (s.data.toList = 40 :: (dT t.op t.n ++ rowT t k)) ∧ Hid (wr.heap[w.heap.size]? = some (.cells #[.int .i64 t.op, .int .i64 t.n, .slice a t.kids.length cap] 29 (0, 0))) ∧ Hid (Below w.heap.size w wr)) (fun _ i _ => t.kids.length - (intOf i).toNat)
        case atStart => exact ⟨0, _, Nat.zero_le _, rfl, rfl, hide (by have := app_list ⟨#[40]⟩ _ [40] _ rfl HS.out; simpa [rowT] using this), HX, HB⟩
        case round =>
          obtain ⟨k, r, hk, rfl, rfl, HRS, HXR, HBR⟩ := hrel
          clear HX HB c0 c1 c2 HS hz hbig
          obtain ⟨d0, d1, d2⟩ := blk3 HXR.out
          have hzr := size_len _ _ HRS.out
          have hrl := rowT_le t k
          rw [List.length_cons, List.length_append] at hzr
          have hb1 : ¬ 9223372036854775807 < r.size + 1 := by omega
          by_cases hlt : k < t.kids.length
          · obtain ⟨kb, koff, ka, kc, rfl, hbB, f0, f1, f2, hr⟩ := HR.out.form hlt
            have hkw : kb < w.heap.size := by omega
            have e0 := (HBR.out.cell (p := ⟨kb, koff + k * 3, none⟩) hkw).trans f0
            have e1 := (HBR.out.cell (p := ⟨kb, koff + k * 3 + 1, none⟩) hkw).trans f1
            have e2 := (HBR.out.cell (p := ⟨kb, koff + k * 3 + 2, none⟩) hkw).trans f2
            clear f0 f1 f2
            have hws := HBR.out.size
            have hsu := rowT_succ t k hlt
            have hle := rowT_le t (k + 1)
            obtain ⟨p, hp⟩ : ∃ p, p = t.kids[k] := ⟨_, rfl⟩
            rw [← hp] at e0 e1 e2 hr hsu
            rw [hsu, List.length_append, List.length_cons] at hle
            have HSU := hide hsu
            have HTk : Hid (TmAt wr B f p (.agg #[.int .i64 p.op, .int .i64 p.n, .slice ka p.kids.length kc])) := TmAt.below hr HBR.out hB (Nat.le_refl _)
            have HSK : Hid (Shp p) := hide (by rw [hp]; exact HSP.out.kid (List.getElem_mem hlt))
            have HPL : Hid ((txtT p).length ≤ 140737488355328) := hide (by omega)
            clear hr hp hsu
            go_wp2_with fail
            refine (IH.out p _ wr HTk.out (by omega) HSK.out HPL.out).mono ?_
            rintro e w2 ⟨s2, rfl, hs2, hb2⟩
            have hz2 := size_len _ _ hs2
            have hbig : ¬ 9223372036854775807 < r.size + 1 + s2.size := by omega
            have hbig' : ¬ 9223372036854775807 < (r ++ (⟨#[32]⟩ : ByteArray)).size + s2.size := by rw [ByteArray.size_append]; exact hbig
            have HS2 := hide hs2; have HB2 := hide hb2
            clear hs2 hb2 hz2
            go_wp2_with fail
            go_roundw
            case rel =>
              refine ⟨k + 1, _, by omega, rfl, by go_num, ?_, (HB2.out.block _ (size_of_block HXR.out)).trans HXR.out, HBR.out.trans (HB2.out.mono HBR.out.size)⟩
              have h3 := app_list _ _ _ _ (app_list _ ⟨#[32]⟩ _ [32] HRS.out rfl) HS2.out
              show _ = _
              rw [h3, HSU.out]
              simp
            case measure => simp [intOf]; omega
          · have hke : k = t.kids.length := by omega
            have HKE := hide hke
            clear hke
            go_wp2_with fail
            go_ret
            exact ⟨_, rfl, by rw [HE.out, ← HKE.out]; exact app_list _ _ _ [41] HRS.out rfl, HBR.out⟩
#print axioms rtext_any
end Go.Proofs.YtpmaagafcpaajaaDoor
