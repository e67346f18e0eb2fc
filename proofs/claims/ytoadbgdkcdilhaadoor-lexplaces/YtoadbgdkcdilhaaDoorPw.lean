/- LexPlaces: the walk. -/
import Derived.Test.YtoadbgdkcdilhaaDoorPl
import Derived.Test.YtoadbgdkcdilhaaDoorLo
import Derived.Test.YtoadbgdkcdilhaaDoorTx
namespace Go.Proofs.YtoadbgdkcdilhaaDoor
open Go.RowKit

set_option linter.unusedSimpArgs false in
set_option maxRecDepth 20000 in
set_option maxHeartbeats 4000000 in
theorem lexplaces_any (v : Value) (n : Nat) (w : World) (he : Errs w) (h : NumRow w v n) : Calls Tryd.prog 7 #[v] w fun e w' => e = .returned (.bool true) ∧ Below w.heap.size w w' := by
  have HE := hide he; have HN := hide h
  obtain ⟨a, c, rfl, -⟩ := h
  clear he
  go_enter Tryd.func7, Tryd.ntmps7
  go_wp2_with fail
  refine (known_any w HE.out).mono ?_
  rintro e w1 ⟨rfl, hb1⟩
  have HB1 := hide hb1
  clear hb1
  go_wp2_with fail
  refine (text_any _ n _ (HN.out.keep HB1.out)).mono ?_
  rintro e w2 ⟨s, rfl, hs, -, hb2⟩
  have HB2 : Hid (Below w.heap.size w w2) := HB1.out.trans (hb2.mono HB1.out.size)
  clear hb2 HB1
  go_wp2_with fail
  obtain ⟨L, hL⟩ : ∃ L, s.data.toList = L := ⟨_, rfl⟩
  have HZ := hide (size_len s L hL)
  refine (tokens_any s L w2 hL (by omega) (HE.out.keep HB2.out)).mono ?_
  rintro e w3 ⟨ho, hb3⟩
  have HB3 : Hid (Below w.heap.size w w3) := HB2.out.trans (hb3.mono HB2.out.size)
  clear hb3 HB2
  rcases ho with ⟨er, p, h1, rfl⟩ | ⟨ts, v, h1, rfl, h2⟩
  · have HER := hide h1
    have her := err_pos h1
    clear h1
    have hne : ((er : Int) != 0) = true := by rw [bne_iff_ne]; omega
    go_wp2_with fail
    refine (rtokens_any s L _ hL (by omega)).mono ?_
    rintro e w4 ⟨ho, hb4⟩
    have HB4 : Hid (Below w.heap.size w w4) := HB3.out.trans (hb4.mono HB3.out.size)
    clear hb4
    rw [HER.out] at ho
    rcases ho with ⟨er2, p2, h1, rfl⟩ | ⟨ts, v, h1, _⟩
    · cases h1
      go_wp2_with fail
      go_ret
      exact ⟨rfl, HB4.out⟩
    · cases h1
  · have HP := hide (tok_places h1)
    have hlen := tok_len h1
    have HT := hide (TokRow.of h2)
    clear h1 h2
    obtain ⟨la, lc, rfl, hlc, hx⟩ := HT.out
    have HX := hide hx
    clear hx
    go_wp2_with fail
    go_loopw [10, 11, 12] (fun ev i _ wr => ∃ (k E : Nat), ev = .int .i64 E ∧ i = .int .i64 k ∧ k ≤ ts.length ∧ E ≤ s.size ∧ Hid (PlOk L E (ts.drop k)) ∧ Hid (Below w.heap.size w wr) ∧ Hid (Below w3.heap.size w3 wr)) (fun _ i _ _ => ts.length - (intOf i).toNat)
    case atStart => exact ⟨0, 0, rfl, rfl, Nat.zero_le _, Nat.zero_le _, by rw [List.drop_zero]; exact HP.out, HB3.out, Below.refl _ _⟩
    case round =>
      obtain ⟨k, E, rfl, rfl, hk, hE, HPL, HBW, HBX⟩ := hrel
      by_cases hlt : k < ts.length
      · obtain ⟨g, off, rfl, hg, hx⟩ := HX.out (by omega)
        obtain ⟨p0, p1, p2, p3⟩ := hx k hlt
        have e0 := (HBX.out.cell (p := ⟨g, off + k * 4, none⟩) hg).trans p0
        have e1 := (HBX.out.cell (p := ⟨g, off + k * 4 + 1, none⟩) hg).trans p1
        have e2 := (HBX.out.cell (p := ⟨g, off + k * 4 + 2, none⟩) hg).trans p2
        have e3 := (HBX.out.cell (p := ⟨g, off + k * 4 + 3, none⟩) hg).trans p3
        have hpl := HPL.out
        rw [List.drop_eq_getElem_cons hlt] at hpl
        obtain ⟨ha1, ha2, q, hsay, hnext⟩ := hpl
        have HSAY := hide hsay; have HNX := hide hnext
        clear hx p0 p1 p2 p3 hsay hnext HP
        generalize ts[k] = t at *
        have hat : t.at' < s.size := by have := HZ.out; omega
        have hwk : IntKind.i64.wrap ((k : Int) + 1) = ((k + 1 : Nat) : Int) := by rw [IntKind.wrap_i64]; omega
        have hwa : IntKind.i64.wrap ((t.at' : Int) + 1) = ((t.at' + 1 : Nat) : Int) := by rw [IntKind.wrap_i64]; omega
        go_upto_region 13 with fail
        have HT2 : Hid ((wr.alloc (.cells #[.int .i64 t.kind, .int .i64 t.n, .int .i64 t.at', .string ⟨⟨t.s⟩⟩] 29)).heap[wr.heap.size]? = some (.cells #[.int .i64 t.kind, .int .i64 t.n, .int .i64 t.at', .string ⟨⟨t.s⟩⟩] 29 (0, 0))) := heap_alloc_new wr _
        have HBW2 : Hid (Below w.heap.size w (wr.alloc (.cells #[.int .i64 t.kind, .int .i64 t.n, .int .i64 t.at', .string ⟨⟨t.s⟩⟩] 29))) := HBW.out.alloc HBW.out.size _
        have HBX2 : Hid (Below w3.heap.size w3 (wr.alloc (.cells #[.int .i64 t.kind, .int .i64 t.n, .int .i64 t.at', .string ⟨⟨t.s⟩⟩] 29))) := HBX.out.alloc HBX.out.size _
        generalize wr.alloc (.cells #[.int .i64 t.kind, .int .i64 t.n, .int .i64 t.at', .string ⟨⟨t.s⟩⟩] 29) = W at *
        generalize wr.heap.size = tb at *
        clear e0 e1 e2 e3 HBW HBX HPL HT HX HB3
        obtain ⟨d0, d1, d2, d3⟩ := blk4 HT2.out
        have E0 := hide (get_byt s L hL t.at' hat)
        obtain ⟨tk, tn, ta, tx⟩ := t
        simp only at *
        have hat2 : ta < s.size := hat
        have hae : E ≤ ta := ha1
        have w0 : IntKind.i64.wrap 0 = 0 := by decide
        have w1 : IntKind.i64.wrap 1 = 1 := by decide
        have l0 : ∀ h, ((⟨#[40, 41]⟩ : ByteArray)[0]'h).toNat = 40 := fun _ => rfl
        have l1 : ∀ h, ((⟨#[40, 41]⟩ : ByteArray)[1]'h).toNat = 41 := fun _ => rfl
        have c1 : ¬ (ta : Int) < (E : Int) := by omega
        have c2 : ¬ (s.size : Int) ≤ (ta : Int) := by omega
        rcases HSAY.out with ⟨rfl, hb, rfl, rfl⟩ | ⟨rfl, hb, rfl, rfl⟩ | ⟨rfl, rfl, hpos, htk, hle, rfl⟩ | ⟨rfl, rfl, rfl⟩
        · have e40 : (((s[ta]'hat).toNat : Int) != 40) = false := by rw [E0.out, hb]; rfl
          clear hb
          go_wp2_with fail
          go_region
          go_wp2_with fail
          go_roundw
          case rel => exact ⟨k + 1, ta + 1, by go_num, by go_num, by omega, by omega, HNX.out, HBW2.out.drew, HBX2.out.drew⟩
          case measure => simp [intOf]; omega
        · have e40 : (((s[ta]'hat).toNat : Int) != 41) = false := by rw [E0.out, hb]; rfl
          clear hb
          go_wp2_with fail
          go_region
          go_wp2_with fail
          go_roundw
          case rel => exact ⟨k + 1, ta + 1, by go_num, by go_num, by omega, by omega, HNX.out, HBW2.out.drew, HBX2.out.drew⟩
          case measure => simp [intOf]; omega
        · have hxs : (⟨⟨tx⟩⟩ : ByteArray).size = tx.length := rfl
          have hle2 : ta + tx.length ≤ s.size := by have := HZ.out; have h2 : ta + tx.length ≤ L.length := hle; omega
          have hext : s.extract ta (ta + tx.length) = ⟨⟨tx⟩⟩ := by
            rw [ext_lit s L hL ta (ta + tx.length), show ta + tx.length - ta = tx.length by omega]
            exact congrArg (fun l => (⟨⟨l⟩⟩ : ByteArray)) htk
          have hpos2 : 0 < tx.length := hpos
          clear hle htk hpos
          generalize hX : (⟨⟨tx⟩⟩ : ByteArray) = X at *
          have hem : (⟨#[]⟩ : ByteArray).toList = [] := by simp [ByteArray.toList_eq]
          have hnl4 : ¬ X.toList = [] := by
            intro hx
            have h1 := congrArg List.length hx
            rw [ByteArray.toList_eq, ← size_len X _ rfl, hxs, List.length_nil] at h1
            omega
          have hnl2 : (X.toList == []) = false := beq_eq_false_iff_ne.2 hnl4
          have hnl : (X.toList == (⟨#[]⟩ : ByteArray).toList) = false := by rw [hem]; exact hnl2
          have hnl3 : X.toList.isEmpty = false := by
            cases hx : X.toList with
            | nil => exact absurd hx hnl4
            | cons _ _ => rfl
          generalize tx.length = m at *
          have hwm : IntKind.i64.wrap ((ta : Int) + (m : Int)) = ((ta + m : Nat) : Int) := by rw [IntKind.wrap_i64]; omega
          have c3 : decide ((s.size : Int) < (ta : Int) + (m : Int)) = false := decide_eq_false (by omega)
          have c4 : (ta : Int) ≤ (ta : Int) + (m : Int) := by omega
          have hta : ((ta : Int) + (m : Int)).toNat = ta + m := by omega
          clear w0 w1 l0 l1 hwa hX
          go_wp2_with fail
          go_region
          go_wp2_with fail
          go_roundw
          case rel => exact ⟨k + 1, ta + m, by go_num, by go_num, by omega, by omega, HNX.out, HBW2.out.drew, HBX2.out.drew⟩
          case measure => simp [intOf]; omega
        · go_wp2_with fail
          go_roundw
          case rel => exact ⟨k + 1, ta + 1, by go_num, by go_num, by omega, by omega, HNX.out, HBW2.out, HBX2.out⟩
          case measure => simp [intOf]; omega
      · have hke : k = ts.length := by omega
        clear hlt
        go_wp2_with fail
        go_ret
        exact ⟨rfl, HBW.out⟩
#print axioms lexplaces_any
end Go.Proofs.YtoadbgdkcdilhaaDoor
