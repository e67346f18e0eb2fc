/- The second saying's Tokens: it answers what lex.Tokens answers. -/
import Derived.Test.YtoadbgdkcdilhaaDoorNb
import Derived.OneCell
namespace Go.Proofs.YtoadbgdkcdilhaaDoor
open Go.RowKit

/-- Behind the switch of a round. -/
def RtCut (L : List UInt8) (w : World) (lv : Value) (ts : List Tok) (E tb : Nat) (kv : Value) (wx : World) : Prop :=
  ∃ (t : Tok) (E' : Nat), kv = .int .i64 E' ∧ wx.heap[tb]? = some (.cells #[.int .i64 t.kind, .int .i64 t.n, .int .i64 t.at', .string ⟨⟨t.s⟩⟩] 29 (0, 0)) ∧ ToksAt wx w.heap.size lv ts ∧ Below w.heap.size w wx ∧ E < E' ∧ E' ≤ L.length ∧ Left L (ts ++ [t]) E'

theorem one_byte : ∀ (l : List UInt8), 1 ≤ l.length → byt l 0 = 42 → l.take 1 = [42]
  | c :: r, _, h => by
    have h1 : c.toNat = 42 := by have : ((c.toNat : Nat) : Int) = 42 := h; omega
    have h2 : c = 42 := UInt8.toNat_inj.mp h1
    rw [h2]; rfl

theorem two_bytes : ∀ (l : List UInt8), 2 ≤ l.length → byt l 0 = 45 → byt l 1 = 62 → l.take 2 = [45, 62]
  | c :: d :: r, _, h, h' => by
    have h1 : c.toNat = 45 := by have : ((c.toNat : Nat) : Int) = 45 := h; omega
    have h2 : c = 45 := UInt8.toNat_inj.mp h1
    have h3 : d.toNat = 62 := by have : ((d.toNat : Nat) : Int) = 62 := h'; omega
    have h4 : d = 62 := UInt8.toNat_inj.mp h3
    rw [h2, h4]; rfl
  | [_], h, _, _ => by simp at h
  | [], h, _, _ => by simp at h

theorem star_one {l : List UInt8} {p : Nat} (hb : blankB (byt l 0) = false) (h1 : byt l 0 ≠ 59) (h : byt l 0 = 42) (hl : 1 ≤ l.length) : oneP l p = .ok (1, some ⟨3, 0, p, [42]⟩) := by
  have hs : signN l = 1 := by unfold signN; rw [h]; simp
  rw [one_sign hb h1 (by omega) (by omega) (by rw [h]; decide) (by omega), hs, one_byte l hl h]

theorem arrow_one {l : List UInt8} {p : Nat} (hb : blankB (byt l 0) = false) (h1 : byt l 0 ≠ 59) (h : byt l 0 = 45) (hl : 2 ≤ l.length) (h' : byt l 1 = 62) : oneP l p = .ok (2, some ⟨3, 0, p, [45, 62]⟩) := by
  have hs : signN l = 2 := by unfold signN; rw [h, h']; simp; omega
  rw [one_sign hb h1 (by omega) (by omega) (by rw [h]; decide) (by omega), hs, two_bytes l hl h h']

theorem first_name (c : Int) : firstB c = (nameB c && !digB c) := by
  rw [Bool.eq_iff_iff]
  unfold firstB nameB digB
  simp only [Bool.and_eq_true, Bool.or_eq_true, decide_eq_true_eq, beq_iff_eq, Bool.not_eq_true', Bool.and_eq_false_iff, decide_eq_false_iff_not]
  omega

theorem byt_take (l : List UInt8) (n j : Nat) (h : j < n) : byt (l.take n) j = byt l j := by
  unfold byt
  simp [List.getD, h]

theorem mem_byt (l : List UInt8) (p : UInt8 → Prop) (h : ∀ j (hj : j < l.length), p l[j]) : ∀ c ∈ l, p c := by
  intro c hc
  obtain ⟨j, hj, rfl⟩ := List.mem_iff_getElem.1 hc
  exact h j hj

theorem byt_el (l : List UInt8) (j : Nat) (hj : j < l.length) : byt l j = ((l[j]).toNat : Int) := by
  unfold byt
  simp [List.getD, hj]

theorem dig_nat {n : Nat} (h : digB (n : Int) = true) : 48 ≤ n ∧ n ≤ 57 := by
  unfold digB at h
  simp at h
  omega

theorem num_chars (l : List UInt8) (h0 : digB (byt l 0) = true ∨ byt l 0 = 45) (hd : ∀ j, 1 ≤ j → j < l.length → digB (byt l j) = true) : ∀ c ∈ l, c.toNat = 45 ∨ (48 ≤ c.toNat ∧ c.toNat ≤ 57) := by
  refine mem_byt l _ (fun j hj => ?_)
  by_cases h : j = 0
  · subst h
    rw [byt_el l 0 hj] at h0
    rcases h0 with h0 | h0
    · exact Or.inr (dig_nat h0)
    · left; omega
  · have h1 := hd j (by omega) hj
    rw [byt_el l j hj] at h1
    exact Or.inr (dig_nat h1)

theorem num_val (l : List UInt8) (h : digB (byt l 0) = true ∨ (byt l 0 = 45 ∧ 1 < l.length)) (hne : 0 < l.length) (hd : ∀ j, 1 ≤ j → j < l.length → digB (byt l j) = true) : valP l = Option.map (fun u : Nat => if byt l 0 = 45 then -(u : Int) else u) (numL 0 l) := by
  rcases h with h | ⟨h, hl⟩
  · have hD : Digs l := by
      refine mem_byt l _ (fun j hj => ?_)
      by_cases h2 : j = 0
      · subst h2; rw [byt_el l 0 hj] at h; exact dig_nat h
      · have h1 := hd j (by omega) hj
        rw [byt_el l j hj] at h1
        exact dig_nat h1
    have hn : ¬ byt l 0 = 45 := fun e => by rw [e] at h; revert h; decide
    simp only [hn, if_false]
    exact num_plain hD (by intro e; rw [e] at hne; simp at hne)
  · match l, h, hl, hd with
    | c :: ds, h, hl, hd =>
      have hc : c = 45 := UInt8.toNat_inj.mp (by have : ((c.toNat : Nat) : Int) = 45 := h; show c.toNat = 45; omega)
      subst hc
      have hD : Digs ds := by
        refine mem_byt ds _ (fun j hj => ?_)
        have h1 := hd (j + 1) (by omega) (by simp; omega)
        rw [byt_el _ (j + 1) (by simp; omega)] at h1
        exact dig_nat h1
      have hy : byt (45 :: ds) 0 = 45 := rfl
      simp only [hy, if_true]
      exact num_minus hD (by intro e; rw [e] at hl; simp at hl)

theorem byt_of_drop (L : List UInt8) (E : Nat) : byt (L.drop E) 0 = byt L E := by rw [byt_drop0, Nat.add_zero]

set_option linter.unusedSimpArgs false in
set_option maxRecDepth 20000 in
set_option maxHeartbeats 4000000 in
theorem rtokens_any (s : ByteArray) (L : List UInt8) (w : World) (hL : s.data.toList = L) (hm : s.size ≤ 100000) : Calls Tryd.prog 11 #[.string s] w (TokOut L w) := by
  have HZ := hide (size_len s L hL)
  have HG : Hid (∀ (i : Nat) (h : i < s.size), ((s[i]'h).toNat : Int) = byt L i) := get_byt s L hL
  go_enter Tryd.func11, Tryd.ntmps11
  by_cases hlong : 4000 < s.size
  · go_wp2_with fail
    go_ret3
    have h2 := HZ.out
    exact ⟨Or.inl ⟨4, 0, by unfold tokP; rw [if_pos (by omega)], rfl⟩, Below.refl _ _⟩
  · have hs4 : s.size ≤ 4000 := by omega
    go_wp2_with fail
    refine (skip_any s L _ hL (by omega) 0 (by omega)).mono ?_
    rintro e w1 ⟨j, rfl, _, hj, hjb, hjl, h1⟩
    rw [h1]
    have HJ := hide hjb; have HJL := hide (hjl [] (Left.zero L))
    have hjs : j ≤ s.size := by have := HZ.out; omega
    clear hjb hjl h1
    go_wp2_with fail
    go_loopw [5, 6, 7, 8, 9, 10] (fun lv i _ _ _ _ wr => ∃ (ts : List Tok) (E : Nat), i = .int .i64 E ∧ E ≤ s.size ∧ ToksAt wr w.heap.size lv ts ∧ Below w.heap.size w wr ∧ Hid (E < L.length → blankB (byt L E) = false ∧ byt L E ≠ 59) ∧ Hid (Left L ts E) ∧ ts.length ≤ E) (fun _ i _ _ _ _ _ => s.size - (intOf i).toNat)
    case atStart => exact ⟨[], j, rfl, hjs, ⟨rfl, Or.inl ⟨rfl, rfl⟩⟩, Below.refl _ _, HJ.out, HJL.out, by simp⟩
    case round =>
      clear HJ HJL
      obtain ⟨ts, E, rfl, hE, htk, hbl, HJ, HLF, htl⟩ := hrel
      have HTK := hide htk; have HB := hide hbl
      obtain ⟨la, lc, hlv, hlc1, hlc2⟩ := owns_form htk
      clear htk hbl
      by_cases hlt : E < s.size
      · have hLE : E < L.length := by have := HZ.out; omega
        obtain ⟨hnb, hn59⟩ := HJ.out hLE
        have HNB : Hid (blankB (byt (L.drop E) 0) = false) := by rw [byt_of_drop]; exact hnb
        have H59 : Hid (byt (L.drop E) 0 ≠ 59) := by rw [byt_of_drop]; exact hn59
        have HLE := hide hLE
        have E0 := hide (HG.out E hlt)
        clear hnb hn59 hLE
        have hwk : IntKind.i64.wrap ((E : Int) + 1) = ((E + 1 : Nat) : Int) := by rw [IntKind.wrap_i64]; omega
        go_upto_block 2 with fail
        have hts5 := Nat.lt_succ_self wr.heap.size
        have HBT : Hid ((wr.alloc (.cells #[.int .i64 0, .int .i64 0, .int .i64 E, .string ⟨#[]⟩] 29)).heap[wr.heap.size]? = some (.cells #[.int .i64 0, .int .i64 0, .int .i64 E, .string ⟨#[]⟩] 29 (0, 0))) := heap_alloc_new wr _
        have HB2 : Hid (Below w.heap.size w (wr.alloc (.cells #[.int .i64 0, .int .i64 0, .int .i64 E, .string ⟨#[]⟩] 29))) := HB.out.alloc HB.out.size _
        have HT2 : Hid (ToksAt (wr.alloc (.cells #[.int .i64 0, .int .i64 0, .int .i64 E, .string ⟨#[]⟩] 29)) w.heap.size u5 ts) := World.ownsRow.alloc HTK.out _
        have htb : w.heap.size ≤ wr.heap.size := HB.out.size
        have HNO : Hid (u5.ownBlock ≠ some wr.heap.size) := fun e => Nat.lt_irrefl _ (HTK.out.lt _ e).2
        generalize wr.alloc (.cells #[.int .i64 0, .int .i64 0, .int .i64 E, .string ⟨#[]⟩] 29) = W at *
        generalize wr.heap.size = tb at *
        clear HTK HB hts5
        have HLV := hide hlv
        clear hlv
        go_cut [7, 9, 10] (fun kv _ _ wx => RtCut L w u5 ts E tb kv wx)
        case first =>
          obtain ⟨d0, d1, d2, d3⟩ := blk4 HBT.out
          have z0 := frozen_of_block HBT.out 0; have z3 := frozen_of_block HBT.out 3; have z1 := frozen_of_block HBT.out 1
          by_cases h40 : byt (L.drop E) 0 = 40
          · have HON : Hid (oneP (L.drop E) E = .ok (1, some ⟨1, 0, E, []⟩)) := one_open HNB.out H59.out h40
            have e40 : (((s[E]'hlt).toNat : Int) == 40) = true := by rw [E0.out, ← byt_of_drop, h40]; rfl
            clear h40
            go_wp2_with fail
            go_meet
            exact ⟨⟨1, 0, E, []⟩, E + 1, by go_num, (by rw [heap_setCell_same _ _ 0 _ _ _ HBT.out]; rfl), ownsRow_setCell_other HT2.out HNO.out _, HB2.out.setCell htb _, by omega, HLE.out, HLF.out.tok HLE.out HON.out⟩
          have H40 := hide h40
          have e40 : (((s[E]'hlt).toNat : Int) == 40) = false := by rw [E0.out, ← byt_of_drop]; simpa using h40
          clear h40
          by_cases h41 : byt (L.drop E) 0 = 41
          · have HON : Hid (oneP (L.drop E) E = .ok (1, some ⟨2, 0, E, []⟩)) := one_close HNB.out H59.out h41
            have e41 : (((s[E]'hlt).toNat : Int) == 41) = true := by rw [E0.out, ← byt_of_drop, h41]; rfl
            clear h41
            go_wp2_with fail
            go_meet
            exact ⟨⟨2, 0, E, []⟩, E + 1, by go_num, (by rw [heap_setCell_same _ _ 0 _ _ _ HBT.out]; rfl), ownsRow_setCell_other HT2.out HNO.out _, HB2.out.setCell htb _, by omega, HLE.out, HLF.out.tok HLE.out HON.out⟩
          have H41 := hide h41
          have e41 : (((s[E]'hlt).toNat : Int) == 41) = false := by rw [E0.out, ← byt_of_drop]; simpa using h41
          clear h41
          by_cases h42 : byt (L.drop E) 0 = 42
          · have HON : Hid (oneP (L.drop E) E = .ok (1, some ⟨3, 0, E, [42]⟩)) := star_one HNB.out H59.out h42 (by rw [List.length_drop]; have := HLE.out; omega)
            have e42 : (((s[E]'hlt).toNat : Int) == 42) = true := by rw [E0.out, ← byt_of_drop, h42]; rfl
            clear h42
            go_wp2_with fail
            go_meet
            exact ⟨⟨3, 0, E, [42]⟩, E + 1, by go_num, (by rw [heap_setCell_same _ _ 3 _ _ _ (heap_setCell_same _ _ 0 _ _ _ HBT.out)]; rfl), ownsRow_setCell_other (ownsRow_setCell_other HT2.out HNO.out _) HNO.out _, (HB2.out.setCell htb _).setCell htb _, by omega, HLE.out, HLF.out.tok HLE.out HON.out⟩
          have H42 := hide h42
          have e42 : (((s[E]'hlt).toNat : Int) == 42) = false := by rw [E0.out, ← byt_of_drop]; simpa using h42
          clear h42
          by_cases hsg : byt (L.drop E) 0 = 45 ∧ E + 1 < s.size ∧ byt L (E + 1) = 62
          · obtain ⟨h45, hl2, h62⟩ := hsg
            have HON : Hid (oneP (L.drop E) E = .ok (2, some ⟨3, 0, E, [45, 62]⟩)) := arrow_one HNB.out H59.out h45 (by rw [List.length_drop]; have := HZ.out; omega) (by rw [byt_drop0]; exact h62)
            have e45 : (((s[E]'hlt).toNat : Int) == 45) = true := by rw [E0.out, ← byt_of_drop, h45]; rfl
            have e62 : (((s[E + 1]'hl2).toNat : Int) == 62) = true := by rw [HG.out, h62]; rfl
            have hwk2 : IntKind.i64.wrap ((E : Int) + 1 + 1) = ((E + 2 : Nat) : Int) := by rw [IntKind.wrap_i64]; omega
            clear h45 h62
            go_wp2_with fail
            go_meet
            exact ⟨⟨3, 0, E, [45, 62]⟩, E + 2, by go_num, (by rw [heap_setCell_same _ _ 3 _ _ _ (heap_setCell_same _ _ 0 _ _ _ HBT.out)]; rfl), ownsRow_setCell_other (ownsRow_setCell_other HT2.out HNO.out _) HNO.out _, (HB2.out.setCell htb _).setCell htb _, by omega, by have := HZ.out; omega, HLF.out.tok HLE.out HON.out⟩
          have HSG : Hid (¬ 0 < signN (L.drop E)) := by
            show ¬ 0 < signN (L.drop E)
            unfold signN
            rw [if_neg (fun h => hsg ⟨h.1, by have := HZ.out; have h2 := h.2.1; rw [List.length_drop] at h2; omega, by have h3 := h.2.2; rw [byt_drop0] at h3; exact h3⟩), if_neg H42.out]
            omega
          have HSN := hide hsg
          clear hsg
          have HPICK : Hid (byt (L.drop E) 0 = 45 → ∀ (hl2 : E + 1 < s.size), (((s[E + 1]'hl2).toNat : Int) == 62) = false) := fun h hl2 => by
            rw [beq_eq_false_iff_ne, HG.out]; exact fun h3 => HSN.out ⟨h, hl2, h3⟩
          have HFN : Hid (firstB (byt L E) = (nameB (byt (L.drop E) 0) && !digB (byt (L.drop E) 0))) := by show _ = _; rw [byt_of_drop]; exact first_name _
          by_cases h45 : byt (L.drop E) 0 = 45
          · have H45 := hide h45
            have e45 : (((s[E]'hlt).toNat : Int) == 45) = true := by rw [E0.out, ← byt_of_drop, h45]; rfl
            have HNM : Hid ((nameB (byt (L.drop E) 0) && !digB (byt (L.drop E) 0)) = false) := by show _ = _; rw [h45]; decide
            have HD0 : Hid (digB (byt L E) = false) := by show _ = _; rw [← byt_of_drop, h45]; decide
            clear h45
            by_cases hl2 : E + 1 < s.size
            · have e62 := HPICK.out H45.out hl2
              have E1 := hide (HG.out (E + 1) hl2)
              go_wp2_with fail
              rw [E0.out]
              refine (first_any _ _).mono ?_
              rintro e W ⟨rfl, rfl⟩
              rw [HFN.out, HNM.out]
              go_wp2_with fail
              rw [E0.out]
              refine (digit_any _ _).mono ?_
              rintro e W ⟨rfl, rfl⟩
              rw [HD0.out]
              go_wp2_with fail
              rw [E1.out]
              refine (digit_any _ _).mono ?_
              rintro e W ⟨rfl, rfl⟩
              cases hdg : digB (byt L (E + 1))
              · have HBAD : Hid (tokP L = .error (6, E)) := tok_err (by have := HZ.out; omega) HLF.out HLE.out (one_bad HNB.out H59.out H40.out H41.out HNM.out HSG.out (by rw [byt_of_drop, HD0.out, byt_drop0, hdg]; simp))
                clear hdg
                go_wp2_with fail
                go_ret3
                exact ⟨Or.inl ⟨6, E, HBAD.out, rfl⟩, HB2.out⟩
              · have hll : 1 < (L.drop E).length := by rw [List.length_drop]; have := HZ.out; omega
                have HDN : Hid (digB (byt ((L.drop E).drop 1) 0) = true) := by show _ = _; rw [byt_drop0, byt_drop0]; exact hdg
                have HNU : Hid ((digB (byt (L.drop E) 0) || (byt (L.drop E) 0 == 45 && decide (1 < (L.drop E).length) && digB (byt (L.drop E) 1))) = true) := by show _ = _; rw [byt_drop0 L E 1, hdg, H45.out, decide_eq_true hll]; simp
                have HN1 : Hid (valP ((L.drop E).take (1 + cnt digB ((L.drop E).drop 1))) = none → oneP (L.drop E) E = .error 4) := fun h => one_far HNB.out H59.out H40.out H41.out HNM.out HSG.out HNU.out h
                have HN2 : Hid (∀ v, valP ((L.drop E).take (1 + cnt digB ((L.drop E).drop 1))) = some v → oneP (L.drop E) E = .ok (1 + cnt digB ((L.drop E).drop 1), some ⟨4, v, E, []⟩)) := fun v h => one_num HNB.out H59.out H40.out H41.out HNM.out HSG.out HNU.out h
                have HCP := hide (cnt_pos digB ((L.drop E).drop 1) (fun h0 => by have h1 := congrArg List.length h0; rw [List.length_drop] at h1; simp at h1 hll; omega) HDN.out)
                clear hdg hll
                go_wp2_with fail
                go_loopw [7] (fun v wy => ∃ m : Nat, v = .int .i64 m ∧ E + 1 ≤ m ∧ m ≤ s.size ∧ Hid (∀ j, j < m - (E + 1) → digB (byt ((L.drop E).drop 1) j) = true) ∧ wy = W) (fun v _ => s.size - (intOf v).toNat)
                case atStart => exact ⟨E + 1, by go_num, Nat.le_refl _, hlt, fun j h => by omega, rfl⟩
                case round =>
                  obtain ⟨m, rfl, hm1, hm2, HNL, hWW⟩ := hrel
                  subst hWW
                  by_cases hlt2 : m < s.size
                  · have E2 := hide (HG.out m hlt2)
                    have HBM : Hid (byt ((L.drop E).drop 1) (m - (E + 1)) = byt L m) := by show _ = _; rw [byt_drop0, byt_drop0]; congr 1; omega
                    have hwm : IntKind.i64.wrap ((m : Int) + 1) = ((m + 1 : Nat) : Int) := by rw [IntKind.wrap_i64]; omega
                    go_wp2_with fail
                    rw [E2.out]
                    refine (digit_any _ _).mono ?_
                    rintro e W ⟨rfl, rfl⟩
                    cases h1 : digB (byt L m)
                    · have HC : Hid (cnt digB ((L.drop E).drop 1) = m - (E + 1)) := cnt_stop _ _ _ (by rw [List.length_drop, List.length_drop]; have := HZ.out; omega) HNL.out (by rw [HBM.out]; exact h1)
                      clear h1
                      have hmE : 1 + (m - (E + 1)) = m - E := by omega
                      have HO1 : Hid (valP ((L.drop E).take (m - E)) = none → tokP L = .error (4, E)) := fun h => tok_err (by have := HZ.out; omega) HLF.out HLE.out (HN1.out (by rw [HC.out, hmE]; exact h))
                      have HO2 : Hid (∀ v, valP ((L.drop E).take (m - E)) = some v → Left L (ts ++ [⟨4, v, E, []⟩]) m) := fun v h => by
                        have h1 := HLF.out.tok HLE.out (HN2.out v (by rw [HC.out, hmE]; exact h))
                        rw [HC.out, show E + (1 + (m - (E + 1))) = m by omega] at h1
                        exact h1
                      have HLL : Hid (((L.drop E).take (m - E)).length = m - E) := by show _ = _; rw [List.length_take, List.length_drop]; have := HZ.out; omega
                      have HBT0 : Hid (byt ((L.drop E).take (m - E)) 0 = byt (L.drop E) 0) := byt_take _ _ _ (by omega)
                      have HDJ : Hid (∀ j, 1 ≤ j → j < ((L.drop E).take (m - E)).length → digB (byt ((L.drop E).take (m - E)) j) = true) := fun j h1 h2 => by
                        rw [HLL.out] at h2
                        have h3 := HNL.out (j - 1) (by omega)
                        rw [byt_drop0, show 1 + (j - 1) = j by omega] at h3
                        rw [byt_take _ _ _ h2]; exact h3
                      have HVN : Hid (valP ((L.drop E).take (m - E)) = Option.map (fun u : Nat => if byt ((L.drop E).take (m - E)) 0 = 45 then -(u : Int) else u) (numL 0 ((L.drop E).take (m - E)))) := num_val _ (by rw [HBT0.out, HLL.out]; exact Or.inr ⟨H45.out, by have h1 := HCP.out; have h2 := HC.out; omega⟩) (by rw [HLL.out]; omega) HDJ.out
                      have HCH : Hid (∀ c ∈ (L.drop E).take (m - E), c.toNat = 45 ∨ (48 ≤ c.toNat ∧ c.toNat ≤ 57)) := num_chars _ (by rw [HBT0.out]; exact Or.inr H45.out) HDJ.out
                      have HXS : Hid ((s.extract E m).size ≤ 5000) := by
                        show _ ≤ _
                        rw [size_len _ _ (ext_list s L hL E m), HLL.out]; omega
                      have hEm : E ≤ m := by omega
                      clear HN1 HN2 HNL HC HBT0 HDJ
                      go_wp2_with fail
                      refine (number_any _ _ _ (ext_list s L hL E _) (by first | exact HXS.out | (rw [← hme]; exact HXS.out)) (by first | (rw [HLL.out]; omega) | (rw [← hme, HLL.out]; omega)) (by first | exact HCH.out | (rw [← hme]; exact HCH.out))).mono ?_
                      rintro e w2 ⟨hv, hb2⟩
                      have HB3 : Hid (Below w.heap.size w w2) := HB2.out.trans (hb2.mono HB2.out.size)
                      have HT3 : Hid (ToksAt w2 w.heap.size u5 ts) := own_keep HT2.out hb2
                      have HX : Hid (w2.heap[tb]? = some (.cells #[.int .i64 0, .int .i64 0, .int .i64 E, .string ⟨#[]⟩] 29 (0, 0))) := (hb2.block _ (size_of_block HBT.out)).trans HBT.out
                      clear hb2 d0 d1 d2 d3 z0 z1 z3
                      obtain ⟨d0, d1, d2, d3⟩ := blk4 HX.out
                      have z0 := frozen_of_block HX.out 0; have z1 := frozen_of_block HX.out 1
                      try rw [← hme] at hv
                      rcases hv with ⟨hv, rfl⟩ | ⟨u, hv, rfl⟩
                      · have HER : Hid (tokP L = .error (4, E)) := HO1.out (by rw [HVN.out, hv]; rfl)
                        clear hv
                        go_wp2_with fail
                        go_ret3
                        exact ⟨Or.inl ⟨4, E, HER.out, rfl⟩, HB3.out⟩
                      · have HL2 : Hid (Left L (ts ++ [⟨4, if byt ((L.drop E).take (m - E)) 0 = 45 then -(u : Int) else u, E, []⟩]) m) := HO2.out _ (by rw [HVN.out, hv]; rfl)
                        clear hv
                        generalize (if byt ((L.drop E).take (m - E)) 0 = 45 then -(u : Int) else (u : Int)) = v at *
                        clear HVN HO1 HO2 HCH HXS HLL
                        go_wp2_with fail
                        first
                        | go_meet
                        | (refine Met.intro ?_
                           go_step
                           go_step
                           (repeat apply Exists.intro)
                           refine ⟨?rel, rfl⟩)
                        | (refine Met.intro ?_
                           apply_assumption
                           (repeat apply Exists.intro)
                           refine ⟨?rel, rfl⟩)
                        refine ⟨⟨4, v, E, []⟩, m, by first | rfl | rw [hme], ?_, ownsRow_setCell_other (ownsRow_setCell_other HT3.out HNO.out _) HNO.out _, (HB3.out.setCell htb _).setCell htb _, by omega, by have := HZ.out; omega, HL2.out⟩
                        rw [heap_setCell_same _ _ 1 _ _ _ (heap_setCell_same _ _ 0 _ _ _ HX.out)]; rfl
                    · have H1 := hide h1
                      clear h1
                      go_wp2_with fail
                      go_roundw
                      case rel =>
                        refine ⟨m + 1, by go_num, by omega, by omega, fun j h => ?_, trivial⟩
                        rcases Nat.lt_or_ge j (m - (E + 1)) with h2 | h2
                        · exact HNL.out j h2
                        · rw [show j = m - (E + 1) by omega, HBM.out]; exact H1.out
                      case measure => simp [intOf]; omega
                  · have hme : m = s.size := by omega
                    have HC : Hid (cnt digB ((L.drop E).drop 1) = m - (E + 1)) := by
                      show _ = _
                      rw [cnt_all _ _ (fun j hj => HNL.out j (by rw [List.length_drop, List.length_drop] at hj; have := HZ.out; omega)), List.length_drop, List.length_drop]
                      have := HZ.out; omega
                    have hmf : ¬ (m : Int) < (s.size : Int) := by omega
                    have hmE : 1 + (m - (E + 1)) = m - E := by omega
                    have HO1 : Hid (valP ((L.drop E).take (m - E)) = none → tokP L = .error (4, E)) := fun h => tok_err (by have := HZ.out; omega) HLF.out HLE.out (HN1.out (by rw [HC.out, hmE]; exact h))
                    have HO2 : Hid (∀ v, valP ((L.drop E).take (m - E)) = some v → Left L (ts ++ [⟨4, v, E, []⟩]) m) := fun v h => by
                      have h1 := HLF.out.tok HLE.out (HN2.out v (by rw [HC.out, hmE]; exact h))
                      rw [HC.out, show E + (1 + (m - (E + 1))) = m by omega] at h1
                      exact h1
                    have HLL : Hid (((L.drop E).take (m - E)).length = m - E) := by show _ = _; rw [List.length_take, List.length_drop]; have := HZ.out; omega
                    have HBT0 : Hid (byt ((L.drop E).take (m - E)) 0 = byt (L.drop E) 0) := byt_take _ _ _ (by omega)
                    have HDJ : Hid (∀ j, 1 ≤ j → j < ((L.drop E).take (m - E)).length → digB (byt ((L.drop E).take (m - E)) j) = true) := fun j h1 h2 => by
                      rw [HLL.out] at h2
                      have h3 := HNL.out (j - 1) (by omega)
                      rw [byt_drop0, show 1 + (j - 1) = j by omega] at h3
                      rw [byt_take _ _ _ h2]; exact h3
                    have HVN : Hid (valP ((L.drop E).take (m - E)) = Option.map (fun u : Nat => if byt ((L.drop E).take (m - E)) 0 = 45 then -(u : Int) else u) (numL 0 ((L.drop E).take (m - E)))) := num_val _ (by rw [HBT0.out, HLL.out]; exact Or.inr ⟨H45.out, by have h1 := HCP.out; have h2 := HC.out; omega⟩) (by rw [HLL.out]; omega) HDJ.out
                    have HCH : Hid (∀ c ∈ (L.drop E).take (m - E), c.toNat = 45 ∨ (48 ≤ c.toNat ∧ c.toNat ≤ 57)) := num_chars _ (by rw [HBT0.out]; exact Or.inr H45.out) HDJ.out
                    have HXS : Hid ((s.extract E m).size ≤ 5000) := by
                      show _ ≤ _
                      rw [size_len _ _ (ext_list s L hL E m), HLL.out]; omega
                    have hEm : E ≤ m := by omega
                    clear HN1 HN2 HNL HC HBT0 HDJ
                    go_wp2_with fail
                    refine (number_any _ _ _ (ext_list s L hL E _) (by first | exact HXS.out | (rw [← hme]; exact HXS.out)) (by first | (rw [HLL.out]; omega) | (rw [← hme, HLL.out]; omega)) (by first | exact HCH.out | (rw [← hme]; exact HCH.out))).mono ?_
                    rintro e w2 ⟨hv, hb2⟩
                    have HB3 : Hid (Below w.heap.size w w2) := HB2.out.trans (hb2.mono HB2.out.size)
                    have HT3 : Hid (ToksAt w2 w.heap.size u5 ts) := own_keep HT2.out hb2
                    have HX : Hid (w2.heap[tb]? = some (.cells #[.int .i64 0, .int .i64 0, .int .i64 E, .string ⟨#[]⟩] 29 (0, 0))) := (hb2.block _ (size_of_block HBT.out)).trans HBT.out
                    clear hb2 d0 d1 d2 d3 z0 z1 z3
                    obtain ⟨d0, d1, d2, d3⟩ := blk4 HX.out
                    have z0 := frozen_of_block HX.out 0; have z1 := frozen_of_block HX.out 1
                    try rw [← hme] at hv
                    rcases hv with ⟨hv, rfl⟩ | ⟨u, hv, rfl⟩
                    · have HER : Hid (tokP L = .error (4, E)) := HO1.out (by rw [HVN.out, hv]; rfl)
                      clear hv
                      go_wp2_with fail
                      go_ret3
                      exact ⟨Or.inl ⟨4, E, HER.out, rfl⟩, HB3.out⟩
                    · have HL2 : Hid (Left L (ts ++ [⟨4, if byt ((L.drop E).take (m - E)) 0 = 45 then -(u : Int) else u, E, []⟩]) m) := HO2.out _ (by rw [HVN.out, hv]; rfl)
                      clear hv
                      generalize (if byt ((L.drop E).take (m - E)) 0 = 45 then -(u : Int) else (u : Int)) = v at *
                      clear HVN HO1 HO2 HCH HXS HLL
                      go_wp2_with fail
                      first
                      | go_meet
                      | (refine Met.intro ?_
                         go_step
                         go_step
                         (repeat apply Exists.intro)
                         refine ⟨?rel, rfl⟩)
                      | (refine Met.intro ?_
                         apply_assumption
                         (repeat apply Exists.intro)
                         refine ⟨?rel, rfl⟩)
                      refine ⟨⟨4, v, E, []⟩, m, by first | rfl | rw [hme], ?_, ownsRow_setCell_other (ownsRow_setCell_other HT3.out HNO.out _) HNO.out _, (HB3.out.setCell htb _).setCell htb _, by omega, by have := HZ.out; omega, HL2.out⟩
                      rw [heap_setCell_same _ _ 1 _ _ _ (heap_setCell_same _ _ 0 _ _ _ HX.out)]; rfl
            · have HBAD : Hid (tokP L = .error (6, E)) := tok_err (by have := HZ.out; omega) HLF.out HLE.out (one_bad HNB.out H59.out H40.out H41.out HNM.out HSG.out (by rw [byt_of_drop, HD0.out, decide_eq_false (show ¬ 1 < (L.drop E).length by rw [List.length_drop]; have := HZ.out; omega)]; simp))
              go_wp2_with fail
              rw [E0.out]
              refine (first_any _ _).mono ?_
              rintro e W ⟨rfl, rfl⟩
              rw [HFN.out, HNM.out]
              go_wp2_with fail
              rw [E0.out]
              refine (digit_any _ _).mono ?_
              rintro e W ⟨rfl, rfl⟩
              rw [HD0.out]
              go_wp2_with fail
              go_ret3
              exact ⟨Or.inl ⟨6, E, HBAD.out, rfl⟩, HB2.out⟩
          have H45 := hide h45
          have e45 : (((s[E]'hlt).toNat : Int) == 45) = false := by rw [E0.out, ← byt_of_drop]; simpa using h45
          clear h45
          go_wp2_with fail
          rw [E0.out]
          refine (first_any _ _).mono ?_
          rintro e W ⟨rfl, rfl⟩
          rw [HFN.out]
          cases hnm : (nameB (byt (L.drop E) 0) && !digB (byt (L.drop E) 0))
          rotate_left
          · have HN1 : Hid (20 < 1 + cnt nameB ((L.drop E).drop 1) → oneP (L.drop E) E = .error 4) := fun h => one_long HNB.out H59.out H40.out H41.out hnm h
            have HN2 : Hid (¬ 20 < 1 + cnt nameB ((L.drop E).drop 1) → oneP (L.drop E) E = .ok (1 + cnt nameB ((L.drop E).drop 1), some ⟨3, 0, E, (L.drop E).take (1 + cnt nameB ((L.drop E).drop 1))⟩)) := fun h => one_name HNB.out H59.out H40.out H41.out hnm h
            clear hnm
            go_wp2_with fail
            go_loopw [7] (fun v wy => ∃ m : Nat, v = .int .i64 m ∧ E + 1 ≤ m ∧ m ≤ s.size ∧ Hid (∀ j, j < m - (E + 1) → nameB (byt ((L.drop E).drop 1) j) = true) ∧ wy = W) (fun v _ => s.size - (intOf v).toNat)
            case atStart => exact ⟨E + 1, by go_num, Nat.le_refl _, hlt, fun j h => by omega, rfl⟩
            case round =>
              obtain ⟨m, rfl, hm1, hm2, HNL, hWW⟩ := hrel
              subst hWW
              by_cases hlt2 : m < s.size
              · have E2 := hide (HG.out m hlt2)
                have HBM : Hid (byt ((L.drop E).drop 1) (m - (E + 1)) = byt L m) := by show _ = _; rw [byt_drop0, byt_drop0]; congr 1; omega
                have hwm : IntKind.i64.wrap ((m : Int) + 1) = ((m + 1 : Nat) : Int) := by rw [IntKind.wrap_i64]; omega
                go_wp2_with fail
                rw [E2.out]
                refine (inner_any _ _).mono ?_
                rintro e W ⟨rfl, rfl⟩
                cases h1 : nameB (byt L m)
                · have HC : Hid (cnt nameB ((L.drop E).drop 1) = m - (E + 1)) := cnt_stop _ _ _ (by rw [List.length_drop, List.length_drop]; have := HZ.out; omega) HNL.out (by rw [HBM.out]; exact h1)
                  clear h1
                  have hwd : IntKind.i64.wrap ((m : Int) - (E : Int)) = ((m - E : Nat) : Int) := by rw [IntKind.wrap_i64]; omega
                  by_cases h20 : 20 < m - E
                  · have hgt : decide ((20 : Int) < ((m - E : Nat) : Int)) = true := decide_eq_true (by omega)
                    have HER : Hid (tokP L = .error (4, E)) := tok_err (by have := HZ.out; omega) HLF.out HLE.out (HN1.out (by rw [HC.out]; omega))
                    go_wp2_with fail
                    go_ret3
                    exact ⟨Or.inl ⟨4, E, HER.out, rfl⟩, HB2.out⟩
                  · have hgt : decide ((20 : Int) < ((m - E : Nat) : Int)) = false := decide_eq_false (by omega)
                    have HLT : Hid (Left L (ts ++ [⟨3, 0, E, (L.drop E).take (m - E)⟩]) m) := by
                      have h1 := HLF.out.tok HLE.out (HN2.out (by rw [HC.out]; omega))
                      rw [HC.out, show 1 + (m - (E + 1)) = m - E by omega, show E + (m - E) = m by omega] at h1
                      exact h1
                    have HLIT := hide (ext_lit s L hL E m)
                    have hEm : E ≤ m := by omega
                    clear HN1 HN2 HNL HC
                    go_wp2_with fail
                    go_region
                    first
                    | go_meet
                    | (go_wp2_with fail
                       go_meet)
                    | (refine Met.intro ?_
                       go_step
                       go_step
                       (repeat apply Exists.intro)
                       refine ⟨?rel, rfl⟩)
                    | (refine Met.intro ?_
                       apply_assumption
                       (repeat apply Exists.intro)
                       refine ⟨?rel, rfl⟩)
                    | trace_state
                    refine ⟨⟨3, 0, E, (L.drop E).take (m - E)⟩, m, by first | rfl | rw [hme], ?_, World.ownsRow.drew (ownsRow_setCell_other (ownsRow_setCell_other HT2.out HNO.out _) HNO.out _), ((HB2.out.setCell htb _).setCell htb _).drew, by omega, by have := HZ.out; omega, HLT.out⟩
                    rw [← HLIT.out]
                    show ((World.setCell _ _ _).setCell _ _).heap[tb]? = _
                    rw [heap_setCell_same _ _ 3 _ _ _ (heap_setCell_same _ _ 0 _ _ _ HBT.out)]
                    first
                    | rfl
                    | (rw [hme]; rfl)
                · have H1 := hide h1
                  clear h1
                  go_wp2_with fail
                  go_roundw
                  case rel =>
                    refine ⟨m + 1, by go_num, by omega, by omega, fun j h => ?_, trivial⟩
                    rcases Nat.lt_or_ge j (m - (E + 1)) with h2 | h2
                    · exact HNL.out j h2
                    · rw [show j = m - (E + 1) by omega, HBM.out]; exact H1.out
                  case measure => simp [intOf]; omega
              · have hme : m = s.size := by omega
                have HC : Hid (cnt nameB ((L.drop E).drop 1) = m - (E + 1)) := by
                  show _ = _
                  rw [cnt_all _ _ (fun j hj => HNL.out j (by rw [List.length_drop, List.length_drop] at hj; have := HZ.out; omega)), List.length_drop, List.length_drop]
                  have := HZ.out; omega
                have hmf : ¬ (m : Int) < (s.size : Int) := by omega
                have hwd : IntKind.i64.wrap ((m : Int) - (E : Int)) = ((m - E : Nat) : Int) := by rw [IntKind.wrap_i64]; omega
                by_cases h20 : 20 < m - E
                · have hgt : decide ((20 : Int) < ((m - E : Nat) : Int)) = true := decide_eq_true (by omega)
                  have HER : Hid (tokP L = .error (4, E)) := tok_err (by have := HZ.out; omega) HLF.out HLE.out (HN1.out (by rw [HC.out]; omega))
                  go_wp2_with fail
                  go_ret3
                  exact ⟨Or.inl ⟨4, E, HER.out, rfl⟩, HB2.out⟩
                · have hgt : decide ((20 : Int) < ((m - E : Nat) : Int)) = false := decide_eq_false (by omega)
                  have HLT : Hid (Left L (ts ++ [⟨3, 0, E, (L.drop E).take (m - E)⟩]) m) := by
                    have h1 := HLF.out.tok HLE.out (HN2.out (by rw [HC.out]; omega))
                    rw [HC.out, show 1 + (m - (E + 1)) = m - E by omega, show E + (m - E) = m by omega] at h1
                    exact h1
                  have HLIT := hide (ext_lit s L hL E m)
                  have hEm : E ≤ m := by omega
                  clear HN1 HN2 HNL HC
                  go_wp2_with fail
                  go_region
                  first
                  | go_meet
                  | (go_wp2_with fail
                     go_meet)
                  | (refine Met.intro ?_
                     go_step
                     go_step
                     (repeat apply Exists.intro)
                     refine ⟨?rel, rfl⟩)
                  | (refine Met.intro ?_
                     apply_assumption
                     (repeat apply Exists.intro)
                     refine ⟨?rel, rfl⟩)
                  | trace_state
                  refine ⟨⟨3, 0, E, (L.drop E).take (m - E)⟩, m, by first | rfl | rw [hme], ?_, World.ownsRow.drew (ownsRow_setCell_other (ownsRow_setCell_other HT2.out HNO.out _) HNO.out _), ((HB2.out.setCell htb _).setCell htb _).drew, by omega, by have := HZ.out; omega, HLT.out⟩
                  rw [← HLIT.out]
                  show ((World.setCell _ _ _).setCell _ _).heap[tb]? = _
                  rw [heap_setCell_same _ _ 3 _ _ _ (heap_setCell_same _ _ 0 _ _ _ HBT.out)]
                  first
                  | rfl
                  | (rw [hme]; rfl)
          have HNM := hide hnm
          clear hnm
          go_wp2_with fail
          rw [E0.out]
          refine (digit_any _ _).mono ?_
          rintro e W ⟨rfl, rfl⟩
          cases hdg : digB (byt L E)
          · have HBAD : Hid (tokP L = .error (6, E)) := tok_err (by have := HZ.out; omega) HLF.out HLE.out (one_bad HNB.out H59.out H40.out H41.out HNM.out HSG.out (by rw [byt_of_drop, hdg, ← byt_of_drop, beq_eq_false_iff_ne.2 H45.out]; rfl))
            clear hdg
            go_wp2_with fail
            go_ret3
            exact ⟨Or.inl ⟨6, E, HBAD.out, rfl⟩, HB2.out⟩
          · have HNU : Hid ((digB (byt (L.drop E) 0) || (byt (L.drop E) 0 == 45 && decide (1 < (L.drop E).length) && digB (byt (L.drop E) 1))) = true) := by show _ = _; rw [byt_of_drop, hdg]; rfl
            have HDG : Hid (digB (byt (L.drop E) 0) = true) := by rw [byt_of_drop]; exact hdg
            have HN1 : Hid (valP ((L.drop E).take (1 + cnt digB ((L.drop E).drop 1))) = none → oneP (L.drop E) E = .error 4) := fun h => one_far HNB.out H59.out H40.out H41.out HNM.out HSG.out HNU.out h
            have HN2 : Hid (∀ v, valP ((L.drop E).take (1 + cnt digB ((L.drop E).drop 1))) = some v → oneP (L.drop E) E = .ok (1 + cnt digB ((L.drop E).drop 1), some ⟨4, v, E, []⟩)) := fun v h => one_num HNB.out H59.out H40.out H41.out HNM.out HSG.out HNU.out h
            clear hdg
            go_wp2_with fail
            go_loopw [7] (fun v wy => ∃ m : Nat, v = .int .i64 m ∧ E + 1 ≤ m ∧ m ≤ s.size ∧ Hid (∀ j, j < m - (E + 1) → digB (byt ((L.drop E).drop 1) j) = true) ∧ wy = W) (fun v _ => s.size - (intOf v).toNat)
            case atStart => exact ⟨E + 1, by go_num, Nat.le_refl _, hlt, fun j h => by omega, rfl⟩
            case round =>
              obtain ⟨m, rfl, hm1, hm2, HNL, hWW⟩ := hrel
              subst hWW
              by_cases hlt2 : m < s.size
              · have E2 := hide (HG.out m hlt2)
                have HBM : Hid (byt ((L.drop E).drop 1) (m - (E + 1)) = byt L m) := by show _ = _; rw [byt_drop0, byt_drop0]; congr 1; omega
                have hwm : IntKind.i64.wrap ((m : Int) + 1) = ((m + 1 : Nat) : Int) := by rw [IntKind.wrap_i64]; omega
                go_wp2_with fail
                rw [E2.out]
                refine (digit_any _ _).mono ?_
                rintro e W ⟨rfl, rfl⟩
                cases h1 : digB (byt L m)
                · have HC : Hid (cnt digB ((L.drop E).drop 1) = m - (E + 1)) := cnt_stop _ _ _ (by rw [List.length_drop, List.length_drop]; have := HZ.out; omega) HNL.out (by rw [HBM.out]; exact h1)
                  clear h1
                  have hmE : 1 + (m - (E + 1)) = m - E := by omega
                  have HO1 : Hid (valP ((L.drop E).take (m - E)) = none → tokP L = .error (4, E)) := fun h => tok_err (by have := HZ.out; omega) HLF.out HLE.out (HN1.out (by rw [HC.out, hmE]; exact h))
                  have HO2 : Hid (∀ v, valP ((L.drop E).take (m - E)) = some v → Left L (ts ++ [⟨4, v, E, []⟩]) m) := fun v h => by
                    have h1 := HLF.out.tok HLE.out (HN2.out v (by rw [HC.out, hmE]; exact h))
                    rw [HC.out, show E + (1 + (m - (E + 1))) = m by omega] at h1
                    exact h1
                  have HLL : Hid (((L.drop E).take (m - E)).length = m - E) := by show _ = _; rw [List.length_take, List.length_drop]; have := HZ.out; omega
                  have HBT0 : Hid (byt ((L.drop E).take (m - E)) 0 = byt (L.drop E) 0) := byt_take _ _ _ (by omega)
                  have HDJ : Hid (∀ j, 1 ≤ j → j < ((L.drop E).take (m - E)).length → digB (byt ((L.drop E).take (m - E)) j) = true) := fun j h1 h2 => by
                    rw [HLL.out] at h2
                    have h3 := HNL.out (j - 1) (by omega)
                    rw [byt_drop0, show 1 + (j - 1) = j by omega] at h3
                    rw [byt_take _ _ _ h2]; exact h3
                  have HVN : Hid (valP ((L.drop E).take (m - E)) = Option.map (fun u : Nat => if byt ((L.drop E).take (m - E)) 0 = 45 then -(u : Int) else u) (numL 0 ((L.drop E).take (m - E)))) := num_val _ (by rw [HBT0.out, HLL.out]; exact Or.inl HDG.out) (by rw [HLL.out]; omega) HDJ.out
                  have HCH : Hid (∀ c ∈ (L.drop E).take (m - E), c.toNat = 45 ∨ (48 ≤ c.toNat ∧ c.toNat ≤ 57)) := num_chars _ (by rw [HBT0.out]; exact Or.inl HDG.out) HDJ.out
                  have HXS : Hid ((s.extract E m).size ≤ 5000) := by
                    show _ ≤ _
                    rw [size_len _ _ (ext_list s L hL E m), HLL.out]; omega
                  have hEm : E ≤ m := by omega
                  clear HN1 HN2 HNL HC HBT0 HDJ
                  go_wp2_with fail
                  refine (number_any _ _ _ (ext_list s L hL E _) (by first | exact HXS.out | (rw [← hme]; exact HXS.out)) (by first | (rw [HLL.out]; omega) | (rw [← hme, HLL.out]; omega)) (by first | exact HCH.out | (rw [← hme]; exact HCH.out))).mono ?_
                  rintro e w2 ⟨hv, hb2⟩
                  have HB3 : Hid (Below w.heap.size w w2) := HB2.out.trans (hb2.mono HB2.out.size)
                  have HT3 : Hid (ToksAt w2 w.heap.size u5 ts) := own_keep HT2.out hb2
                  have HX : Hid (w2.heap[tb]? = some (.cells #[.int .i64 0, .int .i64 0, .int .i64 E, .string ⟨#[]⟩] 29 (0, 0))) := (hb2.block _ (size_of_block HBT.out)).trans HBT.out
                  clear hb2 d0 d1 d2 d3 z0 z1 z3
                  obtain ⟨d0, d1, d2, d3⟩ := blk4 HX.out
                  have z0 := frozen_of_block HX.out 0; have z1 := frozen_of_block HX.out 1
                  try rw [← hme] at hv
                  rcases hv with ⟨hv, rfl⟩ | ⟨u, hv, rfl⟩
                  · have HER : Hid (tokP L = .error (4, E)) := HO1.out (by rw [HVN.out, hv]; rfl)
                    clear hv
                    go_wp2_with fail
                    go_ret3
                    exact ⟨Or.inl ⟨4, E, HER.out, rfl⟩, HB3.out⟩
                  · have HL2 : Hid (Left L (ts ++ [⟨4, if byt ((L.drop E).take (m - E)) 0 = 45 then -(u : Int) else u, E, []⟩]) m) := HO2.out _ (by rw [HVN.out, hv]; rfl)
                    clear hv
                    generalize (if byt ((L.drop E).take (m - E)) 0 = 45 then -(u : Int) else (u : Int)) = v at *
                    clear HVN HO1 HO2 HCH HXS HLL
                    go_wp2_with fail
                    first
                    | go_meet
                    | (refine Met.intro ?_
                       go_step
                       go_step
                       (repeat apply Exists.intro)
                       refine ⟨?rel, rfl⟩)
                    | (refine Met.intro ?_
                       apply_assumption
                       (repeat apply Exists.intro)
                       refine ⟨?rel, rfl⟩)
                    refine ⟨⟨4, v, E, []⟩, m, by first | rfl | rw [hme], ?_, ownsRow_setCell_other (ownsRow_setCell_other HT3.out HNO.out _) HNO.out _, (HB3.out.setCell htb _).setCell htb _, by omega, by have := HZ.out; omega, HL2.out⟩
                    rw [heap_setCell_same _ _ 1 _ _ _ (heap_setCell_same _ _ 0 _ _ _ HX.out)]; rfl
                · have H1 := hide h1
                  clear h1
                  go_wp2_with fail
                  go_roundw
                  case rel =>
                    refine ⟨m + 1, by go_num, by omega, by omega, fun j h => ?_, trivial⟩
                    rcases Nat.lt_or_ge j (m - (E + 1)) with h2 | h2
                    · exact HNL.out j h2
                    · rw [show j = m - (E + 1) by omega, HBM.out]; exact H1.out
                  case measure => simp [intOf]; omega
              · have hme : m = s.size := by omega
                have HC : Hid (cnt digB ((L.drop E).drop 1) = m - (E + 1)) := by
                  show _ = _
                  rw [cnt_all _ _ (fun j hj => HNL.out j (by rw [List.length_drop, List.length_drop] at hj; have := HZ.out; omega)), List.length_drop, List.length_drop]
                  have := HZ.out; omega
                have hmf : ¬ (m : Int) < (s.size : Int) := by omega
                have hmE : 1 + (m - (E + 1)) = m - E := by omega
                have HO1 : Hid (valP ((L.drop E).take (m - E)) = none → tokP L = .error (4, E)) := fun h => tok_err (by have := HZ.out; omega) HLF.out HLE.out (HN1.out (by rw [HC.out, hmE]; exact h))
                have HO2 : Hid (∀ v, valP ((L.drop E).take (m - E)) = some v → Left L (ts ++ [⟨4, v, E, []⟩]) m) := fun v h => by
                  have h1 := HLF.out.tok HLE.out (HN2.out v (by rw [HC.out, hmE]; exact h))
                  rw [HC.out, show E + (1 + (m - (E + 1))) = m by omega] at h1
                  exact h1
                have HLL : Hid (((L.drop E).take (m - E)).length = m - E) := by show _ = _; rw [List.length_take, List.length_drop]; have := HZ.out; omega
                have HBT0 : Hid (byt ((L.drop E).take (m - E)) 0 = byt (L.drop E) 0) := byt_take _ _ _ (by omega)
                have HDJ : Hid (∀ j, 1 ≤ j → j < ((L.drop E).take (m - E)).length → digB (byt ((L.drop E).take (m - E)) j) = true) := fun j h1 h2 => by
                  rw [HLL.out] at h2
                  have h3 := HNL.out (j - 1) (by omega)
                  rw [byt_drop0, show 1 + (j - 1) = j by omega] at h3
                  rw [byt_take _ _ _ h2]; exact h3
                have HVN : Hid (valP ((L.drop E).take (m - E)) = Option.map (fun u : Nat => if byt ((L.drop E).take (m - E)) 0 = 45 then -(u : Int) else u) (numL 0 ((L.drop E).take (m - E)))) := num_val _ (by rw [HBT0.out, HLL.out]; exact Or.inl HDG.out) (by rw [HLL.out]; omega) HDJ.out
                have HCH : Hid (∀ c ∈ (L.drop E).take (m - E), c.toNat = 45 ∨ (48 ≤ c.toNat ∧ c.toNat ≤ 57)) := num_chars _ (by rw [HBT0.out]; exact Or.inl HDG.out) HDJ.out
                have HXS : Hid ((s.extract E m).size ≤ 5000) := by
                  show _ ≤ _
                  rw [size_len _ _ (ext_list s L hL E m), HLL.out]; omega
                have hEm : E ≤ m := by omega
                clear HN1 HN2 HNL HC HBT0 HDJ
                go_wp2_with fail
                refine (number_any _ _ _ (ext_list s L hL E _) (by first | exact HXS.out | (rw [← hme]; exact HXS.out)) (by first | (rw [HLL.out]; omega) | (rw [← hme, HLL.out]; omega)) (by first | exact HCH.out | (rw [← hme]; exact HCH.out))).mono ?_
                rintro e w2 ⟨hv, hb2⟩
                have HB3 : Hid (Below w.heap.size w w2) := HB2.out.trans (hb2.mono HB2.out.size)
                have HT3 : Hid (ToksAt w2 w.heap.size u5 ts) := own_keep HT2.out hb2
                have HX : Hid (w2.heap[tb]? = some (.cells #[.int .i64 0, .int .i64 0, .int .i64 E, .string ⟨#[]⟩] 29 (0, 0))) := (hb2.block _ (size_of_block HBT.out)).trans HBT.out
                clear hb2 d0 d1 d2 d3 z0 z1 z3
                obtain ⟨d0, d1, d2, d3⟩ := blk4 HX.out
                have z0 := frozen_of_block HX.out 0; have z1 := frozen_of_block HX.out 1
                try rw [← hme] at hv
                rcases hv with ⟨hv, rfl⟩ | ⟨u, hv, rfl⟩
                · have HER : Hid (tokP L = .error (4, E)) := HO1.out (by rw [HVN.out, hv]; rfl)
                  clear hv
                  go_wp2_with fail
                  go_ret3
                  exact ⟨Or.inl ⟨4, E, HER.out, rfl⟩, HB3.out⟩
                · have HL2 : Hid (Left L (ts ++ [⟨4, if byt ((L.drop E).take (m - E)) 0 = 45 then -(u : Int) else u, E, []⟩]) m) := HO2.out _ (by rw [HVN.out, hv]; rfl)
                  clear hv
                  generalize (if byt ((L.drop E).take (m - E)) 0 = 45 then -(u : Int) else (u : Int)) = v at *
                  clear HVN HO1 HO2 HCH HXS HLL
                  go_wp2_with fail
                  first
                  | go_meet
                  | (refine Met.intro ?_
                     go_step
                     go_step
                     (repeat apply Exists.intro)
                     refine ⟨?rel, rfl⟩)
                  | (refine Met.intro ?_
                     apply_assumption
                     (repeat apply Exists.intro)
                     refine ⟨?rel, rfl⟩)
                  refine ⟨⟨4, v, E, []⟩, m, by first | rfl | rw [hme], ?_, ownsRow_setCell_other (ownsRow_setCell_other HT3.out HNO.out _) HNO.out _, (HB3.out.setCell htb _).setCell htb _, by omega, by have := HZ.out; omega, HL2.out⟩
                  rw [heap_setCell_same _ _ 1 _ _ _ (heap_setCell_same _ _ 0 _ _ _ HX.out)]; rfl

        case rest =>
          clear HBT HT2 HB2 HNO
          obtain ⟨t, E', rfl, hbt, htk, hbl, hEE, hEL, hleft⟩ := hcut
          have HBT := hide hbt; have HTK := hide htk; have HB := hide hbl; have HL2 := hide hleft
          clear hbt htk hbl hleft
          obtain rfl := HLV.out
          have hE's : E' ≤ s.size := by have := HZ.out; omega
          obtain ⟨d0, d1, d2, d3⟩ := blk4 HBT.out
          have hts5 := size_of_block HBT.out
          obtain ⟨i, hi, hz0, hz1, hz2⟩ := info_parts Tryd.info29
          have HOB : Hid ((wc.alloc (.cells #[.int .i64 t.kind, .int .i64 t.n, .int .i64 t.at', .string ⟨⟨t.s⟩⟩] 29)).ownsRow w.heap.size 29 4 (.slice la ts.length lc) ts.length (rowC ts)) := World.ownsRow.alloc HTK.out _
          have HNW : Hid (∀ q u, ([.int .i64 t.kind, .int .i64 t.n, .int .i64 t.at', .string ⟨⟨t.s⟩⟩] : List Value)[q]? = some u → (wc.alloc (.cells #[.int .i64 t.kind, .int .i64 t.n, .int .i64 t.at', .string ⟨⟨t.s⟩⟩] 29)).cell? ((⟨wc.heap.size, 0, none⟩ : Addr).add q) = some u) := World.news_of_block (heap_alloc_new wc _)
          go_wp2_with (at_builtin
                       refine wpList_append_lies _ rfl (.tmp 145) (.tmp 147) 25 rfl w.heap.size 29 i (.agg #[.int .i64 0, .int .i64 0, .int .i64 0, .string ⟨#[]⟩]) 4 40 Tryd.underlying25 hi hz0 hz1 hz2 rfl (by decide) (.slice la ts.length lc) ts.length (rowC ts) rfl HOB.out ⟨wc.heap.size, 0, none⟩ 1 1 [.int .i64 t.kind, .int .i64 t.n, .int .i64 t.at', .string ⟨⟨t.s⟩⟩] rfl rfl HNW.out (fun u hu => by simp at hu; rcases hu with rfl | rfl | rfl | rfl <;> rfl) (by omega) (by unfold maxLen; omega) (by omega) (by simp; omega) (wc.heap.size + 1) (by simp) ?_
                       intro g6 cap6 w6 hown6 hgrow6 hat6 hlt6
                       have HB6 : Hid (Below w.heap.size w w6) := (HB.out.alloc HB.out.size _).grown hgrow6 (by have := HB.out.size; simp; omega) (fun q hq => by have := HOB.out.lt q hq; omega)
                       have HO6 := hide hown6
                       clear hown6 hgrow6 hat6 hlt6)
          refine (skip_any s L _ hL (by omega) E' hE's).mono ?_
          rintro e w7 ⟨j', rfl, hj1, hj2, hjb, hjl, h7⟩
          rw [h7]
          have HJ2 := hide hjb; have HL3 := hide (hjl _ HL2.out)
          clear hjb hjl h7
          go_wp2_with fail
          go_roundw
          case rel =>
            refine ⟨ts ++ [t], j', rfl, by have := HZ.out; omega, ?_, HB6.out, HJ2.out, HL3.out, by simp; omega⟩
            unfold ToksAt rowC
            rw [List.length_append, List.map_append, List.flatten_append]
            exact HO6.out
          case measure => simp [intOf]; omega
      · have hEe : E = s.size := by omega
        subst hEe
        subst hlv
        go_wp2_with fail
        go_ret3
        exact ⟨Or.inr ⟨ts, _, by unfold tokP; rw [if_neg (by have := HZ.out; omega)]; exact HLF.out.last (by have := HZ.out; omega), rfl, HTK.out⟩, HB.out⟩
#print axioms rtokens_any
end Go.Proofs.YtoadbgdkcdilhaaDoor
