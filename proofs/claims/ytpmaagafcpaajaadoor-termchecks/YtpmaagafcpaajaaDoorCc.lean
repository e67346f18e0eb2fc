/- Check: the walk. -/
import Derived.Test.YtpmaagafcpaajaaDoorCh
import Derived.Test.YtpmaagafcpaajaaDoorTs
namespace Go.Proofs.YtpmaagafcpaajaaDoor
open Go.RowKit

theorem chkL_ok {f : Nat → Tr → Nat × Nat} (hf : ∀ c k, (f c k).1 = 0 → (f c k).2 ≤ 3000) : ∀ (ks : List Tr) (c : Nat), c ≤ 3000 → (chkL f c ks).1 = 0 → (chkL f c ks).2 ≤ 3000
  | [], c, hc, _ => hc
  | k :: ks, c, hc, h => by
    rw [chkL] at h ⊢
    split
    · rename_i h1
      rw [if_pos h1] at h
      exact chkL_ok hf ks _ (hf c k h1) h
    · rename_i h1
      rw [if_neg h1] at h
      exact absurd h h1
theorem chk_ok : ∀ (l c : Nat) (t : Tr), (chk l c t).1 = 0 → (chk l c t).2 ≤ 3000
  | 0, c, t, h => by rw [chk] at h; cases h
  | l + 1, c, t, h => by
    rw [chk] at h ⊢
    split at h
    · cases h
    · split at h
      · rename_i h1 h2
        rw [if_neg h1, if_pos h2]
        exact chkL_ok (fun c k => chk_ok l c k) _ _ (by omega) h
      · cases h
theorem chk_err : ∀ (l c : Nat) (t : Tr), (chk l c t).1 ≤ 5
  | 0, c, t => by rw [chk]; omega
  | l + 1, c, t => by
    have key : ∀ (ks : List Tr) (c : Nat), (chkL (chk l) c ks).1 ≤ 5 := by
      intro ks
      induction ks with
      | nil => intro c; rw [chkL]; omega
      | cons k ks ih =>
        intro c
        rw [chkL]
        split
        · exact ih _
        · exact chk_err l c k
    rw [chk]
    split
    · omega
    · split
      · exact key _ _
      · omega

set_option maxRecDepth 20000 in
set_option maxHeartbeats 1000000 in
theorem check_any (B mb : Nat) : ∀ (l f : Nat) (t : Tr) (v : Value) (c : Nat) (deep : Int) (w : World), TmAt w B f t v → B ≤ mb → w.heap[mb]? = some (.cells #[.int .i64 (c : Nat)] 53 (0, 0)) → Tk w → 4 ≤ B → c ≤ 3000 → 0 ≤ deep → deep + l = 121 →
    Calls Tryd.prog 37 #[.pointer (some ⟨mb, 0, none⟩), v, .int .i64 deep] w fun e w' => e = .returned (.int .i64 ((chk l c t).1 : Nat)) ∧ w'.heap[mb]? = some (.cells #[.int .i64 ((chk l c t).2 : Nat)] 53 (0, 0)) ∧ Fr (fun k => k = mb) w w' := by
  intro l
  induction l with
  | zero =>
    intro f t v c deep w h hB hmb ht h4 hc hd0 hd
    obtain ⟨a, cap, rfl, _, _, hop, hn⟩ := h.shape
    have hmw := size_of_block hmb
    have c0 : ∀ o, (w.alloc o).cell? ⟨mb, 0, none⟩ = some (.int .i64 (c : Nat)) := fun o => (cell_of_block ((Below.heap_alloc w o mb hmw).trans hmb) 0).trans rfl
    have z0 : ∀ o, (w.alloc o).frozen? ⟨mb, 0, none⟩ = false := fun o => frozen_of_block ((Below.heap_alloc w o mb hmw).trans hmb) 0
    have d0 : ∀ x o, ((w.setCell ⟨mb, 0, none⟩ x).alloc o).cell? ⟨mb, 0, none⟩ = some x := fun x o => (cell_of_block (put1_alloc hmb x o) 0).trans rfl
    have HM := hide hmb
    clear hmb
    have hd1 : deep = 121 := by omega
    subst hd1
    have HH : Hid (chk 0 c t = (5, c + 1)) := hide rfl
    rw [HH.out]
    have hcc : (c : Int) ≤ 3000 := by omega
    by_cases h3 : (3000 : Int) < (c : Int) + 1
    · go_enter Tryd.func37, Tryd.ntmps37
      go_wp2_with fail
      go_ret
      exact ⟨rfl, put1_alloc HM.out _ _, (Fr.setCell (M := fun k => k = mb) (Fr.refl _ _) (p := ⟨mb, 0, none⟩) rfl _).alloc _⟩
    · go_enter Tryd.func37, Tryd.ntmps37
      go_wp2_with fail
      go_ret
      exact ⟨rfl, put1_alloc HM.out _ _, (Fr.setCell (M := fun k => k = mb) (Fr.refl _ _) (p := ⟨mb, 0, none⟩) rfl _).alloc _⟩
  | succ l ih =>
    rintro f t v c deep w h hB hmb ht h4 hc hd0 hd
    obtain ⟨g, rfl⟩ : ∃ g, f = g + 1 := by cases f with | zero => exact h.elim | succ g => exact ⟨g, rfl⟩
    obtain ⟨a, cap, rfl, hop, hn, hrow⟩ := h
    have IH := hide ih; clear ih
    have HR := hide hrow
    have hlm : t.kids.length ≤ maxLen := Nat.le_trans hrow.1 hrow.2.1
    clear hrow
    unfold maxLen at hlm
    have hmw := size_of_block hmb
    have c0 : ∀ o, (w.alloc o).cell? ⟨mb, 0, none⟩ = some (.int .i64 (c : Nat)) := fun o => (cell_of_block ((Below.heap_alloc w o mb hmw).trans hmb) 0).trans rfl
    have z0 : ∀ o, (w.alloc o).frozen? ⟨mb, 0, none⟩ = false := fun o => frozen_of_block ((Below.heap_alloc w o mb hmw).trans hmb) 0
    have d0 : ∀ x o, ((w.setCell ⟨mb, 0, none⟩ x).alloc o).cell? ⟨mb, 0, none⟩ = some x := fun x o => (cell_of_block (put1_alloc hmb x o) 0).trans rfl
    have HM := hide hmb; have HT := hide ht; have HD := hide hd
    clear hmb ht hd
    have hcc : (c : Int) ≤ 3000 := by omega
    have hdd : deep ≤ 120 := by have := HD.out; omega
    by_cases h3 : 3000 < c + 1
    · have HH : Hid (chk (l + 1) c t = (5, c + 1)) := hide (by rw [chk, if_pos h3])
      rw [HH.out]
      have h3i : (3000 : Int) < (c : Int) + 1 := by omega
      go_enter Tryd.func37, Tryd.ntmps37
      go_wp2_with fail
      go_ret
      exact ⟨rfl, put1_alloc HM.out _ _, (Fr.setCell (M := fun k => k = mb) (Fr.refl _ _) (p := ⟨mb, 0, none⟩) rfl _).alloc _⟩
    · have h3i : (c : Int) + 1 ≤ 3000 := by omega
      obtain ⟨RR, hRR⟩ : ∃ RR, RR = chk (l + 1) c t := ⟨_, rfl⟩
      rw [← hRR]
      have HRR := hide hRR
      clear hRR
      have HF0 : Hid (Fr (fun k => k = mb) w ((w.setCell ⟨mb, 0, none⟩ (.int .i64 ((c : Int) + 1))).alloc (.cells #[.int .i64 t.op, .int .i64 t.n, .slice a t.kids.length cap] 29))) := (Fr.setCell (M := fun k => k = mb) (Fr.refl _ _) (p := ⟨mb, 0, none⟩) rfl _).alloc _
      have HB0 : Hid (((w.setCell ⟨mb, 0, none⟩ (.int .i64 ((c : Int) + 1))).alloc (.cells #[.int .i64 t.op, .int .i64 t.n, .slice a t.kids.length cap] 29)).heap[mb]? = some (.cells #[.int .i64 (c + 1 : Nat)] 53 (0, 0))) := put1_alloc HM.out _ _
      have HBX0 : Hid (((w.setCell ⟨mb, 0, none⟩ (.int .i64 ((c : Int) + 1))).alloc (.cells #[.int .i64 t.op, .int .i64 t.n, .slice a t.kids.length cap] 29)).heap[w.heap.size]? = some (.cells #[.int .i64 t.op, .int .i64 t.n, .slice a t.kids.length cap] 29 (0, 0))) := hide (by
        have := heap_alloc_new (w.setCell ⟨mb, 0, none⟩ (.int .i64 ((c : Int) + 1))) (.cells #[.int .i64 t.op, .int .i64 t.n, .slice a t.kids.length cap] 29)
        rw [show (w.setCell ⟨mb, 0, none⟩ (.int .i64 ((c : Int) + 1))).heap.size = w.heap.size by simp [World.setCell]] at this
        exact this)
      have HT0 : Hid (Tk ((w.setCell ⟨mb, 0, none⟩ (.int .i64 ((c : Int) + 1))).alloc (.cells #[.int .i64 t.op, .int .i64 t.n, .slice a t.kids.length cap] 29))) := hide (HT.out.keep (HF0.out.below (B := B) (by omega) (fun k hk => by subst hk; exact hB)) h4)
      go_enter Tryd.func37, Tryd.ntmps37
      go_wp2_with fail
      refine (maybe_any t.op t.n _ _ _ _ HT0.out (by omega)).mono ?_
      rintro e w1 ⟨rfl, hb1⟩
      have HF1 : Hid (Fr (fun k => k = mb) w w1) := HF0.out.trans (Fr.of_below hb1)
      have HB1 : Hid (w1.heap[mb]? = some (.cells #[.int .i64 (c + 1 : Nat)] 53 (0, 0))) := (hb1.block _ (size_of_block HB0.out)).trans HB0.out
      have HX1 := hide ((hb1.block _ (size_of_block HBX0.out)).trans HBX0.out)
      clear hb1 c0 z0 d0 HF0 HB0 HBX0 HT0
      by_cases hok : OkN t.op t.n t.kids.length
      rotate_left
      · have hx : RR = (1, c + 1) := by rw [HRR.out, chk, if_neg h3, if_neg hok]
        subst hx
        rw [decide_eq_false hok]
        go_wp2_with fail
        go_ret
        exact ⟨rfl, HB1.out, HF1.out⟩
      have HH : Hid (RR = chkL (chk l) (c + 1) t.kids) := hide (by rw [HRR.out, chk, if_neg h3, if_pos hok])
      rw [decide_eq_true hok]
      clear HRR hok h3
      obtain ⟨y0, y1, y2⟩ := blk3 HX1.out
      clear HX1
      go_wp2_with fail
      go_loopw [9, 32] (fun _ i wr => ∃ k ck : Nat, k ≤ t.kids.length ∧ i = .int .i64 k ∧ ck ≤ 3000 ∧ Hid (RR = chkL (chk l) ck (t.kids.drop k)) ∧ Hid (wr.heap[mb]? = some (.cells #[.int .i64 (ck : Nat)] 53 (0, 0))) ∧ Hid (Fr (fun k => k = mb) w wr)) (fun _ i _ => t.kids.length - (intOf i).toNat)
      case atStart => exact ⟨0, c + 1, Nat.zero_le _, rfl, by omega, by rw [List.drop_zero]; exact HH, HB1, HF1⟩
      case round =>
        obtain ⟨k, ck, hk, rfl, hck, HCK, HBX, HFX⟩ := hrel
        clear HB1 HF1 y0 y1 y2
        by_cases hlt : k < t.kids.length
        · obtain ⟨b, off, ka, kc, rfl, hbB, e0, e1, e2, hr⟩ := HR.out.form hlt
          have hbm : b ≠ mb := by omega
          have hbw : b < w.heap.size := by omega
          have f0 := (HFX.out.cell (i := off + k * 3) hbw hbm).trans e0
          have f1 := (HFX.out.cell (i := off + k * 3 + 1) hbw hbm).trans e1
          have f2 := (HFX.out.cell (i := off + k * 3 + 2) hbw hbm).trans e2
          have HK := hide (TmAt.fr hr HFX.out (by omega) (fun q hq => by show ¬ q = mb; omega))
          have HTX : Hid (Tk wr) := hide (HT.out.keep (HFX.out.below (B := B) (by omega) (fun k hk => by subst hk; exact hB)) h4)
          have HDR : Hid (t.kids.drop k = t.kids[k] :: t.kids.drop (k + 1)) := hide (List.drop_eq_getElem_cons hlt)
          clear hr e0 e1 e2
          obtain ⟨p, hp⟩ : ∃ p, p = t.kids[k] := ⟨_, rfl⟩
          rw [← hp] at f0 f1 f2 HK HDR
          clear hp
          obtain ⟨ee, hee⟩ : ∃ ee, ee = (chk l ck p).1 := ⟨_, rfl⟩
          obtain ⟨cc, hccc⟩ : ∃ cc, cc = (chk l ck p).2 := ⟨_, rfl⟩
          have HEE := hide hee; have HCC := hide hccc
          have hee5 : ee ≤ 5 := by rw [hee]; exact chk_err l ck p
          clear hee hccc
          go_wp2_with fail
          refine (IH.out g p _ ck (deep + 1) _ (TmAt.below HK.out (later_alloc wr _) (by have := size_of_block HBX.out; omega) (Nat.le_refl _)) hB ((Below.heap_alloc wr _ mb (size_of_block HBX.out)).trans HBX.out) (HTX.out.later (later_alloc wr _)) h4 hck (by omega) (by have := HD.out; omega)).mono ?_
          rintro e w2 ⟨rfl, hb2, hf2⟩
          rw [← HCC.out] at hb2
          rw [← HEE.out]
          have HB2 := hide hb2
          have HF2 : Hid (Fr (fun k => k = mb) w w2) := (HFX.out.alloc _).trans hf2
          clear hb2 hf2
          by_cases h0 : ee = 0
          · subst h0
            have HOK := hide (chk_ok l ck p HEE.out.symm)
            go_wp2_with fail
            go_roundw
            case rel =>
              refine ⟨k + 1, cc, by omega, by go_num, by rw [HCC.out]; exact HOK.out, ?_, HB2, HF2⟩
              show RR = chkL (chk l) cc (t.kids.drop (k + 1))
              rw [HCK.out, HDR.out, chkL, if_pos HEE.out.symm, ← HCC.out]
            case measure => simp [intOf]; omega
          · have hne : ((ee : Int) != 0) = true := by rw [bne_iff_ne]; omega
            have hx : RR = (ee, cc) := by rw [HCK.out, HDR.out, chkL, if_neg (by rw [← HEE.out]; exact h0), HEE.out, HCC.out]
            clear HCK HH
            subst hx
            go_wp2_with fail
            go_ret
            exact ⟨rfl, HB2.out, HF2.out⟩
        · have hx : RR = (0, ck) := by rw [HCK.out, List.drop_eq_nil_of_le (by omega), chkL]
          clear HCK HH
          subst hx
          go_wp2_with fail
          go_ret
          exact ⟨rfl, HBX.out, HFX.out⟩

set_option maxRecDepth 20000 in
set_option maxHeartbeats 1000000 in
theorem tcheck_any (B f : Nat) (t : Tr) (v : Value) (w : World) (h : TmAt w B f t v) (hB : B ≤ w.heap.size) (ht : Tk w) (h4 : 4 ≤ B) :
    Calls Tryd.prog 16 #[v] w fun e w' => e = .returned (.int .i64 ((chk 120 0 t).1 : Nat)) ∧ Below w.heap.size w w' := by
  have HT := hide h
  obtain ⟨a, cap, rfl, _, _, hop, hn⟩ := h.shape
  have HTK := hide ht
  clear h ht
  go_enter Tryd.func16, Tryd.ntmps16
  go_wp2_with fail
  have HN : Hid (((w.alloc (.cells #[.int .i64 t.op, .int .i64 t.n, .slice a t.kids.length cap] 29)).alloc (.cells #[.int .i64 0] 53)).heap[w.heap.size + 1]? = some (.cells #[.int .i64 (0 : Nat)] 53 (0, 0))) := hide (by
    have := heap_alloc_new (w.alloc (.cells #[.int .i64 t.op, .int .i64 t.n, .slice a t.kids.length cap] 29)) (.cells #[.int .i64 0] 53)
    rw [World.size_alloc] at this
    exact this)
  have HA : Hid (Below w.heap.size w ((w.alloc (.cells #[.int .i64 t.op, .int .i64 t.n, .slice a t.kids.length cap] 29)).alloc (.cells #[.int .i64 0] 53))) := ((Below.refl _ _).alloc (Nat.le_refl _) _).alloc (by simp) _
  refine (check_any B (w.heap.size + 1) 120 f t _ 0 1 _ (TmAt.below HT.out HA.out hB (Nat.le_refl _)) (by omega) HN.out (HTK.out.later HA.out) h4 (by omega) (by omega) (by omega)).mono ?_
  rintro e w1 ⟨rfl, hb1, hf1⟩
  have HB : Hid (Below w.heap.size w w1) := HA.out.trans (hf1.below (by simp; omega) (fun k hk => by subst hk; omega))
  clear hb1 hf1
  go_wp2_with fail
  go_ret
  exact ⟨rfl, HB.out⟩
#print axioms check_any
#print axioms tcheck_any
end Go.Proofs.YtpmaagafcpaajaaDoor
