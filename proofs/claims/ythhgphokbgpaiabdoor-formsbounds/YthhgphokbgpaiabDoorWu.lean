/- forms.Text: what it answers. -/
import Derived.Test.YthhgphokbgpaiabDoorWt
import Derived.Test.YthhgphokbgpaiabDoorCw
namespace Go.Proofs.YthhgphokbgpaiabDoor
open Go.RowKit
attribute [local go_sem] idx89_1 idx89_2 idx89_3

theorem wr_two {B b : Nat} {bs : List UInt8} {w w1 w2 : World} {o : Obj} {e : Ending} (hB : B ≤ w.heap.size) (h1 : Below (w.alloc o).drew.heap.size (w.alloc o).drew w1) (h2 : WrOut B b bs w1 e w2) : WrOut B b bs w e w2 :=
  ⟨h2.1, h2.2.1, ((below_tok (Below.refl _ _) h1).mono hB).trans h2.2.2⟩

set_option maxRecDepth 20000 in
set_option maxHeartbeats 1000000 in
theorem wf_1 (m B b : Nat) (bs : List UInt8) (t : Fm) (la : Option Addr) (lc : Nat) (w : World) (H : Hid (Wr B b (Lib.byteCells bs) w)) (hB : B ≤ w.heap.size) (HK : Hid (t.kind = 1)) (hlen : bs.length + t.s.length ≤ 140737488355328) :
    Calls Tryd.prog 12 #[.pointer (some ⟨b, 0, none⟩), .agg #[.int .i64 1, .int .i64 t.n, .string ⟨⟨t.s⟩⟩, .slice la t.l.length lc]] w (WrOut B b (bs ++ txtF (m + 1) t) w) := by
  have HX : Hid (txtF (m + 1) t = t.s) := by rw [txtF, if_pos HK.out]; exact rfl
  rw [HX.out]
  go_enter Tryd.func12, Tryd.ntmps12
  go_wp2_with fail
  go_region_with (first | (go_at_call 30; refine (puts_any _).mono ?_; rintro e w1 ⟨rfl, hb1⟩; obtain ⟨c0, c1, c2, c3⟩ := four_new hb1; have HB1 := hide hb1; clear hb1) | (go_at_call 37; refine (wname_any B b bs t.s _ _ _ _ _ _ (H.out.later (below_tok (Below.refl _ _) HB1.out)) (Nat.le_trans hB (below_tok (Below.refl _ _) HB1.out).size) hlen).mono ?_; rintro e w2 h2; have he2 := h2.1; have H2 := hide h2; clear h2; subst he2))
  all_goals
    go_wp2_with fail
    go_end0
    exact wr_two hB HB1.out H2.out

set_option maxRecDepth 20000 in
set_option maxHeartbeats 1000000 in
theorem wf_2 (m B b : Nat) (bs : List UInt8) (t : Fm) (la : Option Addr) (lc : Nat) (w : World) (H : Hid (Wr B b (Lib.byteCells bs) w)) (hB : B ≤ w.heap.size) (HK : Hid (t.kind = 2)) (HN : Hid (I64 t.n)) (HT : Hid (Tabs B w)) (hlen : bs.length + (Lib.itoa t.n).length ≤ 140737488355328) :
    Calls Tryd.prog 12 #[.pointer (some ⟨b, 0, none⟩), .agg #[.int .i64 2, .int .i64 t.n, .string ⟨⟨t.s⟩⟩, .slice la t.l.length lc]] w (WrOut B b (bs ++ txtF (m + 1) t) w) := by
  have HX : Hid (txtF (m + 1) t = Lib.itoa t.n) := by rw [txtF, if_neg (by rw [HK.out]; decide), if_pos HK.out]; exact rfl
  rw [HX.out]
  go_enter Tryd.func12, Tryd.ntmps12
  go_wp2_with fail
  go_region_with (first | (go_at_call 30; refine (puts_any _).mono ?_; rintro e w1 ⟨rfl, hb1⟩; obtain ⟨c0, c1, c2, c3⟩ := four_new hb1; have HB1 := hide hb1; clear hb1) | (go_at_call 38; refine (wnumber_any B b bs t.s _ _ _ _ _ _ (H.out.later (below_tok (Below.refl _ _) HB1.out)) (Nat.le_trans hB (below_tok (Below.refl _ _) HB1.out).size) HN.out (HT.out.keep ((below_tok (Below.refl _ _) HB1.out).mono hB)) hlen).mono ?_; rintro e w2 h2; have he2 := h2.1; have H2 := hide h2; clear h2; subst he2))
  all_goals
    go_wp2_with fail
    go_end0
    exact wr_two hB HB1.out H2.out

set_option maxRecDepth 20000 in
set_option maxHeartbeats 1000000 in
theorem wf_3 (m : Nat) (IH : WfC m) (B b F : Nat) (bs : List UInt8) (t : Fm) (la : Option Addr) (lc : Nat) (w : World) (H : Hid (Wr B b (Lib.byteCells bs) w)) (hB : B ≤ w.heap.size) (HK : Hid (t.kind = 3)) (HT : Hid (Tabs B w)) (HV : Hid (FmAt w B F t (.agg #[.int .i64 t.kind, .int .i64 t.n, .string ⟨⟨t.s⟩⟩, .slice la t.l.length lc]))) (HW : Hid (∀ k ∈ t.l, Wok m k)) (hlen : bs.length + (joinF (txtF m) t.l).length + 2 ≤ 140737488355328) :
    Calls Tryd.prog 12 #[.pointer (some ⟨b, 0, none⟩), .agg #[.int .i64 3, .int .i64 t.n, .string ⟨⟨t.s⟩⟩, .slice la t.l.length lc]] w (WrOut B b (bs ++ txtF (m + 1) t) w) := by
  have HX : Hid (txtF (m + 1) t = 40 :: (joinF (txtF m) t.l ++ [41])) := by rw [txtF, if_neg (by rw [HK.out]; decide), if_neg (by rw [HK.out]; decide)]; exact rfl
  rw [HX.out]
  have HI := hide IH
  clear IH
  have HL := hide hlen
  clear hlen
  have key : ∀ w1, Below w.heap.size w w1 → Calls Tryd.prog 39 #[.pointer (some ⟨b, 0, none⟩), .agg #[.int .i64 3, .int .i64 t.n, .string ⟨⟨t.s⟩⟩, .slice la t.l.length lc]] w1 (WrOut B b (bs ++ 40 :: (joinF (txtF m) t.l ++ [41])) w1) := by
    intro w1 hb
    have h1 := wlist_any m HI.out B b F bs t la lc w1 (H.out.later hb) (Nat.le_trans hB hb.size) (HT.out.keep (hb.mono hB)) (FmAt.below HV.out (hb.mono hB) (Nat.le_refl _) (Nat.le_refl _)) HW.out HL.out
    rwa [HK.out] at h1
  have KEY := hide key
  clear key
  go_enter Tryd.func12, Tryd.ntmps12
  go_wp2_with fail
  go_region_with (first | (go_at_call 30; refine (puts_any _).mono ?_; rintro e w1 ⟨rfl, hb1⟩; obtain ⟨c0, c1, c2, c3⟩ := four_new hb1; have HB1 := hide hb1; clear hb1) | (go_at_call 39; refine (KEY.out _ (below_tok (Below.refl _ _) HB1.out)).mono ?_; rintro e w2 h2; have he2 := h2.1; have H2 := hide h2; clear h2; subst he2))
  all_goals
    go_wp2_with fail
    go_end0
    exact wr_two hB HB1.out H2.out

theorem wform_any : ∀ m, WfC m := by
  intro m
  induction m with
  | zero => intro B b F bs t la lc w _ _ _ _ h; exact h.elim
  | succ m ih =>
    intro B b F bs t la lc w h hB ht hv hw hlen
    rcases hw with hk | hk | ⟨hk, hkids⟩
    · have e : txtF (m + 1) t = t.s := by rw [txtF, if_pos hk]
      have h1 := wf_1 m B b bs t la lc w h hB hk (by rw [e] at hlen; exact hlen)
      rw [← hk] at h1
      exact h1
    · have e : txtF (m + 1) t = Lib.itoa t.n := by rw [txtF, if_neg (by rw [hk]; decide), if_pos hk]
      have h1 := wf_2 m B b bs t la lc w h hB hk (by obtain ⟨_, _, _, _, _, _, hn⟩ := FmD.shape hv; exact hn) ht (by rw [e] at hlen; exact hlen)
      rw [← hk] at h1
      exact h1
    · have e : txtF (m + 1) t = 40 :: (joinF (txtF m) t.l ++ [41]) := by rw [txtF, if_neg (by rw [hk]; decide), if_neg (by rw [hk]; decide)]
      have h1 := wf_3 m ih B b F bs t la lc w h hB hk ht hv hkids (by rw [e] at hlen; simp only [List.length_cons, List.length_append, List.length_nil] at hlen; omega)
      rw [← hk] at h1
      exact h1
#print axioms wform_any
end Go.Proofs.YthhgphokbgpaiabDoor
