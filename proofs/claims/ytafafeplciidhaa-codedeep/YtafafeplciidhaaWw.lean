/- walk: each term of a tree is shown, one ahead of its kids. -/
import Derived.Test.YtafafeplciidhaaWb
import Derived.Test.YtafafeplciidhaaStk
import Derived.Deep.RegionHeld3
import Derived.Deep.LoopGhost
import Derived.Deep.DrawnRows
import Derived.Deep.AppendLies
namespace Go.Proofs.Ytafafeplciidhaa
open Go.RowKit

theorem pile_any (base n : Nat) (v : Value) (xs : List Value) (a : Option Addr) (len cap : Nat) (w : World) (hown : w.ownsRow base 27 1 v n xs) (hb : base ≤ w.heap.size) (hn : n ≤ 1000000) :
    Calls Try.prog 29 #[v, .slice a len cap] w fun e w' => ∃ v' n' xs', e = .returned v' ∧ n' = n + (if len = 0 then 0 else 1) ∧ xs' = xs ++ (if len = 0 then [] else [.slice a len cap]) ∧ w'.ownsRow base 27 1 v' n' xs' ∧ w.grownBy w' v.ownBlock := by
  cases len with
  | zero =>
    refine (pile_empty v a cap w).mono ?_
    rintro e w' ⟨rfl, rfl⟩
    exact ⟨v, n, xs, rfl, by simp, by simp, hown, World.grownBy.refl _ _⟩
  | succ len =>
    refine (pile_push base n v xs a len cap w hown hb hn).mono ?_
    rintro e w' ⟨v', rfl, h1, h2⟩
    exact ⟨v', _, _, rfl, rfl, rfl, by simpa using h1, h2⟩

attribute [local go_sem ↓] Go.wp_at_zero Go.wp_at_succ

set_option maxHeartbeats 400000 in
theorem walk_any (k b B f : Nat) (M : Nat → Prop) (G : Tr → Prop) (J : List Tr → World → Prop) (t : Tr) (v : Value) (w : World)
    (hcf : ∀ args w, (callFunc k args).run Try.prog w = .ok (.enter k args) w)
    (hJ : ∀ done w w', J done w → (∀ k, M k → w'.heap[k]? = w.heap[k]?) → J done w')
    (hsee : ∀ (done : List Tr) (x : Tr) (g : Nat) (u : Value) (w : World), J done w → TmAt w B g x u → B ≤ w.heap.size → G x → done.length + 1 ≤ t.size →
      Calls Try.prog k #[.pointer (some ⟨b, 0, none⟩), u] w fun e w' => e = .returned (.tuple #[]) ∧ Fr M w w' ∧ J (done ++ [x]) w')
    (h : TmAt w B f t v) (hB : B ≤ w.heap.size) (hM : ∀ k, M k → B ≤ k ∧ k < w.heap.size) (h0 : J [] w) (hG : ∀ x ∈ t.pre, G x) (hsz : t.size ≤ 6000) :
    Calls Try.prog 24 #[v, .func (.func k) #[.pointer (some ⟨b, 0, none⟩)] #[]] w fun e w' => e = .returned (.tuple #[]) ∧ Fr M w w' ∧ J t.pre w' := by
  obtain ⟨g, rfl⟩ : ∃ g, f = g + 1 := by cases f with | zero => exact h.elim | succ g => exact ⟨g, rfl⟩
  obtain ⟨a, cap, rfl, hop, hn, hrow⟩ := h
  have HR := hide hrow; clear hrow
  have HJ := hide hJ; have HS := hide hsee; have H0 := hide h0; have HG := hide hG; have HM := hide hM
  clear hJ hsee h0 hG hM
  go_enter Try.func24, Try.ntmps24
  go_wp2_with fail
  go_loopg [4] t.size (fun gk rows wr => ∃ st done, gk = (rem st).length ∧ done ++ rem st = t.pre ∧ Stk wr (w.heap.size + 2) (fun k => k < B ∨ k = w.heap.size + 1) B (g + 1) rows st ∧ J done wr ∧ Fr M w wr)
  case atStart =>
    refine ⟨[([t], .slice (some ⟨w.heap.size + 1, 0, none⟩) 1 1)], [], ?_, ?_, stk_start ⟨a, cap, rfl, hop, hn, HR.out⟩ hB, ?_, (((Fr.refl M w).alloc _).alloc _).alloc _⟩
    · simp [rem, Tr.pre_length]
    · simp [rem]
    · refine HJ.out _ w _ H0.out (fun q hq => ?_)
      have := HM.out q hq
      exact ((((Fr.refl (fun _ => False) w).alloc _).alloc _).alloc _).block q this.2 (fun h => h)
  case round =>
    obtain ⟨st, done, hgk, hpre, hstk, hj, hfr⟩ := hrel
    have HP := hide hpre; have HK := hide hstk; have HJ1 := hide hj; have HF := hide hfr; have HGK := hide hgk
    clear hpre hstk hj hfr hgk
    cases st with
    | nil =>
      obtain ⟨ra, rcap, rfl⟩ := owns_zero (by simpa using HK.out.own)
      go_wp2_with fail
      go_end0
      exact ⟨rfl, HF.out, by have := HP.out; simp [rem] at this; rw [← this]; exact HJ1.out⟩
    | cons p st =>
      obtain ⟨row, rv⟩ := p
      obtain ⟨hne, ra, rcap, hrv, hrow⟩ := HK.out.ok (row, rv) (by simp)
      simp only at hne hrv hrow
      subst hrv
      obtain ⟨rg, rc, rfl⟩ := owns_succ HK.out.own
      obtain ⟨t0, ts, rfl⟩ : ∃ t0 ts, row = t0 :: ts := by cases row with | nil => exact absurd rfl hne | cons t0 ts => exact ⟨t0, ts, rfl⟩
      obtain ⟨b1, off, rfl, hD1, hx⟩ := hrow.2.2 hne
      obtain ⟨x0, x1, x2, e0, e1, e2, ht0⟩ := hx 0 (by simp)
      obtain ⟨ka, kcap, hv, hop0, hn0, hkrow⟩ := ht0
      simp only [Value.agg.injEq, Array.mk.injEq, List.cons.injEq, and_true, List.getElem_cons_zero] at hv
      obtain ⟨rfl, rfl, rfl⟩ := hv
      obtain ⟨hpop, hc0, hrg1, hrg2, hrc1, hrc2⟩ := owns_pop (by simpa using HK.out.own)
      have hl1 := hrow.1
      have hl2 := hrow.2.1
      simp only [List.length_cons] at hl1
      unfold maxLen at hl2 hrc2
      have hlen : done.length + (rem ((t0 :: ts, Value.slice (some ⟨b1, off, none⟩) (t0 :: ts).length rcap) :: st)).length = t.size := by
        rw [← List.length_append, HP.out, Tr.pre_length]
      have hst : st.length ≤ 6000 := by
        have h1 := rem_ge st (fun q hq => (HK.out.ok q (List.mem_cons_of_mem _ hq)).1)
        rw [rem_cons, List.length_append] at hlen
        omega
      have hmem : t0 ∈ t.pre := by rw [← HP.out, rem_top t0 ts _ st (.bool true) (.bool true)]; simp
      have hdl : done.length + 1 ≤ t.size := by rw [rem_top t0 ts _ st (.bool true) (.bool true), List.length_cons] at hlen; omega
      clear hlen
      have HX := hide hx; have HKR := hide hkrow; have HPOP := hide hpop; have HROW := hide hrow
      clear hx hkrow hpop hrow
      simp only [Nat.zero_mul, Nat.add_zero] at e0 e1 e2
      go_wp2_with fail
      refine (HS.out done t0 (g + 1) _ wr HJ1.out ⟨ka, kcap, rfl, hop0, hn0, HKR.out⟩ (by have := HF.out.size; omega) ?_ ?_).mono ?_
      · exact HG.out t0 hmem
      · exact hdl
      rintro e w1 ⟨rfl, hf1, hj1⟩
      have HF1 := hide hf1; have HJ2 := hide hj1
      clear hf1 hj1
      have hwr := HF.out.size
      have hbase : w.heap.size + 2 ≤ wr.heap.size := by omega
      have hw1 := HF1.out.size
      have hb1lt : b1 < wr.heap.size := by omega
      have hb1M : ¬ M b1 := fun hm => by have := HM.out b1 hm; omega
      have f2 : w1.cell? ⟨b1, off + 2, none⟩ = some (.slice ka t0.kids.length kcap) := by
        rw [HF1.out.cell hb1lt hb1M]; exact e2
      have HO1 : Hid (w1.ownsRow (w.heap.size + 2) 27 1 (.slice (some ⟨rg, 0, none⟩) st.length rc) st.length (st.map Prod.snd).reverse) :=
        owns_keep HPOP.out (fun q hq1 hq2 => HF1.out.block q hq2 (fun hm => by have := HM.out q hm; omega))
      have i1 : (0 : Int) ≤ (st.length : Int) := by omega
      have i2 : (st.length : Int) ≤ (rc : Int) := by omega
      have i3 : (1 : Int) ≤ (ts.length + 1 : Int) := by omega
      have hb1r : b1 < w.heap.size + 2 := by omega
      clear e0 e1 e2 hc0
      obtain ⟨A, hA, hAt⟩ : ∃ A : Option Addr, (if rcap = 1 then some (⟨b1, off, none⟩ : Addr) else some ⟨b1, off + 3, none⟩) = A ∧ Hid (ts ≠ [] → A = some ⟨b1, off + 3, none⟩) :=
        ⟨_, rfl, fun hn => if_neg (by have := List.length_pos_iff.2 hn; omega)⟩
      go_wp2_with fail
      go_region_held3 (fun _ => True) (trivial)
        (first | (go_at_call 29; refine (pile_any (w.heap.size + 2) st.length _ (st.map Prod.snd).reverse _ _ _ _ (by exact HO1.out.drew) (by show w.heap.size + 2 ≤ w1.heap.size; omega) (by omega)).mono ?_; rintro e w2 ⟨v2, n2, xs2, rfl, hn2, hxs2, hown2, hgr2⟩))
      have HN2 := hide hn2; have HX2 := hide hxs2; have HO2 := hide hown2; have HG2 := hide hgr2
      clear hn2 hxs2 hown2 hgr2
      have hs2 : w1.heap.size ≤ w2.heap.size := HG2.out.size
      have hk2 : Hid (∀ q, q < w.heap.size + 2 → w2.heap[q]? = w1.heap[q]?) := fun q hq => grown_block (w := w1.drew) HG2.out (HO1.out.drew) (by show q < w1.heap.size; omega) hq
      have g2 : w2.cell? ⟨b1, off + 2, none⟩ = some (.slice ka t0.kids.length kcap) := by
        rw [World.cell?_of_block (w := w1) (hk2.out b1 hb1r)]; exact f2
      clear f2
      go_wp2_with fail
      refine (pile_any (w.heap.size + 2) n2 v2 xs2 _ _ _ _ HO2.out (by omega) (by rw [HN2.out]; split <;> omega)).mono ?_
      rintro e w3 ⟨v3, n3, xs3, rfl, hn3, hxs3, hown3, hgr3⟩
      have HN3 := hide hn3; have HX3 := hide hxs3; have HO3 := hide hown3; have HG3 := hide hgr3
      clear hn3 hxs3 hown3 hgr3
      go_wp2_with fail
      go_roundg (gk - 1)
      case measure =>
        have := HGK.out
        rw [rem_top t0 ts _ st (.bool true) (.bool true), List.length_cons] at this
        omega
      case rel =>
        have hk3 : ∀ q, q < w.heap.size + 2 → w3.heap[q]? = w1.heap[q]? := fun q hq => (grown_block HG3.out HO2.out (by omega) hq).trans (hk2.out q hq)
        have hD3 : ∀ q, (q < B ∨ q = w.heap.size + 1) → w3.heap[q]? = wr.heap[q]? := fun q hq =>
          (hk3 q (by omega)).trans (HF1.out.block q (by omega) (fun hm => by have := HM.out q hm; omega))
        refine ⟨push (t0.kids, .slice ka t0.kids.length kcap) (push (ts, .slice A ts.length (rcap - 1)) st), done ++ [t0], ?_, ?_, ⟨?_, ?_⟩, ?_, ?_⟩
        · rw [HGK.out, rem_top t0 ts _ st (.slice ka t0.kids.length kcap) (.slice A ts.length (rcap - 1)), List.length_cons]; rfl
        · rw [List.append_assoc, List.singleton_append, ← rem_top t0 ts _ st]; exact HP.out
        · rw [push_length, push_length, push_snd, push_snd]
          have h3 := HO3.out
          rw [HN3.out, HX3.out, HN2.out, HX2.out] at h3
          exact h3
        · refine push_ok (fun hne3 => RowOk.of ?_ hne3) (push_ok (fun hne3 => RowOk.of ?_ hne3) ?_)
          · exact HKR.out.imp (fun q hq => hD3 q (Or.inl hq)) (fun q hq => Or.inl hq) (fun x u hx => (TmD.keep (fun q hq => hD3 q (Or.inl hq)) (fun _ h => h) g x u hx).more (by omega))
          · exact (HROW.out.tail hAt.out).imp (fun q hq => hD3 q hq) (fun q hq => hq) (fun x u hx => hx.keep (fun q hq => hD3 q (Or.inl hq)) (Nat.le_refl _) (g + 1) x u)
          · exact fun q hq => (HK.out.ok q (List.mem_cons_of_mem _ hq)).keep hD3 (fun x hx => Or.inl hx)
        · exact HJ.out _ w1 _ HJ2.out (fun q hq => hk3 q (by have := HM.out q hq; omega))
        · have h1 := HF.out.trans HF1.out
          have hs3 := HG3.out.size
          exact ⟨(HG3.out.os.trans HG2.out.os).trans h1.os, (HG3.out.tape.trans HG2.out.tape).trans h1.tape, (HG3.out.output.trans HG2.out.output).trans h1.output, by omega, fun q hq hm => (hk3 q (by omega)).trans (h1.block q hq hm)⟩
#print axioms walk_any
end Go.Proofs.Ytafafeplciidhaa
