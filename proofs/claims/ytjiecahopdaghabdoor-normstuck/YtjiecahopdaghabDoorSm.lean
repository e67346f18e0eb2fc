/- Same: whether two terms are the same. -/
import Derived.Test.YtjiecahopdaghabDoorWa
import Derived.Test.YtjiecahopdaghabDoorStep
import Derived.Deep.RegionHeld3
import Derived.Deep.DrawnRows
namespace Go.Proofs.YtjiecahopdaghabDoor
open Go.RowKit

attribute [local go_sem ↓] Go.wp_at_zero Go.wp_at_succ

theorem Tr.ext' {t s : Tr} (h1 : t.op = s.op) (h2 : t.n = s.n) (h3 : t.kids = s.kids) : t = s := by
  cases t; cases s; simp at *; exact ⟨h1, h2, h3⟩

theorem bne_true {a b : Int} (h : a ≠ b) : (a != b) = true := by rw [bne_iff_ne]; exact h
theorem bne_false {a b : Int} (h : a = b) : (a != b) = false := by rw [bne_eq_false_iff_eq]; exact h

set_option maxRecDepth 20000 in
set_option maxHeartbeats 1000000 in
theorem same_any (B f : Nat) : ∀ (t s : Tr) (v u : Value) (w : World), TmAt w B f t v → TmAt w B f s u → B ≤ w.heap.size →
    Calls Tryd.prog 34 #[v, u] w fun e w' => ∃ r, e = .returned (.bool r) ∧ (r = true ↔ t = s) ∧ Below w.heap.size w w' := by
  induction f with
  | zero => intro t s v u w h; exact h.elim
  | succ f ih =>
    rintro t s v u w ⟨a, cap, rfl, hop, hn, hrow⟩ ⟨a', cap', rfl, hop', hn', hrow'⟩ hB
    have IH := hide ih; clear ih
    have HR := hide hrow; have HR' := hide hrow'
    have hlm : t.kids.length ≤ maxLen := Nat.le_trans hrow.1 hrow.2.1
    have hlm' : s.kids.length ≤ maxLen := Nat.le_trans hrow'.1 hrow'.2.1
    unfold maxLen at hlm hlm'
    clear hrow hrow'
    by_cases h1 : t.op = s.op
    · by_cases h2 : t.n = s.n
      · by_cases h3 : t.kids.length = s.kids.length
        · rw [← h3]
          have g1 := bne_false h1
          have g2 := bne_false h2
          have H1 := hide h1; have H2 := hide h2; have H3 := hide h3
          clear h1 h2 h3
          go_enter Tryd.func34, Tryd.ntmps34
          go_wp2_with fail
          go_loopw [5] (fun i wr => ∃ k : Nat, k ≤ t.kids.length ∧ i = .int .i64 k ∧ (∀ (j : Nat) (_ : j < k), t.kids[j]? = s.kids[j]?) ∧ wr.cell? ⟨w.heap.size, 2, none⟩ = some (.slice a t.kids.length cap) ∧ wr.cell? ⟨w.heap.size + 1, 2, none⟩ = some (.slice a' t.kids.length cap') ∧ w.heap.size + 2 ≤ wr.heap.size ∧ Below w.heap.size w wr) (fun i _ => t.kids.length - (intOf i).toNat)
          case atStart => exact ⟨0, Nat.zero_le _, rfl, fun j hj => absurd hj (by omega), by simp, by simp, by simp, ((Below.refl _ _).alloc (Nat.le_refl _) _).alloc (by simp) _⟩
          case round =>
            obtain ⟨k, hk, rfl, hall, c1, c2, hsz, hb⟩ := hrel
            have HA := hide hall; have HB := hide hb
            clear hall hb
            by_cases hlt : k < t.kids.length
            · have hlt' : k < s.kids.length := by have := H3.out; omega
              obtain ⟨b, off, rfl, hbB, hx⟩ := HR.out.2.2 (by intro h; simp [h] at hlt)
              obtain ⟨x0, x1, x2, e0, e1, e2, hr⟩ := hx k hlt
              obtain ⟨b', off', rfl, hbB', hx'⟩ := HR'.out.2.2 (by intro h; simp [h] at hlt')
              obtain ⟨y0, y1, y2, e0', e1', e2', hr'⟩ := hx' k hlt'
              have f0 : wr.cell? ⟨b, off + k * 3, none⟩ = some x0 := by rw [HB.out.cell (Nat.lt_of_lt_of_le hbB hB)]; exact e0
              have f1 : wr.cell? ⟨b, off + k * 3 + 1, none⟩ = some x1 := by rw [HB.out.cell (Nat.lt_of_lt_of_le hbB hB)]; exact e1
              have f2 : wr.cell? ⟨b, off + k * 3 + 2, none⟩ = some x2 := by rw [HB.out.cell (Nat.lt_of_lt_of_le hbB hB)]; exact e2
              have f0' : wr.cell? ⟨b', off' + k * 3, none⟩ = some y0 := by rw [HB.out.cell (Nat.lt_of_lt_of_le hbB' hB)]; exact e0'
              have f1' : wr.cell? ⟨b', off' + k * 3 + 1, none⟩ = some y1 := by rw [HB.out.cell (Nat.lt_of_lt_of_le hbB' hB)]; exact e1'
              have f2' : wr.cell? ⟨b', off' + k * 3 + 2, none⟩ = some y2 := by rw [HB.out.cell (Nat.lt_of_lt_of_le hbB' hB)]; exact e2'
              have HT : Hid (TmAt wr B f t.kids[k] (.agg #[x0, x1, x2])) := TmAt.below hr HB.out hB (Nat.le_refl _)
              have HT' : Hid (TmAt wr B f s.kids[k] (.agg #[y0, y1, y2])) := TmAt.below hr' HB.out hB (Nat.le_refl _)
              clear hx e0 e1 e2 hr hx' e0' e1' e2' hr'
              go_wp2_with fail
              have i1 : (0 : Int) ≤ (k : Int) := by omega
              have i2 : (k : Int) < (t.kids.length : Int) := by omega
              go_region_held3 (fun w' => w'.cell? ⟨w.heap.size, 2, none⟩ = some (.slice (some ⟨b, off, none⟩) t.kids.length cap) ∧ w'.cell? ⟨w.heap.size + 1, 2, none⟩ = some (.slice (some ⟨b', off', none⟩) t.kids.length cap') ∧
                  w'.cell? ⟨b, off + k * 3, none⟩ = some x0 ∧ w'.cell? ⟨b, off + k * 3 + 1, none⟩ = some x1 ∧ w'.cell? ⟨b, off + k * 3 + 2, none⟩ = some x2 ∧ w'.cell? ⟨b', off' + k * 3, none⟩ = some y0 ∧ w'.cell? ⟨b', off' + k * 3 + 1, none⟩ = some y1 ∧ w'.cell? ⟨b', off' + k * 3 + 2, none⟩ = some y2)
                (first | go_keep | exact HS5.out)
                (first | (go_at_call 34; refine (IH.out t.kids[k] s.kids[k] _ _ _ (by exact TmD.drew HT.out) (by exact TmD.drew HT'.out) (by show B ≤ wr.heap.size; omega)).mono ?_; rintro e w5 ⟨r, rfl, hr5, hb5⟩; have hc5 : ∀ x, x.block < wr.heap.size → w5.cell? x = wr.cell? x := fun x hx => hb5.cell (p := x) hx; have HS5 := hide (And.intro ((hc5 ⟨w.heap.size, 2, none⟩ (by show w.heap.size < _; omega)).trans c1) (And.intro ((hc5 ⟨w.heap.size + 1, 2, none⟩ (by show w.heap.size + 1 < _; omega)).trans c2) (And.intro ((hc5 ⟨b, off + k * 3, none⟩ (by show b < _; omega)).trans f0) (And.intro ((hc5 ⟨b, off + k * 3 + 1, none⟩ (by show b < _; omega)).trans f1) (And.intro ((hc5 ⟨b, off + k * 3 + 2, none⟩ (by show b < _; omega)).trans f2) (And.intro ((hc5 ⟨b', off' + k * 3, none⟩ (by show b' < _; omega)).trans f0') (And.intro ((hc5 ⟨b', off' + k * 3 + 1, none⟩ (by show b' < _; omega)).trans f1') ((hc5 ⟨b', off' + k * 3 + 2, none⟩ (by show b' < _; omega)).trans f2')))))))); have HR5 := hide hr5; have HB5 := hide hb5; clear hr5 hb5 hc5))
              have hbl : Hid (Below w.heap.size w w5) := HB.out.drew.trans (HB5.out.mono (by show w.heap.size ≤ wr.heap.size; omega))
              have hs5 : wr.heap.size ≤ w5.heap.size := HB5.out.size
              cases r with
              | false =>
                go_wp2_with fail
                go_ret
                refine ⟨false, rfl, ?_, hbl.out⟩
                constructor
                · intro h; cases h
                · intro h; subst h; have := HR5.out; simp at this
              | true =>
                go_wp2_with fail
                go_roundw
                case rel =>
                  refine ⟨k + 1, by omega, by go_num, fun j hj => ?_, HS5.out.1, HS5.out.2.1, by omega, hbl.out⟩
                  by_cases hjk : j < k
                  · exact HA.out j hjk
                  · have : j = k := by omega
                    subst this
                    rw [List.getElem?_eq_getElem hlt, List.getElem?_eq_getElem hlt', HR5.out.1 rfl]
                case measure => simp [intOf]; omega
            · go_wp2_with fail
              go_ret
              refine ⟨true, rfl, ⟨fun _ => Tr.ext' H1.out H2.out (List.ext_getElem? (fun j => ?_)), fun _ => rfl⟩, HB.out⟩
              by_cases hj : j < k
              · exact HA.out j hj
              · rw [List.getElem?_eq_none (by omega), List.getElem?_eq_none (by have := H3.out; omega)]
        · have g1 := bne_false h1
          have g2 := bne_false h2
          have g3 : ((t.kids.length : Int) != (s.kids.length : Int)) = true := bne_true (by omega)
          have H1 := hide h1; have H2 := hide h2; have H3 := hide h3
          clear h1 h2 h3
          go_enter Tryd.func34, Tryd.ntmps34
          go_wp2_with fail
          go_ret
          refine ⟨false, rfl, ?_, ((Below.refl _ _).alloc (Nat.le_refl _) _).alloc (by simp) _⟩
          constructor
          · intro h; cases h
          · intro h; exact absurd (by rw [h]) H3.out
      · have g1 := bne_false h1
        have g2 := bne_true h2
        have H1 := hide h1; have H2 := hide h2
        clear h1 h2
        go_enter Tryd.func34, Tryd.ntmps34
        go_wp2_with fail
        go_ret
        refine ⟨false, rfl, ?_, ((Below.refl _ _).alloc (Nat.le_refl _) _).alloc (by simp) _⟩
        constructor
        · intro h; cases h
        · intro h; exact absurd (by rw [h]) H2.out
    · have g1 := bne_true h1
      have H1 := hide h1
      clear h1
      go_enter Tryd.func34, Tryd.ntmps34
      go_wp2_with fail
      go_ret
      refine ⟨false, rfl, ?_, ((Below.refl _ _).alloc (Nat.le_refl _) _).alloc (by simp) _⟩
      constructor
      · intro h; cases h
      · intro h; exact absurd (by rw [h]) H1.out
#print axioms same_any
end Go.Proofs.YtjiecahopdaghabDoor
