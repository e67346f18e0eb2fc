/- The machine's small functions: fail, spend, enter, step, variable, at, suspend, is. -/
import Derived.Test.YtjiecahopdaghabDoorNa
namespace Go.Proofs.YtjiecahopdaghabDoor
open Go.RowKit

theorem MachP.cells {w : World} {mb : Nat} {f n e : Int} (h : MachP w mb f n e) : w.cell? ⟨mb, 62, none⟩ = some (.int .i64 f) ∧ w.cell? ⟨mb, 63, none⟩ = some (.int .i64 n) ∧ w.cell? ⟨mb, 64, none⟩ = some (.int .i64 e) ∧ ∀ i, w.frozen? ⟨mb, i, none⟩ = false := by
  obtain ⟨cs, h1, h2, h3, h4, h5, h6⟩ := h
  exact ⟨(cell_of_block h1 62).trans h4, (cell_of_block h1 63).trans h5, (cell_of_block h1 64).trans h6, fun i => frozen_of_block h1 i⟩
theorem MachP.set {w : World} {mb k : Nat} {f n e : Int} (h : MachP w mb f n e) (hk : k = 62 ∨ k = 63 ∨ k = 64) (x : Int) :
    MachP (w.setCell ⟨mb, k, none⟩ (.int .i64 x)) mb (if k = 62 then x else f) (if k = 63 then x else n) (if k = 64 then x else e) := by
  obtain ⟨cs, h1, h2, h3, h4, h5, h6⟩ := h
  refine ⟨_, heap_setCell_same _ _ k _ _ (.int .i64 x) h1, by simpa using h2, fun op ho => ?_, ?_, ?_, ?_⟩
  · obtain ⟨g1, g2⟩ := h3 op ho
    exact ⟨by rw [Array.getElem?_setIfInBounds_ne (by omega)]; exact g1, by rw [Array.getElem?_setIfInBounds_ne (by omega)]; exact g2⟩
  · by_cases h : k = 62
    · subst h; rw [if_pos rfl, Array.getElem?_setIfInBounds_self_of_lt (by omega)]
    · rw [if_neg h, Array.getElem?_setIfInBounds_ne h]; exact h4
  · by_cases h : k = 63
    · subst h; rw [if_pos rfl, Array.getElem?_setIfInBounds_self_of_lt (by omega)]
    · rw [if_neg h, Array.getElem?_setIfInBounds_ne h]; exact h5
  · by_cases h : k = 64
    · subst h; rw [if_pos rfl, Array.getElem?_setIfInBounds_self_of_lt (by omega)]
    · rw [if_neg h, Array.getElem?_setIfInBounds_ne h]; exact h6
theorem fr_set (w : World) (mb k : Nat) (x : Value) : Fr (fun q => q = mb) w (w.setCell ⟨mb, k, none⟩ x) := Fr.setCell (M := fun q => q = mb) (Fr.refl _ w) (p := ⟨mb, k, none⟩) rfl x

theorem decide_eq_beq (a b : Int) : decide (a = b) = (a == b) := by by_cases h : a = b <;> simp [h]

theorem fail_any {X : Nat → Prop} {w : World} {B mb : Nat} {A : Nat → Nat} {s : St} (i : Inv w X B mb A s) (e : Int) (he : e ≠ 0) :
    Calls Tryd.prog 57 #[pt mb, .int .i64 e] w fun x w' => x = .returned (.tuple #[]) ∧ Stp w X B mb A s w' A (s.fail e) := by
  have HI := hide i
  have HE := hide he
  obtain ⟨c0, c1, c2, cf⟩ := i.mach.cells
  have z := cf 64
  clear i c0 c1 cf he
  by_cases h : s.err = 0
  · have hs : s.fail e = { s with err := e } := by unfold St.fail; rw [if_pos h]
    have HS := hide hs
    have hb : (s.err == 0) = true := beq_iff_eq.2 h
    clear h hs
    go_enter Tryd.func57, Tryd.ntmps57
    go_wp2_with fail
    go_end0
    refine ⟨rfl, ?_⟩
    rw [HS.out]
    exact Stp.mach HI.out (fr_set _ _ _ _) (HI.out.mach.set (k := 64) (by omega) e) rfl rfl (fun h => absurd h HE.out)
  · have hs : s.fail e = s := by unfold St.fail; rw [if_neg h]
    have HS := hide hs
    have hb : (s.err == 0) = false := ne_beq h
    clear h hs
    go_enter Tryd.func57, Tryd.ntmps57
    go_wp2_with fail
    go_end0
    refine ⟨rfl, ?_⟩
    rw [HS.out]
    exact Stp.refl HI.out

/-- fail, of the machine alone. -/
theorem failed_mach {w : World} {mb : Nat} {f n er : Int} (h : MachP w mb f n er) (e : Int) :
    Calls Tryd.prog 57 #[pt mb, .int .i64 e] w fun x w' => x = .returned (.tuple #[]) ∧ w' = if (er == 0) = true then w.setCell ⟨mb, 64, none⟩ (.int .i64 e) else w := by
  obtain ⟨c0, c1, c2, cf⟩ := h.cells
  have z := cf 64
  clear h c0 c1 cf
  cases hb : (er == 0) with
  | true =>
    go_enter Tryd.func57, Tryd.ntmps57
    go_wp2_with fail
    go_end0
    exact ⟨rfl, by simp⟩
  | false =>
    go_enter Tryd.func57, Tryd.ntmps57
    go_wp2_with fail
    go_end0
    exact ⟨rfl, by simp⟩

theorem spend_any {X : Nat → Prop} {w : World} {B mb : Nat} {A : Nat → Nat} {s : St} (i : Inv w X B mb A s) (k : Int) (hk : 0 ≤ k ∧ k ≤ 1000000000) :
    Calls Tryd.prog 76 #[pt mb, .int .i64 k] w fun x w' => x = .returned (.bool (s.spend k).1) ∧ Stp w X B mb A s w' A (s.spend k).2 := by
  have HI := hide i
  obtain ⟨c0, c1, c2, cf⟩ := i.mach.cells
  have z := cf 62
  obtain ⟨f1, hf1⟩ : ∃ f1, f1 = w64 (s.fuel - k) := ⟨_, rfl⟩
  obtain ⟨s1, hs1⟩ : ∃ s1 : St, s1 = { s with fuel := f1 } := ⟨_, rfl⟩
  have HM1 : Hid (MachP (w.setCell ⟨mb, 62, none⟩ (.int .i64 f1)) mb f1 s.nested s.err) := hide (i.mach.set (k := 62) (by omega) f1)
  have HFU : Hid (s.err = 0 → ¬ f1 < 0 → 0 ≤ f1 ∧ f1 ≤ 16777216) := hide (fun h h2 => by
    have := i.fuel h
    have h3 : f1 = s.fuel - k := by rw [hf1]; unfold w64; rw [IntKind.wrap_i64]; omega
    omega)
  obtain ⟨s2, hs2⟩ : ∃ s2, s2 = if f1 < 0 then s1.fail 17 else s1 := ⟨_, rfl⟩
  have hsp : s.spend k = (decide (s2.err = 0), s2) := by unfold St.spend; rw [hs2, hs1, hf1]
  rw [hsp]
  have hw : IntKind.i64.wrap (s.fuel - k) = f1 := hf1.symm
  have HST : Hid (s2.sto = s.sto ∧ s2.size = s.size ∧ s2.nested = s.nested ∧ s2.fuel = f1) := hide (by
    rw [hs2]
    split
    · unfold St.fail
      split <;> (rw [hs1]; exact ⟨rfl, rfl, rfl, rfl⟩)
    · rw [hs1]; exact ⟨rfl, rfl, rfl, rfl⟩)
  have hse : s1.err = s.err := by rw [hs1]
  clear hsp i c1 hf1
  by_cases h : f1 < 0
  · rw [if_pos h] at hs2
    by_cases he : s.err = 0
    · have h2e : s2.err = 17 := by rw [hs2]; unfold St.fail; rw [hse, if_pos he]
      have hb : (s.err == 0) = true := beq_iff_eq.2 he
      rw [h2e]
      have z4 := cf 64
      have H2E := hide h2e
      have HM2 : Hid (MachP ((w.setCell ⟨mb, 62, none⟩ (.int .i64 f1)).setCell ⟨mb, 64, none⟩ (.int .i64 17)) mb f1 s.nested 17) := hide (HM1.out.set (k := 64) (by omega) 17)
      clear cf hs2 h2e he hse hs1
      go_enter Tryd.func76, Tryd.ntmps76
      go_wp2_with fail
      refine (failed_mach HM1.out 17).mono ?_
      rintro e w2 ⟨rfl, rfl⟩
      obtain ⟨e0, e1, e2, ef⟩ := HM2.out.cells
      simp only [hb, if_true]
      clear e0 e1 ef
      go_wp2_with fail
      go_ret
      refine ⟨rfl, Stp.mach HI.out ((fr_set _ _ _ _).trans (fr_set _ _ _ _)) (by rw [HST.out.2.2.2, HST.out.2.2.1, H2E.out]; exact HM2.out) HST.out.1 HST.out.2.1 (fun h => by rw [H2E.out] at h; exact absurd h (by decide))⟩
    · have h2e : s2.err = s.err := by rw [hs2]; unfold St.fail; rw [hse, if_neg he, hse]
      have hb : (s.err == 0) = false := ne_beq he
      rw [h2e]
      have H2E := hide h2e
      have HNE := hide he
      clear cf hs2 h2e he hse hs1
      go_enter Tryd.func76, Tryd.ntmps76
      go_wp2_with fail
      refine (failed_mach HM1.out 17).mono ?_
      rintro e w2 ⟨rfl, rfl⟩
      obtain ⟨e0, e1, e2, ef⟩ := HM1.out.cells
      simp only [hb, Bool.false_eq_true, if_false]
      clear e0 e1 ef
      go_wp2_with fail
      go_ret
      refine ⟨by simp [HNE.out], Stp.mach HI.out (fr_set _ _ _ _) (by rw [HST.out.2.2.2, HST.out.2.2.1, H2E.out]; exact HM1.out) HST.out.1 HST.out.2.1 (fun h => absurd (H2E.out ▸ h) HNE.out)⟩
  · rw [if_neg h] at hs2
    have h2e : s2.err = s.err := by rw [hs2, hse]
    rw [h2e]
    have H2E := hide h2e
    have HN := hide h
    obtain ⟨d0, d1, d2, df⟩ := HM1.out.cells
    clear cf hs2 h2e hse hs1 d1 df
    go_enter Tryd.func76, Tryd.ntmps76
    go_wp2_with fail
    go_ret
    exact ⟨by simp [decide_eq_beq], Stp.mach HI.out (fr_set _ _ _ _) (by rw [HST.out.2.2.2, HST.out.2.2.1, H2E.out]; exact HM1.out) HST.out.1 HST.out.2.1 (fun h => by rw [HST.out.2.2.2]; exact HFU.out (H2E.out ▸ h) HN.out)⟩

theorem step_any {X : Nat → Prop} {w : World} {B mb : Nat} {A : Nat → Nat} {s : St} (i : Inv w X B mb A s) :
    Calls Tryd.prog 69 #[pt mb] w fun x w' => x = .returned (.bool (s.spend 64).1) ∧ Stp w X B mb A s w' A (s.spend 64).2 := by
  have HI := hide i
  clear i
  go_enter Tryd.func69, Tryd.ntmps69
  go_wp2_with fail
  refine (spend_any HI.out 64 (by decide)).mono ?_
  rintro e w2 ⟨rfl, h2⟩
  have H2 := hide h2
  clear h2
  go_wp2_with fail
  go_ret
  exact ⟨rfl, H2.out⟩

theorem enter_any {X : Nat → Prop} {w : World} {B mb : Nat} {A : Nat → Nat} {s : St} (i : Inv w X B mb A s) :
    Calls Tryd.prog 81 #[pt mb] w fun x w' => x = .returned (.bool s.enter.1) ∧ Stp w X B mb A s w' A s.enter.2 := by
  have HI := hide i
  obtain ⟨c0, c1, c2, cf⟩ := i.mach.cells
  have z := cf 63
  obtain ⟨s1, hs1⟩ : ∃ s1, s1 = if s.nested = 65536 then s.fail 17 else s := ⟨_, rfl⟩
  have hen : s.enter = if s1.err = 0 then (true, { s1 with nested := w64 (s1.nested + 1) }) else (false, s1) := by unfold St.enter; rw [hs1]
  by_cases h : s.nested = 65536
  · rw [if_pos h] at hs1
    have he : s1.err ≠ 0 := by
      rw [hs1]; unfold St.fail
      split
      · simp
      · assumption
    rw [hen, if_neg he]
    have H1 := hide hs1
    have hb : (s.nested == 65536) = true := beq_iff_eq.2 h
    have hbe : (s1.err == 0) = false := ne_beq he
    clear hs1 hen i c0 c2 cf h he z
    go_enter Tryd.func81, Tryd.ntmps81
    go_wp2_with fail
    refine (fail_any HI.out 17 (by decide)).mono ?_
    rintro e w2 ⟨rfl, h2⟩
    rw [← H1.out] at h2
    obtain ⟨e0, e1, e2, ef⟩ := h2.inv.mach.cells
    have HX := hide h2
    clear h2 e0 e1 ef c1
    go_wp2_with fail
    go_ret
    exact ⟨rfl, HX.out⟩
  · rw [if_neg h] at hs1
    subst hs1
    have hb : (s1.nested == 65536) = false := ne_beq h
    by_cases he : s1.err = 0
    · rw [hen, if_pos he]
      have hbe : (s1.err == 0) = true := beq_iff_eq.2 he
      obtain ⟨n1, hn1⟩ : ∃ n1, n1 = w64 (s1.nested + 1) := ⟨_, rfl⟩
      rw [← hn1]
      have hw : IntKind.i64.wrap (s1.nested + 1) = n1 := hn1.symm
      clear hn1 hen i c0 cf h he
      go_enter Tryd.func81, Tryd.ntmps81
      go_wp2_with fail
      go_ret
      exact ⟨rfl, Stp.mach HI.out (fr_set _ _ _ _) (HI.out.mach.set (k := 63) (by omega) n1) rfl rfl HI.out.fuel⟩
    · rw [hen, if_neg he]
      have hbe : (s1.err == 0) = false := ne_beq he
      clear hen i c0 cf h he z
      go_enter Tryd.func81, Tryd.ntmps81
      go_wp2_with fail
      go_ret
      exact ⟨rfl, Stp.refl HI.out⟩
end Go.Proofs.YtjiecahopdaghabDoor
