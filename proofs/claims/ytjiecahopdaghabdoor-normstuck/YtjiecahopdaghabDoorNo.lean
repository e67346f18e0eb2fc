/- look: what a part comes to, its binders' variables being themselves. -/
import Derived.Test.YtjiecahopdaghabDoorNl
namespace Go.Proofs.YtjiecahopdaghabDoor
open Go.RowKit

theorem vars_snoc (o : Int) : ∀ (k i : Nat) (s : St), St.vars o (k + 1) i s = ((St.vars o k i s).1 ++ [((St.vars o k i s).2.var (w64 (o + ((i + k : Nat) : Int)))).1], ((St.vars o k i s).2.var (w64 (o + ((i + k : Nat) : Int)))).2)
  | 0, i, s => by simp [St.vars]
  | k + 1, i, s => by
    have ih := vars_snoc o k (i + 1) (s.var (w64 (o + (i : Int)))).2
    rw [St.vars, ih]
    simp only [St.vars, List.cons_append]
    rw [show i + 1 + k = i + (k + 1) by omega]

/-- While variables are laid. -/
structure VrS (w : World) (X : Nat → Prop) (B mb : Nat) (A : Nat → Nat) (s : St) (wr : World) (A' : Nat → Nat) (s' : St) (rb L : Nat) (ids : List Nat) : Prop where
  inv : Inv wr (fun q => X q ∨ q = rb) B mb A' s'
  size : s.size ≤ s'.size
  same : ∀ i, i < s.size → A' i = A i
  fr : Fr (Mut mb A s.size) w wr
  new : ∀ i, s.size ≤ i → i < s'.size → w.heap.size ≤ A' i
  row : ∃ cs : Array Value, wr.heap[rb]? = some (.cells cs 66 (0, 0)) ∧ cs.size = L ∧ ∀ (j : Nat) (h : j < ids.length), cs[j]? = some (pt (A' ids[j]))
  lt : ∀ i ∈ ids, i < s'.size
  nw : w.heap.size ≤ rb
  xlt : ∀ q, X q → q < w.heap.size

theorem VrS.fin {w wr : World} {X : Nat → Prop} {B mb rb L : Nat} {A A' : Nat → Nat} {s s' : St} {ids : List Nat} (h : VrS w X B mb A s wr A' s' rb L ids) (hl : ids.length = L) (hL : L ≤ 100000000) :
    Stp w X B mb A s wr A' s' ∧ PRow wr X mb A' s'.size (some ⟨rb, 0, none⟩) ids L := by
  obtain ⟨k, hi⟩ := h.inv.wide (Y := X) (Below.refl _ wr) (fun q hq => Or.inl (Or.inl hq))
  have hxr := h.inv.xs rb (Or.inr rfl)
  refine ⟨⟨hi, h.size, h.same, h.fr, h.new⟩, by omega, hL, h.lt, fun _ => ⟨rb, rfl, hxr.2.1, ?_, fun j hj => ?_⟩⟩
  · rintro ((e | ⟨j, hj, e⟩) | e)
    · exact hxr.2.2.1 e
    · exact hxr.2.2.2 j hj e
    · have := h.xlt _ e; have := h.nw; omega
  · obtain ⟨cs, h1, h2, h3⟩ := h.row
    rw [cell_of_block h1]
    exact h3 j hj
theorem VrS.start {w w2 : World} {X : Nat → Prop} {B mb rb L : Nat} {A : Nat → Nat} {s : St} {cs : Array Value} (i : Inv w X B mb A s) (hb : Below w.heap.size w w2) (hr : w2.heap[rb]? = some (.cells cs 66 (0, 0)))
    (hc : cs.size = L) (h2 : w.heap.size ≤ rb) : VrS w X B mb A s w2 A s rb L [] := by
  obtain ⟨k, hi⟩ := i.wide (Y := fun q => X q ∨ q = rb) hb (fun q hq => by
    rcases hq with h | rfl
    · exact Or.inl h
    · exact Or.inr ⟨h2, size_of_block hr⟩)
  exact ⟨hi, Nat.le_refl _, fun _ _ => rfl, Fr.of_below hb, fun j h1 h2 => by omega, ⟨cs, hr, hc, fun j h => absurd h (by simp)⟩, fun i hi => by simp at hi, h2, fun q hq => (i.xs q hq).2.1⟩
theorem VrS.nmr {w wr : World} {X : Nat → Prop} {B mb rb L : Nat} {A A' : Nat → Nat} {s s' : St} {ids : List Nat} (h : VrS w X B mb A s wr A' s' rb L ids) : ¬ Mut mb A' s'.size rb := by
  have hxr := h.inv.xs rb (Or.inr rfl)
  rintro (e | ⟨j, hj, e⟩)
  · exact hxr.2.2.1 e
  · exact hxr.2.2.2 j hj e
theorem VrS.step {w wr w5 : World} {X : Nat → Prop} {B mb rb L : Nat} {A A' A5 : Nat → Nat} {s s' : St} {ids : List Nat} {r : Nat × St} (h : VrS w X B mb A s wr A' s' rb L ids) (hl : ids.length < L) (hr : r.1 < r.2.size) (hs : Stp wr (fun q => X q ∨ q = rb) B mb A' s' w5 A5 r.2) :
    VrS w X B mb A s (w5.setCell ⟨rb, ids.length, none⟩ (pt (A5 r.1))) A5 r.2 rb L (ids ++ [r.1]) := by
  have hxr := h.inv.xs rb (Or.inr rfl)
  have hmr := h.nmr
  obtain ⟨cs, h1, h2, h3⟩ := h.row
  have hr5 := (hs.fr.block rb hxr.2.1 hmr).trans h1
  have hf : Fr (fun q => q = rb) w5 (w5.setCell ⟨rb, ids.length, none⟩ (pt (A5 r.1))) := fr_set _ _ _ _
  obtain ⟨k, hi⟩ := hs.inv.poke (hf.mono (fun q e => Or.inr e))
  have hws := h.fr.size
  refine ⟨hi, Nat.le_trans h.size hs.size, fun j hj => (hs.same j (Nat.lt_of_lt_of_le hj h.size)).trans (h.same j hj), ?_, fun j h1 h2 => ?_, ?_, fun i hi => ?_, h.nw, h.xlt⟩
  · refine ⟨hf.os.trans (hs.fr.os.trans h.fr.os), hf.tape.trans (hs.fr.tape.trans h.fr.tape), hf.output.trans (hs.fr.output.trans h.fr.output), Nat.le_trans h.fr.size (Nat.le_trans hs.fr.size hf.size), fun q hq hm => ?_⟩
    have hss := hs.fr.size
    rw [hf.block q (by omega) (by have := h.nw; omega)]
    refine (hs.fr.block q (by omega) ?_).trans (h.fr.block q hq hm)
    rintro (e | ⟨j, hj, e⟩)
    · exact hm (Or.inl e)
    · by_cases hn : j < s.size
      · exact hm (Or.inr ⟨j, hn, by rw [← e, h.same j hn]⟩)
      · have := h.new j (by omega) hj; omega
  · by_cases hj : j < s'.size
    · rw [hs.same j hj]; exact h.new j h1 hj
    · have := hs.new j (by omega) h2; omega
  · refine ⟨_, heap_setCell_same _ _ ids.length _ _ (pt (A5 r.1)) hr5, by simpa using h2, fun j hj => ?_⟩
    by_cases he : j < ids.length
    · rw [Array.getElem?_setIfInBounds_ne (by omega), h3 j he, List.getElem_append_left he, hs.same _ (h.lt _ (List.getElem_mem he))]
    · have : j = ids.length := by simp at hj; omega
      subst this
      rw [Array.getElem?_setIfInBounds_self_of_lt (by omega), List.getElem_append_right (Nat.le_refl _)]
      simp
  · rcases List.mem_append.1 hi with h' | h'
    · exact Nat.lt_of_lt_of_le (h.lt i h') hs.size
    · simp at h'; subst h'; exact hr

theorem vars_len (o : Int) : ∀ (k i : Nat) (s : St), (St.vars o k i s).1.length = k
  | 0, _, _ => rfl
  | k + 1, i, s => by simp only [St.vars, List.length_cons, vars_len o k]

attribute [local go_sem ↓] Go.wp_at_zero Go.wp_at_succ

set_option maxRecDepth 20000 in
set_option maxHeartbeats 2000000 in
theorem look_any {go : Go1} (hg : ExC go) {w : World} {X : Nat → Prop} {B mb : Nat} {A : Nat → Nat} {s : St} (i : Inv w X B mb A s) {p rq : Nat} {nodes outside : Int} {r : Val × St} (hp : p < s.size) (hX : X rq) (hrd : w.heap[rq]? = some (.cells #[pt mb, .int .i64 nodes] 64 (0, 0)))
    (he : mLook go p outside s = some r) : Calls Tryd.prog 58 #[pt rq, pt (A p), .int .i64 outside] w (ValOut w X B mb A s r) := by
  obtain ⟨th, hth, hpt⟩ := i.part p hp
  unfold mLook at he
  rw [hth] at he
  simp only [Option.bind_some] at he
  obtain ⟨y1, y2, y3, hblk⟩ := part_shape hpt
  obtain ⟨c0, c1, c2, c3⟩ := cell4 hblk
  have hb2 := hpt.1
  by_cases h0 : th.binders = 0
  · rw [if_pos h0] at he
    have hb : (((th.binders : Nat) : Int) == 0) = true := by rw [h0]; rfl
    have HC := hide (hg.force i hp he)
    clear he hpt hblk hth h0 i hrd hg c1 c2 c3
    go_enter Tryd.func58, Tryd.ntmps58
    go_wp2_with fail
    refine HC.out.mono ?_
    rintro e w1 ⟨A1, vq, rfl, h1, hv1⟩
    have H1 := hide h1; have HV1 := hide hv1
    clear h1 hv1
    go_wp2_with fail
    go_ret
    exact ⟨A1, vq, rfl, H1.out, HV1.out⟩
  · rw [if_neg h0] at he
    have hb : (((th.binders : Nat) : Int) == 0) = false := ne_beq (by omega)
    obtain ⟨k, hk⟩ : ∃ k, k = th.binders := ⟨_, rfl⟩
    rw [← hk] at he hb c0 hb2
    obtain ⟨cs, hcs, hmk⟩ := make_parts 99 Tryd.underlying99 w k k (Nat.le_refl _) (by omega)
    have HE := hide he; have HI := hide i; have HG := hide hg; have HRD := hide hrd
    have nrm : Hid (¬ Mut mb A s.size rq) := hide (by
      have hx := i.xs rq hX
      rintro (e | ⟨j, hj, e⟩)
      · exact hx.2.2.1 e
      · exact hx.2.2.2 j hj e)
    have hrql : Hid (rq < w.heap.size) := hide (i.xs rq hX).2.1
    have HV0 : Hid (VrS w X B mb A s (w.alloc (.cells cs 66)) A s w.heap.size k []) := hide (VrS.start i (later_alloc _ _) (heap_alloc_new _ _) hcs (Nat.le_refl _))
    clear he hpt hblk hth h0 i hrd hg c1 c2 c3 hk
    go_enter Tryd.func58, Tryd.ntmps58
    go_wp2_with fail
    obtain ⟨W2, hW2⟩ : ∃ W2, W2 = w.alloc (.cells cs 66) := ⟨_, rfl⟩
    rw [← hW2] at HV0 ⊢
    clear hW2 hmk hcs
    go_loopw [8, 23] (fun _ iv wr => ∃ (n : Nat) (A' : Nat → Nat), n ≤ k ∧ iv = .int .i64 n ∧ Hid (VrS w X B mb A s wr A' (St.vars outside n 0 s).2 w.heap.size k (St.vars outside n 0 s).1)) (fun _ iv _ => k - (intOf iv).toNat)
    case atStart => exact ⟨0, A, Nat.zero_le _, rfl, HV0⟩
    case round =>
      obtain ⟨n, A', hn, rfl, HN⟩ := hrel
      clear HV0
      by_cases hlt : n < k
      · have hsn := vars_snoc outside n 0 s
        rw [Nat.zero_add] at hsn
        have HSN := hide hsn
        have HLN : Hid ((St.vars outside n 0 s).1.length = n) := hide (vars_len _ _ _ _)
        obtain ⟨st, hst⟩ : ∃ st, st = St.vars outside n 0 s := ⟨_, rfl⟩
        rw [← hst] at HN HSN HLN
        clear hst hsn
        obtain ⟨cs2, hrb, hcs2, _⟩ := HN.out.row
        have HRB := hide hrb
        have i1 : (0 : Int) ≤ (n : Int) := by omega
        have i2 : (n : Int) < (k : Int) := by omega
        obtain ⟨lv, hlv⟩ : ∃ lv, lv = w64 (outside + (n : Int)) := ⟨_, rfl⟩
        have hwl : IntKind.i64.wrap (outside + (n : Int)) = lv := hlv.symm
        rw [← hlv] at HSN
        have HLV : Hid (I64 lv) := hide (by rw [hlv]; exact w64_i64 _)
        clear hlv hrb
        go_wp2_with fail
        refine (variable_any HN.out.inv lv HLV.out).mono ?_
        rintro e w5 ⟨A5, rfl, hr5, hs5⟩
        have HS5 := hide hs5; have HRR := hide hr5
        have q5 := (hs5.fr.block _ (size_of_block HRB.out) HN.out.nmr).trans HRB.out
        have z5 : w5.frozen? ⟨w.heap.size, n, none⟩ = false := frozen_of_block q5 n
        have x5 : w5.cell? ⟨w.heap.size, n, none⟩ = some (cs2[n]'(by omega)) := by rw [cell_of_block q5, Array.getElem?_eq_getElem (by omega)]
        clear hs5 hr5 q5
        have HN6 := hide (VrS.step HN.out (by rw [HLN.out]; exact hlt) HRR.out HS5.out)
        rw [HLN.out] at HN6
        go_wp2_with fail
        go_roundw
        case rel => exact ⟨n + 1, A5, by omega, by go_num, by rw [HSN.out]; exact HN6⟩
        case measure => simp [intOf]; omega
      · have hke : n = k := by omega
        subst hke
        have HLN : Hid ((St.vars outside n 0 s).1.length = n) := hide (vars_len _ _ _ _)
        obtain ⟨st, hst⟩ : ∃ st, st = St.vars outside n 0 s := ⟨_, rfl⟩
        rw [← hst] at HN HE HLN
        clear hst
        obtain ⟨g1, g2⟩ := HN.out.fin HLN.out (by omega)
        have G1 := hide g1; have G2 := hide g2
        have rd5 := (g1.fr.block _ hrql.out nrm.out).trans HRD.out
        have r5 : wr.cell? ⟨rq, 0, none⟩ = some (pt mb) := (cell_of_block rd5 0).trans rfl
        have hpe : A' p = A p := g1.same p hp
        have HO := hide (open_any HG.out g1.inv (Nat.lt_of_lt_of_le hp g1.size) g2 HE.out)
        rw [hpe, HLN.out] at HO
        clear g1 g2 rd5 hpe
        go_wp2_with fail
        refine HO.out.mono ?_
        rintro e w7 ⟨A7, vq, rfl, h7, hv7⟩
        have H7 := hide h7; have HV7 := hide hv7
        clear h7 hv7
        go_wp2_with fail
        go_ret
        exact ⟨A7, vq, rfl, Stp.trans G1.out H7.out, HV7.out⟩
#print axioms look_any
end Go.Proofs.YtjiecahopdaghabDoor
