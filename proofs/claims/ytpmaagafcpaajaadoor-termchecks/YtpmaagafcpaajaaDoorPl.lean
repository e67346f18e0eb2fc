/- Plain: a raw term as a term, in new memory. -/
import Derived.Test.YtpmaagafcpaajaaDoorWa
import Derived.Test.YtpmaagafcpaajaaDoorKa
import Derived.Test.YtpmaagafcpaajaaDoorStep
import Derived.Deep.RegionHeld3
import Derived.Deep.AppendLies
import Derived.Deep.RegionLaw
import Derived.Deep.DrawnRows
namespace Go.Proofs.YtpmaagafcpaajaaDoor
open Go.RowKit

def Tr.plain : Tr → Tr
  | ⟨o, n, ks⟩ => ⟨wi o 256, n, (ks.map Tr.plain).take 255⟩

theorem Tr.plain_eq (t : Tr) : t.plain = ⟨wi t.op 256, t.n, (t.kids.map Tr.plain).take 255⟩ := by cases t; rw [Tr.plain]

theorem plain_fin {w wr w' : World} {f k kc : Nat} {t : Tr} {ka : Option Addr} {xs : List Value} (ho : wr.ownsRow (w.heap.size + 3) 29 3 (.slice ka k kc) k xs)
    (hkd : KidsAt wr (fun q => w.heap.size + 3 ≤ q ∧ q < wr.heap.size ∧ some q ≠ (Value.slice ka k kc).ownBlock) f ((t.kids.map Tr.plain).take k) xs) (hk : k ≤ t.kids.length) (hk2 : k ≤ 255) (hend : ¬ (k < t.kids.length ∧ k < 255)) (hn : I64 t.n)
    (hsame : ∀ q, q ≠ w.heap.size + 1 → w'.heap[q]? = wr.heap[q]?) (hsz : w'.heap.size = wr.heap.size) :
    TmD w' (fun q => w.heap.size ≤ q ∧ q < w'.heap.size) (f + 1) t.plain (.agg #[.int .i64 (wi t.op 256), .int .i64 t.n, .slice ka k kc]) := by
  have hl : ((t.kids.map Tr.plain).take k).length = k := by simp; omega
  have he : (t.kids.map Tr.plain).take k = (t.kids.map Tr.plain).take 255 := by
    rcases Nat.lt_or_ge k 255 with h | h
    · rw [List.take_of_length_le (by simp; omega), List.take_of_length_le (by simp; omega)]
    · rw [show k = 255 by omega]
  obtain ⟨a, cap, hv, hrow⟩ := hkd.row (D' := fun q => w.heap.size + 3 ≤ q ∧ q < wr.heap.size) ho hl.symm (fun g hg => ho.lt g hg) (fun x u hx => hx.keep (fun _ _ => rfl) (fun q hq => ⟨hq.1, hq.2.1⟩) f x u)
  rw [hl] at hv
  cases hv
  have hwi := wi_256 t.op
  refine ⟨ka, kc, ?_, ?_, ?_, ?_⟩
  · rw [Tr.plain_eq]
    simp only [← he, hl]
  · rw [Tr.plain_eq]; unfold I64; exact ⟨by simp only; omega, by simp only; omega⟩
  · rw [Tr.plain_eq]; exact hn
  · have e2 : t.plain.kids = (t.kids.map Tr.plain).take k := by rw [Tr.plain_eq]; exact he.symm
    rw [e2]
    exact hrow.imp (fun q hq => hsame q (by omega)) (fun q hq => by omega) (fun x u hx => hx.keep (fun q hq => hsame q (by omega)) (fun q hq => by omega) f x u)

/-- One kid more. -/
theorem plain_step {w wr w5 w6 : World} {t : Tr} {f k kc g6 cap6 : Nat} {ka : Option Addr} {x0 x1 : Value} {p0 p1 p2 r0 r1 r2 z0 z1 z2 : Value} {xs : List Value} {o5 : Obj}
    (HBT : wr.heap[w.heap.size + 2]? = some (.cells #[x0, x1, .slice ka k kc] 29 (0, 0))) (HO : wr.ownsRow (w.heap.size + 3) 29 3 (.slice ka k kc) k xs)
    (HK : KidsAt wr (fun q => w.heap.size + 3 ≤ q ∧ q < wr.heap.size ∧ some q ≠ (Value.slice ka k kc).ownBlock) f ((t.kids.map Tr.plain).take k) xs)
    (HBR : wr.heap[w.heap.size]? = some (.cells #[r0, r1, r2] 24 (0, 0))) (HBZ : wr.heap[w.heap.size + 1]? = some (.cells #[z0, z1, z2] 29 (0, 0))) (HBL : Below w.heap.size w wr) (hlt : k < t.kids.length)
    (HT5 : TmD w5 (fun q => wr.drew.heap.size ≤ q ∧ q < w5.heap.size) f t.kids[k].plain (.agg #[p0, p1, p2])) (HB5 : Below wr.drew.heap.size wr.drew w5)
    (HO6 : w6.ownsRow (w.heap.size + 3) 29 3 (.slice (some ⟨g6, 0, none⟩) (k + 1) cap6) (k + 1) (xs ++ [p0, p1, p2])) (HG6 : (w5.alloc o5).grownBy w6 (Value.slice ka k kc).ownBlock)
    (HA6 : (Value.slice ka k kc).ownBlock = some g6 ∨ g6 = w5.heap.size + 1) :
    (w6.setCell ⟨w.heap.size + 1 + 1, 2, none⟩ (.slice (some ⟨g6, 0, none⟩) (k + 1) cap6)).heap[w.heap.size + 2]? = some (.cells #[x0, x1, .slice (some ⟨g6, 0, none⟩) (k + 1) cap6] 29 (0, 0)) ∧
    (w6.setCell ⟨w.heap.size + 1 + 1, 2, none⟩ (.slice (some ⟨g6, 0, none⟩) (k + 1) cap6)).ownsRow (w.heap.size + 3) 29 3 (.slice (some ⟨g6, 0, none⟩) (k + 1) cap6) (k + 1) (xs ++ [p0, p1, p2]) ∧
    KidsAt (w6.setCell ⟨w.heap.size + 1 + 1, 2, none⟩ (.slice (some ⟨g6, 0, none⟩) (k + 1) cap6)) (fun q => w.heap.size + 3 ≤ q ∧ q < (w6.setCell ⟨w.heap.size + 1 + 1, 2, none⟩ (.slice (some ⟨g6, 0, none⟩) (k + 1) cap6)).heap.size ∧ some q ≠ (Value.slice (some ⟨g6, 0, none⟩) (k + 1) cap6).ownBlock) f ((t.kids.map Tr.plain).take (k + 1)) (xs ++ [p0, p1, p2]) ∧
    (w6.setCell ⟨w.heap.size + 1 + 1, 2, none⟩ (.slice (some ⟨g6, 0, none⟩) (k + 1) cap6)).heap[w.heap.size]? = some (.cells #[r0, r1, r2] 24 (0, 0)) ∧
    (∃ y0 y1 y2, (w6.setCell ⟨w.heap.size + 1 + 1, 2, none⟩ (.slice (some ⟨g6, 0, none⟩) (k + 1) cap6)).heap[w.heap.size + 1]? = some (.cells #[y0, y1, y2] 29 (0, 0))) ∧
    Below w.heap.size w (w6.setCell ⟨w.heap.size + 1 + 1, 2, none⟩ (.slice (some ⟨g6, 0, none⟩) (k + 1) cap6)) := by
  have hwt := size_of_block HBT
  have hs5 : wr.heap.size ≤ w5.heap.size := HB5.size
  have hs6 : w5.heap.size + 1 ≤ w6.heap.size := by have := HG6.size; simpa using this
  have hl := HO.lt
  have old : ∀ q, q < wr.heap.size → some q ≠ (Value.slice ka k kc).ownBlock → w6.heap[q]? = wr.heap[q]? := fun q hq hne =>
    (HG6.block q (by rw [World.size_alloc]; omega) hne).trans ((Below.heap_alloc w5 o5 q (by omega)).trans (HB5.block q hq))
  have low : ∀ q, q < w.heap.size + 3 → w6.heap[q]? = wr.heap[q]? := fun q hq => old q (by omega) (fun e => by have := hl q e.symm; omega)
  have hsz : (w6.setCell ⟨w.heap.size + 1 + 1, 2, none⟩ (.slice (some ⟨g6, 0, none⟩) (k + 1) cap6)).heap.size = w6.heap.size := by simp [World.setCell]
  have oth : ∀ q, q ≠ w.heap.size + 2 → (w6.setCell ⟨w.heap.size + 1 + 1, 2, none⟩ (.slice (some ⟨g6, 0, none⟩) (k + 1) cap6)).heap[q]? = w6.heap[q]? := fun q hq => heap_setCell_other _ _ _ _ (show q ≠ w.heap.size + 1 + 1 from hq)
  refine ⟨?_, ownsRow_setCell_below HO6 (by show w.heap.size + 1 + 1 < _; omega) _, ?_, ?_, ⟨z0, z1, z2, ?_⟩, ?_⟩
  · rw [show w.heap.size + 2 = w.heap.size + 1 + 1 from rfl, heap_setCell_same _ _ _ _ _ _ ((low _ (by omega)).trans HBT)]
    rfl
  · rw [List.take_succ_eq_append_getElem (by simpa using hlt), List.getElem_map]
    refine KidsAt.snoc (HK.keep (fun q hq => (oth q (by omega)).trans (old q hq.2.1 hq.2.2)) (fun q hq => ⟨hq.1, by rw [hsz]; omega, fun e => ?_⟩)) ?_
    · refine HT5.keep (fun q hq => ?_) (fun q hq => ?_) f _ _
      · have h1 : wr.heap.size ≤ q := hq.1
        rw [oth q (by omega), HG6.block q (by rw [World.size_alloc]; omega) (fun e => by have := hl q e.symm; omega), Below.heap_alloc w5 o5 q hq.2]
      · have h1 : wr.heap.size ≤ q := hq.1
        have h2 := hq.2
        refine ⟨by omega, by rw [hsz]; omega, fun e => ?_⟩
        simp only [Value.ownBlock, Option.some.injEq] at e
        rcases HA6 with h | h
        · have := hl g6 h; omega
        · omega
    · simp only [Value.ownBlock, Option.some.injEq] at e
      rcases HA6 with h | h
      · exact hq.2.2 (by rw [h, e])
      · have := hq.2.1; omega
  · rw [oth _ (by omega), low _ (by omega)]; exact HBR
  · rw [oth _ (by omega), low _ (by omega)]; exact HBZ
  · refine Below.trans HBL ⟨(HG6.os.trans HB5.os), (HG6.tape.trans HB5.tape), (HG6.output.trans HB5.output), by rw [hsz]; omega, fun q hq => ?_⟩
    rw [oth _ (by omega), low _ (by omega)]

attribute [local go_sem ↓] Go.wp_at_zero Go.wp_at_succ


set_option maxRecDepth 20000 in
set_option maxHeartbeats 1000000 in
theorem plain_any (B f : Nat) : ∀ (t : Tr) (v : Value) (w : World), TmAt w B f t v → B ≤ w.heap.size →
    Calls Tryd.prog 15 #[v] w fun e w' => ∃ p0 p1 pa pl pc, e = .returned (.agg #[.int .i64 p0, .int .i64 p1, .slice pa pl pc]) ∧ TmD w' (fun k => w.heap.size ≤ k ∧ k < w'.heap.size) f t.plain (.agg #[.int .i64 p0, .int .i64 p1, .slice pa pl pc]) ∧ Below w.heap.size w w' := by
  induction f with
  | zero => intro t v w h; exact h.elim
  | succ f ih =>
    rintro t v w ⟨a, cap, rfl, hop, hn, hrow⟩ hB
    have IH := hide ih; clear ih
    have HR := hide hrow
    have hlm : t.kids.length ≤ maxLen := Nat.le_trans hrow.1 hrow.2.1
    unfold maxLen at hlm
    clear hrow
    obtain ⟨i, hi, hz0, hz1, hz2⟩ := info_parts Tryd.info29
    go_enter Tryd.func15, Tryd.ntmps15
    go_wp2_with fail
    go_region_held3 (fun w' => w'.cell? ⟨w.heap.size, 0, none⟩ = some (.int .i64 t.op) ∧ w'.cell? ⟨w.heap.size, 1, none⟩ = some (.int .i64 t.n)) (go_keep) (first | (go_at_call 34; refine (within_256 t.op _).mono ?_; rintro e w' ⟨rfl, rfl⟩))
    all_goals
      go_wp2_with fail
      go_loopw [4] (fun i wr => ∃ (k : Nat) (kv : Value) (xs : List Value), k ≤ t.kids.length ∧ k ≤ 255 ∧ i = .int .i64 k ∧ wr.heap[w.heap.size + 2]? = some (.cells #[.int .i64 (wi t.op 256), .int .i64 t.n, kv] 29 (0, 0)) ∧ wr.ownsRow (w.heap.size + 3) 29 3 kv k xs ∧
          KidsAt wr (fun q => w.heap.size + 3 ≤ q ∧ q < wr.heap.size ∧ some q ≠ kv.ownBlock) f ((t.kids.map Tr.plain).take k) xs ∧ wr.heap[w.heap.size]? = some (.cells #[.int .i64 t.op, .int .i64 t.n, .slice a t.kids.length cap] 24 (0, 0)) ∧
          (∃ z0 z1 z2, wr.heap[w.heap.size + 1]? = some (.cells #[z0, z1, z2] 29 (0, 0))) ∧ Below w.heap.size w wr) (fun i _ => 256 - (intOf i).toNat)
      case atStart =>
        refine ⟨0, .slice none 0 0, [], by omega, by omega, rfl, ?_, World.ownsRow_nil _ _ _ _, KidsAt.nil _ _ _, ?_, ⟨.int .i64 0, .int .i64 0, .slice none 0 0, ?_⟩, (((Below.refl _ _).alloc (Nat.le_refl _) _).alloc (by simp) _).alloc (by simp; omega) _ |>.drew⟩
        · have := heap_alloc_new ((w.alloc (.cells #[.int .i64 t.op, .int .i64 t.n, .slice a t.kids.length cap] 24)).alloc (.cells #[.int .i64 0, .int .i64 0, .slice none 0 0] 29)) (.cells #[.int .i64 (wi t.op 256), .int .i64 t.n, .slice none 0 0] 29)
          rw [World.size_alloc, World.size_alloc] at this
          exact this
        · have h1 : (((w.alloc (.cells #[.int .i64 t.op, .int .i64 t.n, .slice a t.kids.length cap] 24)).alloc (.cells #[.int .i64 0, .int .i64 0, .slice none 0 0] 29)).alloc (.cells #[.int .i64 (wi t.op 256), .int .i64 t.n, .slice none 0 0] 29)).heap[w.heap.size]? = some (.cells #[.int .i64 t.op, .int .i64 t.n, .slice a t.kids.length cap] 24 (0, 0)) := by
            rw [Below.heap_alloc _ _ _ (by simp; omega), Below.heap_alloc _ _ _ (by simp)]
            exact heap_alloc_new w _
          exact h1
        · have h1 : (((w.alloc (.cells #[.int .i64 t.op, .int .i64 t.n, .slice a t.kids.length cap] 24)).alloc (.cells #[.int .i64 0, .int .i64 0, .slice none 0 0] 29)).alloc (.cells #[.int .i64 (wi t.op 256), .int .i64 t.n, .slice none 0 0] 29)).heap[w.heap.size + 1]? = some (.cells #[.int .i64 0, .int .i64 0, .slice none 0 0] 29 (0, 0)) := by
            rw [Below.heap_alloc _ _ _ (by simp)]
            have := heap_alloc_new (w.alloc (.cells #[.int .i64 t.op, .int .i64 t.n, .slice a t.kids.length cap] 24)) (.cells #[.int .i64 0, .int .i64 0, .slice none 0 0] 29)
            simpa using this
          exact h1
      case round =>
        obtain ⟨k, kv, xs, hk1, hk2, rfl, hbt, hown, hkids, hbr, ⟨z0, z1, z2, hbz⟩, hbl⟩ := hrel
        obtain ⟨ka, kc, rfl, hkc1, hkc2⟩ := owns_form hown
        have c0 : wr.cell? ⟨w.heap.size + 1 + 1, 0, none⟩ = some (.int .i64 (wi t.op 256)) := by rw [show w.heap.size + 1 + 1 = w.heap.size + 2 from rfl, cell_of_block hbt]; rfl
        have c1 : wr.cell? ⟨w.heap.size + 1 + 1, 1, none⟩ = some (.int .i64 t.n) := by rw [show w.heap.size + 1 + 1 = w.heap.size + 2 from rfl, cell_of_block hbt]; rfl
        have c2 : wr.cell? ⟨w.heap.size + 1 + 1, 2, none⟩ = some (.slice ka k kc) := by rw [show w.heap.size + 1 + 1 = w.heap.size + 2 from rfl, cell_of_block hbt]; rfl
        have fz : wr.frozen? ⟨w.heap.size + 1 + 1, 2, none⟩ = false := frozen_of_block hbt 2
        have r2 : wr.cell? ⟨w.heap.size, 2, none⟩ = some (.slice a t.kids.length cap) := by rw [cell_of_block hbr]; rfl
        have HBT := hide hbt; have HO := hide hown; have HK := hide hkids; have HBR := hide hbr; have HBZ := hide hbz; have HBL := hide hbl
        clear hbt hown hkids hbr hbz hbl
        unfold maxLen at hkc2
        by_cases hlt : k < t.kids.length
        · by_cases hk3 : k < 255
          · obtain ⟨b, off, rfl, hbB, hx⟩ := HR.out.2.2 (by intro h; simp [h] at hlt)
            obtain ⟨x0, x1, x2, e0, e1, e2, hr⟩ := hx k hlt
            have hbw : b < w.heap.size := Nat.lt_of_lt_of_le hbB hB
            have f0 : wr.cell? ⟨b, off + k * 3, none⟩ = some x0 := by rw [HBL.out.cell (by simpa using hbw)]; exact e0
            have f1 : wr.cell? ⟨b, off + k * 3 + 1, none⟩ = some x1 := by rw [HBL.out.cell (by simpa using hbw)]; exact e1
            have f2 : wr.cell? ⟨b, off + k * 3 + 2, none⟩ = some x2 := by rw [HBL.out.cell (by simpa using hbw)]; exact e2
            have hws := HBL.out.size
            have hwt := size_of_block HBT.out
            have HTk : Hid (TmAt wr B f t.kids[k] (.agg #[x0, x1, x2])) := TmAt.below hr HBL.out hB (Nat.le_refl _)
            clear hx e0 e1 e2 hr
            go_wp2_with fail
            have i1 : (0 : Int) ≤ (k : Int) := by omega
            have i2 : (k : Int) < (t.kids.length : Int) := by omega
            go_region_law (first | (refine step_append_lies _ (by rfl) (.tmp 23) (.tmp 30) 27 (by rfl) (w.heap.size + 3) 29 i (.agg #[.int .i64 0, .int .i64 0, .slice none 0 0]) 3 40 Tryd.underlying27 hi hz0 hz1 hz2 rfl (by decide) (.slice ka k kc) k xs (by rfl) (HO5.out.alloc _) ⟨w5.heap.size, 0, none⟩ 1 1 [.int .i64 p0, .int .i64 p1, .slice pa pl pc] (by rfl) (by rfl) (World.news_of_block (heap_alloc_new w5 _)) (fun u hu => by simp at hu; rcases hu with rfl | rfl | rfl <;> rfl) (by omega) (by unfold maxLen; omega) (by omega) (by rw [World.size_alloc]; omega) (w5.heap.size + 1) (by simp) ?_; intro g6 cap6 w6 hown6 hgrow6 hat6 hlt6; have hn6 : Hid (w6.heap[w.heap.size + 2]? = w5.heap[w.heap.size + 2]?) := (hgrow6.block (w.heap.size + 2) (by rw [World.size_alloc]; omega) (fun e => by have := HO.out.lt _ e.symm; omega)).trans (Below.heap_alloc w5 _ _ (by omega)); have hb6 : Hid (w6.heap[w.heap.size + 2]? = some (.cells #[.int .i64 (wi t.op 256), .int .i64 t.n, .slice ka k kc] 29 (0, 0))) := (hn6.out.trans (HB5.out.block (w.heap.size + 2) hwt)).trans HBT.out; have d6 : w6.cell? ⟨w.heap.size + 1 + 1, 2, none⟩ = some (.slice ka k kc) := (cell_of_block hb6.out 2).trans rfl; have z6 : w6.frozen? ⟨w.heap.size + 1 + 1, 2, none⟩ = false := frozen_of_block hb6.out 2; have HO6 := hide hown6; have HG6 := hide hgrow6; have HA6 := hide hat6; have HL6 := hide hlt6; clear hown6 hgrow6 hat6 hlt6) | (refine step_call1 (by rfl) 15 (.tmp 28) #[24] (by rfl) cf11 (.agg #[x0, x1, x2]) (by rfl) _ (IH.out t.kids[k] _ _ (by exact TmD.drew HTk.out) (by show B ≤ wr.heap.size; omega)) ?_; rintro e w5 ⟨p0, p1, pa, pl, pc, rfl, htm5, hb5⟩; refine ⟨_, rfl, ?_⟩; have HO5 : Hid (w5.ownsRow (w.heap.size + 3) 29 3 (.slice ka k kc) k xs) := owns_keep HO.out (fun q _ hq2 => hb5.block q hq2); have HT5 := hide htm5; have HB5 := hide hb5; have d5 := (World.cell?_of_block (a := ⟨w.heap.size + 1 + 1, 2, none⟩) (HB5.out.block (w.heap.size + 2) hwt)).trans c2; have hs5 : wr.heap.size ≤ w5.heap.size := HB5.out.size; have e5 : ∀ o, (w5.alloc o).cell? ⟨w.heap.size + 1 + 1, 2, none⟩ = some (.slice ka k kc) := fun o => (World.cell?_of_block (a := ⟨w.heap.size + 1 + 1, 2, none⟩) (Below.heap_alloc w5 o (w.heap.size + 2) (by omega))).trans d5; clear htm5 hb5))
            all_goals
              obtain ⟨s1, s2, s3, s4, s5, s6⟩ := plain_step HBT.out HO.out HK.out HBR.out HBZ.out HBL.out hlt HT5.out HB5.out HO6.out HG6.out HA6.out
              have HS := hide s1; have HS2 := hide s2; have HS3 := hide s3; have HS4 := hide s4; have HS5 := hide s5; have HS6 := hide s6
              clear s1 s2 s3 s4 s5 s6
              go_wp2_with fail
              go_roundw
              case rel => exact ⟨k + 1, _, _, by omega, by omega, by go_num, HS.out, HS2.out, HS3.out, HS4.out, HS5.out, HS6.out⟩
              case measure => simp [intOf]; omega
          · have y0 : wr.cell? ⟨w.heap.size + 1, 0, none⟩ = some z0 := by rw [cell_of_block HBZ.out]; rfl
            have y1 : wr.cell? ⟨w.heap.size + 1, 1, none⟩ = some z1 := by rw [cell_of_block HBZ.out]; rfl
            have y2 : wr.cell? ⟨w.heap.size + 1, 2, none⟩ = some z2 := by rw [cell_of_block HBZ.out]; rfl
            have u0 : wr.frozen? ⟨w.heap.size + 1, 0, none⟩ = false := frozen_of_block HBZ.out 0
            have u1 : wr.frozen? ⟨w.heap.size + 1, 1, none⟩ = false := frozen_of_block HBZ.out 1
            have u2 : wr.frozen? ⟨w.heap.size + 1, 2, none⟩ = false := frozen_of_block HBZ.out 2
            go_wp2_with fail
            refine bodyPost_ret (v := .agg #[.int .i64 (wi t.op 256), .int .i64 t.n, .slice ka k kc]) (by simp [results, Tryd.results15, go_sem, y0, y1, y2]) rfl ⟨_, _, _, _, _, rfl, plain_fin HO.out HK.out hk1 hk2 (by omega) hn ?_ ?_, ?_⟩
            · intro q hq
              rw [heap_setCell_other _ _ _ _ (show q ≠ w.heap.size + 1 from hq), heap_setCell_other _ _ _ _ (show q ≠ w.heap.size + 1 from hq), heap_setCell_other _ _ _ _ (show q ≠ w.heap.size + 1 from hq)]
            · simp [World.setCell]
            · exact ((HBL.out.setCell (by simp) _).setCell (by simp) _).setCell (by simp) _
        · have y0 : wr.cell? ⟨w.heap.size + 1, 0, none⟩ = some z0 := by rw [cell_of_block HBZ.out]; rfl
          have y1 : wr.cell? ⟨w.heap.size + 1, 1, none⟩ = some z1 := by rw [cell_of_block HBZ.out]; rfl
          have y2 : wr.cell? ⟨w.heap.size + 1, 2, none⟩ = some z2 := by rw [cell_of_block HBZ.out]; rfl
          have u0 : wr.frozen? ⟨w.heap.size + 1, 0, none⟩ = false := frozen_of_block HBZ.out 0
          have u1 : wr.frozen? ⟨w.heap.size + 1, 1, none⟩ = false := frozen_of_block HBZ.out 1
          have u2 : wr.frozen? ⟨w.heap.size + 1, 2, none⟩ = false := frozen_of_block HBZ.out 2
          go_wp2_with fail
          refine bodyPost_ret (v := .agg #[.int .i64 (wi t.op 256), .int .i64 t.n, .slice ka k kc]) (by simp [results, Tryd.results15, go_sem, y0, y1, y2]) rfl ⟨_, _, _, _, _, rfl, plain_fin HO.out HK.out hk1 hk2 (by omega) hn ?_ ?_, ?_⟩
          · intro q hq
            rw [heap_setCell_other _ _ _ _ (show q ≠ w.heap.size + 1 from hq), heap_setCell_other _ _ _ _ (show q ≠ w.heap.size + 1 from hq), heap_setCell_other _ _ _ _ (show q ≠ w.heap.size + 1 from hq)]
          · simp [World.setCell]
          · exact ((HBL.out.setCell (by simp) _).setCell (by simp) _).setCell (by simp) _
#print axioms plain_any
end Go.Proofs.YtpmaagafcpaajaaDoor
