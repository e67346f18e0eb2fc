/- Free variables: freeAt, the questions, count. -/
import Derived.Test.YtjiecahopdaghaaDoorMe
import Derived.Deep.DeepCutAuto
import Derived.Deep.CutBlock
import Derived.Deep.RegionHeld3
namespace Go.Proofs.YtjiecahopdaghaaDoor
open Go.RowKit

theorem Tb.drew {w : World} (h : Tb w) : Tb w.drew := ⟨h.size, h.bnd⟩

theorem held_box {w w5 : World} {x0 x1 x2 y : Value} {q : Nat} (hb : Below (w.alloc (.cells #[x0, x1, x2] 31)).drew.heap.size (w.alloc (.cells #[x0, x1, x2] 31)).drew w5) (hy : (w.alloc (.cells #[x0, x1, x2] 31)).cell? ⟨q, 0, none⟩ = some y) (hq : q < w.heap.size) :
    w5.cell? ⟨w.heap.size, 0, none⟩ = some x0 ∧ w5.cell? ⟨w.heap.size, 1, none⟩ = some x1 ∧ w5.cell? ⟨w.heap.size, 2, none⟩ = some x2 ∧ w5.cell? ⟨q, 0, none⟩ = some y := by
  have hc : ∀ p : Addr, p.block < w.heap.size + 1 → w5.cell? p = (w.alloc (.cells #[x0, x1, x2] 31)).cell? p := fun p hp => hb.cell (p := p) (by rw [size_drew, World.size_alloc]; exact hp)
  refine ⟨?_, ?_, ?_, ?_⟩
  · rw [hc _ (by simp)]; simp
  · rw [hc _ (by simp)]; simp
  · rw [hc _ (by simp)]; simp
  · rw [hc _ (by show q < _; omega)]; exact hy
theorem drew_below' {w w' : World} {B : Nat} (h : Below w.drew.heap.size w.drew w') (hB : B ≤ w.drew.heap.size) : Below B w w' := ⟨h.os, h.tape, h.output, h.size, fun k hk => h.block k (by omega)⟩

set_option maxRecDepth 20000 in
set_option maxHeartbeats 1000000 in
theorem freeat_any (o n u : Int) (a : Option Addr) (l c : Nat) (w : World) (hn : I64 n) (hu : 0 ≤ u ∧ u ≤ 1000000000) (hv : o = 1 → 0 ≤ n) :
    Calls Tryd.prog 101 #[.agg #[.int .i64 o, .int .i64 n, .slice a l c], .int .i64 u] w fun e w' => e = .returned (.tuple #[.agg #[.int .i64 (if o = 1 ∧ u ≤ n then n - u else 0), .int .i64 (if o = 1 ∧ u ≤ n then u else 0)], .bool (decide (o = 1 ∧ u ≤ n))]) ∧ Below w.heap.size w w' := by
  obtain ⟨hn1, hn2⟩ := hn
  by_cases h1 : o = 1
  · subst h1
    have hv := hv rfl
    by_cases h2 : u ≤ n
    · have q2 : decide (n < u) = false := decide_eq_false (by omega)
      rw [if_pos ⟨rfl, h2⟩, if_pos ⟨rfl, h2⟩, decide_eq_true (show (1 : Int) = 1 ∧ u ≤ n from ⟨rfl, h2⟩)]
      go_enter Tryd.func101, Tryd.ntmps101
      go_wp2_with fail
      refine bodyPost_ret (v := .tuple #[.agg #[.int .i64 (n - u), .int .i64 u], .bool true]) (by simp [results, Tryd.results101, go_sem]) rfl ⟨rfl, ((Below.refl _ _).alloc (Nat.le_refl _) _).alloc (by simp) _⟩
    · have q2 : decide (n < u) = true := decide_eq_true (by omega)
      rw [if_neg (fun h => h2 h.2), if_neg (fun h => h2 h.2), decide_eq_false (show ¬ ((1 : Int) = 1 ∧ u ≤ n) from fun h => h2 h.2)]
      go_enter Tryd.func101, Tryd.ntmps101
      go_wp2_with fail
      refine bodyPost_ret (v := .tuple #[.agg #[.int .i64 0, .int .i64 0], .bool false]) (by simp [results, Tryd.results101, go_sem]) rfl ⟨rfl, ((Below.refl _ _).alloc (Nat.le_refl _) _).alloc (by simp) _⟩
  · have q1 : (o != 1) = true := bne_iff_ne.2 h1
    rw [if_neg (fun h => h1 h.1), if_neg (fun h => h1 h.1), decide_eq_false (show ¬ (o = 1 ∧ u ≤ n) from fun h => h1 h.1)]
    go_enter Tryd.func101, Tryd.ntmps101
    go_wp2_with fail
    refine bodyPost_ret (v := .tuple #[.agg #[.int .i64 0, .int .i64 0], .bool false]) (by simp [results, Tryd.results101, go_sem]) rfl ⟨rfl, ((Below.refl _ _).alloc (Nat.le_refl _) _).alloc (by simp) _⟩

theorem freeat_yes (n u : Int) (a : Option Addr) (l c : Nat) (w : World) (hn : I64 n) (hu : 0 ≤ u ∧ u ≤ 1000000000) (h1 : u ≤ n) :
    Calls Tryd.prog 101 #[.agg #[.int .i64 1, .int .i64 n, .slice a l c], .int .i64 u] w fun e w' => e = .returned (.tuple #[.agg #[.int .i64 (n - u), .int .i64 u], .bool true]) ∧ Below w.heap.size w w' := by
  have h := freeat_any 1 n u a l c w hn hu (fun _ => by omega)
  rw [if_pos ⟨rfl, h1⟩, if_pos ⟨rfl, h1⟩, decide_eq_true (show (1 : Int) = 1 ∧ u ≤ n from ⟨rfl, h1⟩)] at h
  exact h
theorem freeat_no (o n u : Int) (a : Option Addr) (l c : Nat) (w : World) (hn : I64 n) (hu : 0 ≤ u ∧ u ≤ 1000000000) (hv : o = 1 → 0 ≤ n) (hq : ¬ (o = 1 ∧ u ≤ n)) :
    Calls Tryd.prog 101 #[.agg #[.int .i64 o, .int .i64 n, .slice a l c], .int .i64 u] w fun e w' => e = .returned (.tuple #[.agg #[.int .i64 0, .int .i64 0], .bool false]) ∧ Below w.heap.size w w' := by
  have h := freeat_any o n u a l c w hn hu hv
  rw [if_neg hq, if_neg hq, decide_eq_false hq] at h
  exact h

set_option maxRecDepth 20000 in
theorem is_any (x u n : Int) (w : World) : Calls Tryd.prog 93 #[.agg #[.int .i64 x, .int .i64 u], .int .i64 n] w fun e w' => e = .returned (.bool (decide (x = n))) ∧ Below w.heap.size w w' := by
  go_enter Tryd.func93, Tryd.ntmps93
  go_wp2_with fail
  go_ret
  exact ⟨ret_bool rfl, later_alloc w _⟩
set_option maxRecDepth 20000 in
theorem node_any (x u : Int) (w : World) (hx : 0 ≤ x ∧ x ≤ 10000000000) (hu : 0 ≤ u ∧ u ≤ 1000000000) : Calls Tryd.prog 104 #[.agg #[.int .i64 x, .int .i64 u]] w fun e w' => e = .returned (.agg #[.int .i64 1, .int .i64 (x + u), .slice none 0 0]) ∧ Below w.heap.size w w' := by
  go_enter Tryd.func104, Tryd.ntmps104
  go_wp2_with fail
  refine bodyPost_ret (v := .agg #[.int .i64 1, .int .i64 (x + u), .slice none 0 0]) (by simp [results, Tryd.results104, go_sem]) rfl ⟨rfl, ?_⟩
  exact ((Below.refl _ _).alloc (Nat.le_refl _) _).alloc (by simp) _

/-- What count has come to behind k kids. -/
def cntTo' (p : Int → Bool) (u : Int) (t : Tr) (k : Nat) : Nat := (if t.op = 1 ∧ u ≤ t.n ∧ p (t.n - u) = true then 1 else 0) + ((t.kids.mapIdx (fun j x => cnt p (u + (bnd t.op ((j : Nat) : Int) : Nat)) x)).take k).sum
theorem cntTo'_end (p : Int → Bool) (u : Int) (t : Tr) : cntTo' p u t t.kids.length = cnt p u t := by
  rw [cnt_eq, cntTo', List.take_of_length_le (by simp)]
theorem cntTo'_succ (p : Int → Bool) (u : Int) (t : Tr) (k : Nat) (hk : k < t.kids.length) : cntTo' p u t (k + 1) = cntTo' p u t k + cnt p (u + (bnd t.op ((k : Nat) : Int) : Nat)) t.kids[k] := by
  unfold cntTo'
  rw [List.take_succ_eq_append_getElem (by simpa using hk), List.sum_append, List.getElem_mapIdx]
  simp
  omega
theorem cntTo'_le (p : Int → Bool) (u : Int) (t : Tr) (k : Nat) : cntTo' p u t k ≤ cnt p u t := by
  rw [cnt_eq, cntTo']
  have := sum_take_le (t.kids.mapIdx (fun j x => cnt p (u + (bnd t.op ((j : Nat) : Int) : Nat)) x)) k
  omega
theorem cnt_size (p : Int → Bool) (t : Tr) : ∀ u, cnt p u t ≤ t.size := by
  induction t using Tr.ind with
  | h t ih =>
    intro u
    have key : ∀ k, k ≤ t.kids.length → cntTo' p u t k ≤ 1 + ((t.kids.take k).map Tr.size).sum := by
      intro k
      induction k with
      | zero => intro _; simp [cntTo']; split <;> omega
      | succ k ihk =>
        intro hk
        have h1 := ihk (by omega)
        have h2 := ih t.kids[k] (List.getElem_mem _) (u + (bnd t.op ((k : Nat) : Int) : Nat))
        rw [cntTo'_succ p u t k (by omega), List.take_succ_eq_append_getElem (by omega)]
        simp only [List.map_append, List.sum_append, List.map_cons, List.map_nil, List.sum_cons, List.sum_nil]
        omega
    have := key t.kids.length (Nat.le_refl _)
    rw [cntTo'_end, List.take_length] at this
    rw [Tr.size_eq]
    exact this

set_option maxRecDepth 20000 in
set_option maxHeartbeats 1000000 in
theorem count43_var (n : Int) (a : Option Addr) (cap : Nat) (m u : Int) (w : World) (hm : I64 m) (h0 : 0 ≤ u) (h1 : u ≤ m) (hu : u ≤ 1000000000) (r : Int) (hr : Hid (r = if (m - u) = n then 1 else 0)) :
    Calls Tryd.prog 92 #[.agg #[.int .i64 1, .int .i64 m, .slice a 0 cap], .int .i64 u, .func (.func 93) #[] #[], .int .i64 n] w fun e w' => e = .returned (.int .i64 r) ∧ Below w.heap.size w w' := by
  have HM := hide hm
  clear hm
  have H1 := hide h1
  clear h1
  go_enter Tryd.func92, Tryd.ntmps92
  go_wp2_with fail
  refine (freeat_yes m u _ _ _ _ HM.out ⟨h0, hu⟩ H1.out).mono ?_
  rintro e w1 ⟨rfl, hb1⟩
  rw [World.size_alloc] at hb1
  obtain ⟨c0, c1, c2⟩ := box3 hb1
  have HB1 : Hid (Below w.heap.size w w1) := below_box hb1
  have hs1 : w.heap.size + 1 ≤ w1.heap.size := by have := hb1.size; rw [World.size_alloc] at this; exact this
  clear hb1
  go_wp2_with fail
  refine (is_any (m - u) u n _).mono ?_
  rintro e w2 ⟨rfl, hb2⟩
  have e2 : w2.cell? ⟨w.heap.size, 2, none⟩ = some (.slice a 0 cap) := by
    rw [hb2.cell (p := ⟨w.heap.size, 2, none⟩) (by show w.heap.size < _; rw [World.size_alloc]; omega), World.cell?_of_block (w := w1) (Below.heap_alloc w1 _ w.heap.size (by omega))]
    exact c2
  have HB2 : Hid (Below w.heap.size w w2) := HB1.out.trans (((Below.refl _ _).alloc (by omega) _).trans (hb2.mono (by rw [World.size_alloc]; omega)))
  clear hb2 c0 c1 c2
  by_cases hp : m - u = n
  · rw [decide_eq_true hp]
    obtain rfl : r = 1 := by have := hr.out; rwa [if_pos hp] at this
    clear hp hr
    go_wp2_with fail
    go_loopw [9, 12, 32] (fun s _ i wr => s = .int .i64 1 ∧ i = .int .i64 0 ∧ wr = w2) (fun _ _ _ _ => 0)
    case atStart => exact ⟨rfl, rfl, rfl⟩
    case round =>
      obtain ⟨rfl, rfl, rfl⟩ := hrel
      go_wp2_with fail
      go_ret
      exact ⟨rfl, HB2.out⟩
  · rw [decide_eq_false hp]
    obtain rfl : r = 0 := by have := hr.out; rwa [if_neg hp] at this
    clear hp hr
    go_wp2_with fail
    go_loopw [9, 12, 32] (fun s _ i wr => s = .int .i64 0 ∧ i = .int .i64 0 ∧ wr = w2) (fun _ _ _ _ => 0)
    case atStart => exact ⟨rfl, rfl, rfl⟩
    case round =>
      obtain ⟨rfl, rfl, rfl⟩ := hrel
      go_wp2_with fail
      go_ret
      exact ⟨rfl, HB2.out⟩

set_option maxRecDepth 20000 in
set_option maxHeartbeats 1000000 in
theorem count43_any (B f : Nat) (n : Int) : ∀ (t : Tr) (v : Value) (u : Int) (w : World), TmAt w B f t v → B ≤ w.heap.size → Tb w → 4 ≤ B → t.size ≤ 8388608 → 0 ≤ u → u + 2 * f ≤ 1000000 → Snd 1000000000 t →
    Calls Tryd.prog 92 #[v, .int .i64 u, .func (.func 93) #[] #[], .int .i64 n] w fun e w' => e = .returned (.int .i64 (cnt (fun x => decide (x = n)) u t : Nat)) ∧ Below w.heap.size w w' := by
  induction f with
  | zero => intro t v u w h; exact h.elim
  | succ f ih =>
    rintro t v u w ⟨a, cap, rfl, hop, hn, hrow⟩ hB ht hB4 hsz hu0 hu1 hsd
    by_cases hq : t.op = 1 ∧ u ≤ t.n
    · have hk := (hsd.top hq.1).1
      have h := count43_var n a cap t.n u w hn hu0 hq.2 (by omega) _ (hide rfl)
      rw [cnt_eq, hk, hq.1]
      simp only [List.mapIdx_nil, List.sum_nil, List.length_nil, true_and, decide_eq_true_eq]
      refine h.mono ?_
      rintro e w' ⟨rfl, hb⟩
      refine ⟨?_, hb⟩
      by_cases hp : t.n - u = n
      · rw [if_pos hp, if_pos ⟨hq.2, hp⟩]; rfl
      · rw [if_neg hp, if_neg (fun h => hp h.2)]; rfl
    · have IH := hide ih; clear ih
      have HR := hide hrow
      have hlm : t.kids.length ≤ maxLen := Nat.le_trans hrow.1 hrow.2.1
      clear hrow
      unfold maxLen at hlm
      have HSZ := hide hsz; have HU1 := hide hu1; have HSD := hide hsd; have HT := hide ht; have HQ := hide hq
      have huu : u ≤ 1000000 := by omega
      clear hsz hu1 hsd ht hq
      have HV1 : Hid (t.op = 1 → 0 ≤ t.n) := fun h => (HSD.out.top h).2.1
      have HZ : Hid (cntTo' (fun x => decide (x = n)) u t 0 = 0) := hide (by unfold cntTo'; rw [if_neg (fun h => HQ.out ⟨h.1, h.2.1⟩)]; rfl)
      go_enter Tryd.func92, Tryd.ntmps92
      go_wp2_with fail
      refine (freeat_no t.op t.n u _ _ _ _ hn ⟨hu0, by omega⟩ HV1.out HQ.out).mono ?_
      rintro e w1 ⟨rfl, hb1⟩
      rw [World.size_alloc] at hb1
      obtain ⟨c0, c1, c2⟩ := box3 hb1
      have HB1 : Hid (Below w.heap.size w w1) := below_box hb1
      have hs1 : w.heap.size + 1 ≤ w1.heap.size := by have := hb1.size; rw [World.size_alloc] at this; exact this
      clear hb1
      have d2 : ∀ o, (w1.alloc o).cell? ⟨w.heap.size, 2, none⟩ = some (.slice a t.kids.length cap) := fun o => (World.cell?_of_block (w := w1) (Below.heap_alloc w1 o w.heap.size (by omega))).trans c2
      go_wp2_with fail
      have HB2 : Hid (Below w.heap.size w (w1.alloc (.cells #[.int .i64 0, .int .i64 0] 130))) := HB1.out.alloc (by omega) _
      have d0 : (w1.alloc (.cells #[.int .i64 0, .int .i64 0] 130)).cell? ⟨w.heap.size, 0, none⟩ = some (.int .i64 t.op) := (World.cell?_of_block (w := w1) (Below.heap_alloc w1 _ w.heap.size (by omega))).trans c0
      have hs2 : w.heap.size < (w1.alloc (.cells #[.int .i64 0, .int .i64 0] 130)).heap.size := by rw [World.size_alloc]; omega
      clear c0 c1 c2 d2
      generalize (w1.alloc (.cells #[.int .i64 0, .int .i64 0] 130)) = w2 at *
      clear HB1 hs1
      go_loopw [9, 12, 32] (fun s _ i wr => ∃ k : Nat, k ≤ t.kids.length ∧ i = .int .i64 k ∧ s = .int .i64 (cntTo' (fun x => decide (x = n)) u t k : Nat) ∧ wr.cell? ⟨w.heap.size, 0, none⟩ = some (.int .i64 t.op) ∧ w.heap.size < wr.heap.size ∧ Hid (Below w.heap.size w wr)) (fun _ _ i _ => t.kids.length - (intOf i).toNat)
      case atStart => exact ⟨0, Nat.zero_le _, rfl, by rw [HZ.out]; rfl, d0, hs2, HB2⟩
      case round =>
        obtain ⟨k, hk, rfl, rfl, d0', hsr, HBX⟩ := hrel
        clear HZ HB2 d0 hs2
        by_cases hlt : k < t.kids.length
        · obtain ⟨b, off, ka, kc, rfl, hbB, f0, f1, f2, hr⟩ := HR.out.form hlt
          have e0 := (HBX.out.cell (p := ⟨b, off + k * 3, none⟩) (show b < w.heap.size by omega)).trans f0
          have e1 := (HBX.out.cell (p := ⟨b, off + k * 3 + 1, none⟩) (show b < w.heap.size by omega)).trans f1
          have e2 := (HBX.out.cell (p := ⟨b, off + k * 3 + 2, none⟩) (show b < w.heap.size by omega)).trans f2
          have HS := hide (cntTo'_succ (fun x => decide (x = n)) u t k hlt)
          have HL := hide (cntTo'_le (fun x => decide (x = n)) u t (k + 1))
          have HCS := hide (cnt_size (fun x => decide (x = n)) t u)
          have HMEM := hide (List.getElem_mem hlt)
          have hkz := Tr.kid_size (List.getElem_mem hlt)
          have HKZ : Hid (t.kids[k].size ≤ 8388608) := hide (by have := HSZ.out; omega)
          have HBD := hide (bnd_le t.op (k : Nat))
          clear f0 f1 f2 hkz
          obtain ⟨p, hp⟩ : ∃ p, p = t.kids[k] := ⟨_, rfl⟩
          rw [← hp] at e0 e1 e2 hr HS HKZ HMEM
          clear hp
          obtain ⟨c, hc⟩ : ∃ c : Nat, c = cntTo' (fun x => decide (x = n)) u t k := ⟨_, rfl⟩
          rw [← hc] at HS ⊢
          clear hc
          have hcb : (c : Int) ≤ 8388608 := by have h1 := HS.out; have h2 := HL.out; have h3 := HCS.out; have h4 := HSZ.out; omega
          have HRK := hide hr
          clear hr
          have HW3 : Hid (Below w.heap.size w (wr.alloc (.cells #[.int .i64 p.op, .int .i64 p.n, .slice ka p.kids.length kc] 31))) := HBX.out.alloc (by omega) _
          have hsr1 : wr.heap.size < wr.heap.size + 1 := Nat.lt_succ_self _
          have d3 : ∀ o, (wr.alloc o).cell? ⟨w.heap.size, 0, none⟩ = some (.int .i64 t.op) := fun o => (World.cell?_of_block (w := wr) (Below.heap_alloc wr o w.heap.size (by omega))).trans d0'
          have HT3 : Hid (Tb (wr.alloc (.cells #[.int .i64 p.op, .int .i64 p.n, .slice ka p.kids.length kc] 31))) := HT.out.later HW3.out
          obtain ⟨bn, hbn⟩ : ∃ bn : Int, bn = (bnd t.op (k : Nat) : Nat) := ⟨_, rfl⟩
          have hbn0 : 0 ≤ bn := by omega
          have hbn2 : bn ≤ 2 := by have := HBD.out; omega
          have hwu : IntKind.i64.wrap (u + bn) = u + bn := by rw [IntKind.wrap_i64]; omega
          have HBI : Hid (∀ w', Tb w' → Calls Tryd.prog 99 #[.int .i64 t.op, .int .i64 (k : Nat)] w' fun e w'' => e = .returned (.int .i64 bn) ∧ w'' = w') := hide (fun w' h' => by rw [hbn]; exact tbinders_any t.op (k : Nat) w' h')
          rw [← hbn] at HS
          clear hbn HBD
          obtain ⟨c2, hc2⟩ : ∃ c2 : Nat, c2 = cnt (fun x => decide (x = n)) (u + bn) p := ⟨_, rfl⟩
          have hw2 : IntKind.i64.wrap ((c : Int) + (c2 : Int)) = (c : Int) + (c2 : Int) := by have h1 := HS.out; have h2 := HL.out; have h3 := HCS.out; have h4 := HSZ.out; rw [IntKind.wrap_i64]; omega
          have HW2 := hide hw2
          clear hw2
          have HC : Hid (Calls Tryd.prog 92 #[.agg #[.int .i64 p.op, .int .i64 p.n, .slice ka p.kids.length kc], .int .i64 (u + bn), .func (.func 93) #[] #[], .int .i64 n] (wr.alloc (.cells #[.int .i64 p.op, .int .i64 p.n, .slice ka p.kids.length kc] 31)).drew fun e w' => e = .returned (.int .i64 (c2 : Nat)) ∧ Below (wr.alloc (.cells #[.int .i64 p.op, .int .i64 p.n, .slice ka p.kids.length kc] 31)).drew.heap.size (wr.alloc (.cells #[.int .i64 p.op, .int .i64 p.n, .slice ka p.kids.length kc] 31)).drew w') := hide (by
            rw [hc2]
            exact IH.out p _ (u + bn) _ (TmD.drew (TmAt.below HRK.out HW3.out hB (Nat.le_refl _))) (by rw [size_drew, World.size_alloc]; omega) HT3.out.drew hB4 HKZ.out (by omega) (by have := HU1.out; omega) (HSD.out.kid HMEM.out))
          go_wp2_with fail
          go_region_held3 (fun w' => w'.cell? ⟨wr.heap.size, 0, none⟩ = some (.int .i64 p.op) ∧ w'.cell? ⟨wr.heap.size, 1, none⟩ = some (.int .i64 p.n) ∧ w'.cell? ⟨wr.heap.size, 2, none⟩ = some (.slice ka p.kids.length kc) ∧ w'.cell? ⟨w.heap.size, 0, none⟩ = some (.int .i64 t.op))
            (first | go_keep | exact HS5.out)
            (first
             | (go_at_call 99; refine (HBI.out _ HT3.out.drew).mono ?_; rintro e w4 ⟨rfl, rfl⟩)
             | (go_at_call 92; refine HC.out.mono ?_; rintro e w5 ⟨rfl, hb5⟩; have HS5 := hide (held_box hb5 (d3 _) hsr); have HB5 : Hid (Below w.heap.size w w5) := HW3.out.trans (drew_below' hb5 (by rw [size_drew, World.size_alloc]; omega)); have hs5 : w.heap.size < w5.heap.size := (by have := hb5.size; rw [size_drew, World.size_alloc] at this; omega); clear hb5))
          all_goals
            go_wp2_with fail
            go_roundw
            case rel => exact ⟨k + 1, by omega, by go_num, by rw [HS.out, ← hc2, Int.natCast_add, HW2.out], HS5.out.2.2.2, hs5, HB5.out⟩
            case measure => simp [intOf]; omega
        · go_wp2_with fail
          go_ret
          exact ⟨by rw [← cntTo'_end, show t.kids.length = k by omega]; rfl, HBX.out⟩

#print axioms count43_any
end Go.Proofs.YtjiecahopdaghaaDoor
