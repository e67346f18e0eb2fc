/- The machine's small functions that make parts: variable, at, suspend; is. -/
import Derived.Test.YtjiecahopdaghabDoorNc
namespace Go.Proofs.YtjiecahopdaghabDoor
open Go.RowKit

theorem mk_func (fn : Fn) (first cap : Array Value) (w : World) : (Instr.makeFunc fn first cap).run Tryd.prog w = .ok (.func fn first cap) w := rfl

theorem prow_nil {X : Nat → Prop} {w : World} {mb n : Nat} {A : Nat → Nat} {a : Option Addr} {cap : Nat} (h : cap ≤ 100000000) : PRow w X mb A n a [] cap := ⟨Nat.zero_le _, h, fun i hi => by simp at hi, fun h => absurd rfl h⟩
theorem max0 : 0 ≤ 100000000 := Nat.zero_le _

/-- What answers a part. -/
def PartOut (w : World) (X : Nat → Prop) (B mb : Nat) (A : Nat → Nat) (s : St) (r : Nat × St) (x : Ending) (w' : World) : Prop := ∃ A', x = .returned (pt (A' r.1)) ∧ r.1 < r.2.size ∧ Stp w X B mb A s w' A' r.2

theorem i64_one : I64 1 := ⟨by decide, by decide⟩
theorem variable_any {X : Nat → Prop} {w : World} {B mb : Nat} {A : Nat → Nat} {s : St} (i : Inv w X B mb A s) (lv : Int) (hl : I64 lv) :
    Calls Tryd.prog 72 #[.int .i64 lv] w (PartOut w X B mb A s (s.var lv)) := by
  have HI := hide i
  have HL := hide hl
  clear i hl
  go_enter Tryd.func72, Tryd.ntmps72
  go_wp2_with fail
  go_ret
  have h0 := heap_alloc_new w (.cells #[.int .i64 1, .int .i64 lv, .slice none 0 0] 105)
  have h1 := heap_alloc_new (w.alloc (.cells #[.int .i64 1, .int .i64 lv, .slice none 0 0] 105)) (.cells #[.int .i64 0, .slice none 0 0, .nilFunc, pt w.heap.size] 103)
  rw [World.size_alloc] at h1
  obtain ⟨A', hs, hA⟩ := Stp.push (th := ⟨0, [], noRun, some ⟨1, lv, []⟩⟩) (q := w.heap.size + 1) HI.out (w' := (w.alloc (.cells #[.int .i64 1, .int .i64 lv, .slice none 0 0] 105)).alloc (.cells #[.int .i64 0, .slice none 0 0, .nilFunc, pt w.heap.size] 103)) (((Below.refl _ _).alloc (Nat.le_refl _) _).alloc (by simp) _) (by omega) (by simp) (fun A' h1' h2' k => by
    refine ⟨Nat.zero_le _, fun h => by simp at h, fun v hv => ?_⟩
    simp only [Option.some.injEq] at hv
    subst hv
    refine ⟨w.heap.size, h1, i64_one, HL.out, ?_, none, 0, ?_, prow_nil max0⟩
    · rintro ((h | ⟨j, hj, h⟩) | h)
      · have := HI.out.hmb.2; omega
      · by_cases hjs : j = s.size
        · rw [hjs, h2'] at h; omega
        · rw [h1' j (by omega)] at h
          have := (HI.out.lo j (by omega)).2.1
          omega
      · have := (HI.out.xs _ h).2.1; omega
    · rw [Below.heap_alloc _ _ _ (by simp)]; exact h0)
  exact ⟨A', (show Ending.returned (pt (w.heap.size + 1)) = Ending.returned (pt (A' s.size)) by rw [hA]), by unfold St.var St.push; simp, hs⟩

theorem w64_i64 (x : Int) : I64 (w64 x) := i64_range x

set_option maxRecDepth 20000 in
theorem at_any {X : Nat → Prop} {w : World} {B mb : Nat} {A : Nat → Nat} {s : St} (i : Inv w X B mb A s) {a : Option Addr} {cap : Nat} {sc : List Nat} (n : Int) (hr : PRow w X mb A s.size a sc cap) :
    Calls Tryd.prog 59 #[.slice a sc.length cap, .int .i64 n] w (PartOut w X B mb A s (s.at_ sc n)) := by
  have HI := hide i
  have hlm : sc.length ≤ 100000000 := Nat.le_trans hr.1 hr.2.1
  by_cases h : n < 0 ∨ (sc.length : Int) ≤ n
  · have he : s.at_ sc n = s.var (w64 (w64 ((sc.length : Int) - 1) - n)) := by unfold St.at_; rw [if_pos h]
    rw [he]
    obtain ⟨lv, hlv⟩ : ∃ lv, lv = w64 (w64 ((sc.length : Int) - 1) - n) := ⟨_, rfl⟩
    have hL : Hid (I64 lv) := hide (by rw [hlv]; exact w64_i64 _)
    rw [← hlv]
    have hw1 : w64 ((sc.length : Int) - 1) = (sc.length : Int) - 1 := by unfold w64; rw [IntKind.wrap_i64]; omega
    have hw2 : IntKind.i64.wrap ((sc.length : Int) - 1 - n) = lv := by rw [hlv, hw1]; rfl
    clear hlv hw1 he hr i
    rcases Int.lt_or_le n 0 with h1 | h1
    · go_enter Tryd.func59, Tryd.ntmps59
      go_wp2_with fail
      refine (variable_any HI.out lv hL.out).mono ?_
      rintro e w2 ⟨A', rfl, h2⟩
      have H2 := hide h2
      clear h2
      go_wp2_with fail
      go_ret
      exact ⟨A', rfl, H2.out⟩
    · have h2 : (sc.length : Int) ≤ n := by omega
      go_enter Tryd.func59, Tryd.ntmps59
      go_wp2_with fail
      refine (variable_any HI.out lv hL.out).mono ?_
      rintro e w2 ⟨A', rfl, h2⟩
      have H2 := hide h2
      clear h2
      go_wp2_with fail
      go_ret
      exact ⟨A', rfl, H2.out⟩
  · have he : s.at_ sc n = (sc.getD (sc.length - 1 - n.toNat) 0, s) := by unfold St.at_; rw [if_neg h]
    rw [he]
    have h1 : ¬ n < 0 := fun x => h (Or.inl x)
    have h2 : ¬ (sc.length : Int) ≤ n := fun x => h (Or.inr x)
    obtain ⟨m, rfl⟩ : ∃ m : Nat, n = (m : Nat) := ⟨n.toNat, by omega⟩
    obtain ⟨b, rfl, hb, hmu, hc⟩ := hr.2.2.2 (fun e => by rw [e] at h2; simp at h2)
    have hm : m < sc.length := by omega
    have hk : sc.length - 1 - m < sc.length := by omega
    have hcm := hc (sc.length - 1 - m) hk
    have hid := hr.2.2.1 _ (List.getElem_mem hk)
    have hg : sc.getD (sc.length - 1 - (m : Int).toNat) 0 = sc[sc.length - 1 - m] := by
      rw [Int.toNat_natCast, List.getD_eq_getElem?_getD, List.getElem?_eq_getElem hk]; rfl
    rw [hg]
    obtain ⟨id, hidd⟩ : ∃ id, id = sc[sc.length - 1 - m] := ⟨_, rfl⟩
    rw [← hidd] at hcm hid ⊢
    have HID := hide hid
    clear he hc hmu hr hg hid i hidd h
    go_enter Tryd.func59, Tryd.ntmps59
    go_wp2_with fail
    go_ret
    exact ⟨A, rfl, HID.out, Stp.refl HI.out⟩

set_option maxRecDepth 20000 in
theorem suspend_any {X : Nat → Prop} {w : World} {B mb : Nat} {A : Nat → Nat} {s : St} (i : Inv w X B mb A s) {a : Option Addr} {cap b off bn : Nat} {sc : List Nat} {t : Tr} (ht : TmP w B b off t) (hbn : bn ≤ 2) (hr : PRow w X mb A s.size a sc cap) :
    Calls Tryd.prog 37 #[pt mb, .pointer (some ⟨b, off, none⟩), .int .i64 (bn : Nat), .slice a sc.length cap] w (PartOut w X B mb A s (s.suspend t bn sc)) := by
  have HI := hide i
  have HT := hide ht
  have HR := hide hr
  obtain ⟨f, ta, tc, _, _, c0, c1, c2, _⟩ := ht
  by_cases h : t.op = 1 ∧ bn = 0
  · have he : s.suspend t bn sc = s.at_ sc t.n := by unfold St.suspend; rw [if_pos h]
    rw [he]
    obtain ⟨h1, rfl⟩ := h
    have hb1 : (t.op == 1) = true := beq_iff_eq.2 h1
    clear he i hr h1 c2
    go_enter Tryd.func37, Tryd.ntmps37
    go_wp2_with fail
    refine (at_any HI.out t.n HR.out).mono ?_
    rintro e w2 ⟨A', rfl, h2⟩
    have H2 := hide h2
    clear h2
    go_wp2_with fail
    go_ret
    exact ⟨A', rfl, H2.out⟩
  · have he : s.suspend t bn sc = s.push ⟨bn, sc, ⟨false, t, noVal⟩, none⟩ := by unfold St.suspend; rw [if_neg h]
    rw [he]
    have HBN := hide hbn
    have hmf := mk_func
    clear he i hr c2 hbn
    have key : ∀ w', w' = w.alloc (.cells #[.int .i64 (bn : Nat), .slice a sc.length cap, .func (.func 60) #[.agg #[pt mb, .pointer (some ⟨b, off, none⟩)]] #[], .pointer none] 103) → PartOut w X B mb A s (s.push ⟨bn, sc, ⟨false, t, noVal⟩, none⟩) (.returned (pt w.heap.size)) w' := by
      rintro w' rfl
      obtain ⟨A', hs, hA⟩ := Stp.push (th := ⟨bn, sc, ⟨false, t, noVal⟩, none⟩) (q := w.heap.size) (w' := w.alloc (.cells #[.int .i64 (bn : Nat), .slice a sc.length cap, .func (.func 60) #[.agg #[pt mb, .pointer (some ⟨b, off, none⟩)]] #[], .pointer none] 103)) HI.out (later_alloc w _) (Nat.le_refl _) (by simp) (fun A' h1' h2' k => by
        refine ⟨HBN.out, fun _ => ⟨a, cap, .func (.func 60) #[.agg #[pt mb, .pointer (some ⟨b, off, none⟩)]] #[], heap_alloc_new w (.cells #[.int .i64 (bn : Nat), .slice a sc.length cap, .func (.func 60) #[.agg #[pt mb, .pointer (some ⟨b, off, none⟩)]] #[], .pointer none] 103), HR.out.keep k, ?_⟩, fun v hv => by simp at hv⟩
        unfold RunP
        rw [if_neg (by simp)]
        exact ⟨b, off, rfl, HT.out.keep k.low⟩)
      exact ⟨A', by rw [show (s.push ⟨bn, sc, ⟨false, t, noVal⟩, none⟩).1 = s.size from rfl, hA], by unfold St.push; simp, hs⟩
    have KEY := hide key
    clear key
    by_cases h1 : t.op = 1
    · have h2 : ¬ bn = 0 := fun e => h ⟨h1, e⟩
      have hb1 : (t.op == 1) = true := beq_iff_eq.2 h1
      have hb2 : (((bn : Nat) : Int) == 0) = false := ne_beq (by omega)
      clear h h1 h2
      go_enter Tryd.func37, Tryd.ntmps37
      go_wp2_with fail
      go_ret
      exact KEY.out _ rfl
    · have hb1 : (t.op == 1) = false := ne_beq h1
      clear h h1
      go_enter Tryd.func37, Tryd.ntmps37
      go_wp2_with fail
      go_ret
      exact KEY.out _ rfl

/-- is. -/
theorem vis_any {X : Nat → Prop} {w : World} {mb n q : Nat} {A : Nat → Nat} {v : Val} (hv : ValP w X mb A n q v) (op : Int) (k : Nat) :
    Calls Tryd.prog 68 #[pt q, .int .i64 op, .int .i64 (k : Nat)] w fun x w' => x = .returned (.bool (v.is op k)) ∧ w' = w := by
  obtain ⟨_, _, _, a, cap, hb, hr⟩ := hv
  obtain ⟨c0, c1, c2⟩ := blk3 hb
  have hlm : v.parts.length ≤ 100000000 := Nat.le_trans hr.1 hr.2.1
  clear hb hr
  by_cases h1 : v.op = op
  · by_cases h2 : v.parts.length = k
    · have hi : v.is op k = true := by unfold Val.is; simp [h1, h2]
      rw [hi]
      have hb1 : (v.op == op) = true := beq_iff_eq.2 h1
      have hb2 : ((v.parts.length : Int) == ((k : Nat) : Int)) = true := beq_iff_eq.2 (by omega)
      clear h1 h2 hi
      go_enter Tryd.func68, Tryd.ntmps68
      go_wp2_with fail
      go_ret
      exact ⟨rfl, rfl⟩
    · have hi : v.is op k = false := by unfold Val.is; simp [h2]
      rw [hi]
      have hb1 : (v.op == op) = true := beq_iff_eq.2 h1
      have hb2 : ((v.parts.length : Int) == ((k : Nat) : Int)) = false := ne_beq (by omega)
      clear h1 h2 hi
      go_enter Tryd.func68, Tryd.ntmps68
      go_wp2_with fail
      go_ret
      exact ⟨rfl, rfl⟩
  · have hi : v.is op k = false := by unfold Val.is; simp [h1]
    rw [hi]
    have hb1 : (v.op == op) = false := ne_beq h1
    clear h1 hi
    go_enter Tryd.func68, Tryd.ntmps68
    go_wp2_with fail
    go_ret
    exact ⟨rfl, rfl⟩
#print axioms vis_any
end Go.Proofs.YtjiecahopdaghabDoor
