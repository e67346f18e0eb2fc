/- Check: what a node may be; what Check answers. -/
import Derived.Test.YtpmaagafcpaajaaDoorMe
import Derived.Test.YtpmaagafcpaajaaDoorMp
import Derived.Deep.RegionHeld3
import Derived.Test.YtpmaagafcpaajaaDoorRv
import Derived.Test.YtpmaagafcpaajaaDoorLc
namespace Go.Proofs.YtpmaagafcpaajaaDoor
open Go.RowKit
attribute [local go_sem] put

/-- A node that may be. -/
def OkN (op n : Int) (l : Nat) : Prop := 1 ≤ op ∧ op ≤ 30 ∧ l = ar op ∧ loN op ≤ n ∧ n ≤ hiN op
instance (op n : Int) (l : Nat) : Decidable (OkN op n l) := by unfold OkN; infer_instance

def chkL (f : Nat → Tr → Nat × Nat) : Nat → List Tr → Nat × Nat
  | c, [] => (0, c)
  | c, k :: ks => if (f c k).1 = 0 then chkL f (f c k).2 ks else f c k
/-- Check: so many levels left, so many nodes met. -/
def chk : Nat → Nat → Tr → Nat × Nat
  | 0, c, _ => (5, c + 1)
  | l + 1, c, t => if 3000 < c + 1 then (5, c + 1) else if OkN t.op t.n t.kids.length then chkL (chk l) (c + 1) t.kids else (1, c + 1)

theorem okN_ar {op n : Int} {l : Nat} (h : OkN op n l) : 1 ≤ op ∧ op ≤ 30 ∧ l = ar op := ⟨h.1, h.2.1, h.2.2.1⟩

def maybe_noF (_a : Option Addr) (_l _c q0 : Nat) (op : Int) : Nat → Value → World → Prop
  | 0 => fun v _ => v = .pointer (some ⟨q0, 0, none⟩)
  | 1 => fun v _ => v = .int .i64 (op)
  | 2 => fun v _ => v = .bool (false)
  | 3 => fun v _ => v = .bool (true)
  | 4 => fun v _ => v = .bool (true)
  | 5 => fun v _ => v = undef
  | 6 => fun v _ => v = undef
  | 7 => fun v _ => v = undef
  | 8 => fun v _ => v = undef
  | 9 => fun v _ => v = undef
  | 10 => fun v _ => v = undef
  | 11 => fun v _ => v = undef
  | 12 => fun v _ => v = undef
  | 13 => fun v _ => v = undef
  | 14 => fun v _ => v = .bool (true)
  | _ => fun _ _ => True
theorem maybe_noF.keep (a : Option Addr) (l c q0 : Nat) (op : Int) (i : Nat) (v : Value) (w w' : World) (h : maybe_noF a l c q0 op i v w) (_ : Below w.heap.size w w') : maybe_noF a l c q0 op i v w' := by
  unfold maybe_noF at *
  split at h <;> exact h
set_option maxRecDepth 20000 in
set_option maxHeartbeats 1000000 in
theorem maybe_no (op n : Int) (a : Option Addr) (l c : Nat) (w : World) (h1 : ¬ (1 ≤ op ∧ op ≤ 30)) : Calls Tryd.prog 55 #[.agg #[.int .i64 op, .int .i64 n, .slice a l c]] w fun e w' => e = .returned (.bool false) ∧ Below w.heap.size w w' := by
  have HI : Hid (∀ w', Calls Tryd.prog 39 #[.int .i64 op] w' fun e w'' => e = .returned (.bool false) ∧ w'' = w') := hide (fun w' => by have := isop_any op w'; rw [decide_eq_false h1] at this; exact this)
  have HKB : Hid ((w.alloc (.cells #[.int .i64 op, .int .i64 n, .slice a l c] 29)).heap[w.heap.size]? = some (.cells #[.int .i64 op, .int .i64 n, .slice a l c] 29 (0, 0))) := hide (heap_alloc_new w _)
  have HA : Hid (Below w.heap.size w (w.alloc (.cells #[.int .i64 op, .int .i64 n, .slice a l c] 29))) := hide (later_alloc w _)
  clear h1
  go_enter Tryd.func55, Tryd.ntmps55
  go_wp2_with fail
  refine wp_region_vals (by kernel_rfl) (by kernel_rfl) (fun vs => { tmps := #[Value.agg #[Value.int IntKind.i64 op, Value.int IntKind.i64 n, Value.slice a l c], Value.pointer (some { block := w.heap.size, off := 0 }), Value.bool false, undef, vs 0, vs 1, vs 2, vs 3, vs 4, vs 5, vs 6, vs 7, vs 8, vs 9, vs 10, vs 11, vs 12, vs 13, vs 14, undef, undef, undef, undef, undef, undef, undef, undef, undef, undef, undef, undef, undef, undef, undef, undef], defers := [] }) (fun i => [undef, undef, undef, undef, undef, undef, undef, undef, undef, undef, undef, undef, undef, undef, undef].getD i undef) (maybe_noF a l c w.heap.size op) (maybe_noF.keep a l c w.heap.size op) ?_ ?_
  · refine ⟨?_, ?_, ?_, ?_, ?_, ?_, ?_, ?_, ?_, ?_, ?_, ?_, ?_, ?_, ?_, trivial⟩
    · intro vs wx K hb hd hK
      have HBX := hide hb
      clear hb hd
      go_simp
      exact hK _ _ (Below.refl _ _) rfl
    · intro vs wx K hb hd hK
      obtain ⟨vs, rfl⟩ := put_of (show vs 0 = _ from hd ⟨0, .data⟩ (by simp) rfl)
      obtain ⟨c0, c1, c2⟩ := cells3' hb HKB.out
      have HBX := hide hb
      clear hb hd
      go_simp
      exact hK _ _ (Below.refl _ _) rfl
    · intro vs wx K hb hd hK
      obtain ⟨vs, rfl⟩ := put_of (show vs 1 = _ from hd ⟨1, .data⟩ (by simp) rfl)
      have HBX := hide hb
      clear hb hd
      go_simp
      refine (HI.out _).mono ?_
      rintro e w7 ⟨rfl, h7⟩
      rw [h7]
      exact hK _ _ (Below.refl _ _) rfl
    · intro vs wx K hb hd hK
      obtain ⟨vs, rfl⟩ := put_of (show vs 2 = _ from hd ⟨2, .data⟩ (by simp) rfl)
      have HBX := hide hb
      clear hb hd
      go_simp
      exact hK _ _ (Below.refl _ _) rfl
    · intro vs wx K hb hd hK
      obtain ⟨vs, rfl⟩ := put_of (show vs 3 = _ from hd ⟨3, .data⟩ (by simp) rfl)
      have HBX := hide hb
      clear hb hd
      go_simp
      exact hK _ _ (Below.refl _ _) rfl
    · intro vs wx K hb hd hK
      obtain ⟨vs, rfl⟩ := put_of (show vs 4 = _ from hd ⟨4, .guard⟩ (by simp) rfl)
      clear hb hd
      go_simp
      exact hK _ _ (Below.refl _ _) rfl
    · intro vs wx K hb hd hK
      obtain ⟨vs, rfl⟩ := put_of (show vs 4 = _ from hd ⟨4, .guard⟩ (by simp) rfl)
      clear hb hd
      go_simp
      exact hK _ _ (Below.refl _ _) rfl
    · intro vs wx K hb hd hK
      obtain ⟨vs, rfl⟩ := put_of (show vs 4 = _ from hd ⟨4, .guard⟩ (by simp) rfl)
      clear hb hd
      go_simp
      exact hK _ _ (Below.refl _ _) rfl
    · intro vs wx K hb hd hK
      obtain ⟨vs, rfl⟩ := put_of (show vs 4 = _ from hd ⟨4, .guard⟩ (by simp) rfl)
      clear hb hd
      go_simp
      exact hK _ _ (Below.refl _ _) rfl
    · intro vs wx K hb hd hK
      obtain ⟨vs, rfl⟩ := put_of (show vs 4 = _ from hd ⟨4, .guard⟩ (by simp) rfl)
      clear hb hd
      go_simp
      exact hK _ _ (Below.refl _ _) rfl
    · intro vs wx K hb hd hK
      obtain ⟨vs, rfl⟩ := put_of (show vs 4 = _ from hd ⟨4, .guard⟩ (by simp) rfl)
      clear hb hd
      go_simp
      exact hK _ _ (Below.refl _ _) rfl
    · intro vs wx K hb hd hK
      obtain ⟨vs, rfl⟩ := put_of (show vs 4 = _ from hd ⟨4, .guard⟩ (by simp) rfl)
      clear hb hd
      go_simp
      exact hK _ _ (Below.refl _ _) rfl
    · intro vs wx K hb hd hK
      obtain ⟨vs, rfl⟩ := put_of (show vs 4 = _ from hd ⟨4, .guard⟩ (by simp) rfl)
      clear hb hd
      go_simp
      exact hK _ _ (Below.refl _ _) rfl
    · intro vs wx K hb hd hK
      obtain ⟨vs, rfl⟩ := put_of (show vs 4 = _ from hd ⟨4, .guard⟩ (by simp) rfl)
      clear hb hd
      go_simp
      exact hK _ _ (Below.refl _ _) rfl
    · intro vs wx K hb hd hK
      obtain ⟨vs, rfl⟩ := put_of (show vs 4 = _ from hd ⟨4, .data⟩ (by simp) rfl)
      obtain ⟨vs, rfl⟩ := put_of (show vs 13 = _ from hd ⟨13, .data⟩ (by simp) rfl)
      have HBX := hide hb
      clear hb hd
      go_simp
      exact hK _ _ (Below.refl _ _) rfl
  · intro vs wx hb hF
    obtain ⟨vs, rfl⟩ := put_of (show vs 14 = _ from hF 14 (by decide))
    have HBX := hide hb
    clear hb hF
    simp only [put, Nat.reduceEqDiff, reduceIte]
    go_wp2_with fail
    go_ret
    exact ⟨rfl, HA.out.trans (HBX.out.mono HA.out.size)⟩

def maybe_lenF (a : Option Addr) (l c q0 : Nat) (m q : Nat) : Nat → Value → World → Prop
  | 0 => fun v _ => v = .pointer (some ⟨q0, 0, none⟩)
  | 1 => fun v _ => v = .int .i64 ((m : Nat))
  | 2 => fun v _ => v = .bool (true)
  | 3 => fun v _ => v = .bool (false)
  | 4 => fun v _ => v = .bool (false)
  | 5 => fun v _ => v = .pointer (some ⟨q0, 2, none⟩)
  | 6 => fun v _ => v = .slice a l c
  | 7 => fun v _ => v = .int .i64 ((l : Nat))
  | 8 => fun v _ => v = .pointer (some ⟨q0, 0, none⟩)
  | 9 => fun v _ => v = .int .i64 ((m : Nat))
  | 10 => fun v _ => v = .pointer (some ⟨1, m, none⟩)
  | 11 => fun v _ => v = .int .i8 ((q : Nat))
  | 12 => fun v _ => v = .int .i64 ((q : Nat))
  | 13 => fun v _ => v = .bool (true)
  | 14 => fun v _ => v = .bool (true)
  | _ => fun _ _ => True
theorem maybe_lenF.keep (a : Option Addr) (l c q0 : Nat) (m q : Nat) (i : Nat) (v : Value) (w w' : World) (h : maybe_lenF a l c q0 m q i v w) (_ : Below w.heap.size w w') : maybe_lenF a l c q0 m q i v w' := by
  unfold maybe_lenF at *
  split at h <;> exact h
set_option maxRecDepth 20000 in
set_option maxHeartbeats 1000000 in
theorem maybe_len (m q : Nat) (n : Int) (a : Option Addr) (l c : Nat) (w : World) (ht : Tk w) (h1 : 1 ≤ m ∧ m ≤ 30) (hq : q = ar (m : Nat)) (_ : l ≤ 9223372036854775807) (h2 : ¬ l = q) : Calls Tryd.prog 55 #[.agg #[.int .i64 (m : Nat), .int .i64 n, .slice a l c]] w fun e w' => e = .returned (.bool false) ∧ Below w.heap.size w w' := by
  have HI : Hid (∀ w', Calls Tryd.prog 39 #[.int .i64 (m : Nat)] w' fun e w'' => e = .returned (.bool true) ∧ w'' = w') := hide (fun w' => by have := isop_any (m : Nat) w'; rw [decide_eq_true (by omega)] at this; exact this)
  have HKB : Hid ((w.alloc (.cells #[.int .i64 (m : Nat), .int .i64 n, .slice a l c] 29)).heap[w.heap.size]? = some (.cells #[.int .i64 (m : Nat), .int .i64 n, .slice a l c] 29 (0, 0))) := hide (heap_alloc_new w _)
  have HA : Hid (Below w.heap.size w (w.alloc (.cells #[.int .i64 (m : Nat), .int .i64 n, .slice a l c] 29))) := hide (later_alloc w _)
  have HT := hide (ht.later HA.out)
  have k0 := HT.out.kid m h1.2
  have har : arT ((m : Nat) : Int) = ar (m : Nat) := by unfold arT; rw [if_neg (by omega)]
  rw [har, ← hq] at k0
  have hq4 : q ≤ 4 := by rw [hq]; exact ar_le _
  have hwq : IntKind.i64.wrap (q : Int) = (q : Int) := by rw [IntKind.wrap_i64]; omega
  have hm0 : (0 : Int) ≤ (m : Int) := by omega
  have hm1 : (m : Int) < 31 := by omega
  have h1lt : 1 < (w.alloc (.cells #[.int .i64 (m : Nat), .int .i64 n, .slice a l c] 29)).heap.size := by have := HT.out.size; omega
  have HNE : Hid (((l : Int) != (q : Int)) = true) := hide (by rw [bne_iff_ne]; omega)
  clear har hq ht h1 h2
  go_enter Tryd.func55, Tryd.ntmps55
  go_wp2_with fail
  refine wp_region_vals (by kernel_rfl) (by kernel_rfl) (fun vs => { tmps := #[Value.agg #[Value.int IntKind.i64 ↑m, Value.int IntKind.i64 n, Value.slice a l c], Value.pointer (some { block := w.heap.size, off := 0 }), Value.bool false, undef, vs 0, vs 1, vs 2, vs 3, vs 4, vs 5, vs 6, vs 7, vs 8, vs 9, vs 10, vs 11, vs 12, vs 13, vs 14, undef, undef, undef, undef, undef, undef, undef, undef, undef, undef, undef, undef, undef, undef, undef, undef], defers := [] }) (fun i => [undef, undef, undef, undef, undef, undef, undef, undef, undef, undef, undef, undef, undef, undef, undef].getD i undef) (maybe_lenF a l c w.heap.size m q) (maybe_lenF.keep a l c w.heap.size m q) ?_ ?_
  · refine ⟨?_, ?_, ?_, ?_, ?_, ?_, ?_, ?_, ?_, ?_, ?_, ?_, ?_, ?_, ?_, trivial⟩
    · intro vs wx K hb hd hK
      have HBX := hide hb
      clear hb hd
      go_simp
      exact hK _ _ (Below.refl _ _) rfl
    · intro vs wx K hb hd hK
      obtain ⟨vs, rfl⟩ := put_of (show vs 0 = _ from hd ⟨0, .data⟩ (by simp) rfl)
      obtain ⟨c0, c1, c2⟩ := cells3' hb HKB.out
      have HBX := hide hb
      clear hb hd
      go_simp
      exact hK _ _ (Below.refl _ _) rfl
    · intro vs wx K hb hd hK
      obtain ⟨vs, rfl⟩ := put_of (show vs 1 = _ from hd ⟨1, .data⟩ (by simp) rfl)
      have HBX := hide hb
      clear hb hd
      go_simp
      refine (HI.out _).mono ?_
      rintro e w7 ⟨rfl, h7⟩
      rw [h7]
      exact hK _ _ (Below.refl _ _) rfl
    · intro vs wx K hb hd hK
      obtain ⟨vs, rfl⟩ := put_of (show vs 2 = _ from hd ⟨2, .data⟩ (by simp) rfl)
      have HBX := hide hb
      clear hb hd
      go_simp
      exact hK _ _ (Below.refl _ _) rfl
    · intro vs wx K hb hd hK
      obtain ⟨vs, rfl⟩ := put_of (show vs 3 = _ from hd ⟨3, .data⟩ (by simp) rfl)
      have HBX := hide hb
      clear hb hd
      go_simp
      exact hK _ _ (Below.refl _ _) rfl
    · intro vs wx K hb hd hK
      obtain ⟨vs, rfl⟩ := put_of (show vs 4 = _ from hd ⟨4, .guard⟩ (by simp) rfl)
      have HBX := hide hb
      clear hb hd
      go_simp
      exact hK _ _ (Below.refl _ _) rfl
    · intro vs wx K hb hd hK
      obtain ⟨vs, rfl⟩ := put_of (show vs 5 = _ from hd ⟨5, .data⟩ (by simp) rfl)
      obtain ⟨vs, rfl⟩ := put_of (show vs 4 = _ from hd ⟨4, .guard⟩ (by simp) rfl)
      obtain ⟨c0, c1, c2⟩ := cells3' hb HKB.out
      have HBX := hide hb
      clear hb hd
      go_simp
      exact hK _ _ (Below.refl _ _) rfl
    · intro vs wx K hb hd hK
      obtain ⟨vs, rfl⟩ := put_of (show vs 6 = _ from hd ⟨6, .data⟩ (by simp) rfl)
      obtain ⟨vs, rfl⟩ := put_of (show vs 4 = _ from hd ⟨4, .guard⟩ (by simp) rfl)
      have HBX := hide hb
      clear hb hd
      go_simp
      exact hK _ _ (Below.refl _ _) rfl
    · intro vs wx K hb hd hK
      obtain ⟨vs, rfl⟩ := put_of (show vs 4 = _ from hd ⟨4, .guard⟩ (by simp) rfl)
      have HBX := hide hb
      clear hb hd
      go_simp
      exact hK _ _ (Below.refl _ _) rfl
    · intro vs wx K hb hd hK
      obtain ⟨vs, rfl⟩ := put_of (show vs 8 = _ from hd ⟨8, .data⟩ (by simp) rfl)
      obtain ⟨vs, rfl⟩ := put_of (show vs 4 = _ from hd ⟨4, .guard⟩ (by simp) rfl)
      obtain ⟨c0, c1, c2⟩ := cells3' hb HKB.out
      have HBX := hide hb
      clear hb hd
      go_simp
      exact hK _ _ (Below.refl _ _) rfl
    · intro vs wx K hb hd hK
      obtain ⟨vs, rfl⟩ := put_of (show vs 9 = _ from hd ⟨9, .data⟩ (by simp) rfl)
      obtain ⟨vs, rfl⟩ := put_of (show vs 4 = _ from hd ⟨4, .guard⟩ (by simp) rfl)
      have HBX := hide hb
      clear hb hd
      go_simp
      exact hK _ _ (Below.refl _ _) rfl
    · intro vs wx K hb hd hK
      obtain ⟨vs, rfl⟩ := put_of (show vs 10 = _ from hd ⟨10, .data⟩ (by simp) rfl)
      obtain ⟨vs, rfl⟩ := put_of (show vs 4 = _ from hd ⟨4, .guard⟩ (by simp) rfl)
      have ct := (hb.cell (p := ⟨1, m, none⟩) h1lt).trans k0
      have HBX := hide hb
      clear hb hd
      go_simp
      exact hK _ _ (Below.refl _ _) rfl
    · intro vs wx K hb hd hK
      obtain ⟨vs, rfl⟩ := put_of (show vs 11 = _ from hd ⟨11, .data⟩ (by simp) rfl)
      obtain ⟨vs, rfl⟩ := put_of (show vs 4 = _ from hd ⟨4, .guard⟩ (by simp) rfl)
      have HBX := hide hb
      clear hb hd
      go_simp
      exact hK _ _ (Below.refl _ _) rfl
    · intro vs wx K hb hd hK
      obtain ⟨vs, rfl⟩ := put_of (show vs 7 = _ from hd ⟨7, .data⟩ (by simp) rfl)
      obtain ⟨vs, rfl⟩ := put_of (show vs 12 = _ from hd ⟨12, .data⟩ (by simp) rfl)
      obtain ⟨vs, rfl⟩ := put_of (show vs 4 = _ from hd ⟨4, .guard⟩ (by simp) rfl)
      have HBX := hide hb
      clear hb hd
      go_simp
      exact hK _ _ (Below.refl _ _) (congrArg Value.bool HNE.out)
    · intro vs wx K hb hd hK
      obtain ⟨vs, rfl⟩ := put_of (show vs 4 = _ from hd ⟨4, .data⟩ (by simp) rfl)
      obtain ⟨vs, rfl⟩ := put_of (show vs 13 = _ from hd ⟨13, .data⟩ (by simp) rfl)
      have HBX := hide hb
      clear hb hd
      go_simp
      exact hK _ _ (Below.refl _ _) rfl
  · intro vs wx hb hF
    obtain ⟨vs, rfl⟩ := put_of (show vs 14 = _ from hF 14 (by decide))
    have HBX := hide hb
    clear hb hF
    simp only [put, Nat.reduceEqDiff, reduceIte]
    go_wp2_with fail
    go_ret
    exact ⟨rfl, HA.out.trans (HBX.out.mono HA.out.size)⟩

def maybe_numF (a : Option Addr) (l c q0 : Nat) (m q : Nat) : Nat → Value → World → Prop
  | 0 => fun v _ => v = .pointer (some ⟨q0, 0, none⟩)
  | 1 => fun v _ => v = .int .i64 ((m : Nat))
  | 2 => fun v _ => v = .bool (true)
  | 3 => fun v _ => v = .bool (false)
  | 4 => fun v _ => v = .bool (false)
  | 5 => fun v _ => v = .pointer (some ⟨q0, 2, none⟩)
  | 6 => fun v _ => v = .slice a l c
  | 7 => fun v _ => v = .int .i64 ((l : Nat))
  | 8 => fun v _ => v = .pointer (some ⟨q0, 0, none⟩)
  | 9 => fun v _ => v = .int .i64 ((m : Nat))
  | 10 => fun v _ => v = .pointer (some ⟨1, m, none⟩)
  | 11 => fun v _ => v = .int .i8 ((q : Nat))
  | 12 => fun v _ => v = .int .i64 ((q : Nat))
  | 13 => fun v _ => v = .bool (false)
  | 14 => fun v _ => v = .bool (false)
  | _ => fun _ _ => True
theorem maybe_numF.keep (a : Option Addr) (l c q0 : Nat) (m q : Nat) (i : Nat) (v : Value) (w w' : World) (h : maybe_numF a l c q0 m q i v w) (_ : Below w.heap.size w w') : maybe_numF a l c q0 m q i v w' := by
  unfold maybe_numF at *
  split at h <;> exact h
set_option maxRecDepth 20000 in
set_option maxHeartbeats 1000000 in
theorem maybe_num (m q : Nat) (n lo hi : Int) (a : Option Addr) (l c : Nat) (w : World) (ht : Tk w) (h1 : 1 ≤ m ∧ m ≤ 30) (hq : q = ar (m : Nat)) (hl : l ≤ 9223372036854775807) (hlo : loN (m : Nat) = lo) (hhi : hiN (m : Nat) = hi) (h2 : l = q) : Calls Tryd.prog 55 #[.agg #[.int .i64 (m : Nat), .int .i64 n, .slice a l c]] w fun e w' => e = .returned (.bool (decide (lo ≤ n) && decide (n ≤ hi))) ∧ Below w.heap.size w w' := by
  have HI : Hid (∀ w', Calls Tryd.prog 39 #[.int .i64 (m : Nat)] w' fun e w'' => e = .returned (.bool true) ∧ w'' = w') := hide (fun w' => by have := isop_any (m : Nat) w'; rw [decide_eq_true (by omega)] at this; exact this)
  have HKB : Hid ((w.alloc (.cells #[.int .i64 (m : Nat), .int .i64 n, .slice a l c] 29)).heap[w.heap.size]? = some (.cells #[.int .i64 (m : Nat), .int .i64 n, .slice a l c] 29 (0, 0))) := hide (heap_alloc_new w _)
  have HA : Hid (Below w.heap.size w (w.alloc (.cells #[.int .i64 (m : Nat), .int .i64 n, .slice a l c] 29))) := hide (later_alloc w _)
  have HT := hide (ht.later HA.out)
  have k0 := HT.out.kid m h1.2
  have har : arT ((m : Nat) : Int) = ar (m : Nat) := by unfold arT; rw [if_neg (by omega)]
  rw [har, ← hq] at k0
  have hq4 : q ≤ 4 := by rw [hq]; exact ar_le _
  have hwq : IntKind.i64.wrap (q : Int) = (q : Int) := by rw [IntKind.wrap_i64]; omega
  have hm0 : (0 : Int) ≤ (m : Int) := by omega
  have hm1 : (m : Int) < 31 := by omega
  have h1lt : 1 < (w.alloc (.cells #[.int .i64 (m : Nat), .int .i64 n, .slice a l c] 29)).heap.size := by have := HT.out.size; omega
  have k1 := HT.out.low m h1.2
  have k2 := HT.out.high m h1.2
  rw [hlo] at k1
  rw [hhi] at k2
  have h2lt : 2 < (w.alloc (.cells #[.int .i64 (m : Nat), .int .i64 n, .slice a l c] 29)).heap.size := by have := HT.out.size; omega
  have HNE : Hid (((l : Int) != (q : Int)) = false) := hide (by rw [bne_eq_false_iff_eq]; omega)
  clear har hq ht h1 hlo hhi h2
  go_enter Tryd.func55, Tryd.ntmps55
  go_wp2_with fail
  refine wp_region_vals (by kernel_rfl) (by kernel_rfl) (fun vs => { tmps := #[Value.agg #[Value.int IntKind.i64 ↑m, Value.int IntKind.i64 n, Value.slice a l c], Value.pointer (some { block := w.heap.size, off := 0 }), Value.bool false, undef, vs 0, vs 1, vs 2, vs 3, vs 4, vs 5, vs 6, vs 7, vs 8, vs 9, vs 10, vs 11, vs 12, vs 13, vs 14, undef, undef, undef, undef, undef, undef, undef, undef, undef, undef, undef, undef, undef, undef, undef, undef], defers := [] }) (fun i => [undef, undef, undef, undef, undef, undef, undef, undef, undef, undef, undef, undef, undef, undef, undef].getD i undef) (maybe_numF a l c w.heap.size m q) (maybe_numF.keep a l c w.heap.size m q) ?_ ?_
  · refine ⟨?_, ?_, ?_, ?_, ?_, ?_, ?_, ?_, ?_, ?_, ?_, ?_, ?_, ?_, ?_, trivial⟩
    · intro vs wx K hb hd hK
      have HBX := hide hb
      clear hb hd
      go_simp
      exact hK _ _ (Below.refl _ _) rfl
    · intro vs wx K hb hd hK
      obtain ⟨vs, rfl⟩ := put_of (show vs 0 = _ from hd ⟨0, .data⟩ (by simp) rfl)
      obtain ⟨c0, c1, c2⟩ := cells3' hb HKB.out
      have HBX := hide hb
      clear hb hd
      go_simp
      exact hK _ _ (Below.refl _ _) rfl
    · intro vs wx K hb hd hK
      obtain ⟨vs, rfl⟩ := put_of (show vs 1 = _ from hd ⟨1, .data⟩ (by simp) rfl)
      have HBX := hide hb
      clear hb hd
      go_simp
      refine (HI.out _).mono ?_
      rintro e w7 ⟨rfl, h7⟩
      rw [h7]
      exact hK _ _ (Below.refl _ _) rfl
    · intro vs wx K hb hd hK
      obtain ⟨vs, rfl⟩ := put_of (show vs 2 = _ from hd ⟨2, .data⟩ (by simp) rfl)
      have HBX := hide hb
      clear hb hd
      go_simp
      exact hK _ _ (Below.refl _ _) rfl
    · intro vs wx K hb hd hK
      obtain ⟨vs, rfl⟩ := put_of (show vs 3 = _ from hd ⟨3, .data⟩ (by simp) rfl)
      have HBX := hide hb
      clear hb hd
      go_simp
      exact hK _ _ (Below.refl _ _) rfl
    · intro vs wx K hb hd hK
      obtain ⟨vs, rfl⟩ := put_of (show vs 4 = _ from hd ⟨4, .guard⟩ (by simp) rfl)
      have HBX := hide hb
      clear hb hd
      go_simp
      exact hK _ _ (Below.refl _ _) rfl
    · intro vs wx K hb hd hK
      obtain ⟨vs, rfl⟩ := put_of (show vs 5 = _ from hd ⟨5, .data⟩ (by simp) rfl)
      obtain ⟨vs, rfl⟩ := put_of (show vs 4 = _ from hd ⟨4, .guard⟩ (by simp) rfl)
      obtain ⟨c0, c1, c2⟩ := cells3' hb HKB.out
      have HBX := hide hb
      clear hb hd
      go_simp
      exact hK _ _ (Below.refl _ _) rfl
    · intro vs wx K hb hd hK
      obtain ⟨vs, rfl⟩ := put_of (show vs 6 = _ from hd ⟨6, .data⟩ (by simp) rfl)
      obtain ⟨vs, rfl⟩ := put_of (show vs 4 = _ from hd ⟨4, .guard⟩ (by simp) rfl)
      have HBX := hide hb
      clear hb hd
      go_simp
      exact hK _ _ (Below.refl _ _) rfl
    · intro vs wx K hb hd hK
      obtain ⟨vs, rfl⟩ := put_of (show vs 4 = _ from hd ⟨4, .guard⟩ (by simp) rfl)
      have HBX := hide hb
      clear hb hd
      go_simp
      exact hK _ _ (Below.refl _ _) rfl
    · intro vs wx K hb hd hK
      obtain ⟨vs, rfl⟩ := put_of (show vs 8 = _ from hd ⟨8, .data⟩ (by simp) rfl)
      obtain ⟨vs, rfl⟩ := put_of (show vs 4 = _ from hd ⟨4, .guard⟩ (by simp) rfl)
      obtain ⟨c0, c1, c2⟩ := cells3' hb HKB.out
      have HBX := hide hb
      clear hb hd
      go_simp
      exact hK _ _ (Below.refl _ _) rfl
    · intro vs wx K hb hd hK
      obtain ⟨vs, rfl⟩ := put_of (show vs 9 = _ from hd ⟨9, .data⟩ (by simp) rfl)
      obtain ⟨vs, rfl⟩ := put_of (show vs 4 = _ from hd ⟨4, .guard⟩ (by simp) rfl)
      have HBX := hide hb
      clear hb hd
      go_simp
      exact hK _ _ (Below.refl _ _) rfl
    · intro vs wx K hb hd hK
      obtain ⟨vs, rfl⟩ := put_of (show vs 10 = _ from hd ⟨10, .data⟩ (by simp) rfl)
      obtain ⟨vs, rfl⟩ := put_of (show vs 4 = _ from hd ⟨4, .guard⟩ (by simp) rfl)
      have ct := (hb.cell (p := ⟨1, m, none⟩) h1lt).trans k0
      have HBX := hide hb
      clear hb hd
      go_simp
      exact hK _ _ (Below.refl _ _) rfl
    · intro vs wx K hb hd hK
      obtain ⟨vs, rfl⟩ := put_of (show vs 11 = _ from hd ⟨11, .data⟩ (by simp) rfl)
      obtain ⟨vs, rfl⟩ := put_of (show vs 4 = _ from hd ⟨4, .guard⟩ (by simp) rfl)
      have HBX := hide hb
      clear hb hd
      go_simp
      exact hK _ _ (Below.refl _ _) rfl
    · intro vs wx K hb hd hK
      obtain ⟨vs, rfl⟩ := put_of (show vs 7 = _ from hd ⟨7, .data⟩ (by simp) rfl)
      obtain ⟨vs, rfl⟩ := put_of (show vs 12 = _ from hd ⟨12, .data⟩ (by simp) rfl)
      obtain ⟨vs, rfl⟩ := put_of (show vs 4 = _ from hd ⟨4, .guard⟩ (by simp) rfl)
      have HBX := hide hb
      clear hb hd
      go_simp
      exact hK _ _ (Below.refl _ _) (congrArg Value.bool HNE.out)
    · intro vs wx K hb hd hK
      obtain ⟨vs, rfl⟩ := put_of (show vs 4 = _ from hd ⟨4, .data⟩ (by simp) rfl)
      obtain ⟨vs, rfl⟩ := put_of (show vs 13 = _ from hd ⟨13, .data⟩ (by simp) rfl)
      have HBX := hide hb
      clear hb hd
      go_simp
      exact hK _ _ (Below.refl _ _) rfl
  · intro vs wx hb hF
    obtain ⟨vs, rfl⟩ := put_of (show vs 14 = _ from hF 14 (by decide))
    have HBX := hide hb
    clear hb hF
    simp only [put, Nat.reduceEqDiff, reduceIte]
    have k1' := (HBX.out.cell (p := ⟨2, m * 2, none⟩) h2lt).trans k1
    have k2' := (HBX.out.cell (p := ⟨2, m * 2 + 1, none⟩) h2lt).trans k2
    obtain ⟨c0, c1, c2⟩ := cells3' HBX.out HKB.out
    have o0 := (old_cell c0 (World.block_lt_of_cell? _ _ c0)).1
    have o1 := (old_cell c1 (World.block_lt_of_cell? _ _ c1)).1
    have HA2 : Hid (Below w.heap.size w wx) := hide (HA.out.trans (HBX.out.mono HA.out.size))
    by_cases g1 : lo ≤ n
    · by_cases g2 : n ≤ hi
      · go_wp2_with fail
        go_ret
        exact ⟨by first | rfl | (rw [decide_eq_true g1, decide_eq_true g2]; rfl), HA2.out.alloc HA2.out.size _⟩
      · go_wp2_with fail
        go_ret
        exact ⟨by first | rfl | (rw [decide_eq_false (show ¬ n ≤ hi by omega)]; rfl) | (simp; omega), HA2.out.alloc HA2.out.size _⟩
    · go_wp2_with fail
      go_ret
      exact ⟨by first | rfl | (rw [decide_eq_false (show ¬ lo ≤ n by omega)]; rfl), HA2.out.alloc HA2.out.size _⟩

theorem maybe_any (op n : Int) (a : Option Addr) (l c : Nat) (w : World) (ht : Tk w) (hl : l ≤ 9223372036854775807) :
    Calls Tryd.prog 55 #[.agg #[.int .i64 op, .int .i64 n, .slice a l c]] w fun e w' => e = .returned (.bool (decide (OkN op n l))) ∧ Below w.heap.size w w' := by
  by_cases h1 : 1 ≤ op ∧ op ≤ 30
  · obtain ⟨m, rfl⟩ : ∃ m : Nat, op = m := ⟨op.toNat, by omega⟩
    by_cases h2 : l = ar (m : Nat)
    · have h := maybe_num m _ n _ _ a l c w ht (by omega) rfl hl rfl rfl h2
      have e : decide (OkN (m : Nat) n l) = (decide (loN (m : Nat) ≤ n) && decide (n ≤ hiN (m : Nat))) := by
        rw [Bool.eq_iff_iff, decide_eq_true_iff, Bool.and_eq_true, decide_eq_true_iff, decide_eq_true_iff]
        unfold OkN
        constructor
        · rintro ⟨_, _, _, g1, g2⟩; exact ⟨g1, g2⟩
        · rintro ⟨g1, g2⟩; exact ⟨h1.1, h1.2, h2, g1, g2⟩
      rw [e]
      exact h
    · rw [decide_eq_false (fun h => h2 h.2.2.1)]
      exact maybe_len m _ n a l c w ht (by omega) rfl hl h2
  · rw [decide_eq_false (fun h => h1 ⟨h.1, h.2.1⟩)]
    exact maybe_no op n a l c w h1
#print axioms maybe_any
end Go.Proofs.YtpmaagafcpaajaaDoor
