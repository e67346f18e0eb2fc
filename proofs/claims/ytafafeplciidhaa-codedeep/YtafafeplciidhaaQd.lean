/- head: the next head is taken off the bytes that are left. -/
import Derived.Test.YtafafeplciidhaaQh
import Derived.Test.YtafafeplciidhaaWp
namespace Go.Proofs.Ytafafeplciidhaa
open Go.RowKit

/-- A copy, as one step of a region that draws its order, whatever the source. -/
theorem step_copy_any {P : Program} {ops : Array Oper} {o : Oper} {a : Act} {w : World} {K : Act → World → Prop} {Q : Exit → Act → World → Prop} {E : Prop} (hgd : o.guard = none) (d s : Operand) (dT sT : TypeId)
    (ho : o.op = .call { callee := .builtin .copy, args := #[d, s], argTypes := #[dT, sT] }) (elem : TypeId) (hu : P.underlying dT = some (.slice elem)) (hsz : (P.info? elem).map (·.size) = some 1)
    (g off dLen dCap : Nat) (sp : Option Addr) (sLen sCap : Nat) (hd : a.eval d = .slice (some ⟨g, off, none⟩) dLen dCap) (hs : a.eval s = .slice sp sLen sCap)
    (cur : List Value) (t : TypeId) (hg : w.heap[g]? = some (.cells cur.toArray t (0, 0))) (cs : List Value) (hn : cs.length = Nat.min sLen dLen)
    (hsrc : 0 < cs.length → ∃ ad, sp = some ad ∧ ∀ j v, cs[j]? = some v → w.cell? (ad.add j) = some v) (hfit : off + cs.length ≤ cur.length) (h1 : ∀ v ∈ cs, v.oneCell' = true)
    (h : ∀ w', Fr (· = g) w w' → Hid (w'.heap[g]? = some (.cells (splice cur off cs).toArray t (0, 0))) → K (a.put o.dst (goInt cs.length)) w') :
    if Region.wanted o (yielded ops a.tmps) = true then Oper.wp P o a w K Q else E := by
  by_cases h0 : cs.length = 0
  · obtain rfl : cs = [] := List.eq_nil_of_length_eq_zero h0
    have hw : Region.wanted o (yielded ops a.tmps) = true := by simp [Region.wanted, hgd]
    rw [if_pos hw]
    have hrun := run_copy_none (P := P) w dT sT o.type elem (some ⟨g, off, none⟩) sp dLen dCap sLen sCap hu hsz (by simpa using hn.symm)
    unfold Oper.wp
    simp [execOp, ho, resolve, invoke, builtin, hd, hs, hrun, Result.andThen]
    exact h w (Fr.refl _ _) (show _ = _ by simpa [splice] using hg)
  · obtain ⟨ad, rfl, hsrc2⟩ := hsrc (by omega)
    exact step_copy_fr hgd d s dT sT ho elem hu hsz g off dLen dCap ad sLen sCap hd hs cur t hg cs hn hsrc2 hfit h1 h

attribute [local go_sem ↓] Go.wp_at_zero Go.wp_at_succ

/-- The reader's state: what is left, how many terms were read. -/
def Rd (w : World) (rb : Nat) (lv : Value) (n : Nat) : Prop := w.heap[rb]? = some (.cells #[lv, .int .i64 (n : Nat)] 58 (0, 0))

def zero10 : List Value := [.int .u8 0, .int .u8 0, .int .u8 0, .int .u8 0, .int .u8 0, .int .u8 0, .int .u8 0, .int .u8 0, .int .u8 0, .int .u8 0]

theorem src_left {w : World} {D : Nat → Prop} {l : List Int} {a : Option Addr} {m : Nat} (h : l ≠ [] → ∃ b off, a = some ⟨b, off, none⟩ ∧ D b ∧ ∀ (i : Nat) (h : i < l.length), w.cell? ⟨b, off + i, none⟩ = some (.int .u8 l[i])) :
    0 < ((l.take m).map (Value.int .u8)).length → ∃ ad, a = some ad ∧ ∀ j v, ((l.take m).map (Value.int .u8))[j]? = some v → w.cell? (ad.add j) = some v := by
  intro hp
  obtain ⟨b, off, rfl, _, hx⟩ := h (fun e => by simp [e] at hp)
  refine ⟨_, rfl, fun j v hv => ?_⟩
  rw [Addr.add_lit]
  have hj : j < (l.take m).length := by
    have := (List.getElem?_eq_some_iff.1 hv).1
    simpa using this
  have hj2 : j < l.length := by simp at hj; omega
  rw [hx j hj2]
  simp only [List.getElem?_map, List.getElem?_eq_getElem hj, Option.map_some, Option.some.injEq, List.getElem_take] at hv
  rw [hv]

theorem Fr.setNew {M : Nat → Prop} {a w : World} (h : Fr M a w) {p : Addr} (hp : a.heap.size ≤ p.block) (u : Value) : Fr M a (w.setCell p u) :=
  ⟨h.os, h.tape, h.output, by have := h.size; simpa [World.setCell] using this, fun k hk hm => by rw [heap_setCell_other _ _ _ _ (by omega)]; exact h.block k hk hm⟩

theorem ten_cells {w : World} {b : Nat} {v0 v1 v2 v3 v4 v5 v6 v7 v8 v9 : Value} {T : TypeId} (h : w.heap[b]? = some (.cells #[v0, v1, v2, v3, v4, v5, v6, v7, v8, v9] T (0, 0))) :
    w.cell? ⟨b, 0, none⟩ = some v0 ∧ w.cell? ⟨b, 1, none⟩ = some v1 ∧ w.cell? ⟨b, 2, none⟩ = some v2 ∧ w.cell? ⟨b, 3, none⟩ = some v3 ∧ w.cell? ⟨b, 4, none⟩ = some v4 ∧ w.cell? ⟨b, 5, none⟩ = some v5 ∧ w.cell? ⟨b, 6, none⟩ = some v6 ∧ w.cell? ⟨b, 7, none⟩ = some v7 ∧ w.cell? ⟨b, 8, none⟩ = some v8 ∧ w.cell? ⟨b, 9, none⟩ = some v9 := by
  refine ⟨?_, ?_, ?_, ?_, ?_, ?_, ?_, ?_, ?_, ?_⟩ <;> (rw [cell_of_block h]; rfl)
theorem ten_frozen {w : World} {b : Nat} {cs : Array Value} {T : TypeId} (h : w.heap[b]? = some (.cells cs T (0, 0))) :
    w.frozen? ⟨b, 0, none⟩ = false ∧ w.frozen? ⟨b, 1, none⟩ = false ∧ w.frozen? ⟨b, 2, none⟩ = false ∧ w.frozen? ⟨b, 3, none⟩ = false ∧ w.frozen? ⟨b, 4, none⟩ = false ∧ w.frozen? ⟨b, 5, none⟩ = false ∧ w.frozen? ⟨b, 6, none⟩ = false ∧ w.frozen? ⟨b, 7, none⟩ = false ∧ w.frozen? ⟨b, 8, none⟩ = false ∧ w.frozen? ⟨b, 9, none⟩ = false :=
  ⟨frozen_of_block h 0, frozen_of_block h 1, frozen_of_block h 2, frozen_of_block h 3, frozen_of_block h 4, frozen_of_block h 5, frozen_of_block h 6, frozen_of_block h 7, frozen_of_block h 8, frozen_of_block h 9⟩

set_option maxRecDepth 20000 in
set_option maxHeartbeats 1000000 in
theorem head_cut (rb n : Nat) (D : Nat → Prop) (lv : Value) (l : List Int) (w : World) (hr : Rd w rb lv n) (hl : LeftAt w D lv l) (hlen : l.length < 10) :
    Calls Try.prog 31 #[.pointer (some ⟨rb, 0, none⟩)] w fun e w' => e = .returned (.tuple #[.agg zero10.toArray, .bool false]) ∧ Below w.heap.size w w' := by
  obtain ⟨a, c, rfl, hc1, hc2, hx⟩ := hl
  unfold maxLen at hc2
  have hlt := size_of_block hr
  have hWr : ((w.alloc (.cells #[.int .u8 0, .int .u8 0, .int .u8 0, .int .u8 0, .int .u8 0, .int .u8 0, .int .u8 0, .int .u8 0, .int .u8 0, .int .u8 0] 68)).alloc (.cells #[.int .u8 0, .int .u8 0, .int .u8 0, .int .u8 0, .int .u8 0, .int .u8 0, .int .u8 0, .int .u8 0, .int .u8 0, .int .u8 0] 68)).heap[rb]? = some (.cells #[.slice a l.length c, .int .i64 (n : Nat)] 58 (0, 0)) := by
    rw [Below.heap_alloc _ _ _ (by simp; omega), Below.heap_alloc _ _ _ hlt]; exact hr
  have hWh : ((w.alloc (.cells #[.int .u8 0, .int .u8 0, .int .u8 0, .int .u8 0, .int .u8 0, .int .u8 0, .int .u8 0, .int .u8 0, .int .u8 0, .int .u8 0] 68)).alloc (.cells #[.int .u8 0, .int .u8 0, .int .u8 0, .int .u8 0, .int .u8 0, .int .u8 0, .int .u8 0, .int .u8 0, .int .u8 0, .int .u8 0] 68)).heap[w.heap.size + 1]? = some (.cells zero10.toArray 68 (0, 0)) := by
    have := heap_alloc_new (w.alloc (.cells #[.int .u8 0, .int .u8 0, .int .u8 0, .int .u8 0, .int .u8 0, .int .u8 0, .int .u8 0, .int .u8 0, .int .u8 0, .int .u8 0] 68)) (.cells #[.int .u8 0, .int .u8 0, .int .u8 0, .int .u8 0, .int .u8 0, .int .u8 0, .int .u8 0, .int .u8 0, .int .u8 0, .int .u8 0] 68)
    rw [World.size_alloc] at this
    exact this
  have hWz : ((w.alloc (.cells #[.int .u8 0, .int .u8 0, .int .u8 0, .int .u8 0, .int .u8 0, .int .u8 0, .int .u8 0, .int .u8 0, .int .u8 0, .int .u8 0] 68)).alloc (.cells #[.int .u8 0, .int .u8 0, .int .u8 0, .int .u8 0, .int .u8 0, .int .u8 0, .int .u8 0, .int .u8 0, .int .u8 0, .int .u8 0] 68)).heap[w.heap.size]? = some (.cells zero10.toArray 68 (0, 0)) := by
    rw [Below.heap_alloc _ _ _ (by simp)]; exact heap_alloc_new w _
  have hWl : Below w.heap.size w ((w.alloc (.cells #[.int .u8 0, .int .u8 0, .int .u8 0, .int .u8 0, .int .u8 0, .int .u8 0, .int .u8 0, .int .u8 0, .int .u8 0, .int .u8 0] 68)).alloc (.cells #[.int .u8 0, .int .u8 0, .int .u8 0, .int .u8 0, .int .u8 0, .int .u8 0, .int .u8 0, .int .u8 0, .int .u8 0, .int .u8 0] 68)) := ((Below.refl _ _).alloc (Nat.le_refl _) _).alloc (by simp) _
  have hsz : ((w.alloc (.cells #[.int .u8 0, .int .u8 0, .int .u8 0, .int .u8 0, .int .u8 0, .int .u8 0, .int .u8 0, .int .u8 0, .int .u8 0, .int .u8 0] 68)).alloc (.cells #[.int .u8 0, .int .u8 0, .int .u8 0, .int .u8 0, .int .u8 0, .int .u8 0, .int .u8 0, .int .u8 0, .int .u8 0, .int .u8 0] 68)).heap.size = w.heap.size + 2 := by simp
  have HX : Hid (l ≠ [] → ∃ b off, a = some ⟨b, off, none⟩ ∧ D b ∧ ∀ (i : Nat) (h : i < l.length), ((w.alloc (.cells #[.int .u8 0, .int .u8 0, .int .u8 0, .int .u8 0, .int .u8 0, .int .u8 0, .int .u8 0, .int .u8 0, .int .u8 0, .int .u8 0] 68)).alloc (.cells #[.int .u8 0, .int .u8 0, .int .u8 0, .int .u8 0, .int .u8 0, .int .u8 0, .int .u8 0, .int .u8 0, .int .u8 0, .int .u8 0] 68)).cell? ⟨b, off + i, none⟩ = some (.int .u8 l[i])) := fun hne => by
    obtain ⟨b, off, h1, h2, h3⟩ := hx hne
    refine ⟨b, off, h1, h2, fun i hi => ?_⟩
    have h4 := World.block_lt_of_cell? w _ (h3 i hi)
    rw [hWl.cell h4]
    exact h3 i hi
  go_enter Try.func31, Try.ntmps31
  go_wp2_with fail
  generalize ((w.alloc (.cells #[.int .u8 0, .int .u8 0, .int .u8 0, .int .u8 0, .int .u8 0, .int .u8 0, .int .u8 0, .int .u8 0, .int .u8 0, .int .u8 0] 68)).alloc (.cells #[.int .u8 0, .int .u8 0, .int .u8 0, .int .u8 0, .int .u8 0, .int .u8 0, .int .u8 0, .int .u8 0, .int .u8 0, .int .u8 0] 68)) = W at *
  have c0 : W.cell? ⟨rb, 0, none⟩ = some (.slice a l.length c) := by rw [cell_of_block hWr]; rfl
  have k0 : W.frozen? ⟨rb, 0, none⟩ = false := frozen_of_block hWr 0
  have HR := hide hWr; have HH := hide hWh; have HZ := hide hWz; have HL := hide hWl; have HS := hide hsz
  clear hWr hWh hWz hWl hsz hr hx
  have hrbW : rb < W.heap.size := by have := HS.out; omega
  have hcs : Hid (((l.take 10).map (Value.int .u8)).length = Nat.min l.length 10) := by show _ = _; simp [Nat.min_comm]
  have hfit : Hid (0 + ((l.take 10).map (Value.int .u8)).length ≤ zero10.length) := by show _ ≤ _; simp [zero10]; omega
  have hone : Hid (∀ v ∈ (l.take 10).map (Value.int .u8), v.oneCell' = true) := fun v hv => by
    obtain ⟨x, _, rfl⟩ := List.mem_map.1 hv
    rfl
  have hsrc := hide (src_left (m := 10) HX.out)
  go_region_held3 (fun w' => w'.cell? ⟨rb, 0, none⟩ = some (.slice a l.length c))
    (first | go_keep | exact (hf3.cell hrbW (by omega)).trans c0)
    ((refine step_copy_any (by rfl) (.tmp 5) (.tmp 9) 32 32 (by rfl) 5 Try.underlying32 (by kernel_rfl) (w.heap.size + 1) 0 10 10 a l.length c (by rfl) (by rfl) zero10 68 HH.out ((l.take 10).map (Value.int .u8)) hcs.out hsrc.out hfit.out hone.out ?_; intro w3 hf3 hg3))
  have HF3 := hide hf3
  have hz3 : w3.heap[w.heap.size]? = some (.cells zero10.toArray 68 (0, 0)) := (HF3.out.block w.heap.size (by have := HS.out; show w.heap.size < W.heap.size; omega) (by omega)).trans HZ.out
  have HBL3 : Hid (Below w.heap.size w w3) := HL.out.drew.trans (HF3.out.below (by have := HS.out; show w.heap.size ≤ W.heap.size; omega) (fun k hk => by omega))
  have HZ3 := hide hz3
  clear hf3 hz3
  obtain ⟨y0, y1, y2, y3, y4, y5, y6, y7, y8, y9⟩ := ten_cells HZ3.out
  obtain ⟨z0, z1, z2, z3, z4, z5, z6, z7, z8, z9⟩ := ten_frozen HZ3.out
  go_wp2_with fail
  refine bodyPost_ret (v := .tuple #[.agg zero10.toArray, .bool false]) (by simp [results, Try.results31, go_sem, zero10, *]) rfl ⟨rfl, ?_⟩
  exact (((((((((HBL3.out.setCell (by simp) _).setCell (by simp) _).setCell (by simp) _).setCell (by simp) _).setCell (by simp) _).setCell (by simp) _).setCell (by simp) _).setCell (by simp) _).setCell (by simp) _).setCell (by simp) _

set_option maxRecDepth 20000 in
set_option maxHeartbeats 1000000 in
theorem head_ok (rb n : Nat) (D : Nat → Prop) (lv : Value) (l : List Int) (w : World) (hr : Rd w rb lv n) (hl : LeftAt w D lv l) (hD : ∀ k, D k → k < w.heap.size ∧ k ≠ rb) {b0 b1 b2 b3 b4 b5 b6 b7 b8 b9 : Int} {r : List Int} (hle : l = b0 :: b1 :: b2 :: b3 :: b4 :: b5 :: b6 :: b7 :: b8 :: b9 :: r) :
    Calls Try.prog 31 #[.pointer (some ⟨rb, 0, none⟩)] w fun e w' => e = .returned (.tuple #[.agg #[.int .u8 b0, .int .u8 b1, .int .u8 b2, .int .u8 b3, .int .u8 b4, .int .u8 b5, .int .u8 b6, .int .u8 b7, .int .u8 b8, .int .u8 b9], .bool true]) ∧ Fr (fun k => k = rb) w w' ∧ ∃ lv', Rd w' rb lv' n ∧ LeftAt w' D lv' r := by
  have HLE := hide hle
  have hlen : 10 ≤ l.length := by rw [hle]; simp
  have HMAP : Hid ((l.take 10).map (Value.int .u8) = [.int .u8 b0, .int .u8 b1, .int .u8 b2, .int .u8 b3, .int .u8 b4, .int .u8 b5, .int .u8 b6, .int .u8 b7, .int .u8 b8, .int .u8 b9]) := by show _ = _; rw [hle]; rfl
  clear hle
  have HLD := hide hl; have HDD := hide hD
  clear hD
  obtain ⟨a, c, rfl, hc1, hc2, hx⟩ := hl
  unfold maxLen at hc2
  have hlt := size_of_block hr
  have hWr : ((w.alloc (.cells #[.int .u8 0, .int .u8 0, .int .u8 0, .int .u8 0, .int .u8 0, .int .u8 0, .int .u8 0, .int .u8 0, .int .u8 0, .int .u8 0] 68)).alloc (.cells #[.int .u8 0, .int .u8 0, .int .u8 0, .int .u8 0, .int .u8 0, .int .u8 0, .int .u8 0, .int .u8 0, .int .u8 0, .int .u8 0] 68)).heap[rb]? = some (.cells #[.slice a l.length c, .int .i64 (n : Nat)] 58 (0, 0)) := by
    rw [Below.heap_alloc _ _ _ (by simp; omega), Below.heap_alloc _ _ _ hlt]; exact hr
  have hWh : ((w.alloc (.cells #[.int .u8 0, .int .u8 0, .int .u8 0, .int .u8 0, .int .u8 0, .int .u8 0, .int .u8 0, .int .u8 0, .int .u8 0, .int .u8 0] 68)).alloc (.cells #[.int .u8 0, .int .u8 0, .int .u8 0, .int .u8 0, .int .u8 0, .int .u8 0, .int .u8 0, .int .u8 0, .int .u8 0, .int .u8 0] 68)).heap[w.heap.size + 1]? = some (.cells zero10.toArray 68 (0, 0)) := by
    have := heap_alloc_new (w.alloc (.cells #[.int .u8 0, .int .u8 0, .int .u8 0, .int .u8 0, .int .u8 0, .int .u8 0, .int .u8 0, .int .u8 0, .int .u8 0, .int .u8 0] 68)) (.cells #[.int .u8 0, .int .u8 0, .int .u8 0, .int .u8 0, .int .u8 0, .int .u8 0, .int .u8 0, .int .u8 0, .int .u8 0, .int .u8 0] 68)
    rw [World.size_alloc] at this
    exact this
  have hWz : ((w.alloc (.cells #[.int .u8 0, .int .u8 0, .int .u8 0, .int .u8 0, .int .u8 0, .int .u8 0, .int .u8 0, .int .u8 0, .int .u8 0, .int .u8 0] 68)).alloc (.cells #[.int .u8 0, .int .u8 0, .int .u8 0, .int .u8 0, .int .u8 0, .int .u8 0, .int .u8 0, .int .u8 0, .int .u8 0, .int .u8 0] 68)).heap[w.heap.size]? = some (.cells zero10.toArray 68 (0, 0)) := by
    rw [Below.heap_alloc _ _ _ (by simp)]; exact heap_alloc_new w _
  have hWl : Below w.heap.size w ((w.alloc (.cells #[.int .u8 0, .int .u8 0, .int .u8 0, .int .u8 0, .int .u8 0, .int .u8 0, .int .u8 0, .int .u8 0, .int .u8 0, .int .u8 0] 68)).alloc (.cells #[.int .u8 0, .int .u8 0, .int .u8 0, .int .u8 0, .int .u8 0, .int .u8 0, .int .u8 0, .int .u8 0, .int .u8 0, .int .u8 0] 68)) := ((Below.refl _ _).alloc (Nat.le_refl _) _).alloc (by simp) _
  have hsz : ((w.alloc (.cells #[.int .u8 0, .int .u8 0, .int .u8 0, .int .u8 0, .int .u8 0, .int .u8 0, .int .u8 0, .int .u8 0, .int .u8 0, .int .u8 0] 68)).alloc (.cells #[.int .u8 0, .int .u8 0, .int .u8 0, .int .u8 0, .int .u8 0, .int .u8 0, .int .u8 0, .int .u8 0, .int .u8 0, .int .u8 0] 68)).heap.size = w.heap.size + 2 := by simp
  have HX : Hid (l ≠ [] → ∃ b off, a = some ⟨b, off, none⟩ ∧ D b ∧ ∀ (i : Nat) (h : i < l.length), ((w.alloc (.cells #[.int .u8 0, .int .u8 0, .int .u8 0, .int .u8 0, .int .u8 0, .int .u8 0, .int .u8 0, .int .u8 0, .int .u8 0, .int .u8 0] 68)).alloc (.cells #[.int .u8 0, .int .u8 0, .int .u8 0, .int .u8 0, .int .u8 0, .int .u8 0, .int .u8 0, .int .u8 0, .int .u8 0, .int .u8 0] 68)).cell? ⟨b, off + i, none⟩ = some (.int .u8 l[i])) := fun hne => by
    obtain ⟨b, off, h1, h2, h3⟩ := hx hne
    refine ⟨b, off, h1, h2, fun i hi => ?_⟩
    have h4 := World.block_lt_of_cell? w _ (h3 i hi)
    rw [hWl.cell h4]
    exact h3 i hi
  go_enter Try.func31, Try.ntmps31
  go_wp2_with fail
  generalize ((w.alloc (.cells #[.int .u8 0, .int .u8 0, .int .u8 0, .int .u8 0, .int .u8 0, .int .u8 0, .int .u8 0, .int .u8 0, .int .u8 0, .int .u8 0] 68)).alloc (.cells #[.int .u8 0, .int .u8 0, .int .u8 0, .int .u8 0, .int .u8 0, .int .u8 0, .int .u8 0, .int .u8 0, .int .u8 0, .int .u8 0] 68)) = W at *
  have c0 : W.cell? ⟨rb, 0, none⟩ = some (.slice a l.length c) := by rw [cell_of_block hWr]; rfl
  have k0 : W.frozen? ⟨rb, 0, none⟩ = false := frozen_of_block hWr 0
  have HR := hide hWr; have HH := hide hWh; have HZ := hide hWz; have HL := hide hWl; have HS := hide hsz
  clear hWr hWh hWz hWl hsz hr hx
  have hrbW : rb < W.heap.size := by have := HS.out; omega
  have hcs : Hid (((l.take 10).map (Value.int .u8)).length = Nat.min l.length 10) := by show _ = _; simp [Nat.min_comm]
  have hfit : Hid (0 + ((l.take 10).map (Value.int .u8)).length ≤ zero10.length) := by show _ ≤ _; simp [zero10]; omega
  have hone : Hid (∀ v ∈ (l.take 10).map (Value.int .u8), v.oneCell' = true) := fun v hv => by
    obtain ⟨x, _, rfl⟩ := List.mem_map.1 hv
    rfl
  have hsrc := hide (src_left (m := 10) HX.out)
  obtain ⟨bb, off, rfl, hDb, hcl⟩ := HX.out (by intro e; simp [e] at hlen)
  have HDB := hide hDb; have HCL := hide hcl
  clear hDb hcl
  go_region_held3 (fun w' => w'.cell? ⟨rb, 0, none⟩ = some (.slice (some ⟨bb, off, none⟩) l.length c))
    (first | go_keep | exact (hf3.cell hrbW (by omega)).trans c0)
    ((refine step_copy_any (by rfl) (.tmp 5) (.tmp 9) 32 32 (by rfl) 5 Try.underlying32 (by kernel_rfl) (w.heap.size + 1) 0 10 10 (some ⟨bb, off, none⟩) l.length c (by rfl) (by rfl) zero10 68 HH.out ((l.take 10).map (Value.int .u8)) hcs.out hsrc.out hfit.out hone.out ?_; intro w3 hf3 hg3))
  have HF3 := hide hf3
  have hs3 : W.heap.size ≤ w3.heap.size := HF3.out.size
  have hz3 : w3.heap[w.heap.size]? = some (.cells zero10.toArray 68 (0, 0)) := (HF3.out.block w.heap.size (by have := HS.out; show w.heap.size < W.heap.size; omega) (by omega)).trans HZ.out
  have hh3 : w3.heap[w.heap.size + 1]? = some (.cells #[.int .u8 b0, .int .u8 b1, .int .u8 b2, .int .u8 b3, .int .u8 b4, .int .u8 b5, .int .u8 b6, .int .u8 b7, .int .u8 b8, .int .u8 b9] 68 (0, 0)) := by
    have h1 := hg3.out
    rw [HMAP.out] at h1
    exact h1
  have hr3 : w3.heap[rb]? = some (.cells #[.slice (some ⟨bb, off, none⟩) l.length c, .int .i64 (n : Nat)] 58 (0, 0)) := (HF3.out.block rb hrbW (by omega)).trans HR.out
  have m0 : w3.cell? ⟨rb, 0, none⟩ = some (.slice (some ⟨bb, off, none⟩) l.length c) := by rw [cell_of_block hr3]; rfl
  have m1 : w3.frozen? ⟨rb, 0, none⟩ = false := frozen_of_block hr3 0
  have HZ3 := hide hz3; have HH3 := hide hh3; have HR3 := hide hr3
  clear hf3 hz3 hh3 hr3 hg3
  obtain ⟨y0, y1, y2, y3, y4, y5, y6, y7, y8, y9⟩ := ten_cells HZ3.out
  obtain ⟨z0, z1, z2, z3, z4, z5, z6, z7, z8, z9⟩ := ten_frozen HZ3.out
  obtain ⟨x0, x1, x2, x3, x4, x5, x6, x7, x8, x9⟩ := ten_cells HH3.out
  obtain ⟨A, hA, HAA⟩ : ∃ A : Option Addr, (if c = 10 then some (⟨bb, off, none⟩ : Addr) else some ⟨bb, off + 10, none⟩) = A ∧ Hid (10 < l.length → A = some ⟨bb, off + 10, none⟩) := ⟨_, rfl, fun h => if_neg (by omega)⟩
  go_wp2_with fail
  have HBL3 : Below w.heap.size w w3 := HL.out.drew.trans (HF3.out.below (by have := HS.out; show w.heap.size ≤ W.heap.size; omega) (fun k hk => by omega))
  have hFr : ∀ V, Fr (fun k => k = rb) w ((((((((((((w3.setCell ⟨rb, 0, none⟩ V).setCell ⟨w.heap.size, 0, none⟩ (.int .u8 b0)).setCell ⟨w.heap.size, 1, none⟩ (.int .u8 b1)).setCell ⟨w.heap.size, 2, none⟩ (.int .u8 b2)).setCell ⟨w.heap.size, 3, none⟩ (.int .u8 b3)).setCell ⟨w.heap.size, 4, none⟩ (.int .u8 b4)).setCell ⟨w.heap.size, 5, none⟩ (.int .u8 b5)).setCell ⟨w.heap.size, 6, none⟩ (.int .u8 b6)).setCell ⟨w.heap.size, 7, none⟩ (.int .u8 b7)).setCell ⟨w.heap.size, 8, none⟩ (.int .u8 b8)).setCell ⟨w.heap.size, 9, none⟩ (.int .u8 b9))) := fun V =>
    by
    iterate 10 (refine Fr.setNew ?_ (Nat.le_refl _) _)
    exact Fr.setCell (M := fun k => k = rb) (Fr.of_below HBL3) (p := ⟨rb, 0, none⟩) rfl V
  refine bodyPost_ret (v := .tuple #[.agg #[.int .u8 b0, .int .u8 b1, .int .u8 b2, .int .u8 b3, .int .u8 b4, .int .u8 b5, .int .u8 b6, .int .u8 b7, .int .u8 b8, .int .u8 b9], .bool true]) (by simp [results, Try.results31, go_sem, *]) rfl ⟨rfl, hFr _, .slice A (l.length - 10) (c - 10), ?_, A, c - 10, ?_, ?_, by unfold maxLen; omega, fun hne => ?_⟩
  · unfold Rd
    iterate 10 rw [heap_setCell_other _ _ _ _ (by dsimp only; omega)]
    rw [heap_setCell_same _ _ _ _ _ _ HR3.out]
    rfl
  · rw [HLE.out]; simp
  · have h1 := HLE.out
    have h2 : l.length = r.length + 10 := by rw [h1]; simp
    omega
  · have h1 := HLE.out
    have h2 : l.length = r.length + 10 := by rw [h1]; simp
    have h3 := List.length_pos_iff.2 hne
    refine ⟨bb, off + 10, HAA.out (by omega), HDB.out, fun i hi => ?_⟩
    have h4 := HDD.out bb HDB.out
    rw [(hFr _).cell h4.1 h4.2]
    have h5 := HCL.out (10 + i) (by omega)
    rw [HL.out.cell h4.1, ← Nat.add_assoc] at h5
    rw [h5]
    have h6 : r = l.drop 10 := by rw [h1]; rfl
    have h7 : r[i]? = l[10 + i]? := by rw [h6, List.getElem?_drop]
    rw [List.getElem?_eq_getElem (show 10 + i < l.length by omega), List.getElem?_eq_getElem hi] at h7
    rw [Option.some.inj h7]
#print axioms head_ok
end Go.Proofs.Ytafafeplciidhaa
