/- row.with: a row below more binders. -/
import Derived.Test.YtjiecahopdaghabDoorNd
import Derived.Deep.AppendSrc
import Derived.Laws.IdiomCopy
import Derived.Laws.MakeOwn
namespace Go.Proofs.YtjiecahopdaghabDoor
open Go.RowKit

theorem below_cells {B g : Nat} {a : World} (hg : B ≤ g) : ∀ (vs : List Value) (o : Nat) (w : World), Below B a w → Below B a (w.setCells g o vs)
  | [], _, _, h => h
  | v :: r, o, _, h => below_cells hg r (o + 1) _ (h.setCell (p := ⟨g, o, none⟩) hg v)

theorem size_cells (g : Nat) : ∀ (vs : List Value) (o : Nat) (w : World), (w.setCells g o vs).heap.size = w.heap.size
  | [], _, _ => rfl
  | v :: r, o, w => (size_cells g r (o + 1) _).trans (by simp [World.setCell])

theorem Tryd.info66 : (Tryd.prog.info? 66).map (fun i => (i.zero, i.size, i.bytes)) = some (some (.pointer none), 1, 8) := by kernel_rfl

theorem src_row {X : Nat → Prop} {w : World} {mb n cap : Nat} {A : Nat → Nat} {a : Option Addr} {ids : List Nat} (h : PRow w X mb A n a ids cap) {tx e : TypeId} (hk : Tryd.prog.underlying tx = some (.slice e)) :
    Src Tryd.prog 1 tx (.slice a ids.length cap) ids.length (ids.map fun i => pt (A i)) w := by
  by_cases hne : ids = []
  · subst hne
    cases a with
    | none => exact Src.ofNil w hk cap
    | some ad => exact Src.ofSlice w hk ad 0 cap [] rfl (fun j u hu => by simp at hu) (fun u hu => by simp at hu)
  · obtain ⟨b, rfl, hb, hm, hc⟩ := h.2.2.2 hne
    refine Src.ofSlice w hk ⟨b, 0, none⟩ ids.length cap _ (by simp) (fun j u hu => ?_) (fun u hu => ?_)
    · rw [List.getElem?_map] at hu
      obtain ⟨i, hi, rfl⟩ := Option.map_eq_some_iff.1 hu
      obtain ⟨hj, hij⟩ := List.getElem?_eq_some_iff.1 hi
      rw [Addr.add_lit, Nat.zero_add, hc j hj, hij]
    · obtain ⟨i, _, rfl⟩ := List.mem_map.1 hu
      rfl
theorem make_parts (t : TypeId) (ht : Tryd.prog.underlying t = some (.slice 66)) (w : World) (l n : Nat) (hl : l ≤ n) (hn : n ≤ 1000000000) : ∃ cs : Array Value, cs.size = n ∧ (Instr.makeSlice t (.int .i64 (l : Nat)) (.int .i64 (n : Nat))).run Tryd.prog w = .ok (.slice (some ⟨w.heap.size, 0, none⟩) l n) (w.alloc (.cells cs 66)) := by
  obtain ⟨i, hi, hz0, hz1, hz2⟩ := info_parts Tryd.info66
  have h := run_make (P := Tryd.prog) w t 66 i _ ht hi hz0 .i64 .i64 l n (by omega) (by omega) (by rw [hz2]; omega) (by omega)
  rw [hz1, Int.toNat_natCast, Int.toNat_natCast] at h
  exact ⟨_, by rw [size_madeCells]; omega, h⟩

/-- An append whose run is known. -/
theorem wpList_append_run {P : Program} {w : World} {ops : Array Oper} {rest : List Oper} {o : Oper} {a : Act} {Q : Exit → Act → World → Prop} (hgd : o.guard = none) (s x : Operand) (ts : Array TypeId)
    (ho : o.op = .call { callee := .builtin .append, args := #[s, x], argTypes := ts }) (u v r : Value) (hs : a.eval s = u) (hx : a.eval x = v) (w' : World) (hr : (Builtin.append_ ts o.type #[u, v]).run P w = .ok r w')
    (h : wpList P ops Q rest (a.put o.dst r) w') : wpList P ops Q (o :: rest) a w := by
  refine wpList_plain hgd fun K hK => ?_
  unfold Oper.wp
  simp only [execOp, ho, resolve, invoke, builtin, Sem.run_bind, Sem.run_pure, Result.andThen_ok, List.map_toArray, List.map_cons, List.map_nil, hs, hx, hr]
  exact hK _ _ h

set_option maxRecDepth 20000 in
theorem with_any {X : Nat → Prop} {w : World} {mb n c1 c2 : Nat} {A : Nat → Nat} {a1 a2 : Option Addr} {sc args : List Nat} (h1 : PRow w X mb A n a1 sc c1) (h2 : PRow w X mb A n a2 args c2) (hmb : mb < w.heap.size) (hA : ∀ i, i < n → A i < w.heap.size) (hX : ∀ q, X q → q < w.heap.size) (hl : sc.length + args.length ≤ 100000000) :
    Calls Tryd.prog 77 #[.slice a1 sc.length c1, .slice a2 args.length c2] w fun x w' => ∃ a', x = .returned (.slice a' (sc ++ args).length (sc.length + args.length)) ∧ PRow w' X mb A n a' (sc ++ args) (sc.length + args.length) ∧ Below w.heap.size w w' := by
  obtain ⟨i, hi, hz0, hz1, hz2⟩ := info_parts Tryd.info66
  obtain ⟨cs, hcs, hmk⟩ := make_parts 100 Tryd.underlying100 w 0 (sc.length + args.length) (by omega) (by omega)
  obtain ⟨w1, hw1⟩ : ∃ w1, w1 = w.alloc (.cells cs 66) := ⟨_, rfl⟩
  have hn1 : w1.heap[w.heap.size]? = some (.cells cs 66 (0, 0)) := by rw [hw1]; exact heap_alloc_new _ _
  have hb1 : Below w.heap.size w w1 := by rw [hw1]; exact later_alloc _ _
  have hs1 : w1.heap.size = w.heap.size + 1 := by rw [hw1]; simp
  have s1 : Src Tryd.prog 1 100 (.slice a1 sc.length c1) sc.length (sc.map fun i => pt (A i)) w1 := by
    refine src_row (n := n) (mb := mb) (X := X) ⟨h1.1, h1.2.1, h1.2.2.1, fun hne => ?_⟩ Tryd.underlying100
    obtain ⟨b, e, hb, hm, hc⟩ := h1.2.2.2 hne
    exact ⟨b, e, by omega, hm, fun j hj => (hb1.cell (p := ⟨b, j, none⟩) hb).trans (hc j hj)⟩
  have hc1 : ∀ j, j < sc.length + args.length → (w1.cell? ⟨w.heap.size, j, none⟩).isSome = true := fun j hj => by
    rw [cell_of_block hn1, Array.getElem?_eq_getElem (by omega)]; rfl
  have hf1 : ∀ j, w1.frozen? ⟨w.heap.size, j, none⟩ = false := fun j => frozen_of_block hn1 j
  have r1 := run_append_room_src w1 100 100 100 66 i Tryd.underlying100 hi w.heap.size 0 0 (sc.length + args.length) _ sc.length _ (by rw [hz1]; exact s1) (by omega) (fun j hj => by simp at hj; rw [hz1]; exact hc1 _ (by omega)) (fun j _ => hf1 _)
  rw [hz1] at r1
  simp only [Nat.zero_add, Nat.zero_mul] at r1
  obtain ⟨w2, hw2⟩ : ∃ w2, w2 = w1.setCells w.heap.size 0 (sc.map fun i => pt (A i)) := ⟨_, rfl⟩
  rw [← hw2] at r1
  have hb2 : Below w.heap.size w w2 := by rw [hw2]; exact below_cells (Nat.le_refl _) _ _ _ hb1
  have s2 : Src Tryd.prog 1 99 (.slice a2 args.length c2) args.length (args.map fun i => pt (A i)) w2 := by
    refine src_row (n := n) (mb := mb) (X := X) ⟨h2.1, h2.2.1, h2.2.2.1, fun hne => ?_⟩ Tryd.underlying99
    obtain ⟨b, e, hb, hm, hc⟩ := h2.2.2.2 hne
    exact ⟨b, e, by have := hb2.size; omega, hm, fun j hj => (hb2.cell (p := ⟨b, j, none⟩) hb).trans (hc j hj)⟩
  have hc2 : ∀ j, j < sc.length + args.length → (w2.cell? ⟨w.heap.size, j, none⟩).isSome = true := fun j hj => by
    rw [hw2]
    by_cases hj1 : j < sc.length
    · have := World.cell?_setCells_in w.heap.size (sc.map fun i => pt (A i)) 0 w1 (fun j hj => by simp at hj; rw [Nat.zero_add]; exact hc1 _ (by omega)) j (by simpa using hj1)
      rw [Nat.zero_add] at this
      rw [this]; rfl
    · rw [World.cell?_setCells_out _ _ _ _ _ (fun _ _ => Or.inr (by simp; omega))]
      exact hc1 j hj
  have hf2 : ∀ j, w2.frozen? ⟨w.heap.size, j, none⟩ = false := fun j => by rw [hw2, World.frozen?_setCells]; exact hf1 j
  have r2 := run_append_room_src w2 100 99 100 66 i Tryd.underlying100 hi w.heap.size 0 sc.length (sc.length + args.length) _ args.length _ (by rw [hz1]; exact s2) (by omega) (fun j hj => by simp at hj; rw [hz1]; exact hc2 _ (by omega)) (fun j _ => hf2 _)
  rw [hz1] at r2
  simp only [Nat.zero_add, Nat.mul_one] at r2
  obtain ⟨w3, hw3⟩ : ∃ w3, w3 = w2.setCells w.heap.size sc.length (args.map fun i => pt (A i)) := ⟨_, rfl⟩
  rw [← hw3] at r2
  have hb3 : Below w.heap.size w w3 := by rw [hw3]; exact below_cells (Nat.le_refl _) _ _ _ hb2
  have HP : Hid (PRow w3 X mb A n (some ⟨w.heap.size, 0, none⟩) (sc ++ args) (sc.length + args.length)) := hide (by
    refine ⟨by simp, hl, fun i hi => ?_, fun _ => ⟨w.heap.size, rfl, ?_, ?_, fun j hj => ?_⟩⟩
    · rcases List.mem_append.1 hi with h | h
      · exact h1.2.2.1 i h
      · exact h2.2.2.1 i h
    · have e2 : w2.heap.size = w1.heap.size := by rw [hw2]; exact size_cells _ _ _ _
      have e3 : w3.heap.size = w2.heap.size := by rw [hw3]; exact size_cells _ _ _ _
      omega
    · rintro ((h | ⟨j, hj, h⟩) | h)
      · omega
      · have := hA j hj; omega
      · have := hX _ h; omega
    · rw [hw3]
      by_cases hj1 : j < sc.length
      · rw [World.cell?_setCells_out _ _ _ _ _ (fun _ _ => Or.inl hj1), hw2]
        have := World.cell?_setCells_in w.heap.size (sc.map fun i => pt (A i)) 0 w1 (fun j hj => by simp at hj; rw [Nat.zero_add]; exact hc1 _ (by omega)) j (by simpa using hj1)
        rw [Nat.zero_add] at this
        rw [this, List.getElem_append_left hj1]
        simp
      · have hj2 : j - sc.length < args.length := by simp at hj; omega
        have := World.cell?_setCells_in w.heap.size (args.map fun i => pt (A i)) sc.length w2 (fun j hj => by simp at hj; exact hc2 _ (by omega)) (j - sc.length) (by simpa using hj2)
        rw [show sc.length + (j - sc.length) = j by omega] at this
        rw [this, List.getElem_append_right (by omega)]
        simp)
  have HB3 := hide hb3
  have hla : (sc ++ args).length = sc.length + args.length := by simp
  have hwr : IntKind.i64.wrap ((sc.length : Int) + (args.length : Int)) = ((sc.length + args.length : Nat) : Int) := by rw [IntKind.wrap_i64]; omega
  rw [hla]
  clear h1 h2 hmb hA hX hi hz0 hz1 hz2 hcs hn1 hb1 s1 hc1 hf1 hb2 s2 hc2 hf2 hb3 hw2 hw3 hla hs1
  rw [← hw1, Int.natCast_add] at hmk
  change (Instr.makeSlice 100 (.int .i64 0) (.int .i64 ((sc.length : Int) + (args.length : Int)))).run Tryd.prog w = _ at hmk
  clear hw1
  have R1 := hide r1; have R2 := hide r2
  clear r1 r2
  go_enter Tryd.func77, Tryd.ntmps77
  go_wp2_with (at_builtin; first
    | (refine wpList_append_run rfl (.tmp 12) (.tmp 13) #[100, 100] rfl _ _ _ rfl rfl _ R1.out ?_)
    | (refine wpList_append_run rfl (.tmp 14) (.tmp 15) #[100, 99] rfl _ _ _ rfl rfl _ R2.out ?_))
  go_ret
  exact ⟨_, rfl, HP.out, HB3.out⟩
#print axioms with_any
end Go.Proofs.YtjiecahopdaghabDoor
