/- What is known of memory; a new block, a row that is never written, a block that is written. -/
import Derived.Test.YthklnpkjlepagaaGreatDoorQa
namespace Go.Proofs.YthklnpkjlepagaaGreatDoor.Ab
open Go.RowKit

theorem size_of_block {w : World} {k : Nat} {o : Obj} (h : w.heap[k]? = some o) : k < w.heap.size := by
  rcases Nat.lt_or_ge k w.heap.size with hl | hl
  · exact hl
  · rw [Array.getElem?_eq_none hl] at h; cases h
theorem rv_ex {C : Cx} {v : Value} : RV C (AV.ex v) v := ⟨1, by simp [Rep, AV.ex]⟩
theorem rv_any {C : Cx} {v : Value} : RV C AV.any v := ⟨1, by simp [Rep, AV.any]⟩
theorem rv_ptr {C : Cx} {a b : Nat} (h : C.A a) {cs : Array Value} {ty : Nat} (hb : C.w.heap[C.mu a]? = some (.cells cs ty (0, 0))) : RV C (AV.ptr a b) (.pointer (some ⟨C.mu a, b, none⟩)) :=
  ⟨1, fun e => absurd e (by simp [AV.ptr]), fun e => absurd e (by simp [AV.ptr]), fun e => absurd e (by simp [AV.ptr]), fun _ => ⟨rfl, h, cs, ty, hb⟩, fun e => absurd e (by simp [AV.ptr]), fun e => absurd e (by simp [AV.ptr]), fun e => absurd e (by simp [AV.ptr]), fun e => absurd e (by simp [AV.ptr]), fun e => absurd e (by simp [AV.ptr]), fun e => absurd e (by simp [AV.ptr]), fun e => absurd e (by simp [AV.ptr]), fun e => absurd e (by simp [AV.ptr]), fun e => absurd e (by simp [AV.ptr])⟩
theorem rv_agg {C : Cx} {ks : List AV} {us : Array Value} (h : RL C ks us.toList) : RV C (AV.agg ks) (.agg us) := by
  obtain ⟨f, hf⟩ := RL.all h
  exact ⟨f + 1, fun e => absurd e (by simp [AV.agg]), fun _ => ⟨us, rfl, hf⟩, fun e => absurd e (by simp [AV.agg]), fun e => absurd e (by simp [AV.agg]), fun e => absurd e (by simp [AV.agg]), fun e => absurd e (by simp [AV.agg]), fun e => absurd e (by simp [AV.agg]), fun e => absurd e (by simp [AV.agg]), fun e => absurd e (by simp [AV.agg]), fun e => absurd e (by simp [AV.agg]), fun e => absurd e (by simp [AV.agg]), fun e => absurd e (by simp [AV.agg]), fun e => absurd e (by simp [AV.agg])⟩
theorem rv_tup {C : Cx} {ks : List AV} {us : Array Value} (h : RL C ks us.toList) : RV C (AV.tup ks) (.tuple us) := by
  obtain ⟨f, hf⟩ := RL.all h
  exact ⟨f + 1, fun e => absurd e (by simp [AV.tup]), fun e => absurd e (by simp [AV.tup]), fun _ => ⟨us, rfl, hf⟩, fun e => absurd e (by simp [AV.tup]), fun e => absurd e (by simp [AV.tup]), fun e => absurd e (by simp [AV.tup]), fun e => absurd e (by simp [AV.tup]), fun e => absurd e (by simp [AV.tup]), fun e => absurd e (by simp [AV.tup]), fun e => absurd e (by simp [AV.tup]), fun e => absurd e (by simp [AV.tup]), fun e => absurd e (by simp [AV.tup]), fun e => absurd e (by simp [AV.tup])⟩
theorem rv_iptr {C : Cx} {ks : List AV} {k off : Nat} {us : List Value} (hi : ImmAt C k off us) (h : RL C ks us) : RV C (AV.iptr ks) (.pointer (some ⟨k, off, none⟩)) := by
  obtain ⟨f, hf⟩ := RL.all h
  exact ⟨f + 1, fun e => absurd e (by simp [AV.iptr]), fun e => absurd e (by simp [AV.iptr]), fun e => absurd e (by simp [AV.iptr]), fun e => absurd e (by simp [AV.iptr]), fun _ => ⟨k, off, us, rfl, hi, hf⟩, fun e => absurd e (by simp [AV.iptr]), fun e => absurd e (by simp [AV.iptr]), fun e => absurd e (by simp [AV.iptr]), fun e => absurd e (by simp [AV.iptr]), fun e => absurd e (by simp [AV.iptr]), fun e => absurd e (by simp [AV.iptr]), fun e => absurd e (by simp [AV.iptr]), fun e => absurd e (by simp [AV.iptr])⟩
theorem rv_row {C : Cx} {ks : List AV} {k off c d : Nat} {us : List Value} (hc : c ≤ maxLen) (hl : us.length = c * d) (hi : ImmAt C k off us) (h : RL C ks us) : RV C (AV.row c d ks) (.slice (some ⟨k, off, none⟩) c c) := by
  obtain ⟨f, hf⟩ := RL.all h
  exact ⟨f + 1, fun e => absurd e (by simp [AV.row]), fun e => absurd e (by simp [AV.row]), fun e => absurd e (by simp [AV.row]), fun e => absurd e (by simp [AV.row]), fun e => absurd e (by simp [AV.row]), fun e => absurd e (by simp [AV.row]), fun e => absurd e (by simp [AV.row]), fun _ => ⟨k, off, us, rfl, hc, hl, hi, hf⟩, fun e => absurd e (by simp [AV.row]), fun e => absurd e (by simp [AV.row]), fun e => absurd e (by simp [AV.row]), fun e => absurd e (by simp [AV.row]), fun e => absurd e (by simp [AV.row])⟩
theorem rv_sl {C : Cx} {a b c d cap ty : Nat} {cs : Array Value} (ha : C.A a) (hc : c ≤ cap) (hm : cap ≤ maxLen) (hb : C.w.heap[C.mu a]? = some (.cells cs ty (0, 0))) (hs : b + cap * d ≤ cs.size) : RV C (AV.sl a b c d) (.slice (some ⟨C.mu a, b, none⟩) c cap) := by
  exact ⟨1, fun e => absurd e (by simp [AV.sl]), fun e => absurd e (by simp [AV.sl]), fun e => absurd e (by simp [AV.sl]), fun e => absurd e (by simp [AV.sl]), fun e => absurd e (by simp [AV.sl]), fun _ => ⟨cap, cs, ty, rfl, ha, hc, hm, hb, hs⟩, fun e => absurd e (by simp [AV.sl]), fun e => absurd e (by simp [AV.sl]), fun e => absurd e (by simp [AV.sl]), fun e => absurd e (by simp [AV.sl]), fun e => absurd e (by simp [AV.sl]), fun e => absurd e (by simp [AV.sl]), fun e => absurd e (by simp [AV.sl])⟩
theorem rv_row8 {C : Cx} {ks : List AV} {k off c d cap : Nat} {us : List Value} (h1 : c ≤ cap) (hc : cap ≤ maxLen) (hl : us.length = c * d) (hi : ImmAt C k off us) (h : RL C ks us) : RV C (AV.row8 c d ks) (.slice (some ⟨k, off, none⟩) c cap) := by
  obtain ⟨f, hf⟩ := RL.all h
  exact ⟨f + 1, fun e => absurd e (by simp [AV.row8]), fun e => absurd e (by simp [AV.row8]), fun e => absurd e (by simp [AV.row8]), fun e => absurd e (by simp [AV.row8]), fun e => absurd e (by simp [AV.row8]), fun e => absurd e (by simp [AV.row8]), fun e => absurd e (by simp [AV.row8]), fun e => absurd e (by simp [AV.row8]), fun _ => ⟨k, off, us, cap, rfl, h1, hc, hl, hi, hf⟩, fun e => absurd e (by simp [AV.row8]), fun e => absurd e (by simp [AV.row8]), fun e => absurd e (by simp [AV.row8]), fun e => absurd e (by simp [AV.row8])⟩
theorem rv_sym {C : Cx} {a : Nat} : RV C (AV.sym a) (C.S a) :=
  ⟨1, fun e => absurd e (by simp [AV.sym]), fun e => absurd e (by simp [AV.sym]), fun e => absurd e (by simp [AV.sym]), fun e => absurd e (by simp [AV.sym]), fun e => absurd e (by simp [AV.sym]), fun e => absurd e (by simp [AV.sym]), fun e => absurd e (by simp [AV.sym]), fun e => absurd e (by simp [AV.sym]), fun e => absurd e (by simp [AV.sym]), fun e => absurd e (by simp [AV.sym]), fun e => absurd e (by simp [AV.sym]), fun _ => rfl, fun e => absurd e (by simp [AV.sym])⟩
theorem rv_isym {C : Cx} {a : Nat} {n : Int} (h : C.S a = .int .i64 n) : RV C (AV.isym a) (C.S a) :=
  ⟨1, fun e => absurd e (by simp [AV.isym]), fun e => absurd e (by simp [AV.isym]), fun e => absurd e (by simp [AV.isym]), fun e => absurd e (by simp [AV.isym]), fun e => absurd e (by simp [AV.isym]), fun e => absurd e (by simp [AV.isym]), fun e => absurd e (by simp [AV.isym]), fun e => absurd e (by simp [AV.isym]), fun e => absurd e (by simp [AV.isym]), fun e => absurd e (by simp [AV.isym]), fun e => absurd e (by simp [AV.isym]), fun e => absurd e (by simp [AV.isym]), fun _ => ⟨fun e => absurd e (by simp [AV.isym]), fun _ => ⟨rfl, n, h⟩, fun e => absurd e (by simp [AV.isym]), Or.inl (Nat.le_refl _)⟩⟩
theorem rv_mp {C : Cx} {a : Nat} (h : C.A a) : RV C (AV.mp a) (.map (some (C.mu a))) :=
  ⟨1, fun e => absurd e (by simp [AV.mp]), fun e => absurd e (by simp [AV.mp]), fun e => absurd e (by simp [AV.mp]), fun e => absurd e (by simp [AV.mp]), fun e => absurd e (by simp [AV.mp]), fun e => absurd e (by simp [AV.mp]), fun e => absurd e (by simp [AV.mp]), fun e => absurd e (by simp [AV.mp]), fun e => absurd e (by simp [AV.mp]), fun e => absurd e (by simp [AV.mp]), fun e => absurd e (by simp [AV.mp]), fun e => absurd e (by simp [AV.mp]), fun _ => ⟨fun _ => ⟨rfl, h⟩, fun e => absurd e (by simp [AV.mp]), fun e => absurd e (by simp [AV.mp]), by simp [AV.mp]⟩⟩
theorem rv_ub {C : Cx} {b : Bool} : RV C AV.ub (.bool b) :=
  ⟨1, fun e => absurd e (by simp [AV.ub]), fun e => absurd e (by simp [AV.ub]), fun e => absurd e (by simp [AV.ub]), fun e => absurd e (by simp [AV.ub]), fun e => absurd e (by simp [AV.ub]), fun e => absurd e (by simp [AV.ub]), fun e => absurd e (by simp [AV.ub]), fun e => absurd e (by simp [AV.ub]), fun e => absurd e (by simp [AV.ub]), fun e => absurd e (by simp [AV.ub]), fun e => absurd e (by simp [AV.ub]), fun e => absurd e (by simp [AV.ub]), fun _ => ⟨fun e => absurd e (by simp [AV.ub]), fun e => absurd e (by simp [AV.ub]), fun _ => ⟨b, rfl⟩, Or.inr rfl⟩⟩
theorem RV.hi {C : Cx} {x : AV} {v : Value} (h : RV C x v) (e : 13 ≤ x.t) : HiR C x v := by
  obtain ⟨f, hf⟩ := h
  match f, hf with
  | 0, hf => exact hf.elim
  | f + 1, hf => exact hf.2.2.2.2.2.2.2.2.2.2.2.2 e
theorem rv_len {C : Cx} {c cap : Nat} {a : Option Addr} : RV C (AV.len c) (.slice a c cap) :=
  ⟨1, fun e => absurd e (by simp [AV.len]), fun e => absurd e (by simp [AV.len]), fun e => absurd e (by simp [AV.len]), fun e => absurd e (by simp [AV.len]), fun e => absurd e (by simp [AV.len]), fun e => absurd e (by simp [AV.len]), fun _ => ⟨a, cap, rfl⟩, fun e => absurd e (by simp [AV.len]), fun e => absurd e (by simp [AV.len]), fun e => absurd e (by simp [AV.len]), fun e => absurd e (by simp [AV.len]), fun e => absurd e (by simp [AV.len]), fun e => absurd e (by simp [AV.len])⟩
theorem rv_fn {C : Cx} {g : Fn} {a : Nat} {ks : List AV} {us vs : Array Value} (h1 : RL C (ks.take a) us.toList) (h2 : RL C (ks.drop a) vs.toList) : RV C (AV.fn (.func g #[] #[]) a ks) (.func g us vs) := by
  obtain ⟨f, hf⟩ := RL.all h1
  obtain ⟨f', hf'⟩ := RL.all h2
  exact ⟨f + f' + 1, fun e => absurd e (by simp [AV.fn]), fun e => absurd e (by simp [AV.fn]), fun e => absurd e (by simp [AV.fn]), fun e => absurd e (by simp [AV.fn]), fun e => absurd e (by simp [AV.fn]), fun e => absurd e (by simp [AV.fn]), fun e => absurd e (by simp [AV.fn]), fun e => absurd e (by simp [AV.fn]), fun e => absurd e (by simp [AV.fn]), fun _ => ⟨g, us, vs, rfl, rfl, hf.imp fun _ _ r => Rep.more r (Nat.le_add_right _ _), hf'.imp fun _ _ r => Rep.more r (Nat.le_add_left _ _)⟩, fun e => absurd e (by simp [AV.fn]), fun e => absurd e (by simp [AV.fn]), fun e => absurd e (by simp [AV.fn])⟩
theorem rv_ifc {C : Cx} {a : Nat} {x : AV} {u : Value} (h : RV C x u) : RV C (AV.ifc a x) (.iface a u) := by
  obtain ⟨f, hf⟩ := h
  exact ⟨f + 1, fun e => absurd e (by simp [AV.ifc]), fun e => absurd e (by simp [AV.ifc]), fun e => absurd e (by simp [AV.ifc]), fun e => absurd e (by simp [AV.ifc]), fun e => absurd e (by simp [AV.ifc]), fun e => absurd e (by simp [AV.ifc]), fun e => absurd e (by simp [AV.ifc]), fun e => absurd e (by simp [AV.ifc]), fun e => absurd e (by simp [AV.ifc]), fun e => absurd e (by simp [AV.ifc]), fun _ => ⟨u, rfl, hf, trivial⟩, fun e => absurd e (by simp [AV.ifc]), fun e => absurd e (by simp [AV.ifc])⟩

/-- What a value is, by what is known of it. -/
theorem RV.case {C : Cx} {x : AV} {v : Value} (h : RV C x v) :
    (x.t = 0 → v = x.v) ∧
    (x.t = 1 → ∃ us, v = .agg us ∧ RL C x.ks us.toList) ∧
    (x.t = 2 → ∃ us, v = .tuple us ∧ RL C x.ks us.toList) ∧
    (x.t = 3 → v = .pointer (some ⟨C.mu x.a, x.b, none⟩) ∧ C.A x.a ∧ ∃ cs ty, C.w.heap[C.mu x.a]? = some (.cells cs ty (0, 0))) ∧
    (x.t = 4 → ∃ k off us, v = .pointer (some ⟨k, off, none⟩) ∧ ImmAt C k off us ∧ RL C x.ks us) ∧
    (x.t = 5 → ∃ cap cs ty, v = .slice (some ⟨C.mu x.a, x.b, none⟩) x.c cap ∧ C.A x.a ∧ x.c ≤ cap ∧ cap ≤ maxLen ∧ C.w.heap[C.mu x.a]? = some (.cells cs ty (0, 0)) ∧ x.b + cap * x.d ≤ cs.size) ∧
    (x.t = 6 → ∃ a cap, v = .slice a x.c cap) ∧
    (x.t = 7 → ∃ k off us, v = .slice (some ⟨k, off, none⟩) x.c x.c ∧ x.c ≤ maxLen ∧ us.length = x.c * x.d ∧ ImmAt C k off us ∧ RL C x.ks us) ∧
    (x.t = 8 → ∃ k off us cap, v = .slice (some ⟨k, off, none⟩) x.c cap ∧ x.c ≤ cap ∧ cap ≤ maxLen ∧ us.length = x.c * x.d ∧ ImmAt C k off us ∧ RL C x.ks us) ∧
    (x.t = 9 → ∃ g us vs, x.v = .func g #[] #[] ∧ v = .func g us vs ∧ RL C (x.ks.take x.a) us.toList ∧ RL C (x.ks.drop x.a) vs.toList) ∧
    (x.t = 10 → ∃ u, v = .iface x.a u ∧ RL C x.ks [u]) ∧
    (x.t = 12 → v = C.S x.a) := by
  obtain ⟨f, hf⟩ := h
  match f, hf with
  | 0, hf => exact hf.elim
  | f + 1, hf =>
    obtain ⟨g0, g1, g2, g3, g4, g5, g6, g7, g8, g9, g10, g12, _⟩ := hf
    refine ⟨g0, fun e => ?_, fun e => ?_, g3, fun e => ?_, g5, g6, fun e => ?_, fun e => ?_, fun e => ?_, fun e => ?_, g12⟩
    · obtain ⟨us, r, a⟩ := g1 e; exact ⟨us, r, RL.of a⟩
    · obtain ⟨us, r, a⟩ := g2 e; exact ⟨us, r, RL.of a⟩
    · obtain ⟨k, off, us, r, i, a⟩ := g4 e; exact ⟨k, off, us, r, i, RL.of a⟩
    · obtain ⟨k, off, us, r, c1, c2, i, a⟩ := g7 e; exact ⟨k, off, us, r, c1, c2, i, RL.of a⟩
    · obtain ⟨k, off, us, cap, r, c1, c2, c3, i, a⟩ := g8 e; exact ⟨k, off, us, cap, r, c1, c2, c3, i, RL.of a⟩
    · obtain ⟨gg, us, vs, r0, r, a, b⟩ := g9 e; exact ⟨gg, us, vs, r0, r, RL.of a, RL.of b⟩
    · obtain ⟨u, r, a⟩ := g10 e; exact ⟨u, r, RL.of a⟩

/-- What is known of an entry of a map: its key, its value. -/
structure EntR (C : Cx) (x : AV) (e : MapEntry) : Prop where
  key : x.v = e.key
  val : RL C x.ks [e.val]
theorem EntR.mono {C C' : Cx} (h : C.le C') {x : AV} {e : MapEntry} (g : EntR C x e) : EntR C' x e := ⟨g.key, RL.mono h g.val⟩
/-- What is known of a map: its entries, in whatever order they stand. -/
structure MapR (C : Cx) (ks : List AV) (es : List MapEntry) : Prop where
  to : ∀ e ∈ es, ∃ x ∈ ks, EntR C x e
  of : ∀ x ∈ ks, ∃ e ∈ es, EntR C x e
  str : ∀ e ∈ es, ∃ s, e.key = .string s
  apart : es.Pairwise fun a b => a.key ≠ b.key
  apart2 : ks.Pairwise fun a b => a.v ≠ b.v
theorem MapR.mono {C C' : Cx} (h : C.le C') {ks : List AV} {es : List MapEntry} (g : MapR C ks es) : MapR C' ks es :=
  ⟨fun e he => (g.to e he).imp fun _ r => ⟨r.1, r.2.mono h⟩, fun x hx => (g.of x hx).imp fun _ r => ⟨r.1, r.2.mono h⟩, g.str, g.apart, g.apart2⟩
/-- A map's cell: its entries. -/
def AV.ents (es : List AV) : AV := ⟨15, .nilFunc, 0, 0, 0, 0, es⟩
/-- What is known of a block: its cells, or that it is a map, of these entries. -/
def BlkAt (C : Cx) (k : Nat) (B : Blk) : Prop :=
  (∃ cs, C.w.heap[k]? = some (.cells cs B.ty (0, 0)) ∧ B.cs.length ≤ cs.size ∧ RL C B.cs (cs.toList.take B.cs.length)) ∨
  (∃ x es cl, B.cs = [x] ∧ x.t = 15 ∧ C.w.heap[k]? = some (.map es cl) ∧ MapR C x.ks es.toList)
theorem BlkAt.mono {C C' : Cx} (h : C.le C') {k k' : Nat} {B : Blk} (hk : C'.w.heap[k']? = C.w.heap[k]?) (g : BlkAt C k B) : BlkAt C' k' B := by
  rcases g with ⟨cs, g2, g3, g4⟩ | ⟨x, es, cl, g1, g2, g3, g4⟩
  · exact Or.inl ⟨cs, hk.trans g2, g3, RL.mono h g4⟩
  · exact Or.inr ⟨x, es, cl, g1, g2, hk.trans g3, g4.mono h⟩
theorem BlkAt.lt {C : Cx} {k : Nat} {B : Blk} (g : BlkAt C k B) : k < C.w.heap.size := by
  rcases g with ⟨cs, g2, _, _⟩ | ⟨x, es, _, _, _, g3, _⟩
  · exact size_of_block g2
  · exact size_of_block g3
/-- What is known of blocks holds. -/
structure Ok (C : Cx) : Prop where
  blk : ∀ b B, C.H.get b = some B → C.A b ∧ BlkAt C (C.mu b) B
  inj : ∀ b B b' B', C.H.get b = some B → C.H.get b' = some B' → C.mu b = C.mu b' → b = b'
  zone : ∀ b B, C.H.get b = some B → ¬ C.Z (C.mu b)

/-- A block of cells. -/
theorem Ok.cellsAt {C : Cx} (h : Ok C) {b : Nat} {B : Blk} (hb : C.H.get b = some B) {cs0 : Array Value} {ty0 : Nat} {fr0 : Nat × Nat} (hc : C.w.heap[C.mu b]? = some (.cells cs0 ty0 fr0)) : C.A b ∧ ∃ cs, C.w.heap[C.mu b]? = some (.cells cs B.ty (0, 0)) ∧ B.cs.length ≤ cs.size ∧ RL C B.cs (cs.toList.take B.cs.length) := by
  obtain ⟨h1, h2⟩ := h.blk b B hb
  rcases h2 with h2 | ⟨x, es, _, _, _, g3, _⟩
  · exact ⟨h1, h2⟩
  · rw [g3] at hc
    cases hc
/-- A block that is a map. -/
theorem Ok.mapAt {C : Cx} (h : Ok C) {b : Nat} {B : Blk} (hb : C.H.get b = some B) {x : AV} (hB : B.cs = [x]) (hx : x.t = 15) : C.A b ∧ ∃ es cl, C.w.heap[C.mu b]? = some (.map es cl) ∧ MapR C x.ks es.toList := by
  obtain ⟨h1, h2⟩ := h.blk b B hb
  rcases h2 with ⟨cs, _, g3, g4⟩ | ⟨y, es, cl, g1, _, g3, g4⟩
  · rw [hB] at g4 g3
    have hl := g4.len
    match hq : cs.toList.take [x].length, g4 with
    | v :: _, g4 =>
      have := (g4.1.hi (by omega)).le
      omega
    | [], g4 => exact g4.elim
  · rw [hB] at g1
    cases g1
    exact ⟨h1, es, cl, g3, g4⟩

/-- The streams, the tape stay. -/
def Same3 (w w' : World) : Prop := w'.os = w.os ∧ w'.tape = w.tape ∧ w'.output = w.output
theorem Same3.refl (w : World) : Same3 w w := ⟨rfl, rfl, rfl⟩
theorem Same3.trans {a b c : World} (h : Same3 a b) (g : Same3 b c) : Same3 a c := ⟨g.1.trans h.1, g.2.1.trans h.2.1, g.2.2.trans h.2.2⟩

/-- A block of which nothing is known. -/
def Cx.Oth (C : Cx) (k : Nat) : Prop := ∀ b B, C.H.get b = some B → C.mu b ≠ k
/-- One context behind another one. -/
structure Goes (C C' : Cx) : Prop where
  le : C.le C'
  ok : Ok C'
  s3 : Same3 C.w C'.w
  oth : ∀ k, k < C.w.heap.size → C.Oth k → C'.w.heap[k]? = C.w.heap[k]? ∧ C'.Oth k
  zold : ∀ k, k < C.w.heap.size → C'.Z k → C.Z k
theorem Goes.trans {A B C : Cx} (h : Goes A B) (g : Goes B C) : Goes A C where
  le := h.le.trans g.le
  ok := g.ok
  s3 := h.s3.trans g.s3
  oth k hk ho := by
    obtain ⟨h1, h2⟩ := h.oth k hk ho
    obtain ⟨g1, g2⟩ := g.oth k (Nat.lt_of_lt_of_le hk h.le.size) h2
    exact ⟨g1.trans h1, g2⟩
  zold k hk hz := h.zold k hk (g.zold k (Nat.lt_of_lt_of_le hk h.le.size) hz)
theorem Goes.refl {C : Cx} (h : Ok C) : Goes C C := ⟨Cx.le.refl C, h, Same3.refl _, fun _ _ h => ⟨rfl, h⟩, fun _ _ h => h⟩

/-- The heap has turned by draws alone. -/
theorem Ok.world {C : Cx} (h : Ok C) {w : World} (hh : w.heap = C.w.heap) (h3 : Same3 C.w w) : Goes C { C with w := w } := by
  have le : C.le { C with w := w } := ⟨fun _ h => h, fun _ _ => rfl, by show _ ≤ w.heap.size; rw [hh]; exact Nat.le_refl _, fun k hk => ⟨⟨by show k < w.heap.size; rw [hh]; exact hk.1, hk.2⟩, by show w.heap[k]? = _; rw [hh]⟩, fun k cs ty fr hk => ⟨cs, by show w.heap[k]? = _; rw [hh]; exact hk, rfl⟩, rfl⟩
  refine ⟨le, ⟨fun b B hb => ?_, h.inj, h.zone⟩, h3, fun k hk ho => ⟨by show w.heap[k]? = _; rw [hh], ho⟩, fun _ _ h => h⟩
  obtain ⟨h1, h2⟩ := h.blk b B hb
  exact ⟨h1, h2.mono le (by show w.heap[_]? = _; rw [hh])⟩

theorem Ok.lt {C : Cx} (h : Ok C) {b : Nat} {B : Blk} (hb : C.H.get b = some B) : C.mu b < C.w.heap.size := by
  exact (h.blk b B hb).2.lt

def updMu (mu : Nat → Nat) (n k : Nat) : Nat → Nat := fun a => if a = n then k else mu a

/-- The context with a new block, of the number n. -/
def Cx.neu (C : Cx) (n : Nat) (o : Obj) (B : Blk) : Cx := ⟨C.w.alloc o, updMu C.mu n C.w.heap.size, fun b => C.A b ∨ b = n, C.H.set n (some B), fun k => C.Z k ∧ k < C.w.heap.size, C.S⟩
/-- A new block. -/
theorem Ok.new {C : Cx} (h : Ok C) {n : Nat} (hn : ¬ C.A n) {ks : List AV} {us : Array Value} {ty : Nat} (hl : RL C ks us.toList) : Goes C (C.neu n (.cells us ty) ⟨ty, ks⟩) := by
  have hmu : ∀ b, C.A b → updMu C.mu n C.w.heap.size b = C.mu b := fun b hb => if_neg (fun e : b = n => hn (e ▸ hb))
  have hgm : ∀ b B, C.H.get b = some B → updMu C.mu n C.w.heap.size b = C.mu b := fun b B hb => hmu b (h.blk b B hb).1
  have le : C.le (C.neu n (.cells us ty) ⟨ty, ks⟩) :=
    ⟨fun a ha => Or.inl ha, hmu, by show _ ≤ (C.w.alloc _).heap.size; simp, fun k hk => ⟨⟨by show k < (C.w.alloc _).heap.size; have := hk.1; simp; omega, hk.2, hk.1⟩, Below.heap_alloc _ _ _ hk.1⟩, fun k cs t fr hk => ⟨cs, (Below.heap_alloc _ _ _ (size_of_block hk)).trans hk, rfl⟩, rfl⟩
  refine ⟨le, ⟨fun b B hb => ?_, fun b B b' B' hb hb' he => ?_, fun b B hb hz => ?_⟩, ⟨rfl, rfl, rfl⟩, fun k hk ho => ⟨Below.heap_alloc _ _ _ hk, fun b B hb => ?_⟩, fun k hk hz => hz.1⟩
  · replace hb : (C.H.set n (some ⟨ty, ks⟩)).get b = some B := hb
    rw [Hp.get_set] at hb
    split at hb
    · rename_i e
      subst e
      obtain rfl := Option.some.inj hb
      refine ⟨Or.inr rfl, Or.inl ⟨us, ?_, ?_, ?_⟩⟩
      · show (C.w.alloc _).heap[updMu C.mu n C.w.heap.size n]? = _
        rw [show updMu C.mu n C.w.heap.size n = C.w.heap.size from if_pos rfl]
        exact heap_alloc_new _ _
      · have := hl.len; simp at this; show ks.length ≤ us.size; omega
      · have hlen : ks.length = us.toList.length := hl.len
        show RL _ ks (us.toList.take ks.length)
        rw [hlen, List.take_length]
        exact RL.mono le hl
    · obtain ⟨h1, h2⟩ := h.blk b B hb
      refine ⟨Or.inl h1, h2.mono le ?_⟩
      show (C.w.alloc _).heap[updMu C.mu n C.w.heap.size b]? = _
      rw [hmu b h1]
      exact Below.heap_alloc _ _ _ h2.lt
  · replace hb : (C.H.set n (some ⟨ty, ks⟩)).get b = some B := hb
    replace hb' : (C.H.set n (some ⟨ty, ks⟩)).get b' = some B' := hb'
    have he : updMu C.mu n C.w.heap.size b = updMu C.mu n C.w.heap.size b' := he
    rw [Hp.get_set] at hb hb'
    split at hb
    · rename_i e
      split at hb'
      · rename_i e'; omega
      · rename_i e'
        rw [hgm b' B' hb'] at he
        subst e
        rw [show updMu C.mu n C.w.heap.size n = C.w.heap.size from if_pos rfl] at he
        have := h.lt hb'
        omega
    · rename_i e
      split at hb'
      · rename_i e'
        rw [hgm b B hb] at he
        subst e'
        rw [show updMu C.mu n C.w.heap.size n = C.w.heap.size from if_pos rfl] at he
        have := h.lt hb
        omega
      · rw [hgm b B hb, hgm b' B' hb'] at he
        exact h.inj b B b' B' hb hb' he
  · replace hb : (C.H.set n (some ⟨ty, ks⟩)).get b = some B := hb
    have hz : C.Z (updMu C.mu n C.w.heap.size b) ∧ updMu C.mu n C.w.heap.size b < C.w.heap.size := hz
    rw [Hp.get_set] at hb
    split at hb
    · rename_i e
      subst e
      rw [show updMu C.mu n C.w.heap.size n = C.w.heap.size from if_pos rfl] at hz
      omega
    · rw [hgm b B hb] at hz
      exact h.zone b B hb hz.1
  · replace hb : (C.H.set n (some ⟨ty, ks⟩)).get b = some B := hb
    show updMu C.mu n C.w.heap.size b ≠ k
    rw [Hp.get_set] at hb
    split at hb
    · rename_i e
      subst e
      rw [show updMu C.mu n C.w.heap.size n = C.w.heap.size from if_pos rfl]
      omega
    · rw [hgm b B hb]
      exact ho b B hb

/-- The context with a new row that is never written. -/
def Cx.neuI (C : Cx) (o : Obj) : Cx := { C with w := C.w.alloc o, Z := fun k => (C.Z k ∧ k < C.w.heap.size) ∨ k = C.w.heap.size }
/-- A new row that is never written. -/
theorem Ok.imm {C : Cx} (h : Ok C) (us : Array Value) (ty : Nat) : Goes C (C.neuI (.cells us ty)) ∧ ImmAt (C.neuI (.cells us ty)) C.w.heap.size 0 us.toList := by
  have le : C.le (C.neuI (.cells us ty)) :=
    ⟨fun _ h => h, fun _ _ => rfl, by show _ ≤ (C.w.alloc _).heap.size; simp, fun k hk => ⟨⟨by show k < (C.w.alloc _).heap.size; have := hk.1; simp; omega, Or.inl ⟨hk.2, hk.1⟩⟩, Below.heap_alloc _ _ _ hk.1⟩, fun k cs t fr hk => ⟨cs, (Below.heap_alloc _ _ _ (size_of_block hk)).trans hk, rfl⟩, rfl⟩
  refine ⟨⟨le, ⟨fun b B hb => ?_, h.inj, fun b B hb hz => ?_⟩, ⟨rfl, rfl, rfl⟩, fun k hk ho => ⟨Below.heap_alloc _ _ _ hk, ho⟩, fun k hk hz => ?_⟩, ⟨by show C.w.heap.size < (C.w.alloc _).heap.size; simp, Or.inr rfl⟩, fun i u hu => ?_⟩
  · obtain ⟨h1, h2⟩ := h.blk b B hb
    exact ⟨h1, h2.mono le (Below.heap_alloc _ _ _ h2.lt)⟩
  · have := h.lt hb
    rcases hz with hz | hz
    · exact h.zone b B hb hz.1
    · have hz : C.mu b = C.w.heap.size := hz
      omega
  · rcases hz with hz | hz
    · exact hz.1
    · omega
  · show (C.w.alloc _).cell? _ = _
    rw [cell_of_row _ _ _ _ _ _ (heap_alloc_new _ _)]
    simpa using hu

/-- A block that is known is written. -/
theorem Ok.put {C : Cx} (h : Ok C) {b : Nat} {B : Blk} (hb : C.H.get b = some B) {ks : List AV} {cs us : Array Value} (hc : C.w.heap[C.mu b]? = some (.cells cs B.ty (0, 0))) (hs : us.size = cs.size) (hk : ks.length ≤ us.size) (hl : RL C ks (us.toList.take ks.length)) {w : World} (hw : w.heap.size = C.w.heap.size)
    (h1 : w.heap[C.mu b]? = some (.cells us B.ty (0, 0))) (h2 : ∀ j, j ≠ C.mu b → w.heap[j]? = C.w.heap[j]?) (h3 : Same3 C.w w) : Goes C { C with w := w, H := C.H.set b (some ⟨B.ty, ks⟩) } := by
  have key : ∀ {x X}, (C.H.set b (some ⟨B.ty, ks⟩)).get x = some X → ∃ X', C.H.get x = some X' := by
    intro x X hx
    rw [Hp.get_set] at hx
    split at hx
    · rename_i e; subst e; exact ⟨B, hb⟩
    · exact ⟨X, hx⟩
  have le : C.le { C with w := w, H := C.H.set b (some ⟨B.ty, ks⟩) } := by
    refine ⟨fun _ h => h, fun _ _ => rfl, by show _ ≤ w.heap.size; omega, fun k hk => ⟨⟨by show k < w.heap.size; have := hk.1; omega, hk.2⟩, h2 k (fun e => h.zone b B hb (e ▸ hk.2))⟩, fun k cs' t fr hk => ?_, rfl⟩
    by_cases e : k = C.mu b
    · subst e
      rw [hc] at hk
      cases hk
      exact ⟨us, h1, hs⟩
    · exact ⟨cs', (h2 k e).trans hk, rfl⟩
  refine ⟨le, ⟨fun b' B' hb' => ?_, fun a A a' A' ha ha' he => ?_, fun a A ha => ?_⟩, h3, fun k hk ho => ⟨h2 k (fun e => ho b B hb e.symm), fun a A ha => ?_⟩, fun _ _ h => h⟩
  · replace hb' : (C.H.set b (some ⟨B.ty, ks⟩)).get b' = some B' := hb'
    rw [Hp.get_set] at hb'
    split at hb'
    · rename_i e
      subst e
      obtain rfl := Option.some.inj hb'
      exact ⟨(h.blk b B hb).1, Or.inl ⟨us, h1, hk, RL.mono le hl⟩⟩
    · rename_i e
      obtain ⟨g1, g2⟩ := h.blk b' B' hb'
      exact ⟨g1, g2.mono le (h2 _ (fun e' => e (h.inj b B b' B' hb hb' e'.symm)))⟩
  · obtain ⟨_, k1⟩ := key ha
    obtain ⟨_, k2⟩ := key ha'
    exact h.inj _ _ _ _ k1 k2 he
  · obtain ⟨_, k1⟩ := key ha
    exact h.zone _ _ k1
  · obtain ⟨_, k1⟩ := key ha
    exact ho _ _ k1

/-- A block is forgotten. -/
theorem Ok.less {C : Cx} (h : Ok C) {H : Hp} (hH : ∀ b B, H.get b = some B → C.H.get b = some B) : Goes C { C with H := H } := by
  have le : C.le { C with H := H } := ⟨fun _ h => h, fun _ _ => rfl, Nat.le_refl _, fun k hk => ⟨hk, rfl⟩, fun k cs t fr hk => ⟨cs, hk, rfl⟩, rfl⟩
  refine ⟨le, ⟨fun b B hb => ?_, fun b B b' B' hb hb' => h.inj b B b' B' (hH b B hb) (hH b' B' hb'), fun b B hb => h.zone b B (hH b B hb)⟩, Same3.refl _, fun k _ ho => ⟨rfl, fun b B hb => ho b B (hH b B hb)⟩, fun _ _ h => h⟩
  obtain ⟨h1, h2⟩ := h.blk b B (hH b B hb)
  exact ⟨h1, h2.mono le rfl⟩
#print axioms Ok.less
end Go.Proofs.YthklnpkjlepagaaGreatDoor.Ab
