/- The operations, all in one. -/
import Derived.Test.YthklnpkjlepagaaGreatDoorQs
import Derived.Test.YthklnpkjlepagaaGreatDoorMQuxQv
import Derived.Laws.BytesString
namespace Go.Proofs.YthklnpkjlepagaaGreatDoor.Ab
open Go.RowKit
variable {S : Nat → Value}

def xNilCheck (x : AV) : Option AV := if x.t = 3 ∨ x.t = 4 ∨ x.t = 10 then some x else if x.t = 0 then (match x.v with
    | .func (.func _) _ _ => some x
    | _ => none) else if x.t = 9 then (match x.v with
    | .func (.func _) _ _ => some x
    | _ => none) else none

def xExtract (x : AV) (i : Nat) : Option AV := if x.t = 2 then x.ks[i]? else none

/-- Bytes that are known. -/
def bytesOf : List AV → Option (List Int)
  | [] => some []
  | x :: xs => if x.t = 0 then (match x.v with
    | .int .u8 n => (bytesOf xs).map fun ns => n :: ns
    | _ => none) else none
theorem bytesOf_ok {C : Cx} : ∀ {ks : List AV} {us : List Value} {ns : List Int}, RL C ks us → bytesOf ks = some ns → us = ns.map (Value.int .u8)
  | [], [], ns, _, h => by simp [bytesOf] at h; subst h; rfl
  | k :: ks, u :: us, ns, hr, h => by
    simp only [bytesOf] at h
    split at h
    · rename_i h0
      split at h
      · rename_i n hv
        obtain ⟨ms, h1, rfl⟩ := Option.map_eq_some_iff.1 h
        rw [List.map_cons, ← bytesOf_ok hr.2 h1, ← hv, hr.1.case.1 h0]
      · cases h
    · cases h
  | [], _ :: _, _, hr, _ => hr.elim
  | _ :: _, [], _, hr, _ => hr.elim
def isU8 (P : Program) (e : Nat) : Bool := match P.underlying e with
  | some (.int .u8) => true
  | _ => false
/-- Bytes as a string. -/
def xBytes (P : Program) (T : Tabs) (H : Hp) (s d : Nat) (x : AV) : Option AV := (T.tiAt s).bind fun ti => (T.tiAt d).bind fun td => if ti.kind = 3 ∧ td.kind = 5 ∧ isU8 P ti.elem = true then (rowCells H 1 x).bind fun p => (bytesOf p.2).map fun ns => AV.ex (.string (ns.foldl (fun r n => r.push (UInt8.ofNat n.toNat)) ByteArray.empty)) else none
theorem xBytes_ok {P : Program} {T : Tabs} (hT : TabOk P T) {C : Cx} (hC : Ok C) {s d : Nat} {x y : AV} {v : Value} (h : RV C x v) (e : xBytes P T C.H s d x = some y) : ∃ r, (convert s d v).run P C.w = .ok r C.w ∧ RV C y r := by
  unfold xBytes at e
  obtain ⟨ti, h1, e⟩ := Option.bind_eq_some_iff.1 e
  obtain ⟨td, h2, e⟩ := Option.bind_eq_some_iff.1 e
  split at e
  · rename_i hk
    obtain ⟨⟨m, ks⟩, h3, e⟩ := Option.bind_eq_some_iff.1 e
    obtain ⟨ns, h4, rfl⟩ := Option.map_eq_some_iff.1 e
    obtain ⟨tk⟩ := hT _ _ h1
    obtain ⟨tkd⟩ := hT _ _ h2
    have hk1 := tk.kind
    unfold kindB at hk1
    split at hk1 <;> simp [hk.1] at hk1
    rename_i e' hd
    subst hk1
    have hu : P.underlying s = some (.slice ti.elem) := by rw [tk.hd, hd]
    have hk2 := tkd.kind
    unfold kindB at hk2
    split at hk2 <;> simp [hk.2.1] at hk2
    rename_i hdd
    have hud : P.underlying d = some .string := by rw [tkd.hd, hdd]
    have hue : P.underlying ti.elem = some (.int .u8) := by
      have := hk.2.2
      unfold isU8 at this
      split at this
      · assumption
      · cases this
    have hone : ks.all AV.one = true := by
      have key : ∀ {ks : List AV} {ns : List Int}, bytesOf ks = some ns → ks.all AV.one = true := by
        intro ks
        induction ks with
        | nil => intro ns _; rfl
        | cons k ks ih =>
          intro ns hh
          simp only [bytesOf] at hh
          split at hh
          · rename_i h0
            split at hh
            · rename_i n hv
              obtain ⟨ms, h1, _⟩ := Option.map_eq_some_iff.1 hh
              rw [List.all_cons, ih h1, Bool.and_true]
              unfold AV.one
              rw [if_pos h0, hv]
              rfl
            · cases hh
          · cases hh
      exact key h4
    obtain ⟨us, hr, hsrc⟩ := rowCells_ok (P := P) hC h h3 hu hone
    have hus := bytesOf_ok hr h4
    have hsl : (∃ c, v = .slice none 0 c ∧ us = []) ∨ ∃ a n c, v = .slice (some a) n c := by
      unfold rowCells at h3
      split at h3
      · rename_i h0
        split at h3
        · rename_i c hv
          simp only [Option.some.injEq, Prod.mk.injEq] at h3
          obtain ⟨_, rfl⟩ := h3
          refine Or.inl ⟨c, by rw [h.case.1 h0, hv], ?_⟩
          cases us with
          | nil => rfl
          | cons u us => exact hr.elim
        · cases h3
      · split at h3
        · split at h3
          · rename_i h7
            rcases h7 with k | k
            · obtain ⟨_, _, _, r, _⟩ := h.case.2.2.2.2.2.2.2.1 k; exact Or.inr ⟨_, _, _, r⟩
            · obtain ⟨_, _, _, _, r, _⟩ := h.case.2.2.2.2.2.2.2.2.1 k; exact Or.inr ⟨_, _, _, r⟩
          · split at h3
            · rename_i h5
              obtain ⟨_, _, _, r, _⟩ := h.case.2.2.2.2.2.1 h5; exact Or.inr ⟨_, _, _, r⟩
            · cases h3
        · cases h3
    refine ⟨.string (ns.foldl (fun r n => r.push (UInt8.ofNat n.toNat)) ByteArray.empty), ?_, rv_ex⟩
    rcases hsl with ⟨c, rfl, rfl⟩ | ⟨a, n, c, rfl⟩
    · have : ns = [] := by cases ns with
        | nil => rfl
        | cons n ns => simp at hus
      subst this
      simp [convert, run_underlying hu, run_underlying hud, run_underlying hue, Conv.bytesToString]
    · have hn : n = m := by
        have := hsrc.len C.w
        simp [Builtin.lenOf] at this
        exact this
      subst hn
      have hl := hsrc.cells
      simp only [Builtin.firstCells, Nat.mul_one] at hl
      rw [hus] at hl
      simp [convert, run_underlying hu, run_underlying hud, run_underlying hue, run_bytesToString C.w a n c ns hl]
  · cases e

/-- Values that are all known. -/
def exL : List AV → Option (List Value)
  | [] => some []
  | x :: xs => x.exact.bind fun v => (exL xs).map fun vs => v :: vs
theorem exL_ok {C : Cx} : ∀ {xs : List AV} {us vs : List Value}, RL C xs us → exL xs = some vs → us = vs
  | [], [], vs, _, h => by simp [exL] at h; exact h.symm
  | x :: xs, u :: us, vs, hr, h => by
    simp only [exL] at h
    obtain ⟨v, h1, h⟩ := Option.bind_eq_some_iff.1 h
    obtain ⟨ws, h2, rfl⟩ := Option.map_eq_some_iff.1 h
    rw [rv_exact hr.1 h1, exL_ok hr.2 h2]
  | [], _ :: _, _, hr, _ => hr.elim
  | _ :: _, [], _, hr, _ => hr.elim

/-- An operation that enters no function. -/
def sop (P : Program) (T : Tabs) (H : Hp) (n : Nat) (fr : Fr) (o : Oper) : Option Out :=
  match o.op with
  | .move x | .assign x => some ⟨evO T fr x, H, n, 0⟩
  | .pick c a b => (evO T fr c).bool.map fun t => ⟨if t then evO T fr a else evO T fr b, H, n, 0⟩
  | .alloc t => (T.tiAt t).map fun ti => xNew H n t (exZ ti)
  | .box t x => (evO T fr x).cells.map fun ks => xNew H n t ks
  | .build t ps => (xBuild T t (ps.toList.map fun p => (p.1, evO T fr p.2))).map fun y => ⟨y, H, n, 0⟩
  | .buildSlice t len ps => xBuildSlice T H n t len (ps.toList.map fun p => (p.1, evO T fr p.2))
  | .load t a => (xLoad T H t (evO T fr a)).map fun y => ⟨y, H, n, 0⟩
  | .store t a x => xStore T H n t (evO T fr a) (evO T fr x)
  | .nilCheck x => (xNilCheck (evO T fr x)).map fun y => ⟨y, H, n, 0⟩
  | .binOp op t x y _ => (xBin P T op t x y (evO T fr x) (evO T fr y)).map fun y => ⟨y, H, n, 0⟩
  | .unOp op _ x => (evO T fr x).exact.bind fun v => (pureRun P (Op.unary op v)).map fun r => ⟨ofV r, H, n, 0⟩
  | .convert s d x => match (evO T fr x).exact with
    | some v => (pureRun P (convert s d v)).map fun r => ⟨ofV r, H, n, 0⟩
    | none => (xBytes P T H s d (evO T fr x)).map fun r => ⟨r, H, n, 0⟩
  | .makeInterface t x => (T.tiAt t).bind fun ti => if ti.kind = 7 then none else some ⟨AV.ifc t (evO T fr x), H, n, 0⟩
  | .makeFunc fn first cap => some ⟨if first.size = 0 ∧ cap.size = 0 then AV.ex (.func fn #[] #[]) else AV.fn (.func fn #[] #[]) first.size (first.toList.map (evO T fr) ++ cap.toList.map (evO T fr)), H, n, 0⟩
  | .makeSlice t l c => xMake T H n t (evO T fr l) (evO T fr c)
  | .slice t x lo hi none => (match xSliceA T H t (evO T fr x) (lo.map (evO T fr)) (hi.map (evO T fr)) with
    | some y => some y
    | none => xSlice T t (evO T fr x) (lo.map (evO T fr)) (hi.map (evO T fr))).map fun y => ⟨y, H, n, 0⟩
  | .fieldAddr t x f => (xFieldAddr T t (evO T fr x) f).map fun y => ⟨y, H, n, 0⟩
  | .field t x f => (xField T t (evO T fr x) f).map fun y => ⟨y, H, n, 0⟩
  | .indexAddr t x i => (xIndexAddr T t (evO T fr x) (evO T fr i)).map fun y => ⟨y, H, n, 0⟩
  | .index t x i => (xIndex T t (evO T fr x) (evO T fr i)).map fun y => ⟨y, H, n, 0⟩
  | .sliceToArrayPointer t x => (xArrAt T t (evO T fr x)).map fun y => ⟨y, H, n, 0⟩
  | .extract x i => (xExtract (evO T fr x) i).map fun y => ⟨y, H, n, 0⟩
  | .makeMap _ none => some (xMapNew H n)
  | .lookup t x i ok => (xMapGet P T H t (evO T fr x) (evO T fr i) ok).map fun y => ⟨y, H, n, 0⟩
  | .mapUpdate t m k x => xMapPut T H n t (evO T fr m) (evO T fr k) (evO T fr x)
  | .insert t m k x => xMapPut T H n t (evO T fr m) (evO T fr k) (evO T fr x)
  | .call c => match c.callee with
    | .builtin .len => (match c.argTypes.toList, c.args.toList with
      | t :: _, [x] => (xLen T t (evO T fr x)).map fun y => ⟨y, H, n, 0⟩
      | _, _ => none)
    | .builtin .append => (match c.argTypes.toList, c.args.toList with
      | [t, tx], [s, x] => xAppend T H n t tx (evO T fr s) (evO T fr x)
      | _, _ => none)
    | .builtin .copy => (match c.argTypes.toList, c.args.toList with
      | [t, _], [d, x] => xCopy T H n t (evO T fr d) (evO T fr x)
      | _, _ => none)
    | .builtin .max => (exL (c.args.toList.map (evO T fr))).bind fun vs => (pureRun P (Builtin.max_ c.argTypes o.type vs.toArray)).map fun r => ⟨ofV r, H, n, 0⟩
    | .builtin .min => (exL (c.args.toList.map (evO T fr))).bind fun vs => (pureRun P (Builtin.min_ c.argTypes o.type vs.toArray)).map fun r => ⟨ofV r, H, n, 0⟩
    | _ => none
  | _ => none

/-- The rows of the types' table tell as many cells as the sizes. -/
def zeroB (T : Tabs) : Bool := chkTab (fun _ ti => decide (ti.zero.length = ti.size)) 0 T.ti
theorem zeroB_ok {T : Tabs} (h : zeroB T = true) : ∀ t ti, T.tiAt t = some ti → ti.zero.length = ti.size := by
  intro t ti ht
  unfold Tabs.tiAt at ht
  split at ht
  · rename_i l hl
    split at ht
    · rename_i x hx
      subst ht
      have := chkRow_get (chkTab_get h hl) hx
      simpa using this
    · cases ht
  · cases ht

/-- What is to be shown of an operation: whatever goes on from what it comes to, goes on from it. -/
def OpOk (P : Program) (C : Cx) (n : Nat) (a : Act) (o : Oper) (out : Out) : Prop := ∀ (K : Act → World → Prop) (Q : Exit → Act → World → Prop), (∀ v C', RV C' out.x v → Goes C C' → C'.H = out.H → NewA C C' n out.n → K (a.put o.dst v) C'.w) → o.wp P a C.w K Q

theorem opOk_val {P : Program} {C : Cx} {n : Nat} {a : Act} {o : Oper} {out : Out} {s : Sem Value} (he : execOp a.eval o = (do pure (.value (← s)))) (h : ∃ u C', s.run P C.w = .ok u C'.w ∧ RV C' out.x u ∧ Goes C C' ∧ C'.H = out.H ∧ NewA C C' n out.n) : OpOk P C n a o out := by
  obtain ⟨u, C', h1, h2, h3, h4, h5⟩ := h
  intro K Q hK
  unfold Oper.wp
  rw [he]
  simp only [Sem.run_bind, h1, Result.andThen_ok, Sem.run_pure, Oper.upon_value]
  exact hK u C' h2 h3 h4 h5
theorem opOk_put {P : Program} {C : Cx} {n : Nat} {a : Act} {o : Oper} {out : Out} {s : Sem Unit} (he : execOp a.eval o = (do s; pure .skip)) (h : ∃ C', s.run P C.w = .ok () C'.w ∧ Goes C C' ∧ C'.H = out.H ∧ NewA C C' n out.n) (hx : out.x = AV.ex undef) : OpOk P C n a o out := by
  obtain ⟨C', h1, h2, h3, h4⟩ := h
  intro K Q hK
  unfold Oper.wp
  rw [he]
  simp only [Sem.run_bind, h1, Result.andThen_ok, Sem.run_pure, Oper.upon_skip]
  exact hK undef C' (by rw [hx]; exact rv_ex) h2 h3 h4
theorem opOk_same {P : Program} {C : Cx} {n : Nat} (hC : Ok C) {a : Act} {o : Oper} {x : AV} {s : Sem Value} (he : execOp a.eval o = (do pure (.value (← s)))) (h : ∃ u, s.run P C.w = .ok u C.w ∧ RV C x u) : OpOk P C n a o ⟨x, C.H, n, 0⟩ := by
  obtain ⟨u, h1, h2⟩ := h
  exact opOk_val he ⟨u, C, h1, h2, Goes.refl hC, rfl, newA_same rfl⟩
theorem opOk_pure {P : Program} {C : Cx} {n : Nat} (hC : Ok C) {a : Act} {o : Oper} {x : AV} {v : Value} (he : execOp a.eval o = pure (.value v)) (h : RV C x v) : OpOk P C n a o ⟨x, C.H, n, 0⟩ := by
  intro K Q hK
  unfold Oper.wp
  rw [he]
  simp only [Sem.run_pure, Oper.upon_value]
  exact hK v C h (Goes.refl hC) rfl (newA_same rfl)

theorem rl_ops {T : Tabs} {C : Cx} {N : Nat} {fr : Fr} {a : Act} (hG : GOk T S C) (h : RF C N fr a) : ∀ (xs : List Operand), RL C (xs.map (evO T fr)) (xs.map a.eval)
  | [] => trivial
  | x :: xs => ⟨rv_op hG h x, rl_ops hG h xs⟩
theorem pl_ops {T : Tabs} {C : Cx} {N : Nat} {fr : Fr} {a : Act} (hG : GOk T S C) (h : RF C N fr a) : ∀ (ps : List (Nat × Operand)), All2 (fun (x : Nat × AV) (y : Nat × Value) => x.1 = y.1 ∧ RV C x.2 y.2) (ps.map fun p => (p.1, evO T fr p.2)) (ps.map fun p => (p.1, a.eval p.2))
  | [] => trivial
  | p :: ps => ⟨⟨rfl, rv_op hG h p.2⟩, pl_ops hG h ps⟩

theorem sop_tidy {P : Program} {T : Tabs} {H : Hp} {n : Nat} {fr : Fr} {o : Oper} {out : Out} (e : sop P T H n fr o = some out) : Tidy H n out := by
  unfold sop at e
  split at e <;> first
    | (cases e; exact tidy_same)
    | (obtain ⟨y, _, rfl⟩ := Option.map_eq_some_iff.1 e; exact tidy_same)
    | (obtain ⟨y, _, rfl⟩ := Option.map_eq_some_iff.1 e; exact xNew_tidy ..)
    | exact xBuildSlice_tidy e
    | exact xStore_tidy e
    | exact xMake_tidy e
    | exact xMapPut_tidy e
    | (cases e; exact xMapNew_tidy ..)
    | (obtain ⟨v, _, e⟩ := Option.bind_eq_some_iff.1 e; obtain ⟨y, _, rfl⟩ := Option.map_eq_some_iff.1 e; exact tidy_same)
    | (obtain ⟨v, _, e⟩ := Option.bind_eq_some_iff.1 e; split at e <;> cases e; exact tidy_same)
    | (cases e; done)
    | (split at e <;> obtain ⟨y, _, rfl⟩ := Option.map_eq_some_iff.1 e <;> exact tidy_same)
    | skip
  split at e
  · split at e
    · obtain ⟨y, _, rfl⟩ := Option.map_eq_some_iff.1 e; exact tidy_same
    · cases e
  · split at e
    · exact xAppend_tidy e
    · cases e
  · split at e
    · exact xCopy_tidy e
    · cases e
  · obtain ⟨vs, _, e⟩ := Option.bind_eq_some_iff.1 e; obtain ⟨y, _, rfl⟩ := Option.map_eq_some_iff.1 e; exact tidy_same
  · obtain ⟨vs, _, e⟩ := Option.bind_eq_some_iff.1 e; obtain ⟨y, _, rfl⟩ := Option.map_eq_some_iff.1 e; exact tidy_same
  · cases e

set_option maxHeartbeats 4000000 in
theorem sop_ok {P : Program} {T : Tabs} (hT : TabOk P T) (hz : zeroB T = true) {C : Cx} (hC : Ok C) (hG : GOk T S C) {N : Nat} {fr : Fr} {a : Act} (hf : RF C N fr a) {o : Oper} {n : Nat} {out : Out} (e : sop P T C.H n fr o = some out) (hN : FreeA C n out.n) : OpOk P C n a o out := by
  have R := fun x => rv_op hG hf x
  unfold sop at e
  split at e
  · rename_i x ho
    cases e
    exact opOk_pure hC (by simp [execOp, ho]) (R x)
  · rename_i x ho
    cases e
    exact opOk_pure hC (by simp [execOp, ho]) (R x)
  · rename_i c x y ho
    obtain ⟨t, h1, rfl⟩ := Option.map_eq_some_iff.1 e
    have hb := rv_bool (R c) h1
    refine opOk_pure hC (v := if t then a.eval x else a.eval y) (by simp [execOp, ho, hb, asBool]) ?_
    split
    · exact R x
    · exact R y
  · rename_i t ho
    obtain ⟨ti, h1, rfl⟩ := Option.map_eq_some_iff.1 e
    obtain ⟨tk⟩ := hT _ _ h1
    have hl : RL C (exZ ti) tk.z.cells.toList := by rw [tk.zero]; exact rl_zeros _
    obtain ⟨C', h2, h3, h4, h5, h6⟩ := xNew_ok hC (t := t) (hN n (Nat.le_refl _) (Nat.lt_succ_self _)) hl
    exact opOk_val (s := Instr.alloc t true (.tuple #[])) (by simp [execOp, ho]) ⟨_, C', by rw [h2]; simp [Instr.alloc, zeroValue, typeInfo, tk.hi, tk.hz, newVar, newRow], h3, h4, h5, h6⟩
  · rename_i t x ho
    obtain ⟨ks, h1, rfl⟩ := Option.map_eq_some_iff.1 e
    obtain ⟨C', h2, h3, h4, h5, h6⟩ := xNew_ok hC (t := t) (hN n (Nat.le_refl _) (Nat.lt_succ_self _)) (rv_cells (R x) h1)
    exact opOk_val (s := Instr.box t (a.eval x)) (by simp [execOp, ho]) ⟨_, C', by rw [h2]; simp [Instr.box, newVar, newRow], h3, h4, h5, h6⟩
  · rename_i t ps ho
    obtain ⟨y, h1, rfl⟩ := Option.map_eq_some_iff.1 e
    refine opOk_same hC (s := Instr.build t (ps.map fun (i, x) => (i, a.eval x))) (by simp [execOp, ho]) (xBuild_ok hT (qs := ps.map fun (i, x) => (i, a.eval x)) ?_ h1)
    have := pl_ops hG hf ps.toList
    simpa using this
  · rename_i t len ps ho
    refine opOk_val (s := Instr.buildSlice t len (ps.map fun (i, x) => (i, a.eval x))) (by simp [execOp, ho]) (xBuildSlice_ok hT hC (qs := ps.map fun (i, x) => (i, a.eval x)) ?_ e hN)
    have := pl_ops hG hf ps.toList
    simpa using this
  · rename_i t x ho
    obtain ⟨y, h1, rfl⟩ := Option.map_eq_some_iff.1 e
    exact opOk_same hC (s := Instr.loadAt t (a.eval x)) (by simp [execOp, ho]) (xLoad_ok hT hC (R x) h1)
  · rename_i t x y ho
    obtain ⟨C', h1, h2, h3, h4⟩ := xStore_ok hT hC (R x) (R y) e
    intro K Q hK
    unfold Oper.wp
    have he : execOp a.eval o = (do Instr.storeAt t (a.eval x) (a.eval y); pure .skip) := by simp [execOp, ho]
    rw [he]
    simp only [Sem.run_bind, h1, Result.andThen_ok, Sem.run_pure, Oper.upon_skip]
    refine hK undef C' ?_ h2 h3 h4
    have hx : out.x = AV.ex undef := by
      unfold xStore at e
      obtain ⟨ti, _, e⟩ := Option.bind_eq_some_iff.1 e
      obtain ⟨ks, _, e⟩ := Option.bind_eq_some_iff.1 e
      split at e
      · obtain ⟨B, _, e⟩ := Option.bind_eq_some_iff.1 e
        split at e
        · cases e; rfl
        · cases e
      · cases e
    rw [hx]
    exact rv_ex
  · rename_i x ho
    obtain ⟨y, h1, rfl⟩ := Option.map_eq_some_iff.1 e
    have hx := R x
    unfold xNilCheck at h1
    split at h1
    · rename_i ht
      cases h1
      have : (∃ p, a.eval x = .pointer (some p)) ∨ ∃ t u, a.eval x = .iface t u := by
        rcases ht with k | k | k
        · exact Or.inl ⟨_, (hx.case.2.2.2.1 k).1⟩
        · obtain ⟨_, _, _, r, _⟩ := hx.case.2.2.2.2.1 k; exact Or.inl ⟨_, r⟩
        · obtain ⟨_, r, _⟩ := hx.case.2.2.2.2.2.2.2.2.2.2.1 k; exact Or.inr ⟨_, _, r⟩
      rcases this with ⟨p, hp⟩ | ⟨t, u, hp⟩
      · exact opOk_pure hC (v := a.eval x) (by simp [execOp, ho, hp]) hx
      · exact opOk_pure hC (v := a.eval x) (by simp [execOp, ho, hp]) hx
    · split at h1
      · rename_i ht
        split at h1
        · rename_i f u w hv
          cases h1
          have hp := hx.case.1 ht
          rw [hv] at hp
          exact opOk_pure hC (v := a.eval x) (by simp [execOp, ho, hp]) hx
        · cases h1
      · split at h1
        · rename_i ht
          split at h1
          · rename_i f u w hv
            cases h1
            obtain ⟨g, us, vs, r1, r2, _⟩ := hx.case.2.2.2.2.2.2.2.2.2.1 ht
            rw [hv] at r1
            cases r1
            exact opOk_pure hC (v := a.eval x) (by simp [execOp, ho, r2]) hx
          · cases h1
        · cases h1
  · rename_i op t x y ty ho
    obtain ⟨z, h1, rfl⟩ := Option.map_eq_some_iff.1 e
    exact opOk_same hC (s := do eqGuard op t x y (a.eval x) (a.eval y); binOp op t (a.eval x) (a.eval y)) (by simp [execOp, ho]) (xBin_ok hT (R x) (R y) h1)
  · rename_i op t x ho
    obtain ⟨v, h1, e⟩ := Option.bind_eq_some_iff.1 e
    obtain ⟨r, h2, rfl⟩ := Option.map_eq_some_iff.1 e
    have := rv_exact (R x) h1
    exact opOk_same hC (s := Op.unary op (a.eval x)) (by simp [execOp, ho]) ⟨r, by rw [this]; exact pureRun_ok _ _ h2, rv_ofV r⟩
  · rename_i s d x ho
    split at e
    · rename_i v h1
      obtain ⟨r, h2, rfl⟩ := Option.map_eq_some_iff.1 e
      have := rv_exact (R x) h1
      exact opOk_same hC (s := convert s d (a.eval x)) (by simp [execOp, ho]) ⟨r, by rw [this]; exact pureRun_ok _ _ h2, rv_ofV r⟩
    · obtain ⟨r, h2, rfl⟩ := Option.map_eq_some_iff.1 e
      exact opOk_same hC (s := convert s d (a.eval x)) (by simp [execOp, ho]) (xBytes_ok hT hC (R x) h2)
  · rename_i t x ho
    obtain ⟨ti, h1, e⟩ := Option.bind_eq_some_iff.1 e
    split at e
    · cases e
    · rename_i hk7
      cases e
      obtain ⟨tk⟩ := hT _ _ h1
      refine opOk_same hC (s := Instr.makeInterface t (a.eval x)) (by simp [execOp, ho]) ⟨.iface t (a.eval x), ?_, rv_ifc (R x)⟩
      have hk := tk.kind
      unfold Instr.makeInterface
      rw [Sem.run_bind, run_underlying tk.hd]
      cases hd : tk.d <;> simp_all [kindB]
  · rename_i fn first cap ho
    cases e
    refine opOk_same hC (s := Instr.makeFunc fn (first.map a.eval) (cap.map a.eval)) (by simp [execOp, ho]) ⟨.func fn (first.map a.eval) (cap.map a.eval), rfl, ?_⟩
    split
    · rename_i h0
      have e1 : first.map a.eval = #[] := Array.eq_empty_of_size_eq_zero (by simpa using h0.1)
      have e2 : cap.map a.eval = #[] := Array.eq_empty_of_size_eq_zero (by simpa using h0.2)
      rw [e1, e2]
      exact rv_ex
    · refine rv_fn ?_ ?_
      · have := rl_ops hG hf first.toList
        simpa using this
      · have := rl_ops hG hf cap.toList
        simpa using this
  · rename_i t l c ho
    exact opOk_val (s := Instr.makeSlice t (a.eval l) (a.eval c)) (by simp [execOp, ho]) (xMake_ok hT hC (R l) (R c) e hN)
  · rename_i t x lo hi ho
    obtain ⟨y, h1, rfl⟩ := Option.map_eq_some_iff.1 e
    have gl : OptV C (lo.map (evO T fr)) (lo.map a.eval) := by
      cases lo with
      | none => trivial
      | some l => exact R l
    have gh : OptV C (hi.map (evO T fr)) (hi.map a.eval) := by
      cases hi with
      | none => trivial
      | some l => exact R l
    have key : ∃ r, (Instr.sliceAt t (a.eval x) (lo.map a.eval) (hi.map a.eval) none).run P C.w = .ok r C.w ∧ RV C y r := by
      split at h1
      · rename_i y' hy
        cases h1
        exact xSliceA_ok hT hC (R x) gl gh hy
      · exact xSlice_ok hT (R x) gl gh h1
    exact opOk_same hC (s := Instr.sliceAt t (a.eval x) (lo.map a.eval) (hi.map a.eval) none) (by simp [execOp, ho]) key
  · rename_i t x f ho
    obtain ⟨y, h1, rfl⟩ := Option.map_eq_some_iff.1 e
    exact opOk_same hC (s := Instr.fieldAt t (a.eval x) f) (by simp [execOp, ho]) (xFieldAddr_ok hT (R x) h1)
  · rename_i t x f ho
    obtain ⟨y, h1, rfl⟩ := Option.map_eq_some_iff.1 e
    exact opOk_same hC (s := Instr.field t (a.eval x) f) (by simp [execOp, ho]) (xField_ok hT (R x) h1)
  · rename_i t x i ho
    obtain ⟨y, h1, rfl⟩ := Option.map_eq_some_iff.1 e
    exact opOk_same hC (s := Instr.indexAt t (a.eval x) (a.eval i)) (by simp [execOp, ho]) (xIndexAddr_ok hT (R x) (R i) h1)
  · rename_i t x i ho
    obtain ⟨y, h1, rfl⟩ := Option.map_eq_some_iff.1 e
    exact opOk_same hC (s := Instr.index t (a.eval x) (a.eval i)) (by simp [execOp, ho]) (xIndex_ok hT (R x) (R i) h1)
  · rename_i t x ho
    obtain ⟨y, h1, rfl⟩ := Option.map_eq_some_iff.1 e
    exact opOk_same hC (s := Instr.arrayAt t (a.eval x)) (by simp [execOp, ho]) (xArrAt_ok hT (R x) h1)
  · rename_i x i ho
    obtain ⟨y, h1, rfl⟩ := Option.map_eq_some_iff.1 e
    unfold xExtract at h1
    split at h1
    · rename_i ht
      obtain ⟨us, hv, hr⟩ := (R x).case.2.2.1 ht
      obtain ⟨u, hu, hr2⟩ := All2.get hr h1
      have hu' : us[i]? = some u := by simpa using hu
      exact opOk_same hC (s := Instr.extract (a.eval x) i) (by simp [execOp, ho]) ⟨u, by simp [hv, Instr.extract, hu'], hr2⟩
    · cases h1
  · rename_i t ho
    cases e
    exact opOk_val (s := Instr.makeMap t none) (by simp [execOp, ho]) (xMapNew_ok hC (hN n (Nat.le_refl _) (Nat.lt_succ_self _)))
  · rename_i t x i ok ho
    obtain ⟨y, h1, rfl⟩ := Option.map_eq_some_iff.1 e
    exact opOk_same hC (s := Instr.lookup t (a.eval x) (a.eval i) ok) (by simp [execOp, ho]) (xMapGet_ok hT hC (R x) (R i) h1)
  · rename_i t m k x ho
    exact opOk_put (by simp [execOp, ho]) (xMapPut_ok hT hC (R m) (R k) (R x) e) (xMapPut_x e)
  · rename_i t m k x ho
    exact opOk_put (by simp [execOp, ho]) (xMapPut_ok hT hC (R m) (R k) (R x) e) (xMapPut_x e)
  · rename_i c ho
    split at e
    · rename_i hc
      split at e
      · rename_i t ts x hat har
        obtain ⟨y, h1, rfl⟩ := Option.map_eq_some_iff.1 e
        have hargs : (c.args.map a.eval)[0]? = some (a.eval x) := by
          have : (c.args.map a.eval).toList = [a.eval x] := by simp [har]
          rw [← Array.getElem?_toList, this]; rfl
        have ht : c.argTypes[0]? = some t := by rw [← Array.getElem?_toList, hat]; rfl
        exact opOk_same hC (s := Builtin.len_ c.argTypes o.type (c.args.map a.eval)) (by simp [execOp, ho, resolve, hc, invoke, builtin]) (xLen_ok hT (R x) ht hargs h1)
      · cases e
    · rename_i hc
      split at e
      · rename_i t tx s x hat har
        have h1 : c.args.map a.eval = #[a.eval s, a.eval x] := by
          apply Array.ext'
          simp [har]
        have h2 : c.argTypes = #[t, tx] := by
          apply Array.ext'
          simp [hat]
        exact opOk_val (s := Builtin.append_ c.argTypes o.type (c.args.map a.eval)) (by simp [execOp, ho, resolve, hc, invoke, builtin]) (by rw [h1, h2]; exact xAppend_ok hT hC (R s) (R x) (zeroB_ok hz) e hN)
      · cases e
    · rename_i hc
      split at e
      · rename_i t tx d x hat har
        have h1 : c.args.map a.eval = #[a.eval d, a.eval x] := by
          apply Array.ext'
          simp [har]
        have h2 : c.argTypes = #[t, tx] := by
          apply Array.ext'
          simp [hat]
        exact opOk_val (s := Builtin.copy_ c.argTypes o.type (c.args.map a.eval)) (by simp [execOp, ho, resolve, hc, invoke, builtin]) (by rw [h1, h2]; exact xCopy_ok hT hC (R d) (R x) e)
      · cases e
    · rename_i hc
      obtain ⟨vs, h1, e⟩ := Option.bind_eq_some_iff.1 e
      obtain ⟨r, h2, rfl⟩ := Option.map_eq_some_iff.1 e
      have ha : c.args.map a.eval = vs.toArray := by
        apply Array.ext'
        have := exL_ok (rl_ops hG hf c.args.toList) h1
        simpa using this
      exact opOk_same hC (s := Builtin.max_ c.argTypes o.type (c.args.map a.eval)) (by simp [execOp, ho, resolve, hc, invoke, builtin]) ⟨r, by rw [ha]; exact pureRun_ok _ _ h2, rv_ofV r⟩
    · rename_i hc
      obtain ⟨vs, h1, e⟩ := Option.bind_eq_some_iff.1 e
      obtain ⟨r, h2, rfl⟩ := Option.map_eq_some_iff.1 e
      have ha : c.args.map a.eval = vs.toArray := by
        apply Array.ext'
        have := exL_ok (rl_ops hG hf c.args.toList) h1
        simpa using this
      exact opOk_same hC (s := Builtin.min_ c.argTypes o.type (c.args.map a.eval)) (by simp [execOp, ho, resolve, hc, invoke, builtin]) ⟨r, by rw [ha]; exact pureRun_ok _ _ h2, rv_ofV r⟩
    · cases e
  · cases e
#print axioms sop_ok
end Go.Proofs.YthklnpkjlepagaaGreatDoor.Ab
