/- Qbk, Sh, Bq, Ak9: the texts of these names, one behind the other. -/
import Derived.Test.YthklnpkjlepagaaGreatDoorMQrxQbc
import Derived.Shelf.LaysM
import Derived.Shelf.Strconv.Clone
import Derived.Test.YthklnpkjlepagaaGreatDoorMAbgxAbc
namespace Go.Proofs.YthklnpkjlepagaaGreatDoor.Ab
open Go.RowKit

/-- Its code, at a slice type and its elements' type. -/
def backCode (ts te ty : Nat) : Code :=
            ((Code.region 0
            #[{ dst := some 4, op := Op.load ts (Operand.tmp 1), type := ts, pos := "iter.go:28", after := #[],
                guard := none },
              { dst := some 5,
                op :=
                  Op.call
                    { callee := Callee.builtin Builtin.len, args := #[Operand.tmp 4], argTypes := #[ts] },
                type := 3, pos := "iter.go:28", after := #[{ on := 0, ground := Ground.data }], guard := none },
              { dst := some 6,
                op :=
                  Op.binOp BinOp.sub 3 (Operand.tmp 5) (Operand.const (Value.int IntKind.i64 1)) 3,
                type := 3, pos := "iter.go:28", after := #[{ on := 1, ground := Ground.data }], guard := none },
              { dst := some 3, op := Op.assign (Operand.tmp 6), type := 3, pos := "iter.go:28",
                after :=
                  #[{ on := 2, ground := Ground.data }, { on := 0, ground := Ground.phase },
                    { on := 1, ground := Ground.phase }, { on := 2, ground := Ground.phase }],
                guard := none }]
            false).seq
        (Code.block 0
          (((Code.region 1
                      #[{ dst := some 7, op := Op.move (Operand.tmp 3), type := 3, pos := "iter.go:28",
                          after := #[], guard := none },
                        { dst := some 8,
                          op :=
                            Op.binOp BinOp.geq 3 (Operand.tmp 7)
                              (Operand.const (Value.int IntKind.i64 0)) 3,
                          type := 4, pos := "iter.go:28", after := #[{ on := 0, ground := Ground.data }],
                          guard := none }]
                      false).seq
                  (Code.cond (Operand.tmp 8) Code.skip (Code.exit 0))).seq
              ((Code.block 1
                    ((Code.region 3
                          #[{ dst := some 11, op := Op.move (Operand.tmp 0), type := ty, pos := "iter.go:29",
                              after := #[], guard := none },
                            { dst := some 12, op := Op.move (Operand.tmp 3), type := 3, pos := "iter.go:29",
                              after := #[], guard := none },
                            { dst := some 13, op := Op.load ts (Operand.tmp 1), type := ts, pos := "iter.go:29",
                              after := #[], guard := none },
                            { dst := some 14, op := Op.move (Operand.tmp 3), type := 3, pos := "iter.go:29",
                              after := #[], guard := none },
                            { dst := some 15, op := Op.indexAddr ts (Operand.tmp 13) (Operand.tmp 14),
                              type := 0, pos := "iter.go:29",
                              after := #[{ on := 2, ground := Ground.data }, { on := 3, ground := Ground.data }],
                              guard := none },
                            { dst := some 16, op := Op.load te (Operand.tmp 15), type := te, pos := "iter.go:29",
                              after := #[{ on := 4, ground := Ground.data }], guard := none },
                            { dst := some 17,
                              op :=
                                Op.call
                                  { callee := Callee.value (Operand.tmp 11),
                                    args := #[Operand.tmp 12, Operand.tmp 16], argTypes := #[3, te] },
                              type := 4, pos := "iter.go:29",
                              after :=
                                #[{ on := 0, ground := Ground.data }, { on := 1, ground := Ground.data },
                                  { on := 5, ground := Ground.data }],
                              guard := none },
                            { dst := some 18, op := Op.unOp UnOp.not 4 (Operand.tmp 17), type := 4,
                              pos := "iter.go:29", after := #[{ on := 6, ground := Ground.data }], guard := none }]
                          false).seq
                      (Code.cond (Operand.tmp 18) Code.ret Code.skip))).seq
                (Code.region 2
                  #[{ dst := some 9, op := Op.move (Operand.tmp 3), type := 3, pos := "iter.go:28", after := #[],
                      guard := none },
                    { dst := some 10,
                      op :=
                        Op.binOp BinOp.sub 3 (Operand.tmp 9) (Operand.const (Value.int IntKind.i64 1))
                          3,
                      type := 3, pos := "iter.go:28", after := #[{ on := 0, ground := Ground.data }],
                      guard := none },
                    { dst := some 3, op := Op.assign (Operand.tmp 10), type := 3, pos := "iter.go:28",
                      after :=
                        #[{ on := 1, ground := Ground.data }, { on := 0, ground := Ground.phase },
                          { on := 1, ground := Ground.phase }],
                      guard := none }]
                  false))).loop))

theorem backStep {P : Program} {n : Nat} {ops : Array Oper} {Q : Exit → Act → World → Prop} {o : Oper} {rest : List Oper} {a : Act} {w w' : World} {v : Value} (hg : o.guard = none) (he : (execOp a.eval o).run P w = .ok (.value v) w') (h : wpListIn Fence.wide n P ops Q rest (a.put o.dst v) w') : wpListIn Fence.wide n P ops Q (o :: rest) a w := by
  refine wpListIn_plain hg fun K hK => ⟨fun _ _ => trivial, ?_⟩
  show o.uponIn Fence.wide n P a K Q ((o.semAt none a.eval).run P w)
  rw [Oper.semAt_none, he]
  exact hK _ _ h
theorem ev_put {a : Act} {d i : Nat} {v : Value} (hd : d < a.tmps.size) : (a.put (some d) v).eval (.tmp i) = if d = i then v else a.eval (.tmp i) := by
  simp only [Act.put, Act.eval, Array.getD_eq_getD_getElem?]
  by_cases h : d = i
  · subst h; simp [hd]
  · rw [if_neg h, Array.getElem?_setIfInBounds_ne h]
theorem sz_put {a : Act} {d : Option Nat} {v : Value} : (a.put d v).tmps.size = a.tmps.size := by cases d <;> simp [Act.put]
theorem ev_const {a : Act} {v : Value} : a.eval (.const v) = v := rfl
theorem run_sub {P : Program} {w : World} {t : Nat} {i : Int} : (binOp .sub t (.int .i64 i) (.int .i64 1)).run P w = .ok (.int .i64 (IntKind.i64.wrap (i - 1))) w := rfl
theorem wrap_back {i : Int} (h1 : -1 ≤ i) (h2 : i < 4611686018427387904) : IntKind.i64.wrap i = i := by
  have hb : IntKind.i64.bits = 64 := rfl
  have hs : IntKind.i64.signed = true := rfl
  simp only [IntKind.wrap, hb]
  have : (2 : Int) ^ 64 = 18446744073709551616 := by decide
  have h63 : (2 : Int) ^ (64 - 1) = 9223372036854775808 := by decide
  simp only [this, h63, hs, Bool.true_and, decide_eq_true_eq]
  split <;> omega
def BackR (J : Nat → World → Prop) (Jx : World → Prop) : Ending → World → Prop := fun e W' => (∃ v, e = .returned v) ∧ (J 0 W' ∨ Jx W')
theorem inblk {id : Nat} {Q : Exit → Act → World → Prop} {a : Act} {w : World} (h : Q .normal a w) : Exit.inBlock id Q (.exit id) a w := by
  show (if id = id then Q .normal a w else _)
  rw [if_pos rfl]
  exact h
/-- The place that comes next. -/
def placeOf (v : Value) : Nat := match v with
  | .int _ i => (i + 1).toNat
  | _ => 0

theorem backward_ok {P : Program} {it ts te ty : Nat} {fn : Func} (hf : P.funcs[it]? = some fn) (hb : fn.body = some (backCode ts te ty)) (hn : fn.ntmps = 19) (hr : fn.results = #[]) : BackOk P it ts te := by
  intro l bx m J Jx W hm h0 hl hY
  obtain ⟨sl, hl1, hl2⟩ := hl
  refine callsIn_of_wp (R := BackR J Jx) hf hb trivial ?_
  rw [hn]
  obtain ⟨a, ha⟩ : ∃ a : Act, a = { tmps := #[.func (.yield l) #[] #[], bx] ++ Array.replicate (19 - 2) undef, defers := [] } := ⟨_, rfl⟩
  have hsz : a.tmps.size = 19 := by rw [ha]; simp
  have e0 : a.eval (.tmp 0) = .func (.yield l) #[] #[] := by rw [ha]; simp [Act.eval]
  have e1 : a.eval (.tmp 1) = bx := by rw [ha]; simp [Act.eval]
  have hd : a.defers = [] := by rw [ha]
  rw [show ({ tmps := #[Value.func (.yield l) #[] #[], bx] ++ Array.replicate (19 - (#[Value.func (.yield l) #[] #[], bx] : Array Value).size) undef, defers := [] } : Act) = a by rw [ha]; rfl]
  unfold backCode
  refine wpIn_seq (wpIn_region_list ?_)
  refine backStep rfl (v := sl) (w' := W) (by simp [execOp, e1, hl1]) ?_
  refine backStep rfl (v := .int .i64 m) (w' := W) (by simp [execOp, resolve, invoke, builtin, ev_put, hsz, hl2]) ?_
  refine backStep rfl (v := .int .i64 (m - 1)) (w' := W) (by simp [execOp, ev_put, sz_put, hsz, ev_const, eqGuard, run_sub, wrap_back (i := (m : Int) - 1) (by omega) (by omega)]) ?_
  refine backStep rfl (v := .int .i64 (m - 1)) (w' := W) (by simp [execOp, ev_put, sz_put, hsz]) ?_
  obtain ⟨a1, ha1⟩ : ∃ a1 : Act, (((a.put (some 4) sl).put (some 5) (Value.int .i64 (m : Int))).put (some 6) (.int .i64 ((m : Int) - 1))).put (some 3) (.int .i64 ((m : Int) - 1)) = a1 := ⟨_, rfl⟩
  have hI : a1.tmps.size = 19 ∧ a1.defers = [] ∧ a1.eval (.tmp 0) = .func (.yield l) #[] #[] ∧ a1.eval (.tmp 1) = bx ∧ a1.eval (.tmp 3) = .int .i64 ((m : Int) - 1) := by
    rw [← ha1]
    refine ⟨by simp [sz_put, hsz], by simp only [put_defers, hd], ?_, ?_, ?_⟩ <;> simp [ev_put, sz_put, hsz, e0, e1]
  show wpListIn _ _ _ _ _ [] _ _
  rw [ha1]
  refine wpListIn_nil ?_
  refine wpIn_block (wpIn_loop (fun a w => ∃ k : Nat, k ≤ m ∧ a.tmps.size = 19 ∧ a.defers = [] ∧ a.eval (.tmp 0) = .func (.yield l) #[] #[] ∧ a.eval (.tmp 1) = bx ∧ a.eval (.tmp 3) = .int .i64 ((k : Int) - 1) ∧ J k w) (fun a _ => placeOf (a.eval (.tmp 3))) ⟨m, Nat.le_refl _, hI.1, hI.2.1, hI.2.2.1, hI.2.2.2.1, hI.2.2.2.2, h0⟩ ?_)
  clear hI ha1 a1 hd e0 e1 hsz ha a h0 hl1 hl2
  rintro a w ⟨k, hk, hsz, hd, e0, e1, e3, hJ⟩
  refine wpIn_seq (wpIn_seq (wpIn_region_list ?_))
  refine backStep rfl (v := .int .i64 ((k : Int) - 1)) (w' := w) (by simp [execOp, e3]) ?_
  refine backStep rfl (v := .bool (decide (0 ≤ (k : Int) - 1))) (w' := w) (by simp [execOp, ev_put, hsz, ev_const, eqGuard, binOp, Op.intCmp]) ?_
  refine wpListIn_nil ?_
  show Code.wpIn _ _ _ (.cond (.tmp 8) .skip (.exit 0)) _ _ _
  cases k with
  | zero =>
    refine wpIn_cond_false (by simp [ev_put, sz_put, hsz]) (wpIn_exit ?_)
    refine inblk (id := 0) (Q := bodyPost P fn (BackR J Jx)) ?_
    refine ⟨by simp only [put_defers, hd], .tuple #[], ?_, ⟨_, rfl⟩, Or.inl hJ⟩
    exact results_none hr _ _ _
  | succ k =>
    refine wpIn_cond_true (by simp [ev_put, sz_put, hsz]) (wpIn_skip ?_)
    refine wpIn_seq (wpIn_block (wpIn_seq (wpIn_region_list ?_)))
    obtain ⟨sl, p, v, c1, c2, c3, fn', tmps', as', bd', c4, c5⟩ := hY k w (by omega) hJ
    have ek : ((k + 1 : Nat) : Int) - 1 = (k : Int) := by omega
    rw [ek] at e3 ⊢
    refine backStep rfl (v := .func (.yield l) #[] #[]) (w' := w) (by simp [execOp, ev_put, sz_put, hsz, e0]) ?_
    refine backStep rfl (v := .int .i64 (k : Int)) (w' := w) (by simp [execOp, ev_put, sz_put, hsz, e3]) ?_
    refine backStep rfl (v := sl) (w' := w) (by simp [execOp, ev_put, sz_put, hsz, e1, c1]) ?_
    refine backStep rfl (v := .int .i64 (k : Int)) (w' := w) (by simp [execOp, ev_put, sz_put, hsz, e3]) ?_
    refine backStep rfl (v := p) (w' := w) (by simp [execOp, ev_put, sz_put, hsz, c2]) ?_
    refine backStep rfl (v := v) (w' := w) (by simp [execOp, ev_put, sz_put, hsz, c3]) ?_
    obtain ⟨a2, ha2⟩ : ∃ a2 : Act, ((((((((a.put (some 7) (.int .i64 (k : Int))).put (some 8) (.bool (decide (0 ≤ (k : Int))))).put (some 11) (.func (.yield l) #[] #[])).put (some 12) (.int .i64 (k : Int))).put (some 13) sl).put (some 14) (.int .i64 (k : Int))).put (some 15) p).put (some 16) v) = a2 := ⟨_, rfl⟩
    have hI : a2.tmps.size = 19 ∧ a2.defers = [] ∧ a2.eval (.tmp 0) = .func (.yield l) #[] #[] ∧ a2.eval (.tmp 1) = bx ∧ a2.eval (.tmp 3) = .int .i64 (k : Int) ∧ a2.eval (.tmp 11) = .func (.yield l) #[] #[] ∧ a2.eval (.tmp 12) = .int .i64 (k : Int) ∧ a2.eval (.tmp 16) = v := by
      rw [← ha2]
      refine ⟨by simp [sz_put, hsz], by simp only [put_defers, hd], ?_, ?_, ?_, ?_, ?_, ?_⟩ <;> simp [ev_put, sz_put, hsz, e0, e1, e3]
    rw [ha2]
    obtain ⟨f1, f2, f3, f4, f5, f6, f7, f8⟩ := hI
    refine wpListIn_plain rfl fun K hK => ⟨fun _ _ => trivial, ?_⟩
    have hrun : (execOp a2.eval { dst := some 17, op := Op.call { callee := Callee.value (Operand.tmp 11), args := #[Operand.tmp 12, Operand.tmp 16], argTypes := #[3, te] }, type := 4, pos := "iter.go:29", after := #[{ on := 0, ground := Ground.data }, { on := 1, ground := Ground.data }, { on := 5, ground := Ground.data }], guard := none }).run P w = .ok (.round l fn' tmps' as' bd') w := by
      simp [execOp, resolve, invoke, f6, f7, f8, Deferred.ofValue, c4]
    show Oper.uponIn Fence.wide 0 P _ a2 K _ ((Oper.semAt none a2.eval _).run P w)
    rw [Oper.semAt_none, hrun]
    refine ⟨fun hh => (by cases hh), c5.mono ?_⟩
    rintro e w3 (⟨rfl, hj⟩ | ⟨rfl, hj⟩)
    · refine hK _ _ ?_
      refine backStep rfl (v := .bool false) (w' := w3) (by simp [execOp, ev_put, f1, Op.unary]) ?_
      refine wpListIn_nil ?_
      show Code.wpIn _ _ _ (.cond (.tmp 18) .ret .skip) _ _ _
      refine wpIn_cond_false (by simp [ev_put, sz_put, f1]) (wpIn_skip ?_)
      show Code.wpIn _ _ _ (.region 2 _ false) _ _ _
      refine wpIn_region_list ?_
      refine backStep rfl (v := .int .i64 (k : Int)) (w' := w3) (by simp [execOp, ev_put, sz_put, f1, f5]) ?_
      refine backStep rfl (v := .int .i64 ((k : Int) - 1)) (w' := w3) (by simp [execOp, ev_put, sz_put, f1, ev_const, eqGuard, run_sub, wrap_back (i := (k : Int) - 1) (by omega) (by omega)]) ?_
      refine backStep rfl (v := .int .i64 ((k : Int) - 1)) (w' := w3) (by simp [execOp, ev_put, sz_put, f1]) ?_
      refine wpListIn_nil ?_
      refine ⟨⟨k, by omega, by simp [sz_put, f1], by simp only [put_defers, f2], ?_, ?_, ?_, hj⟩, ?_⟩
      · simp [ev_put, sz_put, f1, f3]
      · simp [ev_put, sz_put, f1, f4]
      · simp [ev_put, sz_put, f1]
      · rw [e3]
        simp only [ev_put, sz_put, f1, if_true, show (3 : Nat) < 19 by decide, placeOf]
        omega
    · refine hK _ _ ?_
      refine backStep rfl (v := .bool true) (w' := w3) (by simp [execOp, ev_put, f1, Op.unary]) ?_
      refine wpListIn_nil ?_
      show Code.wpIn _ _ _ (.cond (.tmp 18) .ret .skip) _ _ _
      refine wpIn_cond_true (by simp [ev_put, sz_put, f1]) (wpIn_ret ?_)
      show bodyPost P fn (BackR J Jx) .ret _ _
      refine ⟨by simp only [put_defers, f2], .tuple #[], ?_, ⟨_, rfl⟩, Or.inr hj⟩
      exact results_none hr _ _ _

/-- The function it is slices.Backward's closure, at these types. -/
def extBack (it ts te : Nat) : Nat → List AV → Hp → Nat → Option (R Out) := fun g args _ _ => if g = it then (match args with
  | [] => some (.error (ts * 100000 + te))
  | _ => none) else none
theorem extBack_ok {S : Nat → Value} {P : Program} {T : Tabs} {it ts te ty : Nat} {fn : Func} (hte : te < 100000) (hf : P.funcs[it]? = some fn) (hb : fn.body = some (backCode ts te ty)) (hn : fn.ntmps = 19) (hr : fn.results = #[]) : ExtOk P T S (extBack it ts te) := by
  refine ⟨fun g args H n out hx => ?_, fun g args H n r hx => ?_, fun g c hx => ?_⟩
  · simp only [extBack] at hx
    split at hx
    · rename_i r hr
      split at hr
      · split at hr
        · cases hr; cases hx
        · cases hr
      · cases hr
    · cases hx
  · simp only [extBack] at hx
    split at hx
    · rename_i hg
      unfold hasBody
      rw [hg, hf]
      simp [hb]
    · cases hx
  · simp only [extBack] at hx
    split at hx
    · rename_i hg
      cases hx
      rw [hg, show (ts * 100000 + te) / 100000 = ts by omega, show (ts * 100000 + te) % 100000 = te by omega]
      exact backward_ok hf hb hn hr
    · cases hx
end Go.Proofs.YthklnpkjlepagaaGreatDoor.Ab
namespace Go.Proofs.YthklnpkjlepagaaGreatDoor.Ab
open Go.Shelf
def laysM_ren : Go.Shelf.Ren := ⟨fun | 316 => 262 | n => n, fun | 0 => 0 | 3 => 3 | 4 => 4 | 9 => 9 | 37 => 86 | 127 => 302 | 5 => 5 | n => n, fun | n => n⟩
theorem laysM : Go.Proofs.LaysM.n316 Tryz.prog laysM_ren := {
  mixed := by kernel_rfl
  f316 := Tryz.func262.trans (congrArg some (by kernel_rfl))
  t0 := Tryz.underlying0
  a0 := Tryz.isAgg0
  z0 := Tryz.sizeOf0
  v0 := Tryz.zeroValue0
  t3 := Tryz.underlying3
  a3 := Tryz.isAgg3
  z3 := Tryz.sizeOf3
  v3 := Tryz.zeroValue3
  t4 := Tryz.underlying4
  a4 := Tryz.isAgg4
  z4 := Tryz.sizeOf4
  v4 := Tryz.zeroValue4
  t9 := Tryz.underlying9
  a9 := Tryz.isAgg9
  z9 := Tryz.sizeOf9
  v9 := Tryz.zeroValue9
  t37 := Tryz.underlying86
  a37 := Tryz.isAgg86
  z37 := Tryz.sizeOf86
  v37 := Tryz.zeroValue86
  t127 := Tryz.underlying302
  a127 := Tryz.isAgg302
  z127 := Tryz.sizeOf302
  v127 := Tryz.zeroValue302
  t5 := Tryz.underlying5
  a5 := Tryz.isAgg5
  z5 := Tryz.sizeOf5
  v5 := Tryz.zeroValue5
  i0 := by kernel_rfl
  i3 := by kernel_rfl
  i4 := by kernel_rfl
  i5 := by kernel_rfl
  i9 := by kernel_rfl
  i37 := by kernel_rfl
  i127 := by kernel_rfl }
open Go.RowKit in
theorem clone_any (s : ByteArray) (w : World) (hlim : s.size ≤ 281474976710656) :
    Calls Tryz.prog 262 #[.string s] w fun e w' => e = .returned (.string s) ∧ Below w.heap.size w w' := Any.stringslite_Clone laysM s w hlim
open Go.RowKit in
theorem ext262 {S : Nat → Value} : ExtOk Tryz.prog (Tabs.mk tis [ [Tryz.f0, Tryz.f1, Tryz.f2, Tryz.f3, Tryz.f4, Tryz.f5, Tryz.f6, Tryz.f7, Tryz.f8, Tryz.f9, Tryz.f10, Tryz.f11, Tryz.f12, Tryz.f13, Tryz.f14, Tryz.f15], [Tryz.f16, Tryz.f17, Tryz.f18, Tryz.f19, Tryz.f20, Tryz.f21, Tryz.f22, Tryz.f23, Tryz.f24, Tryz.f25, Tryz.f26, Tryz.f27, Tryz.f28, Tryz.f29, Tryz.f30, Tryz.f31], [Tryz.f32, Tryz.f33, Tryz.f34, Tryz.f35, Tryz.f36, Tryz.f37, Tryz.f38, Tryz.f39, Tryz.f40, Tryz.f41, Tryz.f42, Tryz.f43, Tryz.f44, Tryz.f45, Tryz.f46, Tryz.f47], [Tryz.f48, Tryz.f49, Tryz.f50, Tryz.f51, Tryz.f52, Tryz.f53, Tryz.f54, Tryz.f55, Tryz.f56, Tryz.f57, Tryz.f58, Tryz.f59, Tryz.f60, Tryz.f61, Tryz.f62, Tryz.f63], [Tryz.f64, Tryz.f65, Tryz.f66, Tryz.f67, Tryz.f68, Tryz.f69, Tryz.f70, Tryz.f71, Tryz.f72, Tryz.f73, Tryz.f74, Tryz.f75, Tryz.f76, Tryz.f77, Tryz.f78, Tryz.f79], [Tryz.f80, Tryz.f81, Tryz.f82, Tryz.f83, Tryz.f84, Tryz.f85, Tryz.f86, Tryz.f87, Tryz.f88, Tryz.f89, Tryz.f90, Tryz.f91, Tryz.f92, Tryz.f93, Tryz.f94, Tryz.f95], [Tryz.f96, Tryz.f97, Tryz.f98, Tryz.f99, Tryz.f100, Tryz.f101, Tryz.f102, Tryz.f103, Tryz.f104, Tryz.f105, Tryz.f106, Tryz.f107, Tryz.f108, Tryz.f109, Tryz.f110, Tryz.f111], [Tryz.f112, Tryz.f113, Tryz.f114, Tryz.f115, Tryz.f116, Tryz.f117, Tryz.f118, Tryz.f119, Tryz.f120, Tryz.f121, Tryz.f122, Tryz.f123, Tryz.f124, Tryz.f125, Tryz.f126, Tryz.f127], [Tryz.f128, Tryz.f129, Tryz.f130, Tryz.f131, Tryz.f132, Tryz.f133, Tryz.f134, Tryz.f135, Tryz.f136, Tryz.f137, Tryz.f138, Tryz.f139, Tryz.f140, Tryz.f141, Tryz.f142, Tryz.f143], [Tryz.f144, Tryz.f145, Tryz.f146, Tryz.f147, Tryz.f148, Tryz.f149, Tryz.f150, Tryz.f151, Tryz.f152, Tryz.f153, Tryz.f154, Tryz.f155, Tryz.f156, Tryz.f157, Tryz.f158, Tryz.f159], [Tryz.f160, Tryz.f161, Tryz.f162, Tryz.f163, Tryz.f164, Tryz.f165, Tryz.f166, Tryz.f167, Tryz.f168, Tryz.f169, Tryz.f170, Tryz.f171, Tryz.f172, Tryz.f173, Tryz.f174, Tryz.f175], [Tryz.f176, Tryz.f177, Tryz.f178, Tryz.f179, Tryz.f180, Tryz.f181, Tryz.f182, Tryz.f183, Tryz.f184, Tryz.f185, Tryz.f186, Tryz.f187, Tryz.f188, Tryz.f189, Tryz.f190, Tryz.f191], [Tryz.f192, Tryz.f193, Tryz.f194, Tryz.f195, Tryz.f196, Tryz.f197, Tryz.f198, Tryz.f199, Tryz.f200, Tryz.f201, Tryz.f202, Tryz.f203, Tryz.f204, Tryz.f205, Tryz.f206, Tryz.f207], [Tryz.f208, Tryz.f209, Tryz.f210, Tryz.f211, Tryz.f212, Tryz.f213, Tryz.f214, Tryz.f215, Tryz.f216, Tryz.f217, Tryz.f218, Tryz.f219, Tryz.f220, Tryz.f221, Tryz.f222, Tryz.f223], [Tryz.f224, Tryz.f225, Tryz.f226, Tryz.f227, Tryz.f228, Tryz.f229, Tryz.f230, Tryz.f231, Tryz.f232, Tryz.f233, Tryz.f234, Tryz.f235, Tryz.f236, Tryz.f237, Tryz.f238, Tryz.f239], [Tryz.f240, Tryz.f241, Tryz.f242, Tryz.f243, Tryz.f244, Tryz.f245, Tryz.f246, Tryz.f247, Tryz.f248, Tryz.f249, Tryz.f250, Tryz.f251, Tryz.f252, Tryz.f253, Tryz.f254, Tryz.f255], [Tryz.f256, Tryz.f257, Tryz.f258, Tryz.f259, Tryz.f260, Tryz.f261, Tryz.f262, Tryz.f263, Tryz.f264, Tryz.f265, Tryz.f266, Tryz.f267, Tryz.f268, Tryz.f269, Tryz.f270, Tryz.f271], [Tryz.f272, Tryz.f273, Tryz.f274, Tryz.f275, Tryz.f276, Tryz.f277, Tryz.f278, Tryz.f279, Tryz.f280, Tryz.f281, Tryz.f282, Tryz.f283, Tryz.f284, Tryz.f285, Tryz.f286, Tryz.f287], [Tryz.f288, Tryz.f289, Tryz.f290, Tryz.f291, Tryz.f292, Tryz.f293, Tryz.f294, Tryz.f295, Tryz.f296, Tryz.f297, Tryz.f298, Tryz.f299, Tryz.f300, Tryz.f301, Tryz.f302, Tryz.f303], [Tryz.f304, Tryz.f305, Tryz.f306, Tryz.f307, Tryz.f308, Tryz.f309, Tryz.f310, Tryz.f311, Tryz.f312, Tryz.f313, Tryz.f314, Tryz.f315, Tryz.f316, Tryz.f317, Tryz.f318, Tryz.f319], [Tryz.f320, Tryz.f321]] globs) S (extStr 262) := extStr_ok (by kernel_rfl) clone_any
end Go.Proofs.YthklnpkjlepagaaGreatDoor.Ab
namespace Go.Proofs.YthklnpkjlepagaaGreatDoor.Ab
theorem ext176 {S : Nat → Value} {T : Tabs} : ExtOk Tryz.prog T S (extBack 176 28 51) := extBack_ok (ty := 208) (fn := Tryz.f176) (by decide) Tryz.func176 (by kernel_rfl) (by kernel_rfl) (by kernel_rfl)
end Go.Proofs.YthklnpkjlepagaaGreatDoor.Ab
namespace Go.Proofs.YthklnpkjlepagaaGreatDoor.Ab
open Go.RowKit

set_option maxRecDepth 100000 in
theorem run9 : isTrueA (callF Tryz.prog (Tabs.mk tis [ [Tryz.f0, Tryz.f1, Tryz.f2, Tryz.f3, Tryz.f4, Tryz.f5, Tryz.f6, Tryz.f7, Tryz.f8, Tryz.f9, Tryz.f10, Tryz.f11, Tryz.f12, Tryz.f13, Tryz.f14, Tryz.f15], [Tryz.f16, Tryz.f17, Tryz.f18, Tryz.f19, Tryz.f20, Tryz.f21, Tryz.f22, Tryz.f23, Tryz.f24, Tryz.f25, Tryz.f26, Tryz.f27, Tryz.f28, Tryz.f29, Tryz.f30, Tryz.f31], [Tryz.f32, Tryz.f33, Tryz.f34, Tryz.f35, Tryz.f36, Tryz.f37, Tryz.f38, Tryz.f39, Tryz.f40, Tryz.f41, Tryz.f42, Tryz.f43, Tryz.f44, Tryz.f45, Tryz.f46, Tryz.f47], [Tryz.f48, Tryz.f49, Tryz.f50, Tryz.f51, Tryz.f52, Tryz.f53, Tryz.f54, Tryz.f55, Tryz.f56, Tryz.f57, Tryz.f58, Tryz.f59, Tryz.f60, Tryz.f61, Tryz.f62, Tryz.f63], [Tryz.f64, Tryz.f65, Tryz.f66, Tryz.f67, Tryz.f68, Tryz.f69, Tryz.f70, Tryz.f71, Tryz.f72, Tryz.f73, Tryz.f74, Tryz.f75, Tryz.f76, Tryz.f77, Tryz.f78, Tryz.f79], [Tryz.f80, Tryz.f81, Tryz.f82, Tryz.f83, Tryz.f84, Tryz.f85, Tryz.f86, Tryz.f87, Tryz.f88, Tryz.f89, Tryz.f90, Tryz.f91, Tryz.f92, Tryz.f93, Tryz.f94, Tryz.f95], [Tryz.f96, Tryz.f97, Tryz.f98, Tryz.f99, Tryz.f100, Tryz.f101, Tryz.f102, Tryz.f103, Tryz.f104, Tryz.f105, Tryz.f106, Tryz.f107, Tryz.f108, Tryz.f109, Tryz.f110, Tryz.f111], [Tryz.f112, Tryz.f113, Tryz.f114, Tryz.f115, Tryz.f116, Tryz.f117, Tryz.f118, Tryz.f119, Tryz.f120, Tryz.f121, Tryz.f122, Tryz.f123, Tryz.f124, Tryz.f125, Tryz.f126, Tryz.f127], [Tryz.f128, Tryz.f129, Tryz.f130, Tryz.f131, Tryz.f132, Tryz.f133, Tryz.f134, Tryz.f135, Tryz.f136, Tryz.f137, Tryz.f138, Tryz.f139, Tryz.f140, Tryz.f141, Tryz.f142, Tryz.f143], [Tryz.f144, Tryz.f145, Tryz.f146, Tryz.f147, Tryz.f148, Tryz.f149, Tryz.f150, Tryz.f151, Tryz.f152, Tryz.f153, Tryz.f154, Tryz.f155, Tryz.f156, Tryz.f157, Tryz.f158, Tryz.f159], [Tryz.f160, Tryz.f161, Tryz.f162, Tryz.f163, Tryz.f164, Tryz.f165, Tryz.f166, Tryz.f167, Tryz.f168, Tryz.f169, Tryz.f170, Tryz.f171, Tryz.f172, Tryz.f173, Tryz.f174, Tryz.f175], [Tryz.f176, Tryz.f177, Tryz.f178, Tryz.f179, Tryz.f180, Tryz.f181, Tryz.f182, Tryz.f183, Tryz.f184, Tryz.f185, Tryz.f186, Tryz.f187, Tryz.f188, Tryz.f189, Tryz.f190, Tryz.f191], [Tryz.f192, Tryz.f193, Tryz.f194, Tryz.f195, Tryz.f196, Tryz.f197, Tryz.f198, Tryz.f199, Tryz.f200, Tryz.f201, Tryz.f202, Tryz.f203, Tryz.f204, Tryz.f205, Tryz.f206, Tryz.f207], [Tryz.f208, Tryz.f209, Tryz.f210, Tryz.f211, Tryz.f212, Tryz.f213, Tryz.f214, Tryz.f215, Tryz.f216, Tryz.f217, Tryz.f218, Tryz.f219, Tryz.f220, Tryz.f221, Tryz.f222, Tryz.f223], [Tryz.f224, Tryz.f225, Tryz.f226, Tryz.f227, Tryz.f228, Tryz.f229, Tryz.f230, Tryz.f231, Tryz.f232, Tryz.f233, Tryz.f234, Tryz.f235, Tryz.f236, Tryz.f237, Tryz.f238, Tryz.f239], [Tryz.f240, Tryz.f241, Tryz.f242, Tryz.f243, Tryz.f244, Tryz.f245, Tryz.f246, Tryz.f247, Tryz.f248, Tryz.f249, Tryz.f250, Tryz.f251, Tryz.f252, Tryz.f253, Tryz.f254, Tryz.f255], [Tryz.f256, Tryz.f257, Tryz.f258, Tryz.f259, Tryz.f260, Tryz.f261, Tryz.f262, Tryz.f263, Tryz.f264, Tryz.f265, Tryz.f266, Tryz.f267, Tryz.f268, Tryz.f269, Tryz.f270, Tryz.f271], [Tryz.f272, Tryz.f273, Tryz.f274, Tryz.f275, Tryz.f276, Tryz.f277, Tryz.f278, Tryz.f279, Tryz.f280, Tryz.f281, Tryz.f282, Tryz.f283, Tryz.f284, Tryz.f285, Tryz.f286, Tryz.f287], [Tryz.f288, Tryz.f289, Tryz.f290, Tryz.f291, Tryz.f292, Tryz.f293, Tryz.f294, Tryz.f295, Tryz.f296, Tryz.f297, Tryz.f298, Tryz.f299, Tryz.f300, Tryz.f301, Tryz.f302, Tryz.f303], [Tryz.f304, Tryz.f305, Tryz.f306, Tryz.f307, Tryz.f308, Tryz.f309, Tryz.f310, Tryz.f311, Tryz.f312, Tryz.f313, Tryz.f314, Tryz.f315, Tryz.f316, Tryz.f317, Tryz.f318, Tryz.f319], [Tryz.f320, Tryz.f321]] globs) (extOr (extStr 262) (extBack 176 28 51)) 1000000 2000 9 [] Hp.emp 0) = true := by kernel_rfl
theorem known9 {S : Nat → Value} : ExtOk Tryz.prog (Tabs.mk tis [ [Tryz.f0, Tryz.f1, Tryz.f2, Tryz.f3, Tryz.f4, Tryz.f5, Tryz.f6, Tryz.f7, Tryz.f8, Tryz.f9, Tryz.f10, Tryz.f11, Tryz.f12, Tryz.f13, Tryz.f14, Tryz.f15], [Tryz.f16, Tryz.f17, Tryz.f18, Tryz.f19, Tryz.f20, Tryz.f21, Tryz.f22, Tryz.f23, Tryz.f24, Tryz.f25, Tryz.f26, Tryz.f27, Tryz.f28, Tryz.f29, Tryz.f30, Tryz.f31], [Tryz.f32, Tryz.f33, Tryz.f34, Tryz.f35, Tryz.f36, Tryz.f37, Tryz.f38, Tryz.f39, Tryz.f40, Tryz.f41, Tryz.f42, Tryz.f43, Tryz.f44, Tryz.f45, Tryz.f46, Tryz.f47], [Tryz.f48, Tryz.f49, Tryz.f50, Tryz.f51, Tryz.f52, Tryz.f53, Tryz.f54, Tryz.f55, Tryz.f56, Tryz.f57, Tryz.f58, Tryz.f59, Tryz.f60, Tryz.f61, Tryz.f62, Tryz.f63], [Tryz.f64, Tryz.f65, Tryz.f66, Tryz.f67, Tryz.f68, Tryz.f69, Tryz.f70, Tryz.f71, Tryz.f72, Tryz.f73, Tryz.f74, Tryz.f75, Tryz.f76, Tryz.f77, Tryz.f78, Tryz.f79], [Tryz.f80, Tryz.f81, Tryz.f82, Tryz.f83, Tryz.f84, Tryz.f85, Tryz.f86, Tryz.f87, Tryz.f88, Tryz.f89, Tryz.f90, Tryz.f91, Tryz.f92, Tryz.f93, Tryz.f94, Tryz.f95], [Tryz.f96, Tryz.f97, Tryz.f98, Tryz.f99, Tryz.f100, Tryz.f101, Tryz.f102, Tryz.f103, Tryz.f104, Tryz.f105, Tryz.f106, Tryz.f107, Tryz.f108, Tryz.f109, Tryz.f110, Tryz.f111], [Tryz.f112, Tryz.f113, Tryz.f114, Tryz.f115, Tryz.f116, Tryz.f117, Tryz.f118, Tryz.f119, Tryz.f120, Tryz.f121, Tryz.f122, Tryz.f123, Tryz.f124, Tryz.f125, Tryz.f126, Tryz.f127], [Tryz.f128, Tryz.f129, Tryz.f130, Tryz.f131, Tryz.f132, Tryz.f133, Tryz.f134, Tryz.f135, Tryz.f136, Tryz.f137, Tryz.f138, Tryz.f139, Tryz.f140, Tryz.f141, Tryz.f142, Tryz.f143], [Tryz.f144, Tryz.f145, Tryz.f146, Tryz.f147, Tryz.f148, Tryz.f149, Tryz.f150, Tryz.f151, Tryz.f152, Tryz.f153, Tryz.f154, Tryz.f155, Tryz.f156, Tryz.f157, Tryz.f158, Tryz.f159], [Tryz.f160, Tryz.f161, Tryz.f162, Tryz.f163, Tryz.f164, Tryz.f165, Tryz.f166, Tryz.f167, Tryz.f168, Tryz.f169, Tryz.f170, Tryz.f171, Tryz.f172, Tryz.f173, Tryz.f174, Tryz.f175], [Tryz.f176, Tryz.f177, Tryz.f178, Tryz.f179, Tryz.f180, Tryz.f181, Tryz.f182, Tryz.f183, Tryz.f184, Tryz.f185, Tryz.f186, Tryz.f187, Tryz.f188, Tryz.f189, Tryz.f190, Tryz.f191], [Tryz.f192, Tryz.f193, Tryz.f194, Tryz.f195, Tryz.f196, Tryz.f197, Tryz.f198, Tryz.f199, Tryz.f200, Tryz.f201, Tryz.f202, Tryz.f203, Tryz.f204, Tryz.f205, Tryz.f206, Tryz.f207], [Tryz.f208, Tryz.f209, Tryz.f210, Tryz.f211, Tryz.f212, Tryz.f213, Tryz.f214, Tryz.f215, Tryz.f216, Tryz.f217, Tryz.f218, Tryz.f219, Tryz.f220, Tryz.f221, Tryz.f222, Tryz.f223], [Tryz.f224, Tryz.f225, Tryz.f226, Tryz.f227, Tryz.f228, Tryz.f229, Tryz.f230, Tryz.f231, Tryz.f232, Tryz.f233, Tryz.f234, Tryz.f235, Tryz.f236, Tryz.f237, Tryz.f238, Tryz.f239], [Tryz.f240, Tryz.f241, Tryz.f242, Tryz.f243, Tryz.f244, Tryz.f245, Tryz.f246, Tryz.f247, Tryz.f248, Tryz.f249, Tryz.f250, Tryz.f251, Tryz.f252, Tryz.f253, Tryz.f254, Tryz.f255], [Tryz.f256, Tryz.f257, Tryz.f258, Tryz.f259, Tryz.f260, Tryz.f261, Tryz.f262, Tryz.f263, Tryz.f264, Tryz.f265, Tryz.f266, Tryz.f267, Tryz.f268, Tryz.f269, Tryz.f270, Tryz.f271], [Tryz.f272, Tryz.f273, Tryz.f274, Tryz.f275, Tryz.f276, Tryz.f277, Tryz.f278, Tryz.f279, Tryz.f280, Tryz.f281, Tryz.f282, Tryz.f283, Tryz.f284, Tryz.f285, Tryz.f286, Tryz.f287], [Tryz.f288, Tryz.f289, Tryz.f290, Tryz.f291, Tryz.f292, Tryz.f293, Tryz.f294, Tryz.f295, Tryz.f296, Tryz.f297, Tryz.f298, Tryz.f299, Tryz.f300, Tryz.f301, Tryz.f302, Tryz.f303], [Tryz.f304, Tryz.f305, Tryz.f306, Tryz.f307, Tryz.f308, Tryz.f309, Tryz.f310, Tryz.f311, Tryz.f312, Tryz.f313, Tryz.f314, Tryz.f315, Tryz.f316, Tryz.f317, Tryz.f318, Tryz.f319], [Tryz.f320, Tryz.f321]] globs) S (extTrue 9) := extTrue_ok (by kernel_rfl) fun C hG => by
  have := law_trueF (S := S) tabsB_ok tabsB_zero no_num mixed codes tabsB_fns (extOr_ok ext262 ext176) run9 (globs_ok (bnd_of_g hG)) (args := []) (vs := #[]) trivial
  exact this
end Go.Proofs.YthklnpkjlepagaaGreatDoor.Ab
