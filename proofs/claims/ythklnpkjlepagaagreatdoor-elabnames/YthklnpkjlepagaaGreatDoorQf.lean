/- Lengths, rows that are made, append. -/
import Derived.Test.YthklnpkjlepagaaGreatDoorMQdxQe
namespace Go.Proofs.YthklnpkjlepagaaGreatDoor.Ab
open Go.RowKit

/-- A new block, of which the first cells are known. -/
theorem Ok.newP {C : Cx} (h : Ok C) {n : Nat} (hn : ¬ C.A n) {ks : List AV} {us : Array Value} {ty : Nat} (hk : ks.length ≤ us.size) (hl : RL C ks (us.toList.take ks.length)) : Goes C (C.neu n (.cells us ty) ⟨ty, ks⟩) := by
  have h1 := h.new hn (ks := List.replicate us.size AV.any) (us := us) (ty := ty) (All2.mk (by simp) fun i a b ha _ => by
    rw [List.getElem?_replicate] at ha
    split at ha
    · cases ha; exact rv_any
    · cases ha)
  have hb : (C.neu n (.cells us ty) ⟨ty, List.replicate us.size AV.any⟩).H.get n = some ⟨ty, List.replicate us.size AV.any⟩ := Hp.get_same _ _ _
  have hw : (C.w.alloc (.cells us ty)).heap[(C.neu n (.cells us ty) ⟨ty, List.replicate us.size AV.any⟩).mu n]? = some (.cells us ty (0, 0)) := by rw [neu_mu]; exact heap_alloc_new _ _
  have h2 := h1.ok.put (b := n) hb (ks := ks) (cs := us) (us := us) (w := C.w.alloc (.cells us ty)) hw rfl hk (RL.mono h1.le hl) rfl hw (fun _ _ => rfl) (Same3.refl _)
  have h3 : ∀ b B, (C.H.set n (some ⟨ty, ks⟩)).get b = some B → ((C.H.set n (some ⟨ty, List.replicate us.size AV.any⟩)).set n (some ⟨ty, ks⟩)).get b = some B := by
    intro b B hB
    rw [Hp.get_set] at hB ⊢
    split
    · rename_i e; rw [if_pos e] at hB; exact hB
    · rename_i e; rw [if_neg e] at hB; rw [Hp.get_other _ _ e]; exact hB
  exact (h1.trans h2).trans (h2.ok.less (H := C.H.set n (some ⟨ty, ks⟩)) h3)

/-- The context in which the block a has the new number n. -/
def Cx.home (C : Cx) (a n : Nat) (w : World) (B : Blk) : Cx := ⟨w, updMu C.mu n (C.mu a), fun b => C.A b ∨ b = n, (C.H.set a none).set n (some B), C.Z, C.S⟩
/-- A block has a new number, and is written. -/
theorem Ok.rehome {C : Cx} (h : Ok C) {a n : Nat} (hnew : ¬ C.A n) {B : Blk} (ha : C.H.get a = some B) {ks : List AV} {cs us : Array Value} (hc : C.w.heap[C.mu a]? = some (.cells cs B.ty (0, 0))) (hs : us.size = cs.size) (hk : ks.length ≤ us.size) (hl : RL C ks (us.toList.take ks.length)) {w : World} (hw : w.heap.size = C.w.heap.size)
    (h1 : w.heap[C.mu a]? = some (.cells us B.ty (0, 0))) (h2 : ∀ j, j ≠ C.mu a → w.heap[j]? = C.w.heap[j]?) (h3 : Same3 C.w w) : Goes C (C.home a n w ⟨B.ty, ks⟩) := by
  have hp := h.put ha hc hs hk hl hw h1 h2 h3
  have hold : ∀ b B', b ≠ n → ((C.H.set a none).set n (some ⟨B.ty, ks⟩)).get b = some B' → C.H.get b = some B' ∧ b ≠ a := by
    intro b B' hn hb
    rw [Hp.get_other _ _ (Ne.symm hn), Hp.get_set] at hb
    split at hb
    · cases hb
    · rename_i e; exact ⟨hb, fun e' => e e'.symm⟩
  have hmu : ∀ b, b ≠ n → updMu C.mu n (C.mu a) b = C.mu b := fun b hb => if_neg hb
  have hne : ∀ b, C.A b → b ≠ n := fun b hb (e : b = n) => hnew (e ▸ hb)
  have le : C.le (C.home a n w ⟨B.ty, ks⟩) :=
    ⟨fun a ha => Or.inl ha, fun x hx => hmu x (hne x hx), by show _ ≤ w.heap.size; omega, fun k hk' => ⟨⟨by show k < w.heap.size; have := hk'.1; omega, hk'.2⟩, h2 k (fun e => h.zone a B ha (e ▸ hk'.2))⟩, hp.le.shape, rfl⟩
  refine ⟨le, ⟨fun b B' hb => ?_, fun b B1 b' B2 hb hb' he => ?_, fun b B' hb => ?_⟩, h3, fun k hk' ho => ⟨h2 k (fun e => ho a B ha e.symm), fun b B' hb => ?_⟩, fun _ _ h => h⟩
  · by_cases hn : b = n
    · subst hn
      have hb2 : ((C.H.set a none).set b (some ⟨B.ty, ks⟩)).get b = some B' := hb
      rw [Hp.get_same] at hb2
      obtain rfl := Option.some.inj hb2
      refine ⟨Or.inr rfl, Or.inl ⟨us, ?_, hk, RL.mono le hl⟩⟩
      show w.heap[updMu C.mu b (C.mu a) b]? = _
      rw [show updMu C.mu b (C.mu a) b = C.mu a from if_pos rfl]
      exact h1
    · obtain ⟨g1, g2⟩ := hold b B' hn hb
      obtain ⟨k1, k2⟩ := h.blk b B' g1
      refine ⟨Or.inl k1, k2.mono le ?_⟩
      show w.heap[updMu C.mu n (C.mu a) b]? = _
      rw [hmu b hn, h2 _ (fun e => g2 (h.inj _ _ _ _ g1 ha e))]
  · have he : updMu C.mu n (C.mu a) b = updMu C.mu n (C.mu a) b' := he
    by_cases hn : b = n
    · by_cases hn' : b' = n
      · omega
      · obtain ⟨g1, g2⟩ := hold b' B2 hn' hb'
        rw [hmu b' hn', hn, show updMu C.mu n (C.mu a) n = C.mu a from if_pos rfl] at he
        exact absurd (h.inj _ _ _ _ ha g1 he).symm g2
    · obtain ⟨g1, g2⟩ := hold b B1 hn hb
      by_cases hn' : b' = n
      · rw [hmu b hn, hn', show updMu C.mu n (C.mu a) n = C.mu a from if_pos rfl] at he
        exact absurd (h.inj _ _ _ _ g1 ha he) g2
      · rw [hmu b hn, hmu b' hn'] at he
        exact h.inj _ _ _ _ g1 (hold b' B2 hn' hb').1 he
  · show ¬ C.Z (updMu C.mu n (C.mu a) b)
    by_cases hn : b = n
    · rw [hn, show updMu C.mu n (C.mu a) n = C.mu a from if_pos rfl]
      exact h.zone a B ha
    · rw [hmu b hn]
      exact h.zone b B' (hold b B' hn hb).1
  · show updMu C.mu n (C.mu a) b ≠ k
    by_cases hn : b = n
    · rw [hn, show updMu C.mu n (C.mu a) n = C.mu a from if_pos rfl]
      exact ho a B ha
    · rw [hmu b hn]
      exact ho b B' (hold b B' hn hb).1

/-- len. -/
def xLen (T : Tabs) (t : Nat) (x : AV) : Option AV := (T.tiAt t).bind fun ti =>
  if ti.kind = 3 then (if x.t = 5 ∨ x.t = 6 ∨ x.t = 7 ∨ x.t = 8 then some (AV.ex (.int .i64 x.c)) else if x.t = 0 then (match x.v with
    | .slice _ n _ => some (AV.ex (.int .i64 n))
    | _ => none) else none)
  else if ti.kind = 5 ∧ x.t = 0 then (match x.v with
    | .string s => some (AV.ex (.int .i64 s.size))
    | _ => none)
  else if ti.kind = 2 then some (AV.ex (.int .i64 ti.len))
  else none
theorem xLen_ok {P : Program} {T : Tabs} (hT : TabOk P T) {C : Cx} {t ty : Nat} {ts : Array TypeId} {vs : Array Value} {x y : AV} {v : Value} (h : RV C x v) (ht : ts[0]? = some t) (hv : vs[0]? = some v) (e : xLen T t x = some y) : ∃ r, (Builtin.len_ ts ty vs).run P C.w = .ok r C.w ∧ RV C y r := by
  unfold xLen at e
  obtain ⟨ti, h1, e⟩ := Option.bind_eq_some_iff.1 e
  obtain ⟨tk⟩ := hT _ _ h1
  have hk := tk.kind
  unfold kindB at hk
  split at e
  · rename_i k3
    split at hk <;> simp [k3] at hk
    rename_i e' hd
    have hu : P.underlying t = some (.slice e') := by rw [tk.hd, hd]
    have hsl : ∃ a n c, v = .slice a n c ∧ y = AV.ex (.int .i64 n) := by
      split at e
      · rename_i h5
        cases e
        rcases h5 with k | k | k | k
        · obtain ⟨cap, cs, ty, r, _⟩ := h.case.2.2.2.2.2.1 k; exact ⟨_, _, _, r, rfl⟩
        · obtain ⟨a, cap, r⟩ := h.case.2.2.2.2.2.2.1 k; exact ⟨_, _, _, r, rfl⟩
        · obtain ⟨_, _, _, r, _⟩ := h.case.2.2.2.2.2.2.2.1 k; exact ⟨_, _, _, r, rfl⟩
        · obtain ⟨_, _, _, _, r, _⟩ := h.case.2.2.2.2.2.2.2.2.1 k; exact ⟨_, _, _, r, rfl⟩
      · split at e
        · rename_i h0
          split at e
          · rename_i a n c hx
            cases e
            exact ⟨a, n, c, by rw [h.case.1 h0, hx], rfl⟩
          · cases e
        · cases e
    obtain ⟨a, n, c, rfl, rfl⟩ := hsl
    exact ⟨_, by simp [Builtin.len_, ht, hv, run_underlying hu, goInt], rv_ex⟩
  · split at e
    · rename_i k5
      split at e
      · rename_i s hs
        cases e
        have hx := h.case.1 k5.2
        rw [hs] at hx
        subst hx
        split at hk <;> simp [k5.1] at hk
        rename_i hd
        have hu : P.underlying t = some .string := by rw [tk.hd, hd]
        exact ⟨_, by simp [Builtin.len_, ht, hv, run_underlying hu, goInt], rv_ex⟩
      · cases e
    · split at e
      · rename_i k2
        cases e
        split at hk <;> simp [k2] at hk
        rename_i n e' hd
        obtain ⟨rfl, rfl⟩ := hk
        have hu : P.underlying t = some (.array ti.len ti.elem) := by rw [tk.hd, hd]
        exact ⟨_, by simp [Builtin.len_, ht, hv, run_underlying hu, goInt], rv_ex⟩
      · cases e

/-- make of a slice. -/
def xMake (T : Tabs) (H : Hp) (n t : Nat) (l c : AV) : Option Out := (T.tiAt t).bind fun ti => if ti.kind = 3 then (T.tiAt ti.elem).bind fun te => l.int.bind fun i => c.int.bind fun j =>
  if 0 ≤ i ∧ i ≤ j ∧ j ≤ 1000000 ∧ (te.bytes : Int) * j ≤ 281474976710656 then some ⟨AV.sl n 0 i.toNat te.size, H.set n (some ⟨ti.elem, (List.range (j.toNat * te.size)).map fun i => AV.ex (zv (te.zero.getD (i % te.zero.length) 1))⟩), n + 1, 0⟩ else none else none
theorem xMake_tidy {T : Tabs} {H : Hp} {n t : Nat} {l c : AV} {o : Out} (h : xMake T H n t l c = some o) : Tidy H n o := by
  unfold xMake at h
  obtain ⟨ti, _, h⟩ := Option.bind_eq_some_iff.1 h
  split at h
  · obtain ⟨te, _, h⟩ := Option.bind_eq_some_iff.1 h
    obtain ⟨i, _, h⟩ := Option.bind_eq_some_iff.1 h
    obtain ⟨j, _, h⟩ := Option.bind_eq_some_iff.1 h
    split at h
    · cases h
      exact ⟨Nat.le_succ _, hb_set, fun _ b hb _ => Hp.get_other _ _ (by omega), fun _ _ h => no_bit h⟩
    · cases h
  · cases h
theorem xMake_ok {P : Program} {T : Tabs} (hT : TabOk P T) {C : Cx} (hC : Ok C) {n t : Nat} {l c : AV} {vl vc : Value} (hl : RV C l vl) (hc : RV C c vc) {o : Out} (e : xMake T C.H n t l c = some o) (hn : FreeA C n o.n) :
    ∃ u C', (Instr.makeSlice t vl vc).run P C.w = .ok u C'.w ∧ RV C' o.x u ∧ Goes C C' ∧ C'.H = o.H ∧ NewA C C' n o.n := by
  unfold xMake at e
  obtain ⟨ti, h1, e⟩ := Option.bind_eq_some_iff.1 e
  split at e
  · rename_i k3
    obtain ⟨te, h2, e⟩ := Option.bind_eq_some_iff.1 e
    obtain ⟨i, h3, e⟩ := Option.bind_eq_some_iff.1 e
    obtain ⟨j, h4, e⟩ := Option.bind_eq_some_iff.1 e
    split at e
    · rename_i hb
      cases e
      obtain ⟨tk⟩ := hT _ _ h1
      obtain ⟨tke⟩ := hT _ _ h2
      obtain ⟨kl, rfl⟩ := rv_int hl h3
      obtain ⟨kc, rfl⟩ := rv_int hc h4
      have hk := tk.kind
      unfold kindB at hk
      split at hk <;> simp [k3] at hk
      rename_i e' hd
      subst hk
      have hu : P.underlying t = some (.slice ti.elem) := by rw [tk.hd, hd]
      have hrun := run_make (P := P) C.w t ti.elem tke.i tke.z hu tke.hi tke.hz kl kc i j hb.1 hb.2.1 (by rw [tke.bytes]; exact hb.2.2.2) (by omega)
      have hm := rl_made (C := C) tke.zero (j.toNat * te.size)
      rw [tke.size] at hrun
      have hg := hC.new (hn n (Nat.le_refl _) (Nat.lt_succ_self _)) (ty := ti.elem) hm
      refine ⟨_, _, hrun, ?_, hg, rfl, newA_one rfl⟩
      have hsl := rv_sl (C := C.neu n (.cells (madeCells tke.z.cells (j.toNat * te.size)) ti.elem) ⟨ti.elem, (List.range (j.toNat * te.size)).map fun i => AV.ex (zv (te.zero.getD (i % te.zero.length) 1))⟩) (a := n) (b := 0) (c := i.toNat) (d := te.size) (cap := j.toNat) (ty := ti.elem) (cs := madeCells tke.z.cells (j.toNat * te.size)) (Or.inr rfl) (by omega) (by unfold maxLen; omega) (by rw [neu_mu]; exact heap_alloc_new _ _) (by rw [size_madeCells]; omega)
      rw [neu_mu] at hsl
      exact hsl
    · cases e
  · cases e

/-- A row's cells: how many elements, which. -/
def rowCells (H : Hp) (sz : Nat) (x : AV) : Option (Nat × List AV) :=
  if x.t = 0 then (match x.v with
    | .slice none 0 _ => some (0, [])
    | _ => none)
  else if x.d = sz then (if x.t = 7 ∨ x.t = 8 then some (x.c, x.ks)
  else if x.t = 5 then (match H.get x.a with
    | some B => if x.b + x.c * x.d ≤ B.cs.length then some (x.c, (B.cs.drop x.b).take (x.c * x.d)) else none
    | none => none)
  else none) else none
theorem rowCells_ok {P : Program} {C : Cx} (hC : Ok C) {sz m : Nat} {x : AV} {v : Value} {ks : List AV} (h : RV C x v) (e : rowCells C.H sz x = some (m, ks)) {tx e' : TypeId} (hk : P.underlying tx = some (.slice e')) (ho : ks.all AV.one = true) : ∃ us, RL C ks us ∧ Src P sz tx v m us C.w := by
  unfold rowCells at e
  split at e
  · rename_i h0
    split at e
    · rename_i c hx
      cases e
      rw [h.case.1 h0, hx]
      exact ⟨[], trivial, Src.ofNil C.w hk _⟩
    · cases e
  · split at e
    · rename_i hd
      split at e
      · rename_i h7
        cases e
        have : ∃ k off us cap, v = .slice (some ⟨k, off, none⟩) x.c cap ∧ us.length = x.c * x.d ∧ ImmAt C k off us ∧ RL C x.ks us := by
          rcases h7 with k | k
          · obtain ⟨k, off, us, r, _, a, b, c⟩ := h.case.2.2.2.2.2.2.2.1 k; exact ⟨k, off, us, _, r, a, b, c⟩
          · obtain ⟨k, off, us, cap, r, _, _, a, b, c⟩ := h.case.2.2.2.2.2.2.2.2.1 k; exact ⟨k, off, us, _, r, a, b, c⟩
        obtain ⟨k, off, us, cap, rfl, hl, hi, hr⟩ := this
        refine ⟨us, hr, Src.ofSlice C.w hk _ _ _ _ (by rw [hl, hd]) (fun j u hu => ?_) (rl_one hr ho)⟩
        rw [Addr.add_mid]
        exact hi.2 _ _ hu
      · split at e
        · rename_i h5
          split at e
          · rename_i B hB
            split at e
            · rename_i hlen
              cases e
              obtain ⟨cap, _, _, rfl, ha, _, _, hcell, _⟩ := h.case.2.2.2.2.2.1 h5
              obtain ⟨_, cs, k2, k3, k4⟩ := hC.cellsAt hB hcell
              have hr : RL C ((B.cs.drop x.b).take (x.c * x.d)) (((cs.toList.take B.cs.length).drop x.b).take (x.c * x.d)) := All2.take _ (All2.drop _ k4)
              refine ⟨_, hr, Src.ofSlice C.w hk _ _ _ _ ?_ (fun j u hu => ?_) (rl_one hr ho)⟩
              · rw [← hr.len, ← hd]
                simp
                omega
              · rw [Addr.add_mid, cell_of_row _ _ _ _ _ _ k2]
                rw [List.getElem?_take] at hu
                split at hu
                · rw [List.getElem?_drop, List.getElem?_take] at hu
                  split at hu
                  · simpa using hu
                  · cases hu
                · cases hu
            · cases e
          · cases e
        · cases e
    · cases e

/-- append. -/
def xAppend (T : Tabs) (H : Hp) (n t tx : Nat) (s x : AV) : Option Out := (T.tiAt t).bind fun ti => (T.tiAt tx).bind fun tj => if ti.kind = 3 ∧ tj.kind = 3 then (T.tiAt ti.elem).bind fun te => (rowCells H te.size x).bind fun p =>
  if p.2.all AV.one = true ∧ p.1 ≤ 1000000 then
    (if s.t = 0 then (match s.v with
      | .slice none 0 0 => if p.1 = 0 then some ⟨s, H, n, 0⟩ else if 2 * p.1 * te.bytes ≤ 281474976710656 then some ⟨AV.sl n 0 p.1 te.size, H.set n (some ⟨ti.elem, p.2⟩), n + 1, 0⟩ else none
      | _ => none)
    else if (s.t = 5 ∨ s.t = 7 ∨ s.t = 8) ∧ p.1 = 0 then some ⟨s, H, n, 0⟩
    else if s.c ≤ 1000000 ∧ s.d = te.size ∧ 2 * (s.c + p.1) * te.bytes ≤ 281474976710656 then
      (if s.t = 7 then some ⟨AV.sl n 0 (s.c + p.1) te.size, H.set n (some ⟨ti.elem, s.ks ++ p.2⟩), n + 1, 0⟩
      else if s.t = 5 ∧ s.b = 0 then (match H.get s.a with
        | some B => if B.ty = ti.elem ∧ s.c * s.d ≤ B.cs.length then some ⟨AV.sl n 0 (s.c + p.1) te.size, (H.set s.a none).set n (some ⟨ti.elem, B.cs.take (s.c * s.d) ++ p.2⟩), n + 1, bit1 s.a⟩ else none
        | none => none)
      else none)
    else none)
  else none else none
theorem xAppend_tidy {T : Tabs} {H : Hp} {n t tx : Nat} {s x : AV} {o : Out} (h : xAppend T H n t tx s x = some o) : Tidy H n o := by
  unfold xAppend at h
  obtain ⟨ti, _, h⟩ := Option.bind_eq_some_iff.1 h
  obtain ⟨tj, _, h⟩ := Option.bind_eq_some_iff.1 h
  split at h
  · obtain ⟨te, _, h⟩ := Option.bind_eq_some_iff.1 h
    obtain ⟨p, _, h⟩ := Option.bind_eq_some_iff.1 h
    split at h
    · split at h
      · split at h
        · split at h
          · cases h; exact tidy_same
          · split at h
            · cases h; exact ⟨Nat.le_succ _, hb_set, fun _ b hb _ => Hp.get_other _ _ (by omega), fun _ _ h => no_bit h⟩
            · cases h
        · cases h
      · split at h
        · cases h; exact tidy_same
        · split at h
          · split at h
            · cases h; exact ⟨Nat.le_succ _, hb_set, fun _ b hb _ => Hp.get_other _ _ (by omega), fun _ _ h => no_bit h⟩
            · split at h
              · split at h
                · rename_i B hB
                  split at h
                  · cases h
                    refine ⟨Nat.le_succ _, fun h => hb_set (hb_old hB h), fun _ b hb hn => ?_, fun _ b hb hlt => ?_⟩
                    · show ((H.set s.a none).set n _).get b = H.get b
                      rw [Hp.get_other _ _ (by omega), Hp.get_other _ _ (fun e => by rw [bit1_iff.2 e.symm] at hn; cases hn)]
                    · rw [bit1_iff.1 hb]; exact ⟨B, hB⟩
                  · cases h
                · cases h
              · cases h
          · cases h
    · cases h
  · cases h

theorem run_room {P : Program} {w : World} {t tx ty e : TypeId} {i : TypeInfo} (ht : P.underlying t = some (.slice e)) (hi : P.info? e = some i) {g sLen sCap : Nat} {x : Value} {n : Nat} {news : List Value} (hs : Src P i.size tx x n news w) {cur : Array Value} {T : TypeId} (hg : w.heap[g]? = some (.cells cur T (0, 0))) (hroom : sLen + n ≤ sCap) (hfit : sLen * i.size + news.length ≤ cur.size) :
    (Builtin.append_ #[t, tx] ty #[.slice (some ⟨g, 0, none⟩) sLen sCap, x]).run P w = .ok (.slice (some ⟨g, 0, none⟩) (sLen + n) sCap) (w.setRow g (cur.toList.take (sLen * i.size) ++ news ++ cur.toList.drop (sLen * i.size + news.length)).toArray) := by
  have hst := run_storeCells_at (P := P) g (sLen * i.size) T news 0 cur w hg (by omega) hs.one
  simp only [Nat.add_zero] at hst
  rcases hs.kind with ⟨e', hk⟩ | hk <;> simp [Builtin.append_, run_underlying ht, run_underlying hk, sizeOf, typeInfo, hi, hs.len, hroom, hs.cells, Addr.add_mid, hst]

/-- .. that has nothing to append. -/
theorem run_none {P : Program} {w : World} {t tx ty e : TypeId} {i : TypeInfo} (ht : P.underlying t = some (.slice e)) (hi : P.info? e = some i) {a : Option Addr} {sLen sCap : Nat} {x : Value} {news : List Value} (hs : Src P i.size tx x 0 news w) (hroom : sLen ≤ sCap) :
    (Builtin.append_ #[t, tx] ty #[.slice a sLen sCap, x]).run P w = .ok (.slice a sLen sCap) w := by
  have hn : news = [] := List.eq_nil_of_length_eq_zero (by rw [hs.newsLen]; simp)
  subst hn
  rcases hs.kind with ⟨e', hk⟩ | hk <;> cases a <;> simp [Builtin.append_, run_underlying ht, run_underlying hk, sizeOf, typeInfo, hi, hs.len, hroom, hs.cells, storeCells]

theorem grown_ok {P : Program} {C : Cx} (hC : Ok C) {N : Nat} (hN : ¬ C.A N) {t tx ty e : TypeId} {i : TypeInfo} {z : Value} (ht : P.underlying t = some (.slice e)) (hi : P.info? e = some i) (hz : i.zero = some z) {base : Option Addr} {sLen sCap : Nat} {olds : List Value}
    (hold : (Builtin.firstCells i.size sLen (.slice base sLen sCap)).run P C.w.drew = .ok olds.toArray C.w.drew) (hlo : olds.length = sLen * i.size) {x : Value} {n : Nat} {news : List Value} (hs : Src P i.size tx x n news C.w) {ko kn : List AV} (ho : RL C ko olds) (hn : RL C kn news)
    (hg : sCap < sLen + n) (h63 : sLen + n ≤ 2000000) (hfit : 2 * (sLen + n) * i.bytes ≤ 281474976710656) (hzs : z.cells.size = i.size) :
    ∃ u C', (Builtin.append_ #[t, tx] ty #[.slice base sLen sCap, x]).run P C.w = .ok u C'.w ∧ RV C' (AV.sl N 0 (sLen + n) i.size) u ∧ Goes C C' ∧ C'.H = C.H.set N (some ⟨e, ko ++ kn⟩) ∧ NewA C C' N (N + 1) := by
  have hncap : Builtin.nextslicecap (sLen + n) sCap * i.bytes ≤ 281474976710656 := Nat.le_trans (Nat.mul_le_mul_right _ (nextslicecap_le hg)) hfit
  have hrun := run_append_grow_src (P := P) C.w t tx ty e i z ht hi hz base sLen sCap olds hold x n news hs hg (by omega) hncap
  have hd := hC.world (w := C.w.drew) rfl ⟨rfl, rfl, rfl⟩
  have hge := grownCap_ge C.w (sLen + n) sCap e
  have hlen : ko.length + kn.length = (sLen + n) * i.size := by rw [ho.len, hn.len, hlo, hs.newsLen, Nat.add_mul]
  have hzl : (Builtin.zeroCells z.cells (grownCap C.w (sLen + n) sCap e - (sLen + n))).size = (grownCap C.w (sLen + n) sCap e - (sLen + n)) * i.size := by simp [Builtin.zeroCells, hzs]
  have hsize : ((olds ++ news).toArray ++ Builtin.zeroCells z.cells (grownCap C.w (sLen + n) sCap e - (sLen + n))).size = grownCap C.w (sLen + n) sCap e * i.size := by
    rw [Array.size_append, hzl]
    simp only [List.size_toArray, List.length_append]
    rw [hlo, hs.newsLen, ← Nat.add_mul, ← Nat.add_mul]
    congr 1
    omega
  have hk : (ko ++ kn).length ≤ ((olds ++ news).toArray ++ Builtin.zeroCells z.cells (grownCap C.w (sLen + n) sCap e - (sLen + n))).size := by
    rw [hsize, List.length_append, hlen]
    exact Nat.mul_le_mul_right _ hge
  have hr : RL { C with w := C.w.drew } (ko ++ kn) (((olds ++ news).toArray ++ Builtin.zeroCells z.cells (grownCap C.w (sLen + n) sCap e - (sLen + n))).toList.take (ko ++ kn).length) := by
    have h1 : RL C (ko ++ kn) (olds ++ news) := All2.app ho hn
    have : (((olds ++ news).toArray ++ Builtin.zeroCells z.cells (grownCap C.w (sLen + n) sCap e - (sLen + n))).toList.take (ko ++ kn).length) = olds ++ news := by
      rw [h1.len]
      simp [List.take_append]
      exact List.take_of_length_le (by omega)
    rw [this]
    exact RL.mono hd.le h1
  have hnew := hd.ok.newP (n := N) hN (ty := e) hk hr
  refine ⟨_, _, hrun, ?_, hd.trans hnew, rfl, newA_one rfl⟩
  have hsl := rv_sl (C := Cx.neu { C with w := C.w.drew } N (.cells ((olds ++ news).toArray ++ Builtin.zeroCells z.cells (grownCap C.w (sLen + n) sCap e - (sLen + n))) e) ⟨e, ko ++ kn⟩) (a := N) (b := 0) (c := sLen + n) (d := i.size) (cap := grownCap C.w (sLen + n) sCap e) (ty := e) (cs := (olds ++ news).toArray ++ Builtin.zeroCells z.cells (grownCap C.w (sLen + n) sCap e - (sLen + n))) (Or.inr rfl) hge (grownCap_le_maxLen _ _ _ _ (by unfold maxLen; omega)) (by rw [neu_mu]; exact heap_alloc_new C.w.drew _) (by rw [hsize]; omega)
  rw [neu_mu] at hsl
  exact hsl
#print axioms grown_ok
end Go.Proofs.YthklnpkjlepagaaGreatDoor.Ab
