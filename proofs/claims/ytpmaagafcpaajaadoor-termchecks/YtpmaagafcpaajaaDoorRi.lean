/- The document's subst. -/
import Derived.Test.YtpmaagafcpaajaaDoorRh
import Derived.Test.YtpmaagafcpaajaaDoorSu
namespace Go.Proofs.YtpmaagafcpaajaaDoor
open Go.RowKit

theorem step_call4 {P : Program} {ops : Array Oper} {o : Oper} {a : Act} {w : World} {K : Act → World → Prop} {Q : Exit → Act → World → Prop} {E : Prop} (hgd : o.guard = none) (k : Nat) (x y z x4 : Operand) (ts : Array TypeId)
    (ho : o.op = .call { callee := .value (.func k), args := #[x, y, z, x4], argTypes := ts }) (hcf : ∀ vs w, (callFunc k vs).run P w = .ok (.enter k vs) w) (v u t v4 : Value) (hv : a.eval x = v) (hu : a.eval y = u) (ht : a.eval z = t) (h4 : a.eval x4 = v4)
    (R : Ending → World → Prop) (h : Calls P k #[v, u, t, v4] w R) (hK : ∀ e w', R e w' → ∃ u, e = .returned u ∧ K (a.put o.dst u) w') :
    if Region.wanted o (yielded ops a.tmps) = true then Oper.wp P o a w K Q else E := by
  have hw : Region.wanted o (yielded ops a.tmps) = true := by simp [Region.wanted, hgd]
  rw [if_pos hw]
  unfold Oper.wp
  have hrun : (execOp a.eval o).run P w = .ok (.enter k #[v, u, t, v4]) w := by
    have hf : a.eval (.func k) = .func (.func k) #[] #[] := rfl
    simp [execOp, ho, resolve, invoke, hcf, hv, hu, ht, h4, hf, Deferred.ofValue]
  rw [hrun, Oper.upon_enter]
  refine h.mono ?_
  intro e w' hr
  obtain ⟨u, rfl, hk⟩ := hK e w' hr
  exact hk
theorem tr_eta (t : Tr) : t = ⟨t.op, t.n, t.kids⟩ := by cases t; rfl
theorem cfRi (args : Array Value) (w : World) : (callFunc 50 args).run Tryd.prog w = .ok (.enter 50 args) w := cf_of Tryd.func50 (by kernel_rfl) (by kernel_rfl) args w

attribute [local go_sem ↓] Go.wp_at_zero Go.wp_at_succ

theorem box4_facts (w : World) (x0 x1 x2 x3 : Obj) : ((((w.alloc x0).alloc x1).alloc x2).alloc x3).heap[w.heap.size]? = some x0 ∧ ((((w.alloc x0).alloc x1).alloc x2).alloc x3).heap[w.heap.size + 1]? = some x1 ∧ ((((w.alloc x0).alloc x1).alloc x2).alloc x3).heap[w.heap.size + 2]? = some x2 ∧ ((((w.alloc x0).alloc x1).alloc x2).alloc x3).heap[w.heap.size + 3]? = some x3 ∧ Below w.heap.size w ((((w.alloc x0).alloc x1).alloc x2).alloc x3) := by
  obtain ⟨h0, h1, h2, h3⟩ := box3_facts w x0 x1 x2
  have h4 := heap_alloc_new (((w.alloc x0).alloc x1).alloc x2) x3
  rw [World.size_alloc, World.size_alloc, World.size_alloc] at h4
  refine ⟨?_, ?_, ?_, h4, h3.alloc h3.size _⟩
  · rw [Below.heap_alloc _ _ _ (size_of_block h0)]; exact h0
  · rw [Below.heap_alloc _ _ _ (size_of_block h1)]; exact h1
  · rw [Below.heap_alloc _ _ _ (size_of_block h2)]; exact h2

set_option maxRecDepth 20000 in
set_option maxHeartbeats 2000000 in
theorem rsub_var (B f g : Nat) (n : Int) (t s : Tr) (v uv : Value) (u : Int) (w : World) (ht : TmAt w B f t v) (hs : TmAt w B g s uv) (hB : B ≤ w.heap.size) (hu0 : 0 ≤ u) (hu1 : u ≤ 1000000) (hg : g ≤ 200000) (hz : s.size ≤ 8388608) (htd : Snd 1000000000 t) (hsd : Snd 1000000000 s) (ho : t.op = 1) :
    Calls Tryd.prog 50 #[v, .int .i64 (n + u), .int .i64 u, uv] w (NewTm w (f + g) (sub n s u t)) := by
  obtain ⟨f, rfl⟩ : ∃ f', f = f' + 1 := by cases f with | zero => exact ht.elim | succ f => exact ⟨f, rfl⟩
  obtain ⟨a, cap, rfl, h1, h2, hop, hn⟩ := ht.shape
  obtain ⟨hk, hv0, hv1⟩ := htd.top ho
  have hk0 : t.kids.length = 0 := by rw [hk]; rfl
  have HS := hide hs
  obtain ⟨sa, scap, rfl, _, _, hsop, hsn⟩ := hs.shape
  have HSD := hide hsd; have HZ := hide hz
  clear ht hs hsd hz htd
  rw [sub_eq, if_pos ho, ho, hk0]
  have HK := hide hk
  clear hk hk0
  obtain ⟨m, hm⟩ : ∃ m, m = t.n := ⟨_, rfl⟩
  have HT : Hid (t = ⟨1, m, []⟩) := hide ((tr_eta t).trans (by rw [ho, HK.out, hm]))
  rw [← hm] at hv0 hv1 hn ⊢
  obtain ⟨N, hN⟩ : ∃ N, N = n + u := ⟨_, rfl⟩
  rw [← hN]
  clear hm
  by_cases e1 : m = N
  · rw [if_pos e1]
    subst e1
    clear hN
    obtain ⟨hx0, hx1, hx2, hx3⟩ := box3_facts w (.cells #[.int .i64 1, .int .i64 m, .slice a 0 cap] 29) (.cells #[.int .i64 s.op, .int .i64 s.n, .slice sa s.kids.length scap] 29) (.cells #[.int .i64 0, .int .i64 0, .slice none 0 0] 29)
    obtain ⟨WW, hWW⟩ : ∃ WW, WW = ((w.alloc (.cells #[.int .i64 1, .int .i64 m, .slice a 0 cap] 29)).alloc (.cells #[.int .i64 s.op, .int .i64 s.n, .slice sa s.kids.length scap] 29)).alloc (.cells #[.int .i64 0, .int .i64 0, .slice none 0 0] 29) := ⟨_, rfl⟩
    rw [← hWW] at hx0 hx1 hx2 hx3
    have HC : Hid (Calls Tryd.prog 27 #[.agg #[.int .i64 s.op, .int .i64 s.n, .slice sa s.kids.length scap], .int .i64 u, .int .i64 0] WW (NewTm WW g (shf u 0 0 s))) := hide (by
      have := rshift_any B g u 0 s _ 0 WW (TmAt.below HS.out hx3 hB (Nat.le_refl _)) (by have := hx3.size; omega) hu0 hu1 (by omega) (by omega) HZ.out HSD.out
      simpa using this)
    have HX2 := hide hx2; have HX3 := hide hx3
    have hw2 := size_of_block hx2
    clear hx0 hx1 hx2 hx3
    go_enter Tryd.func50, Tryd.ntmps50
    go_wp2_with fail
    rw [← hWW]
    refine HC.out.mono ?_
    rintro e w2 ⟨p0, p1, pa, pl, pc, rfl, ht2, hb2⟩
    have k2 := (hb2.block _ hw2).trans HX2.out
    obtain ⟨y0, y1, y2⟩ := blk3 k2
    obtain ⟨z0, z1, z2⟩ := frz3 k2
    have HB2 : Hid (Below w.heap.size w w2) := HX3.out.trans (hb2.mono (by omega))
    have HT2 : Hid (TmD w2 (fun q => WW.heap.size ≤ q ∧ q < w2.heap.size) (f + 1 + g) (shf u 0 0 s) (.agg #[.int .i64 p0, .int .i64 p1, .slice pa pl pc])) := hide (ht2.more (by omega))
    clear hb2 ht2 k2 hWW
    go_wp2_with fail
    refine bodyPost_ret (v := .agg #[.int .i64 p0, .int .i64 p1, .slice pa pl pc]) (by simp [results, Tryd.results50, go_sem, y0, y1, y2]) rfl ⟨_, _, _, _, _, rfl, tm_put3 HT2.out (by omega) (by omega), ?_⟩
    exact ((HB2.out.setCell (show w.heap.size ≤ w.heap.size + 2 by omega) _).setCell (show w.heap.size ≤ w.heap.size + 2 by omega) _).setCell (show w.heap.size ≤ w.heap.size + 2 by omega) _
  · have be := ne_beq e1
    rw [if_neg e1]
    clear e1
    have hb3 : ∀ x0 x1 x2 : Obj, Below w.heap.size w (((w.alloc x0).alloc x1).alloc x2) := fun x0 x1 x2 => (box3_facts w x0 x1 x2).2.2.2
    have HB3 := hide hb3
    clear hb3
    unfold I64 at hn
    by_cases e2 : N < m
    · rw [if_pos e2]
      go_enter Tryd.func50, Tryd.ntmps50
      go_wp2_with fail
      refine bodyPost_ret (v := .agg #[.int .i64 1, .int .i64 (m - 1), .slice none 0 0]) (by simp [results, Tryd.results50, go_sem]) rfl ⟨_, _, _, _, _, rfl, ?_, HB3.out _ _ _⟩
      rw [show f + 1 + g = f + g + 1 by omega]
      exact tmd_leaf _ (by unfold I64; omega) (by unfold I64; omega)
    · rw [if_neg e2]
      go_enter Tryd.func50, Tryd.ntmps50
      go_wp2_with fail
      refine bodyPost_ret (v := .agg #[.int .i64 1, .int .i64 m, .slice a 0 cap]) (by simp [results, Tryd.results50, go_sem]) rfl ⟨_, _, _, _, _, rfl, ?_, HB3.out _ _ _⟩
      rw [show f + 1 + g = f + g + 1 by omega, HT.out]
      exact ⟨a, cap, rfl, by unfold I64; simp only; omega, hn, RowAt.nil h2⟩

set_option maxRecDepth 20000 in
set_option maxHeartbeats 2000000 in
theorem rsubst_any (B f g : Nat) (n : Int) (s : Tr) (uv : Value) : ∀ (t : Tr) (v : Value) (u : Int) (w : World), TmAt w B f t v → TmAt w B g s uv → B ≤ w.heap.size → 0 ≤ n → 0 ≤ u → n + u + 2 * f ≤ 1000000 → g ≤ 200000 → t.size ≤ 8388608 → s.size ≤ 8388608 → Snd 1000000000 t → Snd 1000000000 s →
    Calls Tryd.prog 50 #[v, .int .i64 (n + u), .int .i64 u, uv] w (NewTm w (f + g) (sub n s u t)) := by
  induction f with
  | zero => intro t v u w h; exact h.elim
  | succ f ih =>
    intro t v u w ht hs hB hn0 hu0 hu1 hg hsz8 hz htd hsd
    by_cases ho : t.op = 1
    · exact rsub_var B (f + 1) g n t s v uv u w ht hs hB hu0 (by omega) hg hz htd hsd ho
    obtain ⟨a, cap, rfl, hop, hn, hrow⟩ := ht
    have HUV := hide hs
    obtain ⟨sa, scap, rfl, _, _, hsop, hsn⟩ := hs.shape
    clear hs
    have IH := hide ih; clear ih
    have HR := hide hrow
    have hlm : t.kids.length ≤ maxLen := Nat.le_trans hrow.1 hrow.2.1
    unfold maxLen at hlm
    clear hrow
    have HTD := hide htd; have HSD := hide hsd; have HZ := hide hz; have HG := hide hg
    have HSZ := hide hsz8
    have hl8 : t.kids.length ≤ 8388608 := Nat.le_trans (len_size t) hsz8
    clear hsd htd hz hg hsz8
    obtain ⟨i, hi, hz0, hz1, hz2⟩ := info_parts Tryd.info29
    obtain ⟨ks, hks⟩ : ∃ ks, ks = t.kids.mapIdx (fun j k => sub n s (u + (bnd t.op ((j : Nat) : Int) : Nat)) k) := ⟨_, rfl⟩
    rw [sub_eq, if_neg ho, ← hks]
    have HKS := hide hks
    clear hks
    have HU1 := hide hu1
    have huu : n + u ≤ 1000000 := by omega
    have huu2 : u ≤ 1000000 := by omega
    obtain ⟨N, hN⟩ : ∃ N, N = n + u := ⟨_, rfl⟩
    have hN0 : 0 ≤ N := by omega
    rw [← hN] at huu ⊢
    have HN := hide hN
    clear hN hu1
    have hbo := ne_beq ho
    clear ho
    obtain ⟨hx0, hx1, hx2, hx4, hx3⟩ := box4_facts w (.cells #[.int .i64 t.op, .int .i64 t.n, .slice a t.kids.length cap] 29) (.cells #[.int .i64 s.op, .int .i64 s.n, .slice sa s.kids.length scap] 29) (.cells #[.int .i64 0, .int .i64 0, .slice none 0 0] 29) (.cells #[.int .i64 t.op, .int .i64 t.n, .slice none 0 0] 29)
    have HX0 := hide hx0; have HX1 := hide hx1; have HX2 := hide hx2; have HX3 := hide hx3; have HX4 := hide hx4
    clear hx0 hx1 hx2 hx3 hx4
    go_enter Tryd.func50, Tryd.ntmps50
    go_upto_region 8 with fail
    obtain ⟨WW, hWW⟩ : ∃ WW, WW = (((w.alloc (.cells #[.int .i64 t.op, .int .i64 t.n, .slice a t.kids.length cap] 29)).alloc (.cells #[.int .i64 s.op, .int .i64 s.n, .slice sa s.kids.length scap] 29)).alloc (.cells #[.int .i64 0, .int .i64 0, .slice none 0 0] 29)).alloc (.cells #[.int .i64 t.op, .int .i64 t.n, .slice none 0 0] 29) := ⟨_, rfl⟩
    rw [← hWW] at HX0 HX1 HX2 HX3 HX4 ⊢
    clear hWW
    obtain ⟨tb, htb⟩ : ∃ tb, tb = w.heap.size + 3 := ⟨_, rfl⟩
    rw [show w.heap.size + 1 + 1 + 1 = tb from htb.symm]
    rw [← htb] at HX4
    have htb' : w.heap.size + 3 ≤ tb := by omega
    clear htb
    go_wp2_with fail
    go_loopw [10, 11] (fun i _ wr => ∃ (k : Nat) (kv : Value) (xs : List Value) (ts : List Tr), k ≤ t.kids.length ∧ i = .int .i64 k ∧ ts.length = k ∧ ts = ks.take k ∧ wr.heap[tb]? = some (.cells #[.int .i64 t.op, .int .i64 t.n, kv] 29 (0, 0)) ∧ wr.ownsRow (tb + 1) 29 3 kv k xs ∧
        KidsAt wr (fun q => tb + 1 ≤ q ∧ q < wr.heap.size ∧ some q ≠ kv.ownBlock) (f + g) ts xs ∧ wr.heap[w.heap.size]? = some (.cells #[.int .i64 t.op, .int .i64 t.n, .slice a t.kids.length cap] 29 (0, 0)) ∧ wr.heap[w.heap.size + 1]? = some (.cells #[.int .i64 s.op, .int .i64 s.n, .slice sa s.kids.length scap] 29 (0, 0)) ∧
        wr.heap[w.heap.size + 2]? = some (.cells #[.int .i64 0, .int .i64 0, .slice none 0 0] 29 (0, 0)) ∧ Below w.heap.size w wr) (fun i _ _ => t.kids.length - (intOf i).toNat)
    case atStart => exact ⟨0, .slice none 0 0, [], [], Nat.zero_le _, rfl, rfl, by simp, HX4.out, World.ownsRow_nil _ _ _ _, KidsAt.nil _ _ _, HX0.out, HX1.out, HX2.out, HX3.out⟩
    case round =>
      obtain ⟨k, kv, xs, ts, hk1, rfl, hkl, hmd, hbt, hown, hkids, hbr, hbu, hbz, hbl⟩ := hrel
      obtain ⟨ka, kc, rfl, hkc1, hkc2⟩ := owns_form hown
      clear HX0 HX1 HX2 HX3 HX4
      obtain ⟨b0, b1, b2⟩ := blk3 hbt
      have fz : wr.frozen? ⟨tb, 2, none⟩ = false := frozen_of_block hbt 2
      obtain ⟨r0, r1, r2⟩ := blk3 hbr
      obtain ⟨q0, q1, q2⟩ := blk3 hbu
      have HBT := hide hbt; have HO := hide hown; have HK := hide hkids; have HBR := hide hbr; have HBU := hide hbu; have HBZ := hide hbz; have HBL := hide hbl; have HMD := hide hmd; have HKL := hide hkl
      clear hbt hown hkids hbr hbu hbz hbl hmd hkl
      unfold maxLen at hkc2
      by_cases hlt : k < t.kids.length
      · obtain ⟨kb, koff, kka, kkc, rfl, hbB, f0, f1, f2, hr⟩ := HR.out.form hlt
        have hkw : kb < w.heap.size := by omega
        have e0 := (HBL.out.cell (p := ⟨kb, koff + k * 3, none⟩) hkw).trans f0
        have e1 := (HBL.out.cell (p := ⟨kb, koff + k * 3 + 1, none⟩) hkw).trans f1
        have e2 := (HBL.out.cell (p := ⟨kb, koff + k * 3 + 2, none⟩) hkw).trans f2
        clear f0 f1 f2
        have hws := HBL.out.size
        have hwt := size_of_block HBT.out
        obtain ⟨bn, hbn⟩ : ∃ bn : Int, bn = (bnd t.op (k : Nat) : Nat) := ⟨_, rfl⟩
        have hbn0 : 0 ≤ bn := by omega
        have hbn2 : bn ≤ 2 := by have := bnd_le t.op (k : Nat); omega
        have HBI : Hid (∀ w', Calls Tryd.prog 19 #[.int .i64 t.op, .int .i64 (k : Nat)] w' fun e w'' => e = .returned (.int .i64 bn) ∧ w'' = w') := hide (fun w' => by rw [hbn]; exact rbinders_any t.op (k : Nat) w')
        obtain ⟨p, hp⟩ : ∃ p, p = t.kids[k] := ⟨_, rfl⟩
        rw [← hp] at e0 e1 e2 hr
        have HTk : Hid (TmAt wr B f p (.agg #[.int .i64 p.op, .int .i64 p.n, .slice kka p.kids.length kkc])) := TmAt.below hr HBL.out hB (Nat.le_refl _)
        have HUk : Hid (TmAt wr B g s (.agg #[.int .i64 s.op, .int .i64 s.n, .slice sa s.kids.length scap])) := TmAt.below HUV.out HBL.out hB (Nat.le_refl _)
        have HSK : Hid (Snd 1000000000 p) := hide (by rw [hp]; exact HTD.out.kid (List.getElem_mem hlt))
        have HZK : Hid (p.size ≤ 8388608) := hide (by rw [hp]; have := Tr.kid_size (List.getElem_mem hlt); have := HSZ.out; omega)
        have HSU : Hid (ks.take (k + 1) = ks.take k ++ [sub n s (u + bn) p]) := hide (by rw [HKS.out, idx_take_succ _ _ _ hlt, hbn, hp])
        have HC : Hid (Calls Tryd.prog 50 #[.agg #[.int .i64 p.op, .int .i64 p.n, .slice kka p.kids.length kkc], .int .i64 (N + bn), .int .i64 (u + bn), .agg #[.int .i64 s.op, .int .i64 s.n, .slice sa s.kids.length scap]] wr.drew (NewTm wr.drew (f + g) (sub n s (u + bn) p))) := hide (by
          rw [show N + bn = n + (u + bn) by rw [HN.out]; omega]
          exact IH.out p _ (u + bn) _ (TmD.drew HTk.out) (TmD.drew HUk.out) (by rw [size_drew]; omega) hn0 (by omega) (by have := HU1.out; omega) HG.out HZK.out HZ.out HSK.out HSD.out)
        clear hr hbn hp
        have i1 : (0 : Int) ≤ (k : Int) := by omega
        have i2 : (k : Int) < (t.kids.length : Int) := by omega
        go_wp2_with fail
        refine (HBI.out _).mono ?_
        rintro e w4 ⟨rfl, h4⟩
        rw [h4]
        clear h4 w4
        go_wp2_with fail
        go_region_law (first
          | (refine step_append_lies _ (by rfl) (.tmp 50) (.tmp 64) 27 (by rfl) (tb + 1) 29 i (.agg #[.int .i64 0, .int .i64 0, .slice none 0 0]) 3 40 Tryd.underlying27 hi hz0 hz1 hz2 rfl (by decide) (.slice ka k kc) k xs (by rfl) (HO5.out.alloc _) ⟨w5.heap.size, 0, none⟩ 1 1 [.int .i64 p0, .int .i64 p1, .slice pa pl pc] (by rfl) (by rfl) (World.news_of_block (heap_alloc_new w5 _)) (fun u hu => by simp at hu; rcases hu with rfl | rfl | rfl <;> rfl) (by omega) (by unfold maxLen; omega) (by omega) (by rw [World.size_alloc]; omega) (w5.heap.size + 1) (by simp) ?_
             intro g6 cap6 w6 hown6 hgrow6 hat6 hlt6
             have hn6 : Hid (w6.heap[tb]? = w5.heap[tb]?) := (hgrow6.block tb (by rw [World.size_alloc]; omega) (fun e => by have := HO.out.lt _ e.symm; omega)).trans (Below.heap_alloc w5 _ _ (by omega))
             have hb6 : Hid (w6.heap[tb]? = some (.cells #[.int .i64 t.op, .int .i64 t.n, .slice ka k kc] 29 (0, 0))) := (hn6.out.trans (HB5.out.block tb hwt)).trans HBT.out
             have d6 : w6.cell? ⟨tb, 2, none⟩ = some (.slice ka k kc) := (cell_of_block hb6.out 2).trans rfl
             have z6 : w6.frozen? ⟨tb, 2, none⟩ = false := frozen_of_block hb6.out 2
             have HO6 := hide hown6
             have HG6 := hide hgrow6
             have HA6 := hide hat6
             have HL6 := hide hlt6
             clear hown6 hgrow6 hat6 hlt6)
          | (refine step_call4 (by rfl) 50 (.tmp 55) (.tmp 58) (.tmp 61) (.tmp 62) #[29, 3, 3, 29] (by rfl) cfRi (.agg #[.int .i64 p.op, .int .i64 p.n, .slice kka p.kids.length kkc]) (.int .i64 (N + bn)) (.int .i64 (u + bn)) (.agg #[.int .i64 s.op, .int .i64 s.n, .slice sa s.kids.length scap]) (by rfl) (by exact congrArg (Value.int IntKind.i64) (by rw [IntKind.wrap_i64]; omega)) (by exact congrArg (Value.int IntKind.i64) (by rw [IntKind.wrap_i64]; omega)) (by rfl) _ HC.out ?_
             rintro e w5 ⟨p0, p1, pa, pl, pc, rfl, htm5, hb5⟩
             refine ⟨_, rfl, ?_⟩
             have HB5 : Hid (Below wr.heap.size wr w5) := ⟨hb5.os, hb5.tape, hb5.output, hb5.size, hb5.block⟩
             have hs5 : wr.heap.size ≤ w5.heap.size := HB5.out.size
             have HT5 : Hid (TmD w5 (fun q => wr.heap.size ≤ q ∧ q < w5.heap.size) (f + g) (sub n s (u + bn) p) (.agg #[.int .i64 p0, .int .i64 p1, .slice pa pl pc])) := htm5
             have HO5 : Hid (w5.ownsRow (tb + 1) 29 3 (.slice ka k kc) k xs) := owns_keep HO.out (fun q _ hq2 => HB5.out.block q hq2)
             have d5 := (World.cell?_of_block (a := ⟨tb, 2, none⟩) (HB5.out.block tb hwt)).trans b2
             have e5 : ∀ o, (w5.alloc o).cell? ⟨tb, 2, none⟩ = some (.slice ka k kc) := fun o => (World.cell?_of_block (a := ⟨tb, 2, none⟩) (Below.heap_alloc w5 o tb (by omega))).trans d5
             clear htm5 hb5))
        all_goals
          obtain ⟨s1, s2, s3, s4⟩ := app_grow HBT.out HO.out HK.out HT5.out HB5.out HO6.out HG6.out HA6.out
          have HS := hide s1; have HS2 := hide s2; have HS3 := hide s3
          have HS4 := hide ((s4.block _ (by omega)).trans HBR.out); have HS5 := hide ((s4.block _ (by omega)).trans HBU.out); have HS7 := hide ((s4.block _ (by omega)).trans HBZ.out); have HS6 := hide (HBL.out.trans (s4.mono (by omega)))
          clear s1 s2 s3 s4
          go_wp2_with fail
          go_roundw
          case rel => exact ⟨k + 1, _, _, ts ++ [sub n s (u + bn) p], by omega, by go_num, by have := HKL.out; simp [this], by rw [HSU.out, ← HMD.out], HS.out, HS2.out, HS3.out, HS4.out, HS5.out, HS7.out, HS6.out⟩
          case measure => simp [intOf]; omega
      · have u0 : wr.frozen? ⟨w.heap.size + 1 + 1, 0, none⟩ = false := frozen_of_block HBZ.out 0
        have u1 : wr.frozen? ⟨w.heap.size + 1 + 1, 1, none⟩ = false := frozen_of_block HBZ.out 1
        have u2 : wr.frozen? ⟨w.heap.size + 1 + 1, 2, none⟩ = false := frozen_of_block HBZ.out 2
        obtain ⟨y0, y1, y2⟩ := blk3 HBZ.out
        have y0' : wr.cell? ⟨w.heap.size + 1 + 1, 0, none⟩ = _ := y0
        have y1' : wr.cell? ⟨w.heap.size + 1 + 1, 1, none⟩ = _ := y1
        have y2' : wr.cell? ⟨w.heap.size + 1 + 1, 2, none⟩ = _ := y2
        have HKK : Hid (ts = ks) := hide (by rw [HMD.out, List.take_of_length_le (by rw [HKS.out]; simp; omega)])
        clear y0 y1 y2
        go_wp2_with fail
        refine bodyPost_ret (v := .agg #[.int .i64 t.op, .int .i64 t.n, .slice ka k kc]) (by simp [results, Tryd.results50, go_sem, y0', y1', y2']) rfl ⟨_, _, _, _, _, rfl, by rw [← HKK.out, show f + 1 + g = f + g + 1 by omega]; exact app_fin HO.out (by omega) (by omega) HK.out HKL.out hop hn (fun q hq => put3_other (c := w.heap.size + 2) hq) (by simp [World.setCell]), ?_⟩
        · exact ((HBL.out.setCell (show w.heap.size ≤ w.heap.size + 2 by omega) _).setCell (show w.heap.size ≤ w.heap.size + 2 by omega) _).setCell (show w.heap.size ≤ w.heap.size + 2 by omega) _
#print axioms rsubst_any
end Go.Proofs.YtpmaagafcpaajaaDoor
