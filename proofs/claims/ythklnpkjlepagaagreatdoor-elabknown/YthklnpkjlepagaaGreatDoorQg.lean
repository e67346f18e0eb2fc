/- The operations that call nothing. -/
import Derived.Test.YthklnpkjlepagaaGreatDoorQf
namespace Go.Proofs.YthklnpkjlepagaaGreatDoor.Ab
open Go.RowKit

theorem xAppend_ok {P : Program} {T : Tabs} (hT : TabOk P T) {C : Cx} (hC : Ok C) {t tx ty : Nat} {s x : AV} {vs vx : Value} (hs : RV C s vs) (hx : RV C x vx) (hz : ∀ t ti, T.tiAt t = some ti → ti.zero.length = ti.size) {o : Out} {n : Nat} (e : xAppend T C.H n t tx s x = some o) (hN : FreeA C n o.n) :
    ∃ u C', (Builtin.append_ #[t, tx] ty #[vs, vx]).run P C.w = .ok u C'.w ∧ RV C' o.x u ∧ Goes C C' ∧ C'.H = o.H ∧ NewA C C' n o.n := by
  unfold xAppend at e
  obtain ⟨ti, h1, e⟩ := Option.bind_eq_some_iff.1 e
  obtain ⟨tj, h2, e⟩ := Option.bind_eq_some_iff.1 e
  split at e
  · rename_i k3
    obtain ⟨te, h3, e⟩ := Option.bind_eq_some_iff.1 e
    obtain ⟨⟨m, kn⟩, h4, e⟩ := Option.bind_eq_some_iff.1 e
    split at e
    · rename_i hcond
      obtain ⟨hone, hm⟩ := hcond
      obtain ⟨tk⟩ := hT _ _ h1
      obtain ⟨tkj⟩ := hT _ _ h2
      obtain ⟨tke⟩ := hT _ _ h3
      have hk := tk.kind
      unfold kindB at hk
      split at hk <;> simp [k3.1] at hk
      rename_i e' hd
      subst hk
      have hu : P.underlying t = some (.slice ti.elem) := by rw [tk.hd, hd]
      have hkj := tkj.kind
      unfold kindB at hkj
      split at hkj <;> simp [k3.2] at hkj
      rename_i ej hdj
      have huj : P.underlying tx = some (.slice ej) := by rw [tkj.hd, hdj]
      obtain ⟨news, hn, hsrc⟩ := rowCells_ok (P := P) hC hx h4 huj hone
      have hsz : tke.z.cells.size = tke.i.size := by
        have := congrArg List.length tke.zero
        simp at this
        rw [this, tke.size, hz _ _ h3]
      rw [← tke.size] at hsrc
      simp only at hm e
      split at e
      · rename_i h0
        split at e
        · rename_i hsv
          have hvs := hs.case.1 h0
          rw [hsv] at hvs
          subst hvs
          split at e
          · rename_i hm0
            cases e
            rw [hm0] at hsrc
            exact ⟨_, C, run_none hu tke.hi hsrc (Nat.le_refl _), hs, Goes.refl hC, rfl, newA_same rfl⟩
          · rename_i hm0
            split at e
            · rename_i hb
              cases e
              have := grown_ok hC (hN n (Nat.le_refl _) (Nat.lt_succ_self _)) (ty := ty) hu tke.hi tke.hz (base := none) (sLen := 0) (sCap := 0) (olds := []) (by rw [run_firstCells_none C.w.drew]) (by simp) hsrc (ko := []) (kn := kn) trivial hn (by omega) (by omega) (by rw [tke.bytes]; simpa using hb) hsz
              simp only [Nat.zero_add, List.nil_append, tke.size] at this
              exact this
            · cases e
        · cases e
      · rename_i h0
        split at e
        · rename_i hc
          cases e
          obtain ⟨hc, hm0⟩ := hc
          rw [hm0] at hsrc
          have : ∃ a n c, vs = .slice a n c ∧ n ≤ c := by
            rcases hc with k | k | k
            · obtain ⟨cap, _, _, r, _, l, _⟩ := hs.case.2.2.2.2.2.1 k; exact ⟨_, _, _, r, l⟩
            · obtain ⟨_, _, _, r, _⟩ := hs.case.2.2.2.2.2.2.2.1 k; exact ⟨_, _, _, r, Nat.le_refl _⟩
            · obtain ⟨_, _, _, _, r, l, _⟩ := hs.case.2.2.2.2.2.2.2.2.1 k; exact ⟨_, _, _, r, l⟩
          obtain ⟨a, n', c, rfl, hl⟩ := this
          exact ⟨_, C, run_none hu tke.hi hsrc hl, hs, Goes.refl hC, rfl, newA_same rfl⟩
        · rename_i hc
          split at e
          · rename_i hb
            obtain ⟨b1, b2, b3⟩ := hb
            have hmpos : ∀ k, (s.t = 5 ∨ s.t = 7 ∨ s.t = 8) → k = m → 0 < k := by
              intro k hk1 hk2
              rcases Nat.eq_zero_or_pos k with h9 | h9
              · exact absurd ⟨hk1, by show m = 0; omega⟩ hc
              · exact h9
            split at e
            · rename_i h7
              cases e
              obtain ⟨k, off, us, rfl, hcm, hl, hi, hr⟩ := hs.case.2.2.2.2.2.2.2.1 h7
              have hmp := hmpos m (Or.inr (Or.inl h7)) rfl
              have hold : (Builtin.firstCells tke.i.size s.c (.slice (some ⟨k, off, none⟩) s.c s.c)).run P C.w.drew = .ok us.toArray C.w.drew :=
                run_firstCells_some C.w.drew tke.i.size s.c _ _ _ us (by rw [hl, b2, tke.size]) (fun j v hj => by rw [Addr.add_mid]; exact hi.2 _ _ hj)
              have := grown_ok hC (hN n (Nat.le_refl _) (Nat.lt_succ_self _)) (ty := ty) hu tke.hi tke.hz hold (by rw [hl, b2, tke.size]) hsrc hr hn (by omega) (by omega) (by rw [tke.bytes]; exact b3) hsz
              rw [tke.size] at this
              exact this
            · split at e
              · rename_i h5
                split at e
                · rename_i B hB
                  split at e
                  · rename_i hBc
                    cases e
                    obtain ⟨cap, cs0, ty0, rfl, ha, hcc, hcm, hbk, hsz0⟩ := hs.case.2.2.2.2.2.1 h5.1
                    obtain ⟨q1, cs, q2, q3, q4⟩ := hC.cellsAt hB hbk
                    have hcs : cs = cs0 ∧ B.ty = ty0 := by
                      rw [q2] at hbk
                      cases hbk
                      exact ⟨rfl, rfl⟩
                    rw [← hcs.1] at hsz0
                    rw [h5.2, Nat.zero_add, b2] at hsz0
                    have hmp := hmpos m (Or.inl h5.1) rfl
                    have hlen1 := q4.len
                    simp at hlen1
                    have hko : RL C (B.cs.take (s.c * s.d)) ((cs.toList.take B.cs.length).take (s.c * s.d)) := All2.take _ q4
                    have hke : (cs.toList.take B.cs.length).take (s.c * s.d) = cs.toList.take (s.c * s.d) := by rw [List.take_take, Nat.min_eq_left hBc.2]
                    rw [hke] at hko
                    have hol : (cs.toList.take (s.c * s.d)).length = s.c * te.size := by rw [List.length_take, b2]; simp; rw [b2] at hBc; omega
                    by_cases hroom : s.c + m ≤ cap
                    · have hfit : s.c * tke.i.size + news.length ≤ cs.size := by
                        rw [hsrc.newsLen, ← Nat.add_mul, tke.size]
                        exact Nat.le_trans (Nat.mul_le_mul_right _ hroom) hsz0
                      have hrun := run_room (P := P) (ty := ty) hu tke.hi hsrc q2 hroom hfit
                      rw [tke.size] at hrun hfit
                      have hcl : (B.cs.take (s.c * s.d) ++ kn).length = s.c * te.size + news.length := by rw [List.length_append, hko.len, hol, hn.len]
                      have hus : (cs.toList.take (s.c * te.size) ++ news ++ cs.toList.drop (s.c * te.size + news.length)).toArray.size = cs.size := by simp; omega
                      have hg := hC.rehome (hN n (Nat.le_refl _) (Nat.lt_succ_self _)) hB (ks := B.cs.take (s.c * s.d) ++ kn) (us := (cs.toList.take (s.c * te.size) ++ news ++ cs.toList.drop (s.c * te.size + news.length)).toArray) (w := C.w.setRow (C.mu s.a) (cs.toList.take (s.c * te.size) ++ news ++ cs.toList.drop (s.c * te.size + news.length)).toArray) q2 hus (by rw [hus, hcl]; exact hfit)
                        (by
                          rw [hcl]
                          have h9 : (cs.toList.take (s.c * te.size) ++ news ++ cs.toList.drop (s.c * te.size + news.length)).toArray.toList.take (s.c * te.size + news.length) = cs.toList.take (s.c * te.size) ++ news := by
                            rw [List.toList_toArray]
                            have h10 : (cs.toList.take (s.c * te.size) ++ news).length = s.c * te.size + news.length := by
                              rw [b2] at hol; rw [List.length_append, hol]
                            rw [← h10, List.take_left]
                          rw [h9, ← b2]
                          exact All2.app hko hn) (by simp) (setRow_heap _ _ _ _ _ _ q2) (fun j hj => setRow_other _ _ _ _ hj) ⟨rfl, rfl, rfl⟩
                      rw [h5.2]
                      refine ⟨_, _, hrun, ?_, hg, ?_, newA_one rfl⟩
                      · have em : (C.home s.a n (C.w.setRow (C.mu s.a) (cs.toList.take (s.c * te.size) ++ news ++ cs.toList.drop (s.c * te.size + news.length)).toArray) ⟨B.ty, B.cs.take (s.c * s.d) ++ kn⟩).mu n = C.mu s.a := if_pos rfl
                        have hsl := rv_sl (C := C.home s.a n (C.w.setRow (C.mu s.a) (cs.toList.take (s.c * te.size) ++ news ++ cs.toList.drop (s.c * te.size + news.length)).toArray) ⟨B.ty, B.cs.take (s.c * s.d) ++ kn⟩) (a := n) (b := 0) (c := s.c + m) (d := te.size) (cap := cap) (ty := B.ty) (cs := (cs.toList.take (s.c * te.size) ++ news ++ cs.toList.drop (s.c * te.size + news.length)).toArray) (Or.inr rfl) hroom hcm (by rw [em]; exact setRow_heap _ _ _ _ _ _ q2) (by rw [hus]; omega)
                        rw [em] at hsl
                        exact hsl
                      · show (C.H.set s.a none).set n (some ⟨B.ty, _⟩) = _
                        rw [hBc.1]
                    · rw [h5.2]
                      have hold : (Builtin.firstCells tke.i.size s.c (.slice (some ⟨C.mu s.a, 0, none⟩) s.c cap)).run P C.w.drew = .ok (cs.toList.take (s.c * s.d)).toArray C.w.drew :=
                        run_firstCells_some C.w.drew tke.i.size s.c _ _ _ (cs.toList.take (s.c * s.d)) (by rw [hol, tke.size]) (fun j v hj => by
                          rw [Addr.add_mid, cell_of_row C.w.drew _ _ cs B.ty (0, 0) q2]
                          rw [List.getElem?_take] at hj
                          split at hj
                          · simpa using hj
                          · cases hj)
                      obtain ⟨u, C', r1, r2, r3, r4, r5⟩ := grown_ok hC (hN n (Nat.le_refl _) (Nat.lt_succ_self _)) (ty := ty) hu tke.hi tke.hz hold (by rw [hol, tke.size]) hsrc hko hn (by omega) (by omega) (by rw [tke.bytes]; exact b3) hsz
                      rw [tke.size] at r2
                      have hless : ∀ b B', ((C.H.set s.a none).set n (some ⟨ti.elem, B.cs.take (s.c * s.d) ++ kn⟩)).get b = some B' → C'.H.get b = some B' := by
                        intro b B' hb
                        rw [r4]
                        rw [Hp.get_set] at hb ⊢
                        split
                        · rename_i e9; rw [if_pos e9] at hb; exact hb
                        · rename_i e9
                          rw [if_neg e9, Hp.get_set] at hb
                          split at hb
                          · cases hb
                          · exact hb
                      have hl := r3.ok.less hless
                      exact ⟨u, { C' with H := (C.H.set s.a none).set n (some ⟨ti.elem, B.cs.take (s.c * s.d) ++ kn⟩) }, r1, r2.mono hl.le, r3.trans hl, rfl, r5⟩
                  · cases e
                · cases e
              · cases e
          · cases e
    · cases e
  · cases e
#print axioms xAppend_ok
end Go.Proofs.YthklnpkjlepagaaGreatDoor.Ab
