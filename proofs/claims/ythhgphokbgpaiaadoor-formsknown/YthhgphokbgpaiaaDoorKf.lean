/- FormsKnown: the walk. -/
import Derived.Test.YthhgphokbgpaiaaDoorSh
import Derived.Laws.BytesArg
namespace Go.Proofs.YthhgphokbgpaiaaDoor
open Go.RowKit

theorem app_list2 (a b : ByteArray) : (a ++ b).data.toList = a.data.toList ++ b.data.toList := by simp

/-- Parse's answers in one form. -/
theorem par_one {L : List UInt8} {w : World} {e : Ending} {w' : World} (h : ParOut L w e w') : ∃ (fs : List Fm) (a : Option Addr) (cap p er : Nat), e = .returned (.tuple #[.slice a fs.length cap, .int .i64 p, .int .i64 er]) ∧ fs.length ≤ 4000 ∧ (parP L = .error (er, p) ∧ fs = [] ∨ parP L = .ok fs ∧ p = 0 ∧ er = 0) ∧
    RowAt w' (fun q => q < w'.heap.size) (FmAt w' w'.heap.size 31) fs a cap ∧ Below w.heap.size w w' := by
  obtain ⟨⟨er, p, h1, rfl⟩ | ⟨fs, a, cap, h1, hl, rfl, hrow⟩, hb⟩ := h
  · exact ⟨[], none, 0, p, er, rfl, by simp, Or.inl ⟨h1, rfl⟩, RowAt.nil (by unfold maxLen; omega), hb⟩
  · exact ⟨fs, a, cap, 0, 0, rfl, hl, Or.inr ⟨h1, rfl, rfl⟩, hrow.imp (fun _ _ => rfl) (fun q hq => hq.2) (fun t v ht => FmD.keep (fun _ _ => rfl) (fun q hq => hq.2) _ _ _ ht), hb⟩

theorem res_use {k p er : Nat} {fs : List Fm} (hk : k < 12) (h : parP (sT k) = .error (er, p) ∧ fs = [] ∨ parP (sT k) = .ok fs ∧ p = 0 ∧ er = 0) : textsF fs = wT k ∧ p = aT k ∧ er = eT k ∧ ∀ f ∈ fs, (txtF 31 f).length ≤ 1000 := by
  have hr := res_ok k hk
  unfold resB at hr
  rcases h with ⟨h, rfl⟩ | ⟨h, rfl, rfl⟩
  · rw [h] at hr
    simp only [Bool.and_eq_true, beq_iff_eq] at hr
    exact ⟨hr.1.1.symm, hr.1.2.symm, hr.2.symm, by simp⟩
  · rw [h] at hr
    simp only [Bool.and_eq_true, beq_iff_eq, List.all_eq_true, decide_eq_true_eq] at hr
    exact ⟨hr.1.1.1, hr.1.1.2.symm, hr.1.2.symm, hr.2⟩

theorem texts_len {fs : List Fm} (h : ∀ f ∈ fs, (txtF 31 f).length ≤ 1000) : ∀ k, (textsF (fs.take k)).length ≤ 1001 * k := by
  intro k
  unfold textsF
  have key : ∀ l : List Fm, (∀ f ∈ l, (txtF 31 f).length ≤ 1000) → ((l.map (fun f => txtP f ++ [32])).flatten).length ≤ 1001 * l.length := by
    intro l
    induction l with
    | nil => intro _; simp
    | cons x l ih =>
      intro hl
      have h1 := ih (fun f hf => hl f (by simp [hf]))
      have h2 : (txtP x).length ≤ 1000 := by
        unfold txtP
        split
        · exact hl x (by simp)
        · simp
      simp only [List.map_cons, List.flatten_cons, List.length_append, List.length_cons, List.length_nil]
      omega
  have h1 := key (fs.take k) (fun f hf => h f (List.mem_of_mem_take hf))
  have h2 : (fs.take k).length ≤ k := by rw [List.length_take]; omega
  omega

theorem three_of {w1 w2 : World} {o1 o2 o3 : Obj} (h : w2 = ((w1.alloc o1).alloc o2).alloc o3) : w2.heap[w1.heap.size]? = some o1 ∧ w2.heap[w1.heap.size + 1]? = some o2 ∧ w2.heap[w1.heap.size + 1 + 1]? = some o3 ∧ Below w1.heap.size w1 w2 ∧ w2.heap.size = w1.heap.size + 3 := by
  subst h
  have h2 := heap_alloc_new (w1.alloc o1) o2
  have h3 := heap_alloc_new ((w1.alloc o1).alloc o2) o3
  rw [World.size_alloc] at h2
  rw [World.size_alloc, World.size_alloc] at h3
  refine ⟨?_, ?_, h3, ((((Below.refl w1.heap.size w1).alloc (Nat.le_refl _) o1).alloc (by simp) o2).alloc (by simp; omega) o3), by rw [World.size_alloc, World.size_alloc, World.size_alloc]⟩
  · rw [Below.heap_alloc _ _ _ (by rw [World.size_alloc, World.size_alloc]; omega), Below.heap_alloc _ _ _ (by rw [World.size_alloc]; omega)]
    exact heap_alloc_new w1 o1
  · rw [Below.heap_alloc _ _ _ (by rw [World.size_alloc, World.size_alloc]; omega)]
    exact h2

set_option maxRecDepth 20000 in
set_option maxHeartbeats 2000000 in
theorem fknown_any (n : Int) (w : World) (he : Errs w) (ht : Tabs w.heap.size w) : Calls Tryd.prog 7 #[.int .i64 n] w fun e w' => e = .returned (.bool true) ∧ Below w.heap.size w w' := by
  have HE := hide he; have HT := hide ht
  clear he ht
  go_enter Tryd.func7, Tryd.ntmps7
  go_wp2_with fail
  refine (known_any w HE.out HT.out).mono ?_
  rintro e w1 ⟨rfl, hb1⟩
  have HB1 := hide hb1
  clear hb1
  go_wp2_with fail
  refine (within_n n 12 _ (by decide) (by decide)).mono ?_
  rintro e w2 ⟨rfl, hw2⟩
  have hwi := wi_n n 12 (by decide)
  generalize hx : wi n 12 = x at *
  clear hx
  obtain ⟨k, rfl⟩ : ∃ k : Nat, x = (k : Int) := ⟨x.toNat, by omega⟩
  have hk : k < 12 := by omega
  clear hwi
  have hk12 := (show k = 0 ∨ k = 1 ∨ k = 2 ∨ k = 3 ∨ k = 4 ∨ k = 5 ∨ k = 6 ∨ k = 7 ∨ k = 8 ∨ k = 9 ∨ k = 10 ∨ k = 11 by omega)
  obtain ⟨t1, t2, t3, hbw, hs2⟩ := three_of hw2
  have cS : w2.cell? ⟨w1.heap.size, k, none⟩ = some (.string ⟨⟨sT k⟩⟩) := (cell_of_block t1 k).trans (by rcases hk12 with rfl | rfl | rfl | rfl | rfl | rfl | rfl | rfl | rfl | rfl | rfl | rfl <;> rfl)
  have cW : w2.cell? ⟨w1.heap.size + 1, k, none⟩ = some (.string ⟨⟨wT k⟩⟩) := (cell_of_block t2 k).trans (by rcases hk12 with rfl | rfl | rfl | rfl | rfl | rfl | rfl | rfl | rfl | rfl | rfl | rfl <;> rfl)
  have cA : w2.cell? ⟨w1.heap.size + 1 + 1, k, none⟩ = some (.int .i64 (aT k : Nat)) := (cell_of_block t3 k).trans (by rcases hk12 with rfl | rfl | rfl | rfl | rfl | rfl | rfl | rfl | rfl | rfl | rfl | rfl <;> rfl)
  have HW2 : Hid (Below w.heap.size w w2) := HB1.out.trans (hbw.mono HB1.out.size)
  clear hw2 t1 t2 t3 hbw
  have hb0 : w1.heap.size < w2.heap.size := by omega
  have hb1 : w1.heap.size + 1 < w2.heap.size := by omega
  have hb2 : w1.heap.size + 1 + 1 < w2.heap.size := by omega
  have HS2 := hide hs2
  clear hs2
  have i1 : (0 : Int) ≤ (k : Int) := by omega
  have i2 : (k : Int) < 12 := by omega
  go_wp2_with fail
  refine (parse_any ⟨⟨sT k⟩⟩ (sT k) w2 rfl (by rcases hk12 with rfl | rfl | rfl | rfl | rfl | rfl | rfl | rfl | rfl | rfl | rfl | rfl <;> decide) (HE.out.keep HW2.out)).mono ?_
  rintro e w3 hout
  obtain ⟨fs, a, cap, p, er, rfl, hfl, hres, hrow, hb3⟩ := par_one hout
  clear hout
  have hsh : ∀ f ∈ fs, Short f := by
    rcases hres with ⟨_, rfl⟩ | ⟨h, _, _⟩
    · simp
    · exact parP_short h
  obtain ⟨hT, rfl, rfl, hln⟩ := res_use hk hres
  have dW := (hb3.cell (p := ⟨w1.heap.size + 1, k, none⟩) hb1).trans cW
  have dA := (hb3.cell (p := ⟨w1.heap.size + 1 + 1, k, none⟩) hb2).trans cA
  have HW3 : Hid (Below w.heap.size w w3) := HW2.out.trans (hb3.mono HW2.out.size)
  have hs3 := hb3.size
  have hc1 : w1.heap.size + 1 < w3.heap.size := by omega
  have hc2 : w1.heap.size + 1 + 1 < w3.heap.size := by omega
  have HT3 := hide hT; have HROW := hide hrow; have HSH := hide hsh; have HLN := hide hln
  clear hb3 hT hrow hsh hln hres cS cW cA hs3 hb0 hb1 hb2
  go_wp2_with fail
  go_loopw [10, 11] (fun tv i wr => ∃ (j : Nat) (T : ByteArray), j ≤ fs.length ∧ i = .int .i64 j ∧ tv = .string T ∧ T.size ≤ 1001 * j ∧ Hid (T.data.toList = textsF (fs.take j)) ∧ Hid (Below w3.heap.size w3 wr)) (fun _ i _ => fs.length - (intOf i).toNat)
  case atStart => exact ⟨0, ⟨#[]⟩, by omega, rfl, rfl, Nat.le_refl _, by rw [List.take_zero]; exact rfl, Below.refl _ _⟩
  case round =>
    obtain ⟨j, T, hj, rfl, rfl, hTs, HTT, HBR⟩ := hrel
    by_cases hlt : j < fs.length
    · obtain ⟨b, off, la, lc, rfl, hbB, f0, f1, f2, f3, hft⟩ := HROW.out.form hlt
      have e0 := (HBR.out.cell (p := ⟨b, off + j * 4, none⟩) hbB).trans f0
      have e1 := (HBR.out.cell (p := ⟨b, off + j * 4 + 1, none⟩) hbB).trans f1
      have e2 := (HBR.out.cell (p := ⟨b, off + j * 4 + 2, none⟩) hbB).trans f2
      have e3 := (HBR.out.cell (p := ⟨b, off + j * 4 + 3, none⟩) hbB).trans f3
      have hsz := HBR.out.size
      have HFT : Hid (FmAt wr wr.heap.size 31 fs[j] (.agg #[.int .i64 fs[j].kind, .int .i64 fs[j].n, .string ⟨⟨fs[j].s⟩⟩, .slice la fs[j].l.length lc])) := FmAt.below hft HBR.out (Nat.le_refl _) hsz
      have HWR : Hid (Below w.heap.size w wr) := HW3.out.trans (HBR.out.mono HW3.out.size)
      clear f0 f1 f2 f3 hft
      have i3 : (0 : Int) ≤ (j : Int) := by omega
      have i4 : (j : Int) < (fs.length : Int) := by omega
      have hxl := HLN.out fs[j] (List.getElem_mem hlt)
      have hxs : (⟨⟨txtP fs[j]⟩⟩ : ByteArray).size ≤ 1000 := by
        show (txtP fs[j]).length ≤ 1000
        unfold txtP
        split
        · exact hxl
        · simp
      have hxs2 : (txtP fs[j]).length ≤ 1000 := hxs
      have HXL := hide hxl
      clear hxl
      go_wp2_with fail
      refine (text_any fs[j] 31 la lc wr HFT.out (HSH.out _ (List.getElem_mem hlt)) (HE.out.keep HWR.out) (HT.out.later HWR.out) (by have := HXL.out; omega)).mono ?_
      rintro e w4 ⟨rfl, hb4⟩
      have HB4 : Hid (Below w3.heap.size w3 w4) := HBR.out.trans (hb4.mono hsz)
      clear hb4
      go_wp2_with fail
      go_roundw
      case rel =>
        refine ⟨j + 1, _, by omega, by go_num, rfl, ?_, ?_, HB4.out⟩
        · rw [ByteArray.size_append, ByteArray.size_append]
          show _ + _ + 1 ≤ _
          omega
        · show (T ++ ⟨⟨txtP fs[j]⟩⟩ ++ ⟨#[32]⟩ : ByteArray).data.toList = _
          rw [app_list2, app_list2, HTT.out, List.take_succ_eq_append_getElem hlt, textsF_snoc]
      case measure => simp [intOf]; omega
    · have hje : j = fs.length := by omega
      subst hje
      obtain rfl : T = ⟨⟨wT k⟩⟩ := by
        have h1 := HTT.out
        rw [List.take_length, HT3.out] at h1
        cases T with
        | mk d => cases d with | mk l => exact congrArg (fun l => (⟨⟨l⟩⟩ : ByteArray)) h1
      have gW := (HBR.out.cell (p := ⟨w1.heap.size + 1, k, none⟩) hc1).trans dW
      have gA := (HBR.out.cell (p := ⟨w1.heap.size + 1 + 1, k, none⟩) hc2).trans dA
      have HWR : Hid (Below w.heap.size w wr) := HW3.out.trans (HBR.out.mono HW3.out.size)
      clear dW dA
      rcases hk12 with rfl | rfl | rfl | rfl | rfl | rfl | rfl | rfl | rfl | rfl | rfl | rfl
      all_goals
        simp only [wT, aT, eT] at gW gA ⊢
        go_wp2_with fail
        go_ret
        exact ⟨rfl, HWR.out⟩
#print axioms fknown_any
end Go.Proofs.YthhgphokbgpaiaaDoor
