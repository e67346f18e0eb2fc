/- The second saying's Bytes: a term's bytes. -/
import Derived.Test.YtafafeplciidhaaWg
import Derived.Test.YtafafeplciidhaaInj
import Derived.Test.YtafafeplciidhaaSz
namespace Go.Proofs.Ytafafeplciidhaa
open Go.RowKit

theorem app_keep {ww w' : World} {o bx : Obj} {v : Value} {n b0 : Nat} {xs : List Value} (hown : ww.ownsRow (b0 + 1) 5 1 v n xs) (hbx : ww.heap[b0]? = some bx) (hg : (ww.alloc o).grownBy w' v.ownBlock) : w'.heap[b0]? = some bx :=
  (hg.block b0 (by rw [World.size_alloc]; have := size_of_block hbx; omega) (fun e => by have := hown.lt b0 e.symm; omega)).trans ((Below.heap_alloc _ _ _ (size_of_block hbx)).trans hbx)
theorem app_below {w ww w' : World} {o : Obj} {v : Value} {n b0 : Nat} {xs : List Value} (hown : ww.ownsRow (b0 + 1) 5 1 v n xs) (hb : Below b0 w ww) (hs : b0 ≤ ww.heap.size) (hg : (ww.alloc o).grownBy w' v.ownBlock) : Below b0 w w' :=
  (hb.alloc hs o).grown hg (by rw [World.size_alloc]; omega) (fun k hk => by have := hown.lt k hk; omega)

/-- The head, and the bytes of the first k kids. -/
def encTo (t : Tr) (k : Nat) : List Int := hd t.op t.n t.kids.length ++ ((t.kids.take k).map enc).flatten
theorem encTo_succ (t : Tr) (k : Nat) (hk : k < t.kids.length) : encTo t (k + 1) = encTo t k ++ enc t.kids[k] := by
  unfold encTo
  rw [List.take_succ_eq_append_getElem hk, List.map_append, List.flatten_append, List.append_assoc]
  simp only [List.map_cons, List.map_nil, List.flatten_cons, List.flatten_nil, List.append_nil]
theorem encTo_end (t : Tr) : encTo t t.kids.length = enc t := by unfold encTo; rw [List.take_length, ← enc_eq]
theorem bys_append (a b : List Int) : bys (a ++ b) = bys a ++ bys b := by simp [bys]
theorem bys_length (l : List Int) : (bys l).length = l.length := by simp [bys]

set_option maxRecDepth 20000 in
set_option maxHeartbeats 2000000 in
theorem rbytes_any (B f : Nat) : ∀ (t : Tr) (v : Value) (w : World), TmAt w B f t v → B ≤ w.heap.size → t.size ≤ 100000 → (∀ x ∈ t.pre, x.kids.length ≤ 255) →
    Calls Try.prog 16 #[v] w fun e w' => ∃ r, e = .returned r ∧ w'.ownsRow w.heap.size 5 1 r (t.size * 10) (bys (enc t)) ∧ Below w.heap.size w w' := by
  induction f with
  | zero => intro t v w h; exact h.elim
  | succ f ih =>
    rintro t v w ⟨a, cap, rfl, hop, hn, hrow⟩ hB hsz hG
    have IH := hide ih; have HG := hide hG; have HR := hide hrow
    have hk255 : t.kids.length ≤ 255 := hG t (mem_pre_self t)
    clear ih hG hrow
    obtain ⟨i, hi, hz0, hz1, hz2⟩ := info_parts Try.info5
    unfold I64 at hop hn
    go_enter Try.func16, Try.ntmps16
    go_wp2_with fail
    have hown : ((w.alloc (.cells #[.int .i64 t.op, .int .i64 t.n, .slice a t.kids.length cap] 29)).alloc (.cells #[.int .u8 (t.op % 256)] 5)).ownsRow (w.heap.size + 1) 5 1 (.slice (some ⟨w.heap.size + 1, 0, none⟩) 1 1) 1 [.int .u8 (t.op % 256)] := by
      have h1 := heap_alloc_new (w.alloc (.cells #[.int .i64 t.op, .int .i64 t.n, .slice a t.kids.length cap] 29)) (.cells #[.int .u8 (t.op % 256)] 5)
      rw [World.size_alloc] at h1
      exact ⟨rfl, Or.inr ⟨w.heap.size + 1, 1, _, rfl, Nat.le_refl _, h1, Nat.le_refl _, by unfold maxLen; omega, rfl, rfl⟩⟩
    have hbx : ((w.alloc (.cells #[.int .i64 t.op, .int .i64 t.n, .slice a t.kids.length cap] 29)).alloc (.cells #[.int .u8 (t.op % 256)] 5)).heap[w.heap.size]? = some (.cells #[.int .i64 t.op, .int .i64 t.n, .slice a t.kids.length cap] 29 (0, 0)) := by
      rw [Below.heap_alloc _ _ _ (by simp)]; exact heap_alloc_new w _
    have hbl : Below w.heap.size w ((w.alloc (.cells #[.int .i64 t.op, .int .i64 t.n, .slice a t.kids.length cap] 29)).alloc (.cells #[.int .u8 (t.op % 256)] 5)) := ((Below.refl _ _).alloc (Nat.le_refl _) _).alloc (by simp) _
    have hs1 : w.heap.size + 1 ≤ ((w.alloc (.cells #[.int .i64 t.op, .int .i64 t.n, .slice a t.kids.length cap] 29)).alloc (.cells #[.int .u8 (t.op % 256)] 5)).heap.size := by simp
    generalize ((w.alloc (.cells #[.int .i64 t.op, .int .i64 t.n, .slice a t.kids.length cap] 29)).alloc (.cells #[.int .u8 (t.op % 256)] 5)) = ww at *
    have HO := hide hown; have HX := hide hbx; have HBL := hide hbl
    have cn : ww.cell? ⟨w.heap.size, 1, none⟩ = some (.int .i64 t.n) := by rw [cell_of_block hbx]; rfl
    have ck : ww.cell? ⟨w.heap.size, 2, none⟩ = some (.slice a t.kids.length cap) := by rw [cell_of_block hbx]; rfl
    clear hown hbx hbl
    refine wp_loop_rounds 9 ?_
    iterate 8 (rw [rounds_succ]; go_wp2_with (at_builtin; refine wpList_append_own _ rfl _ _ 32 rfl (w.heap.size + 1) 5 i (.int .u8 0) 1 1 Try.underlying32 hi hz0 hz1 hz2 rfl (by decide) _ _ _ rfl (HO.out.alloc _) _ 1 1 _ rfl rfl (cell_one_new _ _ _) (fun x hx => by simp at hx; subst hx; rfl) (by unfold maxLen; omega) (by omega) (by rw [World.size_alloc]; omega) ?_; intro v3 w3 hown3 hgrow3 hnil3; have hbx2 := app_keep HO.out HX.out hgrow3; have hbl2 := app_below HO.out HBL.out (by omega) hgrow3; have hs2 : w.heap.size + 1 ≤ w3.heap.size := (by have := hgrow3.size; rw [World.size_alloc] at this; omega); clear HO HX HBL cn ck hs1 hgrow3 hnil3; have HO := hide hown3; have HX := hide hbx2; have HBL := hide hbl2; have cn : w3.cell? ⟨w.heap.size, 1, none⟩ = some (.int .i64 t.n) := (cell_of_block hbx2 1).trans rfl; have ck : w3.cell? ⟨w.heap.size, 2, none⟩ = some (.slice a t.kids.length cap) := (cell_of_block hbx2 2).trans rfl; have hs1 := hs2; clear hown3 hbx2 hbl2 hs2))
    rw [rounds_succ]
    go_wp2_with (at_builtin; refine wpList_append_own _ rfl _ _ 32 rfl (w.heap.size + 1) 5 i (.int .u8 0) 1 1 Try.underlying32 hi hz0 hz1 hz2 rfl (by decide) _ _ _ rfl (HO.out.alloc _) _ 1 1 _ rfl rfl (cell_one_new _ _ _) (fun x hx => by simp at hx; subst hx; rfl) (by unfold maxLen; omega) (by omega) (by rw [World.size_alloc]; omega) ?_; intro v3 w3 hown3 hgrow3 hnil3; have hbx2 := app_keep HO.out HX.out hgrow3; have hbl2 := app_below HO.out HBL.out (by omega) hgrow3; have hs2 : w.heap.size + 1 ≤ w3.heap.size := (by have := hgrow3.size; rw [World.size_alloc] at this; omega); clear HO HX HBL cn ck hs1 hgrow3 hnil3; have HO := hide hown3; have HX := hide hbx2; have HBL := hide hbl2; have cn : w3.cell? ⟨w.heap.size, 1, none⟩ = some (.int .i64 t.n) := (cell_of_block hbx2 1).trans rfl; have ck : w3.cell? ⟨w.heap.size, 2, none⟩ = some (.slice a t.kids.length cap) := (cell_of_block hbx2 2).trans rfl; have hs1 := hs2; clear hown3 hbx2 hbl2 hs2)
    have HO0 : Hid (w3.ownsRow (w.heap.size + 1) 5 1 v3 (szTo t 0 * 10) (bys (encTo t 0))) := HO.out
    go_loopw [3, 5] (fun b c wr => ∃ k : Nat, k ≤ t.kids.length ∧ c = .int .i64 k ∧ wr.ownsRow (w.heap.size + 1) 5 1 b (szTo t k * 10) (bys (encTo t k)) ∧ wr.heap[w.heap.size]? = some (.cells #[.int .i64 t.op, .int .i64 t.n, .slice a t.kids.length cap] 29 (0, 0)) ∧ Below w.heap.size w wr) (fun _ c _ => t.kids.length - (intOf c).toNat)
    case atStart => exact ⟨0, Nat.zero_le _, rfl, HO0.out, HX.out, HBL.out⟩
    case round =>
      obtain ⟨k, hk, rfl, hown, hbx, hbl⟩ := hrel
      have c2 : wr.cell? ⟨w.heap.size, 2, none⟩ = some (.slice a t.kids.length cap) := (cell_of_block hbx 2).trans rfl
      have hwr : w.heap.size < wr.heap.size := size_of_block hbx
      have HOW := hide hown; have HBX := hide hbx; have HB := hide hbl
      clear hown hbx hbl cn ck HO HX HBL HO0
      by_cases hlt : k < t.kids.length
      · obtain ⟨b, off, rfl, hbB, hx⟩ := HR.out.2.2 (by intro h; simp [h] at hlt)
        obtain ⟨x0, x1, x2, e0, e1, e2, hr⟩ := hx k hlt
        have f0 : wr.cell? ⟨b, off + k * 3, none⟩ = some x0 := by rw [HB.out.cell (Nat.lt_of_lt_of_le hbB hB)]; exact e0
        have f1 : wr.cell? ⟨b, off + k * 3 + 1, none⟩ = some x1 := by rw [HB.out.cell (Nat.lt_of_lt_of_le hbB hB)]; exact e1
        have f2 : wr.cell? ⟨b, off + k * 3 + 2, none⟩ = some x2 := by rw [HB.out.cell (Nat.lt_of_lt_of_le hbB hB)]; exact e2
        have HTK : Hid (TmAt wr B f t.kids[k] (.agg #[x0, x1, x2])) := TmAt.below hr HB.out hB (Nat.le_refl _)
        have HZS := hide (szTo_succ t k hlt)
        have HZL := hide (szTo_le t (k + 1))
        have HES := hide (encTo_succ t k hlt)
        have HGK : Hid (∀ x ∈ t.kids[k].pre, x.kids.length ≤ 255) := fun x hx => HG.out x (mem_pre_kid (List.getElem_mem hlt) hx)
        clear hx e0 e1 e2 hr
        have hK1 := (t.kids[k]).size_pos
        have hK2 : szTo t k + (t.kids[k]).size ≤ t.size := by have h1 := HZS.out; have h2 := HZL.out; omega
        generalize hKe : t.kids[k] = K at *
        have HKE := hide hKe
        clear hKe
        go_wp2_with fail
        refine (IH.out K _ wr HTK.out (by omega) (by omega) HGK.out).mono ?_
        rintro e w6 ⟨r6, rfl, hown6, hb6⟩
        obtain ⟨g6, c6, rfl⟩ : ∃ g6 c6, r6 = .slice (some ⟨g6, 0, none⟩) (K.size * 10) c6 := by
          rcases hown6.2 with ⟨_, h⟩ | ⟨g6, c6, cur, h, _⟩
          · omega
          · exact ⟨g6, c6, h⟩
        have hs6 := hb6.size
        have HO6 : Hid (w6.ownsRow (w.heap.size + 1) 5 1 u3 (szTo t k * 10) (bys (encTo t k))) := owns_keep HOW.out (fun q _ hq2 => hb6.block q hq2)
        have hnews := hide (hown6.cells (g := g6) rfl)
        have HBX6 : Hid (w6.heap[w.heap.size]? = some (.cells #[.int .i64 t.op, .int .i64 t.n, .slice (some ⟨b, off, none⟩) t.kids.length cap] 29 (0, 0))) := (hb6.block _ hwr).trans HBX.out
        have HB6 : Hid (Below w.heap.size w w6) := HB.out.trans (hb6.mono (by omega))
        clear hown6 hb6 f0 f1 f2 c2
        go_wp2_with (at_builtin; refine wpList_append_own _ rfl _ _ 32 rfl (w.heap.size + 1) 5 i (.int .u8 0) 1 1 Try.underlying32 hi hz0 hz1 hz2 rfl (by decide) _ _ _ rfl HO6.out ⟨g6, 0, none⟩ (K.size * 10) c6 (bys (enc K)) rfl (by rw [bys_length, enc, encL_length, Tr.pre_length]; omega) hnews.out (fun x hx => by obtain ⟨y, _, rfl⟩ := List.mem_map.1 hx; rfl) (by unfold maxLen; omega) (by omega) (by omega) ?_; intro v7 w7 hown7 hgrow7 hnil7; have HO7 := hide hown7; have HG7 := hide hgrow7; clear hown7 hgrow7 hnil7)
        go_roundw
        case rel =>
          have hs7 := HG7.out.size
          refine ⟨k + 1, by omega, by go_num, ?_, ?_, HB6.out.grown HG7.out (by omega) (fun q hq => by have := HO6.out.lt q hq; omega)⟩
          · have h1 := HO7.out
            rw [HES.out, bys_append, show szTo t (k + 1) * 10 = szTo t k * 10 + K.size * 10 by have := HZS.out; omega]
            exact h1
          · exact (HG7.out.block _ (by omega) (fun e => by have := HO6.out.lt _ e.symm; omega)).trans HBX6.out
        case measure => simp [intOf]; omega
      · go_wp2_with fail
        go_ret
        have hkk : k = t.kids.length := by omega
        have h1 := HOW.out
        rw [hkk, szTo_end, encTo_end] at h1
        exact ⟨_, rfl, ⟨h1.1, by rcases h1.2 with h | ⟨g, c, cur, h2, h3, h4⟩; exact Or.inl h; exact Or.inr ⟨g, c, cur, h2, by omega, h4⟩⟩, HB.out⟩
#print axioms rbytes_any
end Go.Proofs.Ytafafeplciidhaa
