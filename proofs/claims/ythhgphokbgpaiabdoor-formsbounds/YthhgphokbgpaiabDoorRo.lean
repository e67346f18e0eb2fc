/- The reader's method number. -/
import Derived.Test.YthhgphokbgpaiabDoorRm
namespace Go.Proofs.YthhgphokbgpaiabDoor
open Go.RowKit

set_option maxHeartbeats 1000000 in
theorem rnumber_any (rb B : Nat) (vs0 : List Value) (cv ov : Value) (st0 : List (List Fm)) (cur : List Fm) (k n p : Int) (ss : List UInt8) (w : World) (h : Rd w rb B vs0 cv ov st0 cur) (hd : st0.length ≤ 30) (hl : cur.length ≤ 5000) (hn : I64 n) :
    Calls Tryd.prog 29 #[.pointer (some ⟨rb, 0, none⟩), .agg #[.int .i64 k, .int .i64 n, .int .i64 p, .string ⟨⟨ss⟩⟩]] w (PutOut w rb B vs0 ov st0 (cur ++ [⟨2, n, [], []⟩])) := by
  obtain ⟨xs, ho, hk⟩ := h.rows.last
  obtain ⟨ca, cc, rfl, _, _⟩ := owns_form ho
  have HD := hide h
  have hB := h.lt
  have hBs := h.base
  have HK := hide hk
  have HO := hide ho
  have HB := hide h.blk
  clear ho hk h
  have hb := size_of_block HB.out
  obtain ⟨h0, h1⟩ := blk2 HB.out
  have z0 := frozen_of_block HB.out 0
  have HL := hide hl
  have HN := hide hn
  clear hn
  generalize hcl : cur.length = l at *
  have HC := hide hcl
  clear hcl
  obtain ⟨i, hi, hz0, hz1, hz2⟩ := info_parts Tryd.info25
  go_enter Tryd.func29, Tryd.ntmps29
  go_wp2_with fail
  have i1 : (0 : Int) ≤ (l : Int) := by omega
  have i2 : (l : Int) < (l : Int) + 1 := by omega
  go_region_law (refine step_append_lies _ (by rfl) (.tmp 8) (.tmp 13) 23 (by rfl) B 25 i (.agg #[.int .i64 0, .int .i64 0, .string ⟨#[]⟩, .slice none 0 0]) 4 56 Tryd.underlying23 hi hz0 hz1 hz2 rfl (by decide) (.slice ca l cc) l xs (by rfl) (ownsRow_drew ((HO.out.alloc _).alloc _)) ⟨w.heap.size + 1, 0, none⟩ 1 1 [.int .i64 0, .int .i64 0, .string ⟨#[]⟩, .slice none 0 0] (by rfl) (by rfl) (World.news_of_block (new_block1 w _ _)) (fun u hu => by simp at hu; rcases hu with rfl | rfl | rfl | rfl <;> rfl) (by omega) (by unfold maxLen; omega) (by omega) (by rw [size_drew, World.size_alloc, World.size_alloc]; omega) (w.heap.size + 2) (by rw [size_drew, World.size_alloc, World.size_alloc]) ?_; intro g6 cap6 w6 hown6 hgrow6 hat6 hlt6; obtain ⟨q0, q1, e0, e1, e2, e3, u0, u1, u2, u3, n1, n2, _⟩ := grow_facts hB HB.out HO.out hgrow6 hown6; have HO6 := hide hown6; have HG6 := hide hgrow6; have HA6 := hide hat6; clear hown6 hgrow6 hat6 hlt6)
  all_goals
    clear q0 q1 e0 e1 e2 e3 u0 u1 u2 u3
    go_wp2_with fail
    go_ret
    have hc := HC.out
    subst hc
    first
      | with_reducible refine put_out ?_ HD.out hd HK.out ?_ HN.out (put_A hB HB.out HO.out HG6.out HO6.out HA6.out)
      | with_reducible refine put_out ?_ HD.out hd HK.out ?_ HN.out (put_B hB HB.out HO.out HG6.out HO6.out HA6.out)
    · rfl
    · unfold I64; omega
#print axioms rnumber_any
end Go.Proofs.YthhgphokbgpaiabDoor
