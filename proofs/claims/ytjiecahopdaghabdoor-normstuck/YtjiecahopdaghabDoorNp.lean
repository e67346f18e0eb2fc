/- How many binders a part has stays. -/
import Derived.Test.YtjiecahopdaghabDoorNm
namespace Go.Proofs.YtjiecahopdaghabDoor
open Go.RowKit

structure Bk (s s' : St) : Prop where
  size : s.size ≤ s'.size
  bk : ∀ i th, i < s.size → s.get i = some th → ∃ th', s'.get i = some th' ∧ th'.binders = th.binders

theorem Bk.refl (s : St) : Bk s s := ⟨Nat.le_refl _, fun _ th _ h => ⟨th, h, rfl⟩⟩
theorem Bk.trans {s s1 s2 : St} (h : Bk s s1) (g : Bk s1 s2) : Bk s s2 := ⟨Nat.le_trans h.size g.size, fun i th hi ht => by
  obtain ⟨t1, h1, e1⟩ := h.bk i th hi ht
  obtain ⟨t2, h2, e2⟩ := g.bk i t1 (Nat.lt_of_lt_of_le hi h.size) h1
  exact ⟨t2, h2, e2.trans e1⟩⟩
theorem Bk.of_sto {s s' : St} (h1 : s'.sto = s.sto) (h2 : s'.size = s.size) : Bk s s' := ⟨by omega, fun i th _ h => ⟨th, by unfold St.get at *; rw [h1]; exact h, rfl⟩⟩
theorem Bk.fail (s : St) (e : Int) : Bk s (s.fail e) := by
  unfold St.fail
  split
  · exact Bk.of_sto rfl rfl
  · exact Bk.refl _
theorem Bk.spend (s : St) (k : Int) : Bk s (s.spend k).2 := by
  unfold St.spend
  simp only
  split
  · exact Bk.trans (s1 := { s with fuel := w64 (s.fuel - k) }) (Bk.of_sto rfl rfl) (Bk.fail _ _)
  · exact Bk.of_sto rfl rfl
theorem Bk.enter (s : St) : Bk s s.enter.2 := by
  unfold St.enter
  simp only
  have h : Bk s (if s.nested = 65536 then s.fail 17 else s) := by split; exact Bk.fail _ _; exact Bk.refl _
  generalize (if s.nested = 65536 then s.fail 17 else s) = s1 at h ⊢
  split
  · exact h.trans (Bk.of_sto rfl rfl)
  · exact h
theorem Bk.push (s : St) (t : Th) : Bk s (s.push t).2 := ⟨by unfold St.push; simp, fun i th hi h => ⟨th, by rw [St.get_push, if_neg (by omega)]; exact h, rfl⟩⟩
theorem Bk.put (s : St) (p : Nat) (t t5 : Th) (h5 : s.get p = some t5) (hb : t.binders = t5.binders) : Bk s (s.put p t) := ⟨Nat.le_refl _, fun i th hi h => by
  rw [St.get_put]
  by_cases hp : p = i
  · subst hp
    rw [if_pos rfl]
    rw [h5] at h
    have := Option.some.inj h
    subst this
    exact ⟨t, rfl, hb⟩
  · rw [if_neg hp]; exact ⟨th, h, rfl⟩⟩
theorem Bk.at_ (s : St) (sc : List Nat) (n : Int) : Bk s (s.at_ sc n).2 := by
  unfold St.at_
  split
  · exact Bk.push _ _
  · exact Bk.refl _
theorem Bk.suspend (s : St) (t : Tr) (b : Nat) (sc : List Nat) : Bk s (s.suspend t b sc).2 := by
  unfold St.suspend
  split
  · exact Bk.at_ _ _ _
  · exact Bk.push _ _
theorem Bk.kids (op : Int) (sc : List Nat) : ∀ (ks : List Tr) (i : Nat) (s : St), Bk s (St.kids op sc i ks s).2
  | [], _, s => Bk.refl s
  | k :: ks, i, s => by
    simp only [St.kids]
    exact (Bk.suspend s k _ sc).trans (Bk.kids op sc ks (i + 1) _)
theorem Bk.node (s : St) (t : Tr) (sc : List Nat) : Bk s (s.node t sc).2 := by
  unfold St.node
  simp only
  split
  · exact (Bk.spend _ _).trans (Bk.kids _ _ _ _ _)
  · exact Bk.spend _ _

/-- All that goes on keeps binders. -/
def BkGo (go : Go1) : Prop := ∀ a s r, go a s = some r → Bk s r.2

theorem BkGo.open {go : Go1} (hg : BkGo go) {p : Nat} {args : List Nat} {s : St} {r : Val × St} (h : mOpen go p args s = some r) : Bk s r.2 := by
  unfold mOpen at h
  obtain ⟨th, _, h⟩ := Option.bind_eq_some_iff.1 h
  split at h
  · simp at h
  · simp only at h
    split at h
    · exact (Bk.spend _ _).trans (hg _ _ _ h)
    · have := Option.some.inj h; subst this; exact Bk.spend _ _
theorem BkGo.take {go : Go1} (hg : BkGo go) {op : Int} {k part : Nat} {v : Val} {s : St} {r : Val × St} (h : mTake go op k part v s = some r) : Bk s r.2 := by
  unfold mTake at h
  obtain ⟨p0, _, h⟩ := Option.bind_eq_some_iff.1 h
  obtain ⟨r1, h1, h⟩ := Option.bind_eq_some_iff.1 h
  have b1 := hg _ _ _ h1
  split at h
  · simp only at h
    split at h
    · obtain ⟨q, _, h⟩ := Option.bind_eq_some_iff.1 h
      exact (b1.trans (Bk.spend _ _)).trans (hg _ _ _ h)
    · have := Option.some.inj h; subst this; exact b1.trans (Bk.spend _ _)
  · have := Option.some.inj h; subst this; exact b1
theorem BkGo.apply {go : Go1} (hg : BkGo go) {v : Val} {s : St} {r : Val × St} (h : mApply go v s = some r) : Bk s r.2 := by
  unfold mApply at h
  obtain ⟨p0, _, h⟩ := Option.bind_eq_some_iff.1 h
  obtain ⟨p1, _, h⟩ := Option.bind_eq_some_iff.1 h
  obtain ⟨r1, h1, h⟩ := Option.bind_eq_some_iff.1 h
  have b1 := hg _ _ _ h1
  split at h
  · simp only at h
    split at h
    · obtain ⟨q, _, h⟩ := Option.bind_eq_some_iff.1 h
      exact (b1.trans (Bk.spend _ _)).trans (hg.open h)
    · have := Option.some.inj h; subst this; exact b1.trans (Bk.spend _ _)
  · have := Option.some.inj h; subst this; exact b1
theorem BkGo.recur {go : Go1} (hg : BkGo go) {v : Val} {s : St} {r : Val × St} (h : mRecur go v s = some r) : Bk s r.2 := by
  unfold mRecur at h
  obtain ⟨p0, _, h⟩ := Option.bind_eq_some_iff.1 h
  obtain ⟨p1, _, h⟩ := Option.bind_eq_some_iff.1 h
  obtain ⟨p2, _, h⟩ := Option.bind_eq_some_iff.1 h
  obtain ⟨p3, _, h⟩ := Option.bind_eq_some_iff.1 h
  obtain ⟨r1, h1, h⟩ := Option.bind_eq_some_iff.1 h
  have b1 := hg _ _ _ h1
  split at h
  · simp only at h
    split at h
    · exact (b1.trans (Bk.spend _ _)).trans (hg _ _ _ h)
    · have := Option.some.inj h; subst this; exact b1.trans (Bk.spend _ _)
  · split at h
    · simp only at h
      split at h
      · obtain ⟨q, _, h⟩ := Option.bind_eq_some_iff.1 h
        exact ((b1.trans (Bk.spend _ _)).trans (Bk.push _ _)).trans (hg.open h)
      · have := Option.some.inj h; subst this; exact b1.trans (Bk.spend _ _)
    · have := Option.some.inj h; subst this; exact b1
theorem BkGo.settle {go : Go1} (hg : BkGo go) {v : Val} {s : St} {r : Val × St} (h : mSettle go v s = some r) : Bk s r.2 := by
  unfold mSettle at h
  split at h
  · have := Option.some.inj h; subst this; exact Bk.refl _
  · simp only at h
    split at h
    · obtain ⟨r1, h1, rfl⟩ := Option.map_eq_some_iff.1 h
      have b1 : Bk s.enter.2 r1.2 := by
        unfold mRule at h1
        split at h1
        · exact hg.apply h1
        · split at h1
          · exact hg.recur h1
          · split at h1
            · exact hg.take h1
            · split at h1
              · exact hg.take h1
              · split at h1
                · exact hg.take h1
                · exact hg.take h1
      exact ((Bk.enter s).trans b1).trans (Bk.of_sto rfl rfl)
    · have := Option.some.inj h; subst this; exact Bk.enter _
theorem BkGo.force {go : Go1} (hg : BkGo go) {p : Nat} {s : St} {r : Val × St} (h : mForce go p s = some r) : Bk s r.2 := by
  unfold mForce at h
  obtain ⟨th, _, h⟩ := Option.bind_eq_some_iff.1 h
  split at h
  · have := Option.some.inj h; subst this; exact Bk.refl _
  · obtain ⟨r1, h1, h⟩ := Option.bind_eq_some_iff.1 h
    obtain ⟨t5, h5, rfl⟩ := Option.map_eq_some_iff.1 h
    exact (hg _ _ _ h1).trans (Bk.put _ _ _ t5 h5 rfl)
theorem BkGo.eval {go : Go1} (hg : BkGo go) {t : Tr} {sc : List Nat} {s : St} {r : Val × St} (h : mEval go t sc s = some r) : Bk s r.2 := by
  unfold mEval at h
  split at h
  · exact (Bk.at_ _ _ _).trans (hg _ _ _ h)
  · exact (Bk.node _ _ _).trans (hg.settle h)
theorem exec_bk : ∀ n, BkGo (exec n)
  | 0 => fun _ _ _ h => by simp [exec] at h
  | n + 1 => fun a s r h => by
    unfold exec at h
    split at h
    · exact (exec_bk n).force h
    · split at h
      · exact (exec_bk n).eval h
      · exact (exec_bk n).settle h
theorem Bk.vars (o : Int) : ∀ (k i : Nat) (s : St), Bk s (St.vars o k i s).2
  | 0, _, s => Bk.refl s
  | k + 1, i, s => by
    simp only [St.vars]
    exact (Bk.push s _).trans (Bk.vars o k (i + 1) _)
theorem look_bk {n p : Nat} {o : Int} {s : St} {r : Val × St} (h : mLook (exec n) p o s = some r) : Bk s r.2 := by
  unfold mLook at h
  obtain ⟨th, _, h⟩ := Option.bind_eq_some_iff.1 h
  split at h
  · exact exec_bk n _ _ _ h
  · exact (Bk.vars _ _ _ _).trans ((exec_bk n).open h)
#print axioms look_bk
end Go.Proofs.YtjiecahopdaghabDoor
