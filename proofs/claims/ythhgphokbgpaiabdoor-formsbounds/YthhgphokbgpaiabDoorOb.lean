/- What begins a text, case by case. -/
import Derived.Test.YthhgphokbgpaiabDoorTo
namespace Go.Proofs.YthhgphokbgpaiabDoor
open Go.RowKit

variable {l : List UInt8} {p : Nat}

theorem nb {b : Bool} (h : b = false) : ¬ b = true := by rw [h]; simp

theorem one_blank (h : blankB (byt l 0) = true) : oneP l p = .ok (cnt blankB l, none) := by rw [oneP, if_pos h]
theorem one_line (hb : blankB (byt l 0) = false) (h : byt l 0 = 59) : oneP l p = .ok (cnt lineB l, none) := by rw [oneP, if_neg (nb hb), if_pos h]
theorem one_open (hb : blankB (byt l 0) = false) (h1 : byt l 0 ≠ 59) (h : byt l 0 = 40) : oneP l p = .ok (1, some ⟨1, 0, p, []⟩) := by rw [oneP, if_neg (nb hb), if_neg h1, if_pos h]
theorem one_close (hb : blankB (byt l 0) = false) (h1 : byt l 0 ≠ 59) (h : byt l 0 = 41) : oneP l p = .ok (1, some ⟨2, 0, p, []⟩) := by rw [oneP, if_neg (nb hb), if_neg h1, if_neg (by omega), if_pos h]
theorem one_long (hb : blankB (byt l 0) = false) (h1 : byt l 0 ≠ 59) (h2 : byt l 0 ≠ 40) (h3 : byt l 0 ≠ 41) (h : (nameB (byt l 0) && !digB (byt l 0)) = true) (hk : 20 < 1 + cnt nameB (l.drop 1)) : oneP l p = .error 4 := by
  rw [oneP, if_neg (nb hb), if_neg h1, if_neg h2, if_neg h3, if_pos h, if_pos hk]
theorem one_name (hb : blankB (byt l 0) = false) (h1 : byt l 0 ≠ 59) (h2 : byt l 0 ≠ 40) (h3 : byt l 0 ≠ 41) (h : (nameB (byt l 0) && !digB (byt l 0)) = true) (hk : ¬ 20 < 1 + cnt nameB (l.drop 1)) : oneP l p = .ok (1 + cnt nameB (l.drop 1), some ⟨3, 0, p, l.take (1 + cnt nameB (l.drop 1))⟩) := by
  rw [oneP, if_neg (nb hb), if_neg h1, if_neg h2, if_neg h3, if_pos h, if_neg hk]
theorem one_sign (hb : blankB (byt l 0) = false) (h1 : byt l 0 ≠ 59) (h2 : byt l 0 ≠ 40) (h3 : byt l 0 ≠ 41) (h : (nameB (byt l 0) && !digB (byt l 0)) = false) (hk : 0 < signN l) : oneP l p = .ok (signN l, some ⟨3, 0, p, l.take (signN l)⟩) := by
  rw [oneP, if_neg (nb hb), if_neg h1, if_neg h2, if_neg h3, if_neg (nb h), if_pos hk]
theorem one_far (hb : blankB (byt l 0) = false) (h1 : byt l 0 ≠ 59) (h2 : byt l 0 ≠ 40) (h3 : byt l 0 ≠ 41) (h : (nameB (byt l 0) && !digB (byt l 0)) = false) (hk : ¬ 0 < signN l) (hn : (digB (byt l 0) || (byt l 0 == 45 && decide (1 < l.length) && digB (byt l 1))) = true)
    (hv : valP (l.take (1 + cnt digB (l.drop 1))) = none) : oneP l p = .error 4 := by
  rw [oneP, if_neg (nb hb), if_neg h1, if_neg h2, if_neg h3, if_neg (nb h), if_neg hk, if_pos hn, hv]
theorem one_num (hb : blankB (byt l 0) = false) (h1 : byt l 0 ≠ 59) (h2 : byt l 0 ≠ 40) (h3 : byt l 0 ≠ 41) (h : (nameB (byt l 0) && !digB (byt l 0)) = false) (hk : ¬ 0 < signN l) (hn : (digB (byt l 0) || (byt l 0 == 45 && decide (1 < l.length) && digB (byt l 1))) = true)
    {v : Int} (hv : valP (l.take (1 + cnt digB (l.drop 1))) = some v) : oneP l p = .ok (1 + cnt digB (l.drop 1), some ⟨4, v, p, []⟩) := by
  rw [oneP, if_neg (nb hb), if_neg h1, if_neg h2, if_neg h3, if_neg (nb h), if_neg hk, if_pos hn, hv]
theorem one_bad (hb : blankB (byt l 0) = false) (h1 : byt l 0 ≠ 59) (h2 : byt l 0 ≠ 40) (h3 : byt l 0 ≠ 41) (h : (nameB (byt l 0) && !digB (byt l 0)) = false) (hk : ¬ 0 < signN l) (hn : (digB (byt l 0) || (byt l 0 == 45 && decide (1 < l.length) && digB (byt l 1))) = false) : oneP l p = .error 6 := by
  rw [oneP, if_neg (nb hb), if_neg h1, if_neg h2, if_neg h3, if_neg (nb h), if_neg hk, if_neg (nb hn)]

theorem tok_err {L : List UInt8} {ts : List Tok} {q e : Nat} (hn : L.length ≤ 4000) (h : Left L ts q) (hp : q < L.length) (h1 : oneP (L.drop q) q = .error e) : tokP L = .error (e, q) := by
  unfold tokP; rw [if_neg (by omega)]; exact h.err hp h1

theorem lit_nil : (⟨⟨([] : List UInt8)⟩⟩ : ByteArray) = ⟨#[]⟩ := rfl

theorem ext_lit (s : ByteArray) (L : List UInt8) (hL : s.data.toList = L) (a b : Nat) : s.extract a b = ⟨⟨(L.drop a).take (b - a)⟩⟩ := by
  have h := ext_list s L hL a b
  cases hx : s.extract a b with
  | mk d =>
    rw [hx] at h
    simp only at h
    rw [← h]
#print axioms ext_lit
end Go.Proofs.YthhgphokbgpaiabDoor
