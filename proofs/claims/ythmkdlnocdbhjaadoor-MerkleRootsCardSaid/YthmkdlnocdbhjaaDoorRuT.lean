/- wapentakeref03.Top: plain part. -/
import Derived.Test.YthmkdlnocdbhjaaDoorRtE
import Derived.Test.YthmkdlnocdbhjaaDoorMkW
import Derived.Test.YthmkdlnocdbhjaaDoorRsG
namespace Go.Proofs.YthmkdlnocdbhjaaDoor
open Go.RowKit

/-- The digest of a sublist is that of the sublist by itself. -/
theorem dig_shift (ls ms : List (List UInt8)) : ∀ (d f t g u : Nat), t - f = d → u - g = d → d < 9223372036854775808 → (∀ j, j < d → ls.getD (f + j) [] = ms.getD (g + j) []) → dig ls f t = dig ms g u := by
  intro d
  induction d using Nat.strongRecOn with
  | ind d ih =>
    intro f t g u hd hd' h63 hj
    rcases Nat.lt_or_ge d 2 with h2 | h2
    · rcases Nat.eq_zero_or_pos d with h0 | h0
      · rw [dig_none ls f t (by omega), dig_none ms g u (by omega)]
      · have h1 := hj 0 (by omega)
        rw [Nat.add_zero, Nat.add_zero] at h1
        rw [dig_leaf ls f t (by omega), dig_leaf ms g u (by omega), h1]
    · obtain ⟨k1, k2, -⟩ := half_spec d h2 h63
      rw [dig_node ls f t (by omega) (by omega), dig_node ms g u (by omega) (by omega), hd, hd']
      rw [ih (half d) (by omega) f (f + half d) g (g + half d) (by omega) (by omega) (by omega) (fun j h => hj j (by omega)),
        ih (d - half d) (by omega) (f + half d) t (g + half d) u (by omega) (by omega) (by omega) (fun j h => by
          have h1 := hj (half d + j) (by omega)
          rw [← Nat.add_assoc, ← Nat.add_assoc] at h1
          exact h1)]
theorem dig_take (ls : List (List UInt8)) (k : Nat) (hk : k ≤ ls.length) (h63 : ls.length < 9223372036854775808) : dig (ls.take k) 0 (ls.take k).length = dig ls 0 k := by
  have hl : (ls.take k).length = k := by rw [List.length_take]; omega
  rw [hl]
  refine dig_shift _ _ k 0 k 0 k (by omega) (by omega) (by omega) (fun j h => ?_)
  rw [Nat.zero_add, List.getD_eq_getElem?_getD, List.getD_eq_getElem?_getD, List.getElem?_take, if_pos h]
theorem dig_drop (ls : List (List UInt8)) (k : Nat) (hk : k ≤ ls.length) (h63 : ls.length < 9223372036854775808) : dig (ls.drop k) 0 (ls.drop k).length = dig ls k ls.length := by
  have hl : (ls.drop k).length = ls.length - k := List.length_drop
  rw [hl]
  refine dig_shift _ _ (ls.length - k) 0 (ls.length - k) k ls.length (by omega) (by omega) (by omega) (fun j h => ?_)
  rw [Nat.zero_add, List.getD_eq_getElem?_getD, List.getD_eq_getElem?_getD, List.getElem?_drop]
/-- The first k of a list that lies. -/
theorem LsW.front {w : World} {B : Nat} {A : Option Addr} {c : Nat} {vs : List Value} {ls : List (List UInt8)} (h : LsW w B A c vs ls) (k : Nat) (hk : k ≤ ls.length) : LsW w B A c (vs.take k) (ls.take k) := by
  have hl : (ls.take k).length = k := by rw [List.length_take]; omega
  have hcap := h.cap
  refine ⟨?_, ⟨by rw [List.length_take, List.length_take, h.lists.1], fun i l hi => ?_⟩, h.hB, ⟨by omega, hcap.2⟩, fun i l hi => ?_, h.consts⟩
  · have h1 := h.sees.take hk
    rw [Nat.mul_one] at h1
    rw [hl]; exact h1
  · rw [List.getElem?_take] at hi
    split at hi
    · next hik =>
      obtain ⟨A', c', h1, h2⟩ := h.lists.2 i l hi
      exact ⟨A', c', by rw [List.getElem?_take, if_pos hik]; exact h1, h2⟩
    · cases hi
  · rw [List.getElem?_take] at hi
    split at hi
    · exact h.small i l hi
    · cases hi
/-- All but the first k. -/
theorem LsW.back {w : World} {B : Nat} {A : Option Addr} {c : Nat} {vs : List Value} {ls : List (List UInt8)} (h : LsW w B A c vs ls) (k : Nat) (hk : k < ls.length) : LsW w B (A.map (·.add k)) (c - k) (vs.drop k) (ls.drop k) := by
  have hl : (ls.drop k).length = ls.length - k := List.length_drop
  have hcap := h.cap
  refine ⟨?_, ⟨by rw [List.length_drop, List.length_drop, h.lists.1], fun i l hi => ?_⟩, h.hB, ⟨by omega, by omega⟩, fun i l hi => ?_, h.consts⟩
  · have h1 := h.sees.drop (k := k) (cap := c) (by omega) hcap.1
    rw [if_neg (by omega), Nat.mul_one] at h1
    rw [hl]; exact h1
  · rw [List.getElem?_drop] at hi
    obtain ⟨A', c', h1, h2⟩ := h.lists.2 (k + i) l hi
    exact ⟨A', c', by rw [List.getElem?_drop]; exact h1, h2⟩
  · rw [List.getElem?_drop] at hi
    exact h.small (k + i) l hi
end Go.Proofs.YthmkdlnocdbhjaaDoor
