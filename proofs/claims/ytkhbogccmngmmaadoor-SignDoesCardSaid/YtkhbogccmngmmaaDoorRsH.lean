/- The document's own SHA-256: plain facts for wapentakeref01.Sum. -/
import Derived.Test.YtkhbogccmngmmaaDoorRsF
import Derived.Test.YtkhbogccmngmmaaDoorOf
import Derived.Test.YtkhbogccmngmmaaDoorRj
namespace Go.Proofs.YtkhbogccmngmmaaDoor
open Go.RowKit

theorem own_hb {w : World} {base n : Nat} {e : TypeId} {v : Value} {xs : List Value} (h : w.ownsRow base e 1 v n xs) (hn : 0 < n) :
    ∃ g c rest, v = .slice (some ⟨g, 0, none⟩) n c ∧ base ≤ g ∧ n ≤ c ∧ c ≤ 9223372036854775807 ∧ HB w g e (xs ++ rest) := by
  obtain ⟨_, h2⟩ := h
  rcases h2 with ⟨_, h0⟩ | ⟨g, cap, cur, hv, hb, hh, hnc, hm, _, hx⟩
  · omega
  · refine ⟨g, cap, cur.toList.drop (n * 1), hv, hb, hnc, (by unfold maxLen at hm; omega), ?_⟩
    unfold HB
    rw [← hx, List.take_append_drop, Array.toArray_toList]
    exact hh
theorem hb_ne {w : World} {g g' : Nat} {e e' : TypeId} {xs ys : List Value} (h : HB w g e xs) (h' : HB w g' e' ys) (hne : e ≠ e') : g ≠ g' := types_ne ⟨_, _, h⟩ ⟨_, _, h'⟩ hne
/-- The first t words of a block's schedule. -/
def wTo (b : List UInt8) (t : Nat) : List UInt32 := if t ≤ 16 then firstW b t else moreW (t - 16) (firstW b 16)
theorem wTo_len (b : List UInt8) (t : Nat) : (wTo b t).length = t := by
  unfold wTo
  split
  · exact firstW_len b t
  · rw [moreW_len, firstW_len]; omega
theorem wTo_first (b : List UInt8) (t : Nat) (h : t < 16) : wTo b (t + 1) = wTo b t ++ [wordAt b (4 * t)] := by
  unfold wTo
  rw [if_pos (by omega), if_pos (by omega), firstW_succ]
theorem wTo_more (b : List UInt8) (t : Nat) (h : 16 ≤ t) : wTo b (t + 1) = wTo b t ++ [nextW (wTo b t)] := by
  have e : wTo b t = moreW (t - 16) (firstW b 16) := by
    unfold wTo
    rcases Nat.eq_or_lt_of_le h with h1 | h1
    · subst h1; rw [if_pos (by omega)]; rfl
    · rw [if_neg (by omega)]
  rw [e]
  unfold wTo
  rw [if_neg (by omega), show t + 1 - 16 = (t - 16) + 1 from by omega]
  rfl
theorem wTo_all (b : List UInt8) : wTo b 64 = scheduleF b := by unfold wTo; rw [if_neg (by omega)]; rfl
theorem wTo_nil (b : List UInt8) : wTo b 0 = [] := rfl
theorem absorb_succ (j : Nat) (s : St) (l : List UInt8) : absorb (j + 1) s l = compress (absorb j s l) ((l.drop (64 * j)).take 64) := by
  rw [absorb_add]; rfl
theorem padZeros_not (n z : Nat) (h : z < padZeros n) : (n + 1 + z) % 64 ≠ 56 := by unfold padZeros at h; omega
theorem padZeros_yes (n : Nat) : (n + 1 + padZeros n) % 64 = 56 := by unfold padZeros; omega
theorem padZeros_le (n : Nat) : padZeros n < 64 := Nat.mod_lt _ (by decide)
/-- Bytes, the mark, and so many noughts. -/
def padTo (m : List UInt8) (z : Nat) : List UInt8 := m ++ ([0x80] ++ List.replicate z 0)
theorem padTo_len (m : List UInt8) (z : Nat) : (padTo m z).length = m.length + 1 + z := by simp [padTo]; omega
theorem padTo_succ (m : List UInt8) (z : Nat) : padTo m (z + 1) = padTo m z ++ [0] := by simp [padTo, List.replicate_succ']
theorem padF_eq (m : List UInt8) : padF m = padTo m (padZeros m.length) ++ b8 (8 * m.length) := by simp [padF, padTo]
theorem padF_len (m : List UInt8) : (padF m).length = m.length + 9 + padZeros m.length := by rw [padF_eq, List.length_append, padTo_len, top8_len]; omega
theorem padF_mod (m : List UInt8) : (padF m).length = 64 * ((padF m).length / 64) := by
  have h := padF_len m
  have h2 := padZeros_yes m.length
  omega
theorem st_get (s : St) (rest : List Value) : ∀ j, j < 8 → (us s.list ++ rest)[j]? = some (.int .u32 ((s.get j).toNat : Int)) :=
  below8 rfl rfl rfl rfl rfl rfl rfl rfl
theorem outByte (s : St) : ∀ i, i < 32 → Value.int .u8 (((s.get (i / 4)).toNat : Int) / 2 ^ (24 - 8 * (i % 4)) % 256) = by_ ((digestOf s).getD i 0) := by
  have key : ∀ (x : UInt32) (r : Nat), r < 4 → Value.int .u8 ((x.toNat : Int) / 2 ^ (24 - 8 * r) % 256) = by_ ((bytesOf x).getD r 0) := by
    intro x r hr
    have : r = 0 ∨ r = 1 ∨ r = 2 ∨ r = 3 := by omega
    rcases this with rfl | rfl | rfl | rfl <;> simp [by_, bytesOf]
  intro i hi
  have h1 := key (s.get (i / 4)) (i % 4) (Nat.mod_lt _ (by decide))
  rw [h1]
  have hall : ∀ q, q < 8 → ∀ r, r < 4 → (bytesOf (s.get q)).getD r 0 = (digestOf s).getD (4 * q + r) 0 := by
    have r4 : ∀ (p : Nat → Prop), p 0 → p 1 → p 2 → p 3 → ∀ r, r < 4 → p r := by
      intro p h0 h1 h2 h3 r hr
      have : r = 0 ∨ r = 1 ∨ r = 2 ∨ r = 3 := by omega
      rcases this with rfl | rfl | rfl | rfl <;> assumption
    exact below8 (r4 _ rfl rfl rfl rfl) (r4 _ rfl rfl rfl rfl) (r4 _ rfl rfl rfl rfl) (r4 _ rfl rfl rfl rfl) (r4 _ rfl rfl rfl rfl) (r4 _ rfl rfl rfl rfl) (r4 _ rfl rfl rfl rfl) (r4 _ rfl rfl rfl rfl)
  rw [hall (i / 4) (by omega) (i % 4) (Nat.mod_lt _ (by decide)), Nat.div_add_mod]
def outTo (l : List UInt8) (i : Nat) : List Value := bys (l.take i ++ zeros (32 - i))
theorem outTo_len (l : List UInt8) (hl : l.length = 32) (i : Nat) (hi : i ≤ 32) : (outTo l i).length = 32 := by
  rw [outTo, bys_len, List.length_append, List.length_take, zeros_len, hl]; omega
theorem outTo_set (l : List UInt8) (hl : l.length = 32) (i : Nat) (hi : i < 32) : (outTo l i).set i (by_ (l.getD i 0)) = outTo l (i + 1) := by
  have e : l.getD i 0 = l[i] := by rw [List.getD_eq_getElem?_getD, List.getElem?_eq_getElem (by omega)]; rfl
  have hz : zeros (32 - i) = 0 :: zeros (32 - (i + 1)) := by unfold zeros; rw [show 32 - i = (32 - (i + 1)) + 1 from by omega, List.replicate_succ]
  rw [outTo, outTo, e, List.take_succ_eq_append_getElem (by omega), hz]
  unfold bys
  rw [List.map_append, List.map_append, List.map_append, List.set_append_right _ _ (by rw [List.length_map, List.length_take]; omega), List.length_map, List.length_take, show i - min i l.length = 0 from by omega]
  simp
theorem outTo_all (l : List UInt8) (hl : l.length = 32) : outTo l 32 = bys l := by rw [outTo, List.take_of_length_le (by omega)]; simp [zeros]
theorem outTo_nil (l : List UInt8) : outTo l 0 = zdig := rfl
/-- A slice's length. -/
def lenV : Value → Nat
  | .slice _ n _ => n
  | _ => 0
end Go.Proofs.YtkhbogccmngmmaaDoor
