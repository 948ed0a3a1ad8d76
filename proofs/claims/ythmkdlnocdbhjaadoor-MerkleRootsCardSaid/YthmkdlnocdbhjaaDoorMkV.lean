/- merkle.Prove: parts. -/
import Derived.Test.YthmkdlnocdbhjaaDoorMkU
import Derived.Test.YthmkdlnocdbhjaaDoorBuild
namespace Go.Proofs.YthmkdlnocdbhjaaDoor
open Go.RowKit

theorem digGo_shift (ls ls' : List (List UInt8)) (a : Nat) : ∀ n f t, t - f < 9223372036854775808 → (∀ j, f ≤ j → j < t → ls'.getD j [] = ls.getD (a + j) []) → digGo ls' n f t = digGo ls n (a + f) (a + t) := by
  intro n
  induction n with
  | zero => intro f t _ _; rfl
  | succ n ih =>
    intro f t h63 h
    have e : a + t - (a + f) = t - f := by omega
    simp only [digGo]
    rw [e]
    by_cases h0 : t - f = 0
    · rw [if_pos h0, if_pos h0]
    · rw [if_neg h0, if_neg h0]
      by_cases h1 : t - f = 1
      · rw [if_pos h1, if_pos h1, h f (Nat.le_refl _) (by omega)]
      · obtain ⟨k1, k2, -⟩ := half_spec (t - f) (by omega) h63
        rw [if_neg h1, if_neg h1, ih f (f + half (t - f)) (by omega) (fun j h2 h3 => h j h2 (by omega)), ih (f + half (t - f)) t (by omega) (fun j h2 h3 => h j (by omega) h3), Nat.add_assoc]
theorem dig_sub (ls : List (List UInt8)) (a b : Nat) (hab : a ≤ b) (h63 : b < 9223372036854775808) : dig ((ls.drop a).take (b - a)) 0 (b - a) = dig ls a b := by
  have h := digGo_shift ls ((ls.drop a).take (b - a)) a (b - a) 0 (b - a) (by omega) (fun j _ hj => by
    rw [List.getD_eq_getElem?_getD, List.getD_eq_getElem?_getD, List.getElem?_take, if_pos hj, List.getElem?_drop])
  unfold dig
  rw [Nat.sub_zero, h, Nat.add_zero, show a + (b - a) = b by omega]

/-- The digests as an array's cells, one behind the other. -/
def digCells (ds : List (List UInt8)) : List Value := ds.flatMap bys
theorem digCells_snoc (ds : List (List UInt8)) (d : List UInt8) : digCells (ds ++ [d]) = digCells ds ++ bys d := by simp [digCells]
/-- The path of place i. -/
def pathF (ls : List (List UInt8)) (i : Nat) : List (List UInt8) := (sibs 0 ls.length i).map fun p => dig ls p.1 p.2
theorem sibs_in (i : Nat) : ∀ (d f t : Nat), t - f = d → t - f < 9223372036854775808 → ∀ p ∈ sibs f t i, f ≤ p.1 ∧ p.1 < p.2 ∧ p.2 ≤ t := by
  intro d
  induction d using Nat.strongRecOn with
  | ind d ih =>
    intro f t hd h63 p hp
    rcases Nat.lt_or_ge d 2 with h2 | h2
    · rw [sibs_one f t i (by omega)] at hp; simp at hp
    · obtain ⟨k1, k2, -⟩ := half_spec (t - f) (by omega) h63
      rw [sibs_more f t i (by omega) h63] at hp
      split at hp
      · rcases List.mem_append.1 hp with h | h
        · have := ih (f + half (t - f) - f) (by omega) f (f + half (t - f)) rfl (by omega) p h
          omega
        · simp at h; subst h; simp only; omega
      · rcases List.mem_append.1 hp with h | h
        · have := ih (t - (f + half (t - f))) (by omega) (f + half (t - f)) t rfl (by omega) p h
          omega
        · simp at h; subst h; simp only; omega
/-- Lists of a part. -/
theorem Lists.part {w : World} {B : Nat} {vs : List Value} {ls : List (List UInt8)} (h : Lists w B vs ls) (a m : Nat) : Lists w B ((vs.drop a).take m) ((ls.drop a).take m) := by
  refine ⟨by simp [h.1], fun i l hl => ?_⟩
  rw [List.getElem?_take] at hl
  split at hl
  · rename_i hi
    rw [List.getElem?_drop] at hl
    obtain ⟨A, c, h1, h2⟩ := h.2 (a + i) l hl
    exact ⟨A, c, by rw [List.getElem?_take, if_pos hi, List.getElem?_drop]; exact h1, h2⟩
  · cases hl
theorem Sees.part {w : World} {B n : Nat} {ad : Addr} {vs : List Value} (h : Sees w B 1 (some ad) n vs) (a b : Nat) (hab : a < b) (hb : b ≤ n) : Sees w B 1 (some (ad.add a)) (b - a) ((vs.drop a).take (b - a)) := by
  have h1 := h.1
  refine ⟨by simp; omega, .inr ⟨_, rfl, ?_, fun j u hu => ?_⟩⟩
  · obtain ⟨ad', e, h2, _⟩ := h.some_ (by omega)
    injection e with e
    rw [add_block, e]; exact h2
  · obtain ⟨ad', e, _, h2⟩ := h.some_ (by omega)
    injection e with e
    subst e
    rw [add_add]
    refine h2 _ u ?_
    rw [List.getElem?_take] at hu
    split at hu
    · rw [List.getElem?_drop] at hu; exact hu
    · cases hu
/-- 'l[a:b]' -/
theorem sub_slice (ad : Addr) (n c a b : Nat) (hab : a < b) (hb : b ≤ c) (W : World) : (Instr.sliceAt 22 (.slice (some ad) n c) (some (.int .i64 (a : Int))) (some (.int .i64 (b : Int))) none).run Tryd.prog W = .ok (.slice (some (ad.add a)) (b - a) (c - a)) W := by
  have hs : (sizeOf (Tryd.prog.elem 22)).run Tryd.prog W = .ok 1 W := by kernel_rfl
  have hu : Tryd.prog.underlying 22 = some (.slice (Tryd.prog.elem 22)) := by kernel_rfl
  rw [run_sliceAt_slice _ _ _ _ _ _ hu, run_slice_lh _ _ _ _ _ hu _ _ _ _ (by omega) (by omega) (by omega), hs]
  simp only [Result.andThen_ok, sliced, Int.toNat_natCast, Nat.mul_one]
  rw [if_neg (by omega)]
  rfl
/-- A literal of one digest. -/
theorem fill_dig (i0 : TypeInfo) (hz1 : i0.size = 32) (d : List UInt8) (hd : d.length = 32) : Instr.fill (fun i => some (i * i0.size, i0.size)) ((Array.range (1 * i0.size)).map ((Value.agg zdig.toArray).cells[· % (Value.agg zdig.toArray).cells.size]!)) [(0, .agg (bys d).toArray)] = some (bys d).toArray := by
  rw [hz1]
  have h := fill_fields (fun i => some (i * 32, 32)) [.agg (bys d).toArray] 0 0 ((Array.range (1 * 32)).map ((Value.agg zdig.toArray).cells[· % (Value.agg zdig.toArray).cells.size]!)) ⟨by simp [Value.cells, bys_len, hd], trivial⟩ (by simp [cellsAll, Value.cells, bys_len, hd])
  simpa [cellsAll, Value.cells] using h
end Go.Proofs.YthmkdlnocdbhjaaDoor
