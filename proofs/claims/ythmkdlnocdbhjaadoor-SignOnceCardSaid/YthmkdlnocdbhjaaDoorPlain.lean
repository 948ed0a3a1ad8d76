/- Joined encodings as plain functions on lists of bytes: what joins and what splits. Nothing of the program. -/
import Derived.Test.YthmkdlnocdbhjaaDoorMem
namespace Go.Proofs.YthmkdlnocdbhjaaDoor

/-- One part, with its length ahead. -/
def part (l : List UInt8) : List UInt8 := b8 l.length ++ l
/-- The parts one behind the other. -/
def partsOf : List (List UInt8) → List UInt8
  | [] => []
  | l :: r => part l ++ partsOf r
def joinF (ls : List (List UInt8)) : List UInt8 := b8 ls.length ++ partsOf ls
/-- So many parts, and nothing behind them. -/
def splitGo : Nat → List UInt8 → Option (List (List UInt8))
  | 0, b => if b = [] then some [] else none
  | k + 1, b => if b.length < 8 then none else if (b.drop 8).length < un8 (b.take 8) then none else
      (splitGo k ((b.drop 8).drop (un8 (b.take 8)))).map fun r => (b.drop 8).take (un8 (b.take 8)) :: r
def splitF (b : List UInt8) : Option (List (List UInt8)) := if b.length < 8 then none else splitGo (un8 (b.take 8)) (b.drop 8)

theorem partsOf_append (a b : List (List UInt8)) : partsOf (a ++ b) = partsOf a ++ partsOf b := by
  induction a with
  | nil => rfl
  | cons x a ih => simp [partsOf, ih, List.append_assoc]
theorem partsOf_snoc (a : List (List UInt8)) (l : List UInt8) : partsOf (a ++ [l]) = partsOf a ++ part l := by simp [partsOf_append, partsOf]
theorem b8_len (n : Nat) : (b8 n).length = 8 := top8_len n 8
theorem part_len (l : List UInt8) : (part l).length = 8 + l.length := by simp [part, b8_len]

theorem un8_top8 (n : Nat) (hn : n < 2 ^ 64) : ∀ k, k ≤ 8 → un8 (top8 n k) = n / 2 ^ (64 - 8 * k) := by
  intro k
  induction k with
  | zero => intro _; simp [top8, un8]; omega
  | succ k ih =>
    intro hk
    rw [top8_snoc, un8_snoc, ih (by omega)]
    have e1 : 64 - 8 * k = (64 - 8 * (k + 1)) + 8 := by omega
    have e2 : 56 - 8 * k = 64 - 8 * (k + 1) := by omega
    rw [e1, e2, Nat.pow_add]
    generalize hp : 2 ^ (64 - 8 * (k + 1)) = p
    rw [← Nat.div_div_eq_div_mul, UInt8.toNat_ofNat']
    have := Nat.div_add_mod (n / p) 256
    simp only [Nat.reducePow]
    omega
theorem un8_b8 (n : Nat) (hn : n < 2 ^ 64) : un8 (b8 n) = n := by
  rw [un8_top8 n hn 8 (by omega)]; simp
theorem un8_inj : ∀ (n : Nat) (a b : List UInt8), a.length = n → b.length = n → un8 a = un8 b → a = b := by
  intro n
  induction n with
  | zero => intro a b ha hb _; rw [List.eq_nil_of_length_eq_zero ha, List.eq_nil_of_length_eq_zero hb]
  | succ n ih =>
    intro a b ha hb he
    have ha' : a ≠ [] := by intro e; subst e; simp at ha
    have hb' : b ≠ [] := by intro e; subst e; simp at hb
    have ea := List.dropLast_concat_getLast ha'
    have eb := List.dropLast_concat_getLast hb'
    rw [← ea, ← eb, un8_snoc, un8_snoc] at he
    have h1 := UInt8.toNat_lt (a.getLast ha')
    have h2 := UInt8.toNat_lt (b.getLast hb')
    have hx : (a.getLast ha') = (b.getLast hb') := UInt8.toNat_inj.1 (by omega)
    have hd := ih a.dropLast b.dropLast (by simp [ha]) (by simp [hb]) (by omega)
    rw [← ea, ← eb, hd, hx]
theorem b8_un8 (l : List UInt8) (h : l.length = 8) : b8 (un8 l) = l := by
  have hl := un8_lt l
  rw [h] at hl
  exact un8_inj 8 _ _ (b8_len _) h (un8_b8 _ hl)

theorem splitGo_parts : ∀ ls : List (List UInt8), (∀ l ∈ ls, l.length < 2 ^ 64) → splitGo ls.length (partsOf ls) = some ls := by
  intro ls
  induction ls with
  | nil => intro _; simp [splitGo, partsOf]
  | cons l ls ih =>
    intro h
    have hl := h l (by simp)
    have e8 : ∀ x y : List UInt8, (b8 l.length ++ x ++ y).drop 8 = x ++ y := fun x y => by
      rw [List.append_assoc, List.drop_left' (b8_len _)]
    have t8 : ∀ x y : List UInt8, (b8 l.length ++ x ++ y).take 8 = b8 l.length := fun x y => by
      rw [List.append_assoc, List.take_left' (b8_len _)]
    simp only [splitGo, List.length_cons, partsOf, part, e8, t8, un8_b8 _ hl]
    rw [if_neg (by simp [b8_len]), if_neg (by simp), List.drop_left, List.take_left, ih fun x hx => h x (by simp [hx])]
    rfl
theorem split_join (ls : List (List UInt8)) (h : ∀ l ∈ ls, l.length < 2 ^ 64) (hn : ls.length < 2 ^ 64) : splitF (joinF ls) = some ls := by
  unfold splitF joinF
  rw [if_neg (by simp [b8_len]), List.take_left' (b8_len _), List.drop_left' (b8_len _), un8_b8 _ hn, splitGo_parts ls h]
theorem parts_splitGo : ∀ (k : Nat) (b : List UInt8) (ls : List (List UInt8)), splitGo k b = some ls → ls.length = k ∧ partsOf ls = b := by
  intro k
  induction k with
  | zero =>
    intro b ls h
    simp only [splitGo] at h
    split at h
    · rename_i e; injection h with h; subst h; subst e; exact ⟨rfl, rfl⟩
    · cases h
  | succ k ih =>
    intro b ls h
    simp only [splitGo] at h
    split at h
    · cases h
    split at h
    · cases h
    rw [Option.map_eq_some_iff] at h
    obtain ⟨r, hr, rfl⟩ := h
    rename_i h8 hlen
    obtain ⟨h1, h2⟩ := ih _ _ hr
    refine ⟨by simp [h1], ?_⟩
    simp only [partsOf, part, h2]
    rw [List.length_take, Nat.min_eq_left (by omega), b8_un8 _ (by rw [List.length_take]; omega), List.append_assoc, List.take_append_drop, List.take_append_drop]
theorem join_split (b : List UInt8) (ls : List (List UInt8)) (h : splitF b = some ls) : joinF ls = b := by
  unfold splitF at h
  split at h
  · cases h
  · rename_i h8
    obtain ⟨h1, h2⟩ := parts_splitGo _ _ _ h
    rw [joinF, h1, h2, b8_un8 _ (by rw [List.length_take]; omega), List.take_append_drop]
theorem partsOf_ge : ∀ ls : List (List UInt8), 8 * ls.length ≤ (partsOf ls).length := by
  intro ls
  induction ls with
  | nil => simp
  | cons l ls ih => simp [partsOf, part_len]; omega
/-- Where there is no room for so many parts there are none. -/
theorem splitGo_short (k : Nat) (b : List UInt8) (h : b.length < 8 * k) : splitGo k b = none := by
  cases e : splitGo k b with
  | none => rfl
  | some ls =>
    obtain ⟨h1, h2⟩ := parts_splitGo _ _ _ e
    have := partsOf_ge ls
    rw [h1, h2] at this
    omega
theorem joinF_len (ls : List (List UInt8)) : (joinF ls).length = 8 + (partsOf ls).length := by simp [joinF, b8_len]
theorem joinF_inj {a b : List (List UInt8)} (ha : ∀ l ∈ a, l.length < 2 ^ 64) (hb : ∀ l ∈ b, l.length < 2 ^ 64) (h1 : a.length < 2 ^ 64) (h2 : b.length < 2 ^ 64) (h : joinF a = joinF b) : a = b := by
  have e := split_join a ha h1
  rw [h, split_join b hb h2] at e
  injection e with e
  exact e.symm
/-- How long the joined encoding of the first k parts is. -/
def sizeTo (ls : List (List UInt8)) (k : Nat) : Nat := 8 + (partsOf (ls.take k)).length
theorem sizeTo_step (ls : List (List UInt8)) (k : Nat) (h : k < ls.length) : sizeTo ls (k + 1) = sizeTo ls k + (8 + (ls[k]'h).length) := by
  simp only [sizeTo, take_step ls k h, partsOf_snoc, List.length_append, part_len]; omega
theorem sizeTo_le (ls : List (List UInt8)) (k : Nat) : sizeTo ls k ≤ (joinF ls).length := by
  have h := congrArg List.length (partsOf_append (ls.take k) (ls.drop k))
  rw [List.take_append_drop, List.length_append] at h
  rw [joinF_len]; unfold sizeTo; omega
theorem sizeTo_all (ls : List (List UInt8)) : sizeTo ls ls.length = (joinF ls).length := by
  rw [joinF_len]; unfold sizeTo; rw [List.take_length]
/-- The joined encoding of the first k of n parts, its number ahead. -/
def joinTo (ls : List (List UInt8)) (k : Nat) : List UInt8 := b8 ls.length ++ partsOf (ls.take k)
theorem joinTo_step (ls : List (List UInt8)) (k : Nat) (h : k < ls.length) : joinTo ls (k + 1) = (joinTo ls k ++ b8 (ls[k]'h).length) ++ ls[k]'h := by
  simp only [joinTo, take_step ls k h, partsOf_snoc, part, List.append_assoc]
theorem joinTo_len (ls : List (List UInt8)) (k : Nat) : (joinTo ls k).length = sizeTo ls k := by simp [joinTo, sizeTo, b8_len]
theorem joinTo_all (ls : List (List UInt8)) : joinTo ls ls.length = joinF ls := by simp [joinTo, joinF]

end Go.Proofs.YthmkdlnocdbhjaaDoor
