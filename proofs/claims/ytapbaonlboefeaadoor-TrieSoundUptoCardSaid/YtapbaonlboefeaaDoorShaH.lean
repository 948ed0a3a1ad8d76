/- (*sha.Hash).Write. -/
import Derived.Test.YtapbaonlboefeaaDoorShaQ
namespace Go.Proofs.YtapbaonlboefeaaDoor
open Go.RowKit

theorem splice_mid {α : Type} (L1 L2 L3 cs : List α) (o k : Nat) (h1 : L1.length = o) (h2 : k + cs.length ≤ L2.length) : splice (L1 ++ (L2 ++ L3)) (o + k) cs = L1 ++ (splice L2 k cs ++ L3) := by
  subst h1
  unfold splice
  rw [List.take_length_add_append, Nat.add_assoc, List.drop_length_add_append, List.take_append_of_le_length (by omega), List.drop_append_of_le_length (by omega)]
  simp [List.append_assoc]
theorem splice_bys (l x : List UInt8) (k : Nat) : splice (bys l) k (bys x) = bys (splice l k x) := by
  simp [splice, bys, List.map_take, List.map_drop]
theorem splice_take (l x : List UInt8) (k : Nat) (h : k + x.length ≤ l.length) : (splice l k x).take (k + x.length) = l.take k ++ x := by
  unfold splice
  rw [← List.append_assoc, List.take_left' (by rw [List.length_append, List.length_take]; omega)]

def Apart (g : Nat) (A : Option Addr) (n : Nat) : Prop := 0 < n → ∀ ad : Addr, A = some ad → ad.block ≠ g
theorem Apart.cut {g k c n : Nat} {A : Option Addr} (h : Apart g A n) : Apart g (if c = k then A else A.map (·.add k)) (n - k) := by
  intro hn ad e
  have h := h (by omega)
  split at e
  · exact h ad e
  · cases A with
    | none => cases e
    | some a => injection e with e; rw [← e, add_block]; exact h a rfl
theorem Apart.of_lt {w : World} {B size n g : Nat} {A : Option Addr} {xs : List Value} (h : Sees w B size A n xs) (hg : B ≤ g) : Apart g A n := by
  intro hn ad e he
  obtain ⟨ad', e', hb, _⟩ := h.some_ hn
  rw [e] at e'
  injection e' with e'
  subst e'
  omega
theorem Sees.apart {w w' : World} {B size n g : Nat} {A : Option Addr} {xs : List Value} (h : Sees w B size A n xs) (hg : w.grownBy w' (some g)) (hB : B ≤ w.heap.size) (hne : Apart g A n) : Sees w' B size A n xs := by
  refine ⟨h.1, ?_⟩
  rcases Nat.eq_zero_or_pos n with h0 | hn
  · exact .inl h0
  obtain ⟨ad, e, hb, hx⟩ := h.some_ hn
  refine .inr ?_
  exact ⟨ad, e, hb, fun j u hu => (World.cell?_of_block (hg.block _ (by rw [add_block]; omega) (by rw [add_block]; intro e1; injection e1 with e1; exact hne hn ad e e1))).trans (hx j u hu)⟩
theorem Consts.apart {w w' : World} {g : Nat} (h : Consts w) (hg : w.grownBy w' (some g)) (h2 : max 2 1 + 1 ≤ g) : Consts w' :=
  ⟨fun i hi => (World.cell?_of_block (hg.block 2 (Nat.lt_of_lt_of_le (by decide) h.2.2) (by intro e; injection e with e; omega))).trans (h.1 i hi),
   fun i hi => (World.cell?_of_block (hg.block 1 (Nat.lt_of_lt_of_le (by decide) h.2.2) (by intro e; injection e with e; omega))).trans (h.2.1 i hi), Nat.le_trans h.2.2 hg.size⟩

/-- The cells of a hash. -/
def hashCells (S : St) (tail : List UInt8) (n : Nat) : List Value := us S.list ++ (bys tail ++ [.int .u64 (n : Int)])
theorem hash_size (S : St) (tail : List UInt8) (n : Nat) (h : tail.length = 64) : (hashCells S tail n).length = 73 := by
  simp [hashCells, us, St.list, bys_len, h]
theorem hash_len_cell (S : St) (tail : List UInt8) (n : Nat) (h : tail.length = 64) : (hashCells S tail n)[72]? = some (.int .u64 (n : Int)) := by
  unfold hashCells
  rw [List.getElem?_append_right (by simp [us, St.list]), List.getElem?_append_right (by simp [us, St.list, bys_len, h])]
  simp [us, St.list, bys_len, h]
theorem hash_set_len (S : St) (tail : List UInt8) (n n' : Nat) (h : tail.length = 64) : (hashCells S tail n).set 72 (.int .u64 (n' : Int)) = hashCells S tail n' := by
  unfold hashCells
  rw [List.set_append_right _ _ (by simp [us, St.list]), List.set_append_right _ _ (by simp [us, St.list, bys_len, h])]
  simp [us, St.list, bys_len, h]
theorem hash_splice (S : St) (tail x : List UInt8) (n k : Nat) (h : tail.length = 64) (hk : k + x.length ≤ 64) : splice (hashCells S tail n) (8 + k) (bys x) = hashCells S (splice tail k x) n := by
  unfold hashCells
  rw [splice_mid _ _ _ _ 8 k (by simp [us, St.list]) (by rw [bys_len, bys_len]; omega), splice_bys]
theorem hash_sees {w : World} {g : Nat} {T : TypeId} {S : St} {tail : List UInt8} {n : Nat} (h : HB w g T (hashCells S tail n)) (ht : tail.length = 64) : Sees w w.heap.size 1 (some ⟨g, 8, none⟩) 64 (bys tail) := by
  refine h.sees _ h.lt (by rw [bys_len, ht]) fun j u hu => ?_
  unfold hashCells
  have hj : j < (bys tail).length := (List.getElem?_eq_some_iff.1 hu).1
  rw [List.getElem?_append_right (by simp [us, St.list]), show 8 + j - (us S.list).length = j from by simp [us, St.list], List.getElem?_append_left hj]
  exact hu

/-- A hash to which m was written. -/
def HashAt (w : World) (g : Nat) (m : List UInt8) : Prop :=
  ∃ tail : List UInt8, tail.length = 64 ∧ tail.take (m.length % 64) = left_ m ∧ HB w g 121 (hashCells (whole init0 m) tail m.length)

/-- Inside Write, at the head of the loop. -/
def WriteAt (w0 : World) (g B : Nat) (m : List UInt8) (r : Value) (wr : World) : Prop :=
  ∃ (rem : List UInt8) (A1 : Option Addr) (n1 c1 : Nat) (S : St) (tail : List UInt8), r = .slice A1 n1 c1 ∧ n1 = rem.length ∧ n1 ≤ c1 ∧ c1 ≤ 9223372036854775807 ∧ Sees wr B 1 A1 n1 (bys rem) ∧ Apart g A1 n1 ∧
    HB wr g 121 (hashCells S tail m.length) ∧ tail.length = 64 ∧ whole S rem = whole init0 m ∧ left_ rem = left_ m ∧ w0.grownBy wr (some g) ∧ Consts wr
theorem writeAt_end {w0 wr w' : World} {g : Nat} {m rem : List UInt8} {S : St} {tail : List UInt8} (hsm : rem.length < 64) (ht : tail.length = 64) (hw : whole S rem = whole init0 m) (hl : left_ rem = left_ m)
    (hG : w0.grownBy wr (some g)) (hb : HB w' g 121 (splice (hashCells S tail m.length) 8 (bys rem))) (hg : wr.grownBy w' (some g)) : HashAt w' g m ∧ w0.grownBy w' (some g) := by
  rw [whole_small S rem hsm] at hw
  rw [left_small rem hsm] at hl
  have e := hash_splice S tail rem m.length 0 ht (by omega)
  rw [Nat.add_zero] at e
  rw [e, hw] at hb
  refine ⟨⟨_, ?_, ?_, hb⟩, hG.trans hg⟩
  · rw [length_splice _ _ _ (by omega), ht]
  · have h1 : m.length % 64 = 0 + rem.length := by rw [hl, left_len]; omega
    rw [h1, splice_take _ _ _ (by omega), hl]; simp

theorem add_off (g o k : Nat) : (⟨g, o, none⟩ : Addr).add k = ⟨g, o + k, none⟩ := by
  rcases Nat.eq_zero_or_pos k with h | h
  · subst h; rw [add_zero]; rfl
  · rw [add_pos _ _ h]
def cutA (A : Option Addr) (k c : Nat) : Option Addr := if c = k then A else A.map (·.add k)
theorem Tryd.slBytes : Tryd.prog.underlying 31 = some (.slice (Tryd.prog.elem 31)) := by kernel_rfl
theorem Tryd.elemBytes (w : World) : (sizeOf (Tryd.prog.elem 31)).run Tryd.prog w = .ok 1 w := by kernel_rfl
/-- 'b[k:]' -/
theorem cut_bytes (A : Option Addr) (n c k : Nat) (hk : k ≤ n) (w : World) :
    (Instr.slice 31 (.slice A n c) (some (.int .i64 (k : Int))) none none).run Tryd.prog w = .ok (.slice (cutA A k c) (n - k) (c - k)) w := by
  rw [run_slice_l w 31 A n c Tryd.slBytes .i64 _ (by omega) (by omega), Tryd.elemBytes]
  simp only [Result.andThen_ok, sliced, Int.toNat_natCast, Nat.mul_one, cutA]
theorem Tryd.arr64 : Tryd.prog.underlying 119 = some (.array (Tryd.prog.arrayLen 119) (Tryd.prog.elem 119)) := by kernel_rfl
theorem Tryd.len64 : Tryd.prog.arrayLen 119 = 64 := by kernel_rfl
theorem Tryd.elem64 (w : World) : (sizeOf (Tryd.prog.elem 119)).run Tryd.prog w = .ok 1 w := by kernel_rfl
/-- 'rest[k:]' -/
theorem slice_rest (g o k : Nat) (hk : k < 64) (w : World) :
    (Instr.sliceAt 119 (.pointer (some ⟨g, o, none⟩)) (some (.int .i64 (k : Int))) none none).run Tryd.prog w = .ok (.slice (some ⟨g, o + k, none⟩) (64 - k) (64 - k)) w := by
  rw [run_sliceAt_array_l w 119 _ Tryd.arr64 .i64 _ (by omega) (by rw [Tryd.len64]; omega), Tryd.elem64, Tryd.len64]
  simp only [Result.andThen_ok, slicedAt, Int.toNat_natCast, Nat.mul_one, add_off]
  rw [if_neg (by omega)]
/-- 'rest[k:56]' -/
theorem slice_rest56 (g o k : Nat) (hk : k ≤ 56) (w : World) :
    (Instr.sliceAt 119 (.pointer (some ⟨g, o, none⟩)) (some (.int .i64 (k : Int))) (some (.int .i64 56)) none).run Tryd.prog w = .ok (.slice (some ⟨g, o + k, none⟩) (56 - k) (64 - k)) w := by
  rw [run_sliceAt_array_lh w 119 _ Tryd.arr64 .i64 .i64 _ _ (by omega) (by omega) (by rw [Tryd.len64]; omega), Tryd.elem64, Tryd.len64]
  simp only [Result.andThen_ok, slicedAt, Int.toNat_natCast, Nat.mul_one, add_off]
  rw [if_neg (by omega)]
  rfl

theorem small_end {w' : World} {g H : Nat} {m b M tail : List UInt8} (hM : M = m ++ b) (hH : m.length % 64 = H) (hlt : b.length < 64 - H) (ht : tail.length = 64) (htl : tail.take H = left_ m)
    (hb : HB w' g 121 (splice (hashCells (whole init0 m) tail M.length) (8 + H) (bys b))) : HashAt w' g M := by
  have hl : (left_ m ++ b).length < 64 := by rw [List.length_append, left_len]; omega
  have e1 : whole init0 M = whole init0 m := by rw [hM, whole_append, whole_small _ _ hl]
  have e2 : left_ M = left_ m ++ b := by rw [hM, left_append, left_small _ hl]
  rw [hash_splice _ _ _ _ _ ht (by omega)] at hb
  refine ⟨_, ?_, ?_, by rw [e1]; exact hb⟩
  · rw [length_splice _ _ _ (by omega), ht]
  · have h1 : M.length % 64 = H + b.length := by
      have h := congrArg List.length hM
      rw [List.length_append] at h
      omega
    rw [h1, splice_take _ _ _ (by omega), htl, e2]
theorem splice_full {H : Nat} {m b tail : List UInt8} (hge : 64 - H ≤ b.length) (hH : H ≤ 64) (ht : tail.length = 64) (htl : tail.take H = left_ m) : splice tail H (b.take (64 - H)) = left_ m ++ b.take (64 - H) := by
  unfold splice
  rw [htl, List.length_take, Nat.min_eq_left hge, List.drop_eq_nil_of_le (by omega), List.append_nil]
theorem full_step {H : Nat} {m b M : List UInt8} (hM : M = m ++ b) (hH : m.length % 64 = H) (hge : 64 - H ≤ b.length) :
    whole (compress (whole init0 m) (left_ m ++ b.take (64 - H))) (b.drop (64 - H)) = whole init0 M ∧ left_ (b.drop (64 - H)) = left_ M := by
  have hlt : H < 64 := by rw [← hH]; exact Nat.mod_lt _ (by omega)
  have hl : (left_ m).length = H := by rw [left_len, hH]
  have h64 : 64 ≤ (left_ m ++ b).length := by rw [List.length_append, hl]; omega
  have t : (left_ m ++ b).take 64 = left_ m ++ b.take (64 - H) := by rw [List.take_append, hl, List.take_of_length_le (by omega)]
  have d : (left_ m ++ b).drop 64 = b.drop (64 - H) := by rw [List.drop_append, hl, List.drop_eq_nil_of_le (by omega), List.nil_append]
  refine ⟨?_, ?_⟩
  · rw [hM, whole_append, whole_step _ _ h64, t, d]
  · rw [hM, left_append, left_step _ h64, d]
end Go.Proofs.YtapbaonlboefeaaDoor
