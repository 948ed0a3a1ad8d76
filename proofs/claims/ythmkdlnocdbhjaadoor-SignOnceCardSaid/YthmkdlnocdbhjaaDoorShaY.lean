/- clear on a block that is known whole; what padding does to a hash. -/
import Derived.Test.YthmkdlnocdbhjaaDoorShaU
namespace Go.Proofs.YthmkdlnocdbhjaaDoor
open Go.RowKit

section
variable {P : Program} {w : World}
theorem run_clear_hb (t e ty : TypeId) (z : Value) (ht : P.underlying t = some (.slice e)) (hv : ∀ w, (zeroValue e).run P w = .ok z w) (hz : z.cells = #[z]) (h1 : z.oneCell' = true) (g off n c : Nat) (T : TypeId) (cur : List Value) (hg : HB w g T cur) (hfit : off + n ≤ cur.length) :
    ∃ w', (Builtin.clear_ #[t] ty #[.slice (some ⟨g, off, none⟩) n c]).run P w = .ok (.tuple #[]) w' ∧ HB w' g T (splice cur off (List.replicate n z)) ∧ w.grownBy w' (some g) := by
  rcases Nat.eq_zero_or_pos n with h0 | h0
  · subst h0
    refine ⟨w, ?_, by rw [List.replicate_zero, splice_nil]; exact hg, World.grownBy.refl w _⟩
    simp [Builtin.clear_, run_underlying ht]
  · obtain ⟨h2, h3⟩ := HB.setCells (List.replicate n z) off w cur hg (by simpa using hfit)
    exact ⟨_, Lib.run_clear_slice w t e ty z ht hv hz h1 g off n c h0 (fun j hj => by rw [hg.cell, List.getElem?_eq_getElem (by omega)]; rfl) (fun j _ => hg.frozen _), h2, h3⟩
theorem wpList_clear_hb {ops : Array Oper} {rest : List Oper} {o : Oper} {a : Act} {Q : Exit → Act → World → Prop} (hgd : o.guard = none) (s : Operand) (t : TypeId)
    (ho : o.op = .call { callee := .builtin .clear, args := #[s], argTypes := #[t] }) (e : TypeId) (z : Value) (ht : P.underlying t = some (.slice e)) (hv : ∀ w, (zeroValue e).run P w = .ok z w) (hz : z.cells = #[z]) (h1 : z.oneCell' = true)
    (g off n c : Nat) (hs : a.eval s = .slice (some ⟨g, off, none⟩) n c) (T : TypeId) (cur : List Value) (hg : HB w g T cur) (hfit : off + n ≤ cur.length)
    (h : ∀ w', HB w' g T (splice cur off (List.replicate n z)) → w.grownBy w' (some g) → wpList P ops Q rest (a.put o.dst (.tuple #[])) w') :
    wpList P ops Q (o :: rest) a w := by
  refine wpList_plain hgd fun K hK => ?_
  obtain ⟨w', hr, h2, h3⟩ := run_clear_hb (P := P) (w := w) t e o.type z ht hv hz h1 g off n c T cur hg hfit
  unfold Oper.wp execOp
  simp only [ho, resolve, invoke, builtin, Sem.run_bind, Sem.run_pure, Result.andThen_ok, List.map_toArray, List.map_cons, List.map_nil, hs, hr]
  exact hK _ _ (h w' h2 h3)
end

theorem byte_eq {a b : Nat} (h : a % 256 = b % 256) : UInt8.ofNat a = UInt8.ofNat b := UInt8.toNat_inj.1 (by simpa using h)
theorem b8_words (n : Nat) : b8 n = bytesOf (UInt32.ofNat (n / 4294967296)) ++ bytesOf (UInt32.ofNat n) := by
  have h1 : (UInt32.ofNat (n / 4294967296)).toNat = n / 4294967296 % 4294967296 := by simp
  have h2 : (UInt32.ofNat n).toNat = n % 4294967296 := by simp
  unfold b8 top8 bytesOf
  rw [h1, h2]
  have e : List.range 8 = [0, 1, 2, 3, 4, 5, 6, 7] := by decide
  rw [e]
  simp only [List.map_cons, List.map_nil, List.cons_append, List.nil_append]
  rw [byte_eq (a := n / 2 ^ (56 - 8 * 0)) (b := n / 4294967296 % 4294967296 / 16777216) (by simp only [Nat.reducePow, Nat.reduceMul, Nat.reduceSub]; omega),
    byte_eq (a := n / 2 ^ (56 - 8 * 1)) (b := n / 4294967296 % 4294967296 / 65536) (by simp only [Nat.reducePow, Nat.reduceMul, Nat.reduceSub]; omega),
    byte_eq (a := n / 2 ^ (56 - 8 * 2)) (b := n / 4294967296 % 4294967296 / 256) (by simp only [Nat.reducePow, Nat.reduceMul, Nat.reduceSub]; omega),
    byte_eq (a := n / 2 ^ (56 - 8 * 3)) (b := n / 4294967296 % 4294967296) (by simp only [Nat.reducePow, Nat.reduceMul, Nat.reduceSub]; omega),
    byte_eq (a := n / 2 ^ (56 - 8 * 4)) (b := n % 4294967296 / 16777216) (by simp only [Nat.reducePow, Nat.reduceMul, Nat.reduceSub]; omega),
    byte_eq (a := n / 2 ^ (56 - 8 * 5)) (b := n % 4294967296 / 65536) (by simp only [Nat.reducePow, Nat.reduceMul, Nat.reduceSub]; omega),
    byte_eq (a := n / 2 ^ (56 - 8 * 6)) (b := n % 4294967296 / 256) (by simp only [Nat.reducePow, Nat.reduceMul, Nat.reduceSub]; omega),
    byte_eq (a := n / 2 ^ (56 - 8 * 7)) (b := n % 4294967296) (by simp only [Nat.reducePow, Nat.reduceMul, Nat.reduceSub]; omega)]

def zeros (n : Nat) : List UInt8 := List.replicate n 0
theorem zeros_len (n : Nat) : (zeros n).length = n := by simp [zeros]
theorem bys_zeros (n : Nat) : List.replicate n (Value.int .u8 0) = bys (zeros n) := by simp [bys, zeros]
theorem zeros_add (a b : Nat) : zeros (a + b) = zeros a ++ zeros b := by unfold zeros; rw [List.replicate_append_replicate]
theorem whole_one (s : St) (l : List UInt8) (h : l.length = 64) : whole s l = compress s l := by
  rw [whole_step _ _ (by omega), whole_small _ _ (by rw [List.length_drop]; omega), List.take_of_length_le (by omega)]
theorem pad_eq (m : List UInt8) : padF m = (m ++ [0x80]) ++ (zeros (padZeros m.length) ++ b8 (8 * m.length)) := by simp [padF, zeros]
theorem pad_low (m : List UInt8) (H : Nat) (hH : (m ++ [0x80]).length % 64 = H) (h : H ≤ 56) :
    whole init0 (padF m) = compress (whole init0 (m ++ [0x80])) (left_ (m ++ [0x80]) ++ (zeros (56 - H) ++ b8 (8 * m.length))) := by
  have hz : padZeros m.length = 56 - H := by rw [List.length_append] at hH; simp only [List.length_cons, List.length_nil] at hH; unfold padZeros; omega
  rw [pad_eq, hz, whole_append, whole_one _ _ (by rw [List.length_append, left_len, hH, List.length_append, zeros_len, b8_len]; omega)]
theorem pad_high (m : List UInt8) (H : Nat) (hH : (m ++ [0x80]).length % 64 = H) (h : 56 < H) :
    whole init0 (padF m) = compress (compress (whole init0 (m ++ [0x80])) (left_ (m ++ [0x80]) ++ zeros (64 - H))) (zeros 56 ++ b8 (8 * m.length)) := by
  have hlt : H < 64 := by rw [← hH]; exact Nat.mod_lt _ (by omega)
  have hz : padZeros m.length = (64 - H) + 56 := by rw [List.length_append] at hH; simp only [List.length_cons, List.length_nil] at hH; unfold padZeros; omega
  have hl : (left_ (m ++ [0x80]) ++ zeros (64 - H)).length = 64 := by rw [List.length_append, left_len, hH, zeros_len]; omega
  have e : left_ (m ++ [0x80]) ++ (zeros ((64 - H) + 56) ++ b8 (8 * m.length)) = (left_ (m ++ [0x80]) ++ zeros (64 - H)) ++ (zeros 56 ++ b8 (8 * m.length)) := by
    rw [zeros_add]; simp only [List.append_assoc]
  rw [pad_eq, hz, whole_append, e, whole_step _ _ (by rw [List.length_append, hl]; omega), List.take_left' hl, List.drop_left' hl, whole_one _ _ (by rw [List.length_append, zeros_len, b8_len])]

theorem tail_final (tl x y : List UInt8) (K : Nat) (h : tl.length = 64) (hK : K ≤ 56) (hx : x.length = 4) (hy : y.length = 4) :
    splice (splice (splice tl K (zeros (56 - K))) 56 x) 60 y = tl.take K ++ (zeros (56 - K) ++ (x ++ y)) := by
  have e1 : splice tl K (zeros (56 - K)) = (tl.take K ++ zeros (56 - K)) ++ (tl.drop 56 ++ []) := by
    unfold splice; rw [zeros_len, show K + (56 - K) = 56 from by omega]; simp
  have l1 : (tl.take K ++ zeros (56 - K)).length = 56 := by rw [List.length_append, List.length_take, zeros_len]; omega
  have l2 : (tl.drop 56).length = 8 := by rw [List.length_drop]; omega
  have e2 := splice_mid (tl.take K ++ zeros (56 - K)) (tl.drop 56) [] x 56 0 l1 (by omega)
  have e3 : splice (tl.drop 56) 0 x = x ++ tl.drop 60 := by
    unfold splice; rw [hx, List.drop_drop]; simp
  rw [e1, show (56 : Nat) = 56 + 0 from rfl, e2, e3]
  have e4 : (tl.take K ++ zeros (56 + 0 - K)) ++ (x ++ tl.drop 60 ++ []) = ((tl.take K ++ zeros (56 - K)) ++ x) ++ (tl.drop 60 ++ []) := by simp
  have l3 : ((tl.take K ++ zeros (56 - K)) ++ x).length = 60 := by rw [List.length_append, l1, hx]
  have e5 := splice_mid ((tl.take K ++ zeros (56 - K)) ++ x) (tl.drop 60) [] y 60 0 l3 (by rw [List.length_drop]; omega)
  have e6 : splice (tl.drop 60) 0 y = y := by
    have hd : tl.drop (60 + (0 + 4)) = [] := List.drop_eq_nil_of_le (by omega)
    unfold splice
    rw [hy, List.drop_drop, hd]; simp
  rw [e4, show (60 : Nat) = 60 + 0 from rfl, e5, e6]
  simp
end Go.Proofs.YthmkdlnocdbhjaaDoor
