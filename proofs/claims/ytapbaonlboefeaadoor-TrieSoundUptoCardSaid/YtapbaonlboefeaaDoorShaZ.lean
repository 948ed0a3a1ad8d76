/- clear on a block that is known whole; what padding does to a hash. | (*sha.Hash).pad. -/
import Derived.Test.YtapbaonlboefeaaDoorShaU
namespace Go.Proofs.YtapbaonlboefeaaDoor
open Go.RowKit

section
variable {P : Program} {w : World}
theorem run_clear_hb (t e ty : TypeId) (z : Value) (ht : P.underlying t = some (.slice e)) (hv : ∀ w, (zeroValue e).run P w = .ok z w) (hz : z.cells = #[z]) (h1 : z.oneCell' = true) (g off n c : Nat) (T : TypeId) (cur : List Value) (hg : HB w g T cur) (hfit : off + n ≤ cur.length) :
    ∃ w', (Builtin.clear_ #[t] ty #[.slice (some ⟨g, off, none⟩) n c]).run P w = .ok (.tuple #[]) w' ∧ HB w' g T (splice cur off (List.replicate n z)) ∧ w.grownBy w' (some g) := by
  rcases Nat.eq_zero_or_pos n with h0 | h0
  · subst h0
    refine ⟨w, ?_, by rw [List.replicate_zero, splice_nil]; exact hg, World.grownBy.refl w _⟩
    simp [Builtin.clear_, run_underlying ht]
  · obtain ⟨h2, h3⟩ := HB.setCells (List.replicate n z) off w cur hg (by simpa using hfit)
    exact ⟨_, Lib.run_clear_slice w t e ty z ht hv hz h1 g off n c h0 (fun j hj => by rw [hg.cell, List.getElem?_eq_getElem (by omega)]; rfl) (fun j _ => hg.frozen _), h2, h3⟩
theorem wpList_clear_hb {ops : Array Oper} {rest : List Oper} {o : Oper} {a : Act} {Q : Exit → Act → World → Prop} (hgd : o.guard = none) (s : Operand) (t : TypeId)
    (ho : o.op = .call { callee := .builtin .clear, args := #[s], argTypes := #[t] }) (e : TypeId) (z : Value) (ht : P.underlying t = some (.slice e)) (hv : ∀ w, (zeroValue e).run P w = .ok z w) (hz : z.cells = #[z]) (h1 : z.oneCell' = true)
    (g off n c : Nat) (hs : a.eval s = .slice (some ⟨g, off, none⟩) n c) (T : TypeId) (cur : List Value) (hg : HB w g T cur) (hfit : off + n ≤ cur.length)
    (h : ∀ w', HB w' g T (splice cur off (List.replicate n z)) → w.grownBy w' (some g) → wpList P ops Q rest (a.put o.dst (.tuple #[])) w') :
    wpList P ops Q (o :: rest) a w := by
  refine wpList_plain hgd fun K hK => ?_
  obtain ⟨w', hr, h2, h3⟩ := run_clear_hb (P := P) (w := w) t e o.type z ht hv hz h1 g off n c T cur hg hfit
  unfold Oper.wp execOp
  simp only [ho, resolve, invoke, builtin, Sem.run_bind, Sem.run_pure, Result.andThen_ok, List.map_toArray, List.map_cons, List.map_nil, hs, hr]
  exact hK _ _ (h w' h2 h3)
end

theorem byte_eq {a b : Nat} (h : a % 256 = b % 256) : UInt8.ofNat a = UInt8.ofNat b := UInt8.toNat_inj.1 (by simpa using h)
theorem b8_words (n : Nat) : b8 n = bytesOf (UInt32.ofNat (n / 4294967296)) ++ bytesOf (UInt32.ofNat n) := by
  have h1 : (UInt32.ofNat (n / 4294967296)).toNat = n / 4294967296 % 4294967296 := by simp
  have h2 : (UInt32.ofNat n).toNat = n % 4294967296 := by simp
  unfold b8 top8 bytesOf
  rw [h1, h2]
  have e : List.range 8 = [0, 1, 2, 3, 4, 5, 6, 7] := by decide
  rw [e]
  simp only [List.map_cons, List.map_nil, List.cons_append, List.nil_append]
  rw [byte_eq (a := n / 2 ^ (56 - 8 * 0)) (b := n / 4294967296 % 4294967296 / 16777216) (by simp only [Nat.reducePow, Nat.reduceMul, Nat.reduceSub]; omega),
    byte_eq (a := n / 2 ^ (56 - 8 * 1)) (b := n / 4294967296 % 4294967296 / 65536) (by simp only [Nat.reducePow, Nat.reduceMul, Nat.reduceSub]; omega),
    byte_eq (a := n / 2 ^ (56 - 8 * 2)) (b := n / 4294967296 % 4294967296 / 256) (by simp only [Nat.reducePow, Nat.reduceMul, Nat.reduceSub]; omega),
    byte_eq (a := n / 2 ^ (56 - 8 * 3)) (b := n / 4294967296 % 4294967296) (by simp only [Nat.reducePow, Nat.reduceMul, Nat.reduceSub]; omega),
    byte_eq (a := n / 2 ^ (56 - 8 * 4)) (b := n % 4294967296 / 16777216) (by simp only [Nat.reducePow, Nat.reduceMul, Nat.reduceSub]; omega),
    byte_eq (a := n / 2 ^ (56 - 8 * 5)) (b := n % 4294967296 / 65536) (by simp only [Nat.reducePow, Nat.reduceMul, Nat.reduceSub]; omega),
    byte_eq (a := n / 2 ^ (56 - 8 * 6)) (b := n % 4294967296 / 256) (by simp only [Nat.reducePow, Nat.reduceMul, Nat.reduceSub]; omega),
    byte_eq (a := n / 2 ^ (56 - 8 * 7)) (b := n % 4294967296) (by simp only [Nat.reducePow, Nat.reduceMul, Nat.reduceSub]; omega)]

def zeros (n : Nat) : List UInt8 := List.replicate n 0
theorem zeros_len (n : Nat) : (zeros n).length = n := by simp [zeros]
theorem bys_zeros (n : Nat) : List.replicate n (Value.int .u8 0) = bys (zeros n) := by simp [bys, zeros]
theorem zeros_add (a b : Nat) : zeros (a + b) = zeros a ++ zeros b := by unfold zeros; rw [List.replicate_append_replicate]
theorem whole_one (s : St) (l : List UInt8) (h : l.length = 64) : whole s l = compress s l := by
  rw [whole_step _ _ (by omega), whole_small _ _ (by rw [List.length_drop]; omega), List.take_of_length_le (by omega)]
theorem pad_eq (m : List UInt8) : padF m = (m ++ [0x80]) ++ (zeros (padZeros m.length) ++ b8 (8 * m.length)) := by simp [padF, zeros]
theorem pad_low (m : List UInt8) (H : Nat) (hH : (m ++ [0x80]).length % 64 = H) (h : H ≤ 56) :
    whole init0 (padF m) = compress (whole init0 (m ++ [0x80])) (left_ (m ++ [0x80]) ++ (zeros (56 - H) ++ b8 (8 * m.length))) := by
  have hz : padZeros m.length = 56 - H := by rw [List.length_append] at hH; simp only [List.length_cons, List.length_nil] at hH; unfold padZeros; omega
  rw [pad_eq, hz, whole_append, whole_one _ _ (by rw [List.length_append, left_len, hH, List.length_append, zeros_len, b8_len]; omega)]
theorem pad_high (m : List UInt8) (H : Nat) (hH : (m ++ [0x80]).length % 64 = H) (h : 56 < H) :
    whole init0 (padF m) = compress (compress (whole init0 (m ++ [0x80])) (left_ (m ++ [0x80]) ++ zeros (64 - H))) (zeros 56 ++ b8 (8 * m.length)) := by
  have hlt : H < 64 := by rw [← hH]; exact Nat.mod_lt _ (by omega)
  have hz : padZeros m.length = (64 - H) + 56 := by rw [List.length_append] at hH; simp only [List.length_cons, List.length_nil] at hH; unfold padZeros; omega
  have hl : (left_ (m ++ [0x80]) ++ zeros (64 - H)).length = 64 := by rw [List.length_append, left_len, hH, zeros_len]; omega
  have e : left_ (m ++ [0x80]) ++ (zeros ((64 - H) + 56) ++ b8 (8 * m.length)) = (left_ (m ++ [0x80]) ++ zeros (64 - H)) ++ (zeros 56 ++ b8 (8 * m.length)) := by
    rw [zeros_add]; simp only [List.append_assoc]
  rw [pad_eq, hz, whole_append, e, whole_step _ _ (by rw [List.length_append, hl]; omega), List.take_left' hl, List.drop_left' hl, whole_one _ _ (by rw [List.length_append, zeros_len, b8_len])]

theorem tail_final (tl x y : List UInt8) (K : Nat) (h : tl.length = 64) (hK : K ≤ 56) (hx : x.length = 4) (hy : y.length = 4) :
    splice (splice (splice tl K (zeros (56 - K))) 56 x) 60 y = tl.take K ++ (zeros (56 - K) ++ (x ++ y)) := by
  have e1 : splice tl K (zeros (56 - K)) = (tl.take K ++ zeros (56 - K)) ++ (tl.drop 56 ++ []) := by
    unfold splice; rw [zeros_len, show K + (56 - K) = 56 from by omega]; simp
  have l1 : (tl.take K ++ zeros (56 - K)).length = 56 := by rw [List.length_append, List.length_take, zeros_len]; omega
  have l2 : (tl.drop 56).length = 8 := by rw [List.length_drop]; omega
  have e2 := splice_mid (tl.take K ++ zeros (56 - K)) (tl.drop 56) [] x 56 0 l1 (by omega)
  have e3 : splice (tl.drop 56) 0 x = x ++ tl.drop 60 := by
    unfold splice; rw [hx, List.drop_drop]; simp
  rw [e1, show (56 : Nat) = 56 + 0 from rfl, e2, e3]
  have e4 : (tl.take K ++ zeros (56 + 0 - K)) ++ (x ++ tl.drop 60 ++ []) = ((tl.take K ++ zeros (56 - K)) ++ x) ++ (tl.drop 60 ++ []) := by simp
  have l3 : ((tl.take K ++ zeros (56 - K)) ++ x).length = 60 := by rw [List.length_append, l1, hx]
  have e5 := splice_mid ((tl.take K ++ zeros (56 - K)) ++ x) (tl.drop 60) [] y 60 0 l3 (by rw [List.length_drop]; omega)
  have e6 : splice (tl.drop 60) 0 y = y := by
    have hd : tl.drop (60 + (0 + 4)) = [] := List.drop_eq_nil_of_le (by omega)
    unfold splice
    rw [hy, List.drop_drop, hd]; simp
  rw [e4, show (60 : Nat) = 60 + 0 from rfl, e5, e6]
  simp
end Go.Proofs.YtapbaonlboefeaaDoor
namespace Go.Proofs.YtapbaonlboefeaaDoor
open Go.RowKit

theorem Tryd.zeroByte (w : World) : (zeroValue 5).run Tryd.prog w = .ok (.int .u8 0) w := by kernel_rfl
/-- A hash whose state is all that is still read. -/
def Ended (w : World) (g : Nat) (S : St) : Prop := ∃ rest : List Value, rest.length = 65 ∧ HB w g 121 (us S.list ++ rest)

theorem hi_word (n : Nat) (h : n ≤ 1152921504606846974) : (n : Int) * 8 / 4294967296 = ((UInt32.ofNat (8 * n / 4294967296)).toNat : Int) := by
  rw [UInt32.toNat_ofNat']; omega
theorem lo_word (n : Nat) : (n : Int) * 8 % 4294967296 = ((UInt32.ofNat (8 * n)).toNat : Int) := by
  rw [UInt32.toNat_ofNat']; omega

set_option maxHeartbeats 3200000 in
set_option maxRecDepth 100000 in
theorem pad_any (g : Nat) (m : List UInt8) (w : World) (hh : HashAt w g m) (hm : m.length ≤ 1152921504606846974) (hk : Consts w) (hg2 : max 2 1 + 1 ≤ g) :
    Calls Tryd.prog 69 #[.pointer (some ⟨g, 0, none⟩)] w fun e w' => e = .returned (.tuple #[]) ∧ Ended w' g (whole init0 (padF m)) ∧ w.grownBy w' (some g) := by
  have hlt : g < w.heap.size := by obtain ⟨tail, -, -, hb⟩ := hh; exact hb.lt
  have hc72 : w.cell? ⟨g, 72, none⟩ = some (.int .u64 (m.length : Int)) := by
    obtain ⟨tail, ht, -, hb⟩ := hh
    exact (hb.cell 72).trans (hash_len_cell _ tail m.length ht)
  have hW := Lib.hid (write_any (w.heap.size + 1) g (some ⟨w.heap.size, 0, none⟩) 1 m [0x80] (w.alloc (.cells #[.int .u8 128] 5))
    (by obtain ⟨tail, ht, htl, hb⟩ := hh; exact ⟨tail, ht, htl, hb.alloc _⟩)
    ((HB.new w 5 [.int .u8 128]).sees _ (by omega) rfl (fun j u hu => by rw [Nat.zero_add]; exact hu))
    (by intro _ ad e; injection e with e; rw [← e]; show w.heap.size ≠ g; omega) (by simp) (by simp) (by omega) (by simp; omega)
    (hk.below ((Below.refl _ _).alloc (Nat.le_refl _) _) hk.2.2) hg2)
  have hlen1 : (m ++ [(0x80 : UInt8)]).length = m.length + 1 := by simp
  go_enter Tryd.func69, Tryd.ntmps69
  go_wp2_with fail
  refine hW.out.mono ?_
  rintro e w1 ⟨rfl, ⟨tail, ht, htl, hb⟩, hg1⟩
  have hG1 : w.grownBy w1 (some g) := (World.grownBy_alloc w _ _).trans hg1
  have hk1 := hk.apart hG1 hg2
  have hc1 := (hb.cell 72).trans (hash_len_cell _ tail _ ht)
  rw [hlen1] at hc1
  have hH64 : (m ++ [(0x80 : UInt8)]).length % 64 < 64 := Nat.mod_lt _ (by omega)
  generalize hH : (m ++ [(0x80 : UInt8)]).length % 64 = H at *
  generalize hN : (m ++ [(0x80 : UInt8)]).length = N1 at *
  have HN := Lib.hid hN
  have hHi : ((m.length : Int) + 1) % 64 = (H : Int) := by omega
  have HH := Lib.hid hH
  have HT := Lib.hid ht
  have HTL := Lib.hid htl
  have hl1 := hash_size (whole init0 (m ++ [(0x80 : UInt8)])) tail N1 ht
  have hll : (left_ (m ++ [(0x80 : UInt8)])).length = H := by rw [left_len, hN, hH]
  generalize hcs : hashCells (whole init0 (m ++ [(0x80 : UInt8)])) tail N1 = cs at *
  have Hcs := Lib.hid hcs
  have Hl1 := Lib.hid hl1
  have Hll := Lib.hid hll
  clear hH ht htl hcs hg1 hk hh hl1 hll hN hlen1
  rcases Nat.lt_or_ge 56 H with hhi | hlo
  · have hsl := slice_rest g 8 H hH64
    have h56 : (56 : Int) < H := by omega
    go_wp2_with (refine wpList_clear_hb rfl (.tmp 24) 31 rfl 5 (.int .u8 0) Tryd.underlying31 Tryd.zeroByte rfl rfl g (8 + H) (64 - H) (64 - H) rfl _ cs hb (by rw [Hl1.out]; omega) ?_)
    intro w2 hb2 hg2'
    rw [← Hcs.out, bys_zeros, hash_splice _ _ _ _ _ HT.out (by rw [zeros_len]; omega)] at hb2
    have htl2 : splice tail H (zeros (64 - H)) = left_ (m ++ [0x80]) ++ zeros (64 - H) := by
      unfold splice; rw [HTL.out, zeros_len, List.drop_eq_nil_of_le (by rw [HT.out]; omega), List.append_nil]
    rw [htl2] at hb2
    have hl2 : (left_ (m ++ [(0x80 : UInt8)]) ++ zeros (64 - H)).length = 64 := by rw [List.length_append, Hll.out, zeros_len]; omega
    have hfin := Lib.hid (pad_high m H (by rw [HN.out]; exact HH.out) hhi)
    have hse2 := hash_sees hb2 hl2
    have hk2 := hk1.apart hg2' hg2
    have hG2 := hG1.trans hg2'
    have HL2 := Lib.hid hl2
    clear htl2 hl2 hk1 hG1 hg2'
    generalize left_ (m ++ [(0x80 : UInt8)]) ++ zeros (64 - H) = tl2 at *
    go_wp2
    go_still_tail 7, (by kernel_rfl)
    change wpList _ _ _ _ _ w2.drew
    go_wp2_with fail
    refine (mix_any w2.heap.size (some ⟨g, 8, none⟩) 64 tl2 g _ _ _ w2.drew hse2 (Nat.le_refl _) (Nat.le_refl _) (by omega) hb2 hk2).mono ?_
    rintro e w3 ⟨rfl, hb3, hg3'⟩
    have hg3 : w2.grownBy w3 (some g) := World.grownBy.trans (b := w2.drew) ⟨rfl, rfl, rfl, Nat.le_refl _, fun _ _ _ => rfl⟩ hg3'
    have hk3 := hk2.apart hg3 hg2
    have hG3 := hG2.trans hg3
    clear hg3 hg3' hG2 hk2 hse2 hb2
    have hb3' : HB w3 g 121 (hashCells (compress (whole init0 (m ++ [0x80])) tl2) tl2 N1) := hb3
    generalize compress (whole init0 (m ++ [0x80])) tl2 = S3 at *
    have Hsz3 := Lib.hid (hash_size S3 tl2 N1 HL2.out)
    clear hb3
    go_wp2_with (refine wpList_clear_hb rfl (.tmp 37) 31 rfl 5 (.int .u8 0) Tryd.underlying31 Tryd.zeroByte rfl rfl g 8 56 64 rfl _ _ hb3' (by rw [Hsz3.out]; omega) ?_)
    intro w4 hb4 hg4
    have hb4' : HB w4 g 121 (hashCells S3 (splice tl2 0 (zeros (56 - 0))) N1) := by
      rw [← hash_splice S3 tl2 (zeros (56 - 0)) N1 0 HL2.out (by rw [zeros_len]; omega), ← bys_zeros]; exact hb4
    have hl4 : (splice tl2 0 (zeros (56 - 0))).length = 64 := by rw [length_splice _ _ _ (by rw [HL2.out, zeros_len]; omega), HL2.out]
    have hk4 := hk3.apart hg4 hg2
    have hG4 := hG3.trans hg4
    clear hg4 hk3 hG3 hb4 hb3'
    generalize htl4 : splice tl2 0 (zeros (56 - 0)) = tl4 at *
    have HTL4 := Lib.hid htl4
    have HL4 := Lib.hid hl4
    have Hsz4 := Lib.hid (hash_size S3 tl4 N1 hl4)
    clear hl4 htl4
    go_wp2_with fail
    rw [hi_word _ hm]
    refine (putWord_any g 64 8 8 _ _ (UInt32.ofNat (8 * m.length / 4294967296)) w4 hb4' (by omega) (by rw [Hsz4.out]; omega)).mono ?_
    rintro e w5 ⟨rfl, hb5, hg5⟩
    rw [show (64 : Nat) = 8 + 56 from rfl, hash_splice S3 tl4 _ N1 56 HL4.out (by rw [bytesOf_len]; omega)] at hb5
    have hl5 : (splice tl4 56 (bytesOf (UInt32.ofNat (8 * m.length / 4294967296)))).length = 64 := by rw [length_splice _ _ _ (by rw [HL4.out, bytesOf_len]; omega), HL4.out]
    have hk5 := hk4.apart hg5 hg2
    have hG5 := hG4.trans hg5
    clear hg5 hk4 hG4 hb4'
    generalize htl5 : splice tl4 56 (bytesOf (UInt32.ofNat (8 * m.length / 4294967296))) = tl5 at *
    have HTL5 := Lib.hid htl5
    have HL5 := Lib.hid hl5
    have Hsz5 := Lib.hid (hash_size S3 tl5 N1 hl5)
    clear hl5 htl5
    go_wp2_with fail
    rw [lo_word]
    refine (putWord_any g 68 4 4 _ _ (UInt32.ofNat (8 * m.length)) w5 hb5 (by omega) (by rw [Hsz5.out]; omega)).mono ?_
    rintro e w6 ⟨rfl, hb6, hg6⟩
    rw [show (68 : Nat) = 8 + 60 from rfl, hash_splice S3 tl5 _ N1 60 HL5.out (by rw [bytesOf_len]; omega)] at hb6
    have hl6 : (splice tl5 60 (bytesOf (UInt32.ofNat (8 * m.length)))).length = 64 := by rw [length_splice _ _ _ (by rw [HL5.out, bytesOf_len]; omega), HL5.out]
    have hk6 := hk5.apart hg6 hg2
    have hG6 := hG5.trans hg6
    clear hg6 hk5 hG5 hb5
    have hlast := tail_final tl2 (bytesOf (UInt32.ofNat (8 * m.length / 4294967296))) (bytesOf (UInt32.ofNat (8 * m.length))) 0 HL2.out (by omega) rfl rfl
    rw [HTL4.out, HTL5.out, ← b8_words] at hlast
    have HE := Lib.hid (show whole init0 (padF m) = compress S3 (splice tl5 60 (bytesOf (UInt32.ofNat (8 * m.length)))) by rw [hlast]; exact hfin.out)
    have hse6 := hash_sees hb6 hl6
    clear hlast
    generalize splice tl5 60 (bytesOf (UInt32.ofNat (8 * m.length))) = tl6 at *
    have HL6 := Lib.hid hl6
    clear hl6
    go_wp2
    go_still_tail 7, (by kernel_rfl)
    change wpList _ _ _ _ _ w6.drew
    go_wp2_with fail
    refine (mix_any w6.heap.size (some ⟨g, 8, none⟩) 64 tl6 g _ _ _ w6.drew hse6 (Nat.le_refl _) (Nat.le_refl _) (by omega) hb6 hk6).mono ?_
    rintro e w7 ⟨rfl, hb7, hg7'⟩
    have hg7 : w6.grownBy w7 (some g) := World.grownBy.trans (b := w6.drew) ⟨rfl, rfl, rfl, Nat.le_refl _, fun _ _ _ => rfl⟩ hg7'
    have hG7 := hG6.trans hg7
    have hend : Ended w7 g (whole init0 (padF m)) := by
      rw [HE.out]
      exact ⟨_, by simp [bys_len, HL6.out], hb7⟩
    clear hg7 hg7' hG6 hk6 hse6 hb6 hb7
    go_wp2
    go_end0
    exact ⟨rfl, hend, hG7⟩
  · have hsl := slice_rest56 g 8 H hlo
    have h56 : (H : Int) ≤ 56 := by omega
    have hfin := Lib.hid (pad_low m H (by rw [HN.out]; exact HH.out) hlo)
    rw [← Hcs.out] at hb
    have hb3' := hb
    have hk3 := hk1
    have hG3 := hG1
    clear hb hk1 hG1 Hcs Hl1
    generalize whole init0 (m ++ [(0x80 : UInt8)]) = S3 at *
    have Hsz3 := Lib.hid (hash_size S3 tail N1 HT.out)
    go_wp2_with (refine wpList_clear_hb rfl (.tmp 37) 31 rfl 5 (.int .u8 0) Tryd.underlying31 Tryd.zeroByte rfl rfl g (8 + H) (56 - H) (64 - H) rfl _ _ hb3' (by rw [Hsz3.out]; omega) ?_)
    intro w4 hb4 hg4
    have hb4' : HB w4 g 121 (hashCells S3 (splice tail H (zeros (56 - H))) N1) := by
      rw [← hash_splice S3 tail (zeros (56 - H)) N1 H HT.out (by rw [zeros_len]; omega), ← bys_zeros]; exact hb4
    have hl4 : (splice tail H (zeros (56 - H))).length = 64 := by rw [length_splice _ _ _ (by rw [HT.out, zeros_len]; omega), HT.out]
    have hk4 := hk3.apart hg4 hg2
    have hG4 := hG3.trans hg4
    clear hg4 hk3 hG3 hb4 hb3'
    generalize htl4 : splice tail H (zeros (56 - H)) = tl4 at *
    have HTL4 := Lib.hid htl4
    have HL4 := Lib.hid hl4
    have Hsz4 := Lib.hid (hash_size S3 tl4 N1 hl4)
    clear hl4 htl4
    go_wp2_with fail
    rw [hi_word _ hm]
    refine (putWord_any g 64 8 8 _ _ (UInt32.ofNat (8 * m.length / 4294967296)) w4 hb4' (by omega) (by rw [Hsz4.out]; omega)).mono ?_
    rintro e w5 ⟨rfl, hb5, hg5⟩
    rw [show (64 : Nat) = 8 + 56 from rfl, hash_splice S3 tl4 _ N1 56 HL4.out (by rw [bytesOf_len]; omega)] at hb5
    have hl5 : (splice tl4 56 (bytesOf (UInt32.ofNat (8 * m.length / 4294967296)))).length = 64 := by rw [length_splice _ _ _ (by rw [HL4.out, bytesOf_len]; omega), HL4.out]
    have hk5 := hk4.apart hg5 hg2
    have hG5 := hG4.trans hg5
    clear hg5 hk4 hG4 hb4'
    generalize htl5 : splice tl4 56 (bytesOf (UInt32.ofNat (8 * m.length / 4294967296))) = tl5 at *
    have HTL5 := Lib.hid htl5
    have HL5 := Lib.hid hl5
    have Hsz5 := Lib.hid (hash_size S3 tl5 N1 hl5)
    clear hl5 htl5
    go_wp2_with fail
    rw [lo_word]
    refine (putWord_any g 68 4 4 _ _ (UInt32.ofNat (8 * m.length)) w5 hb5 (by omega) (by rw [Hsz5.out]; omega)).mono ?_
    rintro e w6 ⟨rfl, hb6, hg6⟩
    rw [show (68 : Nat) = 8 + 60 from rfl, hash_splice S3 tl5 _ N1 60 HL5.out (by rw [bytesOf_len]; omega)] at hb6
    have hl6 : (splice tl5 60 (bytesOf (UInt32.ofNat (8 * m.length)))).length = 64 := by rw [length_splice _ _ _ (by rw [HL5.out, bytesOf_len]; omega), HL5.out]
    have hk6 := hk5.apart hg6 hg2
    have hG6 := hG5.trans hg6
    clear hg6 hk5 hG5 hb5
    have hlast := tail_final tail (bytesOf (UInt32.ofNat (8 * m.length / 4294967296))) (bytesOf (UInt32.ofNat (8 * m.length))) H HT.out (by omega) rfl rfl
    rw [HTL4.out, HTL5.out, ← b8_words] at hlast
    have HE := Lib.hid (show whole init0 (padF m) = compress S3 (splice tl5 60 (bytesOf (UInt32.ofNat (8 * m.length)))) by rw [hlast, HTL.out]; exact hfin.out)
    have hse6 := hash_sees hb6 hl6
    clear hlast
    generalize splice tl5 60 (bytesOf (UInt32.ofNat (8 * m.length))) = tl6 at *
    have HL6 := Lib.hid hl6
    clear hl6
    go_wp2
    go_still_tail 7, (by kernel_rfl)
    change wpList _ _ _ _ _ w6.drew
    go_wp2_with fail
    refine (mix_any w6.heap.size (some ⟨g, 8, none⟩) 64 tl6 g _ _ _ w6.drew hse6 (Nat.le_refl _) (Nat.le_refl _) (by omega) hb6 hk6).mono ?_
    rintro e w7 ⟨rfl, hb7, hg7'⟩
    have hg7 : w6.grownBy w7 (some g) := World.grownBy.trans (b := w6.drew) ⟨rfl, rfl, rfl, Nat.le_refl _, fun _ _ _ => rfl⟩ hg7'
    have hG7 := hG6.trans hg7
    have hend : Ended w7 g (whole init0 (padF m)) := by
      rw [HE.out]
      exact ⟨_, by simp [bys_len, HL6.out], hb7⟩
    clear hg7 hg7' hG6 hk6 hse6 hb6 hb7
    go_wp2
    go_end0
    exact ⟨rfl, hend, hG7⟩
end Go.Proofs.YtapbaonlboefeaaDoor
