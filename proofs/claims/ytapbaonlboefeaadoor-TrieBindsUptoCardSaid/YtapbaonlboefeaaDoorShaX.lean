/- Words of 32 bits: sha's small functions. | sha.word, sha.putWord. -/
import Derived.Test.YtapbaonlboefeaaDoorShaJ
import Derived.Laws.BitsAllLaws
import Derived.Deep.QuietTactic
import Derived.BigQuiet
namespace Go.Proofs.YtapbaonlboefeaaDoor
open Go.RowKit

abbrev u32_ (x : UInt32) : Value := .int .u32 (x.toNat : Int)
def rotr (x : UInt32) (n : Nat) : UInt32 := UInt32.ofNat ((x.toNat / 2 ^ n) ||| (x.toNat * 2 ^ (32 - n) % 4294967296))
def shr (x : UInt32) (n : Nat) : UInt32 := UInt32.ofNat (x.toNat / 2 ^ n)

/- Operations on words, under names of their own: so that the walk leaves them alone. -/
def wx (x y : UInt32) : UInt32 := x ^^^ y
def wn (x y : UInt32) : UInt32 := x &&& y
def wo (x y : UInt32) : UInt32 := x ||| y
def wa (x y : UInt32) : UInt32 := x + y
def wc (x : UInt32) : UInt32 := 0xffffffff ^^^ x
theorem u_xor (x y : UInt32) : bits .xor .u32 (x.toNat : Int) (y.toNat : Int) = ((wx x y).toNat : Int) := by rw [u32_xor_nat _ _ x.toNat_lt y.toNat_lt, wx, UInt32.toNat_xor]
theorem u_and (x y : UInt32) : bits .and .u32 (x.toNat : Int) (y.toNat : Int) = ((wn x y).toNat : Int) := by rw [u32_and_nat _ _ x.toNat_lt y.toNat_lt, wn, UInt32.toNat_and]
theorem u_or (x y : UInt32) : bits .or .u32 (x.toNat : Int) (y.toNat : Int) = ((wo x y).toNat : Int) := by rw [u32_or_nat _ _ x.toNat_lt y.toNat_lt, wo, UInt32.toNat_or]
theorem u_add (x y : UInt32) : IntKind.u32.wrap ((x.toNat : Int) + (y.toNat : Int)) = ((wa x y).toNat : Int) := by rw [IntKind.wrap_u32, wa, UInt32.toNat_add]; omega
theorem u_not (x : UInt32) : bits .xor .u32 4294967295 (x.toNat : Int) = ((wc x).toNat : Int) := u_xor 0xffffffff x
theorem nat_or_lt {a b : Nat} (ha : a < 4294967296) (hb : b < 4294967296) : a ||| b < 4294967296 := Nat.or_lt_two_pow (n := 32) ha hb
theorem rotr_bits (x : UInt32) (n : Nat) (h1 : n < 32) :
    bits .or .u32 ((x.toNat : Int) * 2 ^ (32 - n) % 4294967296) ((x.toNat : Int) / 2 ^ (32 - (32 - n))) = ((rotr x n).toNat : Int) := by
  have e : 32 - (32 - n) = n := by omega
  rw [e]
  have hd : x.toNat / 2 ^ n < 4294967296 := Nat.lt_of_le_of_lt (Nat.div_le_self _ _) x.toNat_lt
  have hm : x.toNat * 2 ^ (32 - n) % 4294967296 < 4294967296 := Nat.mod_lt _ (by omega)
  have e0 : (x.toNat : Int) * 2 ^ (32 - n) = ((x.toNat * 2 ^ (32 - n) : Nat) : Int) := by push_cast; rfl
  have e1 : (x.toNat : Int) * 2 ^ (32 - n) % 4294967296 = ((x.toNat * 2 ^ (32 - n) % 4294967296 : Nat) : Int) := by
    rw [e0]; generalize x.toNat * 2 ^ (32 - n) = q; omega
  have e2 : (x.toNat : Int) / 2 ^ n = ((x.toNat / 2 ^ n : Nat) : Int) := by push_cast; rfl
  rw [e1, e2, u32_or_nat _ _ hm hd, rotr, UInt32.toNat_ofNat', Nat.mod_eq_of_lt (nat_or_lt hd hm), Nat.or_comm]
theorem shr_bits (x : UInt32) (n : Nat) : (x.toNat : Int) / 2 ^ n = ((shr x n).toNat : Int) := by
  have hd : x.toNat / 2 ^ n < 4294967296 := Nat.lt_of_le_of_lt (Nat.div_le_self _ _) x.toNat_lt
  rw [shr, UInt32.toNat_ofNat', Nat.mod_eq_of_lt hd]; push_cast; rfl
theorem u64_and31 (m : Int) : bits .and .u64 m 31 = m % 32 := by
  have h31 : (BitVec.ofInt 64 31).toNat = 2 ^ 5 - 1 := by decide
  have key : (BitVec.ofInt 64 m &&& BitVec.ofInt 64 31).toNat = (m % ((2 ^ 64 : Nat) : Int)).toNat % 2 ^ 5 := by
    rw [BitVec.toNat_and, BitVec.toNat_ofInt, h31, Nat.and_two_pow_sub_one_eq_mod]
  show IntKind.u64.wrap ((BitVec.ofInt 64 m &&& BitVec.ofInt 64 31).toNat : Nat) = m % 32
  rw [key, IntKind.wrap_u64]
  omega
theorem rot_count (n : Nat) (h0 : 0 < n) (h1 : n < 32) : bits .and .u64 (IntKind.u64.wrap (-(n : Int))) 31 = ((32 - n : Nat) : Int) := by
  rw [u64_and31, IntKind.wrap_u64]; omega

set_option maxHeartbeats 800000 in
theorem rotl_any (x : UInt32) (n : Nat) (w : World) (h0 : 0 < n) (h1 : n < 32) :
    Calls Tryd.prog 85 #[u32_ x, .int .i64 (-(n : Int))] w fun e w' => e = .returned (u32_ (rotr x n)) ∧ w = w' := by
  have hx : x.toNat < 4294967296 := x.toNat_lt
  have hk := rot_count n h0 h1
  go_enter Tryd.func85, Tryd.ntmps85
  have hr := Lib.hid (rotr_bits x n h1)
  go_wp2
  go_ret
  exact ⟨congrArg (fun v => Ending.returned (Value.int .u32 v)) hr.out, rfl⟩
theorem rot_any (x : UInt32) (n : Nat) (w : World) (h0 : 0 < n) (h1 : n < 32) :
    Calls Tryd.prog 84 #[u32_ x, .int .i64 (n : Int)] w fun e w' => e = .returned (u32_ (rotr x n)) ∧ w = w' := by
  go_enter Tryd.func84, Tryd.ntmps84
  go_wp2_with (go_at_call 85; refine (rotl_any x n _ h0 h1).mono ?_; rintro e w' ⟨rfl, rfl⟩)
  go_ret
  exact ⟨rfl, rfl⟩

def big0 (x : UInt32) : UInt32 := wx (wx (rotr x 2) (rotr x 13)) (rotr x 22)
def big1 (x : UInt32) : UInt32 := wx (wx (rotr x 6) (rotr x 11)) (rotr x 25)
def little0 (x : UInt32) : UInt32 := wx (wx (rotr x 7) (rotr x 18)) (shr x 3)
def little1 (x : UInt32) : UInt32 := wx (wx (rotr x 17) (rotr x 19)) (shr x 10)
theorem shr3 (x : UInt32) : (x.toNat : Int) / 8 = ((shr x 3).toNat : Int) := shr_bits x 3
theorem shr10 (x : UInt32) : (x.toNat : Int) / 1024 = ((shr x 10).toNat : Int) := shr_bits x 10
attribute [local go_sem] u_xor shr3 shr10

theorem sum0_any (x : UInt32) (w : World) : Calls Tryd.prog 79 #[u32_ x] w fun e w' => e = .returned (u32_ (big0 x)) ∧ w = w' := by
  go_enter Tryd.func79, Tryd.ntmps79
  go_wp2_with fail
  refine (rot_any x 2 _ (by omega) (by omega)).mono ?_
  rintro e w' ⟨rfl, rfl⟩
  go_wp2_with fail
  refine (rot_any x 13 _ (by omega) (by omega)).mono ?_
  rintro e w' ⟨rfl, rfl⟩
  go_wp2_with fail
  refine (rot_any x 22 _ (by omega) (by omega)).mono ?_
  rintro e w' ⟨rfl, rfl⟩
  go_wp2
  go_ret
  exact ⟨rfl, rfl⟩
theorem sum1_any (x : UInt32) (w : World) : Calls Tryd.prog 78 #[u32_ x] w fun e w' => e = .returned (u32_ (big1 x)) ∧ w = w' := by
  go_enter Tryd.func78, Tryd.ntmps78
  go_wp2_with fail
  refine (rot_any x 6 _ (by omega) (by omega)).mono ?_
  rintro e w' ⟨rfl, rfl⟩
  go_wp2_with fail
  refine (rot_any x 11 _ (by omega) (by omega)).mono ?_
  rintro e w' ⟨rfl, rfl⟩
  go_wp2_with fail
  refine (rot_any x 25 _ (by omega) (by omega)).mono ?_
  rintro e w' ⟨rfl, rfl⟩
  go_wp2
  go_ret
  exact ⟨rfl, rfl⟩
theorem small0_any (x : UInt32) (w : World) : Calls Tryd.prog 83 #[u32_ x] w fun e w' => e = .returned (u32_ (little0 x)) ∧ w = w' := by
  go_enter Tryd.func83, Tryd.ntmps83
  go_wp2_with fail
  refine (rot_any x 7 _ (by omega) (by omega)).mono ?_
  rintro e w' ⟨rfl, rfl⟩
  go_wp2_with fail
  refine (rot_any x 18 _ (by omega) (by omega)).mono ?_
  rintro e w' ⟨rfl, rfl⟩
  go_wp2
  go_ret
  exact ⟨rfl, rfl⟩
theorem small1_any (x : UInt32) (w : World) : Calls Tryd.prog 82 #[u32_ x] w fun e w' => e = .returned (u32_ (little1 x)) ∧ w = w' := by
  go_enter Tryd.func82, Tryd.ntmps82
  go_wp2_with fail
  refine (rot_any x 17 _ (by omega) (by omega)).mono ?_
  rintro e w' ⟨rfl, rfl⟩
  go_wp2_with fail
  refine (rot_any x 19 _ (by omega) (by omega)).mono ?_
  rintro e w' ⟨rfl, rfl⟩
  go_wp2
  go_ret
  exact ⟨rfl, rfl⟩
end Go.Proofs.YtapbaonlboefeaaDoor
namespace Go.Proofs.YtapbaonlboefeaaDoor
open Go.RowKit

def wb (b : UInt8) : UInt32 := UInt32.ofNat b.toNat
def wl (x : UInt32) (n : Nat) : UInt32 := UInt32.ofNat (x.toNat * 2 ^ n)
theorem wb_wrap (b : UInt8) : IntKind.u32.wrap (b.toNat : Int) = ((wb b).toNat : Int) := by
  have := b.toNat_lt
  rw [IntKind.wrap_u32, wb, UInt32.toNat_ofNat']; omega
theorem wb_bare (b : UInt8) : (b.toNat : Int) = ((wb b).toNat : Int) := by
  have := b.toNat_lt
  rw [wb, UInt32.toNat_ofNat']; omega
theorem wl_wrap (x : UInt32) (n : Nat) (m : Int) (hm : m = 2 ^ n) : IntKind.u32.wrap ((x.toNat : Int) * m) = ((wl x n).toNat : Int) := by
  subst hm
  have e0 : (x.toNat : Int) * 2 ^ n = ((x.toNat * 2 ^ n : Nat) : Int) := by push_cast; rfl
  rw [e0, IntKind.wrap_u32, wl, UInt32.toNat_ofNat']
  generalize x.toNat * 2 ^ n = q
  omega
theorem wl24 (x : UInt32) : IntKind.u32.wrap ((x.toNat : Int) * 16777216) = ((wl x 24).toNat : Int) := wl_wrap x 24 _ rfl
theorem wl16 (x : UInt32) : IntKind.u32.wrap ((x.toNat : Int) * 65536) = ((wl x 16).toNat : Int) := wl_wrap x 16 _ rfl
theorem wl8 (x : UInt32) : IntKind.u32.wrap ((x.toNat : Int) * 256) = ((wl x 8).toNat : Int) := wl_wrap x 8 _ rfl
/-- Four bytes as a word. -/
def word4 (b0 b1 b2 b3 : UInt8) : UInt32 := wo (wo (wo (wl (wb b0) 24) (wl (wb b1) 16)) (wl (wb b2) 8)) (wb b3)
section
attribute [local go_sem] wb_wrap wl24 wl16 wl8 u_or

set_option maxHeartbeats 800000 in
theorem word_any (b0 b1 b2 b3 : UInt8) (ad : Addr) (n c : Nat) (w : World) (hn : 4 ≤ n) (h0 : w.cell? (ad.add 0) = some (by_ b0)) (h1 : w.cell? (ad.add 1) = some (by_ b1)) (h2 : w.cell? (ad.add 2) = some (by_ b2)) (h3 : w.cell? (ad.add 3) = some (by_ b3)) :
    Calls Tryd.prog 81 #[.slice (some ad) n c] w fun e w' => e = .returned (u32_ (word4 b0 b1 b2 b3)) ∧ ∃ d, w' = w.drewN d := by
  have r0 : 0 < n := by omega
  have q1 : (1 : Int) < n := by omega
  have q2 : (2 : Int) < n := by omega
  have q3 : (3 : Int) < n := by omega
  rw [add_zero] at h0
  rw [add_pos _ 1 (by omega)] at h1
  rw [add_pos _ 2 (by omega)] at h2
  rw [add_pos _ 3 (by omega)] at h3
  go_enter Tryd.func81, Tryd.ntmps81
  go_wp2
  go_quiet (fail)
  go_wp2
  go_ret
  exact ⟨rfl, _, rfl⟩
end

/-- The word at byte i. -/
def wordAt (l : List UInt8) (i : Nat) : UInt32 := word4 (l.getD i 0) (l.getD (i + 1) 0) (l.getD (i + 2) 0) (l.getD (i + 3) 0)
theorem wordAt_drop (l : List UInt8) (k : Nat) : wordAt (l.drop k) 0 = wordAt l k := by
  simp only [wordAt, List.getD_eq_getElem?_getD, List.getElem?_drop, Nat.add_zero, Nat.zero_add]
theorem word_see (B : Nat) (A : Option Addr) (n c : Nat) (l : List UInt8) (w : World) (hs : Sees w B 1 A n (bys l)) (hn : 4 ≤ n) :
    Calls Tryd.prog 81 #[.slice A n c] w fun e w' => e = .returned (u32_ (wordAt l 0)) ∧ ∃ d, w' = w.drewN d := by
  obtain ⟨ad, rfl, hb, hx⟩ := hs.some_ (by omega)
  have hl : l.length = n := by have h := hs.len; rw [bys_len] at h; omega
  have get : ∀ i, i < 4 → w.cell? (ad.add i) = some (by_ (l.getD i 0)) := fun i hi => hx i _ (by
    rw [bys_get, List.getElem?_eq_getElem (by omega), List.getD_eq_getElem?_getD, List.getElem?_eq_getElem (by omega)]; rfl)
  exact word_any _ _ _ _ ad n c w hn (get 0 (by omega)) (get 1 (by omega)) (get 2 (by omega)) (get 3 (by omega))
end Go.Proofs.YtapbaonlboefeaaDoor
