/- Words of 32 bits: sha's small functions. -/
import Derived.Test.YthmkdlnocdbhjaaDoorShaN
import Derived.Laws.BitsAllLaws
import Derived.Deep.QuietTactic
import Derived.BigQuiet
namespace Go.Proofs.YthmkdlnocdbhjaaDoor
open Go.RowKit

abbrev u32_ (x : UInt32) : Value := .int .u32 (x.toNat : Int)
def rotr (x : UInt32) (n : Nat) : UInt32 := UInt32.ofNat ((x.toNat / 2 ^ n) ||| (x.toNat * 2 ^ (32 - n) % 4294967296))
def shr (x : UInt32) (n : Nat) : UInt32 := UInt32.ofNat (x.toNat / 2 ^ n)

/- Operations on words, under names of their own: so that the walk leaves them alone. -/
def wx (x y : UInt32) : UInt32 := x ^^^ y
def wn (x y : UInt32) : UInt32 := x &&& y
def wo (x y : UInt32) : UInt32 := x ||| y
def wa (x y : UInt32) : UInt32 := x + y
def wc (x : UInt32) : UInt32 := 0xffffffff ^^^ x
theorem u_xor (x y : UInt32) : bits .xor .u32 (x.toNat : Int) (y.toNat : Int) = ((wx x y).toNat : Int) := by rw [u32_xor_nat _ _ x.toNat_lt y.toNat_lt, wx, UInt32.toNat_xor]
theorem u_and (x y : UInt32) : bits .and .u32 (x.toNat : Int) (y.toNat : Int) = ((wn x y).toNat : Int) := by rw [u32_and_nat _ _ x.toNat_lt y.toNat_lt, wn, UInt32.toNat_and]
theorem u_or (x y : UInt32) : bits .or .u32 (x.toNat : Int) (y.toNat : Int) = ((wo x y).toNat : Int) := by rw [u32_or_nat _ _ x.toNat_lt y.toNat_lt, wo, UInt32.toNat_or]
theorem u_add (x y : UInt32) : IntKind.u32.wrap ((x.toNat : Int) + (y.toNat : Int)) = ((wa x y).toNat : Int) := by rw [IntKind.wrap_u32, wa, UInt32.toNat_add]; omega
theorem u_not (x : UInt32) : bits .xor .u32 4294967295 (x.toNat : Int) = ((wc x).toNat : Int) := u_xor 0xffffffff x
theorem nat_or_lt {a b : Nat} (ha : a < 4294967296) (hb : b < 4294967296) : a ||| b < 4294967296 := Nat.or_lt_two_pow (n := 32) ha hb
theorem rotr_bits (x : UInt32) (n : Nat) (h1 : n < 32) :
    bits .or .u32 ((x.toNat : Int) * 2 ^ (32 - n) % 4294967296) ((x.toNat : Int) / 2 ^ (32 - (32 - n))) = ((rotr x n).toNat : Int) := by
  have e : 32 - (32 - n) = n := by omega
  rw [e]
  have hd : x.toNat / 2 ^ n < 4294967296 := Nat.lt_of_le_of_lt (Nat.div_le_self _ _) x.toNat_lt
  have hm : x.toNat * 2 ^ (32 - n) % 4294967296 < 4294967296 := Nat.mod_lt _ (by omega)
  have e0 : (x.toNat : Int) * 2 ^ (32 - n) = ((x.toNat * 2 ^ (32 - n) : Nat) : Int) := by push_cast; rfl
  have e1 : (x.toNat : Int) * 2 ^ (32 - n) % 4294967296 = ((x.toNat * 2 ^ (32 - n) % 4294967296 : Nat) : Int) := by
    rw [e0]; generalize x.toNat * 2 ^ (32 - n) = q; omega
  have e2 : (x.toNat : Int) / 2 ^ n = ((x.toNat / 2 ^ n : Nat) : Int) := by push_cast; rfl
  rw [e1, e2, u32_or_nat _ _ hm hd, rotr, UInt32.toNat_ofNat', Nat.mod_eq_of_lt (nat_or_lt hd hm), Nat.or_comm]
theorem shr_bits (x : UInt32) (n : Nat) : (x.toNat : Int) / 2 ^ n = ((shr x n).toNat : Int) := by
  have hd : x.toNat / 2 ^ n < 4294967296 := Nat.lt_of_le_of_lt (Nat.div_le_self _ _) x.toNat_lt
  rw [shr, UInt32.toNat_ofNat', Nat.mod_eq_of_lt hd]; push_cast; rfl
theorem u64_and31 (m : Int) : bits .and .u64 m 31 = m % 32 := by
  have h31 : (BitVec.ofInt 64 31).toNat = 2 ^ 5 - 1 := by decide
  have key : (BitVec.ofInt 64 m &&& BitVec.ofInt 64 31).toNat = (m % ((2 ^ 64 : Nat) : Int)).toNat % 2 ^ 5 := by
    rw [BitVec.toNat_and, BitVec.toNat_ofInt, h31, Nat.and_two_pow_sub_one_eq_mod]
  show IntKind.u64.wrap ((BitVec.ofInt 64 m &&& BitVec.ofInt 64 31).toNat : Nat) = m % 32
  rw [key, IntKind.wrap_u64]
  omega
theorem rot_count (n : Nat) (h0 : 0 < n) (h1 : n < 32) : bits .and .u64 (IntKind.u64.wrap (-(n : Int))) 31 = ((32 - n : Nat) : Int) := by
  rw [u64_and31, IntKind.wrap_u64]; omega

set_option maxHeartbeats 800000 in
theorem rotl_any (x : UInt32) (n : Nat) (w : World) (h0 : 0 < n) (h1 : n < 32) :
    Calls Tryd.prog 86 #[u32_ x, .int .i64 (-(n : Int))] w fun e w' => e = .returned (u32_ (rotr x n)) ∧ w = w' := by
  have hx : x.toNat < 4294967296 := x.toNat_lt
  have hk := rot_count n h0 h1
  go_enter Tryd.func86, Tryd.ntmps86
  have hr := Lib.hid (rotr_bits x n h1)
  go_wp2
  go_ret
  exact ⟨congrArg (fun v => Ending.returned (Value.int .u32 v)) hr.out, rfl⟩
theorem rot_any (x : UInt32) (n : Nat) (w : World) (h0 : 0 < n) (h1 : n < 32) :
    Calls Tryd.prog 85 #[u32_ x, .int .i64 (n : Int)] w fun e w' => e = .returned (u32_ (rotr x n)) ∧ w = w' := by
  go_enter Tryd.func85, Tryd.ntmps85
  go_wp2_with (go_at_call 86; refine (rotl_any x n _ h0 h1).mono ?_; rintro e w' ⟨rfl, rfl⟩)
  go_ret
  exact ⟨rfl, rfl⟩

def big0 (x : UInt32) : UInt32 := wx (wx (rotr x 2) (rotr x 13)) (rotr x 22)
def big1 (x : UInt32) : UInt32 := wx (wx (rotr x 6) (rotr x 11)) (rotr x 25)
def little0 (x : UInt32) : UInt32 := wx (wx (rotr x 7) (rotr x 18)) (shr x 3)
def little1 (x : UInt32) : UInt32 := wx (wx (rotr x 17) (rotr x 19)) (shr x 10)
theorem shr3 (x : UInt32) : (x.toNat : Int) / 8 = ((shr x 3).toNat : Int) := shr_bits x 3
theorem shr10 (x : UInt32) : (x.toNat : Int) / 1024 = ((shr x 10).toNat : Int) := shr_bits x 10
attribute [local go_sem] u_xor shr3 shr10

theorem sum0_any (x : UInt32) (w : World) : Calls Tryd.prog 80 #[u32_ x] w fun e w' => e = .returned (u32_ (big0 x)) ∧ w = w' := by
  go_enter Tryd.func80, Tryd.ntmps80
  go_wp2_with fail
  refine (rot_any x 2 _ (by omega) (by omega)).mono ?_
  rintro e w' ⟨rfl, rfl⟩
  go_wp2_with fail
  refine (rot_any x 13 _ (by omega) (by omega)).mono ?_
  rintro e w' ⟨rfl, rfl⟩
  go_wp2_with fail
  refine (rot_any x 22 _ (by omega) (by omega)).mono ?_
  rintro e w' ⟨rfl, rfl⟩
  go_wp2
  go_ret
  exact ⟨rfl, rfl⟩
theorem sum1_any (x : UInt32) (w : World) : Calls Tryd.prog 79 #[u32_ x] w fun e w' => e = .returned (u32_ (big1 x)) ∧ w = w' := by
  go_enter Tryd.func79, Tryd.ntmps79
  go_wp2_with fail
  refine (rot_any x 6 _ (by omega) (by omega)).mono ?_
  rintro e w' ⟨rfl, rfl⟩
  go_wp2_with fail
  refine (rot_any x 11 _ (by omega) (by omega)).mono ?_
  rintro e w' ⟨rfl, rfl⟩
  go_wp2_with fail
  refine (rot_any x 25 _ (by omega) (by omega)).mono ?_
  rintro e w' ⟨rfl, rfl⟩
  go_wp2
  go_ret
  exact ⟨rfl, rfl⟩
theorem small0_any (x : UInt32) (w : World) : Calls Tryd.prog 84 #[u32_ x] w fun e w' => e = .returned (u32_ (little0 x)) ∧ w = w' := by
  go_enter Tryd.func84, Tryd.ntmps84
  go_wp2_with fail
  refine (rot_any x 7 _ (by omega) (by omega)).mono ?_
  rintro e w' ⟨rfl, rfl⟩
  go_wp2_with fail
  refine (rot_any x 18 _ (by omega) (by omega)).mono ?_
  rintro e w' ⟨rfl, rfl⟩
  go_wp2
  go_ret
  exact ⟨rfl, rfl⟩
theorem small1_any (x : UInt32) (w : World) : Calls Tryd.prog 83 #[u32_ x] w fun e w' => e = .returned (u32_ (little1 x)) ∧ w = w' := by
  go_enter Tryd.func83, Tryd.ntmps83
  go_wp2_with fail
  refine (rot_any x 17 _ (by omega) (by omega)).mono ?_
  rintro e w' ⟨rfl, rfl⟩
  go_wp2_with fail
  refine (rot_any x 19 _ (by omega) (by omega)).mono ?_
  rintro e w' ⟨rfl, rfl⟩
  go_wp2
  go_ret
  exact ⟨rfl, rfl⟩
end Go.Proofs.YthmkdlnocdbhjaaDoor
