/- math/bits.Len, merkle.halves. -/
import Derived.Test.YthmkdlnocdbhjaaDoorMkR
import Derived.Lib.BitFns
import Derived.Lib.Walk
import Derived.Lib.Strings
import Derived.Lib.Small
import Derived.Lib.Slices
namespace Go.Proofs.YthmkdlnocdbhjaaDoor
open Go.RowKit

theorem tab_size : (Lib.len8tab.size : Int) = 256 := by
  have : Lib.len8tab.size = 256 := by decide +kernel
  omega
theorem tab_all : ∀ j : Fin 256, (Lib.len8tab[j.val]?).map (·.toNat) = some (Lib.bitLen j.val) := by decide +kernel
theorem tab_get (y : Int) (h : y.toNat < Lib.len8tab.size) (hy : y < 256) : ((Lib.len8tab[y.toNat]'h).toNat : Int) = (Lib.bitLen y.toNat : Int) := by
  have e := tab_all ⟨y.toNat, by omega⟩
  simp only [getElem?_pos Lib.len8tab y.toNat h, Option.map_some, Option.some.injEq] at e
  omega
theorem wrap_small (a b : Nat) (h : b ≤ 8) (ha : a ≤ 56) : wrap64 ((a : Int) + wrap64 (b : Int)) = ((a + b : Nat) : Int) := by
  simp only [wrap64]
  omega
theorem wrap_small0 (b : Nat) (h : b ≤ 8) : wrap64 (wrap64 (b : Int)) = (b : Int) := by
  simp only [wrap64]
  omega
theorem bit_eq (x y : Int) (s d : Nat) (hx : x < 18446744073709551616) (hd : d = 2 ^ s) (he : y.toNat = x.toNat / d) (hs : d ≤ x.toNat) : Lib.bitLen x.toNat = s + Lib.bitLen y.toNat := by
  rw [he, hd]
  exact Lib.bitLen_shift s x.toNat (by rw [← hd]; exact hs) (by have : x.toNat < 18446744073709551616 := by omega
                                                                exact this)
theorem len_way (x y : Int) (s d : Nat) (hy0 : 0 ≤ y) (hy : y < 256) (hx : x < 18446744073709551616) (hd : d = 2 ^ s) (he : y.toNat = x.toNat / d) (hs : d ≤ x.toNat) (h56 : s ≤ 56) (h : y.toNat < Lib.len8tab.size) :
    wrap64 ((s : Int) + wrap64 ((Lib.len8tab[y.toNat]'h).toNat : Int)) = (Lib.bitLen x.toNat : Int) := by
  have l := Lib.bitLen_le8' y hy0 (by omega)
  rw [tab_get y h hy, bit_eq x y s d hx hd he hs]
  exact wrap_small s _ l h56
theorem len_way0 (x : Int) (hx0 : 0 ≤ x) (hx : x < 256) (h : x.toNat < Lib.len8tab.size) : wrap64 (wrap64 ((Lib.len8tab[x.toNat]'h).toNat : Int)) = (Lib.bitLen x.toNat : Int) := by
  have l := Lib.bitLen_le8' x hx0 (by omega)
  rw [tab_get x h hx]
  exact wrap_small0 _ l
set_option maxRecDepth 100000 in
set_option maxHeartbeats 4000000 in
theorem len64_any (x : Int) (w : World) (h0 : 0 ≤ x) (h1 : x ≤ 18446744073709551615) :
    Calls Tryd.prog 77 #[.int .u64 x] w fun e w' => e = .returned (.int .i64 (Lib.bitLen x.toNat)) ∧ w' = w := by
  have hs := tab_size
  have hm1 : ∀ y : Int, y % 256 < 256 := fun y => by omega
  have hm0 : ∀ y : Int, 0 ≤ y % 256 := fun y => by omega
  go_enter Tryd.func77, Tryd.ntmps77
  go_wp2
  all_goals (go_ret; refine ⟨congrArg Ending.returned (congrArg (Value.int IntKind.i64) ?_), rfl⟩)
  · exact len_way x _ 56 72057594037927936 (by omega) (by omega) (by omega) (by decide) (by omega) (by omega) (by decide) _
  · exact len_way x _ 48 281474976710656 (by omega) (by omega) (by omega) (by decide) (by omega) (by omega) (by decide) _
  · exact len_way x _ 40 1099511627776 (by omega) (by omega) (by omega) (by decide) (by omega) (by omega) (by decide) _
  · exact len_way x _ 32 4294967296 (by omega) (by omega) (by omega) (by decide) (by omega) (by omega) (by decide) _
  · exact len_way x _ 24 16777216 (by omega) (by omega) (by omega) (by decide) (by omega) (by omega) (by decide) _
  · exact len_way x _ 16 65536 (by omega) (by omega) (by omega) (by decide) (by omega) (by omega) (by decide) _
  · exact len_way x _ 8 256 (by omega) (by omega) (by omega) (by decide) (by omega) (by omega) (by decide) _
  · exact len_way0 x (by omega) (by omega) _
theorem len_any (x : Int) (w : World) (h0 : 0 ≤ x) (h1 : x ≤ 18446744073709551615) :
    Calls Tryd.prog 71 #[.int .u64 x] w fun e w' => e = .returned (.int .i64 (Lib.bitLen x.toNat)) ∧ w' = w := by
  go_enter Tryd.func71, Tryd.ntmps71
  go_wp2_with (go_at_call 77; refine (len64_any _ _ (by omega) (by omega)).mono ?_; rintro e w' ⟨rfl, rfl⟩)
  go_ret
  exact ⟨rfl, rfl⟩
end Go.Proofs.YthmkdlnocdbhjaaDoor
