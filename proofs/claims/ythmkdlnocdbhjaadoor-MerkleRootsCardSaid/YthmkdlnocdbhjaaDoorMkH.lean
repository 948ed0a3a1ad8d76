/- merkle.halves. -/
import Derived.Test.YthmkdlnocdbhjaaDoorMkL
import Derived.Lib.ItoaNum
namespace Go.Proofs.YthmkdlnocdbhjaaDoor
open Go.RowKit

/-- The greatest power of 2 below m. -/
def half (m : Nat) : Nat := 2 ^ (Lib.bitLen (m - 1) - 1)
theorem half_spec (m : Nat) (h : 2 ≤ m) (hm : m < 9223372036854775808) : 1 ≤ half m ∧ half m < m ∧ m ≤ 2 * half m ∧ 1 ≤ Lib.bitLen (m - 1) ∧ Lib.bitLen (m - 1) ≤ 63 := by
  have hb := Lib.bitLenAux_bounds 64 (m - 1) (by omega) (by omega)
  have h63 := Lib.bitLen_le (m - 1) 63 (by omega) (by omega)
  have e : Lib.bitLen (m - 1) = Lib.bitLenAux 64 (m - 1) := rfl
  rw [← e] at hb
  unfold half
  generalize Lib.bitLen (m - 1) = L at *
  obtain ⟨h1, h2, h3⟩ := hb
  obtain ⟨j, rfl⟩ : ∃ j, L = j + 1 := ⟨L - 1, by omega⟩
  have hp : 1 ≤ 2 ^ j := Nat.one_le_two_pow
  rw [Nat.pow_succ] at h3
  simp only [Nat.add_sub_cancel] at h2 ⊢
  omega

set_option maxRecDepth 20000 in
set_option maxHeartbeats 1600000 in
theorem halves_any (f t : Nat) (w : World) (h : f + 2 ≤ t) (ht : t < 9223372036854775808) :
    Calls Tryd.prog 58 #[.agg #[.int .i64 (f : Int), .int .i64 (t : Int)]] w fun e w' => e = .returned (.tuple #[.agg #[.int .i64 (f : Int), .int .i64 ((f + half (t - f) : Nat) : Int)], .agg #[.int .i64 ((f + half (t - f) : Nat) : Int), .int .i64 (t : Int)]]) ∧ Below w.heap.size w w' := by
  obtain ⟨h1, h2, h3, h4, h5⟩ := half_spec (t - f) (by omega) (by omega)
  have hl : (((t : Int) - (f : Int)) - 1).toNat = t - f - 1 := by omega
  have hcall : ∀ W : World, _ := fun W : World => len_any ((t : Int) - f - 1) W (by omega) (by omega)
  rw [hl] at hcall
  have hcall := Lib.hid hcall
  have hk : half (t - f) = 2 ^ (Lib.bitLen (t - f - 1) - 1) := rfl
  have HK := Lib.hid hk
  clear hl
  generalize Lib.bitLen (t - f - 1) = L at *
  clear hk
  generalize hKK : half (t - f) = k at *
  clear hKK
  have b1 : 2 ≤ (t : Int) - f := by omega
  have b2 : (t : Int) ≤ 9223372036854775807 := by omega
  have b3 : 0 ≤ (f : Int) := by omega
  go_enter Tryd.func58, Tryd.ntmps58
  go_wp2_with fail
  refine (hcall.out _).mono ?_
  rintro e w1 ⟨rfl, rfl⟩
  have b4 : 1 ≤ (L : Int) := by omega
  have b5 : (L : Int) ≤ 63 := by omega
  have hkw : wrap64 (2 ^ (L - 1)) = (k : Int) := by
    rw [HK.out] at h2 ⊢
    have e : (2 : Int) ^ (L - 1) = ((2 ^ (L - 1) : Nat) : Int) := by push_cast; rfl
    rw [e]
    generalize 2 ^ (L - 1) = q at *
    simp only [wrap64]
    omega
  go_wp2_with fail
  rw [hkw]
  have b6 : (f : Int) + k ≤ 9223372036854775807 := by omega
  have b7 : 0 ≤ (f : Int) + k := by omega
  have b8 : 0 ≤ (k : Int) := by omega
  have hcast : ((f + k : Nat) : Int) = (f : Int) + k := by omega
  have HC := Lib.hid hcast
  clear hkw hcast hcall HK h1 h2 h3 h4 h5 b4 b5
  go_region
  go_wp2
  rw [HC.out]
  refine bodyPost_ret (v := .tuple #[.agg #[.int .i64 (f : Int), .int .i64 ((f : Int) + k)], .agg #[.int .i64 ((f : Int) + k), .int .i64 (t : Int)]]) (by simp [results, Tryd.results58, go_sem]) rfl ⟨rfl, ?_⟩
  exact ((((Below.refl _ _).alloc (Nat.le_refl _) _).alloc (by simp) _).alloc (by simp; omega) _).drew
end Go.Proofs.YthmkdlnocdbhjaaDoor
