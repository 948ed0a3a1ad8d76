/- The document's own SHA-256, its numbers: wapentakeref01.mul. | The document's own SHA-256, its numbers: wapentakeref01.below. | The document's own SHA-256, its numbers: wapentakeref01.point. | The document's own SHA-256, its numbers: wapentakeref01.primes. | The document's own SHA-256: wapentakeref01.Numbers. | The document's own SHA-256: wapentakeref01.rot. -/
import Derived.Test.YtapbaonlboefeaaDoorShaJ
import Derived.Laws.BitsAllLaws
import Derived.Outline
import Derived.Test.YtapbaonlboefeaaDoorShaX
import Derived.Test.YtapbaonlboefeaaDoorShaM
import Derived.IntWalk
namespace Go.Proofs.YtapbaonlboefeaaDoor
open Go.RowKit

/- Operations on words of 64 bits, under names of their own. -/
def qm (x y : UInt64) : UInt64 := x * y
def qa (x y : UInt64) : UInt64 := x + y
def ql (x : UInt64) : UInt64 := UInt64.ofNat (x.toNat % 4294967296)
def qh (x : UInt64) : UInt64 := UInt64.ofNat (x.toNat / 4294967296)
def qs (x : UInt64) : UInt64 := UInt64.ofNat (x.toNat * 4294967296)
theorem q_mul (x y : UInt64) : IntKind.u64.wrap ((x.toNat : Int) * (y.toNat : Int)) = ((qm x y).toNat : Int) := by
  rw [IntKind.wrap_u64, qm, UInt64.toNat_mul]
  have e : (x.toNat : Int) * (y.toNat : Int) = ((x.toNat * y.toNat : Nat) : Int) := by push_cast; rfl
  rw [e]; generalize x.toNat * y.toNat = q; omega
theorem q_add (x y : UInt64) : IntKind.u64.wrap ((x.toNat : Int) + (y.toNat : Int)) = ((qa x y).toNat : Int) := by rw [IntKind.wrap_u64, qa, UInt64.toNat_add]; omega
theorem q_low (x : UInt64) : (x.toNat : Int) % 4294967296 = ((ql x).toNat : Int) := by
  rw [ql, UInt64.toNat_ofNat']; omega
theorem q_and (x : UInt64) : bits .and .u64 (x.toNat : Int) 4294967295 = ((ql x).toNat : Int) := by
  have h := u64_and_nat x.toNat 4294967295 x.toNat_lt (by omega)
  have e : x.toNat &&& 4294967295 = x.toNat % 4294967296 := Nat.and_two_pow_sub_one_eq_mod x.toNat 32
  rw [e] at h
  rw [ql, UInt64.toNat_ofNat']
  have h2 : bits .and .u64 (x.toNat : Int) 4294967295 = ((x.toNat % 4294967296 : Nat) : Int) := h
  rw [h2]; omega
theorem q_high (x : UInt64) : (x.toNat : Int) / 4294967296 = ((qh x).toNat : Int) := by
  have := x.toNat_lt
  rw [qh, UInt64.toNat_ofNat']; omega
theorem q_shl (x : UInt64) : IntKind.u64.wrap ((x.toNat : Int) * 4294967296) = ((qs x).toNat : Int) := by
  rw [IntKind.wrap_u64, qs, UInt64.toNat_ofNat']; omega
def mid_ (x y : UInt64) : UInt64 := qa (qa (qh (qm (ql x) (ql y))) (ql (qm (qh x) (ql y)))) (ql (qm (ql x) (qh y)))
def mulHi (x y : UInt64) : UInt64 := qa (qa (qa (qm (qh x) (qh y)) (qh (qm (qh x) (ql y)))) (qh (qm (ql x) (qh y)))) (qh (mid_ x y))
def mulLo (x y : UInt64) : UInt64 := qa (ql (qm (ql x) (ql y))) (qs (mid_ x y))
theorem ql_nat (x : UInt64) : (ql x).toNat = x.toNat % 4294967296 := by rw [ql, UInt64.toNat_ofNat']; omega
theorem qh_nat (x : UInt64) : (qh x).toNat = x.toNat / 4294967296 := by have := x.toNat_lt; rw [qh, UInt64.toNat_ofNat']; omega
theorem qa_nat (x y : UInt64) : (qa x y).toNat = (x.toNat + y.toNat) % 18446744073709551616 := by rw [qa, UInt64.toNat_add]
theorem qs_nat (x : UInt64) : (qs x).toNat = x.toNat * 4294967296 % 18446744073709551616 := by rw [qs, UInt64.toNat_ofNat']
theorem prod_le (a b : Nat) (ha : a < 4294967296) (hb : b < 4294967296) : a * b ≤ 18446744065119617025 :=
  Nat.le_trans (Nat.mul_le_mul (by omega : a ≤ 4294967295) (by omega : b ≤ 4294967295)) (by decide)
theorem qm_nat (x y : UInt64) (hx : x.toNat < 4294967296) (hy : y.toNat < 4294967296) : (qm x y).toNat = x.toNat * y.toNat := by
  have := prod_le _ _ hx hy
  rw [qm, UInt64.toNat_mul, Nat.mod_eq_of_lt (by omega)]
theorem mul_parts (a1 a0 b1 b0 : Nat) : (a1 * 4294967296 + a0) * (b1 * 4294967296 + b0) = a1 * b1 * 18446744073709551616 + (a1 * b0 + a0 * b1) * 4294967296 + a0 * b0 := by
  have e : (18446744073709551616 : Nat) = 4294967296 * 4294967296 := by decide
  rw [e, Nat.add_mul, Nat.mul_add, Nat.mul_add, Nat.add_mul]
  simp only [Nat.mul_comm, Nat.mul_left_comm, Nat.mul_assoc, Nat.add_assoc, Nat.add_comm]
theorem mul_exact (x y : UInt64) : (mulHi x y).toNat * 18446744073709551616 + (mulLo x y).toNat = x.toNat * y.toNat := by
  have lx : (ql x).toNat < 4294967296 := by rw [ql_nat]; omega
  have ly : (ql y).toNat < 4294967296 := by rw [ql_nat]; omega
  have hx : (qh x).toNat < 4294967296 := by have := x.toNat_lt; rw [qh_nat]; omega
  have hy : (qh y).toNat < 4294967296 := by have := y.toNat_lt; rw [qh_nat]; omega
  have ex : x.toNat = (qh x).toNat * 4294967296 + (ql x).toNat := by rw [ql_nat, qh_nat]; omega
  have ey : y.toNat = (qh y).toNat * 4294967296 + (ql y).toNat := by rw [ql_nat, qh_nat]; omega
  have b00 := prod_le _ _ lx ly
  have b10 := prod_le _ _ hx ly
  have b01 := prod_le _ _ lx hy
  have b11 := prod_le _ _ hx hy
  have hxy : x.toNat * y.toNat = (qh x).toNat * (qh y).toNat * 18446744073709551616 + ((qh x).toNat * (ql y).toNat + (ql x).toNat * (qh y).toNat) * 4294967296 + (ql x).toNat * (ql y).toNat := by
    rw [← mul_parts, ← ex, ← ey]
  rw [hxy]
  have hm : (mid_ x y).toNat = (ql x).toNat * (ql y).toNat / 4294967296 + (qh x).toNat * (ql y).toNat % 4294967296 + (ql x).toNat * (qh y).toNat % 4294967296 := by
    rw [mid_, qa_nat, qa_nat, qh_nat, ql_nat, ql_nat, qm_nat _ _ lx ly, qm_nat _ _ hx ly, qm_nat _ _ lx hy]
    omega
  have hlo : (mulLo x y).toNat = ((ql x).toNat * (ql y).toNat % 4294967296 + (mid_ x y).toNat * 4294967296 % 18446744073709551616) % 18446744073709551616 := by
    rw [mulLo, qa_nat, ql_nat, qs_nat, qm_nat _ _ lx ly]
  have hhi : (mulHi x y).toNat = (((((qh x).toNat * (qh y).toNat + (qh x).toNat * (ql y).toNat / 4294967296) % 18446744073709551616) + (ql x).toNat * (qh y).toNat / 4294967296) % 18446744073709551616 + (mid_ x y).toNat / 4294967296) % 18446744073709551616 := by
    rw [mulHi, qa_nat, qa_nat, qa_nat, qh_nat (qm _ _), qh_nat (qm _ _), qh_nat (mid_ _ _), qm_nat _ _ hx hy, qm_nat _ _ hx ly, qm_nat _ _ lx hy]
  rw [hlo, hhi, hm]
  generalize (qh x).toNat * (qh y).toNat = p11 at *
  generalize (qh x).toNat * (ql y).toNat = p10 at *
  generalize (ql x).toNat * (qh y).toNat = p01 at *
  generalize (ql x).toNat * (ql y).toNat = p00 at *
  clear ex ey hxy hm hlo hhi lx ly hx hy
  have d0 := Nat.div_add_mod p00 4294967296
  have d1 := Nat.div_add_mod p10 4294967296
  have d2 := Nat.div_add_mod p01 4294967296
  have r0 := Nat.mod_lt p00 (by decide : 0 < 4294967296)
  have r1 := Nat.mod_lt p10 (by decide : 0 < 4294967296)
  have r2 := Nat.mod_lt p01 (by decide : 0 < 4294967296)
  generalize p00 / 4294967296 = h0 at *
  generalize p00 % 4294967296 = l0 at *
  generalize p10 / 4294967296 = h1 at *
  generalize p10 % 4294967296 = l1 at *
  generalize p01 / 4294967296 = h2 at *
  generalize p01 % 4294967296 = l2 at *
  omega
abbrev u64_ (x : UInt64) : Value := .int .u64 (x.toNat : Int)
section
attribute [local go_sem] q_mul q_add q_low q_and q_high q_shl
set_option maxHeartbeats 1600000 in
theorem rmul_any (x y : UInt64) (w : World) :
    Calls Tryd.prog 80 #[u64_ x, u64_ y] w fun e w' => e = .returned (.tuple #[u64_ (mulHi x y), u64_ (mulLo x y)]) ∧ w' = w := by
  go_enter Tryd.func80, Tryd.ntmps80
  go_wp2
  go_ret2
  exact ⟨rfl, rfl⟩
end
def less_ (hi lo p : UInt64) : Bool := decide (hi.toNat < p.toNat) || (decide (hi.toNat = p.toNat) && decide (lo.toNat = 0))
theorem less_nat (hi lo p : UInt64) (n : Nat) (h : hi.toNat * 18446744073709551616 + lo.toNat = n) : less_ hi lo p = decide (n ≤ p.toNat * 18446744073709551616) := by
  have := lo.toNat_lt
  rw [less_, Bool.eq_iff_iff]
  simp only [Bool.or_eq_true, Bool.and_eq_true, decide_eq_true_eq]
  omega
def below2 (x p : UInt64) : Bool := less_ (mulHi x x) (mulLo x x) p
def below3 (x p : UInt64) : Bool := less_ (qa (qm (mulHi x x) x) (mulHi (mulLo x x) x)) (mulLo (mulLo x x) x) (qs p)
theorem below2_nat (x p : UInt64) : below2 x p = decide (x.toNat ^ 2 ≤ p.toNat * 18446744073709551616) := by
  rw [below2, less_nat _ _ _ _ (mul_exact x x), Nat.pow_two]
theorem below3_nat (x p : UInt64) (hx : x.toNat < 68719476736) (hp : p.toNat < 4294967296) : below3 x p = decide (x.toNat ^ 3 ≤ p.toNat * 4294967296 * 18446744073709551616) := by
  have e1 := mul_exact x x
  have e2 := mul_exact (mulLo x x) x
  have hxx : x.toNat * x.toNat ≤ 4722366482732206260225 := Nat.le_trans (Nat.mul_le_mul (by omega : x.toNat ≤ 68719476735) (by omega : x.toNat ≤ 68719476735)) (by decide)
  have hh : (mulHi x x).toNat ≤ 255 := by omega
  have hq : (mulHi x x).toNat * x.toNat ≤ 17523466567425 := Nat.le_trans (Nat.mul_le_mul hh (by omega : x.toNat ≤ 68719476735)) (by decide)
  have hl := (mulLo x x).toNat_lt
  have hl2 : (mulLo x x).toNat * x.toNat ≤ 1267650600209782874187129520225 := Nat.le_trans (Nat.mul_le_mul (by omega : (mulLo x x).toNat ≤ 18446744073709551615) (by omega : x.toNat ≤ 68719476735)) (by decide)
  have h2 : (mulHi (mulLo x x) x).toNat ≤ 68719476735 := by omega
  have hqm : (qm (mulHi x x) x).toNat = (mulHi x x).toNat * x.toNat := by rw [qm, UInt64.toNat_mul, Nat.mod_eq_of_lt (by omega)]
  have hcube : x.toNat ^ 3 = (mulHi x x).toNat * x.toNat * 18446744073709551616 + (mulLo x x).toNat * x.toNat := by
    rw [Nat.pow_succ, Nat.pow_two, ← e1, Nat.add_mul, Nat.mul_right_comm]
  rw [below3, less_nat _ _ _ (x.toNat ^ 3) ?_, qs_nat, Nat.mod_eq_of_lt (by omega)]
  rw [qa_nat, hqm, Nat.mod_eq_of_lt (by omega), hcube, ← e2, Nat.add_mul]
  exact Nat.add_assoc _ _ _
/-- The greatest number of 36 bits for which f holds, k bits of it looked at, from the highest. -/
def rootTo (f : Nat → Bool) : Nat → Nat
  | 0 => 0
  | k + 1 => if f (rootTo f k + 2 ^ (35 - k)) = true then rootTo f k + 2 ^ (35 - k) else rootTo f k
theorem rootTo_val (f : Nat → Bool) (r : Nat) (hr : r < 2 ^ 36) (h1 : ∀ m, m ≤ r → f m = true) (h2 : ∀ m, r < m → m < 2 ^ 36 → f m = false) : ∀ k, k ≤ 36 → rootTo f k = r / 2 ^ (36 - k) * 2 ^ (36 - k) := by
  intro k
  induction k with
  | zero => intro _; rw [rootTo, Nat.div_eq_of_lt hr, Nat.zero_mul]
  | succ k ih =>
    intro hk
    have ih := ih (by omega)
    rw [rootTo, ih]
    have e : 36 - k = (35 - k) + 1 := by omega
    have e' : 36 - (k + 1) = 35 - k := by omega
    rw [e, e', Nat.pow_succ]
    have hb : 0 < 2 ^ (35 - k) := Nat.pow_pos (by omega)
    have hle : 2 ^ (35 - k) * 2 * 2 ^ k = 2 ^ 36 := by rw [← Nat.pow_succ, ← Nat.pow_add, show 35 - k + 1 + k = 36 from by omega]
    generalize 2 ^ (35 - k) = b at *
    have hq : r / (b * 2) = r / b / 2 := by rw [Nat.div_div_eq_div_mul]
    rw [hq]
    have hd := Nat.div_add_mod r b
    have hm := Nat.mod_lt r hb
    generalize hqq : r / b = q at *
    generalize r % b = s at *
    have hc : q / 2 * (b * 2) = b * (q / 2 * 2) := by rw [Nat.mul_comm b 2, ← Nat.mul_assoc, Nat.mul_comm]
    rw [hc]
    rcases Nat.mod_two_eq_zero_or_one q with h0 | h0
    · have hq2 : q / 2 * 2 = q := by omega
      rw [hq2, h2 _ (by omega) (by
        have hlt : q < 2 ^ k * 2 := by
          rcases Nat.lt_or_ge q (2 ^ k * 2) with h | h
          · exact h
          · have := Nat.mul_le_mul_left b h
            rw [show b * (2 ^ k * 2) = b * 2 * 2 ^ k from by rw [Nat.mul_comm (2 ^ k), Nat.mul_assoc], hle] at this
            omega
        have h3 : b * (q + 1) ≤ b * (2 ^ k * 2 - 1) := Nat.mul_le_mul_left b (by omega)
        have h4 : b * (2 ^ k * 2) = 2 ^ 36 := by rw [show b * (2 ^ k * 2) = b * 2 * 2 ^ k from by rw [Nat.mul_comm (2 ^ k), Nat.mul_assoc], hle]
        rw [Nat.mul_sub, Nat.mul_add] at h3
        omega)]
      simp [Nat.mul_comm]
    · have hq2 : q / 2 * 2 = q - 1 := by omega
      have e3 : b * (q - 1) + b = b * q := by rw [Nat.mul_sub, Nat.mul_one]; have : b * 1 ≤ b * q := Nat.mul_le_mul_left b (by omega); omega
      rw [hq2, e3, if_pos (h1 _ (by omega)), Nat.mul_comm]
theorem rootTo_pow (n c r : Nat) (hr : r < 2 ^ 36) (h1 : r ^ n ≤ c) (h2 : c < (r + 1) ^ n) (f : Nat → Bool) (hf : ∀ m, m < 2 ^ 36 → f m = decide (m ^ n ≤ c)) : rootTo f 36 = r := by
  rw [rootTo_val f r hr (fun m hm => ?_) (fun m hm hl => ?_) 36 (by omega)]
  · simp
  · rw [hf m (by omega)]; exact decide_eq_true (Nat.le_trans (Nat.pow_le_pow_left hm n) h1)
  · rw [hf m hl]; exact decide_eq_false (by have := Nat.pow_le_pow_left (show r + 1 ≤ m by omega) n; omega)
theorem rootTo_le (f : Nat → Bool) : ∀ k, k ≤ 36 → rootTo f k + 2 ^ (36 - k) ≤ 2 ^ 36 := by
  intro k
  induction k with
  | zero => intro _; simp [rootTo]
  | succ k ih =>
    intro hk
    have ih := ih (by omega)
    have e : 36 - k = (35 - k) + 1 := by omega
    rw [e, Nat.pow_succ] at ih
    rw [rootTo, show 36 - (k + 1) = 35 - k from by omega]
    split <;> omega
end Go.Proofs.YtapbaonlboefeaaDoor
namespace Go.Proofs.YtapbaonlboefeaaDoor
open Go.RowKit

section
attribute [local go_sem] q_mul q_add q_low q_and q_high q_shl
set_option maxHeartbeats 1600000 in
theorem below2_any (x p : UInt64) (w : World) :
    Calls Tryd.prog 74 #[u64_ x, u64_ p, .int .i64 2] w fun e w' => e = .returned (.bool (below2 x p)) ∧ w' = w := by
  have hd : below2 x p = less_ (mulHi x x) (mulLo x x) p := rfl
  have HD := Lib.hid hd
  clear hd
  go_enter Tryd.func74, Tryd.ntmps74
  go_wp2_with (go_at_call 80; refine (rmul_any _ _ _).mono ?_; rintro e w' ⟨rfl, rfl⟩)
  all_goals (go_ret; refine ⟨congrArg (fun b => Ending.returned (Value.bool b)) ?_, rfl⟩; rw [HD.out, less_, Bool.eq_iff_iff]; simp; omega)
theorem rmul_at (x y h l : UInt64) (hh : Hid (mulHi x y = h)) (hl : Hid (mulLo x y = l)) (w : World) :
    Calls Tryd.prog 80 #[u64_ x, u64_ y] w fun e w' => e = .returned (.tuple #[u64_ h, u64_ l]) ∧ w' = w := by
  have h1 := rmul_any x y w
  rw [hh.out, hl.out] at h1
  exact h1
set_option maxHeartbeats 1600000 in
theorem below3_at (x p h1 l1 h2 l2 hi p3 : UInt64) (e1 : Hid (mulHi x x = h1)) (e2 : Hid (mulLo x x = l1)) (e3 : Hid (mulHi l1 x = h2)) (e4 : Hid (mulLo l1 x = l2)) (e5 : Hid (qa (qm h1 x) h2 = hi)) (e6 : Hid (qs p = p3)) (w : World) :
    Calls Tryd.prog 74 #[u64_ x, u64_ p, .int .i64 3] w fun e w' => e = .returned (.bool (less_ hi l2 p3)) ∧ w' = w := by
  go_enter Tryd.func74, Tryd.ntmps74
  go_wp2_with fail
  refine (rmul_at x x h1 l1 e1 e2 _).mono ?_
  rintro e w' ⟨rfl, rfl⟩
  have r5 := e5.out
  have r6 := e6.out
  go_wp2_with (go_at_call 80; refine (rmul_at l1 x h2 l2 e3 e4 _).mono ?_; rintro e w' ⟨rfl, rfl⟩)
  all_goals (clear r5 r6; go_ret; refine ⟨congrArg (fun b => Ending.returned (Value.bool b)) ?_, rfl⟩; rw [less_, Bool.eq_iff_iff]; simp; omega)
end
theorem below3_any (x p : UInt64) (w : World) :
    Calls Tryd.prog 74 #[u64_ x, u64_ p, .int .i64 3] w fun e w' => e = .returned (.bool (below3 x p)) ∧ w' = w :=
  below3_at x p _ _ _ _ _ _ (Lib.hid (Eq.refl _)) (Lib.hid (Eq.refl _)) (Lib.hid (Eq.refl _)) (Lib.hid (Eq.refl _)) (Lib.hid (Eq.refl _)) (Lib.hid (Eq.refl _)) w
/-- Is m to the power 2, or 3, at most so many times p? -/
def fits2 (p m : Nat) : Bool := decide (m ^ 2 ≤ p * 18446744073709551616)
def fits3 (p m : Nat) : Bool := decide (m ^ 3 ≤ p * 4294967296 * 18446744073709551616)
theorem u64_of (m : Nat) (h : m < 18446744073709551616) : (UInt64.ofNat m).toNat = m := by rw [UInt64.toNat_ofNat', Nat.mod_eq_of_lt h]
theorem below2_nums (p m : Nat) (hp : p < 4294967296) (hm : m < 68719476736) (w : World) :
    Calls Tryd.prog 74 #[.int .u64 (m : Int), .int .u64 (p : Int), .int .i64 2] w fun e w' => e = .returned (.bool (fits2 p m)) ∧ w' = w := by
  have h := below2_any (UInt64.ofNat m) (UInt64.ofNat p) w
  rw [below2_nat] at h
  simp only [u64_, u64_of m (by omega), u64_of p (by omega)] at h
  exact h
theorem below3_nums (p m : Nat) (hp : p < 4294967296) (hm : m < 68719476736) (w : World) :
    Calls Tryd.prog 74 #[.int .u64 (m : Int), .int .u64 (p : Int), .int .i64 3] w fun e w' => e = .returned (.bool (fits3 p m)) ∧ w' = w := by
  have h := below3_any (UInt64.ofNat m) (UInt64.ofNat p) w
  rw [below3_nat _ _ (by rw [u64_of m (by omega)]; exact hm) (by rw [u64_of p (by omega)]; exact hp)] at h
  simp only [u64_, u64_of m (by omega), u64_of p (by omega)] at h
  exact h
end Go.Proofs.YtapbaonlboefeaaDoor
namespace Go.Proofs.YtapbaonlboefeaaDoor
open Go.RowKit

set_option maxHeartbeats 1600000 in
theorem point_any (n : Int) (p : Nat) (f : Nat → Bool) (hb : ∀ (m : Nat) (W : World), m < 68719476736 → Calls Tryd.prog 74 #[.int .u64 (m : Int), .int .u64 (p : Int), .int .i64 n] W fun e w' => e = .returned (.bool (f m)) ∧ w' = W) (w : World) :
    Calls Tryd.prog 62 #[.int .u64 (p : Int), .int .i64 n] w fun e w' => e = .returned (.int .u32 ((rootTo f 36 : Int) % 4294967296)) ∧ w' = w := by
  have HBel := Lib.hid hb
  clear hb
  go_enter Tryd.func62, Tryd.ntmps62
  go_wp2
  go_loop [5, 6, 7] (fun x i _ => ∃ k : Nat, k ≤ 36 ∧ i = .int .i64 (35 - (k : Int)) ∧ x = .int .u64 (rootTo f k : Int)) (fun _ i _ => (intOf i + 1).toNat)
  case atStart => exact ⟨0, by omega, rfl, rfl⟩
  case round =>
    obtain ⟨k, hk, rfl, rfl⟩ := hrel
    have hle := rootTo_le f k hk
    rcases Nat.lt_or_ge k 36 with hlt | hge
    · have h1 : (k : Int) ≤ 35 := by omega
      have hpw : 2 ^ (36 - k) = 2 * 2 ^ (35 - k) := by rw [show 36 - k = (35 - k) + 1 from by omega, Nat.pow_succ, Nat.mul_comm]
      have hm : rootTo f k + 2 ^ (35 - k) < 68719476736 := by
        have : 0 < 2 ^ (35 - k) := Nat.pow_pos (by omega)
        omega
      have hwr : IntKind.u64.wrap ((rootTo f k : Int) + IntKind.u64.wrap (2 ^ (35 - k))) = ((rootTo f k + 2 ^ (35 - k) : Nat) : Int) := by
        have e : (2 : Int) ^ (35 - k) = ((2 ^ (35 - k) : Nat) : Int) := by push_cast; rfl
        rw [e]
        generalize 2 ^ (35 - k) = b at *
        rw [IntKind.wrap_u64, IntKind.wrap_u64]
        omega
      have hst : rootTo f (k + 1) = if f (rootTo f k + 2 ^ (35 - k)) = true then rootTo f k + 2 ^ (35 - k) else rootTo f k := rfl
      have HWr := Lib.hid hwr
      have HSt := Lib.hid hst
      have HM := Lib.hid hm
      clear hwr hst hm hpw hle
      go_wp2_with fail
      rw [HWr.out]
      refine (HBel.out _ _ HM.out).mono ?_
      rintro e w' ⟨rfl, rfl⟩
      rcases hf : f (rootTo f k + 2 ^ (35 - k)) with _ | _
      · go_wp2
        go_round
        case rel => exact ⟨k + 1, by omega, by go_num, by rw [HSt.out, if_neg (by rw [hf]; decide)]⟩
        case measure => simp [intOf]; omega
      · go_wp2
        go_round
        case rel => exact ⟨k + 1, by omega, by go_num, by rw [HSt.out, if_pos hf, HWr.out]⟩
        case measure => simp [intOf]; omega
    · obtain rfl : k = 36 := by omega
      go_wp2
      go_ret
      exact ⟨rfl, rfl⟩
end Go.Proofs.YtapbaonlboefeaaDoor
namespace Go.Proofs.YtapbaonlboefeaaDoor
open Go.RowKit

def primes64 : List Nat := [
  2, 3, 5, 7, 11, 13, 17, 19,
  23, 29, 31, 37, 41, 43, 47, 53,
  59, 61, 67, 71, 73, 79, 83, 89,
  97, 101, 103, 107, 109, 113, 127, 131,
  137, 139, 149, 151, 157, 163, 167, 173,
  179, 181, 191, 193, 197, 199, 211, 223,
  227, 229, 233, 239, 241, 251, 257, 263,
  269, 271, 277, 281, 283, 293, 307, 311]
def roots2 : List Nat := [
  6074000999, 7439101573, 9603838834, 11363415354, 14244795007, 15485724812, 17708603819, 18721328409]
def roots3 : List Nat := [
  5411319704, 6194414737, 7344290767, 8215976869, 9551921755, 10098905585, 11043570340, 11460697813,
  12214315672, 13195500289, 13492127166, 14311783875, 14809980276, 15046980094, 15499789991, 16133124468,
  16720292289, 16907126662, 17444216262, 17784676812, 17950125167, 18429019306, 18734950876, 19175934170,
  19734090066, 20001703533, 20132865992, 20390182855, 20516441075, 20764397895, 21588763473, 21813078375,
  22141143685, 22248366392, 22769593852, 22871018771, 23170020180, 23461497531, 23651862830, 23931792517,
  24205322401, 24295138891, 24734567280, 24820601251, 24990902297, 25075189284, 25569408389, 26045227120,
  26200031510, 26276752392, 26428864332, 26653801653, 26727943347, 27092625994, 27306805839, 27517677555,
  27725365998, 27793908591, 27997534228, 28131656200, 28198240250, 28526537963, 28973835255, 29099129074]
theorem roots2_ok : ∀ i, i < 8 → roots2.getD i 0 < 2 ^ 36 ∧ roots2.getD i 0 ^ 2 ≤ primes64.getD i 0 * 18446744073709551616 ∧ primes64.getD i 0 * 18446744073709551616 < (roots2.getD i 0 + 1) ^ 2 ∧ UInt32.ofNat (roots2.getD i 0) = hTab.getD i 0 := by decide +kernel
theorem roots3_ok : ∀ i, i < 64 → roots3.getD i 0 < 2 ^ 36 ∧ roots3.getD i 0 ^ 3 ≤ primes64.getD i 0 * 4294967296 * 18446744073709551616 ∧ primes64.getD i 0 * 4294967296 * 18446744073709551616 < (roots3.getD i 0 + 1) ^ 3 ∧ UInt32.ofNat (roots3.getD i 0) = kTab.getD i 0 := by decide +kernel
theorem primes_lt : ∀ i, i < 64 → primes64.getD i 0 < 4294967296 := by decide +kernel
/-- The primes below k, of the first sixty-four. -/
def primesTo (k : Nat) : List Nat := primes64.filter fun p => decide (p < k)
def noneDivides (k : Nat) (l : List Nat) : Bool := l.all fun p => decide (k % p ≠ 0)
theorem primesTo_step : ∀ k, k < 312 → 2 ≤ k → primesTo (k + 1) = if noneDivides k (primesTo k) = true then primesTo k ++ [k] else primesTo k := by decide +kernel
theorem primesTo_len : ∀ k, k < 312 → (primesTo k).length < 64 := by decide +kernel
theorem primesTo_end : primesTo 312 = primes64 := by decide +kernel
theorem primes64_in : ∀ p ∈ primes64, 2 ≤ p ∧ p < 312 := by decide +kernel
theorem primesTo_pos (k i : Nat) (h : i < (primesTo k).length) : 2 ≤ (primesTo k).getD i 0 ∧ (primesTo k).getD i 0 < 312 := by
  have e : (primesTo k).getD i 0 = (primesTo k)[i] := by rw [List.getD_eq_getElem?_getD, List.getElem?_eq_getElem h]; rfl
  rw [e]
  exact primes64_in _ (List.mem_filter.1 (List.getElem_mem h)).1
theorem noneDivides_take (k : Nat) (l : List Nat) (i : Nat) (h : i < l.length) : noneDivides k (l.take (i + 1)) = (noneDivides k (l.take i) && decide (k % l.getD i 0 ≠ 0)) := by
  have e : l.getD i 0 = l[i] := by rw [List.getD_eq_getElem?_getD, List.getElem?_eq_getElem h]; rfl
  rw [List.take_succ_eq_append_getElem h, e, noneDivides, List.all_append, noneDivides]
  simp only [List.all_cons, List.all_nil, Bool.and_true]
theorem Tryd.infoU64 : (Tryd.prog.info? 86).map (fun i => (i.zero, i.size, i.bytes)) = some (some (.int .u64 0), 1, 8) := by kernel_rfl
def pcs (l : List Nat) : List Value := l.map fun (p : Nat) => Value.int .u64 (p : Int)
theorem pcs_len (l : List Nat) : (pcs l).length = l.length := by simp [pcs]
theorem pcs_get (l : List Nat) (i : Nat) (h : i < l.length) : (pcs l)[i]? = some (.int .u64 ((l.getD i 0 : Nat) : Int)) := by
  simp [pcs, List.getElem?_eq_getElem h]
theorem primes2 : primesTo 2 = [] := by decide +kernel
theorem len64 : primes64.length = 64 := rfl
set_option maxRecDepth 20000 in
set_option maxHeartbeats 1600000 in
theorem primes_any (w : World) :
    Calls Tryd.prog 61 #[.int .i64 64] w fun e w' => ∃ v', e = .returned v' ∧ w'.ownsRow w.heap.size 86 1 v' 64 (pcs primes64) ∧ Below w.heap.size w w' := by
  obtain ⟨i0, hi, hz0, hz1, hz2⟩ := info_parts Tryd.infoU64
  go_enter Tryd.func61, Tryd.ntmps61
  go_wp2
  go_loopw [3, 4] (fun u k wr => ∃ n : Nat, 2 ≤ n ∧ n ≤ 312 ∧ k = .int .u64 (n : Int) ∧ wr.ownsRow w.heap.size 86 1 u (primesTo n).length (pcs (primesTo n)) ∧ Below w.heap.size w wr) (fun _ k _ => (312 - intOf k).toNat)
  case atStart =>
    have e0 : (primesTo 2).length = 0 := by rw [primes2]; rfl
    have e1 : pcs (primesTo 2) = [] := by rw [primes2]; rfl
    refine ⟨2, by omega, by omega, rfl, ?_, (Below.refl _ _).alloc (Nat.le_refl _) _⟩
    rw [e0, e1]
    exact World.ownsRow_made w _ _ (Nat.le_refl _) (by unfold maxLen; omega) (by simp)
  case round =>
    obtain ⟨n, hn2, hn, rfl, hown, hB⟩ := hrel
    obtain ⟨A, c, rfl, hc, hcm, -, hse⟩ := own_slice hown
    rcases Nat.lt_or_ge n 312 with hlt | hge
    · have hl := primesTo_len n hlt
      have hstep := Lib.hid (primesTo_step n hlt hn2)
      have hpos := Lib.hid (primesTo_pos n)
      have htk := Lib.hid (fun i h => noneDivides_take n (primesTo n) i h)
      generalize hP : primesTo n = P at *
      have HP := Lib.hid hP
      have hl1 : (P.length : Int) < 64 := by omega
      have hnI : (n : Int) ≤ 311 := by omega
      clear hP
      go_wp2
      go_loop [5, 6] (fun pr i => ∃ j : Nat, j ≤ P.length ∧ i = .int .i64 (j : Int) ∧ pr = .bool (noneDivides n (P.take j))) (fun _ i => P.length - (intOf i).toNat)
      case atStart => exact ⟨0, by omega, rfl, rfl⟩
      case round =>
        obtain ⟨j, hj, rfl, rfl⟩ := hrel
        rcases Nat.lt_or_ge j P.length with hjl | hjg
        · have hj1 : (j : Int) < P.length := by omega
          have htj := Lib.hid (htk.out j hjl)
          have hpj := hpos.out j hjl
          obtain ⟨ad, u, rfl, -, hx, hcell⟩ := hse.at_ hjl
          rw [pcs_get P j hjl] at hx
          injection hx with hx
          subst hx
          generalize P.getD j 0 = p at *
          have hp2 : (2 : Int) ≤ p := by omega
          have hne : ((n : Int) % (p : Int) != 0) = decide (n % p ≠ 0) := by
            rw [Bool.eq_iff_iff]; simp only [bne_iff_ne, decide_eq_true_eq, ne_eq]; omega
          have HNE := Lib.hid hne
          clear hne
          rcases hd : noneDivides n (P.take j) with _ | _
          · go_wp2
            go_round
            case rel => exact ⟨j + 1, by omega, by go_num, by rw [htj.out, hd]; rfl⟩
            case measure => simp [intOf]; omega
          · go_wp2
            go_round
            case rel => exact ⟨j + 1, by omega, by go_num, by rw [htj.out, hd, HNE.out]; rfl⟩
            case measure => simp [intOf]; omega
        · obtain rfl : j = P.length := by omega
          have hall : P.take P.length = P := List.take_length
          rw [hall]
          rcases hd : noneDivides n P with _ | _
          · go_wp2
            go_roundw
            case rel => exact ⟨n + 1, by omega, by omega, by go_num, by rw [hstep.out, hd]; exact hown, hB⟩
            case measure => simp [intOf]; omega
          · go_wp2_with (at_builtin; refine wpList_append_own_at _ rfl _ _ 110 rfl w.heap.size 86 i0 (.int .u64 0) 1 8 Tryd.underlying110 hi hz0 hz1 hz2 rfl (by decide) _ _ _ rfl (hown.alloc _) ⟨wr.heap.size, 0, none⟩ 1 1 [.int .u64 (n : Int)] rfl rfl (cell_one_new _ _ _) ?c2 ?c3 ?c4 ?c5 ?_)
            case c2 => first | (intro u hu; simp at hu; subst hu; rfl) | rfl
            case c3 => unfold maxLen; omega
            case c4 => omega
            case c5 => have := hB.size; simp; omega
            intro v' w1 hown' hgrow _ hat'
            have hO : w1.ownsRow w.heap.size 86 1 v' (primesTo (n + 1)).length (pcs (primesTo (n + 1))) := by
              have e1 : primesTo (n + 1) = P ++ [n] := by rw [hstep.out, if_pos hd]
              rw [e1, List.length_append]
              have e2 : pcs (P ++ [n]) = pcs P ++ [.int .u64 (n : Int)] := by simp [pcs]
              rw [e2]; exact hown'
            have hG : wr.grownBy w1 (Value.slice A P.length c).ownBlock := (World.grownBy_alloc wr _ _).trans hgrow
            have hB' := hB.grown hG hB.size (fun g hg => (hown.lt g hg).1)
            clear hown' hgrow hat' hown hG hB hse
            go_wp2
            go_roundw
            case rel => exact ⟨n + 1, by omega, by omega, by go_num, hO, hB'⟩
            case measure => simp [intOf]; omega
    · obtain rfl : n = 312 := by omega
      have e : (primesTo 312).length = 64 := by rw [primesTo_end]; rfl
      rw [primesTo_end] at hown
      have HO := Lib.hid hown
      have h64 : ¬ (((primesTo 312).length : Nat) : Int) < 64 := by omega
      clear hown hse e
      go_wp2
      go_ret
      exact ⟨_, rfl, HO.out, hB⟩
end Go.Proofs.YtapbaonlboefeaaDoor
namespace Go.Proofs.YtapbaonlboefeaaDoor
open Go.RowKit

theorem Tryd.infoU32 : (Tryd.prog.info? 87).map (fun i => (i.zero, i.size, i.bytes)) = some (some (.int .u32 0), 1, 4) := by kernel_rfl
theorem u32_mod (r : Nat) : (r : Int) % 4294967296 = ((UInt32.ofNat r).toNat : Int) := by rw [UInt32.toNat_ofNat']; omega
theorem fits2_root (i : Nat) (hi : i < 8) : rootTo (fits2 (primes64.getD i 0)) 36 = roots2.getD i 0 := by
  obtain ⟨h1, h2, h3, _⟩ := roots2_ok i hi
  exact rootTo_pow 2 _ _ h1 h2 h3 _ (fun m _ => rfl)
theorem fits3_root (i : Nat) (hi : i < 64) : rootTo (fits3 (primes64.getD i 0)) 36 = roots3.getD i 0 := by
  obtain ⟨h1, h2, h3, _⟩ := roots3_ok i hi
  exact rootTo_pow 3 _ _ h1 h2 h3 _ (fun m _ => rfl)
theorem point2_any (i : Nat) (hi : i < 8) (w : World) :
    Calls Tryd.prog 62 #[.int .u64 ((primes64.getD i 0 : Nat) : Int), .int .i64 2] w fun e w' => e = .returned (.int .u32 ((hTab.getD i 0).toNat : Int)) ∧ w = w' := by
  have h := point_any 2 (primes64.getD i 0) (fits2 (primes64.getD i 0)) (fun m W hm => below2_nums _ m (primes_lt i (by omega)) hm W) w
  rw [fits2_root i hi, u32_mod, (roots2_ok i hi).2.2.2] at h
  exact h.mono fun _ _ ⟨a, b⟩ => ⟨a, b.symm⟩
theorem point3_any (i : Nat) (hi : i < 64) (w : World) :
    Calls Tryd.prog 62 #[.int .u64 ((primes64.getD i 0 : Nat) : Int), .int .i64 3] w fun e w' => e = .returned (.int .u32 ((kTab.getD i 0).toNat : Int)) ∧ w = w' := by
  have h := point_any 3 (primes64.getD i 0) (fits3 (primes64.getD i 0)) (fun m W hm => below3_nums _ m (primes_lt i hi) hm W) w
  rw [fits3_root i hi, u32_mod, (roots3_ok i hi).2.2.2] at h
  exact h.mono fun _ _ ⟨a, b⟩ => ⟨a, b.symm⟩
/-- Two rows lie in blocks that are not one. -/
def Far2 (v u : Value) : Prop := ∀ g, v.ownBlock = some g → u.ownBlock ≠ some g
theorem Far2.symm {v u : Value} (h : Far2 v u) : Far2 u v := fun g h1 h2 => h g h2 h1
theorem Far2.moved {w : World} {base n : Nat} {e : TypeId} {v u v' : Value} {xs : List Value} (h : Far2 v u) (hu : w.ownsRow base e 1 u n xs) (hm : Moved w v.ownBlock v'.ownBlock) : Far2 v' u := by
  intro g h1 h2
  rcases hm with e1 | ⟨g', e1, hg⟩
  · exact h g (by rw [← e1]; exact h1) h2
  · rw [h1] at e1
    injection e1 with e1
    have := (hu.lt g h2).2
    omega
theorem own_far {w w' : World} {base n : Nat} {e : TypeId} {v u : Value} {xs : List Value} (hu : w.ownsRow base e 1 u n xs) (hg : w.grownBy w' v.ownBlock) (h : Far2 v u) : w'.ownsRow base e 1 u n xs :=
  hu.kept hg (by
    rcases hb : u.ownBlock with _ | g
    · exact .inl rfl
    · exact .inr fun e1 => h g e1.symm hb)
theorem us_take_succ (l : List UInt32) (i : Nat) (h : i < l.length) : us (l.take (i + 1)) = us (l.take i) ++ [.int .u32 ((l.getD i 0).toNat : Int)] := by
  have e : l.getD i 0 = l[i] := by rw [List.getD_eq_getElem?_getD, List.getElem?_eq_getElem h]; rfl
  rw [List.take_succ_eq_append_getElem h, e, us, List.map_append]; rfl
set_option maxRecDepth 20000 in
set_option maxHeartbeats 1600000 in
theorem numbers_any (w : World) :
    Calls Tryd.prog 40 #[] w fun e w' => ∃ vh vk, e = .returned (.tuple #[vh, vk]) ∧ w'.ownsRow w.heap.size 87 1 vh 8 (us hTab) ∧ w'.ownsRow w.heap.size 87 1 vk 64 (us kTab) ∧ Far2 vh vk ∧ Below w.heap.size w w' := by
  obtain ⟨i0, hi, hz0, hz1, hz2⟩ := info_parts Tryd.infoU32
  go_enter Tryd.func40, Tryd.ntmps40
  go_wp2_with fail
  refine (primes_any _).mono ?_
  rintro e w1 ⟨vp, rfl, hp, hB1⟩
  obtain ⟨A, c, rfl, hc, hcm, -, hse⟩ := own_slice hp
  have hw1 := hB1.size
  clear hse
  go_wp2
  go_loopw [3, 4, 5] (fun vh vk k wr => ∃ n : Nat, n ≤ 64 ∧ k = .int .i64 (n : Int) ∧ wr.ownsRow w.heap.size 87 1 vh (hTab.take n).length (us (hTab.take n)) ∧ wr.ownsRow w.heap.size 87 1 vk n (us (kTab.take n)) ∧ Far2 vh vk ∧ wr.ownsRow w.heap.size 86 1 (.slice A 64 c) 64 (pcs primes64) ∧ Below w.heap.size w wr) (fun _ _ k _ => (64 - intOf k).toNat)
  case atStart =>
    have hz2' : w.heap.size ≤ (w1.alloc (Obj.cells #[] 87)).heap.size := by simp; omega
    refine ⟨0, by omega, rfl, ?_, ?_, fun g h1 h2 => ?_, ?_, ((hB1.alloc hw1 _).alloc hz2' _)⟩
    · have h0 : (w1.alloc (Obj.cells #[] 87)).ownsRow w.heap.size 87 1 (.slice (some ⟨w1.heap.size, 0, none⟩) 0 0) 0 [] := World.ownsRow_made w1 _ _ hw1 (by unfold maxLen; omega) (by simp)
      exact own_below h0 ((Below.refl _ _).alloc (Nat.le_refl _) _)
    · have h0 : ((w1.alloc (Obj.cells #[] 87)).alloc (Obj.cells #[] 87)).ownsRow w.heap.size 87 1 (.slice (some ⟨(w1.alloc (Obj.cells #[] 87)).heap.size, 0, none⟩) 0 0) 0 [] := World.ownsRow_made _ _ _ hz2' (by unfold maxLen; omega) (by simp)
      rw [show (w1.alloc (Obj.cells #[] 87)).heap.size = w1.heap.size + 1 from by simp] at h0
      exact h0
    · simp [Value.ownBlock] at h1 h2
      omega
    · exact (hp.alloc _).alloc _
  case round =>
    obtain ⟨n, hn, rfl, hh, hk, hf, hpp, hB⟩ := hrel
    obtain ⟨A1, c1, rfl, hc1, hcm1, -, hse1⟩ := own_slice hh
    obtain ⟨A2, c2, rfl, hc2, hcm2, -, hse2⟩ := own_slice hk
    rcases Nat.lt_or_ge n 64 with hlt | hge
    · have hsp := Sees.of_own hpp
      obtain ⟨ad, u, rfl, -, hx, hcell⟩ := hsp.at_ hlt
      rw [pcs_get primes64 n hlt] at hx
      injection hx with hx
      subst hx
      have hnI : (n : Int) < 64 := by omega
      have hP3 := point3_any n hlt
      have hk3 := us_take_succ kTab n hlt
      generalize hyk : (kTab.getD n 0).toNat = yk at *
      have hw2 := hB.size
      rcases Nat.lt_or_ge n 8 with hlt8 | hge8
      · have hP2 := point2_any n hlt8
        have hh3 := us_take_succ hTab n hlt8
        have hln : (hTab.take n).length = n := by rw [List.length_take]; show min n 8 = n; omega
        have hln2 : (hTab.take (n + 1)).length = n + 1 := by rw [List.length_take]; show min (n + 1) 8 = n + 1; omega
        rw [hln] at hh hse1 hc1 hf
        rw [hln]
        generalize hyh : (hTab.getD n 0).toNat = yh at *
        generalize hq : primes64.getD n 0 = q at *
        have HP2 := Lib.hid hP2
        have HP3 := Lib.hid hP3
        have HH3 := Lib.hid hh3
        have HK3 := Lib.hid hk3
        have HLN2 := Lib.hid hln2
        have HHc := hpp
        clear hP2 hP3 hh3 hk3 hln2 hln hyh hyk hsp hse1 hse2
        have HQ := Lib.hid hq
        clear hq
        go_wp2_with (first | (go_at_call 62; refine (HP2.out _).mono ?_; rintro e w' ⟨rfl, rfl⟩) | (at_builtin; refine wpList_append_own_at _ rfl (.tmp 15) (.tmp 21) 82 rfl w.heap.size 87 i0 (.int .u32 0) 1 4 Tryd.underlying82 hi hz0 hz1 hz2 rfl (by decide) _ _ _ rfl (hh.alloc _) ⟨wr.heap.size, 0, none⟩ 1 1 [.int .u32 (yh : Int)] rfl rfl (cell_one_new _ _ _) ?c2 ?c3 ?c4 ?c5 ?_))
        case c2 => first | (intro u hu; simp at hu; subst hu; rfl) | rfl
        case c3 => unfold maxLen; omega
        case c4 => omega
        case c5 => simp; omega
        intro v' w2 hown' hgrow _ hat'
        have hG : wr.grownBy w2 (Value.slice A1 n c1).ownBlock := (World.grownBy_alloc wr _ _).trans hgrow
        have hM : Moved wr (Value.slice A1 n c1).ownBlock v'.ownBlock := Moved.of_at hat' (by omega)
        have hk2 := own_far hk hG hf
        have hf2 := hf.moved hk hM
        have hpp2 : w2.ownsRow w.heap.size 86 1 (.slice (some ad) 64 c) 64 (pcs primes64) := hpp.kept hG (by
          rcases hb : (Value.slice (some ad) 64 c).ownBlock with _ | g
          · exact .inl rfl
          · refine .inr fun e1 => types_ne (own_type hh _ e1.symm) (own_type hpp _ hb) (by decide) rfl)
        obtain ⟨ad2, u2, e1, -, hx2, hcell2⟩ := (Sees.of_own hpp2).at_ hlt
        injection e1 with e1
        subst e1
        rw [pcs_get primes64 n hlt, HQ.out] at hx2
        injection hx2 with hx2
        subst hx2
        have hB2 : Below w.heap.size w w2 := hB.grown hG hw2 (fun g hg => (hh.lt g hg).1)
        have hw3 := hB2.size
        obtain ⟨A3, c3, rfl, -⟩ := own_slice hown'
        clear hh hgrow hat' hG hM hk hf hpp hcell hB
        go_wp2_with (first | (go_at_call 62; refine (HP3.out _).mono ?_; rintro e w' ⟨rfl, rfl⟩) | (at_builtin; refine wpList_append_own_at _ rfl (.tmp 23) (.tmp 29) 82 rfl w.heap.size 87 i0 (.int .u32 0) 1 4 Tryd.underlying82 hi hz0 hz1 hz2 rfl (by decide) _ _ _ rfl (hk2.alloc _) ⟨w2.heap.size, 0, none⟩ 1 1 [.int .u32 (yk : Int)] rfl rfl (cell_one_new _ _ _) ?c2 ?c3 ?c4 ?c5 ?_))
        case c2 => first | (intro u hu; simp at hu; subst hu; rfl) | rfl
        case c3 => unfold maxLen; omega
        case c4 => omega
        case c5 => simp; omega
        intro v'' w3 hown'' hgrow _ hat'
        have hG : w2.grownBy w3 (Value.slice A2 n c2).ownBlock := (World.grownBy_alloc w2 _ _).trans hgrow
        have hM : Moved w2 (Value.slice A2 n c2).ownBlock v''.ownBlock := Moved.of_at hat' (by omega)
        have hh3 := own_far hown' hG hf2.symm
        have hf3 := (hf2.symm.moved hown' hM).symm
        have hpp3 : w3.ownsRow w.heap.size 86 1 (.slice (some ad) 64 c) 64 (pcs primes64) := hpp2.kept hG (by
          rcases hb : (Value.slice (some ad) 64 c).ownBlock with _ | g
          · exact .inl rfl
          · refine .inr fun e1 => types_ne (own_type hk2 _ e1.symm) (own_type hpp2 _ hb) (by decide) rfl)
        have hB3 : Below w.heap.size w w3 := hB2.grown hG hw3 (fun g hg => (hk2.lt g hg).1)
        rw [← HH3.out] at hh3
        rw [← HK3.out] at hown''
        have hh4 : w3.ownsRow w.heap.size 87 1 (Value.slice A3 (n + 1) c3) (hTab.take (n + 1)).length (us (hTab.take (n + 1))) := by rw [HLN2.out]; exact hh3
        clear hh3 hgrow hat' hG hM hk2 hf2 hpp2 hown' hcell2 hB2
        go_wp2
        go_roundw
        case rel => exact ⟨n + 1, by omega, by go_num, hh4, hown'', hf3, hpp3, hB3⟩
        case measure => simp [intOf]; omega
      · have hln : (hTab.take n).length = 8 := by rw [List.length_take]; show min n 8 = 8; omega
        have hln2 : hTab.take (n + 1) = hTab := List.take_of_length_le (by show 8 ≤ n + 1; omega)
        have hln3 : hTab.take n = hTab := List.take_of_length_le (by show 8 ≤ n; omega)
        rw [hln3] at hh
        have hh2 : wr.ownsRow w.heap.size 87 1 (Value.slice A1 8 c1) 8 (us hTab) := hh
        have hf2 : Far2 (Value.slice A1 8 c1) (Value.slice A2 n c2) := by rw [hln] at hf; exact hf
        rw [hln]
        generalize hq : primes64.getD n 0 = q at *
        have HP3 := Lib.hid hP3
        have HK3 := Lib.hid hk3
        have HLN2 := Lib.hid hln2
        have hge1 : (8 : Int) ≤ n := by omega
        clear hP3 hk3 hln hln2 hln3 hq hyk hsp hse1 hse2 hh hf
        go_wp2_with (first | (go_at_call 62; refine (HP3.out _).mono ?_; rintro e w' ⟨rfl, rfl⟩) | (at_builtin; refine wpList_append_own_at _ rfl (.tmp 23) (.tmp 29) 82 rfl w.heap.size 87 i0 (.int .u32 0) 1 4 Tryd.underlying82 hi hz0 hz1 hz2 rfl (by decide) _ _ _ rfl (hk.alloc _) ⟨wr.heap.size, 0, none⟩ 1 1 [.int .u32 (yk : Int)] rfl rfl (cell_one_new _ _ _) ?c2 ?c3 ?c4 ?c5 ?_))
        case c2 => first | (intro u hu; simp at hu; subst hu; rfl) | rfl
        case c3 => unfold maxLen; omega
        case c4 => omega
        case c5 => simp; omega
        intro v'' w3 hown'' hgrow _ hat'
        have hG : wr.grownBy w3 (Value.slice A2 n c2).ownBlock := (World.grownBy_alloc wr _ _).trans hgrow
        have hM : Moved wr (Value.slice A2 n c2).ownBlock v''.ownBlock := Moved.of_at hat' (by omega)
        have hh3 := own_far hh2 hG hf2.symm
        have hf3 := (hf2.symm.moved hh2 hM).symm
        have hpp3 : w3.ownsRow w.heap.size 86 1 (.slice (some ad) 64 c) 64 (pcs primes64) := hpp.kept hG (by
          rcases hb : (Value.slice (some ad) 64 c).ownBlock with _ | g
          · exact .inl rfl
          · refine .inr fun e1 => types_ne (own_type hk _ e1.symm) (own_type hpp _ hb) (by decide) rfl)
        have hB3 : Below w.heap.size w w3 := hB.grown hG hw2 (fun g hg => (hk.lt g hg).1)
        rw [← HK3.out] at hown''
        have hh4 : w3.ownsRow w.heap.size 87 1 (Value.slice A1 8 c1) (hTab.take (n + 1)).length (us (hTab.take (n + 1))) := by rw [HLN2.out]; exact hh3
        clear hh3 hgrow hat' hG hM hh2 hf2 hpp hk hcell hB
        go_wp2
        go_roundw
        case rel => exact ⟨n + 1, by omega, by go_num, hh4, hown'', hf3, hpp3, hB3⟩
        case measure => simp [intOf]; omega
    · obtain rfl : n = 64 := by omega
      have h1 : wr.ownsRow w.heap.size 87 1 (Value.slice A1 8 c1) 8 (us hTab) := hh
      have h2 : wr.ownsRow w.heap.size 87 1 (Value.slice A2 64 c2) 64 (us kTab) := hk
      have h3 : Far2 (Value.slice A1 8 c1) (Value.slice A2 64 c2) := hf
      have hln : (hTab.take 64).length = 8 := rfl
      rw [hln]
      clear hh hk hf hse1 hse2 hpp hln
      go_wp2
      go_ret2
      exact ⟨_, _, rfl, h1, h2, h3, hB⟩
end Go.Proofs.YtapbaonlboefeaaDoor
namespace Go.Proofs.YtapbaonlboefeaaDoor
open Go.RowKit

set_option maxHeartbeats 800000 in
theorem rrot_any (x : UInt32) (n : Nat) (w : World) (h0 : 0 < n) (h1 : n < 32) :
    Calls Tryd.prog 42 #[u32_ x, .int .i64 (n : Int)] w fun e w' => e = .returned (u32_ (rotr x n)) ∧ ∃ d, w' = w.drewN d := by
  have hx : x.toNat < 4294967296 := x.toNat_lt
  have hr := Lib.hid (rotr_bits x n h1)
  have s1 : IntKind.i64.wrap (32 - (n : Int)) = 32 - (n : Int) := IntWalk.i64_in _ (by omega)
  have s2 : (n : Int) ≤ 32 := by omega
  have s3 : (32 - (n : Int)).toNat = 32 - n := by omega
  have s4 : (0 : Int) ≤ n := by omega
  go_enter Tryd.func42, Tryd.ntmps42
  go_wp2
  go_quiet (fail)
  go_wp2
  go_ret
  refine ⟨?_, _, rfl⟩
  refine congrArg (fun v => Ending.returned (Value.int .u32 v)) ?_
  have h := hr.out
  rw [show 32 - (32 - n) = n from by omega, bits_or_comm] at h
  exact h
end Go.Proofs.YtapbaonlboefeaaDoor
