/- wapentakeref03.top: whatever is asked. -/
import Derived.Test.YtdjbaigfpmibnaaDoorRtU
namespace Go.Proofs.YtdjbaigfpmibnaaDoor
open Go.RowKit

theorem PathW.front {w : World} {B : Nat} {A : Option Addr} {c : Nat} {ps' : List (List UInt8)} {p : List UInt8} (h : PathW w B A c (ps' ++ [p])) : PathW w B A c ps' := by
  have h1 := h.first ps'.length (by simp)
  rwa [List.take_left] at h1
theorem rtop_any (Be : Nat) (Ae : Option Addr) (ce : Nat) (e : List UInt8) (hc : e.length ≤ ce) (hcm : ce ≤ 9223372036854775807) (he : e.length ≤ 140737488351232) (Bp : Nat) (Ap : Option Addr) (cp : Nat) :
    ∀ (m n f i0 : Nat), n ≤ m → i0 < n → n < 9223372036854775808 → ∀ (w : World), Sees w Be 1 Ae e.length (bys e) → Be ≤ w.heap.size → ∀ (ps : List (List UInt8)), PathW w Bp Ap cp ps →
      Calls Tryd.prog 46 #[.int .i64 (n : Int), .int .i64 (i0 : Int), .slice Ae e.length ce, .slice Ap ps.length cp] w (TopPost w f (f + n) (f + i0) e ps) := by
  intro m
  induction m with
  | zero => intro n f i0 h1 h2; omega
  | succ m ih =>
    intro n f i0 hm hi hn w hs hBe ps hP
    rcases Nat.lt_or_ge n 2 with h1 | h2
    · obtain rfl : n = 1 := by omega
      exact rtop_one i0 f Be Ae ce e w hs hBe hc hcm he Ap cp ps
    · obtain ⟨k1, k2, -⟩ := half_spec n h2 hn
      rcases List.eq_nil_or_concat ps with rfl | ⟨ps', p, rfl⟩
      · exact rtop_none n i0 f h2 hn Ae e.length ce cp e Ap w
      · rw [List.concat_eq_append] at hP ⊢
        obtain ⟨ad, rfl, -⟩ := hP.sees.some_ (by simp)
        rw [List.length_append, List.length_singleton]
        rcases Nat.lt_or_ge i0 (half n) with hl | hr
        · exact rtop_left n i0 f h2 hn hl Ae ce e w Bp ad cp ps' p hP fun W hB => ih (half n) f i0 (by omega) hl (by omega) W (hs.below (hB.mono hBe)) (Nat.le_trans hBe hB.size) ps' (hP.front.below hB)
        · refine rtop_right n i0 f h2 hn hr hi Ae ce e w Bp ad cp ps' p hP fun W hB => ?_
          have h := ih (n - half n) (f + half n) (i0 - half n) (by omega) (by omega) (by omega) W (hs.below (hB.mono hBe)) (Nat.le_trans hBe hB.size) ps' (hP.front.below hB)
          rw [show f + half n + (n - half n) = f + n from by omega, show f + half n + (i0 - half n) = f + i0 from by omega] at h
          exact h
end Go.Proofs.YtdjbaigfpmibnaaDoor
