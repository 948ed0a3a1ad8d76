/- A header that came in: its cells are a header's. -/
import Derived.Test.YtlkjahfkgfkilaaDoorConv
import Derived.ChangeArms
import Derived.OpenShut
import Derived.WideShapes
namespace Go.Proofs.YtlkjahfkgfkilaaDoor
open Go.RowKit Go.ChangeShapes Go.WideShapes

section
variable {H : Type} {enc : TypeId × Value → H} {w : World} {base : Nat} {spare : Nat → Bool} {held : Bool} {fuel : Nat}
theorem open_i64 {t : TypeId} {cs : List Value} {x : DataW H × List MemPlace} (ht : Tryd.prog.underlying t = some (.int .i64)) (h : DataW.trod enc Tryd.prog w base spare held fuel t cs = some x) (w' : World) (p : Nat → Prop) : ∃ b, numR .i64 w' p cs b := by
  obtain ⟨z, rfl, -, hw⟩ := DataW.trod_int ht h
  have hr : -9223372036854775808 ≤ z ∧ z ≤ 9223372036854775807 := by
    simp only [Lit.wf, IntKind.min, IntKind.max, IntKind.bits, IntKind.signed] at hw
    simp at hw
    omega
  refine ⟨_, (z % 18446744073709551616).toNat, by omega, rfl, ?_⟩
  have e : IntKind.i64.wrap (((z % 18446744073709551616).toNat : Nat) : Int) = z := by
    simp only [IntKind.wrap, IntKind.bits, IntKind.signed]
    simp
    omega
  rw [e]
theorem open_digest {cs : List Value} {x : DataW H × List MemPlace} (h : DataW.trod enc Tryd.prog w base spare held fuel 23 cs = some x) (w' : World) (p : Nat → Prop) : ∃ b, digR w' p cs b := by
  obtain ⟨xs, m, -, -, hcl, hxl, hi⟩ := DataW.trod_array Tryd.underlying23 h
  have hc : Tryd.prog.cellsOf 23 = 32 := by kernel_rfl
  have hc1 : Tryd.prog.cellsOf 5 = 1 := by kernel_rfl
  rw [hc] at hcl
  simp only [hc1] at hi
  have hone : ∀ i (hl : i < cs.length), ∃ u : UInt8, cs[i]'hl = by_ u := fun i hl => by
    have h1 := hi i (by omega)
    have e : (cs.drop (i * 1)).take 1 = [cs[i]'hl] := by
      rw [Nat.mul_one, List.drop_eq_getElem_cons hl]; rfl
    rw [e, List.getElem?_eq_getElem (by omega)] at h1
    obtain ⟨z, hz, -, hw⟩ := DataW.trod_int Tryd.underlying5 h1
    injection hz with hz
    have hr : 0 ≤ z ∧ z ≤ 255 := by
      simp only [Lit.wf, IntKind.min, IntKind.max, IntKind.bits, IntKind.signed] at hw
      simp at hw
      omega
    refine ⟨UInt8.ofNat z.toNat, ?_⟩
    rw [hz]
    simp [by_]
    omega
  have hall : ∀ l : List Value, (∀ v ∈ l, ∃ u : UInt8, v = by_ u) → ∃ b : List UInt8, l = bys b := by
    intro l
    induction l with
    | nil => intro _; exact ⟨[], rfl⟩
    | cons v l ih =>
      intro hv
      obtain ⟨u, rfl⟩ := hv v (by simp)
      obtain ⟨b, rfl⟩ := ih fun v h => hv v (by simp [h])
      exact ⟨u :: b, rfl⟩
  obtain ⟨b, rfl⟩ := hall cs fun v hv => by
    obtain ⟨i, hl, rfl⟩ := List.getElem_of_mem hv
    exact hone i hl
  exact ⟨b, by rw [bys_len] at hcl; exact hcl, rfl⟩
theorem cut_here {cs r : List Value} (k m k' : Nat) (h : cs.drop k = r) (hk : k' = k + m) : r = (cs.drop k).take m ++ cs.drop k' := by
  subst hk
  rw [← h, ← List.drop_drop, List.take_append_drop]
theorem open_header {cs : List Value} {x : DataW H × List MemPlace} (h : DataW.trod enc Tryd.prog w base spare held fuel 25 cs = some x) (w' : World) (p : Nat → Prop) : ∃ b, headerR w' p cs b := by
  obtain ⟨xs, m, -, -, hcl, hxl, hi⟩ := DataW.trod_struct Tryd.underlying25 h
  have hc : Tryd.prog.cellsOf 25 = 101 := by kernel_rfl
  have hcI : Tryd.prog.cellsOf 3 = 1 := by kernel_rfl
  have hcJ : Tryd.prog.cellsOf 2 = 1 := by kernel_rfl
  have hcD : Tryd.prog.cellsOf 23 = 32 := by kernel_rfl
  rw [hc] at hcl
  have hxl8 : xs.length = 8 := hxl
  have gt : ∀ i, i < 8 → ∃ y, xs[i]? = some y := fun i hi => ⟨_, List.getElem?_eq_getElem (by omega)⟩
  obtain ⟨y0, g0⟩ := gt 0 (by omega)
  obtain ⟨y1, g1⟩ := gt 1 (by omega)
  obtain ⟨y2, g2⟩ := gt 2 (by omega)
  obtain ⟨y3, g3⟩ := gt 3 (by omega)
  obtain ⟨y4, g4⟩ := gt 4 (by omega)
  obtain ⟨y5, g5⟩ := gt 5 (by omega)
  obtain ⟨y6, g6⟩ := gt 6 (by omega)
  obtain ⟨y7, g7⟩ := gt 7 (by omega)
  obtain ⟨b0, r0⟩ := open_i64 Tryd.underlying3 ((hi 0 _ rfl).trans g0) w' p
  obtain ⟨b1, r1⟩ := open_i64 Tryd.underlying3 ((hi 1 _ rfl).trans g1) w' p
  obtain ⟨b2, r2⟩ := open_i64 Tryd.underlying2 ((hi 2 _ rfl).trans g2) w' p
  obtain ⟨b3, r3⟩ := open_i64 Tryd.underlying2 ((hi 3 _ rfl).trans g3) w' p
  obtain ⟨b4, r4⟩ := open_digest ((hi 4 _ rfl).trans g4) w' p
  obtain ⟨b5, r5⟩ := open_digest ((hi 5 _ rfl).trans g5) w' p
  obtain ⟨b6, r6⟩ := open_digest ((hi 6 _ rfl).trans g6) w' p
  obtain ⟨b7, r7⟩ := open_i64 Tryd.underlying3 ((hi 7 _ rfl).trans g7) w' p
  have r0 : numR .i64 w' p ((cs.drop 0).take (Tryd.prog.cellsOf 3)) b0 := r0
  have r1 : numR .i64 w' p ((cs.drop 1).take (Tryd.prog.cellsOf 3)) b1 := r1
  have r2 : numR .i64 w' p ((cs.drop 2).take (Tryd.prog.cellsOf 2)) b2 := r2
  have r3 : numR .i64 w' p ((cs.drop 3).take (Tryd.prog.cellsOf 2)) b3 := r3
  have r4 : digR w' p ((cs.drop 4).take (Tryd.prog.cellsOf 23)) b4 := r4
  have r5 : digR w' p ((cs.drop 36).take (Tryd.prog.cellsOf 23)) b5 := r5
  have r6 : digR w' p ((cs.drop 68).take (Tryd.prog.cellsOf 23)) b6 := r6
  have r7 : numR .i64 w' p ((cs.drop 100).take (Tryd.prog.cellsOf 3)) b7 := r7
  rw [hcI] at r0 r1 r7
  rw [hcJ] at r2 r3
  rw [hcD] at r4 r5 r6
  exact ⟨_, [b0, b1, b2, b3, b4, b5, b6, b7], ⟨_, _, b0, _, cut_here 0 1 1 rfl rfl, rfl, r0, _, _, b1, _, cut_here 1 1 2 rfl rfl, rfl, r1, _, _, b2, _, cut_here 2 1 3 rfl rfl, rfl, r2, _, _, b3, _, cut_here 3 1 4 rfl rfl, rfl, r3, _, _, b4, _, cut_here 4 32 36 rfl rfl, rfl, r4,
    _, _, b5, _, cut_here 36 32 68 rfl rfl, rfl, r5, _, _, b6, _, cut_here 68 32 100 rfl rfl, rfl, r6, _, _, b7, _, cut_here 100 1 101 rfl rfl, rfl, r7, List.drop_eq_nil_of_le (by omega), rfl⟩, rfl⟩
end
end Go.Proofs.YtlkjahfkgfkilaaDoor
