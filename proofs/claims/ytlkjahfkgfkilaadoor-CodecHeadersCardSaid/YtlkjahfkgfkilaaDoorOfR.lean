/- Decoding: a record. -/
import Derived.Test.YtlkjahfkgfkilaaDoorOfH
import Derived.Test.YtlkjahfkgfkilaaDoorRdL
import Derived.Test.YtlkjahfkgfkilaaDoorRdM
import Derived.Test.YtlkjahfkgfkilaaDoorEncR
namespace Go.Proofs.YtlkjahfkgfkilaaDoor
open Go.RowKit

theorem numR_shape : ∀ w p v b, numR .i64 w p [v] b → ∃ n, v = .int .i64 n := fun _ _ v b ⟨n, _, _, h⟩ => by injection h with h; exact ⟨_, h⟩
theorem lstR_shape {size : Nat} {R : Rel} : ∀ w p v b, lstR size R w p [v] b → ∃ A n c, v = .slice A n c := fun _ _ v b ⟨A, c, xs, ps, h, _⟩ => by injection h with h; exact ⟨_, _, _, h⟩

set_option maxRecDepth 20000 in
set_option maxHeartbeats 1600000 in
theorem numbersOf_any (w0 : World) : Reads1 Tryd.prog w0 34 #[] numsR (lstF numF) := by
  intro w _ p A c b ha hF
  show Calls _ _ #[.slice A b.length c] _ _
  have eI := Go.Proofs.enters_of Tryd.func32 (by kernel_rfl) rfl
  have h := Lib.hid (readList_int_any (numR .i64) (numR_kept _) numR_shape numF 32 #[] eI w (numberOf_int_any w) p A c b ha hF)
  clear ha hF
  go_enter Tryd.func34, Tryd.ntmps34
  go_wp2_with fail
  refine h.out.mono ?_
  rintro e w1 ⟨v, rfl, hv, hB⟩
  go_wp2
  go_ret2
  exact ⟨_, rfl, hv, hB⟩
theorem listOf_ints_any (fv : Value) (h1 : fv.oneCell' = true) (w : World) : Calls Tryd.prog 36 #[fv] w fun e w' => e = .returned (.func (.func 52) #[] #[.pointer (some ⟨w.heap.size, 0, none⟩)]) ∧ w' = w.alloc (.cells #[fv] 73) := by
  go_enter Tryd.func36, Tryd.ntmps36
  go_wp2
  go_ret
  exact ⟨rfl, rfl⟩
set_option maxRecDepth 20000 in
set_option maxHeartbeats 1600000 in
theorem listOf_ints_clo (w0 : World) (B : Nat) (hB : B < w0.heap.size) (hc : w0.cell? ⟨B, 0, none⟩ = some (.func (.func 34) #[] #[])) : Reads1 Tryd.prog w0 52 #[.pointer (some ⟨B, 0, none⟩)] (lstR 1 numsR) (lstF (lstF numF)) := by
  intro w hb p A c b ha hF
  show Calls _ _ #[.slice A b.length c, .pointer (some ⟨B, 0, none⟩)] _ _
  have hc' : w.cell? ⟨B, 0, none⟩ = some (.func (.func 34) #[] #[]) := (hb.cell hB).trans hc
  have eN := Go.Proofs.enters_of Tryd.func34 (by kernel_rfl) rfl
  have h := Lib.hid (readList_ints_any numsR (lstR_kept (numR_kept _)) lstR_shape (lstF numF) 34 #[] eN w (numbersOf_any w) p A c b ha hF)
  clear ha hF
  go_enter Tryd.func52, Tryd.ntmps52
  go_wp2_with fail
  refine h.out.mono ?_
  rintro e w1 ⟨v, rfl, hv, hB⟩
  go_wp2
  go_ret2
  exact ⟨_, rfl, hv, hB⟩
end Go.Proofs.YtlkjahfkgfkilaaDoor
