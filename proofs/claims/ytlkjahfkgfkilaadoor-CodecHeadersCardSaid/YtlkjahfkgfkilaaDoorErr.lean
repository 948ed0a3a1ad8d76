/- Errors: a sentinel's text, a failure that wraps one. -/
import Derived.Test.YtlkjahfkgfkilaaDoorCls
namespace Go.Proofs.YtlkjahfkgfkilaaDoor
open Go.RowKit

theorem errString_any (a : Addr) (s : ByteArray) (w : World) (h : w.cell? a = some (.string s)) : Calls Tryd.prog 105 #[.pointer (some a)] w fun e w' => e = .returned (.string s) ∧ w' = w := by
  go_enter Tryd.func105, Tryd.ntmps105
  go_wp2
  go_ret
  exact ⟨rfl, rfl⟩
theorem unwrap_any (g : Nat) (v : Value) (w : World) (h : w.cell? ⟨g, 1, none⟩ = some v) : Calls Tryd.prog 90 #[.pointer (some ⟨g, 0, none⟩)] w fun e w' => e = .returned v ∧ w' = w := by
  go_enter Tryd.func90, Tryd.ntmps90
  go_wp2
  go_ret
  exact ⟨rfl, rfl⟩
/-- A failure's value. -/
abbrev failV (p : Addr) : Value := .iface 62 (.pointer (some p))
set_option maxRecDepth 20000 in
theorem fail_any (a : Addr) (s t : ByteArray) (w : World) (h : w.cell? a = some (.string t)) (hs : s.size ≤ 1000) (ht : t.size ≤ 1000) :
    Calls Tryd.prog 28 #[.string s, errV a] w fun e w' => ∃ x, e = .returned (failV ⟨w.heap.size, 0, none⟩) ∧ w' = w.alloc (.cells #[.string x, errV a] 99) := by
  have hm : ∀ W : World, (Go.method 280 148 (.pointer (some a)) "Error").run Tryd.prog W = .ok (105, .pointer (some a)) W := fun W => by kernel_rfl
  have eE := Go.Proofs.enters_of Tryd.func105 (by kernel_rfl) rfl
  go_enter Tryd.func28, Tryd.ntmps28
  go_wp2_with fail
  refine (errString_any a t w h).mono ?_
  rintro e w' ⟨rfl, rfl⟩
  go_wp2
  go_ret
  exact ⟨_, rfl, rfl⟩
end Go.Proofs.YtlkjahfkgfkilaaDoor
