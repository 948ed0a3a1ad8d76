/- bytes.Clone. -/
import Derived.Test.YtlkjahfkgfkilaaDoorLists
import Derived.Test.YtlkjahfkgfkilaaDoorShaN
import Derived.WalkSpells
import Derived.Laws.AppendOwnNone
namespace Go.Proofs.YtlkjahfkgfkilaaDoor
open Go.RowKit

set_option maxRecDepth 20000 in
set_option maxHeartbeats 800000 in
theorem clone_any (B : Nat) (A : Option Addr) (n c : Nat) (l : List UInt8) (w : World) (hs : Sees w B 1 A n (bys l)) (hB : B ≤ w.heap.size) (hm : n ≤ 140737488355328) :
    Calls Tryd.prog 57 #[.slice A n c] w fun e w' => ∃ v', e = .returned v' ∧ w'.ownsRow w.heap.size 5 1 v' n (bys l) ∧ Below w.heap.size w w' := by
  obtain rfl : n = l.length := by have h := hs.len; rw [bys_len] at h; omega
  obtain ⟨i0, hi, hz0, hz1, hz2⟩ := info_parts Tryd.infoByte
  have hq := fun (W : World) (a : Option Addr) (n c : Nat) => Lib.run_eql_slice_nil (P := Tryd.prog) W 28 5 a n c 0 0 Tryd.underlying28
  cases A with
  | none =>
    have hl : l = [] := by
      rcases hs.2 with h | ⟨ad, h, _⟩
      · exact List.eq_nil_of_length_eq_zero h
      · cases h
    subst hl
    go_enter Tryd.func57, Tryd.ntmps57
    go_wp2
    go_ret
    exact ⟨_, rfl, World.ownsRow_nil _ _ _ _, Below.refl _ _⟩
  | some ad =>
    have hown0 : (w.alloc (Obj.cells #[] 5)).ownsRow w.heap.size 5 1 (Value.slice (some { block := w.heap.size, off := 0 }) 0 0) 0 [] :=
      World.ownsRow_made w _ _ (Nat.le_refl _) (by unfold maxLen; omega) (by simp)
    have hB0 : Below w.heap.size w (w.alloc (Obj.cells #[] 5)) := (Below.refl _ _).alloc (Nat.le_refl _) _
    go_enter Tryd.func57, Tryd.ntmps57
    go_wp2_with (at_builtin; refine wpList_append_sees _ rfl (.tmp 5) (.tmp 6) 28 rfl w.heap.size 5 i0 (.int .u8 0) 1 1 Tryd.underlying28 hi hz0 hz1 hz2 rfl (by decide) _ 0 [] rfl hown0 w.heap.size (some ad) l.length c (bys l) rfl ?c0 (bys_one l) ?c1 ?c2 hB0.size ?_)
    case c0 => exact (hs.wide hB).below hB0
    case c1 => unfold maxLen; omega
    case c2 => omega
    intro v3 w3 hown3 hg3 hm3
    have hB3 : Below w.heap.size w w3 := hB0.grown hg3 hB0.size (fun g hg => (hown0.lt g hg).1)
    go_wp2
    go_ret
    exact ⟨_, rfl, by simpa using hown3, hB3⟩
end Go.Proofs.YtlkjahfkgfkilaaDoor
