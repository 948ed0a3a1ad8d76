/- What comes in with the rows of layer 5: the two tables of SHA-256; numbers and strings. -/
import Derived.Test.YthmkdlnocdbhjaaDoorSgP
import Derived.Carry
import Derived.Lay
import Derived.ProofKit
import Derived.LaidMore
import Derived.OpenShut
import Derived.SizedLaws
import Derived.Lib.LaidTab
import Derived.LaidSub
import Derived.Deep.DeepHandedRow
namespace Go.Proofs.YthmkdlnocdbhjaaDoor
open Go.RowKit Go.ChangeShapes Go.WideShapes

theorem cell_in {W : World} {a : Addr} {v : Value} (h : W.cell? a = some v) : a.block < W.heap.size := by
  rcases Nat.lt_or_ge a.block W.heap.size with h1 | h1
  · exact h1
  · simp [World.cell?, Array.getElem?_eq_none h1] at h
section
variable {W : World}
/-- The two tables. -/
theorem tables_of {laid : List (String × DataW Unit)} (h : laidMet Tryd.prog laid W) (h1 : laid.filter (fun x => x.1 == "wapentake/sha.constants") = [("wapentake/sha.constants", Lib.tabData .u32 (kTab.map fun x => (x.toNat : Int)))]) (h2 : laid.filter (fun x => x.1 == "wapentake/sha.initials") = [("wapentake/sha.initials", Lib.tabData .u32 (hTab.map fun x => (x.toNat : Int)))]) : Consts W := by
  have f1 := h.filter (fun x => x.1 == "wapentake/sha.constants")
  have f2 := h.filter (fun x => x.1 == "wapentake/sha.initials")
  rw [h1] at f1
  rw [h2] at f2
  have g1 : Tryd.prog.globalNamed "wapentake/sha.constants" = some 1 := by kernel_rfl
  have g2 : Tryd.prog.globalNamed "wapentake/sha.initials" = some 0 := by kernel_rfl
  have t1 := Lib.tabIs_of_head (rest := []) g1 (by kernel_rfl) Tryd.underlying142 Tryd.underlying85 (by kernel_rfl) (by kernel_rfl) f1
  have t2 := Lib.tabIs_of_head (rest := []) g2 (by kernel_rfl) Tryd.underlying132 Tryd.underlying85 (by kernel_rfl) (by kernel_rfl) f2
  have l1 := cell_in (t1.cell g1 0 (by decide))
  have l2 := cell_in (t2.cell g2 0 (by decide))
  refine ⟨fun i hi => ?_, fun i hi => ?_, by simp only at l1 l2; omega⟩
  · have hc := t1.cell g1 i (by rw [List.length_map]; exact hi)
    rw [hc, List.getD_eq_getElem?_getD, List.getElem?_map, List.getD_eq_getElem?_getD]
    have hl : i < kTab.length := hi
    rw [List.getElem?_eq_getElem hl]; rfl
  · have hc := t2.cell g2 i (by rw [List.length_map]; exact hi)
    rw [hc, List.getD_eq_getElem?_getD, List.getElem?_map, List.getD_eq_getElem?_getD]
    have hl : i < hTab.length := hi
    rw [List.getElem?_eq_getElem hl]; rfl
/-- A string that came in, as a list of bytes. -/
theorem str_bytes (s : ByteArray) : ∃ t : List UInt8, s = strB t ∧ s.data.toList = t := ⟨s.data.toList, by cases s; simp [strB], rfl⟩
theorem int_range {n : Int} (h : (Lit.int .i64 n).wf = true) : I64 n := by
  simp only [Lit.wf, IntKind.min, IntKind.max, IntKind.bits, IntKind.signed] at h
  simp at h
  exact ⟨by omega, by omega⟩
end
end Go.Proofs.YthmkdlnocdbhjaaDoor
