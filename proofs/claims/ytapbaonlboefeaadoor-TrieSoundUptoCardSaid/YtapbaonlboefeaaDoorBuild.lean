/- A struct literal whose every field is given: its cells are the fields' cells, one behind the other. Nothing of the program but its tables. -/
import Derived.Test.YtapbaonlboefeaaDoorRows
import Derived.WalkKit
import Derived.Laws.Tables
import Derived.Great.FillDense
namespace Go.Proofs.YtapbaonlboefeaaDoor
open Go.RowKit

def cellsAll : List Value → List Value
  | [] => []
  | v :: vs => v.cells.toList ++ cellsAll vs
/-- From field i, offset off, on the fields lie so. -/
def Placed (place : Nat → Option (Nat × Nat)) : Nat → Nat → List Value → Prop
  | _, _, [] => True
  | i, off, v :: vs => place i = some (off, v.cells.size) ∧ Placed place (i + 1) (off + v.cells.size) vs

theorem fill_fields (place : Nat → Option (Nat × Nat)) : ∀ (vs : List Value) (i off : Nat) (cells : Array Value), Placed place i off vs → off + (cellsAll vs).length = cells.size →
    Instr.fill place cells ((vs.zipIdx i).map fun x => (x.2, x.1)) = some (cells.toList.take off ++ cellsAll vs).toArray
  | [], i, off, cells, _, hl => by
    have e : cells.toList.take off = cells.toList := List.take_of_length_le (by simp [cellsAll] at hl; simp; omega)
    simp [Instr.fill, cellsAll, e]
  | v :: vs, i, off, cells, hp, hl => by
    obtain ⟨h1, h2⟩ := hp
    have hc : v.cells.toList.length = v.cells.size := by simp
    simp only [cellsAll, List.length_append, hc] at hl
    obtain ⟨g1, g2⟩ := Great.foldl_set off v.cells.toList 0 cells
    have ih := fill_fields place vs (i + 1) (off + v.cells.size) ((v.cells.toList.zipIdx 0).foldl (fun cs (x : Value × Nat) => cs.setIfInBounds (off + x.2) x.1) cells) h2 (by rw [g1]; omega)
    simp only [List.zipIdx_cons, List.map_cons]
    unfold Instr.fill
    simp only [h1]
    rw [if_neg (by simp; omega)]
    have ef : Array.foldl (fun cs (x : Value × Nat) => cs.setIfInBounds (off + x.2) x.1) cells v.cells.zipIdx = (v.cells.toList.zipIdx 0).foldl (fun cs (x : Value × Nat) => cs.setIfInBounds (off + x.2) x.1) cells := by
      rw [← Array.foldl_toList, Array.toList_zipIdx]
    have e2 : ((v.cells.toList.zipIdx 0).foldl (fun cs (x : Value × Nat) => cs.setIfInBounds (off + x.2) x.1) cells).toList.take (off + v.cells.size) = cells.toList.take off ++ v.cells.toList := by
      apply List.ext_getElem?
      intro k
      have hcl : cells.toList.length = cells.size := by simp
      rw [List.getElem?_take, List.getElem?_append, List.getElem?_take, List.length_take, Array.getElem?_toList, g2 k, Nat.min_eq_left (by omega)]
      by_cases ha : k < off
      · rw [if_pos (by omega), if_neg (by omega), if_pos ha, if_pos ha]; simp
      · by_cases hb : k < off + v.cells.size
        · rw [if_pos hb, if_pos (by omega), if_neg ha, Nat.add_zero]
        · rw [if_neg hb, if_neg ha, List.getElem?_eq_none (by simp; omega)]
    rw [e2, List.append_assoc] at ih
    rw [ef]
    exact ih

/-- The literal's run. -/
theorem build_all {P : Program} (w : World) (t : TypeId) (vs : List Value) (Z : Array Value) (places : List (Nat × Nat)) (hb : ∀ parts, P.built t parts = Instr.fill (places.toArray[·]?) Z parts)
    (hp : Placed (places.toArray[·]?) 0 0 vs) (hl : (cellsAll vs).length = Z.size) : (Instr.build t ((vs.zipIdx 0).map fun x => (x.2, x.1)).toArray).run P w = .ok (.agg (cellsAll vs).toArray) w := by
  refine run_build w t _ _ ?_
  rw [hb]
  have h := fill_fields (places.toArray[·]?) vs 0 0 Z hp (by omega)
  simpa using h
end Go.Proofs.YtapbaonlboefeaaDoor
