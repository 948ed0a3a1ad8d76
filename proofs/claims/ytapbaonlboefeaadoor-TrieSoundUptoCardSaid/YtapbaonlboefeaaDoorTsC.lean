/- trie: trail.preimages: its first variables. WRITTEN BY wip/gen/tsc.py. -/
import Derived.Test.YtapbaonlboefeaaDoorTsB
import Derived.Test.YtapbaonlboefeaaDoorGen
namespace Go.Proofs.YtapbaonlboefeaaDoor
open Go.RowKit

def PreAR (G g2 : Nat) (key : List UInt8) (A3 : Option Addr) (m c3 : Nat) (l : List UInt8) (vs : Nat → Value) : Nat → World → Prop
  | 0, _ => vs 0 = .agg (bys key).toArray
  | 1, _ => vs 1 = .agg (bys key).toArray
  | 2, _ => vs 2 = .pointer (some ⟨g2, 1, none⟩)
  | 3, _ => vs 3 = .slice A3 m c3
  | 4, w => SlotN G w (vs 4) l [vs 5, vs 6]
  | 5, w => VarN G w (vs 5) 95 (·.length = 32) [vs 6]
  | 6, w => VarN G w (vs 6) 31 (·.length = 1) [vs 5]
  | 7, w => VarN G w (vs 5) 95 (· = bys key) [vs 6]
  | 8, w => VarN G w (vs 6) 31 (· = [vs 4]) [vs 5]
  | _, _ => True
def PreAT (G _g2 : Nat) (key : List UInt8) (_A3 : Option Addr) (_m _c3 : Nat) (_l : List UInt8) (vs : Nat → Value) (i : Nat) (v : Value) (w w' : World) : Prop := match i with
  | 5 => AlT v w w'
  | 6 => AlT v w w'
  | 7 => StT G (vs 5) 95 (bys key) w w'
  | 8 => StT G (vs 6) 31 ([vs 4]) w w'
  | _ => Below w.heap.size w w'
theorem PreAT.low {G g2 : Nat} {key : List UInt8} {A3 : Option Addr} {m c3 : Nat} {l : List UInt8} {vs : Nat → Value} {i : Nat} {v : Value} {w w' : World} (h : PreAT G g2 key A3 m c3 l vs i v w w') (hG : G ≤ w.heap.size) : Below G w w' := by
  match i, h with
  | 0, h => exact Below.mono (show Below w.heap.size w w' from h) hG
  | 1, h => exact Below.mono (show Below w.heap.size w w' from h) hG
  | 2, h => exact Below.mono (show Below w.heap.size w w' from h) hG
  | 3, h => exact Below.mono (show Below w.heap.size w w' from h) hG
  | 4, h => exact Below.mono (show Below w.heap.size w w' from h) hG
  | 5, h => exact AlT.low h hG
  | 6, h => exact AlT.low h hG
  | 7, h => exact StT.low h
  | 8, h => exact StT.low h
  | n + 9, h => exact Below.mono (show Below w.heap.size w w' from h) hG
theorem PreAR.keep0 {G g2 : Nat} {key : List UInt8} {A3 : Option Addr} {m c3 : Nat} {l : List UInt8}  {vs : Nat → Value} {i : Nat} {v : Value} {w w' : World} (_hi : i < 9) (hij : i ≠ 0) (_hT : PreAT G g2 key A3 m c3 l vs i v w w') (h : PreAR G g2 key A3 m c3 l vs 0 w) : PreAR G g2 key A3 m c3 l (fun k => if k = i then v else vs k) 0 w' := by
  show (if (0 : Nat) = i then v else vs 0) = _
  rw [if_neg (fun e => hij e.symm)]
  exact h
theorem PreAR.keep1 {G g2 : Nat} {key : List UInt8} {A3 : Option Addr} {m c3 : Nat} {l : List UInt8}  {vs : Nat → Value} {i : Nat} {v : Value} {w w' : World} (_hi : i < 9) (hij : i ≠ 1) (_hT : PreAT G g2 key A3 m c3 l vs i v w w') (h : PreAR G g2 key A3 m c3 l vs 1 w) : PreAR G g2 key A3 m c3 l (fun k => if k = i then v else vs k) 1 w' := by
  show (if (1 : Nat) = i then v else vs 1) = _
  rw [if_neg (fun e => hij e.symm)]
  exact h
theorem PreAR.keep2 {G g2 : Nat} {key : List UInt8} {A3 : Option Addr} {m c3 : Nat} {l : List UInt8}  {vs : Nat → Value} {i : Nat} {v : Value} {w w' : World} (_hi : i < 9) (hij : i ≠ 2) (_hT : PreAT G g2 key A3 m c3 l vs i v w w') (h : PreAR G g2 key A3 m c3 l vs 2 w) : PreAR G g2 key A3 m c3 l (fun k => if k = i then v else vs k) 2 w' := by
  show (if (2 : Nat) = i then v else vs 2) = _
  rw [if_neg (fun e => hij e.symm)]
  exact h
theorem PreAR.keep3 {G g2 : Nat} {key : List UInt8} {A3 : Option Addr} {m c3 : Nat} {l : List UInt8}  {vs : Nat → Value} {i : Nat} {v : Value} {w w' : World} (_hi : i < 9) (hij : i ≠ 3) (_hT : PreAT G g2 key A3 m c3 l vs i v w w') (h : PreAR G g2 key A3 m c3 l vs 3 w) : PreAR G g2 key A3 m c3 l (fun k => if k = i then v else vs k) 3 w' := by
  show (if (3 : Nat) = i then v else vs 3) = _
  rw [if_neg (fun e => hij e.symm)]
  exact h
theorem PreAR.keep4 {G g2 : Nat} {key : List UInt8} {A3 : Option Addr} {m c3 : Nat} {l : List UInt8}  {vs : Nat → Value} {i : Nat} {v : Value} {w w' : World} (hi : i < 9) (hij : i ≠ 4) (hT : PreAT G g2 key A3 m c3 l vs i v w w') (h : PreAR G g2 key A3 m c3 l vs 4 w) : PreAR G g2 key A3 m c3 l (fun k => if k = i then v else vs k) 4 w' := by
  match i, hi, hij, hT with
  | 0, _, _, hT => exact (show SlotN G w' (vs 4) l [vs 5, vs 6] from SlotN.below (show SlotN _ w _ _ _ from h) hT)
  | 1, _, _, hT => exact (show SlotN G w' (vs 4) l [vs 5, vs 6] from SlotN.below (show SlotN _ w _ _ _ from h) hT)
  | 2, _, _, hT => exact (show SlotN G w' (vs 4) l [vs 5, vs 6] from SlotN.below (show SlotN _ w _ _ _ from h) hT)
  | 3, _, _, hT => exact (show SlotN G w' (vs 4) l [vs 5, vs 6] from SlotN.below (show SlotN _ w _ _ _ from h) hT)
  | 4, _, hij, _ => exact absurd rfl hij
  | 5, _, _, hT => exact (show SlotN G w' (vs 4) l [v, vs 6] from SlotN.alloc (show SlotN _ w _ _ _ from h) hT (fun N hm => by simp only [List.mem_cons, List.not_mem_nil, or_false] at hm ⊢; first | (rcases hm with rfl | rfl <;> simp) | (exact absurd hm (by simp))))
  | 6, _, _, hT => exact (show SlotN G w' (vs 4) l [vs 5, v] from SlotN.alloc (show SlotN _ w _ _ _ from h) hT (fun N hm => by simp only [List.mem_cons, List.not_mem_nil, or_false] at hm ⊢; first | (rcases hm with rfl | rfl <;> simp) | (exact absurd hm (by simp))))
  | 7, _, _, hT => exact (show SlotN G w' (vs 4) l [vs 5, vs 6] from SlotN.other (show SlotN _ w _ _ _ from h) hT (by simp))
  | 8, _, _, hT => exact (show SlotN G w' (vs 4) l [vs 5, vs 6] from SlotN.other (show SlotN _ w _ _ _ from h) hT (by simp))
  | n + 9, hi, _, _ => exact absurd hi (by omega)
theorem PreAR.keep5 {G g2 : Nat} {key : List UInt8} {A3 : Option Addr} {m c3 : Nat} {l : List UInt8} (hk : key.length = 32) {vs : Nat → Value} {i : Nat} {v : Value} {w w' : World} (hi : i < 9) (hij : i ≠ 5) (hT : PreAT G g2 key A3 m c3 l vs i v w w') (h : PreAR G g2 key A3 m c3 l vs 5 w) : PreAR G g2 key A3 m c3 l (fun k => if k = i then v else vs k) 5 w' := by
  match i, hi, hij, hT with
  | 0, _, _, hT => exact (show VarN G w' (vs 5) 95 (·.length = 32) [vs 6] from VarN.below (show VarN _ w _ _ _ _ from h) hT)
  | 1, _, _, hT => exact (show VarN G w' (vs 5) 95 (·.length = 32) [vs 6] from VarN.below (show VarN _ w _ _ _ _ from h) hT)
  | 2, _, _, hT => exact (show VarN G w' (vs 5) 95 (·.length = 32) [vs 6] from VarN.below (show VarN _ w _ _ _ _ from h) hT)
  | 3, _, _, hT => exact (show VarN G w' (vs 5) 95 (·.length = 32) [vs 6] from VarN.below (show VarN _ w _ _ _ _ from h) hT)
  | 4, _, _, hT => exact (show VarN G w' (vs 5) 95 (·.length = 32) [vs 6] from VarN.below (show VarN _ w _ _ _ _ from h) hT)
  | 5, _, hij, _ => exact absurd rfl hij
  | 6, _, _, hT => exact (show VarN G w' (vs 5) 95 (·.length = 32) [v] from VarN.alloc (show VarN _ w _ _ _ _ from h) hT (fun N hm => by simp only [List.mem_cons, List.not_mem_nil, or_false] at hm ⊢; first | (rcases hm with rfl <;> simp) | (exact absurd hm (by simp))))
  | 7, _, _, hT => exact (show VarN G w' (vs 5) 95 (·.length = 32) [vs 6] from VarN.self (show VarN _ w _ _ _ _ from h) hT (by rw [bys_len]; exact hk))
  | 8, _, _, hT => exact (show VarN G w' (vs 5) 95 (·.length = 32) [vs 6] from VarN.other (show VarN _ w _ _ _ _ from h) hT (by simp))
  | n + 9, hi, _, _ => exact absurd hi (by omega)
theorem PreAR.keep6 {G g2 : Nat} {key : List UInt8} {A3 : Option Addr} {m c3 : Nat} {l : List UInt8}  {vs : Nat → Value} {i : Nat} {v : Value} {w w' : World} (hi : i < 9) (hij : i ≠ 6) (hT : PreAT G g2 key A3 m c3 l vs i v w w') (h : PreAR G g2 key A3 m c3 l vs 6 w) : PreAR G g2 key A3 m c3 l (fun k => if k = i then v else vs k) 6 w' := by
  match i, hi, hij, hT with
  | 0, _, _, hT => exact (show VarN G w' (vs 6) 31 (·.length = 1) [vs 5] from VarN.below (show VarN _ w _ _ _ _ from h) hT)
  | 1, _, _, hT => exact (show VarN G w' (vs 6) 31 (·.length = 1) [vs 5] from VarN.below (show VarN _ w _ _ _ _ from h) hT)
  | 2, _, _, hT => exact (show VarN G w' (vs 6) 31 (·.length = 1) [vs 5] from VarN.below (show VarN _ w _ _ _ _ from h) hT)
  | 3, _, _, hT => exact (show VarN G w' (vs 6) 31 (·.length = 1) [vs 5] from VarN.below (show VarN _ w _ _ _ _ from h) hT)
  | 4, _, _, hT => exact (show VarN G w' (vs 6) 31 (·.length = 1) [vs 5] from VarN.below (show VarN _ w _ _ _ _ from h) hT)
  | 5, _, _, hT => exact (show VarN G w' (vs 6) 31 (·.length = 1) [v] from VarN.alloc (show VarN _ w _ _ _ _ from h) hT (fun N hm => by simp only [List.mem_cons, List.not_mem_nil, or_false] at hm ⊢; first | (rcases hm with rfl <;> simp) | (exact absurd hm (by simp))))
  | 6, _, hij, _ => exact absurd rfl hij
  | 7, _, _, hT => exact (show VarN G w' (vs 6) 31 (·.length = 1) [vs 5] from VarN.other (show VarN _ w _ _ _ _ from h) hT (by simp))
  | 8, _, _, hT => exact (show VarN G w' (vs 6) 31 (·.length = 1) [vs 5] from VarN.self (show VarN _ w _ _ _ _ from h) hT (rfl))
  | n + 9, hi, _, _ => exact absurd hi (by omega)
theorem PreAR.keep7 {G g2 : Nat} {key : List UInt8} {A3 : Option Addr} {m c3 : Nat} {l : List UInt8}  {vs : Nat → Value} {i : Nat} {v : Value} {w w' : World} (hi : i < 9) (hij : i ≠ 7) (hw5 : i ≠ 5) (hT : PreAT G g2 key A3 m c3 l vs i v w w') (h : PreAR G g2 key A3 m c3 l vs 7 w) : PreAR G g2 key A3 m c3 l (fun k => if k = i then v else vs k) 7 w' := by
  match i, hi, hij, hT, hw5 with
  | 0, _, _, hT, _ => exact (show VarN G w' (vs 5) 95 (· = bys key) [vs 6] from VarN.below (show VarN _ w _ _ _ _ from h) hT)
  | 1, _, _, hT, _ => exact (show VarN G w' (vs 5) 95 (· = bys key) [vs 6] from VarN.below (show VarN _ w _ _ _ _ from h) hT)
  | 2, _, _, hT, _ => exact (show VarN G w' (vs 5) 95 (· = bys key) [vs 6] from VarN.below (show VarN _ w _ _ _ _ from h) hT)
  | 3, _, _, hT, _ => exact (show VarN G w' (vs 5) 95 (· = bys key) [vs 6] from VarN.below (show VarN _ w _ _ _ _ from h) hT)
  | 4, _, _, hT, _ => exact (show VarN G w' (vs 5) 95 (· = bys key) [vs 6] from VarN.below (show VarN _ w _ _ _ _ from h) hT)
  | 5, _, _, _, hw5 => exact absurd rfl hw5
  | 6, _, _, hT, _ => exact (show VarN G w' (vs 5) 95 (· = bys key) [v] from VarN.alloc (show VarN _ w _ _ _ _ from h) hT (fun N hm => by simp only [List.mem_cons, List.not_mem_nil, or_false] at hm ⊢; first | (rcases hm with rfl <;> simp) | (exact absurd hm (by simp))))
  | 7, _, hij, _, _ => exact absurd rfl hij
  | 8, _, _, hT, _ => exact (show VarN G w' (vs 5) 95 (· = bys key) [vs 6] from VarN.other (show VarN _ w _ _ _ _ from h) hT (by simp))
  | n + 9, hi, _, _, _ => exact absurd hi (by omega)
theorem PreAR.keep8 {G g2 : Nat} {key : List UInt8} {A3 : Option Addr} {m c3 : Nat} {l : List UInt8}  {vs : Nat → Value} {i : Nat} {v : Value} {w w' : World} (hi : i < 9) (hij : i ≠ 8) (hw4 : i ≠ 4) (hw6 : i ≠ 6) (hT : PreAT G g2 key A3 m c3 l vs i v w w') (h : PreAR G g2 key A3 m c3 l vs 8 w) : PreAR G g2 key A3 m c3 l (fun k => if k = i then v else vs k) 8 w' := by
  match i, hi, hij, hT, hw4, hw6 with
  | 0, _, _, hT, _, _ => exact (show VarN G w' (vs 6) 31 (· = [vs 4]) [vs 5] from VarN.below (show VarN _ w _ _ _ _ from h) hT)
  | 1, _, _, hT, _, _ => exact (show VarN G w' (vs 6) 31 (· = [vs 4]) [vs 5] from VarN.below (show VarN _ w _ _ _ _ from h) hT)
  | 2, _, _, hT, _, _ => exact (show VarN G w' (vs 6) 31 (· = [vs 4]) [vs 5] from VarN.below (show VarN _ w _ _ _ _ from h) hT)
  | 3, _, _, hT, _, _ => exact (show VarN G w' (vs 6) 31 (· = [vs 4]) [vs 5] from VarN.below (show VarN _ w _ _ _ _ from h) hT)
  | 4, _, _, _, hw4, _ => exact absurd rfl hw4
  | 5, _, _, hT, _, _ => exact (show VarN G w' (vs 6) 31 (· = [vs 4]) [v] from VarN.alloc (show VarN _ w _ _ _ _ from h) hT (fun N hm => by simp only [List.mem_cons, List.not_mem_nil, or_false] at hm ⊢; first | (rcases hm with rfl <;> simp) | (exact absurd hm (by simp))))
  | 6, _, _, _, _, hw6 => exact absurd rfl hw6
  | 7, _, _, hT, _, _ => exact (show VarN G w' (vs 6) 31 (· = [vs 4]) [vs 5] from VarN.other (show VarN _ w _ _ _ _ from h) hT (by simp))
  | 8, _, hij, _, _, _ => exact absurd rfl hij
  | n + 9, hi, _, _, _, _ => exact absurd hi (by omega)
end Go.Proofs.YtapbaonlboefeaaDoor
