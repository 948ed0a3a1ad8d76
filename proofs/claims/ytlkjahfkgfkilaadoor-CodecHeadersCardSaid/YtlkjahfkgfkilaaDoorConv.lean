/- string(b): what the bytes behind a slice are as a string. -/
import Derived.Test.YtlkjahfkgfkilaaDoorAwake
import Derived.Laws.BytesArg
namespace Go.Proofs.YtlkjahfkgfkilaaDoor
open Go.RowKit

def strB (b : List UInt8) : ByteArray := ⟨b.toArray⟩
theorem strB_inj {a b : List UInt8} (h : strB a = strB b) : a = b := by
  have h2 := congrArg (fun x => x.data.toList) h
  simpa [strB] using h2
theorem conv_sees {w : World} {B : Nat} {A : Option Addr} {n : Nat} (c : Nat) {b : List UInt8} (hs : Sees w B 1 A n (bys b)) : (convert 28 9 (.slice A n c)).run Tryd.prog w = .ok (.string (strB b)) w := by
  have hn : b.length = n := by have h := hs.len; rw [bys_len] at h; omega
  cases A with
  | none =>
    have hb : b = [] := by
      rcases hs.2 with h | ⟨ad, h, _⟩
      · exact List.eq_nil_of_length_eq_zero (by omega)
      · cases h
    subst hb
    exact run_convert_bytes_nil w 28 5 Tryd.underlying28 Tryd.underlying5 n c 9 Tryd.underlying9
  | some ad =>
    have hl : (loadCells ad n).run Tryd.prog w = .ok ((b.map fun x => (x.toNat : Int)).map (Value.int .u8)).toArray w := by
      have h := run_loadCells_list (P := Tryd.prog) w ad (bys b) (fun j v hj => by
        rcases hs.2 with h0 | ⟨ad', e, _, hx⟩
        · rw [List.getElem?_eq_none (by rw [bys_len]; omega)] at hj; cases hj
        · injection e with e
          subst e
          exact hx j v hj)
      rw [bys_len, hn] at h
      rw [h]
      simp [bys]
    rw [run_convert_bytes_string w 28 9 5 _ n c Tryd.underlying28 Tryd.underlying5 Tryd.underlying9, run_bytesToString w _ n c _ hl, foldl_push_bytes]
    have e : (b.map fun x => (x.toNat : Int)).map (fun n => UInt8.ofNat n.toNat) = b := by
      rw [List.map_map]
      have h2 : ∀ l : List UInt8, l.map ((fun n : Int => UInt8.ofNat n.toNat) ∘ fun x => (x.toNat : Int)) = l := by
        intro l
        induction l with
        | nil => rfl
        | cons x l ih => rw [List.map_cons, ih]; simp
      exact h2 b
    rw [e]
    simp [strB]
theorem headerR_size {w : World} {p : Nat → Prop} {cs : List Value} {b : List UInt8} (h : headerR w p cs b) : b.length = 208 := by
  obtain ⟨ps, h, rfl⟩ := h
  obtain ⟨_, _, b0, _, rfl, rfl, h0, _, _, b1, _, rfl, rfl, h1, _, _, b2, _, rfl, rfl, h2, _, _, b3, _, rfl, rfl, h3, _, _, b4, _, rfl, rfl, h4, _, _, b5, _, rfl, rfl, h5, _, _, b6, _, rfl, rfl, h6, _, _, b7, _, rfl, rfl, h7, rfl, rfl⟩ := h
  obtain ⟨n0, x0, rfl, rfl, -⟩ := numR_open (.inl rfl) h0
  obtain ⟨n1, x1, rfl, rfl, -⟩ := numR_open (.inl rfl) h1
  obtain ⟨n2, x2, rfl, rfl, -⟩ := numR_open (.inl rfl) h2
  obtain ⟨n3, x3, rfl, rfl, -⟩ := numR_open (.inl rfl) h3
  obtain ⟨hl4, rfl⟩ := h4
  obtain ⟨hl5, rfl⟩ := h5
  obtain ⟨hl6, rfl⟩ := h6
  obtain ⟨n7, x7, rfl, rfl, -⟩ := numR_open (.inl rfl) h7
  simp [joinF_len, partsOf, part_len, b8_len, hl4, hl5, hl6]
theorem headerR_form {w : World} {p : Nat → Prop} {cs : List Value} {b : List UInt8} (h : headerR w p cs b) : headerF b :=
  strR_told (.cons (numR_told _) (.cons (numR_told _) (.cons (numR_told _) (.cons (numR_told _) (.cons digR_told (.cons digR_told (.cons digR_told (.cons (numR_told _) .nil)))))))) _ _ _ _ h (by rw [headerR_size h]; decide)
end Go.Proofs.YtlkjahfkgfkilaaDoor
