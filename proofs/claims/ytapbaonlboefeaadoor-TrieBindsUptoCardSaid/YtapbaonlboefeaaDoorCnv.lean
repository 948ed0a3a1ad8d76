/- string(b), bytes.Equal. -/
import Derived.Test.YtapbaonlboefeaaDoorJb
import Derived.Laws.BytesArg
import Derived.Outline
namespace Go.Proofs.YtapbaonlboefeaaDoor
open Go.RowKit

def strB (b : List UInt8) : ByteArray := ⟨b.toArray⟩
theorem strB_inj {a b : List UInt8} (h : strB a = strB b) : a = b := by
  have h2 := congrArg (fun x => x.data.toList) h
  simpa [strB] using h2
theorem conv_sees {w : World} {B : Nat} {A : Option Addr} {n : Nat} (c : Nat) {b : List UInt8} (hs : Sees w B 1 A n (bys b)) : (convert 31 9 (.slice A n c)).run Tryd.prog w = .ok (.string (strB b)) w := by
  have hn : b.length = n := by have h := hs.len; rw [bys_len] at h; omega
  cases A with
  | none =>
    have hb : b = [] := by
      rcases hs.2 with h | ⟨ad, h, _⟩
      · exact List.eq_nil_of_length_eq_zero (by omega)
      · cases h
    subst hb
    exact run_convert_bytes_nil w 31 5 Tryd.underlying31 Tryd.underlying5 n c 9 Tryd.underlying9
  | some ad =>
    have hl : (loadCells ad n).run Tryd.prog w = .ok ((b.map fun x => (x.toNat : Int)).map (Value.int .u8)).toArray w := by
      have h := run_loadCells_list (P := Tryd.prog) w ad (bys b) (fun j v hj => by
        rcases hs.2 with h0 | ⟨ad', e, _, hx⟩
        · rw [List.getElem?_eq_none (by rw [bys_len]; omega)] at hj; cases hj
        · injection e with e
          subst e
          exact hx j v hj)
      rw [bys_len, hn] at h
      rw [h]
      simp [bys]
    rw [run_convert_bytes_string w 31 9 5 _ n c Tryd.underlying31 Tryd.underlying5 Tryd.underlying9, run_bytesToString w _ n c _ hl, foldl_push_bytes]
    have e : (b.map fun x => (x.toNat : Int)).map (fun n => UInt8.ofNat n.toNat) = b := by
      rw [List.map_map]
      have h2 : ∀ l : List UInt8, l.map ((fun n : Int => UInt8.ofNat n.toNat) ∘ fun x => (x.toNat : Int)) = l := by
        intro l
        induction l with
        | nil => rfl
        | cons x l ih => rw [List.map_cons, ih]; simp
      exact h2 b
    rw [e]
    simp [strB]
theorem strB_list (a : List UInt8) : (strB a).toList = a := ByteArray.toList_mk _
theorem strB_beq (a b : List UInt8) : ((strB a).toList == (strB b).toList) = (a == b) := by rw [strB_list, strB_list]
theorem equal_any (B B' : Nat) (A A' : Option Addr) (c c' : Nat) (a b : List UInt8) (w : World) (ha : Sees w B 1 A a.length (bys a)) (hb : Sees w B' 1 A' b.length (bys b)) :
    Calls Tryd.prog 39 #[.slice A a.length c, .slice A' b.length c'] w fun e w' => e = .returned (.bool (a == b)) ∧ w = w' := by
  have h1 := conv_sees c ha
  have h2 := conv_sees c' hb
  have hs := Lib.hid (strB_beq a b)
  clear ha hb
  go_enter Tryd.func39, Tryd.ntmps39
  go_wp2
  go_ret

  exact ⟨by rw [← hs.out]; rfl, rfl⟩
end Go.Proofs.YtapbaonlboefeaaDoor
