/- trie: entries in memory. -/
import Derived.Test.YtapbaonlboefeaaDoorTrP
import Derived.Test.YtapbaonlboefeaaDoorKp
namespace Go.Proofs.YtapbaonlboefeaaDoor
open Go.RowKit

/-- Entries as cells: the key's bytes, the value's slice. -/
def entC : List Value → List Ent → List Value
  | v :: vs, e :: L => (bys e.1 ++ [v]) ++ entC vs L
  | _, _ => []
theorem one_len {k : List UInt8} (h : k.length = 32) (v : Value) : (bys k ++ [v]).length = 33 := by simp [bys_len, h]
theorem entC_len : ∀ (vs : List Value) (L : List Ent), vs.length = L.length → Keys L → (entC vs L).length = L.length * 33
  | [], [], _, _ => rfl
  | [], _ :: _, h, _ => by simp at h
  | _ :: _, [], h, _ => by simp at h
  | v :: vs, e :: L, h, hk => by
    have ih := entC_len vs L (by simpa using h) (fun x hx => hk x (by simp [hx]))
    have h1 := one_len (hk e (by simp)) v
    simp only [entC, List.length_append, List.length_cons] at ih h1 ⊢
    omega
theorem entC_take : ∀ (k : Nat) (vs : List Value) (L : List Ent), vs.length = L.length → Keys L → (entC vs L).take (k * 33) = entC (vs.take k) (L.take k)
  | 0, vs, L, _, _ => by simp [entC]
  | k + 1, [], [], _, _ => by simp [entC]
  | k + 1, [], _ :: _, h, _ => by simp at h
  | k + 1, _ :: _, [], h, _ => by simp at h
  | k + 1, v :: vs, e :: L, h, hk => by
    have ih := entC_take k vs L (by simpa using h) (fun x hx => hk x (by simp [hx]))
    have h1 := one_len (hk e (by simp)) v
    simp only [entC, List.take_succ_cons]
    rw [show (k + 1) * 33 = (bys e.1 ++ [v]).length + k * 33 from by omega, List.take_length_add_append, ih]
theorem entC_drop : ∀ (k : Nat) (vs : List Value) (L : List Ent), vs.length = L.length → Keys L → (entC vs L).drop (k * 33) = entC (vs.drop k) (L.drop k)
  | 0, vs, L, _, _ => by simp
  | k + 1, [], [], _, _ => by simp [entC]
  | k + 1, [], _ :: _, h, _ => by simp at h
  | k + 1, _ :: _, [], h, _ => by simp at h
  | k + 1, v :: vs, e :: L, h, hk => by
    have ih := entC_drop k vs L (by simpa using h) (fun x hx => hk x (by simp [hx]))
    have h1 := one_len (hk e (by simp)) v
    simp only [entC, List.drop_succ_cons]
    rw [show (k + 1) * 33 = (bys e.1 ++ [v]).length + k * 33 from by omega, List.drop_length_add_append, ih]
theorem entC_at : ∀ (vs : List Value) (L : List Ent), vs.length = L.length → Keys L → ∀ (i : Nat) (hv : i < vs.length) (h : i < L.length) (j : Nat), j < 33 → (entC vs L)[i * 33 + j]? = (bys (L[i]'h).1 ++ [vs[i]'hv])[j]?
  | _, [], _, _, i, _, h, _, _ => by simp at h
  | [], _ :: _, _, _, i, hv, _, _, _ => by simp at hv
  | v :: vs, e :: L, hl, hk, 0, _, _, j, hj => by
    have h1 := one_len (hk e (by simp)) v
    simp only [entC, Nat.zero_mul, Nat.zero_add, List.getElem_cons_zero]
    rw [List.getElem?_append_left (by omega)]
  | v :: vs, e :: L, hl, hk, i + 1, hv, h, j, hj => by
    have ih := entC_at vs L (by simpa using hl) (fun x hx => hk x (by simp [hx])) i (by simpa using hv) (by simpa using h) j hj
    have h1 := one_len (hk e (by simp)) v
    simp only [entC, List.getElem_cons_succ]
    rw [show (i + 1) * 33 + j = (bys e.1 ++ [v]).length + (i * 33 + j) from by omega, List.getElem?_append_right (by omega), Nat.add_sub_cancel_left, ih]
/-- A slice of entries. -/
structure EntsW (w : World) (B : Nat) (A : Option Addr) (vs : List Value) (L : List Ent) : Prop where
  len : vs.length = L.length
  sees : Sees w B 33 A L.length (entC vs L)
  vals : Lists w B vs (L.map (·.2))
  keys : Keys L
  short : ∀ e ∈ L, e.2.length ≤ 140737488340000
section
variable {w w' : World} {B B' : Nat} {A : Option Addr} {vs : List Value} {L : List Ent}
theorem EntsW.below (h : EntsW w B A vs L) (hb : Below B w w') : EntsW w' B A vs L := ⟨h.len, h.sees.below hb, h.vals.below hb, h.keys, h.short⟩
theorem EntsW.wide (h : EntsW w B A vs L) (hB : B ≤ B') : EntsW w B' A vs L := ⟨h.len, h.sees.wide hB, h.vals.wide hB, h.keys, h.short⟩
theorem lists_take {ls : List (List UInt8)} (h : Lists w B vs ls) (k : Nat) : Lists w B (vs.take k) (ls.take k) := ⟨by simp [h.1], fun i l hl => by
  have hk : i < k := by
    rcases Nat.lt_or_ge i k with q | q
    · exact q
    · rw [List.getElem?_take, if_neg (by omega)] at hl; cases hl
  rw [List.getElem?_take_of_lt hk] at hl
  obtain ⟨A', c, h1, h2⟩ := h.2 i l hl
  exact ⟨A', c, by rw [List.getElem?_take_of_lt hk]; exact h1, h2⟩⟩
theorem lists_drop {ls : List (List UInt8)} (h : Lists w B vs ls) (k : Nat) : Lists w B (vs.drop k) (ls.drop k) := ⟨by simp [h.1], fun i l hl => by
  rw [List.getElem?_drop] at hl ⊢
  exact h.2 (k + i) l hl⟩
theorem EntsW.take (h : EntsW w B A vs L) {k : Nat} (hk : k ≤ L.length) : EntsW w B A (vs.take k) (L.take k) := by
  have hs := h.sees.take hk
  rw [entC_take k vs L h.len h.keys] at hs
  refine ⟨by simp [h.len], by rw [List.length_take, Nat.min_eq_left hk]; exact hs, by rw [List.map_take]; exact lists_take h.vals k, fun e he => h.keys e (List.mem_of_mem_take he), fun e he => h.short e (List.mem_of_mem_take he)⟩
theorem EntsW.drop (h : EntsW w B A vs L) {k c : Nat} (hk : k ≤ L.length) (hc : L.length ≤ c) : EntsW w B (if c = k then A else A.map (·.add (k * 33))) (vs.drop k) (L.drop k) := by
  have hs := h.sees.drop hk hc
  rw [entC_drop k vs L h.len h.keys] at hs
  refine ⟨by simp [h.len], by rw [List.length_drop]; exact hs, by rw [List.map_drop]; exact lists_drop h.vals k, fun e he => h.keys e (List.mem_of_mem_drop he), fun e he => h.short e (List.mem_of_mem_drop he)⟩
/-- Entry i. -/
theorem EntsW.at_ (h : EntsW w B A vs L) {i : Nat} (hi : i < L.length) : ∃ b o v, A = some ⟨b, o, none⟩ ∧ b < B ∧ w.rangeAt b (o + i * 33) (bys (L[i]'hi).1) ∧ w.cell? ⟨b, o + i * 33 + 32, none⟩ = some v ∧ Slot w B v (L[i]'hi).2 := by
  have hv : i < vs.length := by rw [h.len]; exact hi
  obtain ⟨ad, rfl, hb, hx⟩ := h.sees.some_ (by omega)
  have hkey := h.keys _ (List.getElem_mem hi)
  have hc : ∀ j u, j < 33 → (bys (L[i]'hi).1 ++ [vs[i]'hv])[j]? = some u → w.cell? (ad.add (i * 33 + j)) = some u := fun j u hj hu => hx _ u (by rw [entC_at vs L h.len h.keys i hv hi j hj]; exact hu)
  rcases ad with ⟨b, o, z⟩
  have hz : z = none := by
    obtain ⟨u0, hu0⟩ : ∃ u, (entC vs L)[0]? = some u := ⟨_, List.getElem?_eq_getElem (by rw [entC_len vs L h.len h.keys]; omega)⟩
    have h0 := hx 0 u0 hu0
    rw [add_zero] at h0
    cases z with
    | none => rfl
    | some q =>
      exfalso
      unfold World.cell? at h0
      split at h0
      · simp at h0
      · cases h0
  subst hz
  obtain ⟨A', c', h1, h2, h3, h4⟩ := h.vals.2 i (L[i]'hi).2 (by simp [hi])
  have hvi : vs[i]'hv = .slice A' (L[i]'hi).2.length c' := by
    rw [List.getElem?_eq_getElem hv] at h1; exact Option.some.inj h1
  refine ⟨b, o, vs[i]'hv, rfl, hb, fun j u hu => ?_, ?_, ⟨A', c', hvi, h2, h3, h4⟩⟩
  · have hj : j < 32 := by
      rcases Nat.lt_or_ge j 32 with q | q
      · exact q
      · rw [List.getElem?_eq_none (by rw [bys_len, hkey]; exact q)] at hu; cases hu
    have := hc j u (by omega) (by rw [List.getElem?_append_left (by rw [bys_len, hkey]; exact hj)]; exact hu)
    rw [Addr.add_mid] at this
    rw [Nat.add_assoc]; exact this
  · have := hc 32 (vs[i]'hv) (by omega) (by rw [List.getElem?_append_right (by rw [bys_len, hkey]; omega), bys_len, hkey]; rfl)
    rw [Addr.add_mid] at this
    rw [Nat.add_assoc]; exact this
end
/-- Called so it hands back bytes in new memory. -/
def WroteF (w : World) (l : List UInt8) (e : Ending) (w' : World) : Prop := ∃ v, e = .returned v ∧ SlotK (· < w.heap.size) w' v l ∧ Below w.heap.size w w'
theorem Wrote.toF {w w' : World} {l : List UInt8} {e : Ending} (h : Wrote w l e w') : WroteF w l e w' := by
  obtain ⟨v, h1, h2, h3⟩ := h
  exact ⟨v, h1, SlotK.wrote h2 (fun _ h => h), h3⟩
end Go.Proofs.YtapbaonlboefeaaDoor
