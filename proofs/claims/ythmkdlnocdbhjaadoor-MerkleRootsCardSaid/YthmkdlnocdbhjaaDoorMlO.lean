/- What comes in: lists of byte strings; the two tables. -/
import Derived.Test.YthmkdlnocdbhjaaDoorMkW
import Derived.Carry
import Derived.Lay
import Derived.ProofKit
import Derived.LaidMore
import Derived.OpenShut
import Derived.Deep.Matrix
import Derived.SizedLaws
import Derived.Lib.LaidTab
import Derived.LaidSub
import Derived.Deep.DeepHandedRow
namespace Go.Proofs.YthmkdlnocdbhjaaDoor
open Go.RowKit Go.ChangeShapes Go.WideShapes Go.Deep

theorem Tryd.cellsRow : Tryd.prog.cellsOf 33 = 1 := by kernel_rfl
theorem Tryd.cellsByte : Tryd.prog.cellsOf 5 = 1 := by kernel_rfl
theorem Tryd.bytesByte : Tryd.prog.bytesOf 5 = 1 := by kernel_rfl
theorem weights_in {H : Type} {P : Program} {e : TypeId} : ∀ {l : List (DataW H)} {d : DataW H}, d ∈ l → ∀ n ∈ d.weights P e, n ∈ DataW.weightsAll P e l
  | d' :: r, d, hd, n, hn => by
    simp only [DataW.weightsAll, List.mem_append]
    rcases List.mem_cons.1 hd with rfl | h
    · exact Or.inl hn
    · exact Or.inr (weights_in h n hn)
/-- How long a row inside may be. -/
theorem row_reach {H : Type} {P : Program} {ts : List TypeId} {ds : List (DataW H)} (h : (DataW.weightsEach P ts ds).all (· ≤ reachBytes) = true) {j : Nat} {t e q : TypeId} {elems spare e' sp' : List (DataW H)}
    (ht : ts[j]? = some t) (hd : ds[j]? = some (.slice elems spare)) (hu : P.underlying t = some (.slice e)) (hu2 : P.underlying e = some (.slice q)) (hx : DataW.slice e' sp' ∈ elems) : (e'.length + sp'.length) * P.bytesOf q ≤ reachBytes := by
  have hw := List.all_eq_true.1 h ((e'.length + sp'.length) * P.bytesOf q) (DataW.weights_mem_each ht hd _ (by
    simp only [DataW.weights, hu, List.mem_cons, List.mem_append]
    exact Or.inr (Or.inl (weights_in hx _ (by simp [DataW.weights, hu2])))))
  exact of_decide_eq_true hw
/-- A byte that a reading gives. -/
theorem byte_wf (n : Int) (h : (Lit.int .u8 n).wf = true) : Value.int .u8 n = by_ (UInt8.ofNat n.toNat) := by
  have hr : 0 ≤ n ∧ n ≤ 255 := by
    simp only [Lit.wf, IntKind.min, IntKind.max, IntKind.bits, IntKind.signed] at h
    simp at h
    omega
  simp [by_]
  omega
def toBytes (l : List Int) : List UInt8 := l.map fun n => UInt8.ofNat n.toNat

theorem cell_lt {W : World} {a : Addr} {v : Value} (h : W.cell? a = some v) : a.block < W.heap.size := by
  rcases Nat.lt_or_ge a.block W.heap.size with h1 | h1
  · exact h1
  · simp [World.cell?, Array.getElem?_eq_none h1] at h
theorem range_get {n j r : Nat} (h : (List.range n)[j]? = some r) : j < n ∧ r = j := by
  obtain ⟨h1, h2⟩ := List.getElem?_eq_some_iff.1 h
  simp at h1 h2
  exact ⟨h1, h2.symm⟩
theorem lits_len {H : Type} (k : IntKind) (zs : List Int) : (lits (H := H) k zs).length = zs.length := by simp [lits]
/-- The bytes of a row that came in. -/
theorem row_sees {W : World} {A : Option Addr} {L C : Nat} {Z : List Int} (h2 : L ≤ C) (h4 : Z.length = C) (h5 : ∀ n ∈ Z, (Lit.int .u8 n).wf = true) (h6 : A = none → C = 0) (h7 : ∀ a', A = some a' → ∀ c, c < C → W.cell? (a'.add c) = some (.int .u8 (Z.getD c 0))) :
    Sees W W.heap.size 1 A L (bys (toBytes (Z.take L))) := by
  have hl : (toBytes (Z.take L)).length = L := by simp [toBytes, h4]; omega
  refine ⟨by rw [bys_len, hl]; omega, ?_⟩
  rcases Nat.eq_zero_or_pos L with h0 | h0
  · exact .inl h0
  · cases A with
    | none => have := h6 rfl; omega
    | some a' =>
      have hc := h7 a' rfl
      refine .inr ⟨a', rfl, ?_, fun j u hu => ?_⟩
      · have := cell_lt (hc 0 (by omega))
        rw [add_block] at this; exact this
      · have hj : j < L := by
          rcases Nat.lt_or_ge j L with h | h
          · exact h
          · rw [List.getElem?_eq_none (by rw [bys_len, hl]; exact h)] at hu; cases hu
        have hjz : j < Z.length := by omega
        rw [bys_get, toBytes, List.getElem?_map, List.getElem?_take, if_pos hj, List.getElem?_eq_getElem hjz] at hu
        simp only [Option.map_some, Option.some.injEq] at hu
        rw [hc j (by omega), List.getD_eq_getElem?_getD, List.getElem?_eq_getElem hjz, Option.getD_some, byte_wf _ (h5 _ (List.getElem_mem hjz)), hu]

section
variable {H : Type} {enc : TypeId × Value → H} {W : World}
/-- A list of byte strings that came in. -/
theorem open_lists {v : Value} {d : DataW H} {p : List MemPlace} (hv : ∃ a n c, v = Value.slice a n c) (h : DataW.Trod enc Tryd.prog W 0 (fun _ => true) true 22 v d p) {ts : List TypeId} {ds : List (DataW H)} {j : Nat} (hts : ts[j]? = some 22) (hds : ds[j]? = some d) (hz : (DataW.weightsEach Tryd.prog ts ds).all (· ≤ reachBytes) = true) (hk : Consts W) :
    ∃ (A : Option Addr) (c : Nat) (vs : List Value) (ls : List (List UInt8)), v = .slice A ls.length c ∧ LsW W W.heap.size A c vs ls := by
  obtain ⟨a0, n0, c0, rfl⟩ := hv
  obtain ⟨fuel, hf⟩ := h
  rcases open_int_rows Tryd.underlying22 Tryd.underlying33 Tryd.underlying5 Tryd.cellsRow Tryd.cellsByte hf with ⟨hcs, -⟩ | ⟨a, len, cap, A, L, C, Z, hcs, -, hl, hm, hx, hrows⟩
  · simp [Value.cells] at hcs
    obtain ⟨rfl, rfl, rfl⟩ := hcs
    exact ⟨none, 0, [], [], rfl, ⟨Sees.nothing _ _ _ _, Lists.nothing _ _, Nat.le_refl _, ⟨Nat.le_refl _, by decide⟩, fun i l h => by simp at h, hk⟩⟩
  · simp [Value.cells] at hcs
    obtain ⟨rfl, rfl, rfl⟩ := hcs
    simp only [Prod.mk.injEq] at hx
    obtain ⟨rfl, rfl⟩ := hx
    have hge : ∀ r, r < n0 → (toBytes ((Z r).take (L r))).length = L r := fun r hr => by
      obtain ⟨_, h2, _, h4, _⟩ := hrows r (by omega)
      simp [toBytes, h4]; omega
    have hls : ∀ (i : Nat) (l : List UInt8), ((List.range n0).map fun r => toBytes ((Z r).take (L r)))[i]? = some l → i < n0 ∧ l = toBytes ((Z i).take (L i)) := fun i l hi => by
      rw [List.getElem?_map, Option.map_eq_some_iff] at hi
      obtain ⟨r, hr, rfl⟩ := hi
      obtain ⟨h1, rfl⟩ := range_get hr
      exact ⟨h1, rfl⟩
    have hvs : ∀ i, i < n0 → ((List.range n0).map fun r => Value.slice (A r) (L r) (C r))[i]? = some (.slice (A i) (L i) (C i)) := fun i hi => by
      rw [List.getElem?_map, List.getElem?_range hi]; rfl
    refine ⟨some a, c0, (List.range n0).map fun r => .slice (A r) (L r) (C r), (List.range n0).map fun r => toBytes ((Z r).take (L r)), by simp, ⟨?_, ⟨by simp, fun i l hi => ?_⟩, Nat.le_refl _, ⟨by simpa using hl, by unfold maxLen at hm; omega⟩, fun i l hi => ?_, hk⟩⟩
    · refine ⟨by simp, ?_⟩
      rcases Nat.eq_zero_or_pos n0 with h0 | h0
      · exact .inl (by simp [h0])
      · refine .inr ⟨a, rfl, ?_, fun j u hu => ?_⟩
        · have := cell_lt (hrows 0 (by omega)).1
          rw [add_block] at this; exact this
        · rw [List.getElem?_map, Option.map_eq_some_iff] at hu
          obtain ⟨r, hr, rfl⟩ := hu
          obtain ⟨h1, rfl⟩ := range_get hr
          exact (hrows r (by omega)).1
    · obtain ⟨h1, rfl⟩ := hls i l hi
      obtain ⟨h2, h3, h4, h5, h6, h7, h8⟩ := hrows i (by omega)
      refine ⟨A i, C i, by rw [hvs i h1, hge i h1], by rw [hge i h1]; exact h3, by unfold maxLen at h4; omega, ?_⟩
      rw [hge i h1]
      exact row_sees h3 h5 h6 h7 (fun a' ha => (h8 a' ha).2)
    · obtain ⟨h1, rfl⟩ := hls i l hi
      obtain ⟨h2, h3, h4, h5, h6, h7, h8⟩ := hrows i (by omega)
      rw [hge i h1]
      cases hA : A i with
      | none => have := h7 hA; omega
      | some a' =>
        have hm : DataW.slice (lits .u8 ((Z i).take (L i))) (lits .u8 ((Z i).drop (L i))) ∈ (List.range n0).map fun r => intRow (H := H) .u8 (A r) (L r) (Z r) := by
          refine List.mem_map.2 ⟨i, List.mem_range.2 h1, ?_⟩
          simp only [intRow, hA]
        have hr := row_reach hz hts hds Tryd.underlying22 Tryd.underlying33 hm
        rw [lits_len, lits_len, Tryd.bytesByte, List.length_take, List.length_drop, h5] at hr
        have e : reachBytes = 140737488351232 := rfl
        omega
/-- The two tables. -/
theorem consts_of {laid : List (String × DataW Unit)} (h : laidMet Tryd.prog laid W) (h1 : laid.filter (fun x => x.1 == "wapentake/sha.constants") = [("wapentake/sha.constants", Lib.tabData .u32 (kTab.map fun x => (x.toNat : Int)))]) (h2 : laid.filter (fun x => x.1 == "wapentake/sha.initials") = [("wapentake/sha.initials", Lib.tabData .u32 (hTab.map fun x => (x.toNat : Int)))]) : Consts W := by
  have f1 := h.filter (fun x => x.1 == "wapentake/sha.constants")
  have f2 := h.filter (fun x => x.1 == "wapentake/sha.initials")
  rw [h1] at f1
  rw [h2] at f2
  have g1 : Tryd.prog.globalNamed "wapentake/sha.constants" = some 1 := by kernel_rfl
  have g2 : Tryd.prog.globalNamed "wapentake/sha.initials" = some 0 := by kernel_rfl
  have t1 := Lib.tabIs_of_head (rest := []) g1 (by kernel_rfl) Tryd.underlying142 Tryd.underlying85 (by kernel_rfl) (by kernel_rfl) f1
  have t2 := Lib.tabIs_of_head (rest := []) g2 (by kernel_rfl) Tryd.underlying132 Tryd.underlying85 (by kernel_rfl) (by kernel_rfl) f2
  have l1 := cell_lt (t1.cell g1 0 (by decide))
  have l2 := cell_lt (t2.cell g2 0 (by decide))
  refine ⟨fun i hi => ?_, fun i hi => ?_, by simp only at l1 l2; omega⟩
  · have hc := t1.cell g1 i (by rw [List.length_map]; exact hi)
    rw [hc, List.getD_eq_getElem?_getD, List.getElem?_map, List.getD_eq_getElem?_getD]
    have hl : i < kTab.length := hi
    rw [List.getElem?_eq_getElem hl]; rfl
  · have hc := t2.cell g2 i (by rw [List.length_map]; exact hi)
    rw [hc, List.getD_eq_getElem?_getD, List.getElem?_map, List.getD_eq_getElem?_getD]
    have hl : i < hTab.length := hi
    rw [List.getElem?_eq_getElem hl]; rfl
end
end Go.Proofs.YthmkdlnocdbhjaaDoor
