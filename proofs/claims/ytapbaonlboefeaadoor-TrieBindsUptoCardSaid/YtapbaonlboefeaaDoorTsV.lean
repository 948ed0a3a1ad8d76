/- trie: what comes in: entries, digests; the bound. | trie: bytes that come in, by the bound. -/
import Derived.Test.YtapbaonlboefeaaDoorTsR
import Derived.Test.YtapbaonlboefeaaDoorRows
import Derived.Carry
import Derived.Lay
import Derived.ProofKit
import Derived.LaidMore
import Derived.OpenShut
import Derived.SizedLaws
import Derived.Lib.LaidTab
import Derived.LaidSub
import Derived.Deep.DeepHandedRow
import Derived.ChangeArms
import Derived.ChangeSlices
import Derived.Deep.Slices
import Derived.Deep.Matrix
import Derived.SliceStrings
namespace Go.Proofs.YtapbaonlboefeaaDoor
open Go.RowKit Go.ChangeShapes Go.WideShapes Go.Deep

theorem Tryd.cellsByte : Tryd.prog.cellsOf 5 = 1 := by kernel_rfl
theorem cell_in {W : World} {a : Addr} {v : Value} (h : W.cell? a = some v) : a.block < W.heap.size := by
  rcases Nat.lt_or_ge a.block W.heap.size with h1 | h1
  · exact h1
  · simp [World.cell?, Array.getElem?_eq_none h1] at h
/-- The two tables. -/
theorem str_bytes (s : ByteArray) : ∃ t : List UInt8, s = strB t ∧ s.data.toList = t := ⟨s.data.toList, by cases s; simp [strB], rfl⟩
/-- A byte that a reading gives. -/
theorem byteWf (n : Int) (h : (Lit.int .u8 n).wf = true) : Value.int .u8 n = by_ (UInt8.ofNat n.toNat) := by
  have hr : 0 ≤ n ∧ n ≤ 255 := by
    simp only [Lit.wf, IntKind.min, IntKind.max, IntKind.bits, IntKind.signed] at h
    simp at h
    omega
  simp [by_]
  omega
theorem listOf_ {α : Type} {p : Nat → α → Prop} : ∀ n : Nat, (∀ i, i < n → ∃ x, p i x) → ∃ l : List α, l.length = n ∧ ∀ i (h : i < l.length), p i (l[i]'h)
  | 0, _ => ⟨[], rfl, fun i h => absurd h (Nat.not_lt_zero i)⟩
  | n + 1, h => by
    obtain ⟨l, hl, hp⟩ := listOf_ n fun i hi => h i (by omega)
    obtain ⟨x, hx⟩ := h n (by omega)
    refine ⟨l ++ [x], by simp [hl], fun i hi => ?_⟩
    rw [List.length_append, List.length_singleton] at hi
    rcases Nat.lt_or_ge i l.length with h1 | h1
    · rw [List.getElem_append_left h1]; exact hp i h1
    · obtain rfl : i = l.length := by omega
      simp only [List.getElem_concat_length]
      rw [hl]; exact hx
theorem bulk_pos {H : Type} (d : DataW H) : 1 ≤ Rows.uptoBulk d := by
  cases d with
  | lit l => cases l <;> simp [Rows.uptoBulk]
  | _ => simp [Rows.uptoBulk]
theorem bulk_in {H : Type} {d : DataW H} : ∀ {l : List (DataW H)}, d ∈ l → Rows.uptoBulk d ≤ Rows.uptoBulkAll l
  | x :: r, h => by
    simp only [Rows.uptoBulkAll]
    rcases List.mem_cons.1 h with rfl | h
    · omega
    · have := bulk_in h; omega
theorem bulk_len {H : Type} : ∀ (l : List (DataW H)), l.length ≤ Rows.uptoBulkAll l
  | [] => Nat.zero_le _
  | x :: r => by
    have := bulk_len r
    have := bulk_pos x
    simp only [Rows.uptoBulkAll, List.length_cons]
    omega
section
variable {H : Type} {enc : TypeId × Value → H} {W : World}
/-- The two tables. -/
theorem consts_of {laid : List (String × DataW Unit)} (h : laidMet Tryd.prog laid W) (h1 : laid.filter (fun x => x.1 == "wapentake/sha.constants") = [("wapentake/sha.constants", Lib.tabData .u32 (kTab.map fun x => (x.toNat : Int)))]) (h2 : laid.filter (fun x => x.1 == "wapentake/sha.initials") = [("wapentake/sha.initials", Lib.tabData .u32 (hTab.map fun x => (x.toNat : Int)))]) : Consts W := by
  have f1 := h.filter (fun x => x.1 == "wapentake/sha.constants")
  have f2 := h.filter (fun x => x.1 == "wapentake/sha.initials")
  rw [h1] at f1
  rw [h2] at f2
  have g1 : Tryd.prog.globalNamed "wapentake/sha.constants" = some 2 := by kernel_rfl
  have g2 : Tryd.prog.globalNamed "wapentake/sha.initials" = some 1 := by kernel_rfl
  have t1 := Lib.tabIs_of_head (rest := []) g1 (by kernel_rfl) Tryd.underlying130 Tryd.underlying87 (by kernel_rfl) (by kernel_rfl) f1
  have t2 := Lib.tabIs_of_head (rest := []) g2 (by kernel_rfl) Tryd.underlying118 Tryd.underlying87 (by kernel_rfl) (by kernel_rfl) f2
  have l1 := cell_in (t1.cell g1 0 (by decide))
  have l2 := cell_in (t2.cell g2 0 (by decide))
  refine ⟨fun i hi => ?_, fun i hi => ?_, by simp only at l1 l2; omega⟩
  · have hc := t1.cell g1 i (by rw [List.length_map]; exact hi)
    rw [hc, List.getD_eq_getElem?_getD, List.getElem?_map, List.getD_eq_getElem?_getD]
    have hl : i < kTab.length := hi
    rw [List.getElem?_eq_getElem hl]; rfl
  · have hc := t2.cell g2 i (by rw [List.length_map]; exact hi)
    rw [hc, List.getD_eq_getElem?_getD, List.getElem?_map, List.getD_eq_getElem?_getD]
    have hl : i < hTab.length := hi
    rw [List.getElem?_eq_getElem hl]; rfl
theorem digRow {base : Nat} {spare : Nat → Bool} {held : Bool} {fuel : Nat} {cs : List Value} {x : DataW H × List MemPlace} (h : DataW.trod enc Tryd.prog W base spare held fuel 24 cs = some x) : ∃ b : List UInt8, b.length = 32 ∧ cs = bys b := by
  obtain ⟨xs, m, -, -, hcl, hxl, hi⟩ := DataW.trod_array Tryd.underlying24 h
  have hc : Tryd.prog.cellsOf 24 = 32 := by kernel_rfl
  have hc1 : Tryd.prog.cellsOf 5 = 1 := by kernel_rfl
  rw [hc] at hcl
  simp only [hc1] at hi
  obtain ⟨b, hb, hp⟩ := listOf_ (p := fun i (u : UInt8) => cs[i]? = some (by_ u)) 32 fun i hi' => by
    have hl : i < cs.length := by omega
    have h1 := hi i (by omega)
    have e : (cs.drop (i * 1)).take 1 = [cs[i]'hl] := by
      rw [Nat.mul_one, List.drop_eq_getElem_cons hl]; rfl
    rw [e, List.getElem?_eq_getElem (by omega)] at h1
    obtain ⟨z, hz, -, hw⟩ := DataW.trod_int Tryd.underlying5 h1
    injection hz with hz
    refine ⟨UInt8.ofNat z.toNat, ?_⟩
    rw [List.getElem?_eq_getElem hl, hz, byteWf _ hw]
  refine ⟨b, hb, List.ext_getElem? fun i => ?_⟩
  rcases Nat.lt_or_ge i 32 with h32 | h32
  · rw [hp i (by omega), bys_get, List.getElem?_eq_getElem (by omega)]; rfl
  · rw [List.getElem?_eq_none (by omega), List.getElem?_eq_none (by rw [bys_len]; omega)]

theorem entR_cells {base : Nat} {spare : Nat → Bool} {held : Bool} {fuel : Nat} {cs : List Value} {x : DataW H × List MemPlace} (h : DataW.trod enc Tryd.prog W base spare held fuel 36 cs = some x) :
    ∃ k v : List UInt8, k.length = 32 ∧ cs = bys k ++ [.string (strB v)] ∧ v.length + 1 ≤ Rows.uptoBulk x.1 := by
  obtain ⟨xs, n, rfl, rfl, hl, hxl, hf⟩ := DataW.trod_struct Tryd.underlying36 h
  have hc33 : Tryd.prog.cellsOf 36 = 33 := by kernel_rfl
  have c3 : Tryd.prog.cellsOf 9 = 1 := by kernel_rfl
  have c4 : Tryd.prog.cellsOf 24 = 32 := by kernel_rfl
  rw [hc33] at hl
  have xsn : ∀ k, k < 2 → ∃ y, xs[k]? = some y := fun k hk => ⟨_, List.getElem?_eq_getElem (by rw [hxl]; exact hk)⟩
  obtain ⟨y0, hy0⟩ := xsn 0 (by omega)
  obtain ⟨y1, hy1⟩ := xsn 1 (by omega)
  have f0 := (hf 0 _ rfl).trans hy0
  have f1 := (hf 1 _ rfl).trans hy1
  change DataW.trod _ _ _ _ _ _ _ 24 ((cs.drop 0).take (Tryd.prog.cellsOf 24)) = _ at f0
  rw [c4] at f0
  change DataW.trod _ _ _ _ _ _ _ 9 ((cs.drop 32).take (Tryd.prog.cellsOf 9)) = _ at f1
  rw [c3] at f1
  obtain ⟨k, hk, g0⟩ := digRow f0
  obtain ⟨s, g1, hx1, -⟩ := DataW.trod_string Tryd.underlying9 f1
  obtain ⟨t, rfl, ht⟩ := str_bytes s
  refine ⟨k, t, hk, ?_, ?_⟩
  · rw [← g0, ← g1, List.drop_zero]
    have h32 : (cs.drop 32).take 1 = cs.drop 32 := List.take_of_length_le (by rw [List.length_drop]; omega)
    rw [h32, List.take_append_drop]
  · have hm : y1.1 ∈ xs.map (·.1) := List.mem_map.2 ⟨y1, List.mem_of_getElem? hy1, rfl⟩
    have h1 := bulk_in hm
    rw [hx1, ht] at h1
    simp only [Rows.uptoBulk] at h1 ⊢
    omega
/-- Entries that came in. -/
theorem openEnts {v : Value} {d : DataW H} {p : List MemPlace} (hv : ∃ a n c, v = Value.slice a n c) (h : DataW.Trod enc Tryd.prog W 0 (fun _ => true) true 22 v d p) (hbk : Rows.uptoBulk d ≤ 1048576) :
    ∃ (A : Option Addr) (c : Nat) (L : List Ent), v = .slice A L.length c ∧ EntsR W W.heap.size A L := by
  obtain ⟨a0, n0, c0, rfl⟩ := hv
  obtain ⟨fuel, hf⟩ := h
  have hc : Tryd.prog.cellsOf 36 = 33 := by kernel_rfl
  rcases open_slice Tryd.underlying22 hf with ⟨hcs, -⟩ | ⟨a, len, cap, m, n, D, Pl, hcs, -, hl, hm, hmm, hx0, hx⟩
  · simp [Value.cells] at hcs
    obtain ⟨rfl, rfl, rfl⟩ := hcs
    exact ⟨none, 0, [], rfl, fun e he => (by cases he), by simp, fun e he => (by cases he), fun i h => absurd h (by simp)⟩
  · simp [Value.cells] at hcs
    obtain ⟨rfl, rfl, rfl⟩ := hcs
    simp only [if_pos] at hmm
    subst hmm
    have hd0 : d = .slice ((List.range n0).map D) ((List.range (m - n0)).map fun j => D (n0 + j)) := congrArg Prod.fst hx0
    subst hd0
    simp only [Rows.uptoBulk] at hbk
    rw [hc] at hx
    obtain ⟨L, hln, hp⟩ := listOf_ (p := fun i (e : Ent) => e.1.length = 32 ∧ e.2.length ≤ 1048576 ∧ ∀ j u, (bys e.1 ++ [.string (strB e.2)])[j]? = some u → W.cell? (a.add (i * 33 + j)) = some u) n0 fun i hi => by
      obtain ⟨cs', h1, h2⟩ := hx i (by omega)
      obtain ⟨k, s, hk, rfl, hsl⟩ := entR_cells h2
      obtain ⟨-, -, h3⟩ := World.cells?_some h1
      refine ⟨(k, s), hk, ?_, fun j u hu => ?_⟩
      · have hm2 : D i ∈ (List.range n0).map D := List.mem_map.2 ⟨i, List.mem_range.2 (by omega), rfl⟩
        have h4 := bulk_in hm2
        have h5 : s.length + 1 ≤ Rows.uptoBulk (D i) := hsl
        show s.length ≤ 1048576
        omega
      · have hj : j < 33 := by
          have h6 := (List.getElem?_eq_some_iff.1 hu).1
          have h7 := one_len hk (.string (strB s))
          simp only at h6
          omega
        rw [← add_add, h3 j hj]
        exact hu
    have hL := bulk_len ((List.range n0).map D)
    simp only [List.length_map, List.length_range] at hL
    refine ⟨some a, m, L, by rw [hln], fun e he => ?_, by omega, fun e he => ?_, fun i hi => ?_⟩
    · obtain ⟨i, hi, rfl⟩ := List.getElem_of_mem he
      exact (hp i hi).1
    · obtain ⟨i, hi, rfl⟩ := List.getElem_of_mem he
      exact (hp i hi).2.1
    · obtain ⟨h1, h2, h3⟩ := hp i hi
      rcases a with ⟨b, o, z⟩
      have hlen := one_len h1 (.string (strB (L[i]'hi).2))
      have h0 := h3 0 _ (List.getElem?_eq_getElem (by omega))
      have hb := cell_in h0
      rw [add_block] at hb
      have hz : z = none := by
        cases z with
        | none => rfl
        | some q =>
          exfalso
          obtain ⟨k1, k2, k3⟩ := hp 0 (by omega)
          have hl2 := one_len k1 (.string (strB (L[0]'(by omega)).2))
          have hq := k3 0 _ (List.getElem?_eq_getElem (by omega))
          rw [Nat.zero_mul, Nat.zero_add, add_zero] at hq
          unfold World.cell? at hq
          split at hq
          · simp at hq
          · cases hq
      subst hz
      refine ⟨b, o, rfl, hb, fun j u hu => ?_⟩
      have h4 := h3 j u hu
      rw [Addr.add_mid] at h4
      rw [show o + i * 33 + j = o + (i * 33 + j) from by omega]
      exact h4
theorem okWide_arr {P : Program} {w : World} {r : Reach} {base : Nat} {t : TypeId} {v : Value} {n : Nat} {e : TypeId} (ht : P.underlying t = some (.array n e)) (h : Value.okWide P w r base t v) : ∃ cs, v = .agg cs ∧ cs.size = P.cellsOf t := by
  simp only [Value.okWide, ht] at h
  obtain ⟨cs, h1, h2, _⟩ := h
  exact ⟨cs, h1, h2⟩

set_option maxRecDepth 20000 in
theorem openDig {v : Value} {d : DataW H} {p : List MemPlace} {base : Nat} {r : Reach} (hv : Value.okWide Tryd.prog W r base 24 v) (h : DataW.Trod enc Tryd.prog W 0 (fun _ => true) true 24 v d p) : ∃ b : List UInt8, b.length = 32 ∧ v = .agg (bys b).toArray := by
  obtain ⟨cs, rfl, -⟩ := okWide_arr Tryd.underlying24 hv
  obtain ⟨fuel, hf⟩ := h
  obtain ⟨b, hb, hc⟩ := digRow hf
  refine ⟨b, hb, ?_⟩
  simp only [Value.cells] at hc
  rw [← hc]
end
end Go.Proofs.YtapbaonlboefeaaDoor
namespace Go.Proofs.YtapbaonlboefeaaDoor
open Go.RowKit Go.ChangeShapes Go.WideShapes Go.Deep

def toB (l : List Int) : List UInt8 := l.map fun n => UInt8.ofNat n.toNat
theorem litsLen {H : Type} (k : IntKind) (zs : List Int) : (lits (H := H) k zs).length = zs.length := by simp [lits]
/-- The bytes of a row that came in. -/
theorem rowSees {W : World} {A : Option Addr} {L C : Nat} {Z : List Int} (h2 : L ≤ C) (h4 : Z.length = C) (h5 : ∀ n ∈ Z, (Lit.int .u8 n).wf = true) (h6 : A = none → C = 0) (h7 : ∀ a', A = some a' → ∀ c, c < C → W.cell? (a'.add c) = some (.int .u8 (Z.getD c 0))) :
    Sees W W.heap.size 1 A L (bys (toB (Z.take L))) := by
  have hl : (toB (Z.take L)).length = L := by simp [toB, h4]; omega
  refine ⟨by rw [bys_len, hl]; omega, ?_⟩
  rcases Nat.eq_zero_or_pos L with h0 | h0
  · exact .inl h0
  · cases A with
    | none => have := h6 rfl; omega
    | some a' =>
      have hc := h7 a' rfl
      refine .inr ⟨a', rfl, ?_, fun j u hu => ?_⟩
      · have := cell_in (hc 0 (by omega))
        rw [add_block] at this; exact this
      · have hj : j < L := by
          rcases Nat.lt_or_ge j L with h | h
          · exact h
          · rw [List.getElem?_eq_none (by rw [bys_len, hl]; exact h)] at hu; cases hu
        have hjz : j < Z.length := by omega
        rw [bys_get, toB, List.getElem?_map, List.getElem?_take, if_pos hj, List.getElem?_eq_getElem hjz] at hu
        simp only [Option.map_some, Option.some.injEq] at hu
        rw [hc j (by omega), List.getD_eq_getElem?_getD, List.getElem?_eq_getElem hjz, Option.getD_some, byteWf _ (h5 _ (List.getElem_mem hjz)), hu]

section
variable {H : Type} {enc : TypeId × Value → H} {W : World}
/-- Bytes that came in. -/
theorem openBytes {v : Value} {d : DataW H} {p : List MemPlace} (hv : ∃ a n c, v = Value.slice a n c) (h : DataW.Trod enc Tryd.prog W 0 (fun _ => true) true 31 v d p) (hbk : Rows.uptoBulk d ≤ 1048576) :
    ∃ (A : Option Addr) (c : Nat) (b : List UInt8), v = .slice A b.length c ∧ b.length ≤ c ∧ c ≤ 9223372036854775807 ∧ Sees W W.heap.size 1 A b.length (bys b) ∧ b.length ≤ 1048576 := by
  obtain ⟨a0, n0, c0, rfl⟩ := hv
  obtain ⟨fuel, hf⟩ := h
  rcases open_ints Tryd.underlying31 Tryd.underlying5 Tryd.cellsByte hf with ⟨hcs, -⟩ | ⟨a, len, cap, zs, hcs, -, hl, hm, hzl, hx, hc, hw⟩
  · simp [Value.cells] at hcs
    obtain ⟨rfl, rfl, rfl⟩ := hcs
    exact ⟨none, 0, [], rfl, Nat.le_refl _, by decide, Sees.nothing _ _ _ _, by decide⟩
  · simp [Value.cells] at hcs
    obtain ⟨rfl, rfl, rfl⟩ := hcs
    simp only [Prod.mk.injEq] at hx
    obtain ⟨rfl, rfl⟩ := hx
    simp only [if_pos] at hzl
    have hb : (toB (zs.take n0)).length = n0 := by simp [toB, hzl]; omega
    have hs : Sees W W.heap.size 1 (some a) n0 (bys (toB (zs.take n0))) := rowSees (C := c0) hl hzl hw (fun h => by cases h) (fun a' ha c hc' => by injection ha with ha; subst ha; exact hc c (by omega))
    refine ⟨some a, c0, toB (zs.take n0), by rw [hb], by rw [hb]; exact hl, by unfold maxLen at hm; omega, by rw [hb]; exact hs, ?_⟩
    have h1 := bulk_len (lits (H := H) .u8 (zs.take n0))
    rw [litsLen, List.length_take, hzl] at h1
    simp only [Rows.uptoBulk] at hbk
    rw [hb]
    omega
end
end Go.Proofs.YtapbaonlboefeaaDoor
