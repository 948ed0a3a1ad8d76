/- What comes in with the rows of layer 5: the two tables of SHA-256; numbers and strings. | What comes in with the rows of layer 5: bytes, strings in a list, steps. | Steps that come in. -/
import Derived.Test.YtkhbogccmngmmaaDoorSgP
import Derived.Carry
import Derived.Lay
import Derived.ProofKit
import Derived.LaidMore
import Derived.OpenShut
import Derived.SizedLaws
import Derived.Lib.LaidTab
import Derived.LaidSub
import Derived.Deep.DeepHandedRow
import Derived.ChangeArms
import Derived.ChangeSlices
import Derived.Deep.Slices
import Derived.Deep.Matrix
import Derived.SliceStrings
namespace Go.Proofs.YtkhbogccmngmmaaDoor
open Go.RowKit Go.ChangeShapes Go.WideShapes

theorem cell_in {W : World} {a : Addr} {v : Value} (h : W.cell? a = some v) : a.block < W.heap.size := by
  rcases Nat.lt_or_ge a.block W.heap.size with h1 | h1
  · exact h1
  · simp [World.cell?, Array.getElem?_eq_none h1] at h
section
variable {W : World}
/-- The two tables. -/
theorem tables_of {laid : List (String × DataW Unit)} (h : laidMet Tryd.prog laid W) (h1 : laid.filter (fun x => x.1 == "wapentake/sha.constants") = [("wapentake/sha.constants", Lib.tabData .u32 (kTab.map fun x => (x.toNat : Int)))]) (h2 : laid.filter (fun x => x.1 == "wapentake/sha.initials") = [("wapentake/sha.initials", Lib.tabData .u32 (hTab.map fun x => (x.toNat : Int)))]) : Consts W := by
  have f1 := h.filter (fun x => x.1 == "wapentake/sha.constants")
  have f2 := h.filter (fun x => x.1 == "wapentake/sha.initials")
  rw [h1] at f1
  rw [h2] at f2
  have g1 : Tryd.prog.globalNamed "wapentake/sha.constants" = some 2 := by kernel_rfl
  have g2 : Tryd.prog.globalNamed "wapentake/sha.initials" = some 1 := by kernel_rfl
  have t1 := Lib.tabIs_of_head (rest := []) g1 (by kernel_rfl) Tryd.underlying179 Tryd.underlying109 (by kernel_rfl) (by kernel_rfl) f1
  have t2 := Lib.tabIs_of_head (rest := []) g2 (by kernel_rfl) Tryd.underlying167 Tryd.underlying109 (by kernel_rfl) (by kernel_rfl) f2
  have l1 := cell_in (t1.cell g1 0 (by decide))
  have l2 := cell_in (t2.cell g2 0 (by decide))
  refine ⟨fun i hi => ?_, fun i hi => ?_, by simp only at l1 l2; omega⟩
  · have hc := t1.cell g1 i (by rw [List.length_map]; exact hi)
    rw [hc, List.getD_eq_getElem?_getD, List.getElem?_map, List.getD_eq_getElem?_getD]
    have hl : i < kTab.length := hi
    rw [List.getElem?_eq_getElem hl]; rfl
  · have hc := t2.cell g2 i (by rw [List.length_map]; exact hi)
    rw [hc, List.getD_eq_getElem?_getD, List.getElem?_map, List.getD_eq_getElem?_getD]
    have hl : i < hTab.length := hi
    rw [List.getElem?_eq_getElem hl]; rfl
/-- A string that came in, as a list of bytes. -/
theorem str_bytes (s : ByteArray) : ∃ t : List UInt8, s = strB t ∧ s.data.toList = t := ⟨s.data.toList, by cases s; simp [strB], rfl⟩
theorem int_range {n : Int} (h : (Lit.int .i64 n).wf = true) : I64 n := by
  simp only [Lit.wf, IntKind.min, IntKind.max, IntKind.bits, IntKind.signed] at h
  simp at h
  exact ⟨by omega, by omega⟩
end
end Go.Proofs.YtkhbogccmngmmaaDoor
namespace Go.Proofs.YtkhbogccmngmmaaDoor
open Go.RowKit Go.ChangeShapes Go.WideShapes Go.Deep

theorem Tryd.cellsByte : Tryd.prog.cellsOf 5 = 1 := by kernel_rfl
theorem Tryd.bytesByte : Tryd.prog.bytesOf 5 = 1 := by kernel_rfl
theorem weightsIn {H : Type} {P : Program} {e : TypeId} : ∀ {l : List (DataW H)} {d : DataW H}, d ∈ l → ∀ n ∈ d.weights P e, n ∈ DataW.weightsAll P e l
  | d' :: r, d, hd, n, hn => by
    simp only [DataW.weightsAll, List.mem_append]
    rcases List.mem_cons.1 hd with rfl | h
    · exact Or.inl hn
    · exact Or.inr (weightsIn h n hn)
/-- A byte that a reading gives. -/
theorem byteWf (n : Int) (h : (Lit.int .u8 n).wf = true) : Value.int .u8 n = by_ (UInt8.ofNat n.toNat) := by
  have hr : 0 ≤ n ∧ n ≤ 255 := by
    simp only [Lit.wf, IntKind.min, IntKind.max, IntKind.bits, IntKind.signed] at h
    simp at h
    omega
  simp [by_]
  omega
def toB (l : List Int) : List UInt8 := l.map fun n => UInt8.ofNat n.toNat

theorem rangeGet {n j r : Nat} (h : (List.range n)[j]? = some r) : j < n ∧ r = j := by
  obtain ⟨h1, h2⟩ := List.getElem?_eq_some_iff.1 h
  simp at h1 h2
  exact ⟨h1, h2.symm⟩
theorem litsLen {H : Type} (k : IntKind) (zs : List Int) : (lits (H := H) k zs).length = zs.length := by simp [lits]
/-- The bytes of a row that came in. -/
theorem rowSees {W : World} {A : Option Addr} {L C : Nat} {Z : List Int} (h2 : L ≤ C) (h4 : Z.length = C) (h5 : ∀ n ∈ Z, (Lit.int .u8 n).wf = true) (h6 : A = none → C = 0) (h7 : ∀ a', A = some a' → ∀ c, c < C → W.cell? (a'.add c) = some (.int .u8 (Z.getD c 0))) :
    Sees W W.heap.size 1 A L (bys (toB (Z.take L))) := by
  have hl : (toB (Z.take L)).length = L := by simp [toB, h4]; omega
  refine ⟨by rw [bys_len, hl]; omega, ?_⟩
  rcases Nat.eq_zero_or_pos L with h0 | h0
  · exact .inl h0
  · cases A with
    | none => have := h6 rfl; omega
    | some a' =>
      have hc := h7 a' rfl
      refine .inr ⟨a', rfl, ?_, fun j u hu => ?_⟩
      · have := cell_in (hc 0 (by omega))
        rw [add_block] at this; exact this
      · have hj : j < L := by
          rcases Nat.lt_or_ge j L with h | h
          · exact h
          · rw [List.getElem?_eq_none (by rw [bys_len, hl]; exact h)] at hu; cases hu
        have hjz : j < Z.length := by omega
        rw [bys_get, toB, List.getElem?_map, List.getElem?_take, if_pos hj, List.getElem?_eq_getElem hjz] at hu
        simp only [Option.map_some, Option.some.injEq] at hu
        rw [hc j (by omega), List.getD_eq_getElem?_getD, List.getElem?_eq_getElem hjz, Option.getD_some, byteWf _ (h5 _ (List.getElem_mem hjz)), hu]

theorem listOf_ {α : Type} {p : Nat → α → Prop} : ∀ n : Nat, (∀ i, i < n → ∃ x, p i x) → ∃ l : List α, l.length = n ∧ ∀ i (h : i < l.length), p i (l[i]'h)
  | 0, _ => ⟨[], rfl, fun i h => absurd h (Nat.not_lt_zero i)⟩
  | n + 1, h => by
    obtain ⟨l, hl, hp⟩ := listOf_ n fun i hi => h i (by omega)
    obtain ⟨x, hx⟩ := h n (by omega)
    refine ⟨l ++ [x], by simp [hl], fun i hi => ?_⟩
    rw [List.length_append, List.length_singleton] at hi
    rcases Nat.lt_or_ge i l.length with h1 | h1
    · rw [List.getElem_append_left h1]; exact hp i h1
    · obtain rfl : i = l.length := by omega
      simp only [List.getElem_concat_length]
      rw [hl]; exact hx
section
variable {H : Type} {enc : TypeId × Value → H} {W : World}
/-- Bytes that came in. -/
theorem openBytes {v : Value} {d : DataW H} {p : List MemPlace} (hv : ∃ a n c, v = Value.slice a n c) (h : DataW.Trod enc Tryd.prog W 0 (fun _ => true) true 31 v d p) {ts : List TypeId} {ds : List (DataW H)} {j : Nat} (hts : ts[j]? = some 31) (hds : ds[j]? = some d) (hz : (DataW.weightsEach Tryd.prog ts ds).all (· ≤ reachBytes) = true) :
    ∃ (A : Option Addr) (c : Nat) (b : List UInt8), v = .slice A b.length c ∧ b.length ≤ c ∧ c ≤ 9223372036854775807 ∧ Sees W W.heap.size 1 A b.length (bys b) ∧ b.length ≤ 140737488351232 := by
  obtain ⟨a0, n0, c0, rfl⟩ := hv
  obtain ⟨fuel, hf⟩ := h
  rcases open_ints Tryd.underlying31 Tryd.underlying5 Tryd.cellsByte hf with ⟨hcs, -⟩ | ⟨a, len, cap, zs, hcs, -, hl, hm, hzl, hx, hc, hw⟩
  · simp [Value.cells] at hcs
    obtain ⟨rfl, rfl, rfl⟩ := hcs
    exact ⟨none, 0, [], rfl, Nat.le_refl _, by decide, Sees.nothing _ _ _ _, by decide⟩
  · simp [Value.cells] at hcs
    obtain ⟨rfl, rfl, rfl⟩ := hcs
    simp only [Prod.mk.injEq] at hx
    obtain ⟨rfl, rfl⟩ := hx
    simp only [if_pos] at hzl
    have hb : (toB (zs.take n0)).length = n0 := by simp [toB, hzl]; omega
    have hs : Sees W W.heap.size 1 (some a) n0 (bys (toB (zs.take n0))) := rowSees (C := c0) hl hzl hw (fun h => by cases h) (fun a' ha c hc' => by injection ha with ha; subst ha; exact hc c (by omega))
    refine ⟨some a, c0, toB (zs.take n0), by rw [hb], by rw [hb]; exact hl, by unfold maxLen at hm; omega, by rw [hb]; exact hs, ?_⟩
    have hr := List.all_eq_true.1 hz (((lits (H := H) .u8 (zs.take n0)).length + (lits (H := H) .u8 (zs.drop n0)).length) * Tryd.prog.bytesOf 5) (DataW.weights_mem_each hts hds _ (by simp [DataW.weights, Tryd.underlying31]))
    have hr := of_decide_eq_true hr
    rw [litsLen, litsLen, Tryd.bytesByte, List.length_take, List.length_drop, hzl] at hr
    have e : reachBytes = 140737488351232 := rfl
    rw [hb]
    omega
theorem digRow {base : Nat} {spare : Nat → Bool} {held : Bool} {fuel : Nat} {cs : List Value} {x : DataW H × List MemPlace} (h : DataW.trod enc Tryd.prog W base spare held fuel 24 cs = some x) : ∃ b : List UInt8, b.length = 32 ∧ cs = bys b := by
  obtain ⟨xs, m, -, -, hcl, hxl, hi⟩ := DataW.trod_array Tryd.underlying24 h
  have hc : Tryd.prog.cellsOf 24 = 32 := by kernel_rfl
  have hc1 : Tryd.prog.cellsOf 5 = 1 := by kernel_rfl
  rw [hc] at hcl
  simp only [hc1] at hi
  obtain ⟨b, hb, hp⟩ := listOf_ (p := fun i (u : UInt8) => cs[i]? = some (by_ u)) 32 fun i hi' => by
    have hl : i < cs.length := by omega
    have h1 := hi i (by omega)
    have e : (cs.drop (i * 1)).take 1 = [cs[i]'hl] := by
      rw [Nat.mul_one, List.drop_eq_getElem_cons hl]; rfl
    rw [e, List.getElem?_eq_getElem (by omega)] at h1
    obtain ⟨z, hz, -, hw⟩ := DataW.trod_int Tryd.underlying5 h1
    injection hz with hz
    refine ⟨UInt8.ofNat z.toNat, ?_⟩
    rw [List.getElem?_eq_getElem hl, hz, byteWf _ hw]
  refine ⟨b, hb, List.ext_getElem? fun i => ?_⟩
  rcases Nat.lt_or_ge i 32 with h32 | h32
  · rw [hp i (by omega), bys_get, List.getElem?_eq_getElem (by omega)]; rfl
  · rw [List.getElem?_eq_none (by omega), List.getElem?_eq_none (by rw [bys_len]; omega)]
end
end Go.Proofs.YtkhbogccmngmmaaDoor
namespace Go.Proofs.YtkhbogccmngmmaaDoor
open Go.RowKit
open Go.RowKit Go.ChangeShapes Go.WideShapes Go.Deep
section
variable {H : Type} {enc : TypeId × Value → H} {W : World}
/-- A step: kind, key, at, index, text, tag. -/
structure Stp where
  kind : Int
  key : Int
  at_ : Int
  ix : Int
  text : List UInt8
  tag : List UInt8
def stC (x : Stp) : List Value := [.int .i64 x.kind, .int .i64 x.key, .int .i64 x.at_, .int .i64 x.ix, .string (strB x.text)] ++ bys x.tag
structure StpOk (x : Stp) : Prop where
  kind : I64 x.kind
  key : I64 x.key
  at_ : I64 x.at_
  ix : I64 x.ix
  text : x.text.length ≤ 140737488351232
  tag : x.tag.length = 32
/-- So many steps lie there. -/
def StepsW (W : World) (A : Option Addr) (l : List Stp) : Prop :=
  ∀ i (h : i < l.length), ∃ ad, A = some ad ∧ ad.block < W.heap.size ∧ StpOk (l[i]'h) ∧ ∀ j u, (stC (l[i]'h))[j]? = some u → W.cell? (ad.add (i * 37 + j)) = some u
theorem step_cells {base : Nat} {spare : Nat → Bool} {held : Bool} {fuel : Nat} {cs : List Value} {x : DataW H × List MemPlace} (h : DataW.trod enc Tryd.prog W base spare held fuel 65 cs = some x) :
    ∃ s : Stp, cs = stC s ∧ I64 s.kind ∧ I64 s.key ∧ I64 s.at_ ∧ I64 s.ix ∧ s.tag.length = 32 ∧ ∃ r : List (DataW H), x.1 = .agg r ∧ r[4]? = some (.lit (.string s.text)) := by
  obtain ⟨xs, n, rfl, rfl, hl, hxl, hf⟩ := DataW.trod_struct Tryd.underlying65 h
  have hc37 : Tryd.prog.cellsOf 65 = 37 := by kernel_rfl
  have c1 : Tryd.prog.cellsOf 3 = 1 := by kernel_rfl
  have c2 : Tryd.prog.cellsOf 2 = 1 := by kernel_rfl
  have c3 : Tryd.prog.cellsOf 9 = 1 := by kernel_rfl
  have c4 : Tryd.prog.cellsOf 24 = 32 := by kernel_rfl
  rw [hc37] at hl
  have one : ∀ (k : Nat) (v : Value), (cs.drop k).take 1 = [v] → cs[k]? = some v := fun k v hv => by
    have e := congrArg (fun l => l[0]?) hv
    simpa [List.getElem?_take, List.getElem?_drop] using e
  have xsn : ∀ k, k < 6 → ∃ y, xs[k]? = some y := fun k hk => ⟨_, List.getElem?_eq_getElem (by rw [hxl]; exact hk)⟩
  obtain ⟨y0, hy0⟩ := xsn 0 (by omega)
  obtain ⟨y1, hy1⟩ := xsn 1 (by omega)
  obtain ⟨y2, hy2⟩ := xsn 2 (by omega)
  obtain ⟨y3, hy3⟩ := xsn 3 (by omega)
  obtain ⟨y4, hy4⟩ := xsn 4 (by omega)
  obtain ⟨y5, hy5⟩ := xsn 5 (by omega)
  have f0 := (hf 0 _ rfl).trans hy0
  have f1 := (hf 1 _ rfl).trans hy1
  have f2 := (hf 2 _ rfl).trans hy2
  have f3 := (hf 3 _ rfl).trans hy3
  have f4 := (hf 4 _ rfl).trans hy4
  have f5 := (hf 5 _ rfl).trans hy5
  change DataW.trod _ _ _ _ _ _ _ 3 ((cs.drop 0).take (Tryd.prog.cellsOf 3)) = _ at f0
  rw [c1] at f0
  change DataW.trod _ _ _ _ _ _ _ 3 ((cs.drop 1).take (Tryd.prog.cellsOf 3)) = _ at f1
  rw [c1] at f1
  change DataW.trod _ _ _ _ _ _ _ 3 ((cs.drop 2).take (Tryd.prog.cellsOf 3)) = _ at f2
  rw [c1] at f2
  change DataW.trod _ _ _ _ _ _ _ 2 ((cs.drop 3).take (Tryd.prog.cellsOf 2)) = _ at f3
  rw [c2] at f3
  change DataW.trod _ _ _ _ _ _ _ 9 ((cs.drop 4).take (Tryd.prog.cellsOf 9)) = _ at f4
  rw [c3] at f4
  change DataW.trod _ _ _ _ _ _ _ 24 ((cs.drop 5).take (Tryd.prog.cellsOf 24)) = _ at f5
  rw [c4] at f5
  obtain ⟨n0, g0, -, w0⟩ := DataW.trod_int Tryd.underlying3 f0
  obtain ⟨n1, g1, -, w1⟩ := DataW.trod_int Tryd.underlying3 f1
  obtain ⟨n2, g2, -, w2⟩ := DataW.trod_int Tryd.underlying3 f2
  obtain ⟨n3, g3, -, w3⟩ := DataW.trod_int Tryd.underlying2 f3
  obtain ⟨s4, g4, hx4, -⟩ := DataW.trod_string Tryd.underlying9 f4
  obtain ⟨b5, hb5, g5⟩ := digRow f5
  obtain ⟨t4, rfl, ht4⟩ := str_bytes s4
  refine ⟨⟨n0, n1, n2, n3, t4, b5⟩, ?_, int_range w0, int_range w1, int_range w2, int_range w3, hb5, _, rfl, by rw [List.getElem?_map, hy4, hx4, ht4]; rfl⟩
  apply List.ext_getElem?
  intro j
  have h0 := one 0 _ g0
  have h1 := one 1 _ g1
  have h2 := one 2 _ g2
  have h3 := one 3 _ g3
  have h4 := one 4 _ g4
  have h5 : ∀ i, i < 32 → cs[5 + i]? = (bys b5)[i]? := fun i hi => by
    have e := congrArg (fun l => l[i]?) g5
    simpa [List.getElem?_take, List.getElem?_drop, hi] using e
  rcases Nat.lt_or_ge j 5 with hj | hj
  · obtain rfl | rfl | rfl | rfl | rfl : j = 0 ∨ j = 1 ∨ j = 2 ∨ j = 3 ∨ j = 4 := by omega
    all_goals simp only [stC, List.cons_append, List.nil_append, List.getElem?_cons_zero, List.getElem?_cons_succ]
    · exact h0
    · exact h1
    · exact h2
    · exact h3
    · exact h4
  · obtain ⟨i, rfl⟩ : ∃ i, j = 5 + i := ⟨j - 5, by omega⟩
    rw [stC, List.getElem?_append_right (by simp)]
    simp only [List.length_cons, List.length_nil]
    rw [show 5 + i - (0 + 1 + 1 + 1 + 1 + 1) = i from by omega]
    rcases Nat.lt_or_ge i 32 with hi | hi
    · exact h5 i hi
    · rw [List.getElem?_eq_none (by omega), List.getElem?_eq_none (by rw [bys_len]; omega)]
/-- Steps that came in. -/
theorem openSteps {v : Value} {d : DataW H} {p : List MemPlace} (hv : ∃ a n c, v = Value.slice a n c) (h : DataW.Trod enc Tryd.prog W 0 (fun _ => true) true 55 v d p) {ts : List TypeId} {ds : List (DataW H)} {j : Nat} (hts : ts[j]? = some 55) (hds : ds[j]? = some d) (hz : (DataW.weightsEach Tryd.prog ts ds).all (· ≤ reachBytes) = true) :
    ∃ (A : Option Addr) (c : Nat) (l : List Stp), v = .slice A l.length c ∧ StepsW W A l ∧ l.length ≤ 1759218604390 := by
  obtain ⟨a0, n0, c0, rfl⟩ := hv
  obtain ⟨fuel, hf⟩ := h
  have hc : Tryd.prog.cellsOf 65 = 37 := by kernel_rfl
  have hby : 80 ≤ Tryd.prog.bytesOf 65 := of_decide_eq_true (by kernel_rfl)
  rcases open_slice Tryd.underlying55 hf with ⟨hcs, -⟩ | ⟨a, len, cap, m, n, D, Pl, hcs, -, hl, hm, hmm, hx0, hx⟩
  · simp [Value.cells] at hcs
    obtain ⟨rfl, rfl, rfl⟩ := hcs
    exact ⟨none, 0, [], rfl, fun i h => absurd h (by simp), by simp⟩
  · simp [Value.cells] at hcs
    obtain ⟨rfl, rfl, rfl⟩ := hcs
    simp only [if_pos] at hmm
    subst hmm
    have hd0 : d = .slice ((List.range n0).map D) ((List.range (m - n0)).map fun j => D (n0 + j)) := congrArg Prod.fst hx0
    subst hd0
    rw [hc] at hx
    obtain ⟨l, hln, hp⟩ := listOf_ (p := fun i (s : Stp) => StpOk s ∧ ∀ j, j < 37 → W.cell? (a.add (i * 37 + j)) = (stC s)[j]?) n0 fun i hi => by
      obtain ⟨cs', h1, h2⟩ := hx i (by omega)
      obtain ⟨s, rfl, k0, k1, k2, k3, k5, r, hr, hr4⟩ := step_cells h2
      obtain ⟨-, -, h3⟩ := World.cells?_some h1
      refine ⟨s, ⟨k0, k1, k2, k3, ?_, k5⟩, fun j hj => by rw [← add_add]; exact h3 j hj⟩
      have hm2 : D i ∈ (List.range n0).map D := List.mem_map.2 ⟨i, List.mem_range.2 (by omega), rfl⟩
      have hw := List.all_eq_true.1 hz s.text.length (DataW.weights_mem_each hts hds _ (by
        simp only [DataW.weights, Tryd.underlying55, List.mem_cons, List.mem_append]
        refine Or.inr (Or.inl (weightsIn hm2 _ ?_))
        rw [show D i = .agg r from hr]
        simp only [DataW.weights, Tryd.underlying65]
        exact DataW.weights_mem_each (j := 4) rfl hr4 _ (by simp [DataW.weights])))
      have hw2 : s.text.length ≤ reachBytes := of_decide_eq_true hw
      exact hw2
    refine ⟨some a, m, l, by rw [hln], fun i hi => ?_, ?_⟩
    · obtain ⟨h1, h2⟩ := hp i hi
      refine ⟨a, rfl, ?_, h1, fun j u hu => ?_⟩
      · have h3 := h2 0 (by omega)
        have h4 := cell_in (h3.trans (show (stC (l[i]'hi))[0]? = some _ from rfl))
        rw [add_block] at h4; exact h4
      · have hj : j < 37 := by
          rcases Nat.lt_or_ge j 37 with h | h
          · exact h
          · rw [List.getElem?_eq_none (by simp [stC, bys_len, h1.tag]; omega)] at hu; cases hu
        rw [h2 j hj]; exact hu
    · have hw := List.all_eq_true.1 hz ((((List.range n0).map D).length + ((List.range (m - n0)).map fun j => D (n0 + j)).length) * Tryd.prog.bytesOf 65) (DataW.weights_mem_each hts hds _ (by
        simp only [DataW.weights, Tryd.underlying55, List.mem_cons]
        first | exact Or.inl rfl | exact Or.inl trivial))
      have hw2 : (((List.range n0).map D).length + ((List.range (m - n0)).map fun j => D (n0 + j)).length) * Tryd.prog.bytesOf 65 ≤ reachBytes := of_decide_eq_true hw
      have hw3 := Nat.le_trans (Nat.mul_le_mul_left (((List.range n0).map D).length + ((List.range (m - n0)).map fun j => D (n0 + j)).length) hby) hw2
      have e : reachBytes = 140737488351232 := rfl
      simp only [List.length_map, List.length_range] at hw3
      omega
end
end Go.Proofs.YtkhbogccmngmmaaDoor
