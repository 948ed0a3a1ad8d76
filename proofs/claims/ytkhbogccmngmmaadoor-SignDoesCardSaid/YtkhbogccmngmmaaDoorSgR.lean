/- A ring in memory. -/
import Derived.Test.YtkhbogccmngmmaaDoorSgP
namespace Go.Proofs.YtkhbogccmngmmaaDoor
open Go.RowKit Go.MapKept Go.ChangeMaps
open Go.Maps (Keyed)

def tagF (s : Sg) : List UInt8 := shaF (joinF [[115, 105, 103, 110], b8 s.1.1.toNat, b8 s.1.2.toNat, s.2])
theorem tagF_len (s : Sg) : (tagF s).length = 32 := shaF_len _
def tagV (s : Sg) : Value := .agg (bys (tagF s)).toArray
def cntL (L : List Sg) (k : Nat) : Nat := L.countP (fun s => s.1.1 == (k : Int))
def cntU (U : List (Int × Int)) (k : Nat) : Nat := U.countP (fun p => p.1 == (k : Int))
def talV (nk : Nat) (L : List Sg) (U : List (Int × Int)) : List Value :=
  (List.range (2 * nk)).map fun j => if j % 2 = 0 then .int .i64 (cntL L (j / 2) : Int) else .int .i64 (cntU U (j / 2) : Int)
theorem talV_len (nk : Nat) (L : List Sg) (U : List (Int × Int)) : (talV nk L U).length = 2 * nk := by simp [talV]
theorem talV_L {nk k : Nat} (L : List Sg) (U : List (Int × Int)) (hk : k < nk) : (talV nk L U)[2 * k]? = some (.int .i64 (cntL L k : Int)) := by
  unfold talV
  rw [List.getElem?_map, List.getElem?_range (by omega)]
  simp
theorem talV_U {nk k : Nat} (L : List Sg) (U : List (Int × Int)) (hk : k < nk) : (talV nk L U)[2 * k + 1]? = some (.int .i64 (cntU U k : Int)) := by
  unfold talV
  rw [List.getElem?_map, List.getElem?_range (by omega)]
  simp
  rw [show (2 * k + 1) / 2 = k from by omega]
theorem cntL_snoc (L : List Sg) (s : Sg) (k : Nat) : cntL (L ++ [s]) k = cntL L k + if s.1.1 = (k : Int) then 1 else 0 := by
  unfold cntL; rw [List.countP_append]; simp [List.countP_cons]
theorem cntU_snoc (U : List (Int × Int)) (p : Int × Int) (k : Nat) : cntU (U ++ [p]) k = cntU U k + if p.1 = (k : Int) then 1 else 0 := by
  unfold cntU; rw [List.countP_append]; simp [List.countP_cons]
theorem talV_stepL {nk k : Nat} (L : List Sg) (U : List (Int × Int)) (s : Sg) (hk : k < nk) (hs : s.1.1 = (k : Int)) : (talV nk L U).set (2 * k) (.int .i64 ((cntL L k : Int) + 1)) = talV nk (L ++ [s]) U := by
  apply List.ext_getElem?
  intro j
  rw [List.getElem?_set]
  unfold talV
  rw [List.getElem?_map, List.getElem?_map, List.length_map, List.length_range]
  rcases Nat.lt_or_ge j (2 * nk) with hj | hj
  · rw [List.getElem?_range hj]
    simp only [Option.map_some, cntL_snoc, hs]
    by_cases h1 : 2 * k = j
    · subst h1
      rw [if_pos rfl, if_pos hj, if_pos (by omega), show 2 * k / 2 = k from by omega, if_pos rfl]
      rfl
    · rw [if_neg h1]
      by_cases h2 : j % 2 = 0
      · rw [if_pos h2, if_pos h2, if_neg (by omega)]; rfl
      · rw [if_neg h2, if_neg h2]
  · rw [List.getElem?_eq_none (by simpa using hj), if_neg (by omega)]
    rfl
theorem talV_stepU {nk k : Nat} (L : List Sg) (U : List (Int × Int)) (p : Int × Int) (hk : k < nk) (hs : p.1 = (k : Int)) : (talV nk L U).set (2 * k + 1) (.int .i64 ((cntU U k : Int) + 1)) = talV nk L (U ++ [p]) := by
  apply List.ext_getElem?
  intro j
  rw [List.getElem?_set]
  unfold talV
  rw [List.getElem?_map, List.getElem?_map, List.length_map, List.length_range]
  rcases Nat.lt_or_ge j (2 * nk) with hj | hj
  · rw [List.getElem?_range hj]
    simp only [Option.map_some, cntU_snoc, hs]
    by_cases h1 : 2 * k + 1 = j
    · subst h1
      rw [if_pos rfl, if_pos hj, if_neg (by omega), show (2 * k + 1) / 2 = k from by omega, if_pos rfl]
      rfl
    · rw [if_neg h1]
      by_cases h2 : j % 2 = 0
      · rw [if_pos h2, if_pos h2]
      · rw [if_neg h2, if_neg h2, if_neg (by omega)]; rfl
  · rw [List.getElem?_eq_none (by simpa using hj), if_neg (by omega)]
    rfl

/-- The keys of the two maps. -/
theorem Tryd.lawSg : Keyed Tryd.prog 122 := Keyed.of_law (deep_law_gate (by kernel_rfl) (of_decide_eq_true (by kernel_rfl)) (of_decide_eq_true (by kernel_rfl)) (by kernel_rfl) (by kernel_rfl))
theorem Tryd.lawPl : Keyed Tryd.prog 120 := Keyed.of_law (deep_law_gate (by kernel_rfl) (of_decide_eq_true (by kernel_rfl)) (of_decide_eq_true (by kernel_rfl)) (by kernel_rfl) (by kernel_rfl))
def tagL (L : List Sg) : List (Value × Value) := L.map fun s => (sgV s, tagV s)
def useL (U : List (Int × Int)) : List (Value × Value) := U.map fun p => (plV p, .agg #[])
/-- Where a ring lies: itself, its tallies, its two maps. -/
structure Foot where
  r : Nat
  K : Nat
  T : Nat
  U : Nat
def Foot.mine (f : Foot) (b : Nat) : Prop := b = f.K ∨ b = f.T ∨ b = f.U
structure RingW (w : World) (f : Foot) (nk : Nat) (bud : Int) (L : List Sg) (U : List (Int × Int)) : Prop where
  ring : HB w f.r 115 [.int .i64 bud, .slice (some ⟨f.K, 0, none⟩) nk nk, .map (some f.T), .map (some f.U)]
  tally : HB w f.K 133 (talV nk L U)
  tags : MapL w Tryd.prog 122 f.T (tagL L)
  used : MapL w Tryd.prog 120 f.U (useL U)
  rK : f.r ≠ f.K
  TU : f.T ≠ f.U
  nk : nk ≤ 12
  bud : 1 ≤ bud ∧ bud ≤ 65536
  few : L.length ≤ 4611686018427387904 ∧ U.length ≤ L.length
section
variable {w w' : World} {f : Foot} {nk : Nat} {bud : Int} {L : List Sg} {U : List (Int × Int)}
theorem cells_not_map {g : Nat} {t k : TypeId} {cs : List Value} {l : List (Value × Value)} {b : Nat} (h : HB w g t cs) (h' : MapL w Tryd.prog k b l) : g ≠ b := by
  rintro rfl
  obtain ⟨es, clock, hb, _⟩ := h'
  unfold HB at h
  rw [h] at hb
  cases hb
theorem RingW.of_heap (h : RingW w f nk bud L U) (hr : w'.heap[f.r]? = w.heap[f.r]?) (hK : w'.heap[f.K]? = w.heap[f.K]?) (hT : w'.heap[f.T]? = w.heap[f.T]?) (hU : w'.heap[f.U]? = w.heap[f.U]?) : RingW w' f nk bud L U :=
  ⟨h.ring.keep hr, h.tally.keep hK, h.tags.of_heap hT, h.used.of_heap hU, h.rK, h.TU, h.nk, h.bud, h.few⟩
theorem RingW.below (h : RingW w f nk bud L U) (hb : Below w.heap.size w w') : RingW w' f nk bud L U :=
  h.of_heap (hb.block _ h.ring.lt) (hb.block _ h.tally.lt) (hb.block _ h.tags.lt) (hb.block _ h.used.lt)
theorem RingW.alloc (h : RingW w f nk bud L U) (o : Obj) : RingW (w.alloc o) f nk bud L U := h.below ((Below.refl _ _).alloc (Nat.le_refl _) o)
theorem RingW.drew (h : RingW w f nk bud L U) : RingW w.drew f nk bud L U := h.of_heap rfl rfl rfl rfl
theorem RingW.drewN (h : RingW w f nk bud L U) (n : Nat) : RingW (w.drewN n) f nk bud L U := h.of_heap rfl rfl rfl rfl
/-- Another ring, or whatever else, is written. -/
theorem RingW.turn {S : Nat → Prop} (h : RingW w f nk bud L U) (ht : Turn S w w') (hr : ¬ S f.r) (hK : ¬ S f.K) (hT : ¬ S f.T) (hU : ¬ S f.U) : RingW w' f nk bud L U :=
  h.of_heap (ht.block _ h.ring.lt hr) (ht.block _ h.tally.lt hK) (ht.block _ h.tags.lt hT) (ht.block _ h.used.lt hU)
/-- A cell elsewhere. -/
theorem RingW.far (h : RingW w f nk bud L U) {p : Addr} (hr : f.r ≠ p.block) (hK : f.K ≠ p.block) (hT : f.T ≠ p.block) (hU : f.U ≠ p.block) (v : Value) : RingW (w.setCell p v) f nk bud L U :=
  h.of_heap (heap_setCell_other w p _ v hr) (heap_setCell_other w p _ v hK) (heap_setCell_other w p _ v hT) (heap_setCell_other w p _ v hU)
end
/-- What a signing makes of the lists. -/
def signL (L : List Sg) (s : Sg) : List Sg := if s ∈ L then L else L ++ [s]
def signU (L : List Sg) (U : List (Int × Int)) (s : Sg) : List (Int × Int) := if s ∈ L then U else if s.1 ∈ U then U else U ++ [s.1]
/-- A struct of two plain numbers, and one of that struct and a string, as a map's key. -/
theorem keyLits_two {P : Program} {k a b : TypeId} {f1 f2 : Field} (hu : P.underlying k = some (.struct #[f1, f2])) (h1 : f1.type = a) (h2 : f2.type = b) (o1 : f1.offset = 0) (o2 : f2.offset = 1) (n1 : (f1.name != "_") = true) (n2 : (f2.name != "_") = true)
    (ca : P.cellsOf a = 1) (cb : P.cellsOf b = 1) (ck : P.cellsOf k = 2) (ua : P.underlying a = some (.int .i64)) (ub : P.underlying b = some (.int .i64)) {x y : Int} (wx : (Lit.int .i64 x).wf = true) (wy : (Lit.int .i64 y).wf = true) (d : Nat) :
    P.keyLits (d + 2) k [.int .i64 x, .int .i64 y] = some [.int .i64 x, .int .i64 y] := by
  subst h1 h2
  simp [Program.keyLits, hu, o1, o2, n1, n2, ca, cb, ck, ua, ub, wx, wy]
theorem keyLits_three {P : Program} {g k a b c : TypeId} {f1 f2 f3 f4 : Field} (hg : P.underlying g = some (.struct #[f3, f4])) (hu : P.underlying k = some (.struct #[f1, f2])) (h1 : f1.type = a) (h2 : f2.type = b) (o1 : f1.offset = 0) (o2 : f2.offset = 1) (n1 : (f1.name != "_") = true) (n2 : (f2.name != "_") = true)
    (h3 : f3.type = k) (h4 : f4.type = c) (o3 : f3.offset = 0) (o4 : f4.offset = 2) (n3 : (f3.name != "_") = true) (n4 : (f4.name != "_") = true) (uc : P.underlying c = some .string) (cc : P.cellsOf c = 1) (cg : P.cellsOf g = 3)
    (ca : P.cellsOf a = 1) (cb : P.cellsOf b = 1) (ck : P.cellsOf k = 2) (ua : P.underlying a = some (.int .i64)) (ub : P.underlying b = some (.int .i64)) {x y : Int} (wx : (Lit.int .i64 x).wf = true) (wy : (Lit.int .i64 y).wf = true) {s : ByteArray} (hs : s.size ≤ maxLen) (d : Nat) :
    P.keyLits (d + 3) g [.int .i64 x, .int .i64 y, .string s] = some [.int .i64 x, .int .i64 y, .string s.data.toList] := by
  have h := keyLits_two hu h1 h2 o1 o2 n1 n2 ca cb ck ua ub wx wy d
  have hq : P.keyLits (d + 2) c [.string s] = some [.string s.data.toList] := by simp [Program.keyLits, uc, hs]
  subst h3 h4
  conv => lhs; unfold Program.keyLits
  simp [hg, o3, o4, n3, n4, cc, cg, ck, h, hq]
theorem keyOf_lits {P : Program} {k : TypeId} {fs : Array Field} {cs : List Value} {l : List Lit} (hu : P.underlying k = some (.struct fs)) (hk : P.keyType k = true) (hc : P.cellsOf k = cs.length) (h3 : 3 ≤ P.types.size) (h : ∀ d, P.keyLits (d + 3) k cs = some l) : ∃ kl, keyOf P k (.agg cs.toArray) = some kl := by
  obtain ⟨m, hm⟩ : ∃ m, P.types.size + 1 = m + 3 := ⟨P.types.size - 2, by omega⟩
  have hf : (Value.agg cs.toArray).formed P k = true := by simp [Value.formed, hu, hc]
  unfold keyOf
  rw [hu]
  simp [hk, hf, hm, Value.cells, h]
theorem wfI {n : Int} (h : I64 n) : (Lit.int .i64 n).wf = true := by
  unfold I64 at h
  simp only [Lit.wf, IntKind.min, IntKind.max, IntKind.bits, IntKind.signed]
  simp
  omega
theorem Tryd.many : 3 ≤ Tryd.prog.types.size := of_decide_eq_true (by kernel_rfl)
theorem Tryd.keySgT : Tryd.prog.keyType 122 = true := by kernel_rfl
theorem Tryd.keyPlT : Tryd.prog.keyType 120 = true := by kernel_rfl
theorem Tryd.cellsSg : Tryd.prog.cellsOf 122 = 3 := by kernel_rfl
theorem Tryd.cellsPl : Tryd.prog.cellsOf 120 = 2 := by kernel_rfl
theorem Tryd.cellsInt : Tryd.prog.cellsOf 3 = 1 := by kernel_rfl
theorem Tryd.cellsI64 : Tryd.prog.cellsOf 2 = 1 := by kernel_rfl
theorem Tryd.cellsStr : Tryd.prog.cellsOf 9 = 1 := by kernel_rfl
theorem keySg {s : Sg} (h : SgOk s) : ∃ kl, keyOf Tryd.prog 122 (sgV s) = some kl :=
  keyOf_lits (cs := [.int .i64 s.1.1, .int .i64 s.1.2, .string (strB s.2)]) Tryd.underlying122 Tryd.keySgT Tryd.cellsSg Tryd.many fun d =>
    keyLits_three Tryd.underlying122 Tryd.underlying120 rfl rfl rfl rfl rfl rfl rfl rfl rfl rfl rfl rfl Tryd.underlying9 Tryd.cellsStr Tryd.cellsSg Tryd.cellsInt Tryd.cellsI64 Tryd.cellsPl Tryd.underlying3 Tryd.underlying2 (wfI h.key) (wfI h.ix)
      (by have e : (strB s.2).size = s.2.length := by simp [strB, ByteArray.size]
          have := h.text
          rw [e]; unfold maxLen; omega) d
theorem keyPl {p : Int × Int} (h1 : I64 p.1) (h2 : I64 p.2) : ∃ kl, keyOf Tryd.prog 120 (plV p) = some kl :=
  keyOf_lits (cs := [.int .i64 p.1, .int .i64 p.2]) Tryd.underlying120 Tryd.keyPlT Tryd.cellsPl Tryd.many fun d =>
    keyLits_two Tryd.underlying120 rfl rfl rfl rfl rfl rfl Tryd.cellsInt Tryd.cellsI64 Tryd.cellsPl Tryd.underlying3 Tryd.underlying2 (wfI h1) (wfI h2) (d + 1)
end Go.Proofs.YtkhbogccmngmmaaDoor
