/- wapentakeref03.top: the digest that an element and a path give. -/
import Derived.Test.YtdjbaigfpmibnaaDoorRtR
import Derived.Test.YtdjbaigfpmibnaaDoorMvB
import Derived.Test.YtdjbaigfpmibnaaDoorRsG
import Derived.Laws.ResultCell
import Derived.Deep.MidRow
namespace Go.Proofs.YtdjbaigfpmibnaaDoor
open Go.RowKit

theorem results_row_tmp {P : Program} {fn : Func} {p u : Tmp} {ty : TypeId} (h : fn.results = #[.cell p ty, .tmp u]) (tmps : Array Value) (w : World) (g : Nat) (t : TypeId) (cs : List Value) (d : TypeDesc) (x : Value) (hp : tmps.getD p undef = .pointer (some ⟨g, 0, none⟩)) (hx : tmps.getD u undef = x) (hb : HB w g t cs)
    (hu : P.underlying ty = some d) (hd : d.isRow = true) (hi : (P.info? ty).map (·.size) = some cs.length) : (results fn tmps).run P w = .ok (.tuple #[.agg cs.toArray, x]) w := by
  rw [results_cell_tmp h, hp, hx]
  have hl := run_loadVar_mid (P := P) w g 0 ty cs d (fun j u hu => by rw [Nat.zero_add, hb.cell]; exact hu) hu hd hi
  simp only [asAddr, Sem.run_pure, Result.andThen_ok, hl]
/-- Row k of a path that lies. -/
theorem path_row {w : World} {B : Nat} {ad : Addr} {c : Nat} {ps : List (List UInt8)} (h : PathW w B (some ad) c ps) (k : Nat) (hk : k < ps.length) : ∃ pk po, ad.add (k * 32) = ⟨pk, po, none⟩ ∧ pk < B ∧ w.rangeAt pk po (bys (ps[k]'hk)) := by
  obtain ⟨ad', hA, hb, hx⟩ := h.sees.some_ (by omega)
  injection hA with hA
  subst hA
  have hl := h.len _ (List.getElem_mem hk)
  have hpc : ∀ j u, (bys (ps[k]'hk))[j]? = some u → w.cell? ((ad.add (k * 32)).add j) = some u := fun j u hu => by
    rw [add_add]; exact hx _ u (digCells_at ps k hk h.len j u hu)
  obtain ⟨pk, po, hpa⟩ : ∃ pk po, ad.add (k * 32) = ⟨pk, po, none⟩ := by
    have h0 := hpc 0 _ (List.getElem?_eq_getElem (by rw [bys_len, hl]; omega))
    rw [add_zero] at h0
    rcases hh : ad.add (k * 32) with ⟨x, y, z⟩
    refine ⟨x, y, ?_⟩
    rw [hh] at h0
    cases z with
    | none => rfl
    | some _ => simp only [World.cell?] at h0; split at h0 <;> simp at h0
  refine ⟨pk, po, hpa, ?_, fun j u hu => ?_⟩
  · have h1 := congrArg Addr.block hpa
    rw [add_block] at h1
    have h2 : ad.block = pk := h1
    omega
  · have h1 := hpc j u hu
    rw [hpa, Addr.add_mid] at h1; exact h1
theorem digCells_take : ∀ (ps : List (List UInt8)) (k : Nat), (∀ p ∈ ps, p.length = 32) → (digCells ps).take (k * 32) = digCells (ps.take k)
  | [], k, _ => by simp [digCells]
  | p :: ps, 0, _ => by simp [digCells]
  | p :: ps, k + 1, h => by
    have hp := h p (by simp)
    have ih := digCells_take ps k fun q hq => h q (by simp [hq])
    simp only [digCells, List.flatMap_cons, List.take_succ_cons] at ih ⊢
    rw [List.take_append, bys_len, hp, show (k + 1) * 32 - 32 = k * 32 from by omega, ih, List.take_of_length_le (by rw [bys_len]; omega)]
/-- A path without its last ones. -/
theorem PathW.first {w : World} {B : Nat} {A : Option Addr} {c : Nat} {ps : List (List UInt8)} (h : PathW w B A c ps) (k : Nat) (hk : k ≤ ps.length) : PathW w B A c (ps.take k) := by
  have hl : (ps.take k).length = k := by rw [List.length_take]; omega
  refine ⟨?_, fun p hp => h.len p (List.mem_of_mem_take hp), ⟨by rw [hl]; have := h.cap; omega, h.cap.2⟩, h.hB⟩
  have h1 := h.sees.take hk
  rw [digCells_take ps k h.len] at h1
  rw [hl]; exact h1
/-- What top hands back. -/
def TopPost (w : World) (f t i : Nat) (e : List UInt8) (ps : List (List UInt8)) (en : Ending) (w' : World) : Prop :=
  ∃ D : List UInt8, D.length = 32 ∧ en = .returned (.tuple #[.agg (bys D).toArray, .bool (decide (ps.length = (sibs f t i).length))]) ∧ (ps.length = (sibs f t i).length → D = cD i (sibs f t i) ps (shaF (leafB e)) ps.length) ∧ Below w.heap.size w w'

set_option maxRecDepth 20000 in
set_option maxHeartbeats 1600000 in
theorem rtop_one (i0 f : Nat) (Be : Nat) (Ae : Option Addr) (ce : Nat) (e : List UInt8) (w : World) (hs : Sees w Be 1 Ae e.length (bys e)) (hBe : Be ≤ w.heap.size) (hc : e.length ≤ ce) (hcm : ce ≤ 9223372036854775807) (he : e.length ≤ 140737488351232) (Ap : Option Addr) (cp : Nat) (ps : List (List UInt8)) :
    Calls Tryd.prog 46 #[.int .i64 1, .int .i64 (i0 : Int), .slice Ae e.length ce, .slice Ap ps.length cp] w (TopPost w f (f + 1) (f + i0) e ps) := by
  have hz := Tryd.zeroDig
  have hb1 := below_alloc1 w (.cells zdig.toArray 28)
  have hd1 := HB.new w 28 zdig
  have hlf := Lib.hid (rleaf_any Be Ae ce e (w.alloc (.cells zdig.toArray 28)) (hs.alloc hBe _) (by simp; omega) hc hcm he)
  have hsb : sibs f (f + 1) (f + i0) = [] := sibs_one f (f + 1) (f + i0) (by omega)
  have HSB := Lib.hid hsb
  have HLL := Lib.hid (leafB_len e)
  clear hs hsb hc hcm
  go_enter Tryd.func46, Tryd.ntmps46
  go_wp2_with fail
  refine hlf.out.mono ?_
  generalize w.alloc (.cells zdig.toArray 28) = w1 at *
  rintro en w2 ⟨v2, rfl, ho, hB2⟩
  obtain ⟨A2, c2, rfl, hc2, hcm2, -, hs2⟩ := own_slice ho
  have hsm := Lib.hid (rsum_any w2.heap.size A2 c2 (leafB e) w2 hs2 (Nat.le_refl _) (by rw [HLL.out]; omega))
  have hd2 := hd1.below hB2 hd1.lt
  have hb2 := hb1.trans (hB2.mono hb1.size)
  clear hlf ho hs2 hB2 hb1 hd1
  go_wp2_with fail
  refine hsm.out.mono ?_
  rintro en w3 ⟨rfl, hB3⟩
  have hd3 := hd2.below hB3 hd2.lt
  have hb3 := hb2.trans (hB3.mono hb2.size)
  have lD : (shaF (leafB e)).length = 32 := shaF_len _
  have HI := dig_info lD
  have HS := dig_size lD
  have HA := dig_one (shaF (leafB e))
  have hr := hd3.row (bys (shaF (leafB e))).toArray
  have hfin := Below.setRow_ hb3 (Nat.le_refl _) (bys (shaF (leafB e))).toArray
  have HF := Lib.hid hfin
  have HR := Lib.hid hr
  clear hsm hd2 hb2 hB3 hb3 hfin hr HLL
  generalize hDD : shaF (leafB e) = D at *
  have HDD := Lib.hid hDD
  clear hDD
  rcases hps : ps with _ | ⟨p, r⟩
  · subst hps
    go_wp2_with (refine wpList_store_row rfl 28 _ _ rfl w.heap.size (bys D).toArray rfl rfl 28 _ hd3 HI.out HS.out HA.out ?_)
    refine bodyPost_ret (v := .tuple #[.agg (bys D).toArray, .bool true]) (results_row_tmp rfl _ _ w.heap.size 28 (bys D) _ _ rfl rfl HR.out Tryd.underlying28 rfl (by rw [bys_len, lD]; exact Tryd.infoD)) rfl ?_
    refine ⟨D, lD, ?_, fun _ => ?_, HF.out⟩
    · rw [HSB.out]; rfl
    · rw [HSB.out, HDD.out]; rfl
  · subst hps
    have hnz : ((((p :: r).length : Nat) : Int) == 0) = false := by simp only [beq_eq_false_iff_ne, ne_eq, List.length_cons]; omega
    have hnz2 : (((r.length : Int) + 1) == 0) = false := by simp only [beq_eq_false_iff_ne, ne_eq]; omega
    go_wp2_with (refine wpList_store_row rfl 28 _ _ rfl w.heap.size (bys D).toArray rfl rfl 28 _ hd3 HI.out HS.out HA.out ?_)
    refine bodyPost_ret (v := .tuple #[.agg (bys D).toArray, .bool false]) (results_row_tmp rfl _ _ w.heap.size 28 (bys D) _ _ rfl rfl HR.out Tryd.underlying28 rfl (by rw [bys_len, lD]; exact Tryd.infoD)) rfl ?_
    refine ⟨D, lD, ?_, fun h => ?_, HF.out⟩
    · rw [HSB.out]; simp
    · rw [HSB.out] at h; simp at h

set_option maxRecDepth 20000 in
set_option maxHeartbeats 1600000 in
theorem rtop_none (n i0 f : Nat) (h2 : 2 ≤ n) (hn : n < 9223372036854775808) (Ae : Option Addr) (m ce cp : Nat) (e : List UInt8) (Ap : Option Addr) (w : World) :
    Calls Tryd.prog 46 #[.int .i64 (n : Int), .int .i64 (i0 : Int), .slice Ae m ce, .slice Ap 0 cp] w (TopPost w f (f + n) (f + i0) e []) := by
  have hz := Tryd.zeroDig
  have hb1 := below_alloc1 w (.cells zdig.toArray 28)
  have hd1 := HB.new w 28 zdig
  have hsz : Hid ((sibs f (f + n) (f + i0)).length ≠ 0) := Lib.hid (by
    rw [sibs_more f (f + n) (f + i0) (by omega) (by omega)]
    split <;> simp)
  have lD : (zeros 32).length = 32 := zeros_len 32
  have HI : Hid ((Tryd.prog.info? 28).map (·.size) = some zdig.toArray.size) := dig_info lD
  have HS : Hid (zdig.toArray.size = zdig.toArray.size) := Lib.hid rfl
  have HA : Hid (zdig.toArray.all (·.oneCell') = true) := dig_one (zeros 32)
  have hr : HB ((w.alloc (.cells zdig.toArray 28)).setRow w.heap.size zdig.toArray) w.heap.size 28 zdig := by simpa using hd1.row zdig.toArray
  have hfin := Lib.hid (Below.setRow_ hb1 (Nat.le_refl _) zdig.toArray)
  have HR := Lib.hid hr
  have hn1 : (((n : Nat) : Int) == 1) = false := by simp only [beq_eq_false_iff_ne, ne_eq]; omega
  clear hb1 hr
  go_enter Tryd.func46, Tryd.ntmps46
  go_wp2_with (refine wpList_store_row rfl 28 _ _ rfl w.heap.size zdig.toArray rfl rfl 28 _ hd1 HI.out HS.out HA.out ?_)
  refine bodyPost_ret (v := .tuple #[.agg zdig.toArray, .bool false]) (results_row_tmp rfl _ _ w.heap.size 28 zdig _ _ rfl rfl HR.out Tryd.underlying28 rfl (by rw [zdig_len]; exact Tryd.infoD)) rfl ?_
  refine ⟨zeros 32, lD, ?_, fun h => absurd h.symm hsz.out, hfin.out⟩
  have e1 : decide (([] : List (List UInt8)).length = (sibs f (f + n) (f + i0)).length) = false := decide_eq_false fun h => hsz.out h.symm
  rw [e1]; rfl
end Go.Proofs.YtdjbaigfpmibnaaDoor
