/- wapentakeref05.Sign. WRITTEN BY wip/gen/sds.py. -/
import Derived.Test.YtkhbogccmngmmaaDoorSdC
namespace Go.Proofs.YtkhbogccmngmmaaDoor
open Go.RowKit

/-- What is wrong with a place, in a ring of the document's. -/
def rErr (nk bud : Int) (p : Int × Int) : Int := if p.1 < 0 ∨ nk ≤ p.1 then 2 else if p.2 < 0 ∨ bud ≤ p.2 then 17 else 0
set_option maxRecDepth 20000 in
set_option maxHeartbeats 1600000 in
theorem rsign_range (w : World) (base r : Nat) (nk bud : Int) (v : Value) (L : List Sg) (h : Ring5 w base r nk bud v L) (k i : Int) (hk : k < 0 ∨ nk ≤ k) (tv : Value) :
    Calls Tryd.prog 28 #[.pointer (some ⟨r, 0, none⟩), .int .i64 k, .int .i64 i, tv] w (NoR w 2) := by
  have hz := Tryd.zeroSig
  have hR1 := h.below (below_alloc1 w (.cells sigZ.toArray 61))
  have hc0 := hR1.c0
  have hc1 := hR1.c1
  have hd1 := HB.new w 61 sigZ
  have hB := below_alloc1 w (.cells sigZ.toArray 61)
  have HI := sig_info (i := 0) (zeros_len 32)
  have HL := sig_info_l (i := 0) (zeros_len 32)
  have HS := sig_size (i := 0) (zeros_len 32)
  have HA := sigL_one 0 (zeros 32)
  have hr := hd1.row sigZ.toArray
  have hB8 := Below.setRow_ hB (Nat.le_refl _) sigZ.toArray
  have HBZ := Lib.hid Tryd.builtZ
  clear hB h hR1
  by_cases h0 : k < 0
  · clear hk
    go_enter Tryd.func28, Tryd.ntmps28
    go_wp2_with (first
      | (refine wpList_buildTo rfl 61 _ rfl _ rfl sigZ.toArray (by (simp only [List.map_toArray, List.map_nil]; exact HBZ.out)) ?_)
      | (refine wpList_store_row rfl 61 _ _ rfl w.heap.size sigZ.toArray rfl rfl 61 _ hd1 HI.out HS.out HA.out ?_))
    refine bodyPost_ret (results_sig rfl _ _ w.heap.size 61 sigZ _ (.int .i64 2) rfl rfl hr Tryd.underlying61 rfl HL.out) rfl ?_
    exact ⟨rfl, hB8⟩
  · have h1 : nk ≤ k := by omega
    have h0' : 0 ≤ k := by omega
    clear hk h0
    go_enter Tryd.func28, Tryd.ntmps28
    go_wp2_with (first
      | (refine wpList_buildTo rfl 61 _ rfl _ rfl sigZ.toArray (by (simp only [List.map_toArray, List.map_nil]; exact HBZ.out)) ?_)
      | (refine wpList_store_row rfl 61 _ _ rfl w.heap.size sigZ.toArray rfl rfl 61 _ hd1 HI.out HS.out HA.out ?_))
    refine bodyPost_ret (results_sig rfl _ _ w.heap.size 61 sigZ _ (.int .i64 2) rfl rfl hr Tryd.underlying61 rfl HL.out) rfl ?_
    exact ⟨rfl, hB8⟩
set_option maxRecDepth 20000 in
set_option maxHeartbeats 1600000 in
theorem rsign_budget (w : World) (base r : Nat) (nk bud : Int) (v : Value) (L : List Sg) (h : Ring5 w base r nk bud v L) (k i : Int) (hk0 : 0 ≤ k) (hk1 : k < nk) (hi : i < 0 ∨ bud ≤ i) (tv : Value) :
    Calls Tryd.prog 28 #[.pointer (some ⟨r, 0, none⟩), .int .i64 k, .int .i64 i, tv] w (NoR w 17) := by
  have hz := Tryd.zeroSig
  have hR1 := h.below (below_alloc1 w (.cells sigZ.toArray 61))
  have hc0 := hR1.c0
  have hc1 := hR1.c1
  have hd1 := HB.new w 61 sigZ
  have hB := below_alloc1 w (.cells sigZ.toArray 61)
  have HI := sig_info (i := 0) (zeros_len 32)
  have HL := sig_info_l (i := 0) (zeros_len 32)
  have HS := sig_size (i := 0) (zeros_len 32)
  have HA := sigL_one 0 (zeros 32)
  have hr := hd1.row sigZ.toArray
  have hB8 := Below.setRow_ hB (Nat.le_refl _) sigZ.toArray
  have HBZ := Lib.hid Tryd.builtZ
  clear hB h hR1
  by_cases h0 : i < 0
  · clear hi
    go_enter Tryd.func28, Tryd.ntmps28
    go_wp2_with (first
      | (refine wpList_buildTo rfl 61 _ rfl _ rfl sigZ.toArray (by (simp only [List.map_toArray, List.map_nil]; exact HBZ.out)) ?_)
      | (refine wpList_store_row rfl 61 _ _ rfl w.heap.size sigZ.toArray rfl rfl 61 _ hd1 HI.out HS.out HA.out ?_))
    refine bodyPost_ret (results_sig rfl _ _ w.heap.size 61 sigZ _ (.int .i64 17) rfl rfl hr Tryd.underlying61 rfl HL.out) rfl ?_
    exact ⟨rfl, hB8⟩
  · have h1 : bud ≤ i := by omega
    have h0' : 0 ≤ i := by omega
    clear hi h0
    go_enter Tryd.func28, Tryd.ntmps28
    go_wp2_with (first
      | (refine wpList_buildTo rfl 61 _ rfl _ rfl sigZ.toArray (by (simp only [List.map_toArray, List.map_nil]; exact HBZ.out)) ?_)
      | (refine wpList_store_row rfl 61 _ _ rfl w.heap.size sigZ.toArray rfl rfl 61 _ hd1 HI.out HS.out HA.out ?_))
    refine bodyPost_ret (results_sig rfl _ _ w.heap.size 61 sigZ _ (.int .i64 17) rfl rfl hr Tryd.underlying61 rfl HL.out) rfl ?_
    exact ⟨rfl, hB8⟩
theorem own_heap {w w' : World} {base : Nat} {e : TypeId} {size n : Nat} {v : Value} {xs : List Value} (h : w.ownsRow base e size v n xs) (hh : ∀ g, v.ownBlock = some g → w'.heap[g]? = w.heap[g]?) : w'.ownsRow base e size v n xs := by
  obtain ⟨h1, h2⟩ := h
  refine ⟨h1, ?_⟩
  rcases h2 with h2 | ⟨g, cap, cur, rfl, h3, h4, h5, h6, h7, h8⟩
  · exact .inl h2
  · exact .inr ⟨g, cap, cur, rfl, h3, by rw [hh g rfl]; exact h4, h5, h6, h7, h8⟩
theorem Ring5.of_heap {w w' : World} {base r : Nat} {nk bud : Int} {v : Value} {L : List Sg} (h : Ring5 w base r nk bud v L) (h1 : w'.heap[r]? = w.heap[r]?) (h2 : ∀ g, v.ownBlock = some g → w'.heap[g]? = w.heap[g]?) : Ring5 w' base r nk bud v L :=
  ⟨h.ring.keep h1, own_heap h.list h2⟩
theorem hb_type {w : World} {g : Nat} {t : TypeId} {cs : List Value} (h : HB w g t cs) : ∃ cur z, w.heap[g]? = some (.cells cur t z) := ⟨_, _, h⟩
theorem own_ne {w : World} {base : Nat} {e t : TypeId} {size n g : Nat} {v : Value} {xs cs : List Value} (h : w.ownsRow base e size v n xs) (hg : HB w g t cs) (hne : t ≠ e) : some g ≠ v.ownBlock := fun he => types_ne (hb_type hg) (own_type h g he.symm) hne rfl
/-- The list is longer by one, and the ring knows it. -/
theorem append5 {wa w5 : World} {base r x y : Nat} {nk bud : Int} {v v' : Value} {L : List Sg} {s : Sg} (h : Ring5 wa base r nk bud v L) (hX : HB wa x 127 (sgC s)) (hD : HB wa y 61 sigZ) (hx : some x ≠ v.ownBlock)
    (ho : w5.ownsRow base 127 3 v' (L.length + 1) (sgCs L ++ sgC s)) (hg : wa.grownBy w5 v.ownBlock) :
    w5.cell? ⟨r, 2, none⟩ = some v ∧ w5.frozen? ⟨r, 2, none⟩ = false ∧ Ring5 (w5.setCell ⟨r, 2, none⟩ v') base r nk bud v' (L ++ [s]) ∧ HB (w5.setCell ⟨r, 2, none⟩ v') x 127 (sgC s) ∧ HB (w5.setCell ⟨r, 2, none⟩ v') y 61 sigZ ∧ Turn (fun b => b = r ∨ v.ownBlock = some b) wa (w5.setCell ⟨r, 2, none⟩ v') := by
  have hr5 := h.ring.grown hg (own_ne h.list h.ring (by decide))
  have hx5 := hX.grown hg hx
  have hy5 := hD.grown hg (own_ne h.list hD (by decide))
  have hxr : x ≠ r := types_ne (hb_type hx5) (hb_type hr5) (by decide)
  have hyr : y ≠ r := types_ne (hb_type hy5) (hb_type hr5) (by decide)
  refine ⟨by rw [hr5.cell]; rfl, hr5.frozen 2, ⟨hr5.set_ 2 v', ?_⟩, hx5.far hxr v', hy5.far hyr v', ?_⟩
  · rw [List.length_append, List.length_singleton, sgCs_snoc]
    refine own_heap ho (fun g hg' => heap_setCell_other w5 _ _ _ (fun e => ?_))
    exact own_ne ho hr5 (by decide) (by rw [hg', e])
  · refine (Turn.mono (S := fun b => v.ownBlock = some b) ?_ (fun _ _ hb => .inr hb)).trans (Turn.of_grown (grownBy_setCell_ w5 r 2 v') (.inl rfl))
    exact ⟨hg.os, hg.tape, hg.output, hg.size, fun k hk hs => hg.block k hk (fun e => hs e.symm)⟩
def sgZ5 : List Value := sgC ((0, 0), [])
theorem Tryd.infoSg5 : ∃ i0 : TypeInfo, Tryd.prog.info? 127 = some i0 ∧ i0.zero = some (.agg sgZ5.toArray) ∧ i0.size = 3 ∧ i0.bytes = 32 := by
  have h : (Tryd.prog.info? 127).map (fun i => (i.zero, i.size, i.bytes)) = some (some (.agg sgZ5.toArray), 3, 32) := by kernel_rfl
  exact info_parts h
theorem fill_sg5 (i0 : TypeInfo) (hz1 : i0.size = 3) (s : Sg) : Instr.fill (fun i => some (i * i0.size, i0.size)) ((Array.range (1 * i0.size)).map ((Value.agg sgZ5.toArray).cells[· % (Value.agg sgZ5.toArray).cells.size]!)) [(0, .agg (sgC s).toArray)] = some (sgC s).toArray := by
  rw [hz1]
  have h := fill_fields (fun i => some (i * 3, 3)) [.agg (sgC s).toArray] 0 0 ((Array.range (1 * 3)).map ((Value.agg sgZ5.toArray).cells[· % (Value.agg sgZ5.toArray).cells.size]!)) ⟨by simp [Value.cells, sgC], trivial⟩ (by simp [cellsAll, Value.cells, sgC])
  simpa [cellsAll, Value.cells] using h
theorem sgC_one (s : Sg) : ∀ u ∈ sgC s, u.oneCell' = true := by
  intro u hu
  simp only [sgC, List.mem_cons, List.not_mem_nil, or_false] at hu
  rcases hu with rfl | rfl | rfl <;> rfl
/-- It signs. -/
def SP5 (base r : Nat) (nk bud : Int) (v : Value) (L : List Sg) (cs : List Value) (err : Int) (w : World) (e : Ending) (w' : World) : Prop :=
  e = .returned (.tuple #[.agg cs.toArray, .int .i64 err]) ∧ ∃ v', Ring5 w' base r nk bud v' L ∧ Turn (fun b => b = r ∨ v.ownBlock = some b) w w'
set_option maxRecDepth 20000 in
set_option maxHeartbeats 3200000 in
theorem rsign_new (w : World) (base r : Nat) (nk bud : Int) (v : Value) (L : List Sg) (h : Ring5 w base r nk bud v L) (hin : ∀ x ∈ L, In5 nk bud x) (hn : nk ≤ 12) (hb : bud ≤ 65536) (hfew : L.length ≤ 2000000000000) (hbase : base ≤ w.heap.size) (k i : Int) (t : List UInt8) (hs : In5 nk bud ((k, i), t)) (hmem : ((k, i), t) ∉ L) :
    Calls Tryd.prog 28 #[.pointer (some ⟨r, 0, none⟩), .int .i64 k, .int .i64 i, .string (strB t)] w (SP5 base r nk bud v (L ++ [((k, i), t)]) (sigL i (tagF ((k, i), t))) 0 w) := by
  have hz := Tryd.zeroSig
  have hk0 := hs.k0
  have hk1 := hs.k1
  have hi0 := hs.i0
  have hi1 := hs.i1
  simp only at hk0 hk1 hi0 hi1
  have HOK := Lib.hid (fun x hx => (hin x hx).ok hn hb : ∀ x ∈ L, SgOk x)
  have HSG := Lib.hid (hs.ok hn hb)
  have HTG := Lib.hid (rtag_in hs hn hb)
  have HM := Lib.hid (show decide (((k, i), t) ∈ L) = false by simpa using hmem)
  have hR1 := h.below (below_alloc1 w (.cells sigZ.toArray 61))
  have hc0 := hR1.c0
  have hc1 := hR1.c1
  have hd1 := HB.new w 61 sigZ
  have hB := below_alloc1 w (.cells sigZ.toArray 61)
  have hz1 : (w.alloc (.cells sigZ.toArray 61)).heap.size = w.heap.size + 1 := by simp
  generalize hw1 : w.alloc (.cells sigZ.toArray 61) = w1 at *
  have HR1 := Lib.hid hR1; have HD1 := Lib.hid hd1; have HB1 := Lib.hid hB; have HZ1 := Lib.hid hz1; have HF := Lib.hid hfew; have HBA := Lib.hid hbase
  have HH := Lib.hid h
  clear hin hs hmem hR1 hd1 hB hz1 hn hb hfew h hbase
  go_enter Tryd.func28, Tryd.ntmps28
  go_wp2_with fail
  clear hc0 hc1 hw1 hk0 hk1 hi0 hi1
  have hcs : (sgC ((k, i), t)) = [.int .i64 k, .int .i64 i, .string (strB t)] := rfl
  have hR2 := HR1.out.below (below_alloc1 w1 (.cells (sgC ((k, i), t)).toArray 127))
  have hX2 := HB.new w1 127 (sgC ((k, i), t))
  have hD2 := HD1.out.alloc (.cells (sgC ((k, i), t)).toArray 127)
  have hB2 := HB1.out.alloc (by have := HZ1.out; omega) (.cells (sgC ((k, i), t)).toArray 127)
  have hz2 : (w1.alloc (.cells (sgC ((k, i), t)).toArray 127)).heap.size = w.heap.size + 2 := by have := HZ1.out; simp; omega
  rw [HZ1.out] at hX2 ⊢
  rw [hcs] at hR2 hX2 hD2 hB2 hz2
  generalize w1.alloc (.cells ([.int .i64 k, .int .i64 i, .string (strB t)] : List Value).toArray 127) = w2 at *
  have HR2 := Lib.hid hR2; have HX2 : Hid (HB w2 (w.heap.size + 1) 127 (sgC ((k, i), t))) := Lib.hid hX2; have HD2 := Lib.hid hD2; have HB2 := Lib.hid hB2; have HZ2 := Lib.hid hz2
  clear hR2 hX2 hD2 hB2 hz2 hcs HR1 HD1 HB1 HZ1
  refine (has5_any w2 base r nk bud v L HR2.out HOK.out ((k, i), t) HSG.out).mono ?_
  rintro e w3 ⟨rfl, hB3⟩
  rw [HM.out]
  have HR3 := Lib.hid (HR2.out.below hB3)
  have HX3 := Lib.hid (HX2.out.below hB3 HX2.out.lt)
  have HD3 := Lib.hid (HD2.out.below hB3 HD2.out.lt)
  have HB3 := Lib.hid (HB2.out.trans (hB3.mono HB2.out.size))
  have HZ3 := Lib.hid (show w.heap.size + 2 ≤ w3.heap.size by have := hB3.size; have := HZ2.out; omega)
  clear hB3 HR2 HX2 HD2 HB2 HZ2
  go_wp2_with fail
  obtain ⟨i0, hi0, hz0, hz1, hz2⟩ := Tryd.infoSg5
  have HFL := Lib.hid (fill_sg5 i0 hz1 ((k, i), t))
  have HZ1 := Lib.hid hz1; have HI0 := Lib.hid hi0; have HZ0 := Lib.hid hz0; have HZ2 := Lib.hid hz2
  clear hi0 hz0 hz1 hz2 hz
  have hd3 := Below.drew (Below.refl w3.heap.size w3)
  refine wp_region_held_drew (S := fun _ => True) (by kernel_rfl) trivial (fun hH => ?_)
  obtain ⟨w4, hw4⟩ : ∃ w4 : World, w4 = w3.drew := ⟨_, rfl⟩
  rw [← hw4] at hd3 ⊢
  have HR4 := Lib.hid (HR3.out.below hd3); have HX4 := Lib.hid (HX3.out.below hd3 HX3.out.lt); have HD4 := Lib.hid (HD3.out.below hd3 HD3.out.lt); have HB4 := Lib.hid (HB3.out.trans (hd3.mono HB3.out.size))
  have HNX : Hid (some (w.heap.size + 1) ≠ v.ownBlock) := Lib.hid (fun e => by have := (HH.out.list.lt _ e.symm).2; omega)
  have HXa := Lib.hid (HX4.out.alloc (.cells (sgC ((k, i), t)).toArray 127)); have HRa := Lib.hid (HR4.out.below (below_alloc1 w4 (.cells (sgC ((k, i), t)).toArray 127)))
  clear hd3 hw4 HR3 HX3 HD3 HB3
  try simp only [Act.put, List.getElem_toArray, List.getElem_cons_succ, List.getElem_cons_zero, List.setIfInBounds_toArray, List.set_cons_succ, List.set_cons_zero]
  refine wpAnyH_take (i := 0) (v := ?v1) rfl (by kernel_rfl) (by kernel_rfl) (by kernel_rfl) (fun _ _ _ h => h) (Or.inl ⟨by rfl, ?y1⟩) hH ?_
  case y1 => intro w' hSw; clear hSw; (first | (go_simp; done) | (go_simp; with_reducible rfl))
  try simp only [Act.put, List.getElem_toArray, List.getElem_cons_zero, List.setIfInBounds_toArray, List.set_cons_succ, List.set_cons_zero]
  refine wpAnyH_take (i := 1) (v := ?v2) rfl (by kernel_rfl) (by kernel_rfl) (by kernel_rfl) (fun _ _ _ h => h) (Or.inl ⟨by rfl, ?y2⟩) hH ?_
  case y2 => intro w' hSw; clear hSw; (first | (go_simp; done) | (go_simp; with_reducible rfl))
  try simp only [Act.put, List.getElem_toArray, List.getElem_cons_succ, List.getElem_cons_zero, List.setIfInBounds_toArray, List.set_cons_succ, List.set_cons_zero]
  refine wpAnyH_take (i := 2) (v := ?v3) rfl (by kernel_rfl) (by kernel_rfl) (by kernel_rfl) (fun _ _ _ h => h) (Or.inl ⟨by rfl, ?y3⟩) hH ?_
  case y3 => intro w' hSw; clear hSw; (first | (go_simp; done) | (go_simp; with_reducible rfl))
  try simp only [Act.put, List.getElem_toArray, List.getElem_cons_succ, List.getElem_cons_zero, List.setIfInBounds_toArray, List.set_cons_succ, List.set_cons_zero]
  refine wpAnyH_take (i := 3) (v := ?v4) rfl (by kernel_rfl) (by kernel_rfl) (by kernel_rfl) (fun _ _ _ h => h) (Or.inl ⟨by rfl, ?y4⟩) hH ?_
  case y4 => intro w' hSw; clear hSw; (first | (go_simp; done) | (go_simp; with_reducible rfl))
  try simp only [Act.put, List.getElem_toArray, List.getElem_cons_succ, List.getElem_cons_zero, List.setIfInBounds_toArray, List.set_cons_succ, List.set_cons_zero]
  refine wpAnyH_ready (rs := [4, 5]) (by kernel_rfl) (by simp) ?_
  refine AllReadyH.cons rfl (fun K hK => ?_) (AllReadyH.cons rfl (fun K hK => ?_) AllReadyH.nil)
  · have hc2 := HR4.out.c2
    go_simp
    refine hK.out _ _ trivial (fun _ => ?_)
    clear hK K
    try simp only [Act.put, List.getElem_toArray, List.getElem_cons_succ, List.getElem_cons_zero, List.setIfInBounds_toArray, List.set_cons_succ, List.set_cons_zero]
    refine wpAnyH_ready (rs := [5]) (by kernel_rfl) (by simp) ?_
    refine AllReadyH.cons rfl (fun K hK => ?_) AllReadyH.nil
    rw [if_pos (by rfl)]
    refine wp_load_mid 127 _ rfl (w.heap.size + 1) 0 rfl (sgC ((k, i), t)) _ HX4.out.range Tryd.underlying127 rfl (by kernel_rfl) ?_
    refine hK.out _ _ trivial (fun _ => ?_)
    clear hK K
    try simp only [Act.put, List.getElem_toArray, List.getElem_cons_succ, List.getElem_cons_zero, List.setIfInBounds_toArray, List.set_cons_succ, List.set_cons_zero]
    refine wpAnyH_ready (rs := [6]) (by kernel_rfl) (by simp) ?_
    refine AllReadyH.cons rfl (fun K hK => ?_) AllReadyH.nil
    rw [if_pos (by rfl)]
    refine wp_buildSlice 116 127 1 _ rfl (sgC ((k, i), t)).toArray i0 (.agg sgZ5.toArray) Tryd.underlying116 HI0.out HZ0.out (by rw [HZ1.out]; decide) (by rw [HZ1.out]; decide) (by (simp only [List.map_toArray, List.map_cons, List.map_nil]; exact HFL.out)) ?_
    refine hK.out _ _ trivial (fun _ => ?_)
    clear hK K
    try simp only [Act.put, List.getElem_toArray, List.getElem_cons_succ, List.getElem_cons_zero, List.setIfInBounds_toArray, List.set_cons_succ, List.set_cons_zero]
    refine wpAnyH_ready (rs := [7]) (by kernel_rfl) (by simp) ?_
    refine AllReadyH.cons rfl (fun K hK => ?_) AllReadyH.nil
    rw [if_pos (by rfl)]
    refine wp_append_own _ (.tmp 45) (.tmp 47) 116 rfl base 127 i0 (.agg sgZ5.toArray) 3 32 Tryd.underlying116 HI0.out HZ0.out HZ1.out HZ2.out rfl (by decide) v L.length _ rfl (HR4.out.list.alloc _) ⟨w4.heap.size, 0, none⟩ 1 1 (sgC ((k, i), t)) rfl rfl ?c1 (sgC_one _) ?c3 ?c4 ?c5 ?_
    case c1 => intro j u hu; rw [add_at, boxed]; simpa using hu
    case c3 => have := HF.out; unfold maxLen; omega
    case c4 => have := HF.out; omega
    case c5 => have := HBA.out; have := HB4.out.size; simp; omega
    intro v5 w5 hown5 hg5 _
    have hwa := below_alloc1 w4 (.cells (sgC ((k, i), t)).toArray 127)
    obtain ⟨hc5, hf5, hR6, hX6, hD6, hT6⟩ := append5 (HR4.out.below hwa) (HX4.out.below hwa HX4.out.lt) (HD4.out.below hwa HD4.out.lt) HNX.out hown5 hg5
    obtain ⟨A5, cap5, rfl, -, -, -, -⟩ := own_slice hown5
    have HR6 := Lib.hid hR6; have HX6 := Lib.hid hX6; have HD6 := Lib.hid hD6
    have HT6 := Lib.hid ((Turn.of_below (S := fun b => b = r ∨ v.ownBlock = some b) (HB4.out.trans (hwa.mono HB4.out.size))).trans hT6)
    clear hR6 hX6 hD6 hT6 hown5 hg5 hwa
    refine hK.out _ _ trivial (fun _ => ?_)
    clear hK K
    try simp only [Act.put, List.getElem_toArray, List.getElem_cons_succ, List.getElem_cons_zero, List.setIfInBounds_toArray, List.set_cons_succ, List.set_cons_zero]
    refine wpAnyH_take (i := 8) (v := ?v5) rfl (by kernel_rfl) (by kernel_rfl) (by kernel_rfl) (fun _ _ _ h => h) (Or.inl ⟨by rfl, ?y5⟩) hH ?_
    case y5 => intro w' hSw; clear hSw; (first | (go_simp; done) | (go_simp; with_reducible rfl))
    try simp only [Act.put, List.getElem_toArray, List.getElem_cons_succ, List.getElem_cons_zero, List.setIfInBounds_toArray, List.set_cons_succ, List.set_cons_zero]
    refine wpAnyH_take (i := 9) (v := ?v6) rfl (by kernel_rfl) (by kernel_rfl) (by kernel_rfl) (fun _ _ _ h => h) (Or.inl ⟨by rfl, ?y6⟩) hH ?_
    case y6 => intro w' hSw; clear hSw; (first | (go_simp; done) | (go_simp; with_reducible rfl))
    try simp only [Act.put, List.getElem_toArray, List.getElem_cons_succ, List.getElem_cons_zero, List.setIfInBounds_toArray, List.set_cons_succ, List.set_cons_zero]
    refine wpAnyH_ready (rs := [10]) (by kernel_rfl) (by simp) ?_
    refine AllReadyH.cons rfl (fun K hK => ?_) AllReadyH.nil
    go_simp
    clear hc5 hf5
    generalize w5.setCell ⟨r, 2, none⟩ (.slice A5 (L.length + 1) cap5) = w6 at *
    refine hK.out _ _ trivial (fun _ => ?_)
    clear hK K
    try simp only [Act.put, List.getElem_toArray, List.getElem_cons_succ, List.getElem_cons_zero, List.setIfInBounds_toArray, List.set_cons_succ, List.set_cons_zero]
    refine wpAnyH_done (by kernel_rfl) ?_ _
    clear hH
    have HSI := sig_info (i := i) (tagF_len ((k, i), t))
    have HSL := sig_info_l (i := i) (tagF_len ((k, i), t))
    have HSS := sig_size (i := i) (tagF_len ((k, i), t))
    have HSA := sigL_one i (tagF ((k, i), t))
    have HBS := Lib.hid (built_sig i (tagF ((k, i), t)) (tagF_len ((k, i), t)))
    generalize tagF ((k, i), t) = dg at *
    have hx6 := HX6.out
    go_wp2_with (refine wpList_load_row rfl 127 _ rfl (w.heap.size + 1) rfl 127 (sgC ((k, i), t)).toArray (0, 0) _ hx6 Tryd.underlying127 rfl (by kernel_rfl) ?_)
    refine (HTG.out w6).mono ?_
    rintro e w7 ⟨rfl, hB7⟩
    have hd7 := HD6.out.below hB7 HD6.out.lt
    have hr := hd7.row (sigL i dg).toArray
    have hset : ∀ b, b ≠ w.heap.size → (w7.setRow w.heap.size (sigL i dg).toArray).heap[b]? = w7.heap[b]? := fun b hb => by
      simp only [World.setRow, Array.getElem?_modify]
      rw [if_neg (by omega)]
    have hR7 := HR6.out.below hB7
    have HR8 := Lib.hid (hR7.of_heap (hset _ (types_ne (hb_type hR7.ring) (hb_type hd7) (by decide))) (fun g hg => hset _ (fun e => own_ne hR7.list hd7 (by decide) (by rw [hg, e]))))
    have ht8 : Turn (fun b => b = r ∨ v.ownBlock = some b) w (w7.setRow w.heap.size (sigL i dg).toArray) := by
      have h2 := HT6.out.trans (Turn.of_below hB7)
      refine ⟨h2.os, h2.tape, h2.output, by simpa using h2.size, fun b hb hm => ?_⟩
      rw [hset b (by omega)]
      exact h2.block b hb hm
    have HT8 := Lib.hid ht8
    clear hB7 hset hR7 ht8 hx6
    go_wp2_with (first
      | (refine wpList_buildTo rfl 61 _ rfl _ rfl (sigL i dg).toArray (by (simp only [List.map_toArray, List.map_cons, List.map_nil]; exact HBS.out)) ?_)
      | (refine wpList_store_row rfl 61 _ _ rfl w.heap.size (sigL i dg).toArray rfl rfl 61 _ hd7 HSI.out HSS.out HSA.out ?_))
    refine bodyPost_ret (results_sig rfl _ _ w.heap.size 61 (sigL i dg) _ (.int .i64 0) rfl rfl hr Tryd.underlying61 rfl HSL.out) rfl ?_
    exact ⟨rfl, _, HR8.out, HT8.out⟩
  · rw [if_pos (by rfl)]
    refine wp_load_mid 127 _ rfl (w.heap.size + 1) 0 rfl (sgC ((k, i), t)) _ HX4.out.range Tryd.underlying127 rfl (by kernel_rfl) ?_
    refine hK.out _ _ trivial (fun _ => ?_)
    clear hK K
    try simp only [Act.put, List.getElem_toArray, List.getElem_cons_succ, List.getElem_cons_zero, List.setIfInBounds_toArray, List.set_cons_succ, List.set_cons_zero]
    refine wpAnyH_ready (rs := [4, 6]) (by kernel_rfl) (by simp) ?_
    refine AllReadyH.cons rfl (fun K hK => ?_) (AllReadyH.cons rfl (fun K hK => ?_) AllReadyH.nil)
    · have hc2 := HR4.out.c2
      go_simp
      refine hK.out _ _ trivial (fun _ => ?_)
      clear hK K
      try simp only [Act.put, List.getElem_toArray, List.getElem_cons_succ, List.getElem_cons_zero, List.setIfInBounds_toArray, List.set_cons_succ, List.set_cons_zero]
      refine wpAnyH_ready (rs := [6]) (by kernel_rfl) (by simp) ?_
      refine AllReadyH.cons rfl (fun K hK => ?_) AllReadyH.nil
      rw [if_pos (by rfl)]
      refine wp_buildSlice 116 127 1 _ rfl (sgC ((k, i), t)).toArray i0 (.agg sgZ5.toArray) Tryd.underlying116 HI0.out HZ0.out (by rw [HZ1.out]; decide) (by rw [HZ1.out]; decide) (by (simp only [List.map_toArray, List.map_cons, List.map_nil]; exact HFL.out)) ?_
      refine hK.out _ _ trivial (fun _ => ?_)
      clear hK K
      try simp only [Act.put, List.getElem_toArray, List.getElem_cons_succ, List.getElem_cons_zero, List.setIfInBounds_toArray, List.set_cons_succ, List.set_cons_zero]
      refine wpAnyH_ready (rs := [7]) (by kernel_rfl) (by simp) ?_
      refine AllReadyH.cons rfl (fun K hK => ?_) AllReadyH.nil
      rw [if_pos (by rfl)]
      refine wp_append_own _ (.tmp 45) (.tmp 47) 116 rfl base 127 i0 (.agg sgZ5.toArray) 3 32 Tryd.underlying116 HI0.out HZ0.out HZ1.out HZ2.out rfl (by decide) v L.length _ rfl (HR4.out.list.alloc _) ⟨w4.heap.size, 0, none⟩ 1 1 (sgC ((k, i), t)) rfl rfl ?c1 (sgC_one _) ?c3 ?c4 ?c5 ?_
      case c1 => intro j u hu; rw [add_at, boxed]; simpa using hu
      case c3 => have := HF.out; unfold maxLen; omega
      case c4 => have := HF.out; omega
      case c5 => have := HBA.out; have := HB4.out.size; simp; omega
      intro v5 w5 hown5 hg5 _
      have hwa := below_alloc1 w4 (.cells (sgC ((k, i), t)).toArray 127)
      obtain ⟨hc5, hf5, hR6, hX6, hD6, hT6⟩ := append5 (HR4.out.below hwa) (HX4.out.below hwa HX4.out.lt) (HD4.out.below hwa HD4.out.lt) HNX.out hown5 hg5
      obtain ⟨A5, cap5, rfl, -, -, -, -⟩ := own_slice hown5
      have HR6 := Lib.hid hR6; have HX6 := Lib.hid hX6; have HD6 := Lib.hid hD6
      have HT6 := Lib.hid ((Turn.of_below (S := fun b => b = r ∨ v.ownBlock = some b) (HB4.out.trans (hwa.mono HB4.out.size))).trans hT6)
      clear hR6 hX6 hD6 hT6 hown5 hg5 hwa
      refine hK.out _ _ trivial (fun _ => ?_)
      clear hK K
      try simp only [Act.put, List.getElem_toArray, List.getElem_cons_succ, List.getElem_cons_zero, List.setIfInBounds_toArray, List.set_cons_succ, List.set_cons_zero]
      refine wpAnyH_take (i := 8) (v := ?v7) rfl (by kernel_rfl) (by kernel_rfl) (by kernel_rfl) (fun _ _ _ h => h) (Or.inl ⟨by rfl, ?y7⟩) hH ?_
      case y7 => intro w' hSw; clear hSw; (first | (go_simp; done) | (go_simp; with_reducible rfl))
      try simp only [Act.put, List.getElem_toArray, List.getElem_cons_succ, List.getElem_cons_zero, List.setIfInBounds_toArray, List.set_cons_succ, List.set_cons_zero]
      refine wpAnyH_take (i := 9) (v := ?v8) rfl (by kernel_rfl) (by kernel_rfl) (by kernel_rfl) (fun _ _ _ h => h) (Or.inl ⟨by rfl, ?y8⟩) hH ?_
      case y8 => intro w' hSw; clear hSw; (first | (go_simp; done) | (go_simp; with_reducible rfl))
      try simp only [Act.put, List.getElem_toArray, List.getElem_cons_succ, List.getElem_cons_zero, List.setIfInBounds_toArray, List.set_cons_succ, List.set_cons_zero]
      refine wpAnyH_ready (rs := [10]) (by kernel_rfl) (by simp) ?_
      refine AllReadyH.cons rfl (fun K hK => ?_) AllReadyH.nil
      go_simp
      clear hc5 hf5
      generalize w5.setCell ⟨r, 2, none⟩ (.slice A5 (L.length + 1) cap5) = w6 at *
      refine hK.out _ _ trivial (fun _ => ?_)
      clear hK K
      try simp only [Act.put, List.getElem_toArray, List.getElem_cons_succ, List.getElem_cons_zero, List.setIfInBounds_toArray, List.set_cons_succ, List.set_cons_zero]
      refine wpAnyH_done (by kernel_rfl) ?_ _
      clear hH
      have HSI := sig_info (i := i) (tagF_len ((k, i), t))
      have HSL := sig_info_l (i := i) (tagF_len ((k, i), t))
      have HSS := sig_size (i := i) (tagF_len ((k, i), t))
      have HSA := sigL_one i (tagF ((k, i), t))
      have HBS := Lib.hid (built_sig i (tagF ((k, i), t)) (tagF_len ((k, i), t)))
      generalize tagF ((k, i), t) = dg at *
      have hx6 := HX6.out
      go_wp2_with (refine wpList_load_row rfl 127 _ rfl (w.heap.size + 1) rfl 127 (sgC ((k, i), t)).toArray (0, 0) _ hx6 Tryd.underlying127 rfl (by kernel_rfl) ?_)
      refine (HTG.out w6).mono ?_
      rintro e w7 ⟨rfl, hB7⟩
      have hd7 := HD6.out.below hB7 HD6.out.lt
      have hr := hd7.row (sigL i dg).toArray
      have hset : ∀ b, b ≠ w.heap.size → (w7.setRow w.heap.size (sigL i dg).toArray).heap[b]? = w7.heap[b]? := fun b hb => by
        simp only [World.setRow, Array.getElem?_modify]
        rw [if_neg (by omega)]
      have hR7 := HR6.out.below hB7
      have HR8 := Lib.hid (hR7.of_heap (hset _ (types_ne (hb_type hR7.ring) (hb_type hd7) (by decide))) (fun g hg => hset _ (fun e => own_ne hR7.list hd7 (by decide) (by rw [hg, e]))))
      have ht8 : Turn (fun b => b = r ∨ v.ownBlock = some b) w (w7.setRow w.heap.size (sigL i dg).toArray) := by
        have h2 := HT6.out.trans (Turn.of_below hB7)
        refine ⟨h2.os, h2.tape, h2.output, by simpa using h2.size, fun b hb hm => ?_⟩
        rw [hset b (by omega)]
        exact h2.block b hb hm
      have HT8 := Lib.hid ht8
      clear hB7 hset hR7 ht8 hx6
      go_wp2_with (first
        | (refine wpList_buildTo rfl 61 _ rfl _ rfl (sigL i dg).toArray (by (simp only [List.map_toArray, List.map_cons, List.map_nil]; exact HBS.out)) ?_)
        | (refine wpList_store_row rfl 61 _ _ rfl w.heap.size (sigL i dg).toArray rfl rfl 61 _ hd7 HSI.out HSS.out HSA.out ?_))
      refine bodyPost_ret (results_sig rfl _ _ w.heap.size 61 (sigL i dg) _ (.int .i64 0) rfl rfl hr Tryd.underlying61 rfl HSL.out) rfl ?_
      exact ⟨rfl, _, HR8.out, HT8.out⟩
    · rw [if_pos (by rfl)]
      refine wp_buildSlice 116 127 1 _ rfl (sgC ((k, i), t)).toArray i0 (.agg sgZ5.toArray) Tryd.underlying116 HI0.out HZ0.out (by rw [HZ1.out]; decide) (by rw [HZ1.out]; decide) (by (simp only [List.map_toArray, List.map_cons, List.map_nil]; exact HFL.out)) ?_
      refine hK.out _ _ trivial (fun _ => ?_)
      clear hK K
      try simp only [Act.put, List.getElem_toArray, List.getElem_cons_succ, List.getElem_cons_zero, List.setIfInBounds_toArray, List.set_cons_succ, List.set_cons_zero]
      refine wpAnyH_ready (rs := [4]) (by kernel_rfl) (by simp) ?_
      refine AllReadyH.cons rfl (fun K hK => ?_) AllReadyH.nil
      have hc2 := HRa.out.c2
      go_simp
      refine hK.out _ _ trivial (fun _ => ?_)
      clear hK K
      try simp only [Act.put, List.getElem_toArray, List.getElem_cons_succ, List.getElem_cons_zero, List.setIfInBounds_toArray, List.set_cons_succ, List.set_cons_zero]
      refine wpAnyH_ready (rs := [7]) (by kernel_rfl) (by simp) ?_
      refine AllReadyH.cons rfl (fun K hK => ?_) AllReadyH.nil
      rw [if_pos (by rfl)]
      refine wp_append_own _ (.tmp 45) (.tmp 47) 116 rfl base 127 i0 (.agg sgZ5.toArray) 3 32 Tryd.underlying116 HI0.out HZ0.out HZ1.out HZ2.out rfl (by decide) v L.length _ rfl (HR4.out.list.alloc _) ⟨w4.heap.size, 0, none⟩ 1 1 (sgC ((k, i), t)) rfl rfl ?c1 (sgC_one _) ?c3 ?c4 ?c5 ?_
      case c1 => intro j u hu; rw [add_at, boxed]; simpa using hu
      case c3 => have := HF.out; unfold maxLen; omega
      case c4 => have := HF.out; omega
      case c5 => have := HBA.out; have := HB4.out.size; simp; omega
      intro v5 w5 hown5 hg5 _
      have hwa := below_alloc1 w4 (.cells (sgC ((k, i), t)).toArray 127)
      obtain ⟨hc5, hf5, hR6, hX6, hD6, hT6⟩ := append5 (HR4.out.below hwa) (HX4.out.below hwa HX4.out.lt) (HD4.out.below hwa HD4.out.lt) HNX.out hown5 hg5
      obtain ⟨A5, cap5, rfl, -, -, -, -⟩ := own_slice hown5
      have HR6 := Lib.hid hR6; have HX6 := Lib.hid hX6; have HD6 := Lib.hid hD6
      have HT6 := Lib.hid ((Turn.of_below (S := fun b => b = r ∨ v.ownBlock = some b) (HB4.out.trans (hwa.mono HB4.out.size))).trans hT6)
      clear hR6 hX6 hD6 hT6 hown5 hg5 hwa
      refine hK.out _ _ trivial (fun _ => ?_)
      clear hK K
      try simp only [Act.put, List.getElem_toArray, List.getElem_cons_succ, List.getElem_cons_zero, List.setIfInBounds_toArray, List.set_cons_succ, List.set_cons_zero]
      refine wpAnyH_take (i := 8) (v := ?v9) rfl (by kernel_rfl) (by kernel_rfl) (by kernel_rfl) (fun _ _ _ h => h) (Or.inl ⟨by rfl, ?y9⟩) hH ?_
      case y9 => intro w' hSw; clear hSw; (first | (go_simp; done) | (go_simp; with_reducible rfl))
      try simp only [Act.put, List.getElem_toArray, List.getElem_cons_succ, List.getElem_cons_zero, List.setIfInBounds_toArray, List.set_cons_succ, List.set_cons_zero]
      refine wpAnyH_take (i := 9) (v := ?v10) rfl (by kernel_rfl) (by kernel_rfl) (by kernel_rfl) (fun _ _ _ h => h) (Or.inl ⟨by rfl, ?y10⟩) hH ?_
      case y10 => intro w' hSw; clear hSw; (first | (go_simp; done) | (go_simp; with_reducible rfl))
      try simp only [Act.put, List.getElem_toArray, List.getElem_cons_succ, List.getElem_cons_zero, List.setIfInBounds_toArray, List.set_cons_succ, List.set_cons_zero]
      refine wpAnyH_ready (rs := [10]) (by kernel_rfl) (by simp) ?_
      refine AllReadyH.cons rfl (fun K hK => ?_) AllReadyH.nil
      go_simp
      clear hc5 hf5
      generalize w5.setCell ⟨r, 2, none⟩ (.slice A5 (L.length + 1) cap5) = w6 at *
      refine hK.out _ _ trivial (fun _ => ?_)
      clear hK K
      try simp only [Act.put, List.getElem_toArray, List.getElem_cons_succ, List.getElem_cons_zero, List.setIfInBounds_toArray, List.set_cons_succ, List.set_cons_zero]
      refine wpAnyH_done (by kernel_rfl) ?_ _
      clear hH
      have HSI := sig_info (i := i) (tagF_len ((k, i), t))
      have HSL := sig_info_l (i := i) (tagF_len ((k, i), t))
      have HSS := sig_size (i := i) (tagF_len ((k, i), t))
      have HSA := sigL_one i (tagF ((k, i), t))
      have HBS := Lib.hid (built_sig i (tagF ((k, i), t)) (tagF_len ((k, i), t)))
      generalize tagF ((k, i), t) = dg at *
      have hx6 := HX6.out
      go_wp2_with (refine wpList_load_row rfl 127 _ rfl (w.heap.size + 1) rfl 127 (sgC ((k, i), t)).toArray (0, 0) _ hx6 Tryd.underlying127 rfl (by kernel_rfl) ?_)
      refine (HTG.out w6).mono ?_
      rintro e w7 ⟨rfl, hB7⟩
      have hd7 := HD6.out.below hB7 HD6.out.lt
      have hr := hd7.row (sigL i dg).toArray
      have hset : ∀ b, b ≠ w.heap.size → (w7.setRow w.heap.size (sigL i dg).toArray).heap[b]? = w7.heap[b]? := fun b hb => by
        simp only [World.setRow, Array.getElem?_modify]
        rw [if_neg (by omega)]
      have hR7 := HR6.out.below hB7
      have HR8 := Lib.hid (hR7.of_heap (hset _ (types_ne (hb_type hR7.ring) (hb_type hd7) (by decide))) (fun g hg => hset _ (fun e => own_ne hR7.list hd7 (by decide) (by rw [hg, e]))))
      have ht8 : Turn (fun b => b = r ∨ v.ownBlock = some b) w (w7.setRow w.heap.size (sigL i dg).toArray) := by
        have h2 := HT6.out.trans (Turn.of_below hB7)
        refine ⟨h2.os, h2.tape, h2.output, by simpa using h2.size, fun b hb hm => ?_⟩
        rw [hset b (by omega)]
        exact h2.block b hb hm
      have HT8 := Lib.hid ht8
      clear hB7 hset hR7 ht8 hx6
      go_wp2_with (first
        | (refine wpList_buildTo rfl 61 _ rfl _ rfl (sigL i dg).toArray (by (simp only [List.map_toArray, List.map_cons, List.map_nil]; exact HBS.out)) ?_)
        | (refine wpList_store_row rfl 61 _ _ rfl w.heap.size (sigL i dg).toArray rfl rfl 61 _ hd7 HSI.out HSS.out HSA.out ?_))
      refine bodyPost_ret (results_sig rfl _ _ w.heap.size 61 (sigL i dg) _ (.int .i64 0) rfl rfl hr Tryd.underlying61 rfl HSL.out) rfl ?_
      exact ⟨rfl, _, HR8.out, HT8.out⟩
set_option maxRecDepth 20000 in
set_option maxHeartbeats 3200000 in
theorem rsign_old (w : World) (base r : Nat) (nk bud : Int) (v : Value) (L : List Sg) (h : Ring5 w base r nk bud v L) (hin : ∀ x ∈ L, In5 nk bud x) (hn : nk ≤ 12) (hb : bud ≤ 65536) (hfew : L.length ≤ 2000000000000) (hbase : base ≤ w.heap.size) (k i : Int) (t : List UInt8) (hs : In5 nk bud ((k, i), t)) (hmem : ((k, i), t) ∈ L) :
    Calls Tryd.prog 28 #[.pointer (some ⟨r, 0, none⟩), .int .i64 k, .int .i64 i, .string (strB t)] w (SP5 base r nk bud v L (sigL i (tagF ((k, i), t))) 0 w) := by
  have hz := Tryd.zeroSig
  have hk0 := hs.k0
  have hk1 := hs.k1
  have hi0 := hs.i0
  have hi1 := hs.i1
  simp only at hk0 hk1 hi0 hi1
  have HOK := Lib.hid (fun x hx => (hin x hx).ok hn hb : ∀ x ∈ L, SgOk x)
  have HSG := Lib.hid (hs.ok hn hb)
  have HTG := Lib.hid (rtag_in hs hn hb)
  have HM := Lib.hid (show decide (((k, i), t) ∈ L) = true by simpa using hmem)
  have hR1 := h.below (below_alloc1 w (.cells sigZ.toArray 61))
  have hc0 := hR1.c0
  have hc1 := hR1.c1
  have hd1 := HB.new w 61 sigZ
  have hB := below_alloc1 w (.cells sigZ.toArray 61)
  have hz1 : (w.alloc (.cells sigZ.toArray 61)).heap.size = w.heap.size + 1 := by simp
  generalize hw1 : w.alloc (.cells sigZ.toArray 61) = w1 at *
  have HR1 := Lib.hid hR1; have HD1 := Lib.hid hd1; have HB1 := Lib.hid hB; have HZ1 := Lib.hid hz1; have HF := Lib.hid hfew; have HBA := Lib.hid hbase
  have HH := Lib.hid h
  clear hin hs hmem hR1 hd1 hB hz1 hn hb hfew h hbase
  go_enter Tryd.func28, Tryd.ntmps28
  go_wp2_with fail
  clear hc0 hc1 hw1 hk0 hk1 hi0 hi1
  have hcs : (sgC ((k, i), t)) = [.int .i64 k, .int .i64 i, .string (strB t)] := rfl
  have hR2 := HR1.out.below (below_alloc1 w1 (.cells (sgC ((k, i), t)).toArray 127))
  have hX2 := HB.new w1 127 (sgC ((k, i), t))
  have hD2 := HD1.out.alloc (.cells (sgC ((k, i), t)).toArray 127)
  have hB2 := HB1.out.alloc (by have := HZ1.out; omega) (.cells (sgC ((k, i), t)).toArray 127)
  have hz2 : (w1.alloc (.cells (sgC ((k, i), t)).toArray 127)).heap.size = w.heap.size + 2 := by have := HZ1.out; simp; omega
  rw [HZ1.out] at hX2 ⊢
  rw [hcs] at hR2 hX2 hD2 hB2 hz2
  generalize w1.alloc (.cells ([.int .i64 k, .int .i64 i, .string (strB t)] : List Value).toArray 127) = w2 at *
  have HR2 := Lib.hid hR2; have HX2 : Hid (HB w2 (w.heap.size + 1) 127 (sgC ((k, i), t))) := Lib.hid hX2; have HD2 := Lib.hid hD2; have HB2 := Lib.hid hB2; have HZ2 := Lib.hid hz2
  clear hR2 hX2 hD2 hB2 hz2 hcs HR1 HD1 HB1 HZ1
  refine (has5_any w2 base r nk bud v L HR2.out HOK.out ((k, i), t) HSG.out).mono ?_
  rintro e w6 ⟨rfl, hB3⟩
  rw [HM.out]
  have HR6 := Lib.hid (HR2.out.below hB3)
  have HX6 := Lib.hid (HX2.out.below hB3 HX2.out.lt)
  have HD6 := Lib.hid (HD2.out.below hB3 HD2.out.lt)
  have HB3 := Lib.hid (HB2.out.trans (hB3.mono HB2.out.size))
  have HZ3 := Lib.hid (show w.heap.size + 2 ≤ w6.heap.size by have := hB3.size; have := HZ2.out; omega)
  have HT6 := Lib.hid (Turn.of_below (S := fun b => b = r ∨ v.ownBlock = some b) HB3.out)
  clear hB3 HR2 HX2 HD2 HB2 HZ2 HB3 hz
  have HSI := sig_info (i := i) (tagF_len ((k, i), t))
  have HSL := sig_info_l (i := i) (tagF_len ((k, i), t))
  have HSS := sig_size (i := i) (tagF_len ((k, i), t))
  have HSA := sigL_one i (tagF ((k, i), t))
  have HBS := Lib.hid (built_sig i (tagF ((k, i), t)) (tagF_len ((k, i), t)))
  generalize tagF ((k, i), t) = dg at *
  have hx6 := HX6.out
  go_wp2_with (refine wpList_load_row rfl 127 _ rfl (w.heap.size + 1) rfl 127 (sgC ((k, i), t)).toArray (0, 0) _ hx6 Tryd.underlying127 rfl (by kernel_rfl) ?_)
  refine (HTG.out w6).mono ?_
  rintro e w7 ⟨rfl, hB7⟩
  have hd7 := HD6.out.below hB7 HD6.out.lt
  have hr := hd7.row (sigL i dg).toArray
  have hset : ∀ b, b ≠ w.heap.size → (w7.setRow w.heap.size (sigL i dg).toArray).heap[b]? = w7.heap[b]? := fun b hb => by
    simp only [World.setRow, Array.getElem?_modify]
    rw [if_neg (by omega)]
  have hR7 := HR6.out.below hB7
  have HR8 := Lib.hid (hR7.of_heap (hset _ (types_ne (hb_type hR7.ring) (hb_type hd7) (by decide))) (fun g hg => hset _ (fun e => own_ne hR7.list hd7 (by decide) (by rw [hg, e]))))
  have ht8 : Turn (fun b => b = r ∨ v.ownBlock = some b) w (w7.setRow w.heap.size (sigL i dg).toArray) := by
    have h2 := HT6.out.trans (Turn.of_below hB7)
    refine ⟨h2.os, h2.tape, h2.output, by simpa using h2.size, fun b hb hm => ?_⟩
    rw [hset b (by omega)]
    exact h2.block b hb hm
  have HT8 := Lib.hid ht8
  clear hB7 hset hR7 ht8 hx6
  go_wp2_with (first
    | (refine wpList_buildTo rfl 61 _ rfl _ rfl (sigL i dg).toArray (by (simp only [List.map_toArray, List.map_cons, List.map_nil]; exact HBS.out)) ?_)
    | (refine wpList_store_row rfl 61 _ _ rfl w.heap.size (sigL i dg).toArray rfl rfl 61 _ hd7 HSI.out HSS.out HSA.out ?_))
  refine bodyPost_ret (results_sig rfl _ _ w.heap.size 61 (sigL i dg) _ (.int .i64 0) rfl rfl hr Tryd.underlying61 rfl HSL.out) rfl ?_
  exact ⟨rfl, _, HR8.out, HT8.out⟩
theorem rsign_all (w : World) (base r : Nat) (nk : Nat) (bud : Int) (v : Value) (L : List Sg) (h : Ring5 w base r nk bud v L) (hin : ∀ x ∈ L, In5 nk bud x) (hn : nk ≤ 12) (hb : bud ≤ 65536) (hfew : L.length ≤ 2000000000000) (hbase : base ≤ w.heap.size) (k i : Int) (t : List UInt8) (ht : t.length ≤ 140737488351232) :
    Calls Tryd.prog 28 #[.pointer (some ⟨r, 0, none⟩), .int .i64 k, .int .i64 i, .string (strB t)] w (SP5 base r nk bud v (sL nk bud L ((k, i), t)) (sC nk bud ((k, i), t)) (sErr nk bud (k, i)) w) := by
  by_cases hz : sErr nk bud (k, i) = 0
  · obtain ⟨⟨h1, h2⟩, h3, h4⟩ := sErr_zero.1 hz
    have hs : In5 nk bud ((k, i), t) := ⟨h1, h2, h3, h4, ht⟩
    by_cases hm : ((k, i), t) ∈ L
    · have e : sL nk bud L ((k, i), t) = L := by unfold sL signL; rw [if_pos hz, if_pos hm]
      rw [e, hz]
      have e2 : sC nk bud ((k, i), t) = sigL i (tagF ((k, i), t)) := by unfold sC; rw [if_pos hz]
      rw [e2]
      exact rsign_old w base r nk bud v L h hin (by omega) hb hfew hbase k i t hs hm
    · have e : sL nk bud L ((k, i), t) = L ++ [((k, i), t)] := by unfold sL signL; rw [if_pos hz, if_neg hm]
      rw [e, hz]
      have e2 : sC nk bud ((k, i), t) = sigL i (tagF ((k, i), t)) := by unfold sC; rw [if_pos hz]
      rw [e2]
      exact rsign_new w base r nk bud v L h hin (by omega) hb hfew hbase k i t hs hm
  · have e : sL nk bud L ((k, i), t) = L := by unfold sL; rw [if_neg hz]
    have e2 : sC nk bud ((k, i), t) = sigZ := by unfold sC; rw [if_neg hz]
    rw [e, e2]
    by_cases hk : k < 0 ∨ (nk : Int) ≤ k
    · have e3 : sErr nk bud (k, i) = 2 := by unfold sErr; rw [if_pos hk]
      rw [e3]
      refine (rsign_range w base r nk bud v L h k i hk _).mono ?_
      rintro e w' ⟨rfl, hB⟩
      exact ⟨rfl, v, h.below hB, Turn.of_below hB⟩
    · have hi : i < 0 ∨ bud ≤ i := by
        rcases Classical.em (i < 0 ∨ bud ≤ i) with q | q
        · exact q
        · exact absurd (sErr_zero.2 ⟨⟨by omega, by omega⟩, by omega, by omega⟩) hz
      have e3 : sErr nk bud (k, i) = 17 := by unfold sErr; rw [if_neg hk, if_pos hi]
      rw [e3]
      refine (rsign_budget w base r nk bud v L h k i (by omega) (by omega) hi _).mono ?_
      rintro e w' ⟨rfl, hB⟩
      exact ⟨rfl, v, h.below hB, Turn.of_below hB⟩
end Go.Proofs.YtkhbogccmngmmaaDoor
