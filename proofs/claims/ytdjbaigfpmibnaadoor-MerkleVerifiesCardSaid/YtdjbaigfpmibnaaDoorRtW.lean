/- wapentakeref03.Verify. -/
import Derived.Test.YtdjbaigfpmibnaaDoorRtV
namespace Go.Proofs.YtdjbaigfpmibnaaDoor
open Go.RowKit

theorem hb_range {w : World} {g : Nat} {t : TypeId} {cs : List Value} (h : HB w g t cs) : w.rangeAt g 0 cs := fun j v hv => by rw [Nat.zero_add, h.cell]; exact hv
theorem eql_bd (W : World) (a b : List UInt8) (ha : a.length = 32) (hb : b.length = 32) : (binOp .eql 27 (.agg (bys a).toArray) (.agg (bys b).toArray)).run Tryd.prog W = .ok (.bool (a == b)) W :=
  run_eql_bytes W 27 5 32 Tryd.underlying27 Tryd.underlying5 (fun _ => by kernel_rfl) a b ha hb
theorem rtop_is (n i : Nat) (hi : i < n) (hn : n < 9223372036854775808) (Be : Nat) (Ae : Option Addr) (ce : Nat) (e : List UInt8) (w : World) (hs : Sees w Be 1 Ae e.length (bys e)) (hBe : Be ≤ w.heap.size) (hc : e.length ≤ ce) (hcm : ce ≤ 9223372036854775807) (he : e.length ≤ 140737488351232) (Bp : Nat) (Ap : Option Addr) (cp : Nat) (ps : List (List UInt8)) (hP : PathW w Bp Ap cp ps) (hl : ps.length = (sibs 0 n i).length) :
    Calls Tryd.prog 46 #[.int .i64 (n : Int), .int .i64 (i : Int), .slice Ae e.length ce, .slice Ap ps.length cp] w fun en w' => ∃ D : List UInt8, D.length = 32 ∧ en = .returned (.tuple #[.agg (bys D).toArray, .bool true]) ∧ D = topF n i e ps ∧ Below w.heap.size w w' := by
  refine (rtop_any Be Ae ce e hc hcm he Bp Ap cp n n 0 i (Nat.le_refl _) hi hn w hs hBe ps hP).mono ?_
  rintro en w' ⟨D, h1, h2, h3, h4⟩
  rw [Nat.zero_add, Nat.zero_add] at h2 h3
  refine ⟨D, h1, by rw [h2, decide_eq_true hl], ?_, h4⟩
  rw [h3 hl, hl]; rfl
theorem rtop_isnt (n i : Nat) (hi : i < n) (hn : n < 9223372036854775808) (Be : Nat) (Ae : Option Addr) (ce : Nat) (e : List UInt8) (w : World) (hs : Sees w Be 1 Ae e.length (bys e)) (hBe : Be ≤ w.heap.size) (hc : e.length ≤ ce) (hcm : ce ≤ 9223372036854775807) (he : e.length ≤ 140737488351232) (Bp : Nat) (Ap : Option Addr) (cp : Nat) (ps : List (List UInt8)) (hP : PathW w Bp Ap cp ps) (hl : ps.length ≠ (sibs 0 n i).length) :
    Calls Tryd.prog 46 #[.int .i64 (n : Int), .int .i64 (i : Int), .slice Ae e.length ce, .slice Ap ps.length cp] w fun en w' => ∃ D : List UInt8, D.length = 32 ∧ en = .returned (.tuple #[.agg (bys D).toArray, .bool false]) ∧ Below w.heap.size w w' := by
  refine (rtop_any Be Ae ce e hc hcm he Bp Ap cp n n 0 i (Nat.le_refl _) hi hn w hs hBe ps hP).mono ?_
  rintro en w' ⟨D, h1, h2, _, h4⟩
  rw [Nat.zero_add, Nat.zero_add] at h2
  exact ⟨D, h1, by rw [h2, decide_eq_false hl], h4⟩
theorem rverify_no (r : List UInt8) (n i : Int) (A : Option Addr) (m c : Nat) (B : Option Addr) (k d : Nat) (hi : i < 0 ∨ n ≤ i) (w : World) :
    Calls Tryd.prog 22 #[.agg (bys r).toArray, .int .i64 n, .int .i64 i, .slice A m c, .slice B k d] w fun e w' => e = .returned (.bool false) ∧ Below w.heap.size w w' := by
  have hb := below_alloc1 w (.cells (bys r).toArray 28)
  rcases Int.lt_or_le i 0 with h | h
  · go_enter Tryd.func22, Tryd.ntmps22
    go_wp2
    go_ret
    exact ⟨rfl, hb⟩
  · have hn : n ≤ i := by omega
    clear hi
    go_enter Tryd.func22, Tryd.ntmps22
    go_wp2
    go_ret
    exact ⟨rfl, hb⟩
set_option maxRecDepth 20000 in
set_option maxHeartbeats 1600000 in
theorem rverify_len (r : List UInt8) (n i : Nat) (hi : i < n) (hn : n < 9223372036854775808) (Be : Nat) (Ae : Option Addr) (ce : Nat) (e : List UInt8) (w : World) (hs : Sees w Be 1 Ae e.length (bys e)) (hBe : Be ≤ w.heap.size) (hc : e.length ≤ ce) (hcm : ce ≤ 9223372036854775807) (he : e.length ≤ 140737488351232) (Bp : Nat) (Ap : Option Addr) (cp : Nat) (ps : List (List UInt8)) (hP : PathW w Bp Ap cp ps) (hl : ps.length ≠ (sibs 0 n i).length) :
    Calls Tryd.prog 22 #[.agg (bys r).toArray, .int .i64 (n : Int), .int .i64 (i : Int), .slice Ae e.length ce, .slice Ap ps.length cp] w fun e w' => e = .returned (.bool false) ∧ Below w.heap.size w w' := by
  have hz := Tryd.zeroDig
  have hb := below_alloc1 w (.cells (bys r).toArray 28)
  have ht := Lib.hid (rtop_isnt n i hi hn Be Ae ce e (w.alloc (.cells (bys r).toArray 28)) (hs.alloc hBe _) (by simp; omega) hc hcm he Bp Ap cp ps (hP.below hb) hl)
  have hiI : (i : Int) < (n : Int) := by omega
  clear hs hP hl
  go_enter Tryd.func22, Tryd.ntmps22
  go_wp2_with fail
  refine ht.out.mono ?_
  generalize w.alloc (.cells (bys r).toArray 28) = w1 at *
  rintro en w2 ⟨D, lD, rfl, hB2⟩
  have hb2 := hb.trans (hB2.mono hb.size)
  have hd := HB.new w2 28 zdig
  have HI := dig_info lD
  have HS := dig_size lD
  have HA := dig_one D
  have hfin : Below w.heap.size w ((w2.alloc (.cells zdig.toArray 28)).setRow w2.heap.size (bys D).toArray) := hb2.trans ((Below.setRow_ (below_alloc1 w2 _) (Nat.le_refl _) _).mono hb2.size)
  have HF := Lib.hid hfin
  clear ht hB2 hb2 hfin
  go_wp2_with (refine wpList_store_row rfl 28 _ _ rfl w2.heap.size (bys D).toArray rfl rfl 28 _ hd HI.out HS.out HA.out ?_)
  clear hd
  generalize World.setRow _ w2.heap.size (bys D).toArray = w3 at *
  go_quiet (fail)
  have HF2 := Lib.hid (below_drewN_ HF.out nq)
  go_wp2
  go_ret
  exact ⟨rfl, HF2.out⟩
set_option maxRecDepth 20000 in
set_option maxHeartbeats 1600000 in
theorem rverify_ok (r : List UInt8) (hr : r.length = 32) (n i : Nat) (hi : i < n) (hn : n < 9223372036854775808) (Be : Nat) (Ae : Option Addr) (ce : Nat) (e : List UInt8) (w : World) (hs : Sees w Be 1 Ae e.length (bys e)) (hBe : Be ≤ w.heap.size) (hc : e.length ≤ ce) (hcm : ce ≤ 9223372036854775807) (he : e.length ≤ 140737488351232) (Bp : Nat) (Ap : Option Addr) (cp : Nat) (ps : List (List UInt8)) (hP : PathW w Bp Ap cp ps) (hl : ps.length = (sibs 0 n i).length) :
    Calls Tryd.prog 22 #[.agg (bys r).toArray, .int .i64 (n : Int), .int .i64 (i : Int), .slice Ae e.length ce, .slice Ap ps.length cp] w fun en w' => en = .returned (.bool (shaF (rootB n (topF n i e ps)) == r)) ∧ Below w.heap.size w w' := by
  have hz := Tryd.zeroDig
  have hb := below_alloc1 w (.cells (bys r).toArray 28)
  have hbox := HB.new w 28 (bys r)
  have ht := Lib.hid (rtop_is n i hi hn Be Ae ce e (w.alloc (.cells (bys r).toArray 28)) (hs.alloc hBe _) (by simp; omega) hc hcm he Bp Ap cp ps (hP.below hb) hl)
  have hiI : (i : Int) < (n : Int) := by omega
  clear hs hP hl
  go_enter Tryd.func22, Tryd.ntmps22
  go_wp2_with fail
  refine ht.out.mono ?_
  generalize w.alloc (.cells (bys r).toArray 28) = w1 at *
  rintro en w2 ⟨D, lD, rfl, hDe, hB2⟩
  have HDe := Lib.hid hDe
  clear hDe
  have hb2 := hb.trans (hB2.mono hb.size)
  have hbox2 := hbox.below hB2 hbox.lt
  have hl2 := hbox2.lt
  have hd := HB.new w2 28 zdig
  have HI := dig_info lD
  have HS := dig_size lD
  have HA := dig_one D
  have hfin : Below w.heap.size w ((w2.alloc (.cells zdig.toArray 28)).setRow w2.heap.size (bys D).toArray) := hb2.trans ((Below.setRow_ (below_alloc1 w2 _) (Nat.le_refl _) _).mono hb2.size)
  have hD3 := hd.row (bys D).toArray
  have hbox3 : HB ((w2.alloc (.cells zdig.toArray 28)).setRow w2.heap.size (bys D).toArray) w.heap.size 28 (bys r) := (hbox2.alloc _).grown (grownBy_setRow _ _ _) (by intro e; injection e with e; omega)
  have HF := Lib.hid hfin
  clear ht hB2 hb2 hfin hbox hbox2
  go_wp2_with (refine wpList_store_row rfl 28 _ _ rfl w2.heap.size (bys D).toArray rfl rfl 28 _ hd HI.out HS.out HA.out ?_)
  clear hd
  generalize World.setRow _ w2.heap.size (bys D).toArray = W2 at *
  generalize w2.heap.size = gd at *
  have hD3 : HB W2 gd 28 (bys D) := hD3
  have hiD : (Tryd.prog.info? 28).map (·.size) = some (bys D).length := by rw [bys_len, lD]; exact Tryd.infoD
  have hiR : (Tryd.prog.info? 28).map (·.size) = some (bys r).length := by rw [bys_len, hr]; exact Tryd.infoD
  have heq := fun W => eql_bd W (shaF (rootB n D)) r (shaF_len _) hr
  refine wp_region_held_drew (S := fun w' => Below W2.heap.size W2 w') (by kernel_rfl) (Below.drew (Below.refl _ _)) (fun hH => ?_)
  refine wpAnyH_take (i := 0) (v := ?v0) rfl (by kernel_rfl) (by kernel_rfl) (by kernel_rfl) (fun _ _ _ h => h) (Or.inl ⟨by rfl, ?y0⟩) hH ?_
  case y0 => intro w' hSw; (first | (go_simp; done) | (go_simp; with_reducible rfl))
  try simp only [Act.put]
  refine wpAnyH_take (i := 1) (v := ?v1) rfl (by kernel_rfl) (by kernel_rfl) (by kernel_rfl) (fun _ _ _ h => h) (Or.inl ⟨by rfl, ?y1⟩) hH ?_
  case y1 => intro w' hSw; (first | (go_simp; done) | (go_simp; with_reducible rfl))
  try simp only [Act.put]
  refine wpAnyH_take (i := 2) (v := ?v2) rfl (by kernel_rfl) (by kernel_rfl) (by kernel_rfl) (fun _ _ _ h => h) (Or.inl ⟨by rfl, ?y2⟩) hH ?_
  case y2 => intro w' hSw; (first | (go_simp; done) | (go_simp; with_reducible rfl))
  try simp only [Act.put]
  refine wpAnyH_take (i := 3) (v := .agg (bys D).toArray) rfl (by kernel_rfl) (by kernel_rfl) (by kernel_rfl) (fun _ _ _ h => h) (yieldsIf_load_mid (by rfl) 28 _ rfl gd 0 rfl (bys D) _ (fun w' h => hb_range (hD3.below h (HB.lt hD3))) Tryd.underlying28 rfl hiD) hH ?_
  try simp only [Act.put]
  refine wpAnyH_take (i := 6) (v := .agg (bys r).toArray) rfl (by kernel_rfl) (by kernel_rfl) (by kernel_rfl) (fun _ _ _ h => h) (yieldsIf_load_mid (by rfl) 28 _ rfl w.heap.size 0 rfl (bys r) _ (fun w' h => hb_range (hbox3.below h (HB.lt hbox3))) Tryd.underlying28 rfl hiR) hH ?_
  try simp only [Act.put]
  refine wpAnyH_ready (rs := [4]) (by kernel_rfl) (by simp) ?_
  refine AllReadyH.cons rfl (fun K hK => ?_) AllReadyH.nil
  rw [if_pos (by rfl)]
  go_simp
  refine (rroot_any n hn D _ lD).mono ?_
  rintro en w3 ⟨v3, rfl, ho, hB3⟩
  obtain ⟨A3, c3, rfl, hc3, hcm3, -, hs3⟩ := own_slice ho
  have hH3 := hH.trans (hB3.mono hH.size)
  have hsm := Lib.hid (rsum_any w3.heap.size A3 c3 (rootB n D) w3 hs3 (Nat.le_refl _) (by rw [rootB_len, lD]; omega))
  dsimp only
  refine hK.out _ _ hH3 (fun _ => ?_)
  clear hK K ho hs3 hB3
  try simp only [Act.put]
  refine wpAnyH_ready (rs := [5]) (by kernel_rfl) (by simp) ?_
  refine AllReadyH.cons rfl (fun K hK => ?_) AllReadyH.nil
  rw [if_pos (by rfl)]
  go_simp
  refine hsm.out.mono ?_
  rintro en w4 ⟨rfl, hB4⟩
  have hH4 := hH3.trans (hB4.mono hH3.size)
  have hfin4 := Lib.hid (HF.out.trans (hH4.mono HF.out.size))
  dsimp only
  refine hK.out _ _ hH4 (fun _ => ?_)
  clear hK K hsm hB4
  have hgr : (shaF (rootB n D) == r) = (shaF (rootB n (topF n i e ps)) == r) := by rw [HDe.out]
  have HGr := Lib.hid hgr
  clear hgr
  generalize shaF (rootB n D) = N at *
  generalize hbb : (N == r) = bb at *
  try simp only [Act.put]
  refine wpAnyH_take (i := 7) (v := ?v7) rfl (by kernel_rfl) (by kernel_rfl) (by kernel_rfl) (fun _ _ _ h => h) (Or.inl ⟨by rfl, ?y7⟩) hH4 ?_
  case y7 => intro w' hSw; (first | (go_simp; done) | (go_simp; with_reducible rfl))
  try simp only [Act.put]
  refine wpAnyH_take (i := 8) (v := ?v8) rfl (by kernel_rfl) (by kernel_rfl) (by kernel_rfl) (fun _ _ _ h => h) (Or.inl ⟨by rfl, ?y8⟩) hH4 ?_
  case y8 => intro w' hSw; (first | (go_simp; done) | (go_simp; with_reducible rfl))
  try simp only [Act.put]
  refine wpAnyH_take (i := 9) (v := ?v9) rfl (by kernel_rfl) (by kernel_rfl) (by kernel_rfl) (fun _ _ _ h => h) (Or.inl ⟨by rfl, ?y9⟩) hH4 ?_
  case y9 => intro w' hSw; (first | (go_simp; done) | (go_simp; with_reducible rfl))
  try simp only [Act.put]
  refine wpAnyH_done (by kernel_rfl) ?_ _
  simp only [List.getElem_toArray, List.getElem_cons_succ, List.getElem_cons_zero, List.setIfInBounds_toArray, List.set_cons_succ, List.set_cons_zero]
  go_wp2
  go_ret
  exact ⟨congrArg (fun z => Ending.returned (.bool z)) HGr.out, hfin4.out⟩
end Go.Proofs.YtdjbaigfpmibnaaDoor
