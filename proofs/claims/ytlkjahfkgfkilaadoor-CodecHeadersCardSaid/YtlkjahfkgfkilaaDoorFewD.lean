/- Decoding where fields are missing: done, recordOf. -/
import Derived.Test.YtlkjahfkgfkilaaDoorFew
import Derived.Test.YtlkjahfkgfkilaaDoorRdE
import Derived.Test.YtlkjahfkgfkilaaDoorOfQ
namespace Go.Proofs.YtlkjahfkgfkilaaDoor
open Go.RowKit

set_option maxRecDepth 20000 in
set_option maxHeartbeats 4000000 in
theorem done_record_few (a : Addr) (w0 w : World) (G : Nat) (cs : List Value) (h : Few w0 w G a) (hcl : cs.length = 3) (hone : ∀ v ∈ cs, v.oneCell' = true) :
    Calls Tryd.prog 30 #[.pointer (some ⟨G, 0, none⟩), .agg cs.toArray] w fun e w' => e = .returned (.tuple #[.agg cs.toArray, errV a]) ∧ Below w.heap.size w w' := by
  have hlt := h.lt
  obtain ⟨g1, g2, A, c, h1⟩ := h
  have hz := Tryd.zeroRecord
  have hu := Tryd.underlying35
  have hsz : (Tryd.prog.info? 35).map (·.size) = some cs.length := by rw [hcl]; kernel_rfl
  have hsz' : (Tryd.prog.info? 35).map (·.size) = some cs.toArray.size := by rw [List.size_toArray]; exact hsz
  have hZl : zrec.length = 3 := rfl
  obtain ⟨W2, hW2⟩ : ∃ W2 : World, W2 = (w.alloc (.cells cs.toArray 35)).alloc (.cells zrec.toArray 35) := ⟨_, rfl⟩
  have hB2 : Below w.heap.size w W2 := by rw [hW2]; exact ((Below.refl _ _).alloc (Nat.le_refl _) _).alloc (by simp) _
  have hx2 : HB W2 w.heap.size 35 cs := by rw [hW2]; exact (HB.new w _ _).alloc _
  have hr2 : HB W2 (w.heap.size + 1) 35 zrec := by
    rw [hW2]
    have hh := HB.new (w.alloc (.cells cs.toArray 35)) 35 zrec
    simpa only [World.size_alloc] using hh
  have z0 : W2.cell? ⟨G, 0, none⟩ = some (.slice A 0 c) := (hB2.cell hlt).trans (row_cell h1 0 _ rfl)
  have z1 : W2.cell? ⟨G, 1, none⟩ = some (.int .i64 0) := (hB2.cell hlt).trans (row_cell h1 1 _ rfl)
  have z2 : W2.cell? ⟨G, 2, none⟩ = some (errV a) := (hB2.cell hlt).trans (row_cell h1 2 _ rfl)
  have hxq : ∀ q : Nat, HB (W2.drewN q).drew w.heap.size 35 cs := fun q => hx2
  have hrq : ∀ q : Nat, HB (W2.drewN q).drew (w.heap.size + 1) 35 zrec := fun q => hr2
  have hBq : ∀ q : Nat, Below w.heap.size w (W2.drewN q).drew := fun q => (below_drewN_ hB2 q).drew
  have HS : zrec.toArray.size = cs.toArray.size := by rw [List.size_toArray, List.size_toArray, hZl, hcl]
  have HS := Lib.hid HS
  have HA := Lib.hid (all_oneCell_toArray hone)
  have hfin : ∀ q : Nat, HB ((W2.drewN q).drew.setCells (w.heap.size + 1) 0 cs) (w.heap.size + 1) 35 cs ∧ Below w.heap.size w ((W2.drewN q).drew.setCells (w.heap.size + 1) 0 cs) := fun q => by
    have hh := hb_setCells cs 0 (W2.drewN q).drew zrec hr2 (by rw [hcl, hZl])
    exact ⟨by simpa using hh, below_setCells (by omega) cs 0 _ (below_drewN_ hB2 q).drew⟩
  have HI := Lib.hid hsz'
  have HL := Lib.hid hsz
  have hK0 : ∀ q : Nat, (W2.drewN q).drew.cell? ⟨G, 2, none⟩ = some (errV a) ∧ (W2.drewN q).drew.rangeAt w.heap.size 0 cs ∧ (W2.drewN q).drew.there (w.heap.size + 1) 0 cs.toArray.size := fun q =>
    ⟨z2, fun j v hv => by
      have hh : W2.cell? ⟨w.heap.size, 0 + j, none⟩ = some v := by rw [Nat.zero_add, hx2.cell]; exact hv
      exact hh, there_hb (w := (W2.drewN q).drew) hr2 (by rw [List.size_toArray, hcl, hZl]; exact Nat.le_refl _)⟩
  have hKS : ∀ (a2 : World) (l : List Value), (a2.cell? ⟨G, 2, none⟩ = some (errV a) ∧ a2.rangeAt w.heap.size 0 cs ∧ a2.there (w.heap.size + 1) 0 cs.toArray.size) →
      (a2.setCells (w.heap.size + 1) 0 l).cell? ⟨G, 2, none⟩ = some (errV a) ∧ (a2.setCells (w.heap.size + 1) 0 l).rangeAt w.heap.size 0 cs ∧ (a2.setCells (w.heap.size + 1) 0 l).there (w.heap.size + 1) 0 cs.toArray.size := fun a2 l h =>
    ⟨(World.cell?_setCells_out _ l 0 a2 ⟨G, 2, none⟩ (fun e _ => by simp at e; omega)).trans h.1, World.rangeAt_setCells_apart h.2.1 _ _ _ (.inl (by omega)), World.there_setCells h.2.2 _ _ _⟩
  clear g1 g2 h1 hZl hx2 hr2 hcl hone hsz hsz'
  have HK0 := Lib.hid hK0
  have HKS := Lib.hid hKS
  have Hfin := Lib.hid hfin
  clear hK0 hKS hfin
  go_enter Tryd.func30, Tryd.ntmps30
  go_wp2
  rw [← hW2]
  clear hW2
  go_quiet (fail)
  go_wp2
  refine wp_region_held_drew (S := fun w' => w'.cell? ⟨G, 2, none⟩ = some (errV a) ∧ w'.rangeAt w.heap.size 0 cs ∧ w'.there (w.heap.size + 1) 0 cs.toArray.size) (by kernel_rfl) (HK0.out _) (fun hHeld => ?_)
  refine wpAnyH_take (i := 0) (v := .agg cs.toArray) rfl (by kernel_rfl) (by kernel_rfl) (by kernel_rfl) (fun _ _ _ h => h) (yieldsIf_load_mid (by rfl) 35 _ rfl w.heap.size 0 rfl cs _ (fun w' h => h.2.1) Tryd.underlying35 rfl HL.out) hHeld ?_
  simp only [Act.put, List.setIfInBounds_toArray]
  refine wpAnyH_take (i := 1) (v := ?v1) rfl (by kernel_rfl) (by kernel_rfl) (by kernel_rfl) (fun _ _ _ h => h) (Or.inl ⟨by rfl, ?y1⟩) hHeld ?_
  case y1 => intro w' hSw; obtain ⟨s1, s2, s3⟩ := hSw; clear s2 s3; (first | (go_simp; done) | (go_simp; with_reducible rfl))
  simp only [Act.put]
  refine wpAnyH_take (i := 2) (v := ?v2) rfl (by kernel_rfl) (by kernel_rfl) (by kernel_rfl) (fun _ _ _ h => h) (Or.inl ⟨by rfl, ?y2⟩) hHeld ?_
  case y2 => intro w' hSw; obtain ⟨s1, s2, s3⟩ := hSw; clear s2 s3; (first | (go_simp; done) | (go_simp; with_reducible rfl))
  simp only [Act.put]
  refine wpAnyH_take (i := 3) (v := ?v3) rfl (by kernel_rfl) (by kernel_rfl) (by kernel_rfl) (fun _ _ _ h => h) (Or.inl ⟨by rfl, ?y3⟩) hHeld ?_
  case y3 => intro w' hSw; obtain ⟨s1, s2, s3⟩ := hSw; clear s2 s3; (first | (go_simp; done) | (go_simp; with_reducible rfl))
  simp only [Act.put]
  refine wpAnyH_take (i := 4) (v := ?v4) rfl (by kernel_rfl) (by kernel_rfl) (by kernel_rfl) (fun _ _ _ h => h) (Or.inl ⟨by rfl, ?y4⟩) hHeld ?_
  case y4 => intro w' hSw; obtain ⟨s1, s2, s3⟩ := hSw; clear s2 s3; (first | (go_simp; done) | (go_simp; with_reducible rfl))
  simp only [Act.put]
  refine wpAnyH_ready (rs := [5]) (by kernel_rfl) (by simp) ?_
  refine AllReadyH.cons rfl (fun K hK => ?_) AllReadyH.nil
  rw [if_pos (by rfl)]
  refine wp_store_mid 35 _ _ rfl (w.heap.size + 1) 0 cs.toArray rfl rfl hHeld.2.2 HI.out HA.out ?_
  refine hK.out _ _ (HKS.out _ _ hHeld) (fun hHeld2 => ?_)
  clear hK K
  simp only [Act.put]
  refine wpAnyH_take (i := 6) (v := ?v6) rfl (by kernel_rfl) (by kernel_rfl) (by kernel_rfl) (fun _ _ _ h => h) (Or.inl ⟨by rfl, ?y6⟩) hHeld2 ?_
  case y6 => intro w' hSw; obtain ⟨s1, s2, s3⟩ := hSw; clear s2 s3; (first | (go_simp; done) | (go_simp; with_reducible rfl))
  simp only [Act.put]
  refine wpAnyH_done (by kernel_rfl) ?_ _
  have hq := Hfin.out nq
  generalize hV : (W2.drewN nq).drew.setCells (w.heap.size + 1) 0 cs.toArray.toList = V at *
  go_wp2
  refine bodyPost_ret (results_row_tmp rfl _ _ (w.heap.size + 1) 35 cs.toArray (0, 0) _ rfl hq.1 Tryd.underlying35 rfl HI.out) rfl ?_
  exact ⟨rfl, hq.2⟩
end Go.Proofs.YtlkjahfkgfkilaaDoor
