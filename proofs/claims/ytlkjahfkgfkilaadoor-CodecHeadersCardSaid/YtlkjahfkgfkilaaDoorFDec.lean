/- Decoding: decode at a record where there is a failure. -/
import Derived.Test.YtlkjahfkgfkilaaDoorFClf
import Derived.Deep.RegionHeld3
import Derived.Deep.MidRow
namespace Go.Proofs.YtlkjahfkgfkilaaDoor
open Go.RowKit

theorem HB.range {w : World} {g : Nat} {t : TypeId} {cs : List Value} (h : HB w g t cs) : w.rangeAt g 0 cs := fun j v hv => by rw [Nat.zero_add, h.cell]; exact hv
theorem hb_far {g b : Nat} {t : TypeId} {cs : List Value} (hne : g ≠ b) : ∀ (l : List Value) (o : Nat) (w : World), HB w g t cs → HB (w.setCells b o l) g t cs
  | [], _, _, h => h
  | v :: l, o, _, h => hb_far hne l (o + 1) _ (h.far (p := ⟨b, o, none⟩) hne v)
theorem hb_again {w : World} {g : Nat} {t : TypeId} {cs : List Value} (h : HB w g t cs) : HB (w.setCells g 0 cs) g t cs := by
  have hh := hb_setCells cs 0 w cs h (by simp)
  simpa using hh

set_option maxRecDepth 20000 in
set_option maxHeartbeats 4000000 in
theorem decode_record_long (s t : ByteArray) (fv : Value) (a : Addr) (A : Option Addr) (n c : Nat) (w : World) (hn : 262144 < n) (hg : w.cell? ⟨0, 0, none⟩ = some (errV a)) (ha : w.cell? a = some (.string t)) (hs : s.size ≤ 1000) (ht : t.size ≤ 1000) :
    Calls Tryd.prog 17 #[.string s, .slice A n c, fv] w fun e w' => ∃ g, e = .returned (.tuple #[.agg zrec.toArray, failV ⟨g, 0, none⟩]) ∧ Failed w' g a ∧ Below w.heap.size w w' := by
  have hz : ∀ W : World, (zeroValue 35).run Tryd.prog W = .ok (.agg zrec.toArray) W := Tryd.zeroRecord
  obtain ⟨cs, hcs⟩ : ∃ cs : List Value, cs = zrec := ⟨_, rfl⟩
  rw [← hcs] at hz ⊢
  have hcl : cs.length = 3 := by rw [hcs]; rfl
  have hone : ∀ v ∈ cs, v.oneCell' = true := by intro v hv; rw [hcs] at hv; simp [zrec] at hv; rcases hv with rfl | rfl <;> rfl
  clear hcs
  have hgl := World.block_lt_of_cell? w _ hg
  have hal := World.block_lt_of_cell? w _ ha
  obtain ⟨W2, hW2⟩ : ∃ W2 : World, W2 = (w.alloc (.cells cs.toArray 35)).alloc (.cells cs.toArray 35) := ⟨_, rfl⟩
  have hB2 : Below w.heap.size w W2 := by rw [hW2]; exact ((Below.refl _ _).alloc (Nat.le_refl _) _).alloc (by simp) _
  have hr2 : HB W2 w.heap.size 35 cs := by rw [hW2]; exact (HB.new w _ _).alloc _
  have hn2 : HB W2 (w.heap.size + 1) 35 cs := by
    rw [hW2]
    have hh := HB.new (w.alloc (.cells cs.toArray 35)) 35 cs
    simpa only [World.size_alloc] using hh
  have hS : ∀ b : World, HB b (w.heap.size + 1) 35 cs → HB b w.heap.size 35 cs → Below w.heap.size w b → (HB b (w.heap.size + 1) 35 cs ∧ HB b w.heap.size 35 cs ∧ Below w.heap.size w b ∧ b.cell? ⟨0, 0, none⟩ = some (errV a) ∧ b.cell? a = some (.string t)) := fun b h1 h2 h3 =>
    ⟨h1, h2, h3, (h3.cell (p := ⟨0, 0, none⟩) hgl).trans hg, (h3.cell hal).trans ha⟩
  have hK0 : (HB W2.drew (w.heap.size + 1) 35 cs ∧ HB W2.drew w.heap.size 35 cs ∧ Below w.heap.size w W2.drew ∧ W2.drew.cell? ⟨0, 0, none⟩ = some (errV a) ∧ W2.drew.cell? a = some (.string t)) := hS _ hn2 hr2 hB2.drew
  have HI : (Tryd.prog.info? 35).map (·.size) = some cs.toArray.size := by rw [List.size_toArray, hcl]; kernel_rfl
  have HL : (Tryd.prog.info? 35).map (·.size) = some cs.length := by rw [hcl]; kernel_rfl
  have HI := Lib.hid HI
  have HL := Lib.hid HL
  have HA := Lib.hid (all_oneCell_toArray hone)
  have HK0 := Lib.hid hK0
  have HS := Lib.hid hS
  have hmax : (262144 : Int) < (n : Int) := by omega
  clear hn2 hr2 hcl hone hK0 hS
  go_enter Tryd.func17, Tryd.ntmps17
  go_wp2
  rw [← hW2]
  clear hW2
  refine wp_region_held_drew (S := fun w' => (HB w' (w.heap.size + 1) 35 cs ∧ HB w' w.heap.size 35 cs ∧ Below w.heap.size w w' ∧ w'.cell? ⟨0, 0, none⟩ = some (errV a) ∧ w'.cell? a = some (.string t))) (by kernel_rfl) HK0.out (fun hHeld => ?_)
  refine wpAnyH_take (i := 0) (v := .agg cs.toArray) rfl (by kernel_rfl) (by kernel_rfl) (by kernel_rfl) (fun _ _ _ h => h) (yieldsIf_load_mid (by rfl) 35 _ rfl (w.heap.size + 1) 0 rfl cs _ (fun w' h => h.1.range) Tryd.underlying35 rfl HL.out) hHeld ?_
  simp only [Act.put, List.setIfInBounds_toArray]
  refine wpAnyH_take (i := 1) (v := ?v1) rfl (by kernel_rfl) (by kernel_rfl) (by kernel_rfl) (fun _ _ _ h => h) (Or.inl ⟨by rfl, ?y1⟩) hHeld ?_
  case y1 => intro w' hSw; obtain ⟨s1, s2, s3, s4, s5⟩ := hSw; clear s1 s2 s3 s5; (first | (go_simp; done) | (go_simp; with_reducible rfl))
  try simp only [Act.put]
  refine wpAnyH_take (i := 2) (v := ?v2) rfl (by kernel_rfl) (by kernel_rfl) (by kernel_rfl) (fun _ _ _ h => h) (Or.inl ⟨by rfl, ?y2⟩) hHeld ?_
  case y2 => intro w' hSw; obtain ⟨s1, s2, s3, s4, s5⟩ := hSw; clear s1 s2 s3 s5; (first | (go_simp; done) | (go_simp; with_reducible rfl))
  try simp only [Act.put]
  refine wpAnyH_ready (rs := [3]) (by kernel_rfl) (by simp) ?_
  refine AllReadyH.cons rfl (fun K hK => ?_) AllReadyH.nil
  rw [if_pos (by rfl)]
  obtain ⟨s1, s2, s3, s4, s5⟩ := hHeld
  go_simp
  refine (fail_any a s t _ s5 hs ht).mono ?_
  rintro e w1 ⟨x, rfl, hw1⟩
  have hf1 : Failed w1 W2.drew.heap.size a := by rw [hw1]; unfold Failed; rw [boxed]; rfl
  have hB1 : Below W2.drew.heap.size W2.drew w1 := by rw [hw1]; exact (Below.refl _ _).alloc (Nat.le_refl _) _
  have hlo : w.heap.size < W2.heap.size := HB.lt s2
  have hH1 := HS.out w1 (s1.below hB1 (HB.lt s1)) (s2.below hB1 (HB.lt s2)) (s3.trans (hB1.mono s3.size))
  clear hw1 hB1 s1 s2 s3 s4 s5
  dsimp only
  refine hK.out _ _ hH1 (fun hHeld2 => ?_)
  clear hK K hH1
  try simp only [Act.put]
  refine wpAnyH_ready (rs := [4]) (by kernel_rfl) (by simp) ?_
  refine AllReadyH.cons rfl (fun K hK => ?_) AllReadyH.nil
  rw [if_pos (by rfl)]
  refine wp_store_mid 35 _ _ rfl w.heap.size 0 cs.toArray rfl rfl (there_hb hHeld2.2.1 (by simp)) HI.out HA.out ?_
  have hH2 := HS.out (w1.setCells w.heap.size 0 cs.toArray.toList) (hb_far (by omega) _ 0 _ hHeld2.1) (hb_again hHeld2.2.1) (below_setCells (Nat.le_refl _) _ 0 _ hHeld2.2.2.1)
  refine hK.out _ _ hH2 (fun hHeld3 => ?_)
  clear hK K hH2
  try simp only [Act.put]
  refine wpAnyH_take (i := 5) (v := ?v5) rfl (by kernel_rfl) (by kernel_rfl) (by kernel_rfl) (fun _ _ _ h => h) (Or.inl ⟨by rfl, ?y5⟩) hHeld3 ?_
  case y5 => intro w' hSw; obtain ⟨s1, s2, s3, s4, s5⟩ := hSw; clear s1 s2 s3 s5; (first | (go_simp; done) | (go_simp; with_reducible rfl))
  try simp only [Act.put]
  refine wpAnyH_done (by kernel_rfl) ?_ _
  have hf2 : Failed (w1.setCells w.heap.size 0 cs.toArray.toList) W2.drew.heap.size a := (World.cell?_setCells_out w.heap.size cs.toArray.toList 0 w1 _ (fun e _ => by simp at e; omega)).trans hf1
  generalize hV : w1.setCells w.heap.size 0 cs.toArray.toList = V at *
  go_wp2
  refine bodyPost_ret (results_row_tmp rfl _ _ w.heap.size 35 cs.toArray (0, 0) _ rfl hHeld3.2.1 Tryd.underlying35 rfl HI.out) rfl ?_
  exact ⟨_, rfl, hf2, hHeld3.2.2.1⟩
end Go.Proofs.YtlkjahfkgfkilaaDoor
