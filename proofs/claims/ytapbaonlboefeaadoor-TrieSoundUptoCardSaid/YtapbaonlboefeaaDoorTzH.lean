/- TrieSound: for every input of the bulk that the row names the law returns true and the arguments read as before: the row. WRITTEN BY wip/gen/rowt.py. -/
import Derived.Test.YtapbaonlboefeaaDoorTsW
import Derived.Test.YtapbaonlboefeaaDoorTsV
import Derived.Stop.Joined
namespace Go.Proofs.YtapbaonlboefeaaDoor
open Go.RowKit Go.ChangeShapes Go.WideShapes Go.ChangeAt Go.Deep

theorem own : ownKnob Tryd.prog.godebug = none := by kernel_rfl
theorem laidOut : laidOutB Tryd.prog = true := by kernel_rfl
set_option maxRecDepth 100000 in
theorem row_contract (haw : Awakes) (H : Type) (enc : TypeId × Value → H) (W : World) (base : Nat) (args : Array Value) (ds gs : List (DataW H)) (before : List MemPlace)
    (hval : ∀ (j : Nat) t v, Tryd.f6.params[j]? = some t → args[j]? = some v → Value.okWide Tryd.prog W .any base t v)
    (hW : DataW.Whole enc Tryd.prog Tryd.f6.params.toList Rows.trieSoundSpec.vars false W args.toList ds gs before) (hbk : Rows.uptoSmall H (ds ++ gs) = true) (hL : laidMetH Tryd.prog Rows.trieSoundUptoRow.laid W) :
    Calls Tryd.prog 6 args W fun e W' => ∃ v, e = .returned v ∧ Rows.trieSoundSpec.post enc Tryd.prog Tryd.f6 false true false false W args v W' := by
  have hk : Consts W := consts_of (laid := Rows.trieSoundUptoRow.laid) hL (by kernel_rfl) (by kernel_rfl)
  have hW' := hW
  obtain ⟨p, q, hA0, hV, rfl, hfz, hnd⟩ := hW
  have hA : DataW.TrodAll enc Tryd.prog W 0 (fun _ => true) true Tryd.f6.params.toList args.toList ds p := hA0
  rw [Tryd.params6] at hA hval
  obtain ⟨v0, v1, v2, d0, d1, d2, p0, p1, p2, rfl, rfl, rfl, h0, h1, h2⟩ := trodAll_three hA
  obtain ⟨rfl, rfl⟩ := trodVars_none hV
  have hbk2 : Rows.uptoBulkAll [d0, d1, d2] ≤ 1048576 := of_decide_eq_true hbk
  have hlt : ∀ x ∈ p0 ++ p1 ++ p2, x.block < W.heap.size := fun x hx => hW'.lt x (by simpa using hx)
  have hs0 := okWide_slice Tryd.underlying22 (hval 0 22 v0 rfl rfl)
  obtain ⟨A0, c0, L0, rfl, hl0⟩ := openEnts hs0 h0 (by have := bulk_in (l := [d0, d1, d2]) (d := d0) (by simp); omega)
  obtain ⟨k1, hk1, rfl⟩ := openDig (hval 1 24 v1 rfl rfl) h1
  have hs2 := okWide_slice Tryd.underlying31 (hval 2 31 v2 rfl rfl)
  obtain ⟨A2, c2, b2, rfl, hb21, hb22, hb23, hb24⟩ := openBytes hs2 h2 (by have := bulk_in (l := [d0, d1, d2]) (d := d2) (by simp); omega)
  refine (sound_law haw W hk W.heap.size c0 (Nat.le_refl _) A0 L0 hl0 k1 hk1 A2 c2 b2 hb23 hb21 hb22 hb24).mono fun e W' ⟨he, hb⟩ => ?_
  subst he
  have hout : DataW.TrodAll enc Tryd.prog W' 0 (fun b => decide (b < W.heap.size)) true [22, 24, 31] [.slice A0 L0.length c0, .agg (bys k1).toArray, .slice A2 b2.length c2] [d0, d1, d2] (p0 ++ p1 ++ p2) := by
    have h := trodAll_mk3 (Below.trod laidOut (by kernel_rfl) (of_decide_eq_true (by kernel_rfl)) h0 hb (fun x hx => by first | (cases hx; done) | exact hlt x (by simp [hx]))) (Below.trod laidOut (by kernel_rfl) (of_decide_eq_true (by kernel_rfl)) h1 hb (fun x hx => by first | (cases hx; done) | exact hlt x (by simp [hx]))) (Below.trod laidOut (by kernel_rfl) (of_decide_eq_true (by kernel_rfl)) h2 hb (fun x hx => by first | (cases hx; done) | exact hlt x (by simp [hx])))
    simpa only [List.append_assoc, List.nil_append] using h
  exact ⟨_, rfl, _, _, _, [], _, [], hW', trodAll_mk1 (shut_bool Tryd.underlying4 _), hout, rfl, hb.frame _, fun h => by cases h⟩

theorem laid_met (os : Os) : laidMet Tryd.prog Rows.trieSoundUptoRow.laid (((World.doorLaid Tryd.prog 3000 os)).forCall (fun _ _ => 0) ⟨#[], #[.slice none 0 0, .agg zdig.toArray, .slice none 0 0], []⟩).memory :=
  laidMet_of_run' 8 (by kernel_rfl) (by kernel_rfl)
theorem reads (os : Os) {H : Type} (enc : TypeId × Value → H) : ∃ places, DataW.whole enc Tryd.prog ((World.doorLaid Tryd.prog 3000 os).forCall (fun _ _ => 0) ⟨#[], #[.slice none 0 0, .agg zdig.toArray, .slice none 0 0], []⟩).memory Tryd.f6.params.toList Rows.trieSoundSpec.vars false #[Value.slice none 0 0, Value.agg zdig.toArray, Value.slice none 0 0].toList 8 = some ([.nil, .agg (List.replicate 32 (.lit (.int .u8 0))), .nil], [], places) :=
  ⟨[], by kernel_rfl⟩
set_option maxRecDepth 100000 in
theorem row_lifted (haw : Awakes) (os : Os) (started : os.Started) (H : Type) (enc : TypeId × Value → H) (F : Stop.Interp) :
    ReturnsInHanded {} Tryd.checked os 6 .any ((Rows.OpenSpec.upto Rows.trieSoundSpec).preRow enc Tryd.prog Tryd.f6 Rows.trieSoundUptoRow.domain false Rows.trieSoundUptoRow.laid) (((Rows.OpenSpec.upto Rows.trieSoundSpec).at F).post enc Tryd.prog Tryd.f6 false true false false) := by
  obtain ⟨places, hx⟩ := reads os enc
  refine returnsInHanded_of_row (C := Tryd.checked) (s := Rows.OpenSpec.upto Rows.trieSoundSpec) own started (by kernel_rfl) Tryd.func6
    (witness_row_at (enc := enc) (C := Tryd.checked) false (World.doorLaid Tryd.prog 3000 os) #[.slice none 0 0, .agg zdig.toArray, .slice none 0 0] rfl (by kernel_rfl) (by kernel_rfl) (by kernel_rfl)
      (OpenSpec.preRow_of_cond 8 hx (by kernel_rfl) (fun k hk => by cases hk; kernel_rfl) (by kernel_rfl) (laid_met os))) ?_
  intro W base args ds gs before hval hW _ hcond _ hL _ _
  exact row_contract haw H enc W base args ds gs before hval hW (hcond _ rfl) hL

theorem row_said (haw : Awakes) : Rows.TrieSoundUptoSaid :=
  OpenClaim.holds_of_cond 6 Tryd.f6 rfl rfl rfl rfl rfl rfl rfl ⟨rfl, rfl, rfl, rfl, rfl⟩ rfl rfl rfl rfl rfl (by kernel_rfl) Tryd.func6 (by kernel_rfl)
    (of_decide_eq_true (by kernel_rfl)) (by unfold Func.isWrapper; first | (rw [if_pos (by decide +kernel)]; kernel_rfl) | (rw [if_neg (by decide +kernel)]; exact ⟨rfl, rfl⟩))
    (fun os started H enc _ F => by rw [OpenClaim.pre_eq_preRow]; exact row_lifted haw os started H enc F)
end Go.Proofs.YtapbaonlboefeaaDoor
