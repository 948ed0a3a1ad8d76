/- CodecHeaders: for every two headers the law returns true and both read as before. -/
import Derived.Test.YtlkjahfkgfkilaaDoorLaid
import Derived.Test.YtlkjahfkgfkilaaDoorOpen
import Derived.Test.YtlkjahfkgfkilaaDoorLawC
import Derived.Carry
import Derived.Lay
import Derived.ProofKit
import Derived.LaidMore
import Derived.OpenShut
import Derived.Stop.Joined
namespace Go.Proofs.YtlkjahfkgfkilaaDoor
open Go.RowKit Go.ChangeShapes Go.WideShapes

section
variable {H : Type} {enc : TypeId × Value → H} {w : World} {base : Nat} {spare : Nat → Bool} {held : Bool} {fuel : Nat}
theorem num_places {t : TypeId} {k : IntKind} {cs : List Value} {x : DataW H × List MemPlace} (ht : Tryd.prog.underlying t = some (.int k)) (h : DataW.trod enc Tryd.prog w base spare held fuel t cs = some x) : x.2 = [] := by
  obtain ⟨z, -, rfl, -⟩ := DataW.trod_int ht h
  rfl
theorem flat_nil : ∀ l : List (DataW H × List MemPlace), (∀ y ∈ l, y.2 = []) → l.flatMap (·.2) = []
  | [], _ => rfl
  | y :: l, h => by rw [List.flatMap_cons, h y (by simp), flat_nil l (fun z hz => h z (by simp [hz]))]; rfl
theorem dig_places {cs : List Value} {x : DataW H × List MemPlace} (h : DataW.trod enc Tryd.prog w base spare held fuel 23 cs = some x) : x.2 = [] := by
  obtain ⟨xs, m, -, rfl, -, hxl, hi⟩ := DataW.trod_array Tryd.underlying23 h
  refine flat_nil xs fun y hy => ?_
  obtain ⟨i, hl, rfl⟩ := List.getElem_of_mem hy
  exact num_places Tryd.underlying5 ((hi i (by omega)).trans (List.getElem?_eq_getElem hl))
theorem head_places {cs : List Value} {x : DataW H × List MemPlace} (h : DataW.trod enc Tryd.prog w base spare held fuel 25 cs = some x) : x.2 = [] := by
  obtain ⟨xs, m, -, rfl, -, hxl, hi⟩ := DataW.trod_struct Tryd.underlying25 h
  have hxl8 : xs.length = 8 := hxl
  refine flat_nil xs fun y hy => ?_
  obtain ⟨i, hl, rfl⟩ := List.getElem_of_mem hy
  have h8 : i = 0 ∨ i = 1 ∨ i = 2 ∨ i = 3 ∨ i = 4 ∨ i = 5 ∨ i = 6 ∨ i = 7 := by omega
  rcases h8 with rfl | rfl | rfl | rfl | rfl | rfl | rfl | rfl
  · exact num_places Tryd.underlying3 ((hi 0 _ rfl).trans (List.getElem?_eq_getElem hl))
  · exact num_places Tryd.underlying3 ((hi 1 _ rfl).trans (List.getElem?_eq_getElem hl))
  · exact num_places Tryd.underlying2 ((hi 2 _ rfl).trans (List.getElem?_eq_getElem hl))
  · exact num_places Tryd.underlying2 ((hi 3 _ rfl).trans (List.getElem?_eq_getElem hl))
  · exact dig_places ((hi 4 _ rfl).trans (List.getElem?_eq_getElem hl))
  · exact dig_places ((hi 5 _ rfl).trans (List.getElem?_eq_getElem hl))
  · exact dig_places ((hi 6 _ rfl).trans (List.getElem?_eq_getElem hl))
  · exact num_places Tryd.underlying3 ((hi 7 _ rfl).trans (List.getElem?_eq_getElem hl))
end
set_option maxRecDepth 100000 in
theorem door_met (os : Os) (args : Array Value) : laidMetH Tryd.prog Rows.codecHeadersRow.laid ((World.doorLaid Tryd.prog 3000 os).forCall (fun _ _ => 0) ⟨#[], args, []⟩).memory :=
  laidMetH_of_parts3 (fuel := 8) (laidMet_of_run' 8 (by kernel_rfl) (by kernel_rfl)) (by kernel_rfl) (by kernel_rfl)
theorem own : ownKnob Tryd.prog.godebug = none := by kernel_rfl

set_option maxRecDepth 100000 in
theorem lifted (os : Os) (started : os.Started) (H : Type) (enc : TypeId × Value → H) :
    ReturnsInHanded {} Tryd.checked os 3 .any (fun w args => (Rows.codecHeadersSpec.pre enc Tryd.prog Tryd.f3 [] false w args ∧ laidMetH Tryd.prog Rows.codecHeadersRow.laid w) ∧ sizedMet enc Tryd.prog Tryd.f3 (OpenSpec.ofChange Rows.codecHeadersSpec) false w args)
      (Rows.codecHeadersSpec.post enc Tryd.prog Tryd.f3 false true false false) := by
  refine returnsInHanded_of_change_and (C := Tryd.checked) (X := fun w _ => laidMetH Tryd.prog Rows.codecHeadersRow.laid w) (fun _ _ _ hh h => h.of_heap hh) own started (by kernel_rfl) Tryd.func3
    (ChangeSpec.witness_shaped (enc := enc) (C := Tryd.checked) (os := os) (X := fun w _ => laidMetH Tryd.prog Rows.codecHeadersRow.laid w) false (World.doorLaid Tryd.prog 3000 os) #[.agg zhead.toArray, .agg zhead.toArray] 8 rfl (World.shaped_of_RefB (by kernel_rfl) (by kernel_rfl)) (by kernel_rfl) (by kernel_rfl) (by kernel_rfl) (door_met os _)) ?_
  intro W base args ds gs before hval0 hW _ _ hL _
  have hval : ∀ (j : Nat) t v, Tryd.f3.params[j]? = some t → args[j]? = some v → Value.okWide Tryd.prog W .any base t v := hval0
  have hW' := hW
  obtain ⟨p, q, hA0, hV, rfl, hfz, hnd⟩ := hW
  have hA : DataW.TrodAll enc Tryd.prog W 0 (fun _ => true) true Tryd.f3.params.toList args.toList ds p := hA0
  rw [Tryd.params3] at hA hval
  obtain ⟨v0, v1, d0, d1, p0, p1, rfl, rfl, rfl, h0, h1⟩ := trodAll_two hA
  obtain ⟨rfl, rfl⟩ := trodVars_none hV
  obtain ⟨c0, rfl, -⟩ := okWide_struct Tryd.underlying25 (hval 0 25 v0 rfl rfl)
  obtain ⟨c1, rfl, -⟩ := okWide_struct Tryd.underlying25 (hval 1 25 v1 rfl rfl)
  obtain ⟨l0⟩ := c0
  obtain ⟨l1⟩ := c1
  obtain ⟨m0, t0⟩ := id h0
  obtain ⟨m1, t1⟩ := id h1
  obtain ⟨b0, r0⟩ := open_header t0 W (fun _ => False)
  obtain ⟨b1, r1⟩ := open_header t1 W (fun _ => False)
  obtain rfl : p0 = [] := head_places t0
  obtain rfl : p1 = [] := head_places t1
  have hL' : laidMet Tryd.prog (Rows.codecHeadersRow.laid.filter fun x => x.2.handleName?.isNone) W ∧ handlesMet Tryd.prog [("errors.errorType", Rows.laid_errors_errorType)] W := hL
  obtain ⟨al, af, tl, tf, hLay⟩ := lay_of hL'.1 (by kernel_rfl) (et_of_handle hL'.2 (by simp))
  refine (codecHeaders_any W al af tl tf hLay l0 l1 b0 b1 r0 r1).mono fun e W' ⟨he, hb⟩ => ?_
  subst he
  exact ⟨_, rfl, _, _, _, [], [], [], hW', trodAll_mk1 (shut_bool Tryd.underlying4 _), trodAll_mk2 (Below.trod (by kernel_rfl) (by kernel_rfl) (of_decide_eq_true (by kernel_rfl)) h0 hb (fun _ h => by cases h)) (Below.trod (by kernel_rfl) (by kernel_rfl) (of_decide_eq_true (by kernel_rfl)) h1 hb (fun _ h => by cases h)), rfl, hb.frame _, fun h => by cases h⟩

theorem holds : Rows.CodecHeadersSaid :=
  OpenClaim.holds_of_wide 3 Tryd.f3 rfl rfl rfl rfl rfl rfl rfl ⟨rfl, rfl, rfl, rfl, rfl⟩ rfl rfl rfl rfl rfl (by kernel_rfl) Tryd.func3 (by kernel_rfl)
    (of_decide_eq_true (by kernel_rfl)) (by unfold Func.isWrapper; first | (rw [if_pos (by decide +kernel)]; kernel_rfl) | (rw [if_neg (by decide +kernel)]; exact ⟨rfl, rfl⟩))
    (fun os started H enc _ => lifted os started H enc)
end Go.Proofs.YtlkjahfkgfkilaaDoor
