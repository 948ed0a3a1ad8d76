/- MerkleVerifies: for every input the law returns true and the arguments read as before: the row. -/
import Derived.Test.YtdjbaigfpmibnaaDoorRvL
import Derived.Test.YtdjbaigfpmibnaaDoorMoA
import Derived.Stop.Joined
namespace Go.Proofs.YtdjbaigfpmibnaaDoor
open Go.RowKit Go.ChangeShapes Go.WideShapes Go.ChangeAt Go.Deep

theorem okWide_arr {P : Program} {w : World} {r : Reach} {base : Nat} {t : TypeId} {v : Value} {n : Nat} {e : TypeId} (ht : P.underlying t = some (.array n e)) (h : Value.okWide P w r base t v) : ∃ cs, v = .agg cs ∧ cs.size = P.cellsOf t := by
  simp only [Value.okWide, ht] at h
  obtain ⟨cs, h1, h2, _⟩ := h
  exact ⟨cs, h1, h2⟩
theorem own : ownKnob Tryd.prog.godebug = none := by kernel_rfl
theorem laidOut : laidOutB Tryd.prog = true := by kernel_rfl
def Awakes : Prop := ∀ W : World, Consts W → Calls Tryd.prog 15 #[] W fun e w' => e = .returned (.bool true) ∧ Below W.heap.size W w'
set_option maxRecDepth 100000 in
theorem row_contract (haw : Awakes) (H : Type) (enc : TypeId × Value → H) (W : World) (base : Nat) (args : Array Value) (ds gs : List (DataW H)) (before : List MemPlace)
    (hval : ∀ (j : Nat) t v, Tryd.f4.params[j]? = some t → args[j]? = some v → Value.okWide Tryd.prog W .any base t v)
    (hW : DataW.Whole enc Tryd.prog Tryd.f4.params.toList Rows.merkleVerifiesSpec.vars false W args.toList ds gs before) (hz : (DataW.weightsEach Tryd.prog (Tryd.f4.params.toList ++ (OpenSpec.ofChange Rows.merkleVerifiesSpec).bare.plain.varTypes Tryd.prog) (ds ++ gs)).all (· ≤ reachBytes) = true) (hL : laidMetH Tryd.prog Rows.merkleVerifiesRow.laid W) :
    Calls Tryd.prog 4 args W fun e W' => ∃ v, e = .returned v ∧ Rows.merkleVerifiesSpec.post enc Tryd.prog Tryd.f4 false true false false W args v W' := by
  have hk : Consts W := consts_of (laid := Rows.merkleVerifiesRow.laid) hL (by kernel_rfl) (by kernel_rfl)
  have hW' := hW
  obtain ⟨p, q, hA0, hV, rfl, hfz, hnd⟩ := hW
  have hA : DataW.TrodAll enc Tryd.prog W 0 (fun _ => true) true Tryd.f4.params.toList args.toList ds p := hA0
  rw [Tryd.params4] at hA hval hz
  obtain ⟨v0, vs0, d0, ds0, p0, q0, hargs, rfl, rfl, h0, hrest⟩ := trodAll_cons hA
  obtain ⟨v1, v2, v3, v4, d1, d2, d3, d4, p1, p2, p3, p4, hvs, rfl, rfl, h1, h2, h3, h4⟩ := trodAll_four (args := vs0.toArray) hrest
  obtain rfl : vs0 = [v1, v2, v3, v4] := by simpa using congrArg Array.toList hvs
  obtain rfl : args = #[v0, v1, v2, v3, v4] := by cases args; simp at hargs; subst hargs; rfl
  obtain ⟨rfl, rfl⟩ := trodVars_none hV
  obtain ⟨c0, rfl, -⟩ := okWide_arr Tryd.underlying28 (hval 0 28 v0 rfl rfl)
  obtain ⟨l0⟩ := c0
  obtain ⟨m0, t0⟩ := id h0
  obtain ⟨r, hr, hr2⟩ := dig_cells t0
  have hr3 : l0 = bys r := hr2
  subst hr3
  have hs3 := okWide_slice Tryd.underlying33 (hval 3 33 v3 rfl rfl)
  have hs4 := okWide_slice Tryd.underlying24 (hval 4 24 v4 rfl rfl)
  have hlt : ∀ x ∈ p0 ++ (p1 ++ p2 ++ p3 ++ p4), x.block < W.heap.size := fun x hx => hW'.lt x (by simpa using hx)
  obtain ⟨n, rfl, rfl, rfl, wf1⟩ := open_int Tryd.underlying3 (hval 1 3 v1 rfl rfl) h1
  obtain ⟨i, rfl, rfl, rfl, -⟩ := open_int Tryd.underlying3 (hval 2 3 v2 rfl rfl) h2
  obtain ⟨Ae, ce, e, rfl, he1, he2, he3, he4⟩ := open_bytes (ts := [28, 3, 3, 33, 24] ++ _) (ds := [d0, _, _, d3, d4] ++ []) (j := 3) hs3 h3 rfl rfl hz
  obtain ⟨Ap, cp, ps, rfl, hps⟩ := open_path hs4 h4
  have hn : n ≤ 9223372036854775807 := by
    simp only [Lit.wf, IntKind.min, IntKind.max, IntKind.bits, IntKind.signed] at wf1
    simp at wf1
    omega
  refine (verifies_law haw r hr n i hn W hk W.heap.size Ae ce e he3 (Nat.le_refl _) he1 he2 he4 W.heap.size Ap cp ps hps).mono fun e W' ⟨he, hb⟩ => ?_
  subst he
  have hout : DataW.TrodAll enc Tryd.prog W' 0 (fun b => decide (b < W.heap.size)) true [28, 3, 3, 33, 24] [.agg (bys r).toArray, .int .i64 n, .int .i64 i, .slice Ae e.length ce, .slice Ap ps.length cp] [d0, .lit (.int .i64 n), .lit (.int .i64 i), d3, d4] (p0 ++ ([] ++ [] ++ p3 ++ p4)) := by
    have k0 := Below.trod laidOut (by kernel_rfl) (of_decide_eq_true (by kernel_rfl)) h0 hb (fun x hx => hlt x (by simp [hx]))
    have h := trodAll_mk4 (Below.trod laidOut (by kernel_rfl) (of_decide_eq_true (by kernel_rfl)) h1 hb (fun x hx => by cases hx)) (Below.trod laidOut (by kernel_rfl) (of_decide_eq_true (by kernel_rfl)) h2 hb (fun x hx => by cases hx)) (Below.trod laidOut (by kernel_rfl) (of_decide_eq_true (by kernel_rfl)) h3 hb (fun x hx => hlt x (by simp [hx]))) (Below.trod laidOut (by kernel_rfl) (of_decide_eq_true (by kernel_rfl)) h4 hb (fun x hx => hlt x (by simp [hx])))
    have hh : DataW.TrodAll enc Tryd.prog W' 0 (fun b => decide (b < W.heap.size)) true [28, 3, 3, 33, 24] [.agg (bys r).toArray, .int .i64 n, .int .i64 i, .slice Ae e.length ce, .slice Ap ps.length cp] [d0, .lit (.int .i64 n), .lit (.int .i64 i), d3, d4] (p0 ++ ([] ++ ([] ++ (p3 ++ p4)))) := ⟨p0, _, k0, h, rfl⟩
    simpa only [List.append_assoc, List.nil_append] using hh
  exact ⟨_, rfl, _, _, _, [], _, [], hW', trodAll_mk1 (shut_bool Tryd.underlying4 _), hout, rfl, hb.frame _, fun h => by cases h⟩

theorem laid_met (os : Os) : laidMet Tryd.prog Rows.merkleVerifiesRow.laid (((World.doorLaid Tryd.prog 3000 os)).forCall (fun _ _ => 0) ⟨#[], #[.agg zdig.toArray, .int .i64 0, .int .i64 0, .slice none 0 0, .slice none 0 0], []⟩).memory :=
  laidMet_of_run' 8 (by kernel_rfl) (by kernel_rfl)
theorem reads (os : Os) {H : Type} (enc : TypeId × Value → H) : ∃ places, DataW.whole enc Tryd.prog ((World.doorLaid Tryd.prog 3000 os).forCall (fun _ _ => 0) ⟨#[], #[.agg zdig.toArray, .int .i64 0, .int .i64 0, .slice none 0 0, .slice none 0 0], []⟩).memory Tryd.f4.params.toList Rows.merkleVerifiesSpec.vars false #[Value.agg zdig.toArray, Value.int .i64 0, Value.int .i64 0, Value.slice none 0 0, Value.slice none 0 0].toList 8 = some ([.agg (List.replicate 32 (.lit (.int .u8 0))), .lit (.int .i64 0), .lit (.int .i64 0), .nil, .nil], [], places) :=
  ⟨[], by kernel_rfl⟩
set_option maxRecDepth 100000 in
theorem row_lifted (haw : Awakes) (os : Os) (started : os.Started) (H : Type) (enc : TypeId × Value → H) (F : Stop.Interp) :
    ReturnsInHanded {} Tryd.checked os 4 .any ((OpenSpec.ofChange Rows.merkleVerifiesSpec).preRow enc Tryd.prog Tryd.f4 Rows.merkleVerifiesRow.domain false Rows.merkleVerifiesRow.laid) (((OpenSpec.ofChange Rows.merkleVerifiesSpec).at F).post enc Tryd.prog Tryd.f4 false true false false) := by
  obtain ⟨places, hx⟩ := reads os enc
  refine returnsInHanded_of_row (C := Tryd.checked) (s := OpenSpec.ofChange Rows.merkleVerifiesSpec) own started (by kernel_rfl) Tryd.func4
    (witness_row_at (enc := enc) (C := Tryd.checked) false (World.doorLaid Tryd.prog 3000 os) #[.agg zdig.toArray, .int .i64 0, .int .i64 0, .slice none 0 0, .slice none 0 0] rfl (by kernel_rfl) (by kernel_rfl) (by kernel_rfl)
      (OpenSpec.preRow_of_cond 8 hx (by kernel_rfl) (fun k hk => by cases hk) (by kernel_rfl) (laid_met os))) ?_
  intro W base args ds gs before hval hW _ _ hz hL _ _
  exact row_contract haw H enc W base args ds gs before hval hW hz hL

theorem row_said (haw : Awakes) : Rows.MerkleVerifiesSaid :=
  OpenClaim.holds_of_cond 4 Tryd.f4 rfl rfl rfl rfl rfl rfl rfl ⟨rfl, rfl, rfl, rfl, rfl⟩ rfl rfl rfl rfl rfl (by kernel_rfl) Tryd.func4 (by kernel_rfl)
    (of_decide_eq_true (by kernel_rfl)) (by unfold Func.isWrapper; first | (rw [if_pos (by decide +kernel)]; kernel_rfl) | (rw [if_neg (by decide +kernel)]; exact ⟨rfl, rfl⟩))
    (fun os started H enc _ F => by rw [OpenClaim.pre_eq_preRow]; exact row_lifted haw os started H enc F)
end Go.Proofs.YtdjbaigfpmibnaaDoor
