/- A region that draws its order, in the body of a range over a function: by the plain laws. -/
import Derived.Test.YtapbaonlboefeaaDoorInx
import Derived.Test.YtapbaonlboefeaaDoorIny
import Derived.RangeFuncNested
import Derived.RangeFuncBound
import Derived.RangeFuncCalls
import Derived.RangeFuncLeaves
import Derived.OrdersIn
import Derived.TacticsIn
import Derived.Tactics
namespace Go.Proofs.YtapbaonlboefeaaDoor
open Go

section
variable {P : Program} {ops : Array Oper} {Q : Exit → Act → World → Prop} {n l : Nat}
theorem callsIn_round {f : FuncId} {args : Array Value} {w : World} {R : Ending → World → Prop} (h : Calls P f args w R) : CallsIn (Fence.wide.inRound l) n P f args w R := CallsIn.inRound l (callsIn_wide.2 h)
theorem rowsIn_round {row : String} {args : Array Value} {w : World} {R : Value → World → Prop} (h : Rows P row args w R) : RowsIn (Fence.wide.inRound l) n P row args w R := fun c cs _ => by
  obtain ⟨v, w', r, s⟩ := h c cs
  exact ⟨v, w', r, stepsIn_wide.2 s⟩
/-- An operation that defers nothing goes in a round as anywhere. -/
theorem op_round {o : Oper} {a : Act} {w : World} {K : Act → World → Prop} (hd : ∀ c, o.op ≠ .defer c) (h : o.wp P a w K Q) : o.wpIn (Fence.wide.inRound l) n P a w K Q := by
  refine ⟨fun _ _ => trivial, ?_⟩
  show o.uponIn _ n P a K Q ((o.semAt (some l) a.eval).run P w)
  rw [Oper.semAt_some l _ o hd]
  unfold Oper.wp at h
  generalize (execOp a.eval o).run P w = r at *
  cases r with
  | ok x w' =>
    cases x <;> simp only [Oper.upon, Oper.uponIn] at h ⊢
    case value v => exact h
    case skip => exact h
    case defer d => exact h
    case enter f args => exact ⟨(fun q => by cases q), callsIn_round h⟩
    case row row args => exact ⟨(fun q => by cases q), rowsIn_round h⟩
  | halt x w' => cases x <;> simp only [Oper.upon, Oper.uponIn] at h ⊢ <;> exact h
def noDefer (ops : Array Oper) : Bool := ops.toList.all fun o => match o.op with | .defer _ => false | _ => true
theorem noDefer_at (h : noDefer ops = true) {i : Nat} {o : Oper} (ho : ops[i]? = some o) : ∀ c, o.op ≠ .defer c := fun c e => by
  have hm := Array.mem_of_getElem? ho
  have := List.all_eq_true.1 h o (by simpa using hm)
  rw [e] at this
  cases this
theorem any_round (hd : noDefer ops = true) (hQ : ¬ LetsOut Q) : ∀ (fuel : Nat) (listed : Array Bool) (a : Act) (w : World), wpAny P .any ops Q fuel listed a w → wpAnyIn (Fence.wide.inRound l) n P .any ops Q fuel listed a w
  | 0, _, _, _, h => h
  | fuel + 1, listed, a, w, h => by
    refine ⟨h.1, fun i hi => ?_⟩
    have h2 := h.2 i hi
    unfold wpOp at h2
    unfold wpOpIn
    split
    · rename_i he
      rw [he] at h2
      exact any_round hd hQ fuel _ _ _ h2
    · rename_i o ho
      rw [ho] at h2
      simp only at h2
      split
      · rename_i hw
        rw [if_pos hw] at h2
        rcases h2 with h3 | h3
        · exact Oper.wpIn_mono (fun a w q => any_round hd hQ fuel _ a w q) (op_round (noDefer_at hd ho) h3)
        · exact absurd h3.2 hQ
      · rename_i hw
        rw [if_neg hw] at h2
        exact ⟨fun _ _ => trivial, any_round hd hQ fuel _ _ _ h2⟩
/-- A drawn region in a round. -/
theorem wpIn_region_inx {id : Nat} {a0 : Act} {w0 : World} (m : Nat) (R : (Nat → Value) → Nat → World → Prop) (I : World → Prop) (T : (Nat → Value) → Nat → World → World → Prop)
    (hm : P.follows .mixedOrders = true) (hn : a0.tmps.size = m) (hf : fitOps ops m = true) (hnd : noDefer ops = true) (hQ : ¬ LetsOut Q)
    (hT : ∀ i j vs v w w', i < ops.size → i ≠ j → (∀ o, ops[j]? = some o → waits o i = false) → T vs i w w' → R vs j w → R (fun k => if k = i then v else vs k) j w') (hI : ∀ i vs w w', T vs i w w' → I w → I w') (h0 : I w0.drew)
    (hs : ∀ i o, ops[i]? = some o → ∀ (vs : Nat → Value) (w : World), I w → (∀ j, waits o j = true → R vs j w) → StepI P ops o (putFrom 0 ops.toList vs a0) w (fun v w' => T vs i w w' ∧ R (fun k => if k = i then v else vs k) i w'))
    (hd : ∀ (vs : Nat → Value) (w : World), I w → (∀ j, j < ops.size → R vs j w) → Q .normal (putFrom 0 ops.toList vs a0) w) :
    (Code.region id ops true).wpIn (Fence.wide.inRound l) n P Q a0 w0 := by
  refine wpIn_region_any hm (any_round hnd hQ _ _ _ _ ?_)
  exact wpAny_of_inx m R I T hn hf hT hI h0 hs hd
theorem wpIn_region_iny {id : Nat} {a0 : Act} {w0 : World} (m : Nat) (R : (Nat → Value) → Nat → World → Prop) (I : (Nat → Value) → World → Prop) (T : (Nat → Value) → Nat → Value → World → World → Prop)
    (hm : P.follows .mixedOrders = true) (hn : a0.tmps.size = m) (hf : fitOps ops m = true) (hnd : noDefer ops = true) (hQ : ¬ LetsOut Q)
    (hT : ∀ i j vs v w w', i < ops.size → i ≠ j → (∀ o, ops[j]? = some o → waits o i = false) → T vs i v w w' → R vs j w → R (fun k => if k = i then v else vs k) j w') (hI : ∀ i vs v w w', T vs i v w w' → I vs w → I (fun k => if k = i then v else vs k) w') (h0 : I (fun _ => undef) w0.drew)
    (hs : ∀ i o, ops[i]? = some o → ∀ (vs : Nat → Value) (w : World), I vs w → (∀ j, waits o j = true → R vs j w) → (∀ j, vs j = undef ∨ R vs j w) → vs i = undef → StepI P ops o (putFrom 0 ops.toList vs a0) w (fun v w' => T vs i v w w' ∧ R (fun k => if k = i then v else vs k) i w'))
    (hd : ∀ (vs : Nat → Value) (w : World), I vs w → (∀ j, j < ops.size → R vs j w) → Q .normal (putFrom 0 ops.toList vs a0) w) :
    (Code.region id ops true).wpIn (Fence.wide.inRound l) n P Q a0 w0 := by
  refine wpIn_region_any hm (any_round hnd hQ _ _ _ _ ?_)
  exact wpAny_of_iny m R I T hn hf hT hI h0 hs hd
theorem wpIn_region_inv {id : Nat} {a0 : Act} {w0 : World} (m : Nat) (R : Nat → Value → World → Prop) (I : World → Prop) (T : Nat → World → World → Prop)
    (hm : P.follows .mixedOrders = true) (hn : a0.tmps.size = m) (hf : fitOps ops m = true) (hnd : noDefer ops = true) (hQ : ¬ LetsOut Q)
    (hT : ∀ i j v w w', i < ops.size → i ≠ j → (∀ o, ops[j]? = some o → waits o i = false) → T i w w' → R j v w → R j v w') (hI : ∀ i w w', T i w w' → I w → I w') (h0 : I w0.drew)
    (hs : ∀ i o, ops[i]? = some o → ∀ (vs : Nat → Value) (w : World), I w → (∀ j, waits o j = true → R j (vs j) w) → StepI P ops o (putFrom 0 ops.toList vs a0) w (fun v w' => T i w w' ∧ R i v w'))
    (hd : ∀ (vs : Nat → Value) (w : World), I w → (∀ j, j < ops.size → R j (vs j) w) → Q .normal (putFrom 0 ops.toList vs a0) w) :
    (Code.region id ops true).wpIn (Fence.wide.inRound l) n P Q a0 w0 := by
  refine wpIn_region_any hm (any_round hnd hQ _ _ _ _ ?_)
  exact wpAny_of_inv m R I T hn hf hT hI h0 hs hd
theorem list_round {all : Array Oper} (hQ : ¬ LetsOut Q) : ∀ (ol : List Oper) (_ : ∀ o ∈ ol, ∀ c, o.op ≠ .defer c) (a : Act) (w : World), wpList P all Q ol a w → wpListIn (Fence.wide.inRound l) n P all Q ol a w
  | [], _, _, _, h => h
  | o :: r, hd, a, w, h => by
    unfold wpList at h
    unfold wpListIn
    split
    · rename_i hw
      rw [if_pos hw] at h
      rcases h with h3 | h3
      · exact Oper.wpIn_mono (fun a w q => list_round hQ r (fun o ho => hd o (by simp [ho])) a w q) (op_round (hd o (by simp)) h3)
      · exact absurd h3.2 hQ
    · rename_i hw
      rw [if_neg hw] at h
      exact ⟨fun _ _ => trivial, list_round hQ r (fun o ho => hd o (by simp [ho])) _ _ h⟩
/-- A region in its order, in a round. -/
theorem wpIn_region_round {id : Nat} {ol : List Oper} {a : Act} {w : World} (hnd : noDefer ol.toArray = true) (hQ : ¬ LetsOut Q) (h : wpList P ol.toArray Q ol a w) : (Code.region id ol.toArray false).wpIn (Fence.wide.inRound l) n P Q a w :=
  wpIn_region_lit (list_round hQ ol (fun o ho => by
    obtain ⟨i, hi, rfl⟩ := List.getElem_of_mem ho
    exact noDefer_at hnd (i := i) (by simp [hi])) a w h)
end
end Go.Proofs.YtapbaonlboefeaaDoor
