/- A region that draws its order, as in Inx, where an operation may also know of all that others yielded, those that did not come up yet being undef: two variables of one type. | A region that draws its order, in the body of a range over a function: by the plain laws. | Variables that a drawn region allocates and stores into: whatever the order, each in a block of its own. | A region that draws its order, the most general form: what holds may speak of which operations have come up (L), the slots of the others hold what they held. -/
import Derived.Test.YtapbaonlboefeaaDoorInv
import Derived.Test.YtapbaonlboefeaaDoorInx
import Derived.RangeFuncNested
import Derived.RangeFuncBound
import Derived.RangeFuncCalls
import Derived.RangeFuncLeaves
import Derived.OrdersIn
import Derived.TacticsIn
import Derived.Tactics
import Derived.Test.YtapbaonlboefeaaDoorKp
namespace Go.Proofs.YtapbaonlboefeaaDoor
open Go

section
variable {P : Program} {ops : Array Oper} {Q : Exit → Act → World → Prop}

theorem wpAny_iny {a0 : Act} {R : (Nat → Value) → Nat → World → Prop} {I : (Nat → Value) → World → Prop} {T : (Nat → Value) → Nat → Value → World → World → Prop}
    (hf : fitOps ops a0.tmps.size = true) (hT : ∀ i j vs v w w', i < ops.size → i ≠ j → reaches ops ops.size j i = false → T vs i v w w' → R vs j w → R (fun k => if k = i then v else vs k) j w') (hI : ∀ i vs v w w', T vs i v w w' → I vs w → I (fun k => if k = i then v else vs k) w')
    (hs : ∀ i o, ops[i]? = some o → ∀ (vs : Nat → Value) (w : World), I vs w → (∀ e ∈ o.after, Region.binds .any e = true → R vs e.on w) → (∀ j, vs j = undef ∨ R vs j w) → vs i = undef → StepI P ops o (putFrom 0 ops.toList vs a0) w (fun v w' => T vs i v w w' ∧ R (fun k => if k = i then v else vs k) i w'))
    (hd : ∀ (vs : Nat → Value) (w : World), I vs w → (∀ j, j < ops.size → R vs j w) → Q .normal (putFrom 0 ops.toList vs a0) w) :
    ∀ (fuel : Nat) (listed : Array Bool) (a : Act) (w : World) (vs : Nat → Value), listed.size = ops.size → (listed.toList.countP (· == false)) ≤ fuel → GotW ops a0 vs listed a → I vs w → (∀ j o, ops[j]? = some o → listed.getD j false = true → ∀ e ∈ o.after, Region.binds .any e = true → listed.getD e.on false = true) → (∀ j, listed.getD j false = true → R vs j w) → (∀ j, listed.getD j false = false → vs j = undef) → wpAny P .any ops Q fuel listed a w := by
  have hall : ∀ (listed : Array Bool) (a : Act) (w : World) (vs : Nat → Value), listed.size = ops.size → GotW ops a0 vs listed a → I vs w → (∀ j, listed.getD j false = true → R vs j w) → Region.ready .any ops listed = [] → Q .normal a w := by
    intro listed a w vs hsz hg hi hr hnil
    have hl : ∀ i, i < ops.size → listed.getD i false = true := by
      intro i
      induction i using Nat.strongRecOn with
      | ind i ih =>
        intro hlt
        rcases Bool.eq_false_or_eq_true (listed.getD i false) with h | h
        · exact h
        · have hmem : i ∈ Region.ready .any ops listed := by
            refine mem_ready.2 ⟨?_, ops[i], by simp [hlt], fun e he hb => ?_⟩
            · have : i < listed.size := by omega
              simpa [this] using h
            · have hlt2 := (fit_at hf (o := ops[i]) (i := i) (by simp [hlt])).2.2.1 e he hb
              exact ih e.on hlt2 (by omega)
          rw [hnil] at hmem; cases hmem
    have e : a = putFrom 0 ops.toList vs a0 := by
      have ht : a.tmps = (putFrom 0 ops.toList vs a0).tmps := by
        refine Array.ext (by rw [hg.size, putFrom_size]) (fun t h1 h2 => ?_)
        have q : a.tmps.getD t undef = (putFrom 0 ops.toList vs a0).tmps.getD t undef := by
          by_cases hx : ∃ o ∈ ops.toList, o.dst = some t
          · obtain ⟨o, ho, hdst⟩ := hx
            obtain ⟨j, hj, rfl⟩ := List.getElem_of_mem ho
            have hjo : ops[j]? = some ops.toList[j] := by simp at hj; simp [hj]
            rw [hg.got j _ t hjo (hl j (by simpa using hj)) hdst, putFrom_got _ _ _ _ j _ t (fit_nodup hf) (by simp) hdst (by rw [← hg.size]; exact h1), Nat.zero_add]
          · have hx' : ∀ o ∈ ops.toList, o.dst ≠ some t := fun o ho he => hx ⟨o, ho, he⟩
            rw [hg.old t hx', putFrom_other _ _ _ _ t hx']
        simpa [h1, h2] using q
      cases a
      have hdf := hg.defers
      rw [← putFrom_defers ops.toList 0 vs a0] at hdf
      simp only at ht hdf
      rw [ht, hdf]
    rw [e]
    exact hd vs w hi (fun j hj => hr j (hl j hj))
  intro fuel
  induction fuel with
  | zero =>
    intro listed a w vs hsz hc hg hi hcl hr hu
    have hnil : Region.ready .any ops listed = [] := by
      cases hrd : Region.ready .any ops listed with
      | nil => rfl
      | cons x l =>
        have hx : x ∈ Region.ready .any ops listed := by rw [hrd]; simp
        obtain ⟨h1, o, ho, -⟩ := mem_ready.1 hx
        have hlt : x < listed.size := by rw [hsz]; exact (Array.getElem?_eq_some_iff.1 ho).1
        have h0 : listed[x] = false := by simpa [hlt] using h1
        have : listed.toList.countP (· == false) ≠ 0 := fun e => by
          rw [List.countP_eq_zero] at e
          have := e listed[x] (by simp)
          simp [h0] at this
        omega
    exact ⟨hnil, hall listed a w vs hsz hg hi hr hnil⟩
  | succ fuel ih =>
    intro listed a w vs hsz hc hg hi hcl hr hu
    refine ⟨hall listed a w vs hsz hg hi hr, fun i hmem => ?_⟩
    obtain ⟨h1, o, ho, hdep⟩ := mem_ready.1 hmem
    have hlt : i < listed.size := by rw [hsz]; exact (Array.getElem?_eq_some_iff.1 ho).1
    have h0 : listed[i] = false := by simpa [hlt] using h1
    obtain ⟨f1, f2, f3, f4, f5⟩ := fit_at hf ho
    have hst := hs i o ho vs w hi (fun e he hb => hr e.on (hdep e he hb)) (fun j => by
      rcases Bool.eq_false_or_eq_true (listed.getD j false) with h | h
      · exact .inr (hr j h)
      · exact .inl (hu j h)) (hu i (by simpa [hlt] using h0))
    -- it reads the same
    have hev : ∀ t, (∀ j p, ops[j]? = some p → p.dst = some t → ∃ e ∈ o.after, e.on = j ∧ Region.binds .any e = true) → a.tmps.getD t undef = (putFrom 0 ops.toList vs a0).tmps.getD t undef := by
      intro t ht
      by_cases hx : ∃ p ∈ ops.toList, p.dst = some t
      · obtain ⟨p, hp, hdst⟩ := hx
        obtain ⟨j, hj, rfl⟩ := List.getElem_of_mem hp
        have hjo : ops[j]? = some ops.toList[j] := by simp at hj; simp [hj]
        obtain ⟨e, he, hej, hb⟩ := ht j _ hjo hdst
        rw [hg.got j _ t hjo (by rw [← hej]; exact hdep e he hb) hdst, putFrom_got _ _ _ _ j _ t (fit_nodup hf) (by simp) hdst ((fit_at hf hjo).2.1 t hdst), Nat.zero_add]
      · have hx' : ∀ o ∈ ops.toList, o.dst ≠ some t := fun o ho he => hx ⟨o, ho, he⟩
        rw [hg.old t hx', putFrom_other _ _ _ _ t hx']
    have hexec : execOp a.eval o = execOp (putFrom 0 ops.toList vs a0).eval o := execOp_congr o f1 fun x hx => by
      cases x with
      | tmp t => exact hev t (f5 t hx)
      | const v => rfl
      | global g => rfl
      | func f => rfl
    have hwant : Region.wanted o (yielded ops a.tmps) = Region.wanted o (yielded ops (putFrom 0 ops.toList vs a0).tmps) := by
      unfold Region.wanted
      cases hgd : o.guard with
      | none => rfl
      | some gb =>
        obtain ⟨g, b⟩ := gb
        obtain ⟨g1, ⟨e, he, heg, hb⟩, g3⟩ := f4 g b hgd
        have hgo : ops[g]? = some ops[g] := by simp [g1]
        obtain ⟨t, hdst⟩ := Option.isSome_iff_exists.1 g3
        rw [hgo, Option.bind_some] at hdst
        have q : a.tmps[t]? = (putFrom 0 ops.toList vs a0).tmps[t]? := by
          have hlt2 := (fit_at hf hgo).2.1 t hdst
          have q := hev t (fun j p hj hp => by
            have : j = g := by
              have nd := fit_nodup hf
              rcases Nat.lt_trichotomy j g with hh | hh | hh
              · exact absurd nd (by
                  intro nd
                  have a1 := putFrom_got ops.toList 0 (fun n => .int .i64 n) a0 j p t nd (by simpa using hj) hp hlt2
                  have a2 := putFrom_got ops.toList 0 (fun n => .int .i64 n) a0 g _ t nd (by simp) hdst hlt2
                  rw [a1] at a2
                  simp at a2; omega)
              · exact hh
              · exact absurd nd (by
                  intro nd
                  have a1 := putFrom_got ops.toList 0 (fun n => .int .i64 n) a0 j p t nd (by simpa using hj) hp hlt2
                  have a2 := putFrom_got ops.toList 0 (fun n => .int .i64 n) a0 g _ t nd (by simp) hdst hlt2
                  rw [a1] at a2
                  simp at a2; omega)
            exact ⟨e, he, by rw [this]; exact heg, hb⟩)
          have s1 : t < a.tmps.size := by rw [hg.size]; exact hlt2
          have s2 : t < (putFrom 0 ops.toList vs a0).tmps.size := by rw [putFrom_size]; exact hlt2
          simpa [s1, s2] using q
        simp only [yielded, hgo, Option.bind_some, hdst, q]
    -- the state behind it
    have hnext : ∀ (v : Value) (w' : World), T vs i v w w' ∧ R (fun k => if k = i then v else vs k) i w' → wpAny P .any ops Q fuel (listed.setIfInBounds i true) (a.put o.dst v) w' := by
      intro v w' ⟨ht, hri⟩
      refine ih _ _ w' (fun j => if j = i then v else vs j) (by simpa using hsz) ?_ ⟨by rw [put_size]; exact hg.size, by rw [put_defers]; exact hg.defers, fun t hno => ?_, fun j p d hj hlj hpd => ?_⟩ (hI i vs v w w' ht hi) (fun j p hp hj e he hb => ?_) (fun j hj => ?_) (fun j hj => ?_)
      · have hc2 : (listed.setIfInBounds i true).toList.countP (· == false) < listed.toList.countP (· == false) := by
          rw [Array.toList_setIfInBounds, List.countP_set (by simpa using hlt)]
          have hpos : 0 < listed.toList.countP (· == false) := by
            rw [List.countP_pos_iff]
            exact ⟨listed[i], by simp, by simp [h0]⟩
          have hi2 : i < listed.toList.length := by simpa using hlt
          have e1 : (listed.toList[i]'hi2 == false) = true := by simp [h0]
          rw [if_pos e1, if_neg (by simp)]
          omega
        omega
      · rw [put_other (hno o (by
          have := Array.mem_of_getElem? ho
          simpa using this))]
        exact hg.old t hno
      · by_cases hji : j = i
        · subst hji
          rw [ho] at hj
          cases hj
          simp only [if_true]
          rw [hpd, put_same (by rw [hg.size]; exact f2 d hpd)]
        · simp only [if_neg hji]
          have hne : o.dst ≠ some d := fun e => by
            have nd := fit_nodup hf
            have a1 := putFrom_got ops.toList 0 (fun n => .int .i64 n) a0 j p d nd (by simpa using hj) hpd (f2 d e)
            have a2 := putFrom_got ops.toList 0 (fun n => .int .i64 n) a0 i o d nd (by simpa using ho) e (f2 d e)
            rw [a1] at a2
            simp at a2; omega
          rw [put_other hne]
          refine hg.got j p d hj ?_ hpd
          rw [getD_set_ne false (fun e => hji e.symm)] at hlj
          exact hlj
      · have hset : ∀ q, listed.getD q false = true → (listed.setIfInBounds i true).getD q false = true := fun q hq => by
          by_cases hqi : i = q
          · subst hqi; simp [hlt]
          · rw [getD_set_ne false hqi]; exact hq
        by_cases hji : j = i
        · subst hji
          rw [ho] at hp
          cases hp
          exact hset _ (hdep e he hb)
        · rw [getD_set_ne false (fun e => hji e.symm)] at hj
          exact hset _ (hcl j p hp hj e he hb)
      · by_cases hji : j = i
        · subst hji; exact hri
        · rw [getD_set_ne false (fun e => hji e.symm)] at hj
          refine hT i j vs v w w' (by omega) (fun e => hji e.symm) ?_ ht (hr j hj)
          rcases Bool.eq_false_or_eq_true (reaches ops ops.size j i) with hre | hre
          · have := reaches_listed hcl _ j i hj hre
            simp [hlt, h0] at this
          · exact hre
      · by_cases hji : j = i
        · subst hji; simp [hlt] at hj
        · simp only [if_neg hji]
          rw [getD_set_ne false (fun e => hji e.symm)] at hj
          exact hu j hj
    unfold wpOp
    simp only [ho]
    rcases hst with ⟨hw, hgo⟩ | ⟨hw, hR⟩
    · rw [hwant, hw]
      simp only [if_true]
      refine .inl ?_
      unfold Oper.wp
      rw [hexec]
      exact upon_other (a := putFrom 0 ops.toList vs a0) (fun t e => by rw [putFrom_size]; exact f2 t e) hgo hnext
    · rw [hwant, hw]
      exact hnext undef w hR

/-- A drawn region so. -/
theorem wpAny_of_iny {a0 : Act} {w0 : World} (n : Nat) (R : (Nat → Value) → Nat → World → Prop) (I : (Nat → Value) → World → Prop) (T : (Nat → Value) → Nat → Value → World → World → Prop)
    (hn : a0.tmps.size = n) (hf : fitOps ops n = true)
    (hT : ∀ i j vs v w w', i < ops.size → i ≠ j → (∀ o, ops[j]? = some o → waits o i = false) → T vs i v w w' → R vs j w → R (fun k => if k = i then v else vs k) j w') (hI : ∀ i vs v w w', T vs i v w w' → I vs w → I (fun k => if k = i then v else vs k) w') (h0 : I (fun _ => undef) w0.drew)
    (hs : ∀ i o, ops[i]? = some o → ∀ (vs : Nat → Value) (w : World), I vs w → (∀ j, waits o j = true → R vs j w) → (∀ j, vs j = undef ∨ R vs j w) → vs i = undef → StepI P ops o (putFrom 0 ops.toList vs a0) w (fun v w' => T vs i v w w' ∧ R (fun k => if k = i then v else vs k) i w'))
    (hd : ∀ (vs : Nat → Value) (w : World), I vs w → (∀ j, j < ops.size → R vs j w) → Q .normal (putFrom 0 ops.toList vs a0) w) :
    wpAny P .any ops Q ops.size (Array.replicate ops.size false) a0 w0.drew := by
  subst hn
  have hs' : ∀ i o, ops[i]? = some o → ∀ (vs : Nat → Value) (w : World), I vs w → (∀ e ∈ o.after, Region.binds .any e = true → R vs e.on w) → (∀ j, vs j = undef ∨ R vs j w) → vs i = undef → StepI P ops o (putFrom 0 ops.toList vs a0) w (fun v w' => T vs i v w w' ∧ R (fun k => if k = i then v else vs k) i w') :=
    fun i o ho vs w hi hr hx hz => hs i o ho vs w hi (fun j hj => by
      unfold waits at hj
      simp only [List.any_eq_true, Bool.and_eq_true, beq_iff_eq] at hj
      obtain ⟨e, he, rfl, hb⟩ := hj
      exact hr e (by simpa using he) hb) hx hz
  have hT' : ∀ i j vs v w w', i < ops.size → i ≠ j → reaches ops ops.size j i = false → T vs i v w w' → R vs j w → R (fun k => if k = i then v else vs k) j w' := fun i j vs v w w' h1 h2 h3 => hT i j vs v w w' h1 h2 (fun o ho => by
    rcases Bool.eq_false_or_eq_true (waits o i) with hw | hw
    · obtain ⟨n, hn⟩ : ∃ n, ops.size = n + 1 := ⟨ops.size - 1, by omega⟩
      rw [hn, reaches_of_waits ho hw] at h3
      cases h3
    · exact hw)
  refine (wpAny_iny hf hT' hI hs' hd ops.size _ a0 _ (fun _ => undef) (by simp) (Nat.le_trans List.countP_le_length (by simp)) ⟨rfl, rfl, fun _ _ => rfl, fun i o d hi hl => ?_⟩ h0 (fun j o hj hl => ?_) (fun j hj => ?_) (fun _ _ => rfl))
  · rw [Array.getD_eq_getD_getElem?, Array.getElem?_replicate] at hl; split at hl <;> simp at hl
  · rw [Array.getD_eq_getD_getElem?, Array.getElem?_replicate] at hl; split at hl <;> simp at hl
  · rw [Array.getD_eq_getD_getElem?, Array.getElem?_replicate] at hj; split at hj <;> simp at hj
theorem wp_region_iny {id : Nat} {a0 : Act} {w0 : World} (n : Nat) (R : (Nat → Value) → Nat → World → Prop) (I : (Nat → Value) → World → Prop) (T : (Nat → Value) → Nat → Value → World → World → Prop)
    (hm : P.follows .mixedOrders = true) (hn : a0.tmps.size = n) (hf : fitOps ops n = true)
    (hT : ∀ i j vs v w w', i < ops.size → i ≠ j → (∀ o, ops[j]? = some o → waits o i = false) → T vs i v w w' → R vs j w → R (fun k => if k = i then v else vs k) j w') (hI : ∀ i vs v w w', T vs i v w w' → I vs w → I (fun k => if k = i then v else vs k) w') (h0 : I (fun _ => undef) w0.drew)
    (hs : ∀ i o, ops[i]? = some o → ∀ (vs : Nat → Value) (w : World), I vs w → (∀ j, waits o j = true → R vs j w) → (∀ j, vs j = undef ∨ R vs j w) → vs i = undef → StepI P ops o (putFrom 0 ops.toList vs a0) w (fun v w' => T vs i v w w' ∧ R (fun k => if k = i then v else vs k) i w'))
    (hd : ∀ (vs : Nat → Value) (w : World), I vs w → (∀ j, j < ops.size → R vs j w) → Q .normal (putFrom 0 ops.toList vs a0) w) :
    (Code.region id ops true).wp P Q a0 w0 := wp_region_any hm (wpAny_of_iny n R I T hn hf hT hI h0 hs hd)
end
end Go.Proofs.YtapbaonlboefeaaDoor
namespace Go.Proofs.YtapbaonlboefeaaDoor
open Go

section
variable {P : Program} {ops : Array Oper} {Q : Exit → Act → World → Prop} {n l : Nat}
theorem callsIn_round {f : FuncId} {args : Array Value} {w : World} {R : Ending → World → Prop} (h : Calls P f args w R) : CallsIn (Fence.wide.inRound l) n P f args w R := CallsIn.inRound l (callsIn_wide.2 h)
theorem rowsIn_round {row : String} {args : Array Value} {w : World} {R : Value → World → Prop} (h : Rows P row args w R) : RowsIn (Fence.wide.inRound l) n P row args w R := fun c cs _ => by
  obtain ⟨v, w', r, s⟩ := h c cs
  exact ⟨v, w', r, stepsIn_wide.2 s⟩
/-- An operation that defers nothing goes in a round as anywhere. -/
theorem op_round {o : Oper} {a : Act} {w : World} {K : Act → World → Prop} (hd : ∀ c, o.op ≠ .defer c) (h : o.wp P a w K Q) : o.wpIn (Fence.wide.inRound l) n P a w K Q := by
  refine ⟨fun _ _ => trivial, ?_⟩
  show o.uponIn _ n P a K Q ((o.semAt (some l) a.eval).run P w)
  rw [Oper.semAt_some l _ o hd]
  unfold Oper.wp at h
  generalize (execOp a.eval o).run P w = r at *
  cases r with
  | ok x w' =>
    cases x <;> simp only [Oper.upon, Oper.uponIn] at h ⊢
    case value v => exact h
    case skip => exact h
    case defer d => exact h
    case enter f args => exact ⟨(fun q => by cases q), callsIn_round h⟩
    case row row args => exact ⟨(fun q => by cases q), rowsIn_round h⟩
  | halt x w' => cases x <;> simp only [Oper.upon, Oper.uponIn] at h ⊢ <;> exact h
def noDefer (ops : Array Oper) : Bool := ops.toList.all fun o => match o.op with | .defer _ => false | _ => true
theorem noDefer_at (h : noDefer ops = true) {i : Nat} {o : Oper} (ho : ops[i]? = some o) : ∀ c, o.op ≠ .defer c := fun c e => by
  have hm := Array.mem_of_getElem? ho
  have := List.all_eq_true.1 h o (by simpa using hm)
  rw [e] at this
  cases this
theorem any_round (hd : noDefer ops = true) (hQ : ¬ LetsOut Q) : ∀ (fuel : Nat) (listed : Array Bool) (a : Act) (w : World), wpAny P .any ops Q fuel listed a w → wpAnyIn (Fence.wide.inRound l) n P .any ops Q fuel listed a w
  | 0, _, _, _, h => h
  | fuel + 1, listed, a, w, h => by
    refine ⟨h.1, fun i hi => ?_⟩
    have h2 := h.2 i hi
    unfold wpOp at h2
    unfold wpOpIn
    split
    · rename_i he
      rw [he] at h2
      exact any_round hd hQ fuel _ _ _ h2
    · rename_i o ho
      rw [ho] at h2
      simp only at h2
      split
      · rename_i hw
        rw [if_pos hw] at h2
        rcases h2 with h3 | h3
        · exact Oper.wpIn_mono (fun a w q => any_round hd hQ fuel _ a w q) (op_round (noDefer_at hd ho) h3)
        · exact absurd h3.2 hQ
      · rename_i hw
        rw [if_neg hw] at h2
        exact ⟨fun _ _ => trivial, any_round hd hQ fuel _ _ _ h2⟩
/-- A drawn region in a round. -/
theorem wpIn_region_inx {id : Nat} {a0 : Act} {w0 : World} (m : Nat) (R : (Nat → Value) → Nat → World → Prop) (I : World → Prop) (T : (Nat → Value) → Nat → World → World → Prop)
    (hm : P.follows .mixedOrders = true) (hn : a0.tmps.size = m) (hf : fitOps ops m = true) (hnd : noDefer ops = true) (hQ : ¬ LetsOut Q)
    (hT : ∀ i j vs v w w', i < ops.size → i ≠ j → (∀ o, ops[j]? = some o → waits o i = false) → T vs i w w' → R vs j w → R (fun k => if k = i then v else vs k) j w') (hI : ∀ i vs w w', T vs i w w' → I w → I w') (h0 : I w0.drew)
    (hs : ∀ i o, ops[i]? = some o → ∀ (vs : Nat → Value) (w : World), I w → (∀ j, waits o j = true → R vs j w) → StepI P ops o (putFrom 0 ops.toList vs a0) w (fun v w' => T vs i w w' ∧ R (fun k => if k = i then v else vs k) i w'))
    (hd : ∀ (vs : Nat → Value) (w : World), I w → (∀ j, j < ops.size → R vs j w) → Q .normal (putFrom 0 ops.toList vs a0) w) :
    (Code.region id ops true).wpIn (Fence.wide.inRound l) n P Q a0 w0 := by
  refine wpIn_region_any hm (any_round hnd hQ _ _ _ _ ?_)
  exact wpAny_of_inx m R I T hn hf hT hI h0 hs hd
theorem wpIn_region_iny {id : Nat} {a0 : Act} {w0 : World} (m : Nat) (R : (Nat → Value) → Nat → World → Prop) (I : (Nat → Value) → World → Prop) (T : (Nat → Value) → Nat → Value → World → World → Prop)
    (hm : P.follows .mixedOrders = true) (hn : a0.tmps.size = m) (hf : fitOps ops m = true) (hnd : noDefer ops = true) (hQ : ¬ LetsOut Q)
    (hT : ∀ i j vs v w w', i < ops.size → i ≠ j → (∀ o, ops[j]? = some o → waits o i = false) → T vs i v w w' → R vs j w → R (fun k => if k = i then v else vs k) j w') (hI : ∀ i vs v w w', T vs i v w w' → I vs w → I (fun k => if k = i then v else vs k) w') (h0 : I (fun _ => undef) w0.drew)
    (hs : ∀ i o, ops[i]? = some o → ∀ (vs : Nat → Value) (w : World), I vs w → (∀ j, waits o j = true → R vs j w) → (∀ j, vs j = undef ∨ R vs j w) → vs i = undef → StepI P ops o (putFrom 0 ops.toList vs a0) w (fun v w' => T vs i v w w' ∧ R (fun k => if k = i then v else vs k) i w'))
    (hd : ∀ (vs : Nat → Value) (w : World), I vs w → (∀ j, j < ops.size → R vs j w) → Q .normal (putFrom 0 ops.toList vs a0) w) :
    (Code.region id ops true).wpIn (Fence.wide.inRound l) n P Q a0 w0 := by
  refine wpIn_region_any hm (any_round hnd hQ _ _ _ _ ?_)
  exact wpAny_of_iny m R I T hn hf hT hI h0 hs hd
theorem wpIn_region_inv {id : Nat} {a0 : Act} {w0 : World} (m : Nat) (R : Nat → Value → World → Prop) (I : World → Prop) (T : Nat → World → World → Prop)
    (hm : P.follows .mixedOrders = true) (hn : a0.tmps.size = m) (hf : fitOps ops m = true) (hnd : noDefer ops = true) (hQ : ¬ LetsOut Q)
    (hT : ∀ i j v w w', i < ops.size → i ≠ j → (∀ o, ops[j]? = some o → waits o i = false) → T i w w' → R j v w → R j v w') (hI : ∀ i w w', T i w w' → I w → I w') (h0 : I w0.drew)
    (hs : ∀ i o, ops[i]? = some o → ∀ (vs : Nat → Value) (w : World), I w → (∀ j, waits o j = true → R j (vs j) w) → StepI P ops o (putFrom 0 ops.toList vs a0) w (fun v w' => T i w w' ∧ R i v w'))
    (hd : ∀ (vs : Nat → Value) (w : World), I w → (∀ j, j < ops.size → R j (vs j) w) → Q .normal (putFrom 0 ops.toList vs a0) w) :
    (Code.region id ops true).wpIn (Fence.wide.inRound l) n P Q a0 w0 := by
  refine wpIn_region_any hm (any_round hnd hQ _ _ _ _ ?_)
  exact wpAny_of_inv m R I T hn hf hT hI h0 hs hd
theorem list_round {all : Array Oper} (hQ : ¬ LetsOut Q) : ∀ (ol : List Oper) (_ : ∀ o ∈ ol, ∀ c, o.op ≠ .defer c) (a : Act) (w : World), wpList P all Q ol a w → wpListIn (Fence.wide.inRound l) n P all Q ol a w
  | [], _, _, _, h => h
  | o :: r, hd, a, w, h => by
    unfold wpList at h
    unfold wpListIn
    split
    · rename_i hw
      rw [if_pos hw] at h
      rcases h with h3 | h3
      · exact Oper.wpIn_mono (fun a w q => list_round hQ r (fun o ho => hd o (by simp [ho])) a w q) (op_round (hd o (by simp)) h3)
      · exact absurd h3.2 hQ
    · rename_i hw
      rw [if_neg hw] at h
      exact ⟨fun _ _ => trivial, list_round hQ r (fun o ho => hd o (by simp [ho])) _ _ h⟩
/-- A region in its order, in a round. -/
theorem wpIn_region_round {id : Nat} {ol : List Oper} {a : Act} {w : World} (hnd : noDefer ol.toArray = true) (hQ : ¬ LetsOut Q) (h : wpList P ol.toArray Q ol a w) : (Code.region id ol.toArray false).wpIn (Fence.wide.inRound l) n P Q a w :=
  wpIn_region_lit (list_round hQ ol (fun o ho => by
    obtain ⟨i, hi, rfl⟩ := List.getElem_of_mem ho
    exact noDefer_at hnd (i := i) (by simp [hi])) a w h)
end
end Go.Proofs.YtapbaonlboefeaaDoor
namespace Go.Proofs.YtapbaonlboefeaaDoor
open Go.RowKit

/-- A pointer to a variable. -/
abbrev ptrV (g : Nat) : Value := .pointer (some ⟨g, 0, none⟩)
/-- Block b is none of these variables'. -/
def ApartV (b : Nat) (Ns : List Value) : Prop := ∀ N ∈ Ns, ∀ g', N = ptrV g' → b ≠ g'
theorem ptrV_inj {g g' : Nat} (h : ptrV g = ptrV g') : g = g' := by
  simpa [ptrV] using h
/-- A variable's block was laid: what lies is apart from it. -/
theorem ApartV.up {b s : Nat} {Ns Ns' : List Value} (h : ApartV b Ns) (hb : b < s) (hN : ∀ N ∈ Ns', N ∈ Ns ∨ N = ptrV s) : ApartV b Ns' := fun N hm g' e => by
  rcases hN N hm with q | q
  · exact h N q g' e
  · rw [q] at e
    have := ptrV_inj e
    omega
/-- A variable of type t. -/
def VarN (G : Nat) (w : World) (v : Value) (t : TypeId) (P : List Value → Prop) (Ns : List Value) : Prop := ∃ g cs, v = ptrV g ∧ G ≤ g ∧ HB w g t cs ∧ P cs ∧ ApartV g Ns
/-- Bytes that a call made. -/
def SlotN (G : Nat) (w : World) (v : Value) (l : List UInt8) (Ns : List Value) : Prop := ∃ A c, v = .slice A l.length c ∧ l.length ≤ c ∧ c ≤ 9223372036854775807 ∧ Sees w w.heap.size 1 A l.length (bys l) ∧ ∀ ad : Addr, A = some ad → G ≤ ad.block ∧ (0 < l.length → ad.block < w.heap.size → ApartV ad.block Ns)
/-- A variable is laid. -/
def AlT (v : Value) (w w' : World) : Prop := v = ptrV w.heap.size ∧ ∃ o, w' = w.alloc o
/-- A variable is written. -/
def StT (G : Nat) (v : Value) (t : TypeId) (l : List Value) (w w' : World) : Prop := ∃ g cs, v = ptrV g ∧ G ≤ g ∧ HB w g t cs ∧ l.length = cs.length ∧ w' = w.setCells g 0 l
section
variable {G : Nat} {w w' : World} {v v' : Value} {t t' : TypeId} {P P' : List Value → Prop} {Ns Ns' : List Value} {l : List Value} {b : List UInt8}
theorem VarN.imp (h : VarN G w v t P Ns) (hP : ∀ cs, P cs → P' cs) : VarN G w v t P' Ns := by
  obtain ⟨g, cs, h1, h2, h3, h4, h5⟩ := h
  exact ⟨g, cs, h1, h2, h3, hP cs h4, h5⟩
theorem VarN.lt {g : Nat} (h : VarN G w (ptrV g) t P Ns) : g < w.heap.size := by
  obtain ⟨g', cs, h1, -, h3, -⟩ := h
  rw [ptrV_inj h1]; exact h3.lt
theorem VarN.below (h : VarN G w v t P Ns) (hb : Below w.heap.size w w') : VarN G w' v t P Ns := by
  obtain ⟨g, cs, h1, h2, h3, h4, h5⟩ := h
  exact ⟨g, cs, h1, h2, h3.below hb h3.lt, h4, h5⟩
theorem VarN.alloc (h : VarN G w v t P Ns) (ha : AlT v' w w') (hN : ∀ N ∈ Ns', N ∈ Ns ∨ N = v') : VarN G w' v t P Ns' := by
  obtain ⟨g, cs, h1, h2, h3, h4, h5⟩ := h
  obtain ⟨rfl, o, rfl⟩ := ha
  exact ⟨g, cs, h1, h2, h3.alloc o, h4, h5.up h3.lt hN⟩
/-- Another one is written. -/
theorem VarN.other (h : VarN G w v t P Ns) (hs : StT G v' t' l w w') (hv : v' ∈ Ns) : VarN G w' v t P Ns := by
  obtain ⟨g, cs, h1, h2, h3, h4, h5⟩ := h
  obtain ⟨g', cs', k1, -, -, -, rfl⟩ := hs
  exact ⟨g, cs, h1, h2, HB.keep h3 (heap_setCells_other (h5 v' hv g' k1) l 0 w), h4, h5⟩
/-- It is written itself. -/
theorem VarN.self (h : VarN G w v t P Ns) (hs : StT G v t' l w w') (hP : P' l) : VarN G w' v t P' Ns := by
  obtain ⟨g, cs, h1, h2, h3, h4, h5⟩ := h
  obtain ⟨g', cs', k1, -, k3, k4, rfl⟩ := hs
  obtain rfl := ptrV_inj (h1.symm.trans k1)
  have hcs : cs' = cs := by
    have q := (show w.heap[g]? = _ from k3).symm.trans (show w.heap[g]? = _ from h3)
    injection q with q
    injection q with q1 _ _
    simpa using q1
  subst hcs
  exact ⟨g, l, h1, h2, hb_setAll h3 l k4, hP, h5⟩
theorem VarN.new (hG : G ≤ w.heap.size) (cs : List Value) (hP : P cs) (hN : ∀ N ∈ Ns, N = undef ∨ ∃ g t Q M, N = ptrV g ∧ VarN G w (ptrV g) t Q M) : VarN G (w.alloc (.cells cs.toArray t)) (ptrV w.heap.size) t P Ns :=
  ⟨_, cs, rfl, hG, HB.new w t cs, hP, fun N hm g' e => by
    rcases hN N hm with q | ⟨g, t, Q, M, q1, q2⟩
    · rw [q] at e; simp [undef, ptrV] at e
    · rw [q1] at e
      have := ptrV_inj e
      have := q2.lt
      omega⟩
theorem vu_of (h : v = undef ∨ VarN G w v t P Ns) : v = undef ∨ ∃ g t Q M, v = ptrV g ∧ VarN G w (ptrV g) t Q M := by
  rcases h with q | q
  · exact .inl q
  · have q' := q
    obtain ⟨g, cs, e, -⟩ := q'
    subst e
    exact .inr ⟨g, _, _, _, rfl, q⟩
theorem SlotN.slot (h : SlotN G w v b Ns) : Slot w w.heap.size v b := by
  obtain ⟨A, c, h1, h2, h3, h4, -⟩ := h
  exact ⟨A, c, h1, h2, h3, h4⟩
theorem SlotN.below (h : SlotN G w v b Ns) (hb : Below w.heap.size w w') : SlotN G w' v b Ns := by
  obtain ⟨A, c, h1, h2, h3, h4, h5⟩ := h
  refine ⟨A, c, h1, h2, h3, (h4.below hb).wide hb.size, fun ad e => ⟨(h5 ad e).1, fun hp _ => (h5 ad e).2 hp ?_⟩⟩
  obtain ⟨ad', e', hb', -⟩ := h4.some_ hp
  rw [e] at e'; cases e'; exact hb'
theorem SlotN.alloc (h : SlotN G w v b Ns) (ha : AlT v' w w') (hN : ∀ N ∈ Ns', N ∈ Ns ∨ N = v') : SlotN G w' v b Ns' := by
  obtain ⟨A, c, h1, h2, h3, h4, h5⟩ := h
  obtain ⟨rfl, o, rfl⟩ := ha
  refine ⟨A, c, h1, h2, h3, (h4.alloc (Nat.le_refl _) o).wide (by simp), fun ad e => ⟨(h5 ad e).1, fun hp _ => ?_⟩⟩
  obtain ⟨ad', e', hb', -⟩ := h4.some_ hp
  rw [e] at e'; cases e'
  exact ((h5 ad e).2 hp hb').up hb' hN
theorem SlotN.other (h : SlotN G w v b Ns) (hs : StT G v' t' l w w') (hv : v' ∈ Ns) : SlotN G w' v b Ns := by
  obtain ⟨A, c, h1, h2, h3, h4, h5⟩ := h
  obtain ⟨g', cs', k1, -, k3, -, rfl⟩ := hs
  have hsz : (w.setCells g' 0 l).heap.size = w.heap.size := setCells_size l 0 w
  refine ⟨A, c, h1, h2, h3, ?_, fun ad e => ⟨(h5 ad e).1, fun hp hl => (h5 ad e).2 hp (by rw [hsz] at hl; exact hl)⟩⟩
  obtain ⟨q1, q2⟩ := h4
  refine ⟨q1, ?_⟩
  rcases Nat.eq_zero_or_pos b.length with h0 | hp
  · exact .inl h0
  · rcases q2 with q2 | ⟨ad, rfl, q3, q4⟩
    · exact .inl q2
    · refine .inr ⟨ad, rfl, by rw [hsz]; exact q3, fun j u hu => ?_⟩
      rw [← q4 j u hu]
      refine World.cell?_of_block ?_
      rw [add_block]
      exact heap_setCells_other ((h5 ad rfl).2 hp q3 v' hv g' k1) l 0 w
theorem SlotN.wrote (h : SlotK (· < w.heap.size) w' v b) (hG : G ≤ w.heap.size) (hN : ∀ N ∈ Ns, N = undef ∨ ∃ g t Q M, N = ptrV g ∧ VarN G w (ptrV g) t Q M) : SlotN G w' v b Ns := by
  obtain ⟨A, c, h1, h2, h3, h4, h5⟩ := h
  refine ⟨A, c, h1, h2, h3, h4, fun ad e => ⟨by have := h5 ad e; omega, fun _ _ N hm g' e' => ?_⟩⟩
  have hge := h5 ad e
  rcases hN N hm with q | ⟨g, t, Q, M, q1, q2⟩
  · rw [q] at e'; simp [undef, ptrV] at e'
  · rw [q1] at e'
    have := ptrV_inj e'
    have := q2.lt
    omega
theorem StT.low (h : StT G v t l w w') : Below G w w' := by
  obtain ⟨g, cs, -, h2, -, -, rfl⟩ := h
  exact (Keep.setCells (S := fun _ => True) (B := G) trivial h2 l 0 w).low
theorem AlT.low (h : AlT v w w') (hG : G ≤ w.heap.size) : Below G w w' := by
  obtain ⟨-, o, rfl⟩ := h
  exact (below_alloc1 w o).mono hG
end
end Go.Proofs.YtapbaonlboefeaaDoor
namespace Go.Proofs.YtapbaonlboefeaaDoor
open Go

section
variable {P : Program} {ops : Array Oper} {Q : Exit → Act → World → Prop}

/-- What an operation's slot held ahead of the region. -/
def origV (a0 : Act) (o : Oper) : Value := match o.dst with | some d => a0.tmps.getD d undef | none => undef
/-- Slots are written once; an operation waits for operations ahead of it. -/
def fitOps2 (ops : Array Oper) (n : Nat) : Bool :=
  decide ((ops.toList.filterMap (·.dst)).Nodup) &&
  (ops.toList.zipIdx.all fun (o, i) =>
    (match o.dst with | some d => decide (d < n) | none => true) &&
    (o.after.all fun e => !Region.binds .any e || decide (e.on < i)))
theorem fit2_at {n : Nat} (h : fitOps2 ops n = true) {i : Nat} {o : Oper} (hi : ops[i]? = some o) : (∀ d, o.dst = some d → d < n) ∧ (∀ e ∈ o.after, Region.binds .any e = true → e.on < i) := by
  unfold fitOps2 at h
  rw [Bool.and_eq_true, List.all_eq_true] at h
  have hm : (o, i) ∈ ops.toList.zipIdx := by
    rw [List.mem_zipIdx_iff_getElem?]; simpa using hi
  have hx := h.2 _ hm
  simp only [Bool.and_eq_true] at hx
  refine ⟨fun d e => (by have := hx.1; rw [e] at this; simpa using this), fun e he hb => ?_⟩
  have := hx.2
  rw [Array.all_eq_true_iff_forall_mem] at this
  have := this e he
  rw [hb] at this
  simpa using this
theorem fit2_nodup {n : Nat} (h : fitOps2 ops n = true) : (ops.toList.filterMap (·.dst)).Nodup := by
  unfold fitOps2 at h
  rw [Bool.and_eq_true] at h
  simpa using h.1
theorem act_ext {a b : Act} (hs : a.tmps.size = b.tmps.size) (ht : ∀ t, t < a.tmps.size → a.tmps.getD t undef = b.tmps.getD t undef) (hd : a.defers = b.defers) : a = b := by
  have h : a.tmps = b.tmps := Array.ext hs (fun t h1 h2 => by
    have := ht t h1
    simpa [h1, h2] using this)
  cases a; cases b
  simp only at h hd
  rw [h, hd]
/-- A slot of the region's: what its operation yielded; another one: what it held. -/
theorem putFrom_upd {n : Nat} {a0 : Act} (_hn : a0.tmps.size = n) (hf : fitOps2 ops n = true) {i : Nat} {o : Oper} (hi : ops[i]? = some o) (vs : Nat → Value) (v : Value) :
    (putFrom 0 ops.toList vs a0).put o.dst v = putFrom 0 ops.toList (fun k => if k = i then v else vs k) a0 := by
  have hnd := fit2_nodup hf
  have hil : ops.toList[i]? = some o := by simpa using hi
  refine act_ext (by rw [put_size, putFrom_size, putFrom_size]) (fun t ht => ?_) (by rw [put_defers, putFrom_defers, putFrom_defers])
  rw [put_size, putFrom_size] at ht
  by_cases hx : ∃ p ∈ ops.toList, p.dst = some t
  · obtain ⟨p, hp, hd⟩ := hx
    obtain ⟨j, hj, rfl⟩ := List.getElem_of_mem hp
    rw [putFrom_got ops.toList 0 _ a0 j _ t hnd (by simp) hd ht, Nat.zero_add]
    by_cases hji : j = i
    · subst hji
      have hpo : ops.toList[j] = o := by
        rw [List.getElem?_eq_getElem hj] at hil; exact Option.some.inj hil
      rw [hpo] at hd
      rw [hd, put_same (by rw [putFrom_size]; exact ht), if_pos rfl]
    · have hne : o.dst ≠ some t := fun e => by
        have a1 := putFrom_got ops.toList 0 (fun n => .int .i64 n) a0 j _ t hnd (by simp) hd ht
        have a2 := putFrom_got ops.toList 0 (fun n => .int .i64 n) a0 i o t hnd hil e ht
        rw [a1] at a2
        simp at a2; omega
      rw [put_other hne, putFrom_got ops.toList 0 vs a0 j _ t hnd (by simp) hd ht, Nat.zero_add, if_neg hji]
  · have hx' : ∀ p ∈ ops.toList, p.dst ≠ some t := fun p hp he => hx ⟨p, hp, he⟩
    rw [put_other (hx' o (List.mem_of_getElem? hil)), putFrom_other _ _ _ _ t hx', putFrom_other _ _ _ _ t hx']
theorem putFrom_orig {n : Nat} {a0 : Act} (_hn : a0.tmps.size = n) (hf : fitOps2 ops n = true) (vs : Nat → Value) (hv : ∀ j o, ops[j]? = some o → vs j = origV a0 o) : putFrom 0 ops.toList vs a0 = a0 := by
  refine act_ext (by rw [putFrom_size]) (fun t ht => ?_) (by rw [putFrom_defers])
  rw [putFrom_size] at ht
  by_cases hx : ∃ p ∈ ops.toList, p.dst = some t
  · obtain ⟨p, hp, hd⟩ := hx
    obtain ⟨j, hj, rfl⟩ := List.getElem_of_mem hp
    have hjo : ops[j]? = some (ops.toList[j]) := by rw [← Array.getElem?_toList, List.getElem?_eq_getElem hj]
    rw [putFrom_got ops.toList 0 _ a0 j _ t (fit2_nodup hf) (List.getElem?_eq_getElem hj) hd ht, Nat.zero_add, hv j _ hjo]
    unfold origV
    rw [hd]
  · have hx' : ∀ p ∈ ops.toList, p.dst ≠ some t := fun p hp he => hx ⟨p, hp, he⟩
    rw [putFrom_other _ _ _ _ t hx']

theorem wpAny_gen {n : Nat} {a0 : Act} {R : (Nat → Value) → Nat → World → Prop} {I : (Nat → Bool) → World → Prop} {T : (Nat → Value) → Nat → Value → World → World → Prop}
    (hn : a0.tmps.size = n) (hf : fitOps2 ops n = true) (hT : ∀ i j vs v w w', i < ops.size → i ≠ j → (∀ o, ops[j]? = some o → waits o i = false) → T vs i v w w' → R vs j w → R (fun k => if k = i then v else vs k) j w')
    (hs : ∀ i o, ops[i]? = some o → ∀ (L : Nat → Bool) (vs : Nat → Value) (w : World), L i = false → (∀ j, waits o j = true → L j = true) → (∀ j, L j = true → R vs j w) → (∀ j p, ops[j]? = some p → L j = false → vs j = origV a0 p) → (∀ j p, ops[j]? = some p → waits p i = true → L j = false) → I L w → StepI P ops o (putFrom 0 ops.toList vs a0) w (fun v w' => T vs i v w w' ∧ I (fun k => if k = i then true else L k) w' ∧ R (fun k => if k = i then v else vs k) i w'))
    (hd : ∀ (vs : Nat → Value) (w : World), I (fun j => decide (j < ops.size)) w → (∀ j, j < ops.size → R vs j w) → Q .normal (putFrom 0 ops.toList vs a0) w) :
    ∀ (fuel : Nat) (listed : Array Bool) (w : World) (vs : Nat → Value), listed.size = ops.size → (listed.toList.countP (· == false)) ≤ fuel → I (fun j => listed.getD j false) w → (∀ j o, ops[j]? = some o → listed.getD j false = true → ∀ e ∈ o.after, Region.binds .any e = true → listed.getD e.on false = true) → (∀ j, listed.getD j false = true → R vs j w) → (∀ j p, ops[j]? = some p → listed.getD j false = false → vs j = origV a0 p) → wpAny P .any ops Q fuel listed (putFrom 0 ops.toList vs a0) w := by
  have hall : ∀ (listed : Array Bool) (w : World) (vs : Nat → Value), listed.size = ops.size → I (fun j => listed.getD j false) w → (∀ j, listed.getD j false = true → R vs j w) → Region.ready .any ops listed = [] → Q .normal (putFrom 0 ops.toList vs a0) w := by
    intro listed w vs hsz hi hr hnil
    have hl : ∀ i, i < ops.size → listed.getD i false = true := by
      intro i
      induction i using Nat.strongRecOn with
      | ind i ih =>
        intro hlt
        rcases Bool.eq_false_or_eq_true (listed.getD i false) with h | h
        · exact h
        · have hmem : i ∈ Region.ready .any ops listed := by
            refine mem_ready.2 ⟨?_, ops[i], by simp [hlt], fun e he hb => ?_⟩
            · have : i < listed.size := by omega
              simpa [this] using h
            · have hlt2 := (fit2_at hf (o := ops[i]) (i := i) (by simp [hlt])).2 e he hb
              exact ih e.on hlt2 (by omega)
          rw [hnil] at hmem; cases hmem
    have hL : (fun j => listed.getD j false) = (fun j => decide (j < ops.size)) := by
      funext j
      by_cases hj : j < ops.size
      · rw [hl j hj]; simp [hj]
      · simp [hj, Array.getD, show ¬ j < listed.size by omega]
    rw [hL] at hi
    exact hd vs w hi (fun j hj => hr j (hl j hj))
  intro fuel
  induction fuel with
  | zero =>
    intro listed w vs hsz hc hi hcl hr hu
    have hnil : Region.ready .any ops listed = [] := by
      cases hrd : Region.ready .any ops listed with
      | nil => rfl
      | cons x l =>
        have hx : x ∈ Region.ready .any ops listed := by rw [hrd]; simp
        obtain ⟨h1, o, ho, -⟩ := mem_ready.1 hx
        have hlt : x < listed.size := by rw [hsz]; exact (Array.getElem?_eq_some_iff.1 ho).1
        have h0 : listed[x] = false := by simpa [hlt] using h1
        have : listed.toList.countP (· == false) ≠ 0 := fun e => by
          rw [List.countP_eq_zero] at e
          have := e listed[x] (by simp)
          simp [h0] at this
        omega
    exact ⟨hnil, hall listed w vs hsz hi hr hnil⟩
  | succ fuel ih =>
    intro listed w vs hsz hc hi hcl hr hu
    refine ⟨hall listed w vs hsz hi hr, fun i hmem => ?_⟩
    obtain ⟨h1, o, ho, hdep⟩ := mem_ready.1 hmem
    have hlt : i < listed.size := by rw [hsz]; exact (Array.getElem?_eq_some_iff.1 ho).1
    have h0 : listed[i] = false := by simpa [hlt] using h1
    have h0' : listed.getD i false = false := by simp [hlt, h0]
    have hwt : ∀ {p : Oper} {j : Nat}, waits p j = true → ∃ e ∈ p.after, e.on = j ∧ Region.binds .any e = true := by
      intro p j h
      unfold waits at h
      simp only [List.any_eq_true, Bool.and_eq_true, beq_iff_eq] at h
      obtain ⟨e, he, h2, h3⟩ := h
      exact ⟨e, by simpa using he, h2, h3⟩
    have hst := hs i o ho (fun j => listed.getD j false) vs w h0' (fun j hj => by
      obtain ⟨e, he, rfl, hb⟩ := hwt hj
      exact hdep e he hb) hr hu (fun j p hp hj => by
      obtain ⟨e, he, rfl, hb⟩ := hwt hj
      rcases Bool.eq_false_or_eq_true (listed.getD j false) with q | q
      · have := hcl j p hp q e he hb
        rw [h0'] at this; cases this
      · exact q) hi
    have hnext : ∀ (v : Value) (w' : World), T vs i v w w' ∧ I (fun k => if k = i then true else listed.getD k false) w' ∧ R (fun k => if k = i then v else vs k) i w' → wpAny P .any ops Q fuel (listed.setIfInBounds i true) ((putFrom 0 ops.toList vs a0).put o.dst v) w' := by
      intro v w' ⟨ht, hii, hri⟩
      rw [putFrom_upd hn hf ho]
      have hgl : ∀ k, (listed.setIfInBounds i true).getD k false = if k = i then true else listed.getD k false := fun k => by
        by_cases hk : k = i
        · subst hk; simp [hlt]
        · rw [getD_set_ne false (fun e => hk e.symm), if_neg hk]
      refine ih _ w' (fun j => if j = i then v else vs j) (by simpa using hsz) ?_ ?_ (fun j p hp hj e he hb => ?_) (fun j hj => ?_) (fun j p hp hj => ?_)
      · have hc2 : (listed.setIfInBounds i true).toList.countP (· == false) < listed.toList.countP (· == false) := by
          rw [Array.toList_setIfInBounds, List.countP_set (by simpa using hlt)]
          have hpos : 0 < listed.toList.countP (· == false) := by
            rw [List.countP_pos_iff]
            exact ⟨listed[i], by simp, by simp [h0]⟩
          have hi2 : i < listed.toList.length := by simpa using hlt
          have e1 : (listed.toList[i]'hi2 == false) = true := by simp [h0]
          rw [if_pos e1, if_neg (by simp)]
          omega
        omega
      · have : (fun j => (listed.setIfInBounds i true).getD j false) = (fun k => if k = i then true else listed.getD k false) := funext hgl
        rw [this]; exact hii
      · rw [hgl] at hj ⊢
        by_cases hji : j = i
        · subst hji
          rw [ho] at hp
          cases hp
          have := hdep e he hb
          split
          · rfl
          · exact this
        · rw [if_neg hji] at hj
          have := hcl j p hp hj e he hb
          split
          · rfl
          · exact this
      · rw [hgl] at hj
        by_cases hji : j = i
        · subst hji; exact hri
        · rw [if_neg hji] at hj
          refine hT i j vs v w w' (by omega) (fun e => hji e.symm) (fun p hp => ?_) ht (hr j hj)
          rcases Bool.eq_false_or_eq_true (waits p i) with hre | hre
          · obtain ⟨e, he, e1, hb⟩ := hwt hre
            have := hcl j p hp hj e he hb
            rw [e1, h0'] at this; cases this
          · exact hre
      · rw [hgl] at hj
        by_cases hji : j = i
        · rw [if_pos hji] at hj; cases hj
        · rw [if_neg hji] at hj
          show (if j = i then v else vs j) = _
          rw [if_neg hji]; exact hu j p hp hj
    unfold wpOp
    simp only [ho]
    rcases hst with ⟨hw, hgo⟩ | ⟨hw, hR⟩
    · rw [hw]
      simp only [if_true]
      exact .inl (hgo _ _ (fun a' v w' e h => e ▸ hnext v w' h))
    · rw [hw]
      exact hnext undef w hR
theorem wpAny_of_gen {a0 : Act} {w0 : World} (n : Nat) (R : (Nat → Value) → Nat → World → Prop) (I : (Nat → Bool) → World → Prop) (T : (Nat → Value) → Nat → Value → World → World → Prop)
    (hn : a0.tmps.size = n) (hf : fitOps2 ops n = true)
    (hT : ∀ i j vs v w w', i < ops.size → i ≠ j → (∀ o, ops[j]? = some o → waits o i = false) → T vs i v w w' → R vs j w → R (fun k => if k = i then v else vs k) j w') (h0 : I (fun _ => false) w0.drew)
    (hs : ∀ i o, ops[i]? = some o → ∀ (L : Nat → Bool) (vs : Nat → Value) (w : World), L i = false → (∀ j, waits o j = true → L j = true) → (∀ j, L j = true → R vs j w) → (∀ j p, ops[j]? = some p → L j = false → vs j = origV a0 p) → (∀ j p, ops[j]? = some p → waits p i = true → L j = false) → I L w → StepI P ops o (putFrom 0 ops.toList vs a0) w (fun v w' => T vs i v w w' ∧ I (fun k => if k = i then true else L k) w' ∧ R (fun k => if k = i then v else vs k) i w'))
    (hd : ∀ (vs : Nat → Value) (w : World), I (fun j => decide (j < ops.size)) w → (∀ j, j < ops.size → R vs j w) → Q .normal (putFrom 0 ops.toList vs a0) w) :
    wpAny P .any ops Q ops.size (Array.replicate ops.size false) a0 w0.drew := by
  have hrep : ∀ j, (Array.replicate ops.size false).getD j false = false := fun j => by
    rw [Array.getD_eq_getD_getElem?, Array.getElem?_replicate]; split <;> simp
  have h := wpAny_gen (P := P) (Q := Q) hn hf hT hs hd ops.size (Array.replicate ops.size false) w0.drew (fun j => match ops[j]? with | some o => origV a0 o | none => undef) (by simp) (Nat.le_trans List.countP_le_length (by simp)) (by
    have : (fun j => (Array.replicate ops.size false).getD j false) = (fun _ => false) := funext hrep
    rw [this]; exact h0) (fun j o _ hj => by rw [hrep] at hj; cases hj) (fun j hj => by rw [hrep] at hj; cases hj) (fun j p hp _ => by simp [hp])
  rw [putFrom_orig hn hf _ (fun j o ho => by simp [ho])] at h
  exact h
/-- A drawn region so. -/
theorem wp_region_gen {id : Nat} {a0 : Act} {w0 : World} (n : Nat) (R : (Nat → Value) → Nat → World → Prop) (I : (Nat → Bool) → World → Prop) (T : (Nat → Value) → Nat → Value → World → World → Prop)
    (hm : P.follows .mixedOrders = true) (hn : a0.tmps.size = n) (hf : fitOps2 ops n = true)
    (hT : ∀ i j vs v w w', i < ops.size → i ≠ j → (∀ o, ops[j]? = some o → waits o i = false) → T vs i v w w' → R vs j w → R (fun k => if k = i then v else vs k) j w') (h0 : I (fun _ => false) w0.drew)
    (hs : ∀ i o, ops[i]? = some o → ∀ (L : Nat → Bool) (vs : Nat → Value) (w : World), L i = false → (∀ j, waits o j = true → L j = true) → (∀ j, L j = true → R vs j w) → (∀ j p, ops[j]? = some p → L j = false → vs j = origV a0 p) → (∀ j p, ops[j]? = some p → waits p i = true → L j = false) → I L w → StepI P ops o (putFrom 0 ops.toList vs a0) w (fun v w' => T vs i v w w' ∧ I (fun k => if k = i then true else L k) w' ∧ R (fun k => if k = i then v else vs k) i w'))
    (hd : ∀ (vs : Nat → Value) (w : World), I (fun j => decide (j < ops.size)) w → (∀ j, j < ops.size → R vs j w) → Q .normal (putFrom 0 ops.toList vs a0) w) :
    (Code.region id ops true).wp P Q a0 w0 := wp_region_any hm (wpAny_of_gen n R I T hn hf hT h0 hs hd)
end
end Go.Proofs.YtapbaonlboefeaaDoor
