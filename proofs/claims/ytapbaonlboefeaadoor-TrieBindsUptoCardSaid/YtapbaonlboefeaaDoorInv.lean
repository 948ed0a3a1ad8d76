/- A region that draws its order, by what each operation yields: an operation a proof, whatever the order. -/
import Derived.Orders
import Derived.Deep.Draws
namespace Go.Proofs.YtapbaonlboefeaaDoor
open Go

section
variable {P : Program} {ops : Array Oper} {Q : Exit → Act → World → Prop}

/-- The operations' values, each in its slot. -/
def putFrom : Nat → List Oper → (Nat → Value) → Act → Act
  | _, [], _, a => a
  | i, o :: l, vs, a => putFrom (i + 1) l vs (a.put o.dst (vs i))
theorem put_size (a : Act) (d : Option Tmp) (v : Value) : (a.put d v).tmps.size = a.tmps.size := by cases d <;> simp [Act.put]
theorem put_defers (a : Act) (d : Option Tmp) (v : Value) : (a.put d v).defers = a.defers := by cases d <;> rfl
theorem putFrom_size : ∀ (l : List Oper) (i : Nat) (vs : Nat → Value) (a : Act), (putFrom i l vs a).tmps.size = a.tmps.size
  | [], _, _, _ => rfl
  | o :: l, i, vs, a => by rw [putFrom, putFrom_size l, put_size]
theorem putFrom_defers : ∀ (l : List Oper) (i : Nat) (vs : Nat → Value) (a : Act), (putFrom i l vs a).defers = a.defers
  | [], _, _, _ => rfl
  | o :: l, i, vs, a => by rw [putFrom, putFrom_defers l, put_defers]
theorem put_other {a : Act} {d : Option Tmp} {v : Value} {t : Nat} (h : d ≠ some t) : (a.put d v).tmps.getD t undef = a.tmps.getD t undef := by
  cases d with
  | none => rfl
  | some d =>
    have hne : d ≠ t := fun e => h (by rw [e])
    simp [Act.put, Array.getD_eq_getD_getElem?, Array.getElem?_setIfInBounds_ne hne]
theorem put_same {a : Act} {t : Nat} {v : Value} (h : t < a.tmps.size) : (a.put (some t) v).tmps.getD t undef = v := by
  simp [Act.put, Array.getD_eq_getD_getElem?, h]
theorem putFrom_other : ∀ (l : List Oper) (i : Nat) (vs : Nat → Value) (a : Act) (t : Nat), (∀ o ∈ l, o.dst ≠ some t) → (putFrom i l vs a).tmps.getD t undef = a.tmps.getD t undef
  | [], _, _, _, _, _ => rfl
  | o :: l, i, vs, a, t, h => by rw [putFrom, putFrom_other l _ _ _ t (fun o' ho => h o' (by simp [ho])), put_other (h o (by simp))]
theorem putFrom_got : ∀ (l : List Oper) (i : Nat) (vs : Nat → Value) (a : Act) (j : Nat) (o : Oper) (d : Nat), (l.filterMap (·.dst)).Nodup → l[j]? = some o → o.dst = some d → d < a.tmps.size → (putFrom i l vs a).tmps.getD d undef = vs (i + j)
  | [], _, _, _, _, _, _, _, h, _, _ => by simp at h
  | x :: l, i, vs, a, 0, o, d, hn, h, hd, hs => by
    simp only [List.getElem?_cons_zero, Option.some.injEq] at h
    subst h
    rw [putFrom, putFrom_other l _ _ _ d ?_, hd, put_same hs, Nat.add_zero]
    intro o' ho' he
    rw [List.filterMap_cons, hd] at hn
    exact (List.nodup_cons.1 hn).1 (List.mem_filterMap.2 ⟨o', ho', he⟩)
  | x :: l, i, vs, a, j + 1, o, d, hn, h, hd, hs => by
    rw [putFrom, putFrom_got l (i + 1) vs _ j o d ?_ (by simpa using h) hd (by rw [put_size]; exact hs), show i + 1 + j = i + (j + 1) from by omega]
    rw [List.filterMap_cons] at hn
    split at hn
    · exact hn
    · exact (List.nodup_cons.1 hn).2

/-- Slots are written once; an operation waits for those whose slots it reads, and these stand ahead of it. -/
def fitOps (ops : Array Oper) (n : Nat) : Bool :=
  decide ((ops.toList.filterMap (·.dst)).Nodup) &&
  (ops.toList.zipIdx.all fun (o, i) =>
    (match o.op with | .select _ _ => false | _ => true) &&
    (match o.dst with | some d => decide (d < n) | none => true) &&
    (o.after.all fun e => !Region.binds .any e || decide (e.on < i)) &&
    (match o.guard with | some (g, _) => decide (g < ops.size) && (o.after.toList.any fun e => e.on == g && Region.binds .any e) && ((ops[g]?).bind (·.dst)).isSome | none => true) &&
    (o.op.operands.toList.all fun x => match x with
      | .tmp t => ops.toList.zipIdx.all fun (p, j) => p.dst != some t || (o.after.toList.any fun e => e.on == j && Region.binds .any e)
      | _ => true))

/-- Number j waits, over whatever others, for number i. -/
def reaches (ops : Array Oper) : Nat → Nat → Nat → Bool
  | 0, _, _ => false
  | n + 1, j, i => match ops[j]? with
    | some o => o.after.toList.any fun e => Region.binds .any e && (e.on == i || reaches ops n e.on i)
    | none => false
theorem reaches_listed {listed : Array Bool} (hc : ∀ j o, ops[j]? = some o → listed.getD j false = true → ∀ e ∈ o.after, Region.binds .any e = true → listed.getD e.on false = true) : ∀ (n j i : Nat), listed.getD j false = true → reaches ops n j i = true → listed.getD i false = true
  | 0, _, _, _, h => by simp [reaches] at h
  | n + 1, j, i, hj, h => by
    unfold reaches at h
    split at h
    · rename_i o ho
      simp only [List.any_eq_true, Bool.and_eq_true, Bool.or_eq_true, beq_iff_eq] at h
      obtain ⟨e, he, hb, h1⟩ := h
      have hl := hc j o ho hj e (by simpa using he) hb
      rcases h1 with rfl | h1
      · exact hl
      · exact reaches_listed hc n e.on i hl h1
    · cases h
/-- What the slots hold when those that are listed have come up. -/
structure GotW (ops : Array Oper) (a0 : Act) (vs : Nat → Value) (listed : Array Bool) (a : Act) : Prop where
  size : a.tmps.size = a0.tmps.size
  defers : a.defers = a0.defers
  old : ∀ t, (∀ o ∈ ops.toList, o.dst ≠ some t) → a.tmps.getD t undef = a0.tmps.getD t undef
  got : ∀ i o d, ops[i]? = some o → listed.getD i false = true → o.dst = some d → a.tmps.getD d undef = vs i

/-- What the region's operation does, the values that it reads being in their slots: it yields a value of which R speaks. -/
def StepI (P : Program) (ops : Array Oper) (o : Oper) (a : Act) (w : World) (R : Value → World → Prop) : Prop :=
  (Region.wanted o (yielded ops a.tmps) = true ∧ ∀ (K : Act → World → Prop) (Q : Exit → Act → World → Prop), (∀ (a' : Act) (v : Value) (w' : World), a' = a.put o.dst v → R v w' → K a' w') → o.wp P a w K Q) ∨
  (Region.wanted o (yielded ops a.tmps) = false ∧ R undef w)

theorem put_inj {a : Act} {d : Option Tmp} {v v' : Value} (hd : ∀ t, d = some t → t < a.tmps.size) (h : a.put d v = a.put d v') (b : Act) : b.put d v = b.put d v' := by
  cases d with
  | none => rfl
  | some t =>
    have h1 := put_same (a := a) (v := v) (hd t rfl)
    rw [h, put_same (hd t rfl)] at h1
    rw [h1]
/-- The same in another state in which it reads the same. -/
theorem upon_other {o : Oper} {a b : Act} {r : Result Next} {R : Value → World → Prop} {K : Act → World → Prop} (hd : ∀ t, o.dst = some t → t < a.tmps.size)
    (h : ∀ (K : Act → World → Prop) (Q : Exit → Act → World → Prop), (∀ (a' : Act) (v : Value) (w' : World), a' = a.put o.dst v → R v w' → K a' w') → o.upon P a K Q r)
    (hK : ∀ (v : Value) (w' : World), R v w' → K (b.put o.dst v) w') : o.upon P b K Q r := by
  have h1 := h (fun a' w' => ∃ v, a' = a.put o.dst v ∧ R v w') (fun _ _ _ => False) (fun a' v w' e hr => ⟨v, e, hr⟩)
  have key : ∀ (v : Value) (w' : World), (∃ v', a.put o.dst v = a.put o.dst v' ∧ R v' w') → K (b.put o.dst v) w' := fun v w' ⟨v', e, hr⟩ => by
    rw [put_inj hd e b]; exact hK v' w' hr
  cases r with
  | ok n w' =>
    cases n <;> simp only [Oper.upon] at h1 ⊢
    case value v => exact key v w' h1
    case skip => exact key _ w' h1
    case defer d =>
      obtain ⟨v, e, -⟩ := h1
      have := congrArg Act.defers e
      rw [put_defers, put_defers] at this
      exact absurd this (by simp)
    case enter f args =>
      refine Calls.mono h1 fun e w'' he => ?_
      cases e with
      | returned v => exact key v w'' he
      | panicked c => exact he.elim
      | outgrown => obtain ⟨_, _, hf⟩ := he; exact hf.elim
    case row row args => exact Rows.mono h1 fun v w'' he => key v w'' he
  | halt x w' => cases x <;> simp only [Oper.upon] at h1 ⊢

theorem fit_at {n : Nat} (h : fitOps ops n = true) {i : Nat} {o : Oper} (hi : ops[i]? = some o) :
    (∀ cs b, o.op ≠ .select cs b) ∧ (∀ d, o.dst = some d → d < n) ∧ (∀ e ∈ o.after, Region.binds .any e = true → e.on < i) ∧
    (∀ g b, o.guard = some (g, b) → g < ops.size ∧ (∃ e ∈ o.after, e.on = g ∧ Region.binds .any e = true) ∧ ((ops[g]?).bind (·.dst)).isSome = true) ∧
    (∀ t, Operand.tmp t ∈ o.op.operands → ∀ j p, ops[j]? = some p → p.dst = some t → ∃ e ∈ o.after, e.on = j ∧ Region.binds .any e = true) := by
  unfold fitOps at h
  rw [Bool.and_eq_true, List.all_eq_true] at h
  have hm : (o, i) ∈ ops.toList.zipIdx := by
    rw [List.mem_zipIdx_iff_getElem?]; simpa using hi
  have hx := h.2 _ hm
  simp only [Bool.and_eq_true] at hx
  obtain ⟨⟨⟨⟨h1, h2⟩, h3⟩, h4⟩, h5⟩ := hx
  refine ⟨fun cs b e => (by rw [e] at h1; cases h1), fun d e => (by rw [e] at h2; simpa using h2), fun e he hb => ?_, fun g b e => ?_, fun t ht j p hj hp => ?_⟩
  · rw [Array.all_eq_true_iff_forall_mem] at h3
    have := h3 e he
    rw [hb] at this
    simpa using this
  · rw [e] at h4
    simp only [Bool.and_eq_true, decide_eq_true_eq, List.any_eq_true, beq_iff_eq] at h4
    obtain ⟨⟨a1, e1, a2, a3, a4⟩, a5⟩ := h4
    exact ⟨a1, ⟨e1, by simpa using a2, a3, a4⟩, a5⟩
  · rw [List.all_eq_true] at h5
    have := h5 _ (by simpa using ht)
    simp only [List.all_eq_true] at this
    have hjm : (p, j) ∈ ops.toList.zipIdx := by
      rw [List.mem_zipIdx_iff_getElem?]; simpa using hj
    have := this _ hjm
    simp only [hp, bne_self_eq_false, Bool.false_or, List.any_eq_true, Bool.and_eq_true, beq_iff_eq] at this
    obtain ⟨e, a2, a3, a4⟩ := this
    exact ⟨e, by simpa using a2, a3, a4⟩
theorem fit_nodup {n : Nat} (h : fitOps ops n = true) : (ops.toList.filterMap (·.dst)).Nodup := by
  unfold fitOps at h
  rw [Bool.and_eq_true] at h
  simpa using h.1

/-- Whatever order is drawn: what each operation yields is known from what those ahead of it yield. -/
theorem wpAny_inv {a0 : Act} {R : Nat → Value → World → Prop} {I : World → Prop} {T : Nat → World → World → Prop}
    (hf : fitOps ops a0.tmps.size = true) (hT : ∀ i j v w w', i < ops.size → i ≠ j → reaches ops ops.size j i = false → T i w w' → R j v w → R j v w') (hI : ∀ i w w', T i w w' → I w → I w')
    (hs : ∀ i o, ops[i]? = some o → ∀ (vs : Nat → Value) (w : World), I w → (∀ e ∈ o.after, Region.binds .any e = true → R e.on (vs e.on) w) → StepI P ops o (putFrom 0 ops.toList vs a0) w (fun v w' => T i w w' ∧ R i v w'))
    (hd : ∀ (vs : Nat → Value) (w : World), I w → (∀ j, j < ops.size → R j (vs j) w) → Q .normal (putFrom 0 ops.toList vs a0) w) :
    ∀ (fuel : Nat) (listed : Array Bool) (a : Act) (w : World) (vs : Nat → Value), listed.size = ops.size → (listed.toList.countP (· == false)) ≤ fuel → GotW ops a0 vs listed a → I w → (∀ j o, ops[j]? = some o → listed.getD j false = true → ∀ e ∈ o.after, Region.binds .any e = true → listed.getD e.on false = true) → (∀ j, listed.getD j false = true → R j (vs j) w) → wpAny P .any ops Q fuel listed a w := by
  have hall : ∀ (listed : Array Bool) (a : Act) (w : World) (vs : Nat → Value), listed.size = ops.size → GotW ops a0 vs listed a → I w → (∀ j, listed.getD j false = true → R j (vs j) w) → Region.ready .any ops listed = [] → Q .normal a w := by
    intro listed a w vs hsz hg hi hr hnil
    have hl : ∀ i, i < ops.size → listed.getD i false = true := by
      intro i
      induction i using Nat.strongRecOn with
      | ind i ih =>
        intro hlt
        rcases Bool.eq_false_or_eq_true (listed.getD i false) with h | h
        · exact h
        · have hmem : i ∈ Region.ready .any ops listed := by
            refine mem_ready.2 ⟨?_, ops[i], by simp [hlt], fun e he hb => ?_⟩
            · have : i < listed.size := by omega
              simpa [this] using h
            · have hlt2 := (fit_at hf (o := ops[i]) (i := i) (by simp [hlt])).2.2.1 e he hb
              exact ih e.on hlt2 (by omega)
          rw [hnil] at hmem; cases hmem
    have e : a = putFrom 0 ops.toList vs a0 := by
      have ht : a.tmps = (putFrom 0 ops.toList vs a0).tmps := by
        refine Array.ext (by rw [hg.size, putFrom_size]) (fun t h1 h2 => ?_)
        have q : a.tmps.getD t undef = (putFrom 0 ops.toList vs a0).tmps.getD t undef := by
          by_cases hx : ∃ o ∈ ops.toList, o.dst = some t
          · obtain ⟨o, ho, hdst⟩ := hx
            obtain ⟨j, hj, rfl⟩ := List.getElem_of_mem ho
            have hjo : ops[j]? = some ops.toList[j] := by simp at hj; simp [hj]
            rw [hg.got j _ t hjo (hl j (by simpa using hj)) hdst, putFrom_got _ _ _ _ j _ t (fit_nodup hf) (by simp) hdst (by rw [← hg.size]; exact h1), Nat.zero_add]
          · have hx' : ∀ o ∈ ops.toList, o.dst ≠ some t := fun o ho he => hx ⟨o, ho, he⟩
            rw [hg.old t hx', putFrom_other _ _ _ _ t hx']
        simpa [h1, h2] using q
      cases a
      have hdf := hg.defers
      rw [← putFrom_defers ops.toList 0 vs a0] at hdf
      simp only at ht hdf
      rw [ht, hdf]
    rw [e]
    exact hd vs w hi (fun j hj => hr j (hl j hj))
  intro fuel
  induction fuel with
  | zero =>
    intro listed a w vs hsz hc hg hi hcl hr
    have hnil : Region.ready .any ops listed = [] := by
      cases hrd : Region.ready .any ops listed with
      | nil => rfl
      | cons x l =>
        have hx : x ∈ Region.ready .any ops listed := by rw [hrd]; simp
        obtain ⟨h1, o, ho, -⟩ := mem_ready.1 hx
        have hlt : x < listed.size := by rw [hsz]; exact (Array.getElem?_eq_some_iff.1 ho).1
        have h0 : listed[x] = false := by simpa [hlt] using h1
        have : listed.toList.countP (· == false) ≠ 0 := fun e => by
          rw [List.countP_eq_zero] at e
          have := e listed[x] (by simp)
          simp [h0] at this
        omega
    exact ⟨hnil, hall listed a w vs hsz hg hi hr hnil⟩
  | succ fuel ih =>
    intro listed a w vs hsz hc hg hi hcl hr
    refine ⟨hall listed a w vs hsz hg hi hr, fun i hmem => ?_⟩
    obtain ⟨h1, o, ho, hdep⟩ := mem_ready.1 hmem
    have hlt : i < listed.size := by rw [hsz]; exact (Array.getElem?_eq_some_iff.1 ho).1
    have h0 : listed[i] = false := by simpa [hlt] using h1
    obtain ⟨f1, f2, f3, f4, f5⟩ := fit_at hf ho
    have hst := hs i o ho vs w hi (fun e he hb => hr e.on (hdep e he hb))
    -- it reads the same
    have hev : ∀ t, (∀ j p, ops[j]? = some p → p.dst = some t → ∃ e ∈ o.after, e.on = j ∧ Region.binds .any e = true) → a.tmps.getD t undef = (putFrom 0 ops.toList vs a0).tmps.getD t undef := by
      intro t ht
      by_cases hx : ∃ p ∈ ops.toList, p.dst = some t
      · obtain ⟨p, hp, hdst⟩ := hx
        obtain ⟨j, hj, rfl⟩ := List.getElem_of_mem hp
        have hjo : ops[j]? = some ops.toList[j] := by simp at hj; simp [hj]
        obtain ⟨e, he, hej, hb⟩ := ht j _ hjo hdst
        rw [hg.got j _ t hjo (by rw [← hej]; exact hdep e he hb) hdst, putFrom_got _ _ _ _ j _ t (fit_nodup hf) (by simp) hdst ((fit_at hf hjo).2.1 t hdst), Nat.zero_add]
      · have hx' : ∀ o ∈ ops.toList, o.dst ≠ some t := fun o ho he => hx ⟨o, ho, he⟩
        rw [hg.old t hx', putFrom_other _ _ _ _ t hx']
    have hexec : execOp a.eval o = execOp (putFrom 0 ops.toList vs a0).eval o := execOp_congr o f1 fun x hx => by
      cases x with
      | tmp t => exact hev t (f5 t hx)
      | const v => rfl
      | global g => rfl
      | func f => rfl
    have hwant : Region.wanted o (yielded ops a.tmps) = Region.wanted o (yielded ops (putFrom 0 ops.toList vs a0).tmps) := by
      unfold Region.wanted
      cases hgd : o.guard with
      | none => rfl
      | some gb =>
        obtain ⟨g, b⟩ := gb
        obtain ⟨g1, ⟨e, he, heg, hb⟩, g3⟩ := f4 g b hgd
        have hgo : ops[g]? = some ops[g] := by simp [g1]
        obtain ⟨t, hdst⟩ := Option.isSome_iff_exists.1 g3
        rw [hgo, Option.bind_some] at hdst
        have q : a.tmps[t]? = (putFrom 0 ops.toList vs a0).tmps[t]? := by
          have hlt2 := (fit_at hf hgo).2.1 t hdst
          have q := hev t (fun j p hj hp => by
            have : j = g := by
              have nd := fit_nodup hf
              rcases Nat.lt_trichotomy j g with hh | hh | hh
              · exact absurd nd (by
                  intro nd
                  have a1 := putFrom_got ops.toList 0 (fun n => .int .i64 n) a0 j p t nd (by simpa using hj) hp hlt2
                  have a2 := putFrom_got ops.toList 0 (fun n => .int .i64 n) a0 g _ t nd (by simp) hdst hlt2
                  rw [a1] at a2
                  simp at a2; omega)
              · exact hh
              · exact absurd nd (by
                  intro nd
                  have a1 := putFrom_got ops.toList 0 (fun n => .int .i64 n) a0 j p t nd (by simpa using hj) hp hlt2
                  have a2 := putFrom_got ops.toList 0 (fun n => .int .i64 n) a0 g _ t nd (by simp) hdst hlt2
                  rw [a1] at a2
                  simp at a2; omega)
            exact ⟨e, he, by rw [this]; exact heg, hb⟩)
          have s1 : t < a.tmps.size := by rw [hg.size]; exact hlt2
          have s2 : t < (putFrom 0 ops.toList vs a0).tmps.size := by rw [putFrom_size]; exact hlt2
          simpa [s1, s2] using q
        simp only [yielded, hgo, Option.bind_some, hdst, q]
    -- the state behind it
    have hnext : ∀ (v : Value) (w' : World), T i w w' ∧ R i v w' → wpAny P .any ops Q fuel (listed.setIfInBounds i true) (a.put o.dst v) w' := by
      intro v w' ⟨ht, hri⟩
      refine ih _ _ w' (fun j => if j = i then v else vs j) (by simpa using hsz) ?_ ⟨by rw [put_size]; exact hg.size, by rw [put_defers]; exact hg.defers, fun t hno => ?_, fun j p d hj hlj hpd => ?_⟩ (hI i w w' ht hi) (fun j p hp hj e he hb => ?_) (fun j hj => ?_)
      · have hc2 : (listed.setIfInBounds i true).toList.countP (· == false) < listed.toList.countP (· == false) := by
          rw [Array.toList_setIfInBounds, List.countP_set (by simpa using hlt)]
          have hpos : 0 < listed.toList.countP (· == false) := by
            rw [List.countP_pos_iff]
            exact ⟨listed[i], by simp, by simp [h0]⟩
          have hi2 : i < listed.toList.length := by simpa using hlt
          have e1 : (listed.toList[i]'hi2 == false) = true := by simp [h0]
          rw [if_pos e1, if_neg (by simp)]
          omega
        omega
      · rw [put_other (hno o (by
          have := Array.mem_of_getElem? ho
          simpa using this))]
        exact hg.old t hno
      · by_cases hji : j = i
        · subst hji
          rw [ho] at hj
          cases hj
          simp only [if_true]
          rw [hpd, put_same (by rw [hg.size]; exact f2 d hpd)]
        · simp only [if_neg hji]
          have hne : o.dst ≠ some d := fun e => by
            have nd := fit_nodup hf
            have a1 := putFrom_got ops.toList 0 (fun n => .int .i64 n) a0 j p d nd (by simpa using hj) hpd (f2 d e)
            have a2 := putFrom_got ops.toList 0 (fun n => .int .i64 n) a0 i o d nd (by simpa using ho) e (f2 d e)
            rw [a1] at a2
            simp at a2; omega
          rw [put_other hne]
          refine hg.got j p d hj ?_ hpd
          rw [getD_set_ne false (fun e => hji e.symm)] at hlj
          exact hlj
      · have hset : ∀ q, listed.getD q false = true → (listed.setIfInBounds i true).getD q false = true := fun q hq => by
          by_cases hqi : i = q
          · subst hqi; simp [hlt]
          · rw [getD_set_ne false hqi]; exact hq
        by_cases hji : j = i
        · subst hji
          rw [ho] at hp
          cases hp
          exact hset _ (hdep e he hb)
        · rw [getD_set_ne false (fun e => hji e.symm)] at hj
          exact hset _ (hcl j p hp hj e he hb)
      · by_cases hji : j = i
        · subst hji; simpa using hri
        · simp only [if_neg hji]
          rw [getD_set_ne false (fun e => hji e.symm)] at hj
          refine hT i j _ w w' (by omega) (fun e => hji e.symm) ?_ ht (hr j hj)
          rcases Bool.eq_false_or_eq_true (reaches ops ops.size j i) with hre | hre
          · have := reaches_listed hcl _ j i hj hre
            simp [hlt, h0] at this
          · exact hre
    unfold wpOp
    simp only [ho]
    rcases hst with ⟨hw, hgo⟩ | ⟨hw, hR⟩
    · rw [hwant, hw]
      simp only [if_true]
      refine .inl ?_
      unfold Oper.wp
      rw [hexec]
      exact upon_other (a := putFrom 0 ops.toList vs a0) (fun t e => by rw [putFrom_size]; exact f2 t e) hgo hnext
    · rw [hwant, hw]
      exact hnext undef w hR

/-- It waits for number j. -/
def waits (o : Oper) (j : Nat) : Bool := o.after.toList.any fun e => e.on == j && Region.binds .any e
theorem reaches_of_waits {j i n : Nat} {o : Oper} (ho : ops[j]? = some o) (h : waits o i = true) : reaches ops (n + 1) j i = true := by
  unfold reaches waits at *
  simp only [ho]
  simp only [List.any_eq_true, Bool.and_eq_true, beq_iff_eq, Bool.or_eq_true] at h ⊢
  obtain ⟨e, he, h1, h2⟩ := h
  exact ⟨e, he, h2, .inl h1⟩
/-- A drawn region so. -/
theorem wpAny_of_inv {a0 : Act} {w0 : World} (n : Nat) (R : Nat → Value → World → Prop) (I : World → Prop) (T : Nat → World → World → Prop)
    (hn : a0.tmps.size = n) (hf : fitOps ops n = true)
    (hT : ∀ i j v w w', i < ops.size → i ≠ j → (∀ o, ops[j]? = some o → waits o i = false) → T i w w' → R j v w → R j v w') (hI : ∀ i w w', T i w w' → I w → I w') (h0 : I w0.drew)
    (hs : ∀ i o, ops[i]? = some o → ∀ (vs : Nat → Value) (w : World), I w → (∀ j, waits o j = true → R j (vs j) w) → StepI P ops o (putFrom 0 ops.toList vs a0) w (fun v w' => T i w w' ∧ R i v w'))
    (hd : ∀ (vs : Nat → Value) (w : World), I w → (∀ j, j < ops.size → R j (vs j) w) → Q .normal (putFrom 0 ops.toList vs a0) w) :
    wpAny P .any ops Q ops.size (Array.replicate ops.size false) a0 w0.drew := by
  subst hn
  have hs' : ∀ i o, ops[i]? = some o → ∀ (vs : Nat → Value) (w : World), I w → (∀ e ∈ o.after, Region.binds .any e = true → R e.on (vs e.on) w) → StepI P ops o (putFrom 0 ops.toList vs a0) w (fun v w' => T i w w' ∧ R i v w') :=
    fun i o ho vs w hi hr => hs i o ho vs w hi (fun j hj => by
      unfold waits at hj
      simp only [List.any_eq_true, Bool.and_eq_true, beq_iff_eq] at hj
      obtain ⟨e, he, rfl, hb⟩ := hj
      exact hr e (by simpa using he) hb)
  have hT' : ∀ i j v w w', i < ops.size → i ≠ j → reaches ops ops.size j i = false → T i w w' → R j v w → R j v w' := fun i j v w w' h1 h2 h3 => hT i j v w w' h1 h2 (fun o ho => by
    rcases Bool.eq_false_or_eq_true (waits o i) with hw | hw
    · obtain ⟨n, hn⟩ : ∃ n, ops.size = n + 1 := ⟨ops.size - 1, by omega⟩
      rw [hn, reaches_of_waits ho hw] at h3
      cases h3
    · exact hw)
  refine (wpAny_inv hf hT' hI hs' hd ops.size _ a0 _ (fun _ => undef) (by simp) (Nat.le_trans List.countP_le_length (by simp)) ⟨rfl, rfl, fun _ _ => rfl, fun i o d hi hl => ?_⟩ h0 (fun j o hj hl => ?_) (fun j hj => ?_))
  · rw [Array.getD_eq_getD_getElem?, Array.getElem?_replicate] at hl; split at hl <;> simp at hl
  · rw [Array.getD_eq_getD_getElem?, Array.getElem?_replicate] at hl; split at hl <;> simp at hl
  · rw [Array.getD_eq_getD_getElem?, Array.getElem?_replicate] at hj; split at hj <;> simp at hj
theorem wp_region_inv {id : Nat} {a0 : Act} {w0 : World} (n : Nat) (R : Nat → Value → World → Prop) (I : World → Prop) (T : Nat → World → World → Prop)
    (hm : P.follows .mixedOrders = true) (hn : a0.tmps.size = n) (hf : fitOps ops n = true)
    (hT : ∀ i j v w w', i < ops.size → i ≠ j → (∀ o, ops[j]? = some o → waits o i = false) → T i w w' → R j v w → R j v w') (hI : ∀ i w w', T i w w' → I w → I w') (h0 : I w0.drew)
    (hs : ∀ i o, ops[i]? = some o → ∀ (vs : Nat → Value) (w : World), I w → (∀ j, waits o j = true → R j (vs j) w) → StepI P ops o (putFrom 0 ops.toList vs a0) w (fun v w' => T i w w' ∧ R i v w'))
    (hd : ∀ (vs : Nat → Value) (w : World), I w → (∀ j, j < ops.size → R j (vs j) w) → Q .normal (putFrom 0 ops.toList vs a0) w) :
    (Code.region id ops true).wp P Q a0 w0 := wp_region_any hm (wpAny_of_inv n R I T hn hf hT hI h0 hs hd)
end
end Go.Proofs.YtapbaonlboefeaaDoor
