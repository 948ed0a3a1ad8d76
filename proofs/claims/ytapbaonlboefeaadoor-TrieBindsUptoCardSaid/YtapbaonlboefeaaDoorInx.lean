/- A region that draws its order, by what each operation yields (Inv), where what holds may speak of what several operations yielded: a store behind the allocation of its variable. -/
import Derived.Test.YtapbaonlboefeaaDoorInv
namespace Go.Proofs.YtapbaonlboefeaaDoor
open Go

section
variable {P : Program} {ops : Array Oper} {Q : Exit → Act → World → Prop}

theorem wpAny_inx {a0 : Act} {R : (Nat → Value) → Nat → World → Prop} {I : World → Prop} {T : (Nat → Value) → Nat → World → World → Prop}
    (hf : fitOps ops a0.tmps.size = true) (hT : ∀ i j vs v w w', i < ops.size → i ≠ j → reaches ops ops.size j i = false → T vs i w w' → R vs j w → R (fun k => if k = i then v else vs k) j w') (hI : ∀ i vs w w', T vs i w w' → I w → I w')
    (hs : ∀ i o, ops[i]? = some o → ∀ (vs : Nat → Value) (w : World), I w → (∀ e ∈ o.after, Region.binds .any e = true → R vs e.on w) → StepI P ops o (putFrom 0 ops.toList vs a0) w (fun v w' => T vs i w w' ∧ R (fun k => if k = i then v else vs k) i w'))
    (hd : ∀ (vs : Nat → Value) (w : World), I w → (∀ j, j < ops.size → R vs j w) → Q .normal (putFrom 0 ops.toList vs a0) w) :
    ∀ (fuel : Nat) (listed : Array Bool) (a : Act) (w : World) (vs : Nat → Value), listed.size = ops.size → (listed.toList.countP (· == false)) ≤ fuel → GotW ops a0 vs listed a → I w → (∀ j o, ops[j]? = some o → listed.getD j false = true → ∀ e ∈ o.after, Region.binds .any e = true → listed.getD e.on false = true) → (∀ j, listed.getD j false = true → R vs j w) → wpAny P .any ops Q fuel listed a w := by
  have hall : ∀ (listed : Array Bool) (a : Act) (w : World) (vs : Nat → Value), listed.size = ops.size → GotW ops a0 vs listed a → I w → (∀ j, listed.getD j false = true → R vs j w) → Region.ready .any ops listed = [] → Q .normal a w := by
    intro listed a w vs hsz hg hi hr hnil
    have hl : ∀ i, i < ops.size → listed.getD i false = true := by
      intro i
      induction i using Nat.strongRecOn with
      | ind i ih =>
        intro hlt
        rcases Bool.eq_false_or_eq_true (listed.getD i false) with h | h
        · exact h
        · have hmem : i ∈ Region.ready .any ops listed := by
            refine mem_ready.2 ⟨?_, ops[i], by simp [hlt], fun e he hb => ?_⟩
            · have : i < listed.size := by omega
              simpa [this] using h
            · have hlt2 := (fit_at hf (o := ops[i]) (i := i) (by simp [hlt])).2.2.1 e he hb
              exact ih e.on hlt2 (by omega)
          rw [hnil] at hmem; cases hmem
    have e : a = putFrom 0 ops.toList vs a0 := by
      have ht : a.tmps = (putFrom 0 ops.toList vs a0).tmps := by
        refine Array.ext (by rw [hg.size, putFrom_size]) (fun t h1 h2 => ?_)
        have q : a.tmps.getD t undef = (putFrom 0 ops.toList vs a0).tmps.getD t undef := by
          by_cases hx : ∃ o ∈ ops.toList, o.dst = some t
          · obtain ⟨o, ho, hdst⟩ := hx
            obtain ⟨j, hj, rfl⟩ := List.getElem_of_mem ho
            have hjo : ops[j]? = some ops.toList[j] := by simp at hj; simp [hj]
            rw [hg.got j _ t hjo (hl j (by simpa using hj)) hdst, putFrom_got _ _ _ _ j _ t (fit_nodup hf) (by simp) hdst (by rw [← hg.size]; exact h1), Nat.zero_add]
          · have hx' : ∀ o ∈ ops.toList, o.dst ≠ some t := fun o ho he => hx ⟨o, ho, he⟩
            rw [hg.old t hx', putFrom_other _ _ _ _ t hx']
        simpa [h1, h2] using q
      cases a
      have hdf := hg.defers
      rw [← putFrom_defers ops.toList 0 vs a0] at hdf
      simp only at ht hdf
      rw [ht, hdf]
    rw [e]
    exact hd vs w hi (fun j hj => hr j (hl j hj))
  intro fuel
  induction fuel with
  | zero =>
    intro listed a w vs hsz hc hg hi hcl hr
    have hnil : Region.ready .any ops listed = [] := by
      cases hrd : Region.ready .any ops listed with
      | nil => rfl
      | cons x l =>
        have hx : x ∈ Region.ready .any ops listed := by rw [hrd]; simp
        obtain ⟨h1, o, ho, -⟩ := mem_ready.1 hx
        have hlt : x < listed.size := by rw [hsz]; exact (Array.getElem?_eq_some_iff.1 ho).1
        have h0 : listed[x] = false := by simpa [hlt] using h1
        have : listed.toList.countP (· == false) ≠ 0 := fun e => by
          rw [List.countP_eq_zero] at e
          have := e listed[x] (by simp)
          simp [h0] at this
        omega
    exact ⟨hnil, hall listed a w vs hsz hg hi hr hnil⟩
  | succ fuel ih =>
    intro listed a w vs hsz hc hg hi hcl hr
    refine ⟨hall listed a w vs hsz hg hi hr, fun i hmem => ?_⟩
    obtain ⟨h1, o, ho, hdep⟩ := mem_ready.1 hmem
    have hlt : i < listed.size := by rw [hsz]; exact (Array.getElem?_eq_some_iff.1 ho).1
    have h0 : listed[i] = false := by simpa [hlt] using h1
    obtain ⟨f1, f2, f3, f4, f5⟩ := fit_at hf ho
    have hst := hs i o ho vs w hi (fun e he hb => hr e.on (hdep e he hb))
    -- it reads the same
    have hev : ∀ t, (∀ j p, ops[j]? = some p → p.dst = some t → ∃ e ∈ o.after, e.on = j ∧ Region.binds .any e = true) → a.tmps.getD t undef = (putFrom 0 ops.toList vs a0).tmps.getD t undef := by
      intro t ht
      by_cases hx : ∃ p ∈ ops.toList, p.dst = some t
      · obtain ⟨p, hp, hdst⟩ := hx
        obtain ⟨j, hj, rfl⟩ := List.getElem_of_mem hp
        have hjo : ops[j]? = some ops.toList[j] := by simp at hj; simp [hj]
        obtain ⟨e, he, hej, hb⟩ := ht j _ hjo hdst
        rw [hg.got j _ t hjo (by rw [← hej]; exact hdep e he hb) hdst, putFrom_got _ _ _ _ j _ t (fit_nodup hf) (by simp) hdst ((fit_at hf hjo).2.1 t hdst), Nat.zero_add]
      · have hx' : ∀ o ∈ ops.toList, o.dst ≠ some t := fun o ho he => hx ⟨o, ho, he⟩
        rw [hg.old t hx', putFrom_other _ _ _ _ t hx']
    have hexec : execOp a.eval o = execOp (putFrom 0 ops.toList vs a0).eval o := execOp_congr o f1 fun x hx => by
      cases x with
      | tmp t => exact hev t (f5 t hx)
      | const v => rfl
      | global g => rfl
      | func f => rfl
    have hwant : Region.wanted o (yielded ops a.tmps) = Region.wanted o (yielded ops (putFrom 0 ops.toList vs a0).tmps) := by
      unfold Region.wanted
      cases hgd : o.guard with
      | none => rfl
      | some gb =>
        obtain ⟨g, b⟩ := gb
        obtain ⟨g1, ⟨e, he, heg, hb⟩, g3⟩ := f4 g b hgd
        have hgo : ops[g]? = some ops[g] := by simp [g1]
        obtain ⟨t, hdst⟩ := Option.isSome_iff_exists.1 g3
        rw [hgo, Option.bind_some] at hdst
        have q : a.tmps[t]? = (putFrom 0 ops.toList vs a0).tmps[t]? := by
          have hlt2 := (fit_at hf hgo).2.1 t hdst
          have q := hev t (fun j p hj hp => by
            have : j = g := by
              have nd := fit_nodup hf
              rcases Nat.lt_trichotomy j g with hh | hh | hh
              · exact absurd nd (by
                  intro nd
                  have a1 := putFrom_got ops.toList 0 (fun n => .int .i64 n) a0 j p t nd (by simpa using hj) hp hlt2
                  have a2 := putFrom_got ops.toList 0 (fun n => .int .i64 n) a0 g _ t nd (by simp) hdst hlt2
                  rw [a1] at a2
                  simp at a2; omega)
              · exact hh
              · exact absurd nd (by
                  intro nd
                  have a1 := putFrom_got ops.toList 0 (fun n => .int .i64 n) a0 j p t nd (by simpa using hj) hp hlt2
                  have a2 := putFrom_got ops.toList 0 (fun n => .int .i64 n) a0 g _ t nd (by simp) hdst hlt2
                  rw [a1] at a2
                  simp at a2; omega)
            exact ⟨e, he, by rw [this]; exact heg, hb⟩)
          have s1 : t < a.tmps.size := by rw [hg.size]; exact hlt2
          have s2 : t < (putFrom 0 ops.toList vs a0).tmps.size := by rw [putFrom_size]; exact hlt2
          simpa [s1, s2] using q
        simp only [yielded, hgo, Option.bind_some, hdst, q]
    -- the state behind it
    have hnext : ∀ (v : Value) (w' : World), T vs i w w' ∧ R (fun k => if k = i then v else vs k) i w' → wpAny P .any ops Q fuel (listed.setIfInBounds i true) (a.put o.dst v) w' := by
      intro v w' ⟨ht, hri⟩
      refine ih _ _ w' (fun j => if j = i then v else vs j) (by simpa using hsz) ?_ ⟨by rw [put_size]; exact hg.size, by rw [put_defers]; exact hg.defers, fun t hno => ?_, fun j p d hj hlj hpd => ?_⟩ (hI i vs w w' ht hi) (fun j p hp hj e he hb => ?_) (fun j hj => ?_)
      · have hc2 : (listed.setIfInBounds i true).toList.countP (· == false) < listed.toList.countP (· == false) := by
          rw [Array.toList_setIfInBounds, List.countP_set (by simpa using hlt)]
          have hpos : 0 < listed.toList.countP (· == false) := by
            rw [List.countP_pos_iff]
            exact ⟨listed[i], by simp, by simp [h0]⟩
          have hi2 : i < listed.toList.length := by simpa using hlt
          have e1 : (listed.toList[i]'hi2 == false) = true := by simp [h0]
          rw [if_pos e1, if_neg (by simp)]
          omega
        omega
      · rw [put_other (hno o (by
          have := Array.mem_of_getElem? ho
          simpa using this))]
        exact hg.old t hno
      · by_cases hji : j = i
        · subst hji
          rw [ho] at hj
          cases hj
          simp only [if_true]
          rw [hpd, put_same (by rw [hg.size]; exact f2 d hpd)]
        · simp only [if_neg hji]
          have hne : o.dst ≠ some d := fun e => by
            have nd := fit_nodup hf
            have a1 := putFrom_got ops.toList 0 (fun n => .int .i64 n) a0 j p d nd (by simpa using hj) hpd (f2 d e)
            have a2 := putFrom_got ops.toList 0 (fun n => .int .i64 n) a0 i o d nd (by simpa using ho) e (f2 d e)
            rw [a1] at a2
            simp at a2; omega
          rw [put_other hne]
          refine hg.got j p d hj ?_ hpd
          rw [getD_set_ne false (fun e => hji e.symm)] at hlj
          exact hlj
      · have hset : ∀ q, listed.getD q false = true → (listed.setIfInBounds i true).getD q false = true := fun q hq => by
          by_cases hqi : i = q
          · subst hqi; simp [hlt]
          · rw [getD_set_ne false hqi]; exact hq
        by_cases hji : j = i
        · subst hji
          rw [ho] at hp
          cases hp
          exact hset _ (hdep e he hb)
        · rw [getD_set_ne false (fun e => hji e.symm)] at hj
          exact hset _ (hcl j p hp hj e he hb)
      · by_cases hji : j = i
        · subst hji; exact hri
        · rw [getD_set_ne false (fun e => hji e.symm)] at hj
          refine hT i j vs v w w' (by omega) (fun e => hji e.symm) ?_ ht (hr j hj)
          rcases Bool.eq_false_or_eq_true (reaches ops ops.size j i) with hre | hre
          · have := reaches_listed hcl _ j i hj hre
            simp [hlt, h0] at this
          · exact hre
    unfold wpOp
    simp only [ho]
    rcases hst with ⟨hw, hgo⟩ | ⟨hw, hR⟩
    · rw [hwant, hw]
      simp only [if_true]
      refine .inl ?_
      unfold Oper.wp
      rw [hexec]
      exact upon_other (a := putFrom 0 ops.toList vs a0) (fun t e => by rw [putFrom_size]; exact f2 t e) hgo hnext
    · rw [hwant, hw]
      exact hnext undef w hR

/-- A drawn region so. -/
theorem wpAny_of_inx {a0 : Act} {w0 : World} (n : Nat) (R : (Nat → Value) → Nat → World → Prop) (I : World → Prop) (T : (Nat → Value) → Nat → World → World → Prop)
    (hn : a0.tmps.size = n) (hf : fitOps ops n = true)
    (hT : ∀ i j vs v w w', i < ops.size → i ≠ j → (∀ o, ops[j]? = some o → waits o i = false) → T vs i w w' → R vs j w → R (fun k => if k = i then v else vs k) j w') (hI : ∀ i vs w w', T vs i w w' → I w → I w') (h0 : I w0.drew)
    (hs : ∀ i o, ops[i]? = some o → ∀ (vs : Nat → Value) (w : World), I w → (∀ j, waits o j = true → R vs j w) → StepI P ops o (putFrom 0 ops.toList vs a0) w (fun v w' => T vs i w w' ∧ R (fun k => if k = i then v else vs k) i w'))
    (hd : ∀ (vs : Nat → Value) (w : World), I w → (∀ j, j < ops.size → R vs j w) → Q .normal (putFrom 0 ops.toList vs a0) w) :
    wpAny P .any ops Q ops.size (Array.replicate ops.size false) a0 w0.drew := by
  subst hn
  have hs' : ∀ i o, ops[i]? = some o → ∀ (vs : Nat → Value) (w : World), I w → (∀ e ∈ o.after, Region.binds .any e = true → R vs e.on w) → StepI P ops o (putFrom 0 ops.toList vs a0) w (fun v w' => T vs i w w' ∧ R (fun k => if k = i then v else vs k) i w') :=
    fun i o ho vs w hi hr => hs i o ho vs w hi (fun j hj => by
      unfold waits at hj
      simp only [List.any_eq_true, Bool.and_eq_true, beq_iff_eq] at hj
      obtain ⟨e, he, rfl, hb⟩ := hj
      exact hr e (by simpa using he) hb)
  have hT' : ∀ i j vs v w w', i < ops.size → i ≠ j → reaches ops ops.size j i = false → T vs i w w' → R vs j w → R (fun k => if k = i then v else vs k) j w' := fun i j vs v w w' h1 h2 h3 => hT i j vs v w w' h1 h2 (fun o ho => by
    rcases Bool.eq_false_or_eq_true (waits o i) with hw | hw
    · obtain ⟨n, hn⟩ : ∃ n, ops.size = n + 1 := ⟨ops.size - 1, by omega⟩
      rw [hn, reaches_of_waits ho hw] at h3
      cases h3
    · exact hw)
  refine (wpAny_inx hf hT' hI hs' hd ops.size _ a0 _ (fun _ => undef) (by simp) (Nat.le_trans List.countP_le_length (by simp)) ⟨rfl, rfl, fun _ _ => rfl, fun i o d hi hl => ?_⟩ h0 (fun j o hj hl => ?_) (fun j hj => ?_))
  · rw [Array.getD_eq_getD_getElem?, Array.getElem?_replicate] at hl; split at hl <;> simp at hl
  · rw [Array.getD_eq_getD_getElem?, Array.getElem?_replicate] at hl; split at hl <;> simp at hl
  · rw [Array.getD_eq_getD_getElem?, Array.getElem?_replicate] at hj; split at hj <;> simp at hj
theorem wp_region_inx {id : Nat} {a0 : Act} {w0 : World} (n : Nat) (R : (Nat → Value) → Nat → World → Prop) (I : World → Prop) (T : (Nat → Value) → Nat → World → World → Prop)
    (hm : P.follows .mixedOrders = true) (hn : a0.tmps.size = n) (hf : fitOps ops n = true)
    (hT : ∀ i j vs v w w', i < ops.size → i ≠ j → (∀ o, ops[j]? = some o → waits o i = false) → T vs i w w' → R vs j w → R (fun k => if k = i then v else vs k) j w') (hI : ∀ i vs w w', T vs i w w' → I w → I w') (h0 : I w0.drew)
    (hs : ∀ i o, ops[i]? = some o → ∀ (vs : Nat → Value) (w : World), I w → (∀ j, waits o j = true → R vs j w) → StepI P ops o (putFrom 0 ops.toList vs a0) w (fun v w' => T vs i w w' ∧ R (fun k => if k = i then v else vs k) i w'))
    (hd : ∀ (vs : Nat → Value) (w : World), I w → (∀ j, j < ops.size → R vs j w) → Q .normal (putFrom 0 ops.toList vs a0) w) :
    (Code.region id ops true).wp P Q a0 w0 := wp_region_any hm (wpAny_of_inx n R I T hn hf hT hI h0 hs hd)
end
end Go.Proofs.YtapbaonlboefeaaDoor
