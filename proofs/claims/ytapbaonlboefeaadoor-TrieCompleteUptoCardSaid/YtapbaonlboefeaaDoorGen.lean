/- A region that draws its order, the most general form: what holds may speak of which operations have come up (L), the slots of the others hold what they held. -/
import Derived.Test.YtapbaonlboefeaaDoorInv
namespace Go.Proofs.YtapbaonlboefeaaDoor
open Go

section
variable {P : Program} {ops : Array Oper} {Q : Exit → Act → World → Prop}

/-- What an operation's slot held ahead of the region. -/
def origV (a0 : Act) (o : Oper) : Value := match o.dst with | some d => a0.tmps.getD d undef | none => undef
/-- Slots are written once; an operation waits for operations ahead of it. -/
def fitOps2 (ops : Array Oper) (n : Nat) : Bool :=
  decide ((ops.toList.filterMap (·.dst)).Nodup) &&
  (ops.toList.zipIdx.all fun (o, i) =>
    (match o.dst with | some d => decide (d < n) | none => true) &&
    (o.after.all fun e => !Region.binds .any e || decide (e.on < i)))
theorem fit2_at {n : Nat} (h : fitOps2 ops n = true) {i : Nat} {o : Oper} (hi : ops[i]? = some o) : (∀ d, o.dst = some d → d < n) ∧ (∀ e ∈ o.after, Region.binds .any e = true → e.on < i) := by
  unfold fitOps2 at h
  rw [Bool.and_eq_true, List.all_eq_true] at h
  have hm : (o, i) ∈ ops.toList.zipIdx := by
    rw [List.mem_zipIdx_iff_getElem?]; simpa using hi
  have hx := h.2 _ hm
  simp only [Bool.and_eq_true] at hx
  refine ⟨fun d e => (by have := hx.1; rw [e] at this; simpa using this), fun e he hb => ?_⟩
  have := hx.2
  rw [Array.all_eq_true_iff_forall_mem] at this
  have := this e he
  rw [hb] at this
  simpa using this
theorem fit2_nodup {n : Nat} (h : fitOps2 ops n = true) : (ops.toList.filterMap (·.dst)).Nodup := by
  unfold fitOps2 at h
  rw [Bool.and_eq_true] at h
  simpa using h.1
theorem act_ext {a b : Act} (hs : a.tmps.size = b.tmps.size) (ht : ∀ t, t < a.tmps.size → a.tmps.getD t undef = b.tmps.getD t undef) (hd : a.defers = b.defers) : a = b := by
  have h : a.tmps = b.tmps := Array.ext hs (fun t h1 h2 => by
    have := ht t h1
    simpa [h1, h2] using this)
  cases a; cases b
  simp only at h hd
  rw [h, hd]
/-- A slot of the region's: what its operation yielded; another one: what it held. -/
theorem putFrom_upd {n : Nat} {a0 : Act} (_hn : a0.tmps.size = n) (hf : fitOps2 ops n = true) {i : Nat} {o : Oper} (hi : ops[i]? = some o) (vs : Nat → Value) (v : Value) :
    (putFrom 0 ops.toList vs a0).put o.dst v = putFrom 0 ops.toList (fun k => if k = i then v else vs k) a0 := by
  have hnd := fit2_nodup hf
  have hil : ops.toList[i]? = some o := by simpa using hi
  refine act_ext (by rw [put_size, putFrom_size, putFrom_size]) (fun t ht => ?_) (by rw [put_defers, putFrom_defers, putFrom_defers])
  rw [put_size, putFrom_size] at ht
  by_cases hx : ∃ p ∈ ops.toList, p.dst = some t
  · obtain ⟨p, hp, hd⟩ := hx
    obtain ⟨j, hj, rfl⟩ := List.getElem_of_mem hp
    rw [putFrom_got ops.toList 0 _ a0 j _ t hnd (by simp) hd ht, Nat.zero_add]
    by_cases hji : j = i
    · subst hji
      have hpo : ops.toList[j] = o := by
        rw [List.getElem?_eq_getElem hj] at hil; exact Option.some.inj hil
      rw [hpo] at hd
      rw [hd, put_same (by rw [putFrom_size]; exact ht), if_pos rfl]
    · have hne : o.dst ≠ some t := fun e => by
        have a1 := putFrom_got ops.toList 0 (fun n => .int .i64 n) a0 j _ t hnd (by simp) hd ht
        have a2 := putFrom_got ops.toList 0 (fun n => .int .i64 n) a0 i o t hnd hil e ht
        rw [a1] at a2
        simp at a2; omega
      rw [put_other hne, putFrom_got ops.toList 0 vs a0 j _ t hnd (by simp) hd ht, Nat.zero_add, if_neg hji]
  · have hx' : ∀ p ∈ ops.toList, p.dst ≠ some t := fun p hp he => hx ⟨p, hp, he⟩
    rw [put_other (hx' o (List.mem_of_getElem? hil)), putFrom_other _ _ _ _ t hx', putFrom_other _ _ _ _ t hx']
theorem putFrom_orig {n : Nat} {a0 : Act} (_hn : a0.tmps.size = n) (hf : fitOps2 ops n = true) (vs : Nat → Value) (hv : ∀ j o, ops[j]? = some o → vs j = origV a0 o) : putFrom 0 ops.toList vs a0 = a0 := by
  refine act_ext (by rw [putFrom_size]) (fun t ht => ?_) (by rw [putFrom_defers])
  rw [putFrom_size] at ht
  by_cases hx : ∃ p ∈ ops.toList, p.dst = some t
  · obtain ⟨p, hp, hd⟩ := hx
    obtain ⟨j, hj, rfl⟩ := List.getElem_of_mem hp
    have hjo : ops[j]? = some (ops.toList[j]) := by rw [← Array.getElem?_toList, List.getElem?_eq_getElem hj]
    rw [putFrom_got ops.toList 0 _ a0 j _ t (fit2_nodup hf) (List.getElem?_eq_getElem hj) hd ht, Nat.zero_add, hv j _ hjo]
    unfold origV
    rw [hd]
  · have hx' : ∀ p ∈ ops.toList, p.dst ≠ some t := fun p hp he => hx ⟨p, hp, he⟩
    rw [putFrom_other _ _ _ _ t hx']

theorem wpAny_gen {n : Nat} {a0 : Act} {R : (Nat → Value) → Nat → World → Prop} {I : (Nat → Bool) → World → Prop} {T : (Nat → Value) → Nat → Value → World → World → Prop}
    (hn : a0.tmps.size = n) (hf : fitOps2 ops n = true) (hT : ∀ i j vs v w w', i < ops.size → i ≠ j → (∀ o, ops[j]? = some o → waits o i = false) → T vs i v w w' → R vs j w → R (fun k => if k = i then v else vs k) j w')
    (hs : ∀ i o, ops[i]? = some o → ∀ (L : Nat → Bool) (vs : Nat → Value) (w : World), L i = false → (∀ j, waits o j = true → L j = true) → (∀ j, L j = true → R vs j w) → (∀ j p, ops[j]? = some p → L j = false → vs j = origV a0 p) → (∀ j p, ops[j]? = some p → waits p i = true → L j = false) → I L w → StepI P ops o (putFrom 0 ops.toList vs a0) w (fun v w' => T vs i v w w' ∧ I (fun k => if k = i then true else L k) w' ∧ R (fun k => if k = i then v else vs k) i w'))
    (hd : ∀ (vs : Nat → Value) (w : World), I (fun j => decide (j < ops.size)) w → (∀ j, j < ops.size → R vs j w) → Q .normal (putFrom 0 ops.toList vs a0) w) :
    ∀ (fuel : Nat) (listed : Array Bool) (w : World) (vs : Nat → Value), listed.size = ops.size → (listed.toList.countP (· == false)) ≤ fuel → I (fun j => listed.getD j false) w → (∀ j o, ops[j]? = some o → listed.getD j false = true → ∀ e ∈ o.after, Region.binds .any e = true → listed.getD e.on false = true) → (∀ j, listed.getD j false = true → R vs j w) → (∀ j p, ops[j]? = some p → listed.getD j false = false → vs j = origV a0 p) → wpAny P .any ops Q fuel listed (putFrom 0 ops.toList vs a0) w := by
  have hall : ∀ (listed : Array Bool) (w : World) (vs : Nat → Value), listed.size = ops.size → I (fun j => listed.getD j false) w → (∀ j, listed.getD j false = true → R vs j w) → Region.ready .any ops listed = [] → Q .normal (putFrom 0 ops.toList vs a0) w := by
    intro listed w vs hsz hi hr hnil
    have hl : ∀ i, i < ops.size → listed.getD i false = true := by
      intro i
      induction i using Nat.strongRecOn with
      | ind i ih =>
        intro hlt
        rcases Bool.eq_false_or_eq_true (listed.getD i false) with h | h
        · exact h
        · have hmem : i ∈ Region.ready .any ops listed := by
            refine mem_ready.2 ⟨?_, ops[i], by simp [hlt], fun e he hb => ?_⟩
            · have : i < listed.size := by omega
              simpa [this] using h
            · have hlt2 := (fit2_at hf (o := ops[i]) (i := i) (by simp [hlt])).2 e he hb
              exact ih e.on hlt2 (by omega)
          rw [hnil] at hmem; cases hmem
    have hL : (fun j => listed.getD j false) = (fun j => decide (j < ops.size)) := by
      funext j
      by_cases hj : j < ops.size
      · rw [hl j hj]; simp [hj]
      · simp [hj, Array.getD, show ¬ j < listed.size by omega]
    rw [hL] at hi
    exact hd vs w hi (fun j hj => hr j (hl j hj))
  intro fuel
  induction fuel with
  | zero =>
    intro listed w vs hsz hc hi hcl hr hu
    have hnil : Region.ready .any ops listed = [] := by
      cases hrd : Region.ready .any ops listed with
      | nil => rfl
      | cons x l =>
        have hx : x ∈ Region.ready .any ops listed := by rw [hrd]; simp
        obtain ⟨h1, o, ho, -⟩ := mem_ready.1 hx
        have hlt : x < listed.size := by rw [hsz]; exact (Array.getElem?_eq_some_iff.1 ho).1
        have h0 : listed[x] = false := by simpa [hlt] using h1
        have : listed.toList.countP (· == false) ≠ 0 := fun e => by
          rw [List.countP_eq_zero] at e
          have := e listed[x] (by simp)
          simp [h0] at this
        omega
    exact ⟨hnil, hall listed w vs hsz hi hr hnil⟩
  | succ fuel ih =>
    intro listed w vs hsz hc hi hcl hr hu
    refine ⟨hall listed w vs hsz hi hr, fun i hmem => ?_⟩
    obtain ⟨h1, o, ho, hdep⟩ := mem_ready.1 hmem
    have hlt : i < listed.size := by rw [hsz]; exact (Array.getElem?_eq_some_iff.1 ho).1
    have h0 : listed[i] = false := by simpa [hlt] using h1
    have h0' : listed.getD i false = false := by simp [hlt, h0]
    have hwt : ∀ {p : Oper} {j : Nat}, waits p j = true → ∃ e ∈ p.after, e.on = j ∧ Region.binds .any e = true := by
      intro p j h
      unfold waits at h
      simp only [List.any_eq_true, Bool.and_eq_true, beq_iff_eq] at h
      obtain ⟨e, he, h2, h3⟩ := h
      exact ⟨e, by simpa using he, h2, h3⟩
    have hst := hs i o ho (fun j => listed.getD j false) vs w h0' (fun j hj => by
      obtain ⟨e, he, rfl, hb⟩ := hwt hj
      exact hdep e he hb) hr hu (fun j p hp hj => by
      obtain ⟨e, he, rfl, hb⟩ := hwt hj
      rcases Bool.eq_false_or_eq_true (listed.getD j false) with q | q
      · have := hcl j p hp q e he hb
        rw [h0'] at this; cases this
      · exact q) hi
    have hnext : ∀ (v : Value) (w' : World), T vs i v w w' ∧ I (fun k => if k = i then true else listed.getD k false) w' ∧ R (fun k => if k = i then v else vs k) i w' → wpAny P .any ops Q fuel (listed.setIfInBounds i true) ((putFrom 0 ops.toList vs a0).put o.dst v) w' := by
      intro v w' ⟨ht, hii, hri⟩
      rw [putFrom_upd hn hf ho]
      have hgl : ∀ k, (listed.setIfInBounds i true).getD k false = if k = i then true else listed.getD k false := fun k => by
        by_cases hk : k = i
        · subst hk; simp [hlt]
        · rw [getD_set_ne false (fun e => hk e.symm), if_neg hk]
      refine ih _ w' (fun j => if j = i then v else vs j) (by simpa using hsz) ?_ ?_ (fun j p hp hj e he hb => ?_) (fun j hj => ?_) (fun j p hp hj => ?_)
      · have hc2 : (listed.setIfInBounds i true).toList.countP (· == false) < listed.toList.countP (· == false) := by
          rw [Array.toList_setIfInBounds, List.countP_set (by simpa using hlt)]
          have hpos : 0 < listed.toList.countP (· == false) := by
            rw [List.countP_pos_iff]
            exact ⟨listed[i], by simp, by simp [h0]⟩
          have hi2 : i < listed.toList.length := by simpa using hlt
          have e1 : (listed.toList[i]'hi2 == false) = true := by simp [h0]
          rw [if_pos e1, if_neg (by simp)]
          omega
        omega
      · have : (fun j => (listed.setIfInBounds i true).getD j false) = (fun k => if k = i then true else listed.getD k false) := funext hgl
        rw [this]; exact hii
      · rw [hgl] at hj ⊢
        by_cases hji : j = i
        · subst hji
          rw [ho] at hp
          cases hp
          have := hdep e he hb
          split
          · rfl
          · exact this
        · rw [if_neg hji] at hj
          have := hcl j p hp hj e he hb
          split
          · rfl
          · exact this
      · rw [hgl] at hj
        by_cases hji : j = i
        · subst hji; exact hri
        · rw [if_neg hji] at hj
          refine hT i j vs v w w' (by omega) (fun e => hji e.symm) (fun p hp => ?_) ht (hr j hj)
          rcases Bool.eq_false_or_eq_true (waits p i) with hre | hre
          · obtain ⟨e, he, e1, hb⟩ := hwt hre
            have := hcl j p hp hj e he hb
            rw [e1, h0'] at this; cases this
          · exact hre
      · rw [hgl] at hj
        by_cases hji : j = i
        · rw [if_pos hji] at hj; cases hj
        · rw [if_neg hji] at hj
          show (if j = i then v else vs j) = _
          rw [if_neg hji]; exact hu j p hp hj
    unfold wpOp
    simp only [ho]
    rcases hst with ⟨hw, hgo⟩ | ⟨hw, hR⟩
    · rw [hw]
      simp only [if_true]
      exact .inl (hgo _ _ (fun a' v w' e h => e ▸ hnext v w' h))
    · rw [hw]
      exact hnext undef w hR
theorem wpAny_of_gen {a0 : Act} {w0 : World} (n : Nat) (R : (Nat → Value) → Nat → World → Prop) (I : (Nat → Bool) → World → Prop) (T : (Nat → Value) → Nat → Value → World → World → Prop)
    (hn : a0.tmps.size = n) (hf : fitOps2 ops n = true)
    (hT : ∀ i j vs v w w', i < ops.size → i ≠ j → (∀ o, ops[j]? = some o → waits o i = false) → T vs i v w w' → R vs j w → R (fun k => if k = i then v else vs k) j w') (h0 : I (fun _ => false) w0.drew)
    (hs : ∀ i o, ops[i]? = some o → ∀ (L : Nat → Bool) (vs : Nat → Value) (w : World), L i = false → (∀ j, waits o j = true → L j = true) → (∀ j, L j = true → R vs j w) → (∀ j p, ops[j]? = some p → L j = false → vs j = origV a0 p) → (∀ j p, ops[j]? = some p → waits p i = true → L j = false) → I L w → StepI P ops o (putFrom 0 ops.toList vs a0) w (fun v w' => T vs i v w w' ∧ I (fun k => if k = i then true else L k) w' ∧ R (fun k => if k = i then v else vs k) i w'))
    (hd : ∀ (vs : Nat → Value) (w : World), I (fun j => decide (j < ops.size)) w → (∀ j, j < ops.size → R vs j w) → Q .normal (putFrom 0 ops.toList vs a0) w) :
    wpAny P .any ops Q ops.size (Array.replicate ops.size false) a0 w0.drew := by
  have hrep : ∀ j, (Array.replicate ops.size false).getD j false = false := fun j => by
    rw [Array.getD_eq_getD_getElem?, Array.getElem?_replicate]; split <;> simp
  have h := wpAny_gen (P := P) (Q := Q) hn hf hT hs hd ops.size (Array.replicate ops.size false) w0.drew (fun j => match ops[j]? with | some o => origV a0 o | none => undef) (by simp) (Nat.le_trans List.countP_le_length (by simp)) (by
    have : (fun j => (Array.replicate ops.size false).getD j false) = (fun _ => false) := funext hrep
    rw [this]; exact h0) (fun j o _ hj => by rw [hrep] at hj; cases hj) (fun j hj => by rw [hrep] at hj; cases hj) (fun j p hp _ => by simp [hp])
  rw [putFrom_orig hn hf _ (fun j o ho => by simp [ho])] at h
  exact h
/-- A drawn region so. -/
theorem wp_region_gen {id : Nat} {a0 : Act} {w0 : World} (n : Nat) (R : (Nat → Value) → Nat → World → Prop) (I : (Nat → Bool) → World → Prop) (T : (Nat → Value) → Nat → Value → World → World → Prop)
    (hm : P.follows .mixedOrders = true) (hn : a0.tmps.size = n) (hf : fitOps2 ops n = true)
    (hT : ∀ i j vs v w w', i < ops.size → i ≠ j → (∀ o, ops[j]? = some o → waits o i = false) → T vs i v w w' → R vs j w → R (fun k => if k = i then v else vs k) j w') (h0 : I (fun _ => false) w0.drew)
    (hs : ∀ i o, ops[i]? = some o → ∀ (L : Nat → Bool) (vs : Nat → Value) (w : World), L i = false → (∀ j, waits o j = true → L j = true) → (∀ j, L j = true → R vs j w) → (∀ j p, ops[j]? = some p → L j = false → vs j = origV a0 p) → (∀ j p, ops[j]? = some p → waits p i = true → L j = false) → I L w → StepI P ops o (putFrom 0 ops.toList vs a0) w (fun v w' => T vs i v w w' ∧ I (fun k => if k = i then true else L k) w' ∧ R (fun k => if k = i then v else vs k) i w'))
    (hd : ∀ (vs : Nat → Value) (w : World), I (fun j => decide (j < ops.size)) w → (∀ j, j < ops.size → R vs j w) → Q .normal (putFrom 0 ops.toList vs a0) w) :
    (Code.region id ops true).wp P Q a0 w0 := wp_region_any hm (wpAny_of_gen n R I T hn hf hT h0 hs hd)
end
end Go.Proofs.YtapbaonlboefeaaDoor
