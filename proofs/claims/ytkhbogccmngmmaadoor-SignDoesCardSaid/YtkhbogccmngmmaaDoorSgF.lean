/- Where SignDoes stands: both rings, the signatures that were made, the signer. -/
import Derived.Test.YtkhbogccmngmmaaDoorSdS
import Derived.Test.YtkhbogccmngmmaaDoorSdU
import Derived.Test.YtkhbogccmngmmaaDoorSgA
import Derived.Test.YtkhbogccmngmmaaDoorSgQs
import Derived.Test.YtkhbogccmngmmaaDoorDk
namespace Go.Proofs.YtkhbogccmngmmaaDoor
open Go.RowKit

theorem key_sig (d : Nat) (i : Int) (b : List UInt8) (hi : I64 i) (hb : b.length = 32) : Tryd.prog.keyLits (d + 3) 61 (sigL i b) = some (.int .i64 i :: (bys b).map toLit) := by
  have hc : Tryd.prog.cellsOf 61 = 33 := by kernel_rfl
  have hcJ : Tryd.prog.cellsOf 2 = 1 := by kernel_rfl
  have hcD : Tryd.prog.cellsOf 24 = 32 := by kernel_rfl
  have hw : (Lit.int .i64 i).wf = true := wfI hi
  have k1 : Tryd.prog.keyLits (d + 2) 2 [.int .i64 i] = some [.int .i64 i] := by
    unfold Program.keyLits
    simp only [Tryd.underlying2]
    rw [if_pos ⟨trivial, hw⟩]
  have k2 : Tryd.prog.keyLits (d + 2) 24 (bys b) = _ := key_digest d b hb
  have t1 : (bys b).take 32 = bys b := List.take_of_length_le (by rw [bys_len, hb]; omega)
  unfold Program.keyLits
  simp only [Tryd.underlying61, hc]
  rw [if_pos ⟨sigL_len i b hb, by kernel_rfl⟩]
  have e0 : ((sigL i b).drop 0).take 1 = [.int .i64 i] := rfl
  have e1 : (sigL i b).drop 1 = bys b := rfl
  simp only [List.mapM_cons, List.mapM_nil, hcJ, hcD, e0, e1, t1, k1, k2]
  simp
/-- A signature is itself. -/
theorem neq_sig (W : World) (i : Int) (b : List UInt8) (hi : I64 i) (hb : b.length = 32) : (binOp .neq 61 (.agg (sigL i b).toArray) (.agg (sigL i b).toArray)).run Tryd.prog W = .ok (.bool false) W := by
  have hf : (Value.agg (sigL i b).toArray).formed Tryd.prog 61 = true := by
    have hc : Tryd.prog.cellsOf 61 = 33 := by kernel_rfl
    simp only [Value.formed, Tryd.underlying61, hc]
    simp [sigL_len i b hb]
  have hkt : Tryd.prog.keyTypeAt 3 61 = true := by kernel_rfl
  obtain ⟨r, hr, hiff⟩ := run_equalIn_deep 9997 3 _ hkt W 3 3 (.agg (sigL i b).toArray) (.agg (sigL i b).toArray) _ _ hf hf (key_sig 0 i b hi hb) (key_sig 0 i b hi hb)
  have hr1 : r = true := hiff.2 rfl
  rw [run_neq_struct, hr, hr1]
  rfl

/-- A list without repetitions within another is no longer; it is shorter if that one repeats. -/
theorem len_within {α : Type} [DecidableEq α] : ∀ (P U : List α), U.Nodup → (∀ x ∈ U, x ∈ P) → U.length ≤ P.length ∧ (¬ P.Nodup → U.length < P.length)
  | [], U, _, h => by
    have : U = [] := List.eq_nil_iff_forall_not_mem.2 (fun x hx => by have := h x hx; simp at this)
    subst this; simp
  | a :: P, U, hn, h => by
    have key : ∀ V : List α, V.Nodup → (∀ x ∈ V, x ∈ P) → V.length ≤ P.length ∧ (¬ P.Nodup → V.length < P.length) := fun V h1 h2 => len_within P V h1 h2
    by_cases ha : a ∈ U
    · have hn2 : (U.erase a).Nodup := hn.erase a
      have hsub : ∀ x ∈ U.erase a, x ∈ P := fun x hx => by
        have h1 := (List.Nodup.mem_erase_iff hn).1 hx
        rcases List.mem_cons.1 (h x h1.2) with e | e
        · exact absurd e h1.1
        · exact e
      obtain ⟨k1, k2⟩ := key _ hn2 hsub
      have hl := List.length_erase_of_mem ha
      have hpos : 0 < U.length := List.length_pos_of_mem ha
      refine ⟨by simp only [List.length_cons]; omega, fun hnd => ?_⟩
      by_cases hap : a ∈ P
      · have h3 : ∀ x ∈ U, x ∈ P := fun x hx => by
          rcases List.mem_cons.1 (h x hx) with e | e
          · rw [e]; exact hap
          · exact e
        have := (key U hn h3).1
        simp only [List.length_cons]; omega
      · have : ¬ P.Nodup := fun hp => hnd (List.nodup_cons.2 ⟨hap, hp⟩)
        have := k2 this
        simp only [List.length_cons]; omega
    · have h3 : ∀ x ∈ U, x ∈ P := fun x hx => by
        rcases List.mem_cons.1 (h x hx) with e | e
        · exact absurd (e ▸ hx) ha
        · exact e
      have := (key U hn h3).1
      simp only [List.length_cons]
      exact ⟨by omega, fun _ => by omega⟩
/-- The places that were used, each once. -/
structure Used (L : List Sg) (U : List (Int × Int)) : Prop where
  l : L.Nodup
  u : U.Nodup
  iff : ∀ p, p ∈ U ↔ ∃ t, (p, t) ∈ L
theorem Used.nil : Used [] [] := ⟨List.nodup_nil, List.nodup_nil, by simp⟩
theorem Used.sign {L : List Sg} {U : List (Int × Int)} (h : Used L U) (s : Sg) : Used (signL L s) (signU L U s) := by
  unfold signL signU
  by_cases hm : s ∈ L
  · rw [if_pos hm, if_pos hm]; exact h
  · rw [if_neg hm, if_neg hm]
    have hl : (L ++ [s]).Nodup := by
      rw [List.nodup_append]
      exact ⟨h.l, by simp, fun a ha b hb e => by simp at hb; subst hb; subst e; exact hm ha⟩
    by_cases hu : s.1 ∈ U
    · rw [if_pos hu]
      refine ⟨hl, h.u, fun p => ?_⟩
      rw [h.iff]
      constructor
      · rintro ⟨t, ht⟩; exact ⟨t, by simp [ht]⟩
      · rintro ⟨t, ht⟩
        rcases List.mem_append.1 ht with e | e
        · exact ⟨t, e⟩
        · simp at e; rw [← e] at hu; exact (h.iff p).1 hu
    · rw [if_neg hu]
      refine ⟨hl, ?_, fun p => ?_⟩
      · rw [List.nodup_append]
        exact ⟨h.u, by simp, fun a ha b hb e => by simp at hb; subst hb; subst e; exact hu ha⟩
      · rw [List.mem_append, h.iff]
        constructor
        · rintro (⟨t, ht⟩ | e)
          · exact ⟨t, by simp [ht]⟩
          · simp at e; exact ⟨s.2, by simp [e]⟩
        · rintro ⟨t, ht⟩
          rcases List.mem_append.1 ht with e | e
          · exact .inl ⟨t, e⟩
          · simp at e; exact .inr (by simp [← e])
theorem Used.signed {L : List Sg} {U : List (Int × Int)} (h : Used L U) (nk : Nat) (bud : Int) (s : Sg) : Used (sL nk bud L s) (sU nk bud L U s) := by
  unfold sL sU
  split
  · exact h.sign s
  · exact h
/-- A key is reused where more was signed than places were used. -/
theorem reuse_iff {L : List Sg} {U : List (Int × Int)} (h : Used L U) (k : Nat) : reuB L U k = true ↔ reu5 L (k : Int) := by
  have hP : ((L.filter fun s => s.1.1 == (k : Int)).map (·.1)).Nodup ↔ ¬ reu5 L (k : Int) := by
    rw [List.Nodup, List.pairwise_map, List.pairwise_filter, List.pairwise_iff_getElem]
    constructor
    · rintro hp ⟨i, j, hji, hi, hj, h1, h2, h3⟩
      exact hp j i hj hi hji (by simpa using h2) (by simpa using h1) (Prod.ext (h2.trans h1.symm) h3.symm)
    · intro hn i j hi hj hij h1 h2 he
      exact hn ⟨j, i, hij, hj, hi, by simpa using h2, by simpa using h1, by rw [he]⟩
  have e1 : cntL L k = ((L.filter fun s => s.1.1 == (k : Int)).map (·.1)).length := by
    rw [List.length_map]; exact List.countP_eq_length_filter
  have e2 : cntU U k = (U.filter fun p => p.1 == (k : Int)).length := List.countP_eq_length_filter
  have hn := h.u.filter fun p : Int × Int => p.1 == (k : Int)
  have hiff : ∀ p : Int × Int, p ∈ (U.filter fun p => p.1 == (k : Int)) ↔ p ∈ (L.filter fun s => s.1.1 == (k : Int)).map (·.1) := fun p => by
    simp only [List.mem_filter, List.mem_map, h.iff]
    constructor
    · rintro ⟨⟨t, ht⟩, hk⟩; exact ⟨(p, t), ⟨ht, hk⟩, rfl⟩
    · rintro ⟨⟨p', t⟩, ⟨ht, hk⟩, rfl⟩; exact ⟨⟨t, ht⟩, hk⟩
  unfold reuB
  rw [decide_eq_true_eq, e1, e2]
  constructor
  · intro hlt
    rcases Classical.em (reu5 L (k : Int)) with q | q
    · exact q
    · have := (len_within _ _ (hP.2 q) (fun x hx => (hiff x).2 hx)).1
      omega
  · intro hr
    exact (len_within _ _ hn (fun x hx => (hiff x).1 hx)).2 (fun hp => (hP.1 hp) hr)

/-- Signatures as cells. -/
def sgsC (S : List (Int × List UInt8)) : List Value := S.flatMap fun s => sigL s.1 s.2
theorem sgsC_snoc (S : List (Int × List UInt8)) (s : Int × List UInt8) : sgsC (S ++ [s]) = sgsC S ++ sigL s.1 s.2 := by simp [sgsC]
theorem sgsC_at : ∀ (S : List (Int × List UInt8)), (∀ s ∈ S, s.2.length = 32) → ∀ (i : Nat) (h : i < S.length) (j : Nat), j < 33 → (sgsC S)[i * 33 + j]? = (sigL (S[i]'h).1 (S[i]'h).2)[j]?
  | [], _, i, h, _, _ => by simp at h
  | s :: S, hl, 0, _, j, hj => by
    have := sigL_len s.1 s.2 (hl s (by simp))
    simp only [sgsC, List.flatMap_cons, Nat.zero_mul, Nat.zero_add, List.getElem_cons_zero]
    rw [List.getElem?_append_left (by omega)]
  | s :: S, hl, i + 1, h, j, hj => by
    have ih := sgsC_at S (fun x hx => hl x (by simp [hx])) i (by simpa using h) j hj
    have hs := sigL_len s.1 s.2 (hl s (by simp))
    have e : (i + 1) * 33 + j = (sigL s.1 s.2).length + (i * 33 + j) := by omega
    simp only [sgsC, List.flatMap_cons] at ih ⊢
    rw [e, List.getElem?_append_right (by omega), Nat.add_sub_cancel_left]
    exact ih
/-- Both rings (the program's with Lp, U; the document's with Ld), the signatures that were made, the signer. -/
structure DoW (W w : World) (f : Foot) (nk : Nat) (bud : Int) (Lp : List Sg) (U : List (Int × Int)) (r5 : Nat) (v5 : Value) (Ld : List Sg) (vm : Value) (S : List (Int × List UInt8)) (who : Option (Nat × Nat × Int)) : Prop where
  law : Law W w f nk bud Lp U
  ring : Ring5 w W.heap.size r5 nk bud v5 Ld
  hi5 : W.heap.size ≤ r5
  in5 : ∀ x ∈ Ld, In5 nk bud x
  used : Used Lp U
  made : w.ownsRow W.heap.size 61 33 vm S.length (sgsC S)
  sigs : ∀ s ∈ S, I64 s.1 ∧ s.2.length = 32
  has1 : 1 ≤ S.length
  who : ∀ g k n, who = some (g, k, n) → SigW w g f k n ∧ W.heap.size ≤ g ∧ k < nk ∧ 0 ≤ n ∧ n ≤ 9223372036854775807
section
variable {g k : Nat} {n i : Int} {d : List UInt8} {W w w' : World} {f : Foot} {nk : Nat} {bud : Int} {Lp Lp' Ld Ld' : List Sg} {U U' : List (Int × Int)} {r5 : Nat} {v5 v5' vm vm' : Value} {S : List (Int × List UInt8)} {who : Option (Nat × Nat × Int)}
theorem DoW.later (h : DoW W w f nk bud Lp U r5 v5 Ld vm S who) (hB : Below w.heap.size w w') : DoW W w' f nk bud Lp U r5 v5 Ld vm S who :=
  ⟨h.law.later hB, h.ring.below hB, h.hi5, h.in5, h.used, own_below h.made hB, h.sigs, h.has1, fun g k n e => by
    obtain ⟨h1, h2⟩ := h.who g k n e
    exact ⟨HB.below h1 hB (HB.lt h1), h2⟩⟩
theorem own_row_hb {base : Nat} {e : TypeId} {size n : Nat} {v : Value} {xs : List Value} (h : w.ownsRow base e size v n xs) (hg : v.ownBlock = some g) : ∃ cs, HB w g e cs := by
  obtain ⟨h1, h2⟩ := h
  rcases h2 with ⟨rfl, -⟩ | ⟨g', cap, cur, rfl, h3, h4, -⟩
  · cases hg
  · cases hg; exact ⟨cur.toList, by simpa [HB] using h4⟩
theorem own_not_mine {base : Nat} {e : TypeId} {size n : Nat} {v : Value} {xs : List Value} (h : w.ownsRow base e size v n xs) (hR : RingW w f nk bud Lp U) (hne : e ≠ 133) : ∀ g, v.ownBlock = some g → ¬ f.mine g := fun g hg => by
  obtain ⟨cs, hb⟩ := own_row_hb h hg
  exact cells_ne hb hR hne
/-- The program's ring has signed; the signer, if one did, is g with n. -/
theorem DoW.sign1 (h : DoW W w f nk bud Lp U r5 v5 Ld vm S who) (hR : RingW w' f nk bud Lp' U') (hT : Turn f.mine w w') (hu : Used Lp' U') : DoW W w' f nk bud Lp' U' r5 v5 Ld vm S who := by
  refine ⟨h.law.post hR hT, ?_, h.hi5, h.in5, hu, ?_, h.sigs, h.has1, fun g k n e => ?_⟩
  · exact h.ring.of_heap (hT.block _ h.ring.ring.lt (cells_ne h.ring.ring h.law.ring (by decide))) (fun g hg => hT.block _ (h.ring.list.lt g hg).2 (own_not_mine h.ring.list h.law.ring (by decide) g hg))
  · exact own_heap h.made (fun g hg => hT.block _ (h.made.lt g hg).2 (own_not_mine h.made h.law.ring (by decide) g hg))
  · obtain ⟨h1, h2⟩ := h.who g k n e
    exact ⟨HB.keep h1 (hT.block _ (HB.lt h1) (cells_ne h1 h.law.ring (by decide))), h2⟩
/-- A signer signed. -/
theorem DoW.sign1s (h : DoW W w f nk bud Lp U r5 v5 Ld vm S (some (g, k, n))) (hR : RingW w' f nk bud Lp' U') (hT : Turn (fun b => f.mine b ∨ b = g) w w') (hu : Used Lp' U') {n' : Int} (hn : 0 ≤ n') (hn' : n' ≤ 9223372036854775807) (hg : SigW w' g f k n') : DoW W w' f nk bud Lp' U' r5 v5 Ld vm S (some (g, k, n')) := by
  obtain ⟨h1, h2, h3, -, -⟩ := h.who g k n rfl
  refine ⟨h.law.postS h2 hR hT, ?_, h.hi5, h.in5, hu, ?_, h.sigs, h.has1, fun g1 k1 n1 e => ?_⟩
  · refine h.ring.of_heap (hT.block _ h.ring.ring.lt ?_) (fun b hb => hT.block _ (h.ring.list.lt b hb).2 ?_)
    · rintro (q | q)
      · exact cells_ne h.ring.ring h.law.ring (by decide) q
      · exact types_ne (hb_type h.ring.ring) (hb_type h1) (by decide) q
    · rintro (q | q)
      · exact own_not_mine h.ring.list h.law.ring (by decide) b hb q
      · exact own_ne h.ring.list h1 (by decide) (by rw [hb, q])
  · refine own_heap h.made (fun b hb => hT.block _ (h.made.lt b hb).2 ?_)
    rintro (q | q)
    · exact own_not_mine h.made h.law.ring (by decide) b hb q
    · exact own_ne h.made h1 (by decide) (by rw [hb, q])
  · cases e
    exact ⟨hg, h2, h3, hn, hn'⟩
/-- The document's ring has signed. -/
theorem DoW.sign2 (h : DoW W w f nk bud Lp U r5 v5 Ld vm S who) (hR : Ring5 w' W.heap.size r5 nk bud v5' Ld') (hT : Turn (fun b => b = r5 ∨ v5.ownBlock = some b) w w') (hin : ∀ x ∈ Ld', In5 nk bud x) : DoW W w' f nk bud Lp U r5 v5' Ld' vm S who := by
  have hmr : ∀ b, f.mine b → ¬ (b = r5 ∨ v5.ownBlock = some b) := fun b hb => by
    rintro (q | q)
    · exact cells_ne h.ring.ring h.law.ring (by decide) (q ▸ hb)
    · exact own_not_mine h.ring.list h.law.ring (by decide) b q hb
  have hfr : ¬ (f.r = r5 ∨ v5.ownBlock = some f.r) := by
    rintro (q | q)
    · exact types_ne (hb_type h.law.ring.ring) (hb_type h.ring.ring) (by decide) q
    · exact own_ne h.ring.list h.law.ring.ring (by decide) q.symm
  refine ⟨⟨h.law.ring.turn hT hfr (hmr _ (.inl rfl)) (hmr _ (.inr (.inl rfl))) (hmr _ (.inr (.inr rfl))), h.law.below.trans (hT.below h.law.below.size (fun b hb => ?_)), h.law.high, h.law.consW⟩, hR, h.hi5, hin, h.used, ?_, h.sigs, h.has1, fun g k n e => ?_⟩
  · rintro (q | q)
    · have := h.hi5; omega
    · have := (h.ring.list.lt b q).1; omega
  · refine own_heap h.made (fun b hb => hT.block _ (h.made.lt b hb).2 ?_)
    rintro (q | q)
    · exact own_ne h.made h.ring.ring (by decide) (by rw [hb, q])
    · obtain ⟨cs, hcs⟩ := own_row_hb h.ring.list q
      exact own_ne h.made hcs (by decide) hb.symm
  · obtain ⟨h1, h2⟩ := h.who g k n e
    refine ⟨HB.keep h1 (hT.block _ (HB.lt h1) ?_), h2⟩
    rintro (q | q)
    · exact types_ne (hb_type h1) (hb_type h.ring.ring) (by decide) q
    · exact own_ne h.ring.list h1 (by decide) q.symm
/-- A signature more. -/
theorem DoW.append (h : DoW W w f nk bud Lp U r5 v5 Ld vm S who) (ho : w'.ownsRow W.heap.size 61 33 vm' (S.length + 1) (sgsC S ++ sigL i d)) (hg : w.grownBy w' vm.ownBlock) (hi : I64 i) (hd : d.length = 32) : DoW W w' f nk bud Lp U r5 v5 Ld vm' (S ++ [(i, d)]) who := by
  have hT : Turn (fun b => vm.ownBlock = some b) w w' := ⟨hg.os, hg.tape, hg.output, hg.size, fun k hk hs => hg.block k hk (fun e => hs e.symm)⟩
  have hmr : ∀ b, f.mine b → ¬ (vm.ownBlock = some b) := fun b hb q => own_not_mine h.made h.law.ring (by decide) b q hb
  refine ⟨⟨h.law.ring.turn hT (fun q => own_ne h.made h.law.ring.ring (by decide) q.symm) (hmr _ (.inl rfl)) (hmr _ (.inr (.inl rfl))) (hmr _ (.inr (.inr rfl))), h.law.below.trans (hT.below h.law.below.size (fun b hb q => ?_)), h.law.high, h.law.consW⟩, ?_, h.hi5, h.in5, h.used, ?_, fun s hs => ?_, by simp, fun g k n e => ?_⟩
  · have := (h.made.lt b q).1; omega
  · refine h.ring.of_heap (hT.block _ h.ring.ring.lt (fun q => own_ne h.made h.ring.ring (by decide) q.symm)) (fun b hb => hT.block _ (h.ring.list.lt b hb).2 (fun q => ?_))
    obtain ⟨cs, hcs⟩ := own_row_hb h.ring.list hb
    exact own_ne h.made hcs (by decide) q.symm
  · rw [List.length_append, List.length_singleton, sgsC_snoc]; exact ho
  · rcases List.mem_append.1 hs with q | q
    · exact h.sigs s q
    · simp at q; subst q; exact ⟨hi, hd⟩
  · obtain ⟨h1, h2⟩ := h.who g k n e
    exact ⟨HB.keep h1 (hT.block _ (HB.lt h1) (fun q => own_ne h.made h1 (by decide) q.symm)), h2⟩
end
theorem Tryd.infoSig : ∃ i0 : TypeInfo, Tryd.prog.info? 61 = some i0 ∧ i0.zero = some (.agg sigZ.toArray) ∧ i0.size = 33 ∧ i0.bytes = 40 := by
  have h : (Tryd.prog.info? 61).map (fun i => (i.zero, i.size, i.bytes)) = some (some (.agg sigZ.toArray), 33, 40) := by kernel_rfl
  exact info_parts h
theorem fill_sig (i0 : TypeInfo) (hz1 : i0.size = 33) (i : Int) (d : List UInt8) (hd : d.length = 32) : Instr.fill (fun i => some (i * i0.size, i0.size)) ((Array.range (1 * i0.size)).map ((Value.agg sigZ.toArray).cells[· % (Value.agg sigZ.toArray).cells.size]!)) [(0, .agg (sigL i d).toArray)] = some (sigL i d).toArray := by
  have hl := sigL_len i d hd
  rw [hz1]
  have h := fill_fields (fun i => some (i * 33, 33)) [.agg (sigL i d).toArray] 0 0 ((Array.range (1 * 33)).map ((Value.agg sigZ.toArray).cells[· % (Value.agg sigZ.toArray).cells.size]!)) ⟨by simp [Value.cells, hl], trivial⟩ (by simp [cellsAll, Value.cells, hl])
  simpa [cellsAll, Value.cells] using h
end Go.Proofs.YtkhbogccmngmmaaDoor
