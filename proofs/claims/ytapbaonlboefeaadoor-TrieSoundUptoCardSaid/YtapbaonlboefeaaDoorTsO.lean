/- trie: wapentakelaw04.list. WRITTEN BY wip/gen/tsl.py. | trie: what Prove proves, Verify tells (plain). -/
import Derived.Test.YtapbaonlboefeaaDoorTsR
import Derived.Test.YtapbaonlboefeaaDoorGen
import Derived.Lib.ConvBytes
import Derived.Laws.AppendOwn
namespace Go.Proofs.YtapbaonlboefeaaDoor
open Go.RowKit

/-- Bytes in a block of their own, from G on. -/
def BytN (G : Nat) (w : World) (v : Value) (x : List UInt8) : Prop := ∃ (g c : Nat) (C : Array Value) (z : Nat × Nat), v = .slice (some ⟨g, 0, none⟩) x.length c ∧ x.length ≤ c ∧ c ≤ 9223372036854775807 ∧ G ≤ g ∧ w.heap[g]? = some (.cells C 5 z) ∧ ∀ (j : Nat) (u : Value), (bys x)[j]? = some u → C[j]? = some u
/-- What the operations of list's round yield. -/
def LiR (G base : Nat) (V : Value) (n : Nat) (xs : List Value) (SL : Value) (i : Int) (p1 p2 : Value) (k x : List UInt8) (vs : Nat → Value) : Nat → World → Prop
  | 0, _ => vs 0 = V
  | 1, _ => vs 1 = SL
  | 2, _ => vs 2 = .int .i64 i
  | 3, _ => vs 3 = p1
  | 4, _ => vs 4 = p1
  | 5, _ => vs 5 = .agg (bys k).toArray
  | 6, _ => vs 6 = SL
  | 7, _ => vs 7 = .int .i64 i
  | 8, _ => vs 8 = p1
  | 9, _ => vs 9 = p2
  | 10, _ => vs 10 = .string (strB x)
  | 11, w => BytN G w (vs 11) x
  | 12, w => ∃ v, BytN G w v x ∧ vs 12 = .agg (bys k ++ [v]).toArray
  | 13, w => ∃ v b', BytN G w v x ∧ vs 13 = .slice (some ⟨b', 0, none⟩) 1 1 ∧ G ≤ b' ∧ RowK w b' 34 (bys k ++ [v])
  | 14, w => ∃ v, BytN G w v x ∧ w.ownsRow base 34 33 (vs 14) (n + 1) (xs ++ (bys k ++ [v]))
  | 15, w => ∃ v, BytN G w v x ∧ w.ownsRow base 34 33 (vs 15) (n + 1) (xs ++ (bys k ++ [v]))
  | _, _ => True
/-- What they do to the world. -/
def LiT (V : Value) (i : Nat) (_v : Value) (w w' : World) : Prop := if i = 14 then w.grownBy w' V.ownBlock else Below w.heap.size w w'
theorem BytN.below {G : Nat} {w w' : World} {v : Value} {x : List UInt8} (h : BytN G w v x) (hb : Below w.heap.size w w') : BytN G w' v x := by
  obtain ⟨g, c, C, z, h1, h2, h3, h4, h5, h6⟩ := h
  exact ⟨g, c, C, z, h1, h2, h3, h4, (hb.block g (lt_of_heap h5)).trans h5, h6⟩
theorem BytN.grown {G : Nat} {w w' : World} {v : Value} {x : List UInt8} {r : Option Nat} (h : BytN G w v x) (hg : w.grownBy w' r) (hr : ∀ g, r = some g → g < G) : BytN G w' v x := by
  obtain ⟨g, c, C, z, h1, h2, h3, h4, h5, h6⟩ := h
  exact ⟨g, c, C, z, h1, h2, h3, h4, (hg.block g (lt_of_heap h5) (fun e => by have := hr g e.symm; omega)).trans h5, h6⟩
theorem BytN.slot {G : Nat} {w : World} {v : Value} {x : List UInt8} (h : BytN G w v x) : Slot w w.heap.size v x := by
  obtain ⟨g, c, C, z, h1, h2, h3, h4, h5, h6⟩ := h
  subst h1
  refine ⟨some ⟨g, 0, none⟩, c, rfl, h2, h3, by rw [bys_len]; omega, .inr ⟨_, rfl, lt_of_heap h5, fun j u hu => ?_⟩⟩
  rw [add_at]
  simp [World.cell?, h5, h6 j u hu]
theorem BytN.one {G : Nat} {w : World} {v : Value} {x : List UInt8} (h : BytN G w v x) : v.oneCell' = true := by
  obtain ⟨g, c, C, z, h1, -⟩ := h; rw [h1]; rfl
theorem BytN.conv (W : World) (x : List UInt8) (hx : x.length ≤ 1048576) {G : Nat} (hG : G ≤ W.heap.size) : BytN G (Lib.bytesWorld W 5 (strB x)) (.slice (some ⟨W.heap.size, 0, none⟩) x.length (grownCap W x.length 0 5)) x := by
  have hlt : W.heap.size < (Lib.bytesWorld W 5 (strB x)).heap.size := by rw [Lib.bytesWorld_size]; exact Nat.lt_succ_self _
  have hcell : ∀ j u, (bys x)[j]? = some u → (Lib.bytesWorld W 5 (strB x)).cell? ⟨W.heap.size, j, none⟩ = some u := fun j u hu => by
    have hj : j < x.length := by
      rcases Nat.lt_or_ge j x.length with h | h
      · exact h
      · rw [List.getElem?_eq_none (by rw [bys_len]; exact h)] at hu; cases hu
    rw [Lib.bytesWorld_cell W 5 (strB x) j hj, ← hu, bys_get, List.getElem?_eq_getElem hj]
    simp [strB, by_, List.getElem?_eq_getElem hj]
  have h := Lib.bytesWorld_at_new W 5 (strB x)
  refine ⟨_, _, _, _, rfl, grownCap_ge _ _ _ _, by have := grownCap_le_maxLen W x.length 0 5 (by unfold maxLen; omega); unfold maxLen at this; omega, hG, h, fun j u hu => ?_⟩
  have := hcell j u hu
  simpa [World.cell?, h] using this
theorem LiR.keep {G base : Nat} {V : Value} {n : Nat} {xs : List Value} {SL : Value} {ii : Int} {p1 p2 : Value} {k x : List UInt8} (hV : ∀ g, V.ownBlock = some g → g < G) : ∀ (j : Nat) {vs : Nat → Value} {i : Nat} {v : Value} {w w' : World}, i ≠ j → (j = 15 → i ≠ 14) → LiT V i v w w' → LiR G base V n xs SL ii p1 p2 k x vs j w → LiR G base V n xs SL ii p1 p2 k x (fun q => if q = i then v else vs q) j w'
  | 0, vs, i, v, w, w', hij, _, _, h => by
    show (if 0 = i then v else vs 0) = _
    rw [if_neg hij.symm]
    exact h
  | 1, vs, i, v, w, w', hij, _, _, h => by
    show (if 1 = i then v else vs 1) = _
    rw [if_neg hij.symm]
    exact h
  | 2, vs, i, v, w, w', hij, _, _, h => by
    show (if 2 = i then v else vs 2) = _
    rw [if_neg hij.symm]
    exact h
  | 3, vs, i, v, w, w', hij, _, _, h => by
    show (if 3 = i then v else vs 3) = _
    rw [if_neg hij.symm]
    exact h
  | 4, vs, i, v, w, w', hij, _, _, h => by
    show (if 4 = i then v else vs 4) = _
    rw [if_neg hij.symm]
    exact h
  | 5, vs, i, v, w, w', hij, _, _, h => by
    show (if 5 = i then v else vs 5) = _
    rw [if_neg hij.symm]
    exact h
  | 6, vs, i, v, w, w', hij, _, _, h => by
    show (if 6 = i then v else vs 6) = _
    rw [if_neg hij.symm]
    exact h
  | 7, vs, i, v, w, w', hij, _, _, h => by
    show (if 7 = i then v else vs 7) = _
    rw [if_neg hij.symm]
    exact h
  | 8, vs, i, v, w, w', hij, _, _, h => by
    show (if 8 = i then v else vs 8) = _
    rw [if_neg hij.symm]
    exact h
  | 9, vs, i, v, w, w', hij, _, _, h => by
    show (if 9 = i then v else vs 9) = _
    rw [if_neg hij.symm]
    exact h
  | 10, vs, i, v, w, w', hij, _, _, h => by
    show (if 10 = i then v else vs 10) = _
    rw [if_neg hij.symm]
    exact h
  | 11, vs, i, v, w, w', hij, _, hT, h => by
    show BytN G w' (if 11 = i then v else vs 11) x
    rw [if_neg hij.symm]
    unfold LiT at hT
    split at hT
    · exact BytN.grown h hT hV
    · exact BytN.below h hT
  | 12, vs, i, v, w, w', hij, _, hT, h => by
    obtain ⟨u, h1, h2⟩ := h
    show ∃ u, BytN G w' u x ∧ (if 12 = i then v else vs 12) = .agg (bys k ++ [u]).toArray
    rw [if_neg hij.symm]
    unfold LiT at hT
    split at hT
    · exact ⟨u, BytN.grown h1 hT hV, h2⟩
    · exact ⟨u, BytN.below h1 hT, h2⟩
  | 13, vs, i, v, w, w', hij, _, hT, h => by
    obtain ⟨u, b', h1, h2, h3, h4⟩ := h
    show ∃ u b', BytN G w' u x ∧ (if 13 = i then v else vs 13) = .slice (some ⟨b', 0, none⟩) 1 1 ∧ G ≤ b' ∧ RowK w' b' 34 (bys k ++ [u])
    rw [if_neg hij.symm]
    obtain ⟨z, h4⟩ := h4
    unfold LiT at hT
    split at hT
    · exact ⟨u, b', BytN.grown h1 hT hV, h2, h3, z, (hT.block b' (lt_of_heap h4) (fun e => by have := hV b' e.symm; omega)).trans h4⟩
    · exact ⟨u, b', BytN.below h1 hT, h2, h3, z, (hT.block b' (lt_of_heap h4)).trans h4⟩
  | 14, vs, i, v, w, w', hij, _, hT, h => by
    obtain ⟨u, h1, h2⟩ := h
    show ∃ u, BytN G w' u x ∧ w'.ownsRow base 34 33 (if 14 = i then v else vs 14) (n + 1) (xs ++ (bys k ++ [u]))
    rw [if_neg hij.symm]
    unfold LiT at hT
    rw [if_neg hij] at hT
    exact ⟨u, BytN.below h1 hT, own_below h2 hT⟩
  | 15, vs, i, v, w, w', hij, h15, hT, h => by
    obtain ⟨u, h1, h2⟩ := h
    show ∃ u, BytN G w' u x ∧ w'.ownsRow base 34 33 (if 15 = i then v else vs 15) (n + 1) (xs ++ (bys k ++ [u]))
    rw [if_neg hij.symm]
    unfold LiT at hT
    rw [if_neg (h15 rfl)] at hT
    exact ⟨u, BytN.below h1 hT, own_below h2 hT⟩
  | _ + 16, _, _, _, _, _, _, _, _, _ => trivial
theorem lit_of {V : Value} {i : Nat} {v : Value} {w w' : World} (h : i ≠ 14) (hb : Below w.heap.size w w') : LiT V i v w w' := by
  unfold LiT
  rw [if_neg h]
  exact hb
def LiI (G : Nat) (wr : World) (V : Value) (L : Nat → Bool) (w : World) : Prop := wr.grownBy w V.ownBlock ∧ (L 14 = false → Below G wr w)
theorem liI_of {G : Nat} {wr : World} {V : Value} {L : Nat → Bool} {w w' : World} {i : Nat} (h : LiI G wr V L w) (hG : G ≤ w.heap.size) (hi : i ≠ 14) (hb : Below w.heap.size w w') : LiI G wr V (fun k => if k = i then true else L k) w' := ⟨h.1.trans ⟨hb.os, hb.tape, hb.output, hb.size, fun k hk _ => hb.block k hk⟩, fun e => by
  change (if (14 : Nat) = i then true else L 14) = false at e
  rw [if_neg (fun q => hi q.symm)] at e
  exact (h.2 e).trans (hb.mono hG)⟩
theorem entC_snoc : ∀ (vs : List Value) (L : List Ent) (v : Value) (e : Ent), vs.length = L.length → entC (vs ++ [v]) (L ++ [e]) = entC vs L ++ (bys e.1 ++ [v])
  | [], [], v, e, _ => by simp [entC]
  | [], _ :: _, _, _, h => by simp at h
  | _ :: _, [], _, _, h => by simp at h
  | a :: vs, b :: L, v, e, h => by
    have := entC_snoc vs L v e (by simpa using h)
    simp only [List.cons_append, entC, this, List.append_assoc]
set_option maxRecDepth 20000 in
set_option maxHeartbeats 3200000 in
theorem list_any (w : World) (B c : Nat) (hBw : B ≤ w.heap.size) (A : Option Addr) (L : List Ent) (h : EntsR w B A L) :
    Calls Tryd.prog 11 #[.slice A L.length c] w fun e w' => Below w.heap.size w w' ∧ ∃ A' c' vs, e = .returned (.slice A' L.length c') ∧ L.length ≤ c' ∧ c' ≤ 9223372036854775807 ∧ EntsW w' w'.heap.size A' vs L := by
  have hfew := h.few
  have HE := Lib.hid h; have HW := Lib.hid hBw
  obtain ⟨n, hnn⟩ : ∃ n, n = L.length := ⟨_, rfl⟩
  rw [← hnn] at hfew ⊢
  have HNN := Lib.hid hnn
  clear h hBw hnn
  have hn' : (n : Int) ≤ 1048576 := by omega
  obtain ⟨base, hbase⟩ : ∃ b : Nat, w.heap.size = b := ⟨_, rfl⟩
  have HBASE := Lib.hid hbase
  go_enter Tryd.func11, Tryd.ntmps11
  go_wp2_with fail
  have hown0 : (w.alloc (Obj.cells #[] 34)).ownsRow base 34 33 (.slice (some ⟨base, 0, none⟩) 0 0) 0 [] := by
    have := World.ownsRow_made (base := base) (e := 34) (size := 33) w #[] 0 (by omega) (by unfold maxLen; omega) rfl
    rw [hbase] at this
    exact this
  have HB0 := Lib.hid (below_alloc1 w (.cells #[] 34))
  have HO0 := Lib.hid hown0
  clear hown0 hbase
  go_loopw [3, 4] (fun v t wr => ∃ (i : Nat) (vs : List Value), t = .int .i64 (i : Int) ∧ i ≤ n ∧ vs.length = i ∧ wr.ownsRow base 34 33 v i (entC vs (L.take i)) ∧ Lists wr wr.heap.size vs ((L.take i).map (·.2)) ∧ Mine wr base 5 vs ∧ Below w.heap.size w wr) (fun _ t _ => n - (intOf t).toNat)
  case atStart => exact ⟨0, [], rfl, Nat.zero_le _, rfl, HO0.out, Lists.nothing _ _, Mine.nothing _ _ _, HB0.out⟩
  case round =>
    obtain ⟨i, vs0, rfl, hin, hvl, hown, hlists, hmine, hBr⟩ := hrel
    have HVL := Lib.hid hvl; have HOWN := Lib.hid hown; have HLI := Lib.hid hlists; have HMI := Lib.hid hmine; have HBr := Lib.hid hBr
    clear hvl hown hlists hmine hBr
    rcases Nat.lt_or_ge i n with hlt | hge
    · have hlt' : (i : Int) < (n : Int) := by omega
      have hiL : i < L.length := by rw [← HNN.out]; exact hlt
      obtain ⟨b, o, rfl, hb, hrow⟩ := (HE.out.below (HBr.out.mono HW.out)).at_ i hiL
      have hkl := HE.out.keys _ (List.getElem_mem hiL)
      have hxs := HE.out.short _ (List.getElem_mem hiL)
      have htk : L.take (i + 1) = L.take i ++ [L[i]'hiL] := List.take_succ_eq_append_getElem hiL
      have HTK := Lib.hid htk
      have HTL : Hid ((L.take i).length = i) := Lib.hid (by rw [List.length_take]; omega)
      clear htk
      generalize (L[i]'hiL) = en at *
      obtain ⟨k, x⟩ := en
      simp only at hrow hkl hxs
      have HROW := Lib.hid hrow; have HKL := Lib.hid hkl; have HXS := Lib.hid hxs
      clear hrow hkl hxs
      have hi0 : (0 : Int) ≤ (i : Int) := by omega
      obtain ⟨m, hm⟩ : ∃ m, i = m := ⟨_, rfl⟩
      obtain ⟨xs, hxs⟩ : ∃ xs, entC vs0 (L.take i) = xs := ⟨_, rfl⟩
      rw [hxs] at HOWN
      have HX := Lib.hid hxs
      rw [show wr.ownsRow base 34 33 u3 i xs = wr.ownsRow base 34 33 u3 m xs by rw [hm]] at HOWN
      have HM := Lib.hid hm
      clear hxs hm
      obtain ⟨G, hG⟩ : ∃ g : Nat, wr.heap.size = g := ⟨_, rfl⟩
      have HGW := Lib.hid hG.symm
      have HBS : Hid (base ≤ G) := Lib.hid (by have := HBr.out.size; have := HBASE.out; omega)
      have HMB : Hid (m ≤ 1048576) := Lib.hid (by have := HM.out; omega)
      have HVG : Hid (∀ g, u3.ownBlock = some g → g < G) := Lib.hid (fun g e => by have := (HOWN.out.lt g e).2; omega)
      have HROWW : Hid (∀ (LX : Nat → Bool) (W : World), LiI G wr u3 LX W → W.rangeAt b (o + i * 33) (bys k ++ [.string (strB x)])) := Lib.hid (fun vs W hW => rng_below HROW.out ((Below.refl w.heap.size wr).grown hW.1 HBr.out.size (fun g e => by have := (HOWN.out.lt g e).1; have := HBASE.out; omega)) (by have := HW.out; omega))
      clear hb
      go_wp2_with fail
      refine wp_region_gen 28 (LiR G base u3 m xs (.slice (some ⟨b, o, none⟩) n c) (i : Int) (.pointer (some ⟨b, o + i * 33, none⟩)) (.pointer (some ⟨b, o + i * 33 + 32, none⟩)) k x) (LiI G wr u3) (fun _ => LiT u3) (by kernel_rfl) (by rfl) (by kernel_rfl) (fun i j vs v W W' hi hij hw hT hR => LiR.keep HVG.out j hij (fun e => by subst e; intro e2; subst e2; exact absurd (hw _ rfl) (by decide)) hT hR) ⟨⟨rfl, rfl, rfl, Nat.le_refl _, fun _ _ _ => rfl⟩, fun _ => hG ▸ Below.drew (Below.refl _ _)⟩ (fun j op ho LX vs W hl0 hdp hxx ho0 hlw hI => ?_) (fun vs W hI hR => ?_)
      · have hsz : G ≤ W.heap.size := by have := hI.1.size; omega
        have hdep := fun j h => hxx j (hdp j h)
        clear hG
        rcases j with _ | j
        · simp only [List.getElem?_toArray, List.getElem?_cons_zero, Option.some.injEq] at ho
          subst ho
          have e15 : vs 15 = u3 := ho0 15 _ rfl (hlw 15 _ rfl rfl)
          have HII := Lib.hid hI
          clear hI
          refine .inl ⟨rfl, fun K Q hK => ?_⟩
          simp only [putFrom, Act.put, List.setIfInBounds_toArray, List.set_cons_succ, List.set_cons_zero, Nat.reduceAdd, e15] at hK ⊢
          have HOUT := Lib.hid hK
          clear hK hdep hdp hxx ho0 hlw e15
          go_simp
          exact HOUT.out _ _ _ rfl ⟨lit_of (by decide) (Below.refl _ _), liI_of HII.out hsz (by decide) (Below.refl _ _), rfl⟩
        rcases j with _ | j
        · simp only [List.getElem?_toArray, List.getElem?_cons_succ, List.getElem?_cons_zero, Option.some.injEq, Nat.zero_add] at ho
          subst ho
          have HII := Lib.hid hI
          clear hI
          refine .inl ⟨rfl, fun K Q hK => ?_⟩
          simp only [putFrom, Act.put, List.setIfInBounds_toArray, List.set_cons_succ, List.set_cons_zero, Nat.reduceAdd] at hK ⊢
          have HOUT := Lib.hid hK
          clear hK hdep hdp hxx ho0 hlw
          go_simp
          exact HOUT.out _ _ _ rfl ⟨lit_of (by decide) (Below.refl _ _), liI_of HII.out hsz (by decide) (Below.refl _ _), rfl⟩
        rcases j with _ | j
        · simp only [List.getElem?_toArray, List.getElem?_cons_succ, List.getElem?_cons_zero, Option.some.injEq, Nat.zero_add] at ho
          subst ho
          have HII := Lib.hid hI
          clear hI
          refine .inl ⟨rfl, fun K Q hK => ?_⟩
          simp only [putFrom, Act.put, List.setIfInBounds_toArray, List.set_cons_succ, List.set_cons_zero, Nat.reduceAdd] at hK ⊢
          have HOUT := Lib.hid hK
          clear hK hdep hdp hxx ho0 hlw
          go_simp
          exact HOUT.out _ _ _ rfl ⟨lit_of (by decide) (Below.refl _ _), liI_of HII.out hsz (by decide) (Below.refl _ _), rfl⟩
        rcases j with _ | j
        · simp only [List.getElem?_toArray, List.getElem?_cons_succ, List.getElem?_cons_zero, Option.some.injEq, Nat.zero_add] at ho
          subst ho
          have e1 : vs 1 = _ := hdep 1 rfl
          have e2 : vs 2 = _ := hdep 2 rfl
          have HII := Lib.hid hI
          clear hI
          refine .inl ⟨rfl, fun K Q hK => ?_⟩
          simp only [putFrom, Act.put, List.setIfInBounds_toArray, List.set_cons_succ, List.set_cons_zero, Nat.reduceAdd, e1, e2] at hK ⊢
          have HOUT := Lib.hid hK
          clear hK hdep hdp hxx ho0 hlw e1 e2
          go_simp
          exact HOUT.out _ _ _ rfl ⟨lit_of (by decide) (Below.refl _ _), liI_of HII.out hsz (by decide) (Below.refl _ _), rfl⟩
        rcases j with _ | j
        · simp only [List.getElem?_toArray, List.getElem?_cons_succ, List.getElem?_cons_zero, Option.some.injEq, Nat.zero_add] at ho
          subst ho
          have e3 : vs 3 = _ := hdep 3 rfl
          have HII := Lib.hid hI
          clear hI
          refine .inl ⟨rfl, fun K Q hK => ?_⟩
          simp only [putFrom, Act.put, List.setIfInBounds_toArray, List.set_cons_succ, List.set_cons_zero, Nat.reduceAdd, e3] at hK ⊢
          have HOUT := Lib.hid hK
          clear hK hdep hdp hxx ho0 hlw e3
          go_simp
          exact HOUT.out _ _ _ rfl ⟨lit_of (by decide) (Below.refl _ _), liI_of HII.out hsz (by decide) (Below.refl _ _), rfl⟩
        rcases j with _ | j
        · simp only [List.getElem?_toArray, List.getElem?_cons_succ, List.getElem?_cons_zero, Option.some.injEq, Nat.zero_add] at ho
          subst ho
          have e4 : vs 4 = _ := hdep 4 rfl
          have hrw := HROWW.out LX W hI
          have HII := Lib.hid hI
          clear hI
          refine .inl ⟨rfl, fun K Q hK => ?_⟩
          simp only [putFrom, Act.put, List.setIfInBounds_toArray, List.set_cons_succ, List.set_cons_zero, Nat.reduceAdd, e4] at hK ⊢
          have HOUT := Lib.hid hK
          clear hK hdep hdp hxx ho0 hlw e4
          refine wp_load_mid 24 _ rfl b (o + i * 33) rfl (bys k) _ (rng_left hrw) Tryd.underlying24 rfl (by rw [bys_len, HKL.out]; exact Tryd.infoD) ?_
          simp only [Act.put, List.setIfInBounds_toArray, List.set_cons_succ, List.set_cons_zero]
          exact HOUT.out _ _ _ rfl ⟨lit_of (by decide) (Below.refl _ _), liI_of HII.out hsz (by decide) (Below.refl _ _), rfl⟩
        rcases j with _ | j
        · simp only [List.getElem?_toArray, List.getElem?_cons_succ, List.getElem?_cons_zero, Option.some.injEq, Nat.zero_add] at ho
          subst ho
          have HII := Lib.hid hI
          clear hI
          refine .inl ⟨rfl, fun K Q hK => ?_⟩
          simp only [putFrom, Act.put, List.setIfInBounds_toArray, List.set_cons_succ, List.set_cons_zero, Nat.reduceAdd] at hK ⊢
          have HOUT := Lib.hid hK
          clear hK hdep hdp hxx ho0 hlw
          go_simp
          exact HOUT.out _ _ _ rfl ⟨lit_of (by decide) (Below.refl _ _), liI_of HII.out hsz (by decide) (Below.refl _ _), rfl⟩
        rcases j with _ | j
        · simp only [List.getElem?_toArray, List.getElem?_cons_succ, List.getElem?_cons_zero, Option.some.injEq, Nat.zero_add] at ho
          subst ho
          have HII := Lib.hid hI
          clear hI
          refine .inl ⟨rfl, fun K Q hK => ?_⟩
          simp only [putFrom, Act.put, List.setIfInBounds_toArray, List.set_cons_succ, List.set_cons_zero, Nat.reduceAdd] at hK ⊢
          have HOUT := Lib.hid hK
          clear hK hdep hdp hxx ho0 hlw
          go_simp
          exact HOUT.out _ _ _ rfl ⟨lit_of (by decide) (Below.refl _ _), liI_of HII.out hsz (by decide) (Below.refl _ _), rfl⟩
        rcases j with _ | j
        · simp only [List.getElem?_toArray, List.getElem?_cons_succ, List.getElem?_cons_zero, Option.some.injEq, Nat.zero_add] at ho
          subst ho
          have e6 : vs 6 = _ := hdep 6 rfl
          have e7 : vs 7 = _ := hdep 7 rfl
          have HII := Lib.hid hI
          clear hI
          refine .inl ⟨rfl, fun K Q hK => ?_⟩
          simp only [putFrom, Act.put, List.setIfInBounds_toArray, List.set_cons_succ, List.set_cons_zero, Nat.reduceAdd, e6, e7] at hK ⊢
          have HOUT := Lib.hid hK
          clear hK hdep hdp hxx ho0 hlw e6 e7
          go_simp
          exact HOUT.out _ _ _ rfl ⟨lit_of (by decide) (Below.refl _ _), liI_of HII.out hsz (by decide) (Below.refl _ _), rfl⟩
        rcases j with _ | j
        · simp only [List.getElem?_toArray, List.getElem?_cons_succ, List.getElem?_cons_zero, Option.some.injEq, Nat.zero_add] at ho
          subst ho
          have e8 : vs 8 = _ := hdep 8 rfl
          have HII := Lib.hid hI
          clear hI
          refine .inl ⟨rfl, fun K Q hK => ?_⟩
          simp only [putFrom, Act.put, List.setIfInBounds_toArray, List.set_cons_succ, List.set_cons_zero, Nat.reduceAdd, e8] at hK ⊢
          have HOUT := Lib.hid hK
          clear hK hdep hdp hxx ho0 hlw e8
          go_simp
          exact HOUT.out _ _ _ rfl ⟨lit_of (by decide) (Below.refl _ _), liI_of HII.out hsz (by decide) (Below.refl _ _), rfl⟩
        rcases j with _ | j
        · simp only [List.getElem?_toArray, List.getElem?_cons_succ, List.getElem?_cons_zero, Option.some.injEq, Nat.zero_add] at ho
          subst ho
          have e9 : vs 9 = _ := hdep 9 rfl
          have hcs : W.cell? ⟨b, o + i * 33 + 32, none⟩ = some (.string (strB x)) := HROWW.out LX W hI 32 _ (by rw [List.getElem?_append_right (by rw [bys_len, HKL.out]; omega), bys_len, HKL.out]; rfl)
          have HII := Lib.hid hI
          clear hI
          refine .inl ⟨rfl, fun K Q hK => ?_⟩
          simp only [putFrom, Act.put, List.setIfInBounds_toArray, List.set_cons_succ, List.set_cons_zero, Nat.reduceAdd, e9] at hK ⊢
          have HOUT := Lib.hid hK
          clear hK hdep hdp hxx ho0 hlw e9
          go_simp
          exact HOUT.out _ _ _ rfl ⟨lit_of (by decide) (Below.refl _ _), liI_of HII.out hsz (by decide) (Below.refl _ _), rfl⟩
        rcases j with _ | j
        · simp only [List.getElem?_toArray, List.getElem?_cons_succ, List.getElem?_cons_zero, Option.some.injEq, Nat.zero_add] at ho
          subst ho
          have e10 : vs 10 = _ := hdep 10 rfl
          have hcv : (convert 9 31 (.string (strB x))).run Tryd.prog W = .ok (.slice (some ⟨W.heap.size, 0, none⟩) x.length (grownCap W x.length 0 5)) (Lib.bytesWorld W 5 (strB x)) := Lib.run_convert_string_bytes W 9 31 5 (strB x) Tryd.underlying9 Tryd.underlying31 Tryd.underlying5
          have HBN := Lib.hid (BytN.conv W x HXS.out hsz)
          have hbw : Below W.heap.size W (Lib.bytesWorld W 5 (strB x)) := ⟨rfl, rfl, rfl, by rw [Lib.bytesWorld_size]; omega, fun k hk => Lib.bytesWorld_at_old W 5 (strB x) k hk⟩
          have HBWL := Lib.hid hbw
          clear hbw
          have HII := Lib.hid hI
          clear hI
          refine .inl ⟨rfl, fun K Q hK => ?_⟩
          simp only [putFrom, Act.put, List.setIfInBounds_toArray, List.set_cons_succ, List.set_cons_zero, Nat.reduceAdd, e10] at hK ⊢
          have HOUT := Lib.hid hK
          clear hK hdep hdp hxx ho0 hlw e10
          go_simp
          exact HOUT.out _ _ _ rfl ⟨(lit_of (by decide) HBWL.out), liI_of HII.out hsz (by decide) HBWL.out, HBN.out⟩
        rcases j with _ | j
        · simp only [List.getElem?_toArray, List.getElem?_cons_succ, List.getElem?_cons_zero, Option.some.injEq, Nat.zero_add] at ho
          subst ho
          have e5 : vs 5 = _ := hdep 5 rfl
          obtain ⟨g, cg, C, z, e11, q1, q2, q3, q4, q5⟩ := (show BytN G W (vs 11) x from hdep 11 rfl)
          have HBN : Hid (BytN G W (.slice (some ⟨g, 0, none⟩) x.length cg) x) := Lib.hid ⟨g, cg, C, z, rfl, q1, q2, q3, q4, q5⟩
          have hbu := built_ent k HKL.out (some ⟨g, 0, none⟩) x.length cg
          clear q1 q2 q3 q4 q5
          have HII := Lib.hid hI
          clear hI
          refine .inl ⟨rfl, fun K Q hK => ?_⟩
          simp only [putFrom, Act.put, List.setIfInBounds_toArray, List.set_cons_succ, List.set_cons_zero, Nat.reduceAdd, e5, e11] at hK ⊢
          have HOUT := Lib.hid hK
          clear hK hdep hdp hxx ho0 hlw e5 e11
          refine wp_buildTo 34 _ rfl (bys k ++ [Value.slice (some ⟨g, 0, none⟩) x.length cg]).toArray (by (simp only [List.map_toArray, List.map_cons, List.map_nil]; exact hbu)) ?_
          simp only [Act.put, List.setIfInBounds_toArray, List.set_cons_succ, List.set_cons_zero]
          exact HOUT.out _ _ _ rfl ⟨lit_of (by decide) (Below.refl _ _), liI_of HII.out hsz (by decide) (Below.refl _ _), ⟨_, HBN.out, rfl⟩⟩
        rcases j with _ | j
        · simp only [List.getElem?_toArray, List.getElem?_cons_succ, List.getElem?_cons_zero, Option.some.injEq, Nat.zero_add] at ho
          subst ho
          obtain ⟨u, hbn, e12⟩ := (show ∃ u, BytN G W u x ∧ vs 12 = .agg (bys k ++ [u]).toArray from hdep 12 rfl)
          have HBN := Lib.hid hbn
          have HBN2 := HBN
          obtain ⟨i0, hi, hz0, hz1, hz2⟩ := info_parts Tryd.infoEnt
          have hfe := fill_ent (bys k ++ [u]) (one_len HKL.out u) i0.size hz1
          clear hbn
          have HII := Lib.hid hI
          clear hI
          refine .inl ⟨rfl, fun K Q hK => ?_⟩
          simp only [putFrom, Act.put, List.setIfInBounds_toArray, List.set_cons_succ, List.set_cons_zero, Nat.reduceAdd, e12] at hK ⊢
          have HOUT := Lib.hid hK
          clear hK hdep hdp hxx ho0 hlw e12
          refine wp_buildSlice 26 34 1 _ rfl (bys k ++ [u]).toArray i0 (.agg zent.toArray) Tryd.underlying26 hi hz0 (by rw [hz1]; decide) (by rw [hz1]; decide) (by (simp only [List.map_toArray, List.map_cons, List.map_nil]; exact hfe)) ?_
          simp only [Act.put, List.setIfInBounds_toArray, List.set_cons_succ, List.set_cons_zero]
          exact HOUT.out _ _ _ rfl ⟨(lit_of (by decide) (below_alloc1 W _)), liI_of HII.out hsz (by decide) (below_alloc1 W _), ⟨u, W.heap.size, HBN.out.below (below_alloc1 W _), rfl, hsz, RowK.new W _ (bys k ++ [u]) _⟩⟩
        rcases j with _ | j
        · simp only [List.getElem?_toArray, List.getElem?_cons_succ, List.getElem?_cons_zero, Option.some.injEq, Nat.zero_add] at ho
          subst ho
          have e0 : vs 0 = _ := hdep 0 rfl
          obtain ⟨u, b', hbn, e13, hb', hrk⟩ := (show ∃ u b', BytN G W u x ∧ vs 13 = .slice (some ⟨b', 0, none⟩) 1 1 ∧ G ≤ b' ∧ RowK W b' 34 (bys k ++ [u]) from hdep 13 rfl)
          have HBN := Lib.hid hbn
          have HOW := Lib.hid (own_below HOWN.out (HGW.out ▸ hI.2 hl0))
          have HRK := Lib.hid hrk
          obtain ⟨i0, hi, hz0, hz1, hz2⟩ := info_parts Tryd.infoEnt
          have hone := HBN.out.one
          clear hbn hrk
          have HII := Lib.hid hI
          clear hI
          refine .inl ⟨rfl, fun K Q hK => ?_⟩
          simp only [putFrom, Act.put, List.setIfInBounds_toArray, List.set_cons_succ, List.set_cons_zero, Nat.reduceAdd, e0, e13] at hK ⊢
          have HOUT := Lib.hid hK
          clear hK hdep hdp hxx ho0 hlw e0 e13
          refine wp_append_own _ (.tmp 12) (.tmp 25) 26 rfl base 34 i0 (.agg zent.toArray) 33 56 Tryd.underlying26 hi hz0 hz1 hz2 zent_len (by decide) u3 m xs rfl HOW.out ⟨b', 0, none⟩ 1 1 (bys k ++ [u]) rfl (one_len HKL.out u) (fun j q hq => by rw [add_at]; obtain ⟨z, hz⟩ := HRK.out; simp [World.cell?, hz, hq]) (fun q hq => by
              rcases List.mem_append.1 hq with h | h
              · exact bys_one k q h
              · rw [List.mem_singleton.1 h]; exact hone) (by have := HMB.out; unfold maxLen; omega) (by have := HMB.out; omega) (by have := HBS.out; have := hsz; have := HGW.out; omega) ?_
          intro v' w' ho hg _
          refine HOUT.out _ _ _ rfl ⟨(show LiT u3 14 v' W w' from by unfold LiT; rw [if_pos rfl]; exact hg), ⟨HII.out.1.trans hg, fun e => by cases e⟩, ⟨u, HBN.out.grown hg HVG.out, ho⟩⟩
        rcases j with _ | j
        · simp only [List.getElem?_toArray, List.getElem?_cons_succ, List.getElem?_cons_zero, Option.some.injEq, Nat.zero_add] at ho
          subst ho
          obtain ⟨u, hbn, hown⟩ := (show ∃ u, BytN G W u x ∧ W.ownsRow base 34 33 (vs 14) (m + 1) (xs ++ (bys k ++ [u])) from hdep 14 rfl)
          have HF := Lib.hid (And.intro hbn hown)
          clear hbn hown
          have HII := Lib.hid hI
          clear hI
          refine .inl ⟨rfl, fun K Q hK => ?_⟩
          simp only [putFrom, Act.put, List.setIfInBounds_toArray, List.set_cons_succ, List.set_cons_zero, Nat.reduceAdd] at hK ⊢
          have HOUT := Lib.hid hK
          clear hK hdep hdp hxx ho0 hlw
          go_simp
          exact HOUT.out _ _ _ rfl ⟨lit_of (by decide) (Below.refl _ _), liI_of HII.out hsz (by decide) (Below.refl _ _), ⟨u, HF.out.1, HF.out.2⟩⟩
        exact absurd ho (by simp)
      · obtain ⟨u, hbn, ho⟩ := (show ∃ u, BytN G W u x ∧ W.ownsRow base 34 33 (vs 15) (m + 1) (xs ++ (bys k ++ [u])) from hR 15 (by decide))
        have hg := hI.1
        have HF := Lib.hid (show W.ownsRow base 34 33 (vs 15) (i + 1) (entC (vs0 ++ [u]) (L.take (i + 1))) ∧ Lists W W.heap.size (vs0 ++ [u]) ((L.take (i + 1)).map (·.2)) ∧ Mine W base 5 (vs0 ++ [u]) ∧ Below w.heap.size w W from by
          rw [HTK.out, entC_snoc _ _ _ _ (by rw [HVL.out, HTL.out]), HX.out, HM.out]
          have hty := own_type HOWN.out
          obtain ⟨A', c', rfl, s1, s2, s3⟩ := hbn.slot
          obtain ⟨g', c'', C', z', e', t1, t2, t3, t4, t5⟩ := hbn
          refine ⟨ho, ?_, ?_, HBr.out.trans ((Below.refl w.heap.size wr).grown hg HBr.out.size (fun g e => by have := (HOWN.out.lt g e).1; have := HBASE.out; omega))⟩
          · rw [List.map_append]
            rw [← HM.out]
            exact ((HLI.out.grown HMI.out hg hty (by decide)).wide hg.size).snoc s1 s2 s3
          · refine (HMI.out.grown hg hty (by decide)).snoc (fun ad e => ?_)
            cases e'
            cases e
            exact ⟨Nat.le_trans HBS.out t3, _, _, t4⟩)
        clear hbn ho hg hR hI
        simp only [putFrom, Act.put, List.setIfInBounds_toArray, List.set_cons_succ, List.set_cons_zero, Nat.reduceAdd]
        generalize vs 0 = q0 at *; generalize vs 1 = q1 at *; generalize vs 2 = q2 at *; generalize vs 3 = q3 at *; generalize vs 4 = q4 at *; generalize vs 5 = q5 at *; generalize vs 6 = q6 at *; generalize vs 7 = q7 at *
        generalize vs 8 = q8 at *; generalize vs 9 = q9 at *; generalize vs 10 = q10 at *; generalize vs 11 = q11 at *; generalize vs 12 = q12 at *; generalize vs 13 = q13 at *; generalize vs 14 = q14 at *; generalize vs 15 = q15 at *
        go_wp2
        go_roundw
        case rel => exact ⟨i + 1, vs0 ++ [u], by go_num, by omega, by rw [List.length_append, HVL.out]; rfl, HF.out.1, HF.out.2.1, HF.out.2.2.1, HF.out.2.2.2⟩
        case measure => simp [intOf]; omega
    · have hge' : (n : Int) ≤ (i : Int) := by omega
      obtain rfl : i = n := by omega
      have htk : L.take i = L := List.take_of_length_le (by rw [← HNN.out]; exact Nat.le_refl _)
      rw [htk] at HOWN HLI
      obtain ⟨A', c', he, h1, h2, -, h4⟩ := own_slice HOWN.out
      have HFIN := Lib.hid (show EntsW wr wr.heap.size A' vs0 L from ⟨by rw [HVL.out, HNN.out], by rw [← HNN.out]; exact h4, HLI.out, HE.out.keys, fun e he => by have := HE.out.short e he; omega⟩)
      clear h4 htk
      subst he
      go_wp2
      go_ret
      exact ⟨HBr.out, A', c', vs0, rfl, h1, h2, HFIN.out⟩
end Go.Proofs.YtapbaonlboefeaaDoor
namespace Go.Proofs.YtapbaonlboefeaaDoor
open Go.RowKit

theorem pair_len (a b : List UInt8) : (joinF [a, b]).length = 24 + a.length + b.length := by
  rw [joinF_len]; simp [partsOf, part, b8_len]; omega
theorem split_pair (a b : List UInt8) (ha : a.length < 2 ^ 64) (hb : b.length < 2 ^ 64) : splitF (joinF [a, b]) = some [a, b] :=
  split_join _ (fun l hl => by
    rcases List.mem_cons.1 hl with rfl | hl
    · exact ha
    · rw [List.mem_singleton.1 hl]; exact hb) (by simp)
theorem split_nil : splitF (joinF []) = some [] := split_join [] (by simp) (by decide)
theorem nil_len : (joinF []).length = 8 := by rw [joinF_len]; rfl
theorem dec_enc (T : List UInt8) (E : List Ent) (h32 : T.length % 32 = 0) (hT : T.length ≤ 8192) (hf : E.length < 2) (hk : Keys E) (hs : ∀ e ∈ E, e.2.length ≤ 1099511627776) : decF (encF T E) = some (T, E) := by
  match E with
  | [] =>
    unfold decF encF
    rw [split_pair _ _ (by omega) (by rw [nil_len]; decide)]
    simp only [h32, hT, and_self, if_true]
    unfold endOf
    rw [split_nil]
    rfl
  | [(k, v)] =>
    have h1 := hk (k, v) (by simp)
    have h2 := hs (k, v) (by simp)
    simp only at h1 h2
    unfold decF encF
    rw [split_pair _ _ (by omega) (by rw [pair_len]; simp only; omega)]
    simp only [h32, hT, and_self, if_true]
    unfold endOf
    rw [split_pair _ _ (by omega) (by omega)]
    simp only [h1, if_true]
    rfl
  | _ :: _ :: _ => simp at hf; omega
theorem ver_complete (L : List Ent) (key : List UInt8) (hm : MayP L) (hk : Keys L) (hkey : key.length = 32) (hs : ∀ e ∈ L, e.2.length ≤ 1099511627776) : verF (rootT L) key (proofT L key) = ((getT L key).getD [], (getT L key).isSome, 0) := by
  have hfew := endT_few key hkey 256 L (Nat.le_refl _) hm hk (on_0 hk hkey)
  have hsl := sibT_len key 256 L
  have hfl := flat_len (sibT key 256 L) hsl.2
  have hd : decF (proofT L key) = some ((sibT key 256 L).flatten, endT key 256 L) :=
    dec_enc _ _ (by omega) (by omega) hfew.1 (fun e he => hk e (endT_sub key 256 L e he)) (fun e he => hs e (endT_sub key 256 L e he))
  have hr : readF key (proofT L key) = .inr ((sibT key 256 L).flatten, endT key 256 L) := by
    unfold readF
    rw [hd]
    simp only
    rw [if_pos]
    intro e he
    have h1 := hfew.2 e he
    have h3 : (sibT key 256 L).flatten.length / 32 = (sibT key 256 L).length := by omega
    rw [h3]
    exact (pfx_bits (hk e (endT_sub key 256 L e he)) hkey _ (by omega)).1 (by rw [show 256 - 256 + (sibT key 256 L).length = (sibT key 256 L).length from by omega] at h1; exact h1)
  have ht := trail_top key 256 L (Nat.le_refl _)
  unfold verF
  rw [hr]
  simp only
  rw [sibsT_flat _ hsl.2, show topT key 0 (sibT key 256 L) (endT key 256 L) = digT 256 L from ht, rootT, if_pos hm, if_pos rfl, told_get key hkey L hm hk]
  cases getT L key <;> rfl
theorem read_short (key : List UInt8) : readF key [] = .inl 5 := by
  unfold readF decF
  rw [show splitF [] = none from by decide]
theorem ver_short (root key : List UInt8) : verF root key [] = ([], false, 5) := by
  unfold verF
  rw [read_short]
end Go.Proofs.YtapbaonlboefeaaDoor
