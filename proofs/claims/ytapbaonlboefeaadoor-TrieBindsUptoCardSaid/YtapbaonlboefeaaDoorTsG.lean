/- trie: Verify. WRITTEN BY wip/gen/tsg.py. -/
import Derived.Test.YtapbaonlboefeaaDoorTsF
import Derived.Stop.BytesEq
namespace Go.Proofs.YtapbaonlboefeaaDoor
open Go.RowKit

theorem neq_d (W : World) (a b : List UInt8) (ha : a.length = 32) (hb : b.length = 32) : (binOp .neq 24 (.agg (bys a).toArray) (.agg (bys b).toArray)).run Tryd.prog W = .ok (.bool (!(a == b))) W := by
  have h : (Op.equalIn 10000 24 (.agg (bys a).toArray) (.agg (bys b).toArray)).run Tryd.prog W = .ok (a == b) W := run_equalIn_bytes W 9998 24 5 32 Tryd.underlying24 Tryd.underlying5 (fun _ => by kernel_rfl) a b ha hb
  rw [run_neq_struct, h]; simp [Result.andThen]
theorem eql_d (W : World) (a b : List UInt8) (ha : a.length = 32) (hb : b.length = 32) : (binOp .eql 24 (.agg (bys a).toArray) (.agg (bys b).toArray)).run Tryd.prog W = .ok (.bool (a == b)) W :=
  run_eql_bytes W 24 5 32 Tryd.underlying24 Tryd.underlying5 (fun _ => by kernel_rfl) a b ha hb
/-- What a proof proves: the value, whether there is one, what is wrong. -/
def verF (root key b : List UInt8) : List UInt8 × Bool × Nat :=
  match readF key b with
  | .inl k => ([], false, k)
  | .inr (T, E) => if topT key 0 (sibsT T) E = root then (match toldT E key with | some v => (v, true, 0) | none => ([], false, 0)) else ([], false, 18)
/-- What Verify answers: the value lies in new memory. -/
def VerW (w : World) (r : List UInt8 × Bool × Nat) (e : Ending) (w' : World) : Prop :=
  Below w.heap.size w w' ∧ ∃ A c, e = .returned (.tuple #[.slice A r.1.length c, .bool r.2.1, .int .i64 (r.2.2 : Int)]) ∧ Slot w' w'.heap.size (.slice A r.1.length c) r.1 ∧ ∀ ad : Addr, A = some ad → w.heap.size ≤ ad.block
theorem readF_err {key b : List UInt8} {k : Nat} (h : readF key b = .inl k) : k = 5 ∨ k = 19 := by
  unfold readF at h
  split at h
  · cases h; exact .inl rfl
  · split at h <;> cases h
    exact .inr rfl
theorem readF_ok {key b : List UInt8} {T : List UInt8} {E : List Ent} (h : readF key b = .inr (T, E)) : T.length ≤ 8192 ∧ T.length % 32 = 0 ∧ E.length < 2 ∧ ∀ e ∈ E, Fit key (T.length / 32) e := by
  unfold readF at h
  split at h
  · cases h
  · rename_i T' E' hd
    split at h
    · rename_i hf
      cases h
      obtain ⟨h1, h2, h3⟩ := decF_len hd
      exact ⟨h1, h2, h3, hf⟩
    · cases h
theorem slot_nil (w : World) : Slot w w.heap.size (.slice none 0 0) [] := ⟨none, 0, rfl, Nat.le_refl _, by decide, Sees.nothing _ _ _ _⟩
theorem val_mem {w : World} {B b o : Nat} {vs : List Value} {e : Ent} {v : Value} (h : EntsW w B (some ⟨b, o, none⟩) vs [e]) (hc : w.cell? ⟨b, o + 32, none⟩ = some v) : v ∈ vs := by
  obtain ⟨ad, hA, hb, hx⟩ := h.sees.some_ (by simp)
  cases hA
  have hkl := h.keys e (by simp)
  match vs, h.len, hx with
  | [v'], _, hx =>
    have := hx 32 v' (by simp [entC, bys_len, hkl])
    rw [Addr.add_mid, hc] at this
    cases this
    simp
theorem rng_below {w w' : World} {B b o : Nat} {xs : List Value} (h : w.rangeAt b o xs) (hb : Below B w w') (hlt : b < B) : w'.rangeAt b o xs := fun j u hu => (hb.cell (p := ⟨b, o + j, none⟩) hlt).trans (h j u hu)
set_option maxRecDepth 20000 in
set_option maxHeartbeats 1600000 in
theorem ver_bad (w : World) (hk : Consts w) (root key : List UInt8) (hroot : root.length = 32) (hkey : key.length = 32) (A : Option Addr) (c : Nat) (b : List UInt8) (hs : Sees w w.heap.size 1 A b.length (bys b)) (hc : b.length ≤ c) (hcm : c ≤ 9223372036854775807) (hm : b.length ≤ 1099511627776) (k : Nat) (hd : readF key b = .inl k) :
    Calls Tryd.prog 18 #[.agg (bys root).toArray, .agg (bys key).toArray, .slice A b.length c] w (VerW w ([], false, k)) := by
  have hb0 := HB.new w 24 (bys root)
  have hB0 := below_alloc1 w (.cells (bys root).toArray 24)
  have hq0 : (w.alloc (.cells (bys root).toArray 24)).heap.size = w.heap.size + 1 := by simp
  generalize hw0 : w.alloc (.cells (bys root).toArray 24) = w0 at *
  have hb1 := HB.new w0 24 (bys key)
  have hB1 := below_alloc1 w0 (.cells (bys key).toArray 24)
  have hq1 : (w0.alloc (.cells (bys key).toArray 24)).heap.size = w.heap.size + 2 := by simp; omega
  rw [hq0] at hb1
  generalize hw1 : w0.alloc (.cells (bys key).toArray 24) = w1 at *
  have HRT := Lib.hid (hb0.below hB1 (by omega))
  have HKE := Lib.hid hb1
  have HB1 := Lib.hid (hB0.trans (hB1.mono hB0.size))
  have HQ1 := Lib.hid hq1
  have HRD := Lib.hid (read_any w1 key hkey A c b ((hs.below hB0).wide hB0.size |>.below hB1 |>.wide hB1.size) hc hcm hm)
  have HKY := Lib.hid hkey; have HRO := Lib.hid hroot
  have HKC := Lib.hid hk
  have HKI : Hid ((Tryd.prog.info? 24).map (·.size) = some (bys key).toArray.size) := dig_info hkey
  have hk1 := hb1
  clear hb0 hB0 hb1 hB1 hs hc hcm hm hkey hroot hk
  rw [hd] at HRD
  have hkk := readF_err hd
  have hkn : ((k : Int) != 0) = true := by simp; omega
  clear hkk hd
  go_enter Tryd.func18, Tryd.ntmps18
  go_wp2_with (refine wpList_load_row rfl 24 _ rfl (w.heap.size + 1) rfl 24 (bys key).toArray (0, 0) _ hk1 Tryd.underlying24 rfl HKI.out ?_)
  clear hw0 hw1 hk1
  refine HRD.out.mono ?_
  rintro e w2 ⟨hB2, A1, n1, c1, A2, n2, c2, rfl⟩
  have hBw := HB1.out.trans (hB2.mono HB1.out.size)
  clear HRD hB2
  have hz := Tryd.zeroTrail
  have hb9 := HB.new w2 62 zTr
  have hBw3 := hBw.alloc hBw.size (.cells zTr.toArray 62)
  have hw3' : w2.alloc (.cells #[.slice none 0 0, .slice none 0 0] 62) = w2.alloc (.cells zTr.toArray 62) := rfl
  have hsw := hBw.size
  generalize hw3 : w2.alloc (.cells zTr.toArray 62) = w3 at *
  have hc0z : w3.cell? ⟨w2.heap.size, 0, none⟩ = some (.slice none 0 0) := by rw [hb9.cell]; rfl
  have hf0z := hb9.frozen 0
  have hc1z : w3.cell? ⟨w2.heap.size, 1, none⟩ = some (.slice none 0 0) := by rw [hb9.cell]; rfl
  have hf1z := hb9.frozen 1
  go_wp2
  go_ret3
  exact ⟨(hBw3.setCell (by simpa using hsw) _).setCell (by simpa using hsw) _, none, 0, rfl, slot_nil _, fun _ e => by cases e⟩
def VerR (_g9 : Nat) (ag ak ar : List Value) (P : List (List UInt8)) (P0 : List UInt8) (ne : Bool) : Nat → Value → World → Prop
  | 0, v, _ => v = .agg ag.toArray
  | 1, v, _ => v = .agg ak.toArray
  | 2, v, w => ∃ ad c vs, v = .slice (some ad) P.length c ∧ P.length ≤ c ∧ c ≤ 9223372036854775807 ∧ Sees w w.heap.size 1 (some ad) P.length vs ∧ Lists w w.heap.size vs P
  | 3, v, w => ∃ ad A c, v = .pointer (some ad) ∧ ad.block < w.heap.size ∧ w.cell? ad = some (.slice A P0.length c) ∧ Slot w w.heap.size (.slice A P0.length c) P0
  | 4, v, w => Slot w w.heap.size v P0
  | 5, v, _ => v = .agg (bys (shaF P0)).toArray
  | 6, v, _ => v = .agg ar.toArray
  | 7, v, _ => v = .bool ne
  | _, _, _ => True
theorem VerR.keep {g9 : Nat} {ag ak ar : List Value} {P : List (List UInt8)} {P0 : List UInt8} {ne : Bool} : ∀ (j : Nat) {v : Value} {w w' : World}, Below w.heap.size w w' → VerR g9 ag ak ar P P0 ne j v w → VerR g9 ag ak ar P P0 ne j v w'
  | 0, _, _, _, _, h => h
  | 1, _, _, _, _, h => h
  | 2, _, _, _, hB, h => by
    obtain ⟨ad, c, vs, h1, h2, h3, h4, h5⟩ := h
    exact ⟨ad, c, vs, h1, h2, h3, (h4.below hB).wide hB.size, (h5.below hB).wide hB.size⟩
  | 3, _, _, _, hB, h => by
    obtain ⟨ad, A, c, h1, h2, h3, h4⟩ := h
    exact ⟨ad, A, c, h1, Nat.lt_of_lt_of_le h2 hB.size, (hB.cell h2).trans h3, (h4.below hB).wide hB.size⟩
  | 4, _, _, _, hB, h => (Slot.below (show Slot _ _ _ _ from h) hB).wide hB.size
  | 5, _, _, _, _, h => h
  | 6, _, _, _, _, h => h
  | 7, _, _, _, _, h => h
  | _ + 8, _, _, _, _, _ => trivial
set_option maxRecDepth 20000 in
set_option maxHeartbeats 1600000 in
theorem ver_ok (w : World) (hk : Consts w) (root key : List UInt8) (hroot : root.length = 32) (hkey : key.length = 32) (A : Option Addr) (c : Nat) (b : List UInt8) (hs : Sees w w.heap.size 1 A b.length (bys b)) (hc : b.length ≤ c) (hcm : c ≤ 9223372036854775807) (hm : b.length ≤ 1099511627776) (T : List UInt8) (E : List Ent) (hd : readF key b = .inr (T, E)) (r : List UInt8 × Bool × Nat) (hr : r = if topT key 0 (sibsT T) E = root then (match toldT E key with | some v => (v, true, 0) | none => ([], false, 0)) else ([], false, 18)) :
    Calls Tryd.prog 18 #[.agg (bys root).toArray, .agg (bys key).toArray, .slice A b.length c] w (VerW w r) := by
  have HRR := Lib.hid hr
  clear hr
  have hb0 := HB.new w 24 (bys root)
  have hB0 := below_alloc1 w (.cells (bys root).toArray 24)
  have hq0 : (w.alloc (.cells (bys root).toArray 24)).heap.size = w.heap.size + 1 := by simp
  generalize hw0 : w.alloc (.cells (bys root).toArray 24) = w0 at *
  have hb1 := HB.new w0 24 (bys key)
  have hB1 := below_alloc1 w0 (.cells (bys key).toArray 24)
  have hq1 : (w0.alloc (.cells (bys key).toArray 24)).heap.size = w.heap.size + 2 := by simp; omega
  rw [hq0] at hb1
  generalize hw1 : w0.alloc (.cells (bys key).toArray 24) = w1 at *
  have HRT := Lib.hid (hb0.below hB1 (by omega))
  have HKE := Lib.hid hb1
  have HB1 := Lib.hid (hB0.trans (hB1.mono hB0.size))
  have HQ1 := Lib.hid hq1
  have HRD := Lib.hid (read_any w1 key hkey A c b ((hs.below hB0).wide hB0.size |>.below hB1 |>.wide hB1.size) hc hcm hm)
  have HKY := Lib.hid hkey; have HRO := Lib.hid hroot
  have HKC := Lib.hid hk
  have HKI : Hid ((Tryd.prog.info? 24).map (·.size) = some (bys key).toArray.size) := dig_info hkey
  have hk1 := hb1
  clear hb0 hB0 hb1 hB1 hs hc hcm hm hkey hroot hk
  rw [hd] at HRD
  obtain ⟨hT1, hT2, hE2, -⟩ := readF_ok hd
  have HT1 := Lib.hid hT1; have HT2 := Lib.hid hT2; have HE2 := Lib.hid hE2
  clear hd hT1 hT2 hE2
  go_enter Tryd.func18, Tryd.ntmps18
  go_wp2_with (refine wpList_load_row rfl 24 _ rfl (w.heap.size + 1) rfl 24 (bys key).toArray (0, 0) _ hk1 Tryd.underlying24 rfl HKI.out ?_)
  clear hw0 hw1 hk1
  refine HRD.out.mono ?_
  rintro e w2 ⟨hB2, As, cs, A3, c3, vs0, rfl, hS, hc3, hcm3, hents, hAs, hnew⟩
  have hBw := HB1.out.trans (hB2.mono HB1.out.size)
  have HRT2 := Lib.hid (HRT.out.below hB2 HRT.out.lt)
  have HKE2 := Lib.hid (HKE.out.below hB2 HKE.out.lt)
  have HS := Lib.hid hS; have HEN := Lib.hid hents; have HAS := Lib.hid hAs; have HNW := Lib.hid hnew; have HC3 := Lib.hid hc3; have HBW := Lib.hid hBw
  have hz := Tryd.zeroTrail
  have hb9 := HB.new w2 62 zTr
  have hB9 := below_alloc1 w2 (.cells zTr.toArray 62)
  have hw3' : w2.alloc (.cells #[.slice none 0 0, .slice none 0 0] 62) = w2.alloc (.cells zTr.toArray 62) := rfl
  have hz3 : (w2.alloc (.cells zTr.toArray 62)).heap.size = w2.heap.size + 1 := by simp
  generalize hw3 : w2.alloc (.cells zTr.toArray 62) = w3 at *
  have hc0z : w3.cell? ⟨w2.heap.size, 0, none⟩ = some (.slice none 0 0) := by rw [hb9.cell]; rfl
  have hf0z := hb9.frozen 0
  have hc1z : w3.cell? ⟨w2.heap.size, 1, none⟩ = some (.slice none 0 0) := by rw [hb9.cell]; rfl
  have hf1z := hb9.frozen 1
  obtain ⟨nt, hnt⟩ : ∃ n, n = T.length := ⟨_, rfl⟩
  obtain ⟨m, hm⟩ : ∃ n, n = E.length := ⟨_, rfl⟩
  have HNT := Lib.hid hnt; have HM := Lib.hid hm
  rw [← hnt] at HS ⊢
  rw [← hm] at HC3 ⊢
  have HX : Hid (∀ W, (w3.setCell ⟨w2.heap.size, 0, none⟩ (.slice As nt cs)).setCell ⟨w2.heap.size, 1, none⟩ (.slice A3 m c3) = W → HB W w2.heap.size 62 [.slice As nt cs, .slice A3 m c3] ∧ Below w2.heap.size w2 W) := Lib.hid (fun W hW => by
    subst hW
    exact ⟨(hb9.set_ 0 _).set_ 1 _, (hB9.setCell (by simp) _).setCell (by simp) _⟩)
  clear hB2 hS hents hAs hnew hc3 hBw hb9 hB9 hnt hm HRD
  go_wp2_with fail
  clear hw3 hw3' hc0z hf0z hc1z hf1z hz
  obtain ⟨h1, h2⟩ := HX.out _ rfl
  clear HX
  generalize (w3.setCell ⟨w2.heap.size, 0, none⟩ (.slice As nt cs)).setCell ⟨w2.heap.size, 1, none⟩ (.slice A3 m c3) = w4 at *
  obtain ⟨g9, hg9⟩ : ∃ g : Nat, w2.heap.size = g := ⟨_, rfl⟩
  have HG9 := Lib.hid hg9
  rw [hg9] at h1 ⊢
  have H9 := Lib.hid h1
  have HB4 := Lib.hid h2
  have HRT4 := Lib.hid (HRT2.out.below h2 HRT2.out.lt)
  have HKE4 := Lib.hid (HKE2.out.below h2 HKE2.out.lt)
  have HBW4 := Lib.hid (HBW.out.trans (h2.mono HBW.out.size))
  have HS4 := Lib.hid ((HS.out.below h2).wide h2.size)
  have HEN4 := Lib.hid ((HEN.out.below h2).wide h2.size)
  have HK4 := Lib.hid (HKC.out.below HBW4.out HKC.out.2.2)
  clear h1 h2 hg9 HRT2 HKE2 HS HEN
  obtain ⟨P, hP⟩ : ∃ P, preT key 0 (sibsT T) E = P := ⟨_, rfl⟩
  have hPl := preT_len key 0 (sibsT T) E
  have HPRE : Hid (∀ W, Below w4.heap.size w4 W → Calls Tryd.prog 35 #[.agg #[.slice As nt cs, .slice A3 m c3], .agg (bys key).toArray] W (PreP W P)) := Lib.hid (fun W hW => by
    have := pre_any W key HKY.out (HK4.out.below hW HK4.out.2.2) T HT2.out HT1.out As cs (by have q := (HS4.out.below hW).wide hW.size; rw [HNT.out] at q; exact q) w4.heap.size hW.size A3 c3 vs0 E (HEN4.out.below hW) HE2.out (by rw [← HM.out]; exact HC3.out) hcm3
    rw [hP, ← HNT.out, ← HM.out] at this
    exact this)
  rw [hP] at hPl
  have hP1 : 0 < P.length := by omega
  have HPL := Lib.hid hP1
  obtain ⟨P0, hP0⟩ : ∃ p, P[0]'hP1 = p := ⟨_, rfl⟩
  have HP0 := Lib.hid hP0
  have htop : topT key 0 (sibsT T) E = shaF P0 := by
    unfold topT
    rw [hP, ← hP0]
    cases P with
    | nil => simp at hP1
    | cons x r => rfl
  have hP0L : P0.length ≤ 1152921504606846974 := by
    have he := endF_len E HEN4.out.keys HEN4.out.short
    have hs32 := sibsT_32 T
    rw [← hP0]
    cases hq : sibsT T with
    | nil => rw [hq] at hP; subst hP; simp only [preT, List.getElem_cons_zero]; omega
    | cons s ss =>
      rw [hq] at hP hs32; subst hP
      simp only [preT, List.getElem_cons_zero]
      rw [brT_len (shaF_len _) (hs32 s (by simp))]; omega
  have HP0L := Lib.hid hP0L
  obtain ⟨ne, hne⟩ : ∃ b : Bool, (!(shaF P0 == root)) = b := ⟨_, rfl⟩
  have HNE := Lib.hid hne
  have HTOP := Lib.hid htop
  clear hP hPl hP0 htop hP0L hne
  refine wp_region_inv 46 (VerR g9 [.slice As nt cs, .slice A3 m c3] (bys key) (bys root) P P0 ne) (Below w4.heap.size w4) (fun _ W1 W2 => Below W1.heap.size W1 W2) (by kernel_rfl) (by rfl) (by kernel_rfl) (fun i j v W W' _ _ _ hT hR => VerR.keep j hT hR) (fun _ _ _ e h => h.trans (e.mono h.size)) (Below.drew (Below.refl _ _)) (fun j o ho vs W hI hdep => ?_) (fun vs W hI hR => ?_)
  · rcases j with _ | j
    · simp only [List.getElem?_toArray, List.getElem?_cons_zero, Option.some.injEq] at ho
      subst ho
      refine .inl ⟨rfl, fun K Q hK => ?_⟩
      simp only [putFrom, Act.put, List.setIfInBounds_toArray, List.set_cons_succ, List.set_cons_zero, Nat.reduceAdd] at hK ⊢
      have HOUT := Lib.hid hK
      clear hK hdep
      refine wp_load_mid 62 _ rfl g9 0 rfl ([.slice As nt cs, .slice A3 m c3]) _ (H9.out.below hI H9.out.lt).rngT Tryd.underlying62 rfl (by kernel_rfl) ?_
      simp only [Act.put, List.setIfInBounds_toArray, List.set_cons_succ, List.set_cons_zero]
      exact HOUT.out _ _ _ rfl ⟨(Below.refl _ _), rfl⟩
    rcases j with _ | j
    · simp only [List.getElem?_toArray, List.getElem?_cons_succ, List.getElem?_cons_zero, Option.some.injEq, Nat.zero_add] at ho
      subst ho
      refine .inl ⟨rfl, fun K Q hK => ?_⟩
      simp only [putFrom, Act.put, List.setIfInBounds_toArray, List.set_cons_succ, List.set_cons_zero, Nat.reduceAdd] at hK ⊢
      have HOUT := Lib.hid hK
      clear hK hdep
      refine wp_load_mid 24 _ rfl (w.heap.size + 1) 0 rfl (bys key) _ (HKE4.out.below hI HKE4.out.lt).rngT Tryd.underlying24 rfl (by rw [bys_len, HKY.out]; exact Tryd.infoD) ?_
      simp only [Act.put, List.setIfInBounds_toArray, List.set_cons_succ, List.set_cons_zero]
      exact HOUT.out _ _ _ rfl ⟨(Below.refl _ _), rfl⟩
    rcases j with _ | j
    · simp only [List.getElem?_toArray, List.getElem?_cons_succ, List.getElem?_cons_zero, Option.some.injEq, Nat.zero_add] at ho
      subst ho
      have e0 : vs 0 = _ := hdep 0 rfl
      have e1 : vs 1 = _ := hdep 1 rfl
      have hpr := Lib.hid (HPRE.out W hI)
      refine .inl ⟨rfl, fun K Q hK => ?_⟩
      simp only [putFrom, Act.put, List.setIfInBounds_toArray, List.set_cons_succ, List.set_cons_zero, Nat.reduceAdd, e0, e1] at hK ⊢
      have HOUT := Lib.hid hK
      clear hK hdep e0 e1
      go_simp
      refine hpr.out.mono ?_
      rintro e w5 ⟨hB5, ad, c5, vs5, rfl, h51, h52, h53, h54⟩
      go_simp
      exact HOUT.out _ _ _ rfl ⟨hB5, ⟨ad, c5, vs5, rfl, h51, h52, h53, h54⟩⟩
    rcases j with _ | j
    · simp only [List.getElem?_toArray, List.getElem?_cons_succ, List.getElem?_cons_zero, Option.some.injEq, Nat.zero_add] at ho
      subst ho
      obtain ⟨ad, c5, vs5, e2, h51, h52, h53, h54⟩ := (show ∃ ad c us, vs 2 = Value.slice (some ad) P.length c ∧ P.length ≤ c ∧ c ≤ 9223372036854775807 ∧ Sees W W.heap.size 1 (some ad) P.length us ∧ Lists W W.heap.size us P from hdep 2 rfl)
      obtain ⟨A0, c0, hv0, k1, k2, k3⟩ := h54.at_ (k := 0) HPL.out
      obtain ⟨ad', hA', hbd, hx5⟩ := h53.some_ HPL.out
      cases hA'
      have hcell := hx5 0 _ hv0
      rw [add_zero] at hcell
      have h0P : (0 : Int) < (P.length : Int) := by have := HPL.out; omega
      have HCE : Hid (W.cell? ad = some (.slice A0 P0.length c0) ∧ Slot W W.heap.size (.slice A0 P0.length c0) P0) := Lib.hid (by rw [← HP0.out]; exact ⟨hcell, A0, c0, rfl, k1, k2, k3⟩)
      clear hv0 k1 k2 k3 hx5 hcell h51 h53 h54
      refine .inl ⟨rfl, fun K Q hK => ?_⟩
      simp only [putFrom, Act.put, List.setIfInBounds_toArray, List.set_cons_succ, List.set_cons_zero, Nat.reduceAdd, e2] at hK ⊢
      have HOUT := Lib.hid hK
      clear hK hdep e2
      go_simp
      exact HOUT.out _ _ _ rfl ⟨(Below.refl _ _), ⟨ad, A0, c0, rfl, hbd, HCE.out.1, HCE.out.2⟩⟩
    rcases j with _ | j
    · simp only [List.getElem?_toArray, List.getElem?_cons_succ, List.getElem?_cons_zero, Option.some.injEq, Nat.zero_add] at ho
      subst ho
      obtain ⟨ad, A0, c0, e3, hbd, hce, hsl⟩ := (show ∃ ad A c, vs 3 = Value.pointer (some ad) ∧ ad.block < W.heap.size ∧ W.cell? ad = some (.slice A P0.length c) ∧ Slot W W.heap.size (.slice A P0.length c) P0 from hdep 3 rfl)
      have HSL0 := Lib.hid hsl
      clear hsl
      refine .inl ⟨rfl, fun K Q hK => ?_⟩
      simp only [putFrom, Act.put, List.setIfInBounds_toArray, List.set_cons_succ, List.set_cons_zero, Nat.reduceAdd, e3] at hK ⊢
      have HOUT := Lib.hid hK
      clear hK hdep e3
      go_simp
      exact HOUT.out _ _ _ rfl ⟨(Below.refl _ _), HSL0.out⟩
    rcases j with _ | j
    · simp only [List.getElem?_toArray, List.getElem?_cons_succ, List.getElem?_cons_zero, Option.some.injEq, Nat.zero_add] at ho
      subst ho
      obtain ⟨A0, c0, e4, k1, k2, k3⟩ := (show Slot W W.heap.size (vs 4) P0 from hdep 4 rfl)
      have hsm := Lib.hid (sum_any W.heap.size A0 c0 P0 W k3 (Nat.le_refl _) k1 k2 HP0L.out (HK4.out.below hI HK4.out.2.2))
      clear k1 k2 k3
      refine .inl ⟨rfl, fun K Q hK => ?_⟩
      simp only [putFrom, Act.put, List.setIfInBounds_toArray, List.set_cons_succ, List.set_cons_zero, Nat.reduceAdd, e4] at hK ⊢
      have HOUT := Lib.hid hK
      clear hK hdep e4
      go_simp
      refine hsm.out.mono ?_
      rintro e w5 ⟨rfl, hB5⟩
      go_simp
      exact HOUT.out _ _ _ rfl ⟨hB5, rfl⟩
    rcases j with _ | j
    · simp only [List.getElem?_toArray, List.getElem?_cons_succ, List.getElem?_cons_zero, Option.some.injEq, Nat.zero_add] at ho
      subst ho
      refine .inl ⟨rfl, fun K Q hK => ?_⟩
      simp only [putFrom, Act.put, List.setIfInBounds_toArray, List.set_cons_succ, List.set_cons_zero, Nat.reduceAdd] at hK ⊢
      have HOUT := Lib.hid hK
      clear hK hdep
      refine wp_load_mid 24 _ rfl w.heap.size 0 rfl (bys root) _ (HRT4.out.below hI HRT4.out.lt).rngT Tryd.underlying24 rfl (by rw [bys_len, HRO.out]; exact Tryd.infoD) ?_
      simp only [Act.put, List.setIfInBounds_toArray, List.set_cons_succ, List.set_cons_zero]
      exact HOUT.out _ _ _ rfl ⟨(Below.refl _ _), rfl⟩
    rcases j with _ | j
    · simp only [List.getElem?_toArray, List.getElem?_cons_succ, List.getElem?_cons_zero, Option.some.injEq, Nat.zero_add] at ho
      subst ho
      have e5 : vs 5 = _ := hdep 5 rfl
      have e6 : vs 6 = _ := hdep 6 rfl
      refine .inl ⟨rfl, fun K Q hK => ?_⟩
      simp only [putFrom, Act.put, List.setIfInBounds_toArray, List.set_cons_succ, List.set_cons_zero, Nat.reduceAdd, e5, e6] at hK ⊢
      have HOUT := Lib.hid hK
      clear hK hdep e5 e6
      refine wp_cmp .neq 24 _ _ _ rfl (.agg (bys (shaF P0)).toArray) (.agg (bys root).toArray) (.bool (!(shaF P0 == root))) rfl rfl (run_eqGuard_agg _ _ _ _ _ _ _ (by kernel_rfl)) (neq_d W _ _ (shaF_len _) HRO.out) ?_
      simp only [Act.put, List.setIfInBounds_toArray, List.set_cons_succ, List.set_cons_zero]
      exact HOUT.out _ _ _ rfl ⟨(Below.refl _ _), (by rw [HNE.out]; exact rfl)⟩
    exact absurd ho (by simp)
  · have e7 : vs 7 = .bool ne := hR 7 (by decide)
    simp only [putFrom, Act.put, List.setIfInBounds_toArray, List.set_cons_succ, List.set_cons_zero, Nat.reduceAdd, e7]
    clear hR e7
    generalize vs 0 = q0 at *; generalize vs 1 = q1 at *; generalize vs 2 = q2 at *; generalize vs 3 = q3 at *; generalize vs 4 = q4 at *; generalize vs 5 = q5 at *; generalize vs 6 = q6 at *
    have HBX := Lib.hid (HBW4.out.trans (hI.mono HBW4.out.size))
    have HSX := Lib.hid ((HS4.out.below hI).wide hI.size)
    have HEX := Lib.hid ((HEN4.out.below hI).wide hI.size)
    have H9X := Lib.hid (H9.out.below hI H9.out.lt)
    have HKX := Lib.hid (HKE4.out.below hI HKE4.out.lt)
    clear hI HPRE
    cases ne with
    | true =>
      have hfin := HBX.out
      have htt : ¬ topT key 0 (sibsT T) E = root := by
        rw [HTOP.out]
        have := HNE.out
        simpa using this
      have HTT := Lib.hid htt
      clear htt
      go_wp2
      go_ret3
      rw [HRR.out, if_neg HTT.out]
      exact ⟨hfin, none, 0, rfl, slot_nil _, fun _ e => by cases e⟩
    | false =>
      have htt : topT key 0 (sibsT T) E = root := by
        rw [HTOP.out]
        have := HNE.out
        simpa using this
      have HTT := Lib.hid htt
      clear htt
      have h9 := H9X.out
      have hc09 : W.cell? ⟨g9, 0, none⟩ = some (.slice As nt cs) := by rw [h9.cell]; rfl
      have hc19 : W.cell? ⟨g9, 1, none⟩ = some (.slice A3 m c3) := by rw [h9.cell]; rfl
      clear h9
      match E, HE2.out with
      | [], _ =>
        obtain rfl : m = 0 := HM.out
        have hfin := HBX.out
        go_wp2_with fail
        refine wp_region_inv 46 (fun jx v _ => v = ([.pointer (some ⟨g9, 1, none⟩), .slice A3 0 c3, .int .i64 0, .bool true, .bool true, undef, undef, undef, undef, undef, undef, undef, .bool true] : List Value).getD jx undef) (Below W.heap.size W) (fun _ W1 W2 => Below W1.heap.size W1 W2) (by kernel_rfl) (by rfl) (by kernel_rfl) (fun _ _ _ _ _ _ _ _ _ hR => hR) (fun _ _ _ e h => h.trans (e.mono h.size)) (Below.drew (Below.refl _ _)) (fun jx o ho vs wb hI hdep => ?_) (fun vs w6 hI hR => ?_)
        · rcases jx with _ | jx
          · simp only [List.getElem?_toArray, List.getElem?_cons_zero, Option.some.injEq] at ho
            subst ho
            refine .inl ⟨rfl, fun K Q hK => ?_⟩
            simp only [putFrom, Act.put, List.setIfInBounds_toArray, List.set_cons_succ, List.set_cons_zero, Nat.reduceAdd] at hK ⊢
            have HOUT := Lib.hid hK
            clear hK hdep 
            go_simp
            exact HOUT.out _ _ _ rfl ⟨Below.refl _ _, rfl⟩
          rcases jx with _ | jx
          · simp only [List.getElem?_toArray, List.getElem?_cons_succ, List.getElem?_cons_zero, Option.some.injEq, Nat.zero_add] at ho
            subst ho
            have e0 : vs 0 = .pointer (some ⟨g9, 1, none⟩) := hdep 0 rfl
            have h9w := H9X.out.below hI H9X.out.lt
            have hc19 : wb.cell? ⟨g9, 1, none⟩ = some (.slice A3 0 c3) := by rw [h9w.cell]; rfl
            clear h9w
            refine .inl ⟨rfl, fun K Q hK => ?_⟩
            simp only [putFrom, Act.put, List.setIfInBounds_toArray, List.set_cons_succ, List.set_cons_zero, Nat.reduceAdd, e0] at hK ⊢
            have HOUT := Lib.hid hK
            clear hK hdep e0
            go_simp
            exact HOUT.out _ _ _ rfl ⟨Below.refl _ _, rfl⟩
          rcases jx with _ | jx
          · simp only [List.getElem?_toArray, List.getElem?_cons_succ, List.getElem?_cons_zero, Option.some.injEq, Nat.zero_add] at ho
            subst ho
            have e1 : vs 1 = .slice A3 0 c3 := hdep 1 rfl
            refine .inl ⟨rfl, fun K Q hK => ?_⟩
            simp only [putFrom, Act.put, List.setIfInBounds_toArray, List.set_cons_succ, List.set_cons_zero, Nat.reduceAdd, e1] at hK ⊢
            have HOUT := Lib.hid hK
            clear hK hdep e1
            go_simp
            exact HOUT.out _ _ _ rfl ⟨Below.refl _ _, rfl⟩
          rcases jx with _ | jx
          · simp only [List.getElem?_toArray, List.getElem?_cons_succ, List.getElem?_cons_zero, Option.some.injEq, Nat.zero_add] at ho
            subst ho
            have e2 : vs 2 = .int .i64 0 := hdep 2 rfl
            refine .inl ⟨rfl, fun K Q hK => ?_⟩
            simp only [putFrom, Act.put, List.setIfInBounds_toArray, List.set_cons_succ, List.set_cons_zero, Nat.reduceAdd, e2] at hK ⊢
            have HOUT := Lib.hid hK
            clear hK hdep e2
            go_simp
            exact HOUT.out _ _ _ rfl ⟨Below.refl _ _, rfl⟩
          rcases jx with _ | jx
          · simp only [List.getElem?_toArray, List.getElem?_cons_succ, List.getElem?_cons_zero, Option.some.injEq, Nat.zero_add] at ho
            subst ho
            have e3 : vs 3 = .bool true := hdep 3 rfl
            refine .inl ⟨rfl, fun K Q hK => ?_⟩
            simp only [putFrom, Act.put, List.setIfInBounds_toArray, List.set_cons_succ, List.set_cons_zero, Nat.reduceAdd, e3] at hK ⊢
            have HOUT := Lib.hid hK
            clear hK hdep e3
            go_simp
            exact HOUT.out _ _ _ rfl ⟨Below.refl _ _, rfl⟩
          rcases jx with _ | jx
          · simp only [List.getElem?_toArray, List.getElem?_cons_succ, List.getElem?_cons_zero, Option.some.injEq, Nat.zero_add] at ho
            subst ho
            have e4 : vs 4 = .bool true := hdep 4 rfl
            exact .inr ⟨by simp only [putFrom, Act.put, List.setIfInBounds_toArray, List.set_cons_succ, List.set_cons_zero, Nat.reduceAdd, e4]; rfl, Below.refl _ _, rfl⟩
          rcases jx with _ | jx
          · simp only [List.getElem?_toArray, List.getElem?_cons_succ, List.getElem?_cons_zero, Option.some.injEq, Nat.zero_add] at ho
            subst ho
            have e4 : vs 4 = .bool true := hdep 4 rfl
            exact .inr ⟨by simp only [putFrom, Act.put, List.setIfInBounds_toArray, List.set_cons_succ, List.set_cons_zero, Nat.reduceAdd, e4]; rfl, Below.refl _ _, rfl⟩
          rcases jx with _ | jx
          · simp only [List.getElem?_toArray, List.getElem?_cons_succ, List.getElem?_cons_zero, Option.some.injEq, Nat.zero_add] at ho
            subst ho
            have e4 : vs 4 = .bool true := hdep 4 rfl
            exact .inr ⟨by simp only [putFrom, Act.put, List.setIfInBounds_toArray, List.set_cons_succ, List.set_cons_zero, Nat.reduceAdd, e4]; rfl, Below.refl _ _, rfl⟩
          rcases jx with _ | jx
          · simp only [List.getElem?_toArray, List.getElem?_cons_succ, List.getElem?_cons_zero, Option.some.injEq, Nat.zero_add] at ho
            subst ho
            have e4 : vs 4 = .bool true := hdep 4 rfl
            exact .inr ⟨by simp only [putFrom, Act.put, List.setIfInBounds_toArray, List.set_cons_succ, List.set_cons_zero, Nat.reduceAdd, e4]; rfl, Below.refl _ _, rfl⟩
          rcases jx with _ | jx
          · simp only [List.getElem?_toArray, List.getElem?_cons_succ, List.getElem?_cons_zero, Option.some.injEq, Nat.zero_add] at ho
            subst ho
            have e4 : vs 4 = .bool true := hdep 4 rfl
            exact .inr ⟨by simp only [putFrom, Act.put, List.setIfInBounds_toArray, List.set_cons_succ, List.set_cons_zero, Nat.reduceAdd, e4]; rfl, Below.refl _ _, rfl⟩
          rcases jx with _ | jx
          · simp only [List.getElem?_toArray, List.getElem?_cons_succ, List.getElem?_cons_zero, Option.some.injEq, Nat.zero_add] at ho
            subst ho
            have e4 : vs 4 = .bool true := hdep 4 rfl
            exact .inr ⟨by simp only [putFrom, Act.put, List.setIfInBounds_toArray, List.set_cons_succ, List.set_cons_zero, Nat.reduceAdd, e4]; rfl, Below.refl _ _, rfl⟩
          rcases jx with _ | jx
          · simp only [List.getElem?_toArray, List.getElem?_cons_succ, List.getElem?_cons_zero, Option.some.injEq, Nat.zero_add] at ho
            subst ho
            have e4 : vs 4 = .bool true := hdep 4 rfl
            exact .inr ⟨by simp only [putFrom, Act.put, List.setIfInBounds_toArray, List.set_cons_succ, List.set_cons_zero, Nat.reduceAdd, e4]; rfl, Below.refl _ _, rfl⟩
          rcases jx with _ | jx
          · simp only [List.getElem?_toArray, List.getElem?_cons_succ, List.getElem?_cons_zero, Option.some.injEq, Nat.zero_add] at ho
            subst ho
            have e4 : vs 4 = .bool true := hdep 4 rfl
            have e11 : vs 11 = undef := hdep 11 rfl
            refine .inl ⟨rfl, fun K Q hK => ?_⟩
            simp only [putFrom, Act.put, List.setIfInBounds_toArray, List.set_cons_succ, List.set_cons_zero, Nat.reduceAdd, e4, e11] at hK ⊢
            have HOUT := Lib.hid hK
            clear hK hdep e4 e11
            go_simp
            exact HOUT.out _ _ _ rfl ⟨Below.refl _ _, rfl⟩
          exact absurd ho (by simp)
        ·
          have e12 : vs 12 = .bool true := hR 12 (by decide)
          simp only [putFrom, Act.put, List.setIfInBounds_toArray, List.set_cons_succ, List.set_cons_zero, Nat.reduceAdd, e12]
          clear hR e12
          have hB7 := hfin.trans (hI.mono hfin.size)
          clear hI
          go_wp2
          go_ret3
          rw [HRR.out, if_pos HTT.out]
          exact ⟨hB7, none, 0, rfl, slot_nil _, fun _ e => by cases e⟩
      | [en], _ =>
        obtain rfl : m = 1 := HM.out
        obtain ⟨b0, o0, v0, rfl, hb0, hv1, hrow, hsl⟩ := HEX.out.row (i := 0) (by simp)
        have hkl := HEX.out.keys en (by simp)
        obtain ⟨k, x⟩ := en
        simp only [List.getElem_cons_zero, Nat.zero_mul, Nat.add_zero] at hrow hkl hsl
        have HROW := Lib.hid hrow; have HKL := Lib.hid hkl; have HSL := Lib.hid hsl
        have HB0 := Lib.hid hb0
        obtain ⟨eqk, heqk⟩ : ∃ b : Bool, (!(k == key)) = b := ⟨_, rfl⟩
        have HEQ := Lib.hid heqk
        clear hrow hkl hsl hv1 heqk hb0
        go_wp2_with fail
        refine wp_region_inv 46 (fun jx v _ => v = ([.pointer (some ⟨g9, 1, none⟩), .slice (some ⟨b0, o0, none⟩) 1 c3, .int .i64 1, .bool false, .bool false, .pointer (some ⟨g9, 1, none⟩), .slice (some ⟨b0, o0, none⟩) 1 c3, .pointer (some ⟨b0, o0, none⟩), .pointer (some ⟨b0, o0, none⟩), .agg (bys k).toArray, .agg (bys key).toArray, .bool eqk, .bool eqk] : List Value).getD jx undef) (Below W.heap.size W) (fun _ W1 W2 => Below W1.heap.size W1 W2) (by kernel_rfl) (by rfl) (by kernel_rfl) (fun _ _ _ _ _ _ _ _ _ hR => hR) (fun _ _ _ e h => h.trans (e.mono h.size)) (Below.drew (Below.refl _ _)) (fun jx o ho vs wb hI hdep => ?_) (fun vs w6 hI hR => ?_)
        · rcases jx with _ | jx
          · simp only [List.getElem?_toArray, List.getElem?_cons_zero, Option.some.injEq] at ho
            subst ho
            refine .inl ⟨rfl, fun K Q hK => ?_⟩
            simp only [putFrom, Act.put, List.setIfInBounds_toArray, List.set_cons_succ, List.set_cons_zero, Nat.reduceAdd] at hK ⊢
            have HOUT := Lib.hid hK
            clear hK hdep 
            go_simp
            exact HOUT.out _ _ _ rfl ⟨Below.refl _ _, rfl⟩
          rcases jx with _ | jx
          · simp only [List.getElem?_toArray, List.getElem?_cons_succ, List.getElem?_cons_zero, Option.some.injEq, Nat.zero_add] at ho
            subst ho
            have e0 : vs 0 = .pointer (some ⟨g9, 1, none⟩) := hdep 0 rfl
            have h9w := H9X.out.below hI H9X.out.lt
            have hc19 : wb.cell? ⟨g9, 1, none⟩ = some (.slice (some ⟨b0, o0, none⟩) 1 c3) := by rw [h9w.cell]; rfl
            clear h9w
            refine .inl ⟨rfl, fun K Q hK => ?_⟩
            simp only [putFrom, Act.put, List.setIfInBounds_toArray, List.set_cons_succ, List.set_cons_zero, Nat.reduceAdd, e0] at hK ⊢
            have HOUT := Lib.hid hK
            clear hK hdep e0
            go_simp
            exact HOUT.out _ _ _ rfl ⟨Below.refl _ _, rfl⟩
          rcases jx with _ | jx
          · simp only [List.getElem?_toArray, List.getElem?_cons_succ, List.getElem?_cons_zero, Option.some.injEq, Nat.zero_add] at ho
            subst ho
            have e1 : vs 1 = .slice (some ⟨b0, o0, none⟩) 1 c3 := hdep 1 rfl
            refine .inl ⟨rfl, fun K Q hK => ?_⟩
            simp only [putFrom, Act.put, List.setIfInBounds_toArray, List.set_cons_succ, List.set_cons_zero, Nat.reduceAdd, e1] at hK ⊢
            have HOUT := Lib.hid hK
            clear hK hdep e1
            go_simp
            exact HOUT.out _ _ _ rfl ⟨Below.refl _ _, rfl⟩
          rcases jx with _ | jx
          · simp only [List.getElem?_toArray, List.getElem?_cons_succ, List.getElem?_cons_zero, Option.some.injEq, Nat.zero_add] at ho
            subst ho
            have e2 : vs 2 = .int .i64 1 := hdep 2 rfl
            refine .inl ⟨rfl, fun K Q hK => ?_⟩
            simp only [putFrom, Act.put, List.setIfInBounds_toArray, List.set_cons_succ, List.set_cons_zero, Nat.reduceAdd, e2] at hK ⊢
            have HOUT := Lib.hid hK
            clear hK hdep e2
            go_simp
            exact HOUT.out _ _ _ rfl ⟨Below.refl _ _, rfl⟩
          rcases jx with _ | jx
          · simp only [List.getElem?_toArray, List.getElem?_cons_succ, List.getElem?_cons_zero, Option.some.injEq, Nat.zero_add] at ho
            subst ho
            have e3 : vs 3 = .bool false := hdep 3 rfl
            refine .inl ⟨rfl, fun K Q hK => ?_⟩
            simp only [putFrom, Act.put, List.setIfInBounds_toArray, List.set_cons_succ, List.set_cons_zero, Nat.reduceAdd, e3] at hK ⊢
            have HOUT := Lib.hid hK
            clear hK hdep e3
            go_simp
            exact HOUT.out _ _ _ rfl ⟨Below.refl _ _, rfl⟩
          rcases jx with _ | jx
          · simp only [List.getElem?_toArray, List.getElem?_cons_succ, List.getElem?_cons_zero, Option.some.injEq, Nat.zero_add] at ho
            subst ho
            have e4 : vs 4 = .bool false := hdep 4 rfl
            refine .inl ⟨(by simp only [putFrom, Act.put, List.setIfInBounds_toArray, List.set_cons_succ, List.set_cons_zero, Nat.reduceAdd, e4]; rfl), fun K Q hK => ?_⟩
            simp only [putFrom, Act.put, List.setIfInBounds_toArray, List.set_cons_succ, List.set_cons_zero, Nat.reduceAdd] at hK ⊢
            have HOUT := Lib.hid hK
            clear hK hdep e4
            go_simp
            exact HOUT.out _ _ _ rfl ⟨Below.refl _ _, rfl⟩
          rcases jx with _ | jx
          · simp only [List.getElem?_toArray, List.getElem?_cons_succ, List.getElem?_cons_zero, Option.some.injEq, Nat.zero_add] at ho
            subst ho
            have e5 : vs 5 = .pointer (some ⟨g9, 1, none⟩) := hdep 5 rfl
            have e4 : vs 4 = .bool false := hdep 4 rfl
            have h9w := H9X.out.below hI H9X.out.lt
            have hc19 : wb.cell? ⟨g9, 1, none⟩ = some (.slice (some ⟨b0, o0, none⟩) 1 c3) := by rw [h9w.cell]; rfl
            clear h9w
            refine .inl ⟨(by simp only [putFrom, Act.put, List.setIfInBounds_toArray, List.set_cons_succ, List.set_cons_zero, Nat.reduceAdd, e4]; rfl), fun K Q hK => ?_⟩
            simp only [putFrom, Act.put, List.setIfInBounds_toArray, List.set_cons_succ, List.set_cons_zero, Nat.reduceAdd, e5] at hK ⊢
            have HOUT := Lib.hid hK
            clear hK hdep e5 e4
            go_simp
            exact HOUT.out _ _ _ rfl ⟨Below.refl _ _, rfl⟩
          rcases jx with _ | jx
          · simp only [List.getElem?_toArray, List.getElem?_cons_succ, List.getElem?_cons_zero, Option.some.injEq, Nat.zero_add] at ho
            subst ho
            have e6 : vs 6 = .slice (some ⟨b0, o0, none⟩) 1 c3 := hdep 6 rfl
            have e4 : vs 4 = .bool false := hdep 4 rfl
            refine .inl ⟨(by simp only [putFrom, Act.put, List.setIfInBounds_toArray, List.set_cons_succ, List.set_cons_zero, Nat.reduceAdd, e4]; rfl), fun K Q hK => ?_⟩
            simp only [putFrom, Act.put, List.setIfInBounds_toArray, List.set_cons_succ, List.set_cons_zero, Nat.reduceAdd, e6] at hK ⊢
            have HOUT := Lib.hid hK
            clear hK hdep e6 e4
            go_simp
            exact HOUT.out _ _ _ rfl ⟨Below.refl _ _, rfl⟩
          rcases jx with _ | jx
          · simp only [List.getElem?_toArray, List.getElem?_cons_succ, List.getElem?_cons_zero, Option.some.injEq, Nat.zero_add] at ho
            subst ho
            have e7 : vs 7 = .pointer (some ⟨b0, o0, none⟩) := hdep 7 rfl
            have e4 : vs 4 = .bool false := hdep 4 rfl
            refine .inl ⟨(by simp only [putFrom, Act.put, List.setIfInBounds_toArray, List.set_cons_succ, List.set_cons_zero, Nat.reduceAdd, e4]; rfl), fun K Q hK => ?_⟩
            simp only [putFrom, Act.put, List.setIfInBounds_toArray, List.set_cons_succ, List.set_cons_zero, Nat.reduceAdd, e7] at hK ⊢
            have HOUT := Lib.hid hK
            clear hK hdep e7 e4
            go_simp
            exact HOUT.out _ _ _ rfl ⟨Below.refl _ _, rfl⟩
          rcases jx with _ | jx
          · simp only [List.getElem?_toArray, List.getElem?_cons_succ, List.getElem?_cons_zero, Option.some.injEq, Nat.zero_add] at ho
            subst ho
            have e8 : vs 8 = .pointer (some ⟨b0, o0, none⟩) := hdep 8 rfl
            have e4 : vs 4 = .bool false := hdep 4 rfl
            refine .inl ⟨(by simp only [putFrom, Act.put, List.setIfInBounds_toArray, List.set_cons_succ, List.set_cons_zero, Nat.reduceAdd, e4]; rfl), fun K Q hK => ?_⟩
            simp only [putFrom, Act.put, List.setIfInBounds_toArray, List.set_cons_succ, List.set_cons_zero, Nat.reduceAdd, e8] at hK ⊢
            have HOUT := Lib.hid hK
            clear hK hdep e8 e4
            refine wp_load_mid 24 _ rfl b0 o0 rfl (bys k) _ (rng_left (rng_below HROW.out hI HB0.out)) Tryd.underlying24 rfl (by rw [bys_len, HKL.out]; exact Tryd.infoD) ?_
            simp only [Act.put, List.setIfInBounds_toArray, List.set_cons_succ, List.set_cons_zero]
            exact HOUT.out _ _ _ rfl ⟨Below.refl _ _, rfl⟩
          rcases jx with _ | jx
          · simp only [List.getElem?_toArray, List.getElem?_cons_succ, List.getElem?_cons_zero, Option.some.injEq, Nat.zero_add] at ho
            subst ho
            have e4 : vs 4 = .bool false := hdep 4 rfl
            refine .inl ⟨(by simp only [putFrom, Act.put, List.setIfInBounds_toArray, List.set_cons_succ, List.set_cons_zero, Nat.reduceAdd, e4]; rfl), fun K Q hK => ?_⟩
            simp only [putFrom, Act.put, List.setIfInBounds_toArray, List.set_cons_succ, List.set_cons_zero, Nat.reduceAdd] at hK ⊢
            have HOUT := Lib.hid hK
            clear hK hdep e4
            refine wp_load_mid 24 _ rfl (w.heap.size + 1) 0 rfl (bys key) _ (HKX.out.below hI HKX.out.lt).rngT Tryd.underlying24 rfl (by rw [bys_len, HKY.out]; exact Tryd.infoD) ?_
            simp only [Act.put, List.setIfInBounds_toArray, List.set_cons_succ, List.set_cons_zero]
            exact HOUT.out _ _ _ rfl ⟨Below.refl _ _, rfl⟩
          rcases jx with _ | jx
          · simp only [List.getElem?_toArray, List.getElem?_cons_succ, List.getElem?_cons_zero, Option.some.injEq, Nat.zero_add] at ho
            subst ho
            have e9 : vs 9 = .agg (bys k).toArray := hdep 9 rfl
            have e10 : vs 10 = .agg (bys key).toArray := hdep 10 rfl
            have e4 : vs 4 = .bool false := hdep 4 rfl
            refine .inl ⟨(by simp only [putFrom, Act.put, List.setIfInBounds_toArray, List.set_cons_succ, List.set_cons_zero, Nat.reduceAdd, e4]; rfl), fun K Q hK => ?_⟩
            simp only [putFrom, Act.put, List.setIfInBounds_toArray, List.set_cons_succ, List.set_cons_zero, Nat.reduceAdd, e9, e10] at hK ⊢
            have HOUT := Lib.hid hK
            clear hK hdep e9 e10 e4
            refine wp_cmp .neq 24 _ _ _ rfl (.agg (bys k).toArray) (.agg (bys key).toArray) (.bool (!(k == key))) rfl rfl (run_eqGuard_agg _ _ _ _ _ _ _ (by kernel_rfl)) (neq_d wb _ _ HKL.out HKY.out) ?_
            simp only [Act.put, List.setIfInBounds_toArray, List.set_cons_succ, List.set_cons_zero]
            rw [HEQ.out]
            exact HOUT.out _ _ _ rfl ⟨Below.refl _ _, rfl⟩
          rcases jx with _ | jx
          · simp only [List.getElem?_toArray, List.getElem?_cons_succ, List.getElem?_cons_zero, Option.some.injEq, Nat.zero_add] at ho
            subst ho
            have e4 : vs 4 = .bool false := hdep 4 rfl
            have e11 : vs 11 = .bool eqk := hdep 11 rfl
            refine .inl ⟨rfl, fun K Q hK => ?_⟩
            simp only [putFrom, Act.put, List.setIfInBounds_toArray, List.set_cons_succ, List.set_cons_zero, Nat.reduceAdd, e4, e11] at hK ⊢
            have HOUT := Lib.hid hK
            clear hK hdep e4 e11
            go_simp
            exact HOUT.out _ _ _ rfl ⟨Below.refl _ _, rfl⟩
          exact absurd ho (by simp)
        ·
          have e12 : vs 12 = .bool eqk := hR 12 (by decide)
          simp only [putFrom, Act.put, List.setIfInBounds_toArray, List.set_cons_succ, List.set_cons_zero, Nat.reduceAdd, e12]
          clear hR e12
          have hB7 := HBX.out.trans (hI.mono HBX.out.size)
          have HB7 := Lib.hid hB7
          have H9Y := Lib.hid (H9X.out.below hI H9X.out.lt)
          have HROW7 := Lib.hid (show w6.rangeAt b0 o0 (bys k ++ [v0]) from rng_below HROW.out hI HB0.out)
          have HSL7 := Lib.hid ((HSL.out.below hI).wide hI.size)
          have HN7 := HNW.out.2
          clear hI hB7
          cases eqk with
          | true =>
            have hfin := HB7.out
            have hkne : ¬ k = key := by have := HEQ.out; simpa using this
            have HKN := Lib.hid hkne
            clear hkne HN7
            go_wp2
            go_ret3
            rw [HRR.out, if_pos HTT.out]
            simp only [toldT, if_neg HKN.out]
            exact ⟨hfin, none, 0, rfl, slot_nil _, fun _ e => by cases e⟩
          | false =>
            have hfin := HB7.out
            have hkeq : k = key := by have := HEQ.out; simpa using this
            have HKQ := Lib.hid hkeq
            clear hkeq
            have h9 := H9Y.out
            have hc19' : w6.cell? ⟨g9, 1, none⟩ = some (.slice (some ⟨b0, o0, none⟩) 1 c3) := by rw [h9.cell]; rfl
            have hcv : w6.cell? ⟨b0, o0 + 32, none⟩ = some v0 := HROW7.out 32 v0 (by rw [List.getElem?_append_right (by rw [bys_len, HKL.out]; omega), bys_len, HKL.out]; rfl)
            obtain ⟨Av, cv, hv0, hv1, hv2, hv3⟩ := HSL7.out
            subst hv0
            have HV := Lib.hid (show Slot w6 w6.heap.size (.slice Av x.length cv) x from ⟨Av, cv, rfl, hv1, hv2, hv3⟩)
            have HMEM : Hid (Value.slice Av x.length cv ∈ vs0) := Lib.hid (val_mem HEX.out (HROW.out 32 _ (by rw [List.getElem?_append_right (by rw [bys_len, HKL.out]; omega), bys_len, HKL.out]; rfl)))
            clear h9 hv3 HN7
            go_wp2
            go_ret3
            rw [HRR.out, if_pos HTT.out]
            simp only [toldT, if_pos HKQ.out]
            exact ⟨hfin, Av, cv, rfl, HV.out, fun ad e => by have := HNW.out.2 _ _ _ HMEM.out ad e; have := HQ1.out; omega⟩
theorem ver_any (w : World) (hk : Consts w) (root key : List UInt8) (hroot : root.length = 32) (hkey : key.length = 32) (A : Option Addr) (c : Nat) (b : List UInt8) (hs : Sees w w.heap.size 1 A b.length (bys b)) (hc : b.length ≤ c) (hcm : c ≤ 9223372036854775807) (hm : b.length ≤ 1099511627776) :
    Calls Tryd.prog 18 #[.agg (bys root).toArray, .agg (bys key).toArray, .slice A b.length c] w (VerW w (verF root key b)) := by
  unfold verF
  cases h : readF key b with
  | inl k => exact ver_bad w hk root key hroot hkey A c b hs hc hcm hm k h
  | inr q =>
    obtain ⟨T, E⟩ := q
    exact ver_ok w hk root key hroot hkey A c b hs hc hcm hm T E h _ rfl
end Go.Proofs.YtapbaonlboefeaaDoor
