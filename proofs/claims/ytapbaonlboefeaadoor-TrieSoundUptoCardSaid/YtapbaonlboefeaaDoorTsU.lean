/- trie: Clash. WRITTEN BY wip/gen/tst.py. | trie: wapentakelaw04.TrieClash. WRITTEN BY wip/gen/tsu.py. -/
import Derived.Test.YtapbaonlboefeaaDoorTsG
import Derived.Test.YtapbaonlboefeaaDoorCnv
import Derived.Test.YtapbaonlboefeaaDoorTsQ
import Derived.Test.YtapbaonlboefeaaDoorRsG
namespace Go.Proofs.YtapbaonlboefeaaDoor
open Go.RowKit

/-- Two texts of one digest that a proof leads to. -/
def clashF (L : List Ent) (key b : List UInt8) : Option (List UInt8 × List UInt8) :=
  match readF key b with
  | .inl _ => none
  | .inr (T, E) => if MayP L then clashT (preT key 0 (sibT key 256 L) (endT key 256 L)) (preT key 0 (sibsT T) E) else none
def fst_ (r : Option (List UInt8 × List UInt8)) : List UInt8 := (r.map (·.1)).getD []
def snd_ (r : Option (List UInt8 × List UInt8)) : List UInt8 := (r.map (·.2)).getD []
/-- What Clash answers. -/
def ClaW (w : World) (r : Option (List UInt8 × List UInt8)) (e : Ending) (w' : World) : Prop :=
  Below w.heap.size w w' ∧ ∃ A c A' c', e = .returned (.tuple #[.slice A (fst_ r).length c, .slice A' (snd_ r).length c', .bool r.isSome]) ∧ Slot w' w'.heap.size (.slice A (fst_ r).length c) (fst_ r) ∧ Slot w' w'.heap.size (.slice A' (snd_ r).length c') (snd_ r)
theorem slot_nil' (w : World) (B : Nat) : Slot w B (.slice none 0 0) [] := ⟨none, 0, rfl, Nat.le_refl _, by decide, Sees.nothing _ _ _ _⟩
theorem ents_back {w W : World} {B : Nat} {A : Option Addr} {vs : List Value} {L : List Ent} (h : EntsW W B A vs L) (hb : Below w.heap.size w W) (hB : B ≤ w.heap.size) : EntsW w B A vs L := by
  have hc : ∀ p : Addr, p.block < B → w.cell? p = W.cell? p := fun p hp => ((hb.mono hB).cell hp).symm
  have hsees : ∀ {size n : Nat} {A : Option Addr} {xs : List Value}, Sees W B size A n xs → Sees w B size A n xs := fun {size n A xs} h => ⟨h.1, h.2.imp id (fun ⟨ad, e, h1, h2⟩ => ⟨ad, e, h1, fun j u hu => (hc _ (by rw [add_block]; exact h1)).trans (h2 j u hu)⟩)⟩
  refine ⟨h.len, hsees h.sees, ⟨h.vals.1, fun i l hl => ?_⟩, h.keys, h.short⟩
  obtain ⟨A', c', h1, h2, h3, h4⟩ := h.vals.2 i l hl
  exact ⟨A', c', h1, h2, h3, hsees h4⟩
theorem preT_short (key : List UInt8) : ∀ (d : Nat) (ss : List (List UInt8)) (e : List Ent), (∀ s ∈ ss, s.length = 32) → Keys e → (∀ x ∈ e, x.2.length ≤ 140737488340000) → ∀ p ∈ preT key d ss e, p.length ≤ 1152921504606846974
  | d, [], e, _, hk, hs, p, hp => by
    simp only [preT, List.mem_singleton] at hp
    subst hp
    have := endF_len e hk hs
    omega
  | d, s :: ss, e, h32, hk, hs, p, hp => by
    simp only [preT, List.mem_cons] at hp
    rcases hp with rfl | hp
    · rw [brT_len (shaF_len _) (h32 s (by simp))]; omega
    · exact preT_short key (d + 1) ss e (fun q hq => h32 q (by simp [hq])) hk hs p hp
theorem cell_old {w w' : World} {p : Addr} {v : Value} (h : w.cell? p = some v) (hb : Below w.heap.size w w') : w'.cell? p = some v := by
  have hlt : p.block < w.heap.size := by
    rcases Nat.lt_or_ge p.block w.heap.size with h1 | h1
    · exact h1
    · simp [World.cell?, Array.getElem?_eq_none h1] at h
  exact (hb.cell (p := p) hlt).trans h
theorem clashT_end {p q : List (List UInt8)} {i : Nat} (h : p.length ≤ i ∨ q.length ≤ i) : clashT (p.drop i) (q.drop i) = none := by
  rcases h with h | h
  · rw [List.drop_eq_nil_of_le h]; rfl
  · rw [List.drop_eq_nil_of_le h]; cases p.drop i <;> rfl
def ClaR (w0 : World) (B : Nat) (SL : Value) (key S0 : List UInt8) (E0 : List Ent) (TV : List Value) (P1 P2 : List (List UInt8)) : Nat → Value → World → Prop
  | 0, v, _ => v = SL
  | 1, v, _ => v = .agg (bys key).toArray
  | 2, v, w => (∃ u A' c' vs', v = .agg #[u, .slice A' E0.length c'] ∧ Slot w w.heap.size u S0 ∧ EntsW w0 B A' vs' E0 ∧ E0.length ≤ c' ∧ c' ≤ 9223372036854775807)
  | 3, v, _ => v = .agg (bys key).toArray
  | 4, v, w => (∃ ad c vs, v = .slice (some ad) P1.length c ∧ P1.length ≤ c ∧ c ≤ 9223372036854775807 ∧ Sees w w.heap.size 1 (some ad) P1.length vs ∧ Lists w w.heap.size vs P1)
  | 5, v, _ => v = .agg TV.toArray
  | 6, v, _ => v = .agg (bys key).toArray
  | 7, v, w => (∃ ad c vs, v = .slice (some ad) P2.length c ∧ P2.length ≤ c ∧ c ≤ 9223372036854775807 ∧ Sees w w.heap.size 1 (some ad) P2.length vs ∧ Lists w w.heap.size vs P2)
  | 8, v, w => (∃ ad c vs, v = .slice (some ad) P1.length c ∧ P1.length ≤ c ∧ c ≤ 9223372036854775807 ∧ Sees w w.heap.size 1 (some ad) P1.length vs ∧ Lists w w.heap.size vs P1)
  | 9, v, w => (∃ ad c vs, v = .slice (some ad) P2.length c ∧ P2.length ≤ c ∧ c ≤ 9223372036854775807 ∧ Sees w w.heap.size 1 (some ad) P2.length vs ∧ Lists w w.heap.size vs P2)
  | _, _, _ => True
theorem ClaR.keep {w0 : World} {B : Nat} {SL : Value} {key S0 : List UInt8} {E0 : List Ent} {TV : List Value} {P1 P2 : List (List UInt8)} : ∀ (j : Nat) {v : Value} {w w' : World}, Below w.heap.size w w' → ClaR w0 B SL key S0 E0 TV P1 P2 j v w → ClaR w0 B SL key S0 E0 TV P1 P2 j v w'
  | 0, _, _, _, _, h => h
  | 1, _, _, _, _, h => h
  | 2, v, w, _, hk, h => (by obtain ⟨u, A', c', vs', h1, h2, h3⟩ := h; exact ⟨u, A', c', vs', h1, (h2.below hk).wide hk.size, h3⟩)
  | 3, _, _, _, _, h => h
  | 4, v, w, _, hk, h => (by obtain ⟨ad, c, vs, h1, h2, h3, h4, h5⟩ := h; exact ⟨ad, c, vs, h1, h2, h3, (h4.below hk).wide hk.size, (h5.below hk).wide hk.size⟩)
  | 5, _, _, _, _, h => h
  | 6, _, _, _, _, h => h
  | 7, v, w, _, hk, h => (by obtain ⟨ad, c, vs, h1, h2, h3, h4, h5⟩ := h; exact ⟨ad, c, vs, h1, h2, h3, (h4.below hk).wide hk.size, (h5.below hk).wide hk.size⟩)
  | 8, v, w, _, hk, h => (by obtain ⟨ad, c, vs, h1, h2, h3, h4, h5⟩ := h; exact ⟨ad, c, vs, h1, h2, h3, (h4.below hk).wide hk.size, (h5.below hk).wide hk.size⟩)
  | 9, v, w, _, hk, h => (by obtain ⟨ad, c, vs, h1, h2, h3, h4, h5⟩ := h; exact ⟨ad, c, vs, h1, h2, h3, (h4.below hk).wide hk.size, (h5.below hk).wide hk.size⟩)
  | _ + 10, _, _, _, _, _ => trivial
set_option maxRecDepth 20000 in
set_option maxHeartbeats 3200000 in
theorem clash_bad (w : World) (hk : Consts w) (B c0 : Nat) (hBw : B ≤ w.heap.size) (A0 : Option Addr) (vs0 : List Value) (L : List Ent) (h : EntsW w B A0 vs0 L) (hlc : L.length ≤ c0) (hlm : c0 ≤ 9223372036854775807) (hln : L.length ≤ 4611686018427387904) (key : List UInt8) (hkey : key.length = 32) (A : Option Addr) (c : Nat) (b : List UInt8) (hs : Sees w w.heap.size 1 A b.length (bys b)) (hc : b.length ≤ c) (hcm : c ≤ 9223372036854775807) (hm : b.length ≤ 1099511627776) (k : Nat) (hd : readF key b = .inl k) :
    Calls Tryd.prog 21 #[.slice A0 L.length c0, .agg (bys key).toArray, .slice A b.length c] w (ClaW w none) := by
  have hb1 := HB.new w 24 (bys key)
  have hB1 := below_alloc1 w (.cells (bys key).toArray 24)
  generalize hw1 : w.alloc (.cells (bys key).toArray 24) = w1 at *
  have HKE := Lib.hid hb1
  have HB1 := Lib.hid hB1
  have HRD := Lib.hid (read_any w1 key hkey A c b ((hs.below hB1).wide hB1.size) hc hcm hm)
  have HKY := Lib.hid hkey; have HKC := Lib.hid hk; have HBW0 := Lib.hid hBw; have HEL := Lib.hid h; have HLC := Lib.hid hlc; have HLM := Lib.hid hlm; have HLN := Lib.hid hln
  have HKI : Hid ((Tryd.prog.info? 24).map (·.size) = some (bys key).toArray.size) := dig_info hkey
  have hk1 := hb1
  obtain ⟨nL, hnL⟩ : ∃ n, n = L.length := ⟨_, rfl⟩
  rw [← hnL]
  have HNL := Lib.hid hnL
  clear hb1 hB1 hs hc hcm hm hkey hk hBw h hlc hlm hln hnL
  rw [hd] at HRD
  have hkk := readF_err hd
  have hkn : ((k : Int) != 0) = true := by simp; omega
  clear hkk hd
  go_enter Tryd.func21, Tryd.ntmps21
  go_wp2_with (refine wpList_load_row rfl 24 _ rfl w.heap.size rfl 24 (bys key).toArray (0, 0) _ hk1 Tryd.underlying24 rfl HKI.out ?_)
  clear hw1 hk1
  refine HRD.out.mono ?_
  rintro e w2 ⟨hB2, A1, n1, c1, A2, n2, c2, rfl⟩
  have hBw := HB1.out.trans (hB2.mono HB1.out.size)
  clear HRD hB2
  have hz := Tryd.zeroTrail
  have hb9 := HB.new w2 62 zTr
  have hB9 := below_alloc1 w2 (.cells zTr.toArray 62)
  have hw3' : w2.alloc (.cells #[.slice none 0 0, .slice none 0 0] 62) = w2.alloc (.cells zTr.toArray 62) := rfl
  have hz3 : (w2.alloc (.cells zTr.toArray 62)).heap.size = w2.heap.size + 1 := by simp
  generalize hw3 : w2.alloc (.cells zTr.toArray 62) = w3 at *
  have hc0z : w3.cell? ⟨w2.heap.size, 0, none⟩ = some (.slice none 0 0) := by rw [hb9.cell]; rfl
  have hf0z := hb9.frozen 0
  have hc1z : w3.cell? ⟨w2.heap.size, 1, none⟩ = some (.slice none 0 0) := by rw [hb9.cell]; rfl
  have hf1z := hb9.frozen 1
  have HFIN : Hid (∀ u u', Below w.heap.size w ((w3.setCell ⟨w2.heap.size, 0, none⟩ u).setCell ⟨w2.heap.size, 1, none⟩ u')) := Lib.hid (fun u u' => hBw.trans (((hB9.setCell (by simp) u).setCell (by simp) u').mono hBw.size))
  clear hB9 hb9 hBw
  go_wp2
  go_ret3
  exact ⟨HFIN.out _ _, none, 0, none, 0, rfl, slot_nil' _ _, slot_nil' _ _⟩
set_option maxRecDepth 20000 in
set_option maxHeartbeats 3200000 in
theorem clash_not (w : World) (hk : Consts w) (B c0 : Nat) (hBw : B ≤ w.heap.size) (A0 : Option Addr) (vs0 : List Value) (L : List Ent) (h : EntsW w B A0 vs0 L) (hlc : L.length ≤ c0) (hlm : c0 ≤ 9223372036854775807) (hln : L.length ≤ 4611686018427387904) (key : List UInt8) (hkey : key.length = 32) (A : Option Addr) (c : Nat) (b : List UInt8) (hs : Sees w w.heap.size 1 A b.length (bys b)) (hc : b.length ≤ c) (hcm : c ≤ 9223372036854775807) (hm : b.length ≤ 1099511627776) (T : List UInt8) (E : List Ent) (hd : readF key b = .inr (T, E)) (hmay : ¬ MayP L) :
    Calls Tryd.prog 21 #[.slice A0 L.length c0, .agg (bys key).toArray, .slice A b.length c] w (ClaW w none) := by
  have hb1 := HB.new w 24 (bys key)
  have hB1 := below_alloc1 w (.cells (bys key).toArray 24)
  generalize hw1 : w.alloc (.cells (bys key).toArray 24) = w1 at *
  have HKE := Lib.hid hb1
  have HB1 := Lib.hid hB1
  have HRD := Lib.hid (read_any w1 key hkey A c b ((hs.below hB1).wide hB1.size) hc hcm hm)
  have HKY := Lib.hid hkey; have HKC := Lib.hid hk; have HBW0 := Lib.hid hBw; have HEL := Lib.hid h; have HLC := Lib.hid hlc; have HLM := Lib.hid hlm; have HLN := Lib.hid hln
  have HKI : Hid ((Tryd.prog.info? 24).map (·.size) = some (bys key).toArray.size) := dig_info hkey
  have hk1 := hb1
  obtain ⟨nL, hnL⟩ : ∃ n, n = L.length := ⟨_, rfl⟩
  rw [← hnL]
  have HNL := Lib.hid hnL
  clear hb1 hB1 hs hc hcm hm hkey hk hBw h hlc hlm hln hnL
  have HDD : Hid (decide (MayP L) = false) := Lib.hid (by simpa using hmay)
  clear hmay
  rw [hd] at HRD
  obtain ⟨hT1, hT2, hE2, -⟩ := readF_ok hd
  have HT1 := Lib.hid hT1; have HT2 := Lib.hid hT2; have HE2 := Lib.hid hE2
  clear hd hT1 hT2 hE2
  go_enter Tryd.func21, Tryd.ntmps21
  go_wp2_with (refine wpList_load_row rfl 24 _ rfl w.heap.size rfl 24 (bys key).toArray (0, 0) _ hk1 Tryd.underlying24 rfl HKI.out ?_)
  clear hw1 hk1
  refine HRD.out.mono ?_
  rintro e w2 ⟨hB2, As, cs, A3, c3, vs3, rfl, hS, hc3, hcm3, hents, hAs, hnew⟩
  have hBw := HB1.out.trans (hB2.mono HB1.out.size)
  have HKE2 := Lib.hid (HKE.out.below hB2 HKE.out.lt)
  have HS := Lib.hid hS; have HEN := Lib.hid hents; have HC3 := Lib.hid hc3; have HBW := Lib.hid hBw; have HCM3 := Lib.hid hcm3
  clear hcm3
  have hz := Tryd.zeroTrail
  have hb9 := HB.new w2 62 zTr
  have hB9 := below_alloc1 w2 (.cells zTr.toArray 62)
  have hw3' : w2.alloc (.cells #[.slice none 0 0, .slice none 0 0] 62) = w2.alloc (.cells zTr.toArray 62) := rfl
  have hz3 : (w2.alloc (.cells zTr.toArray 62)).heap.size = w2.heap.size + 1 := by simp
  generalize hw3 : w2.alloc (.cells zTr.toArray 62) = w3 at *
  have hc0z : w3.cell? ⟨w2.heap.size, 0, none⟩ = some (.slice none 0 0) := by rw [hb9.cell]; rfl
  have hf0z := hb9.frozen 0
  have hc1z : w3.cell? ⟨w2.heap.size, 1, none⟩ = some (.slice none 0 0) := by rw [hb9.cell]; rfl
  have hf1z := hb9.frozen 1
  obtain ⟨nt, hnt⟩ : ∃ n, n = T.length := ⟨_, rfl⟩
  obtain ⟨m, hm⟩ : ∃ n, n = E.length := ⟨_, rfl⟩
  have HNT := Lib.hid hnt; have HM := Lib.hid hm
  rw [← hnt] at HS ⊢
  rw [← hm] at HC3 ⊢
  have HX : Hid (∀ W, (w3.setCell ⟨w2.heap.size, 0, none⟩ (.slice As nt cs)).setCell ⟨w2.heap.size, 1, none⟩ (.slice A3 m c3) = W → HB W w2.heap.size 62 [.slice As nt cs, .slice A3 m c3] ∧ Below w2.heap.size w2 W) := Lib.hid (fun W hW => by
    subst hW
    exact ⟨(hb9.set_ 0 _).set_ 1 _, (hB9.setCell (by simp) _).setCell (by simp) _⟩)
  clear hB2 hS hents hAs hnew hc3 hBw hb9 hB9 hnt hm HRD
  go_wp2_with fail
  clear hw3 hw3' hc0z hf0z hc1z hf1z hz
  obtain ⟨h1, h2⟩ := HX.out _ rfl
  clear HX
  generalize (w3.setCell ⟨w2.heap.size, 0, none⟩ (.slice As nt cs)).setCell ⟨w2.heap.size, 1, none⟩ (.slice A3 m c3) = w4 at *
  have hz4 := h2.size
  have hg4 := h1.lt
  obtain ⟨g9, hg9⟩ : ∃ g : Nat, w2.heap.size = g := ⟨_, rfl⟩
  have HG9 := Lib.hid hg9
  have hb2 := h2
  rw [hg9] at h1 ⊢
  have H9 := Lib.hid h1
  have HKE4 := Lib.hid (HKE2.out.below hb2 HKE2.out.lt)
  have HBW4 := Lib.hid (HBW.out.trans (hb2.mono HBW.out.size))
  have HS4 := Lib.hid ((HS.out.below hb2).wide hb2.size)
  have HEN4 := Lib.hid ((HEN.out.below hb2).wide hb2.size)
  have HK4 := Lib.hid (HKC.out.below HBW4.out HKC.out.2.2)
  have HE4 := Lib.hid (HEL.out.below (HBW4.out.mono HBW0.out))
  have HB4 : Hid (B ≤ w4.heap.size) := Lib.hid (Nat.le_trans HBW0.out HBW4.out.size)
  clear h1 h2 hb2 hz4 hg4 hg9 hz3 HKE2 HS HEN HBW HEL HKC HKE HB1
  have HMAY := Lib.hid (may_any w4 B c0 HB4.out A0 vs0 L HE4.out HLN.out)
  rw [← HNL.out] at HMAY
  refine HMAY.out.mono ?_
  rintro e w5 ⟨rfl, hB5⟩
  clear HMAY
  rw [HDD.out]
  have HFIN := Lib.hid (HBW4.out.trans (hB5.mono HBW4.out.size))
  clear hB5
  go_wp2
  go_ret3
  exact ⟨HFIN.out, none, 0, none, 0, rfl, slot_nil' _ _, slot_nil' _ _⟩
set_option maxRecDepth 20000 in
set_option maxHeartbeats 3200000 in
theorem clash_ok (w : World) (hk : Consts w) (B c0 : Nat) (hBw : B ≤ w.heap.size) (A0 : Option Addr) (vs0 : List Value) (L : List Ent) (h : EntsW w B A0 vs0 L) (hlc : L.length ≤ c0) (hlm : c0 ≤ 9223372036854775807) (hln : L.length ≤ 4611686018427387904) (key : List UInt8) (hkey : key.length = 32) (A : Option Addr) (c : Nat) (b : List UInt8) (hs : Sees w w.heap.size 1 A b.length (bys b)) (hc : b.length ≤ c) (hcm : c ≤ 9223372036854775807) (hm : b.length ≤ 1099511627776) (T : List UInt8) (E : List Ent) (hd : readF key b = .inr (T, E)) (hmay : MayP L) (r : Option (List UInt8 × List UInt8)) (hr : r = clashT (preT key 0 (sibT key 256 L) (endT key 256 L)) (preT key 0 (sibsT T) E)) :
    Calls Tryd.prog 21 #[.slice A0 L.length c0, .agg (bys key).toArray, .slice A b.length c] w (ClaW w r) := by
  have HRR := Lib.hid hr
  clear hr
  have hb1 := HB.new w 24 (bys key)
  have hB1 := below_alloc1 w (.cells (bys key).toArray 24)
  generalize hw1 : w.alloc (.cells (bys key).toArray 24) = w1 at *
  have HKE := Lib.hid hb1
  have HB1 := Lib.hid hB1
  have HRD := Lib.hid (read_any w1 key hkey A c b ((hs.below hB1).wide hB1.size) hc hcm hm)
  have HKY := Lib.hid hkey; have HKC := Lib.hid hk; have HBW0 := Lib.hid hBw; have HEL := Lib.hid h; have HLC := Lib.hid hlc; have HLM := Lib.hid hlm; have HLN := Lib.hid hln
  have HKI : Hid ((Tryd.prog.info? 24).map (·.size) = some (bys key).toArray.size) := dig_info hkey
  have hk1 := hb1
  obtain ⟨nL, hnL⟩ : ∃ n, n = L.length := ⟨_, rfl⟩
  rw [← hnL]
  have HNL := Lib.hid hnL
  clear hb1 hB1 hs hc hcm hm hkey hk hBw h hlc hlm hln hnL
  have HDD : Hid (decide (MayP L) = true) := Lib.hid (by simpa using hmay)
  have HMP := Lib.hid hmay
  clear hmay
  rw [hd] at HRD
  obtain ⟨hT1, hT2, hE2, -⟩ := readF_ok hd
  have HT1 := Lib.hid hT1; have HT2 := Lib.hid hT2; have HE2 := Lib.hid hE2
  clear hd hT1 hT2 hE2
  go_enter Tryd.func21, Tryd.ntmps21
  go_wp2_with (refine wpList_load_row rfl 24 _ rfl w.heap.size rfl 24 (bys key).toArray (0, 0) _ hk1 Tryd.underlying24 rfl HKI.out ?_)
  clear hw1 hk1
  refine HRD.out.mono ?_
  rintro e w2 ⟨hB2, As, cs, A3, c3, vs3, rfl, hS, hc3, hcm3, hents, hAs, hnew⟩
  have hBw := HB1.out.trans (hB2.mono HB1.out.size)
  have HKE2 := Lib.hid (HKE.out.below hB2 HKE.out.lt)
  have HS := Lib.hid hS; have HEN := Lib.hid hents; have HC3 := Lib.hid hc3; have HBW := Lib.hid hBw; have HCM3 := Lib.hid hcm3
  clear hcm3
  have hz := Tryd.zeroTrail
  have hb9 := HB.new w2 62 zTr
  have hB9 := below_alloc1 w2 (.cells zTr.toArray 62)
  have hw3' : w2.alloc (.cells #[.slice none 0 0, .slice none 0 0] 62) = w2.alloc (.cells zTr.toArray 62) := rfl
  have hz3 : (w2.alloc (.cells zTr.toArray 62)).heap.size = w2.heap.size + 1 := by simp
  generalize hw3 : w2.alloc (.cells zTr.toArray 62) = w3 at *
  have hc0z : w3.cell? ⟨w2.heap.size, 0, none⟩ = some (.slice none 0 0) := by rw [hb9.cell]; rfl
  have hf0z := hb9.frozen 0
  have hc1z : w3.cell? ⟨w2.heap.size, 1, none⟩ = some (.slice none 0 0) := by rw [hb9.cell]; rfl
  have hf1z := hb9.frozen 1
  obtain ⟨nt, hnt⟩ : ∃ n, n = T.length := ⟨_, rfl⟩
  obtain ⟨m, hm⟩ : ∃ n, n = E.length := ⟨_, rfl⟩
  have HNT := Lib.hid hnt; have HM := Lib.hid hm
  rw [← hnt] at HS ⊢
  rw [← hm] at HC3 ⊢
  have HX : Hid (∀ W, (w3.setCell ⟨w2.heap.size, 0, none⟩ (.slice As nt cs)).setCell ⟨w2.heap.size, 1, none⟩ (.slice A3 m c3) = W → HB W w2.heap.size 62 [.slice As nt cs, .slice A3 m c3] ∧ Below w2.heap.size w2 W) := Lib.hid (fun W hW => by
    subst hW
    exact ⟨(hb9.set_ 0 _).set_ 1 _, (hB9.setCell (by simp) _).setCell (by simp) _⟩)
  clear hB2 hS hents hAs hnew hc3 hBw hb9 hB9 hnt hm HRD
  go_wp2_with fail
  clear hw3 hw3' hc0z hf0z hc1z hf1z hz
  obtain ⟨h1, h2⟩ := HX.out _ rfl
  clear HX
  generalize (w3.setCell ⟨w2.heap.size, 0, none⟩ (.slice As nt cs)).setCell ⟨w2.heap.size, 1, none⟩ (.slice A3 m c3) = w4 at *
  have hz4 := h2.size
  have hg4 := h1.lt
  obtain ⟨g9, hg9⟩ : ∃ g : Nat, w2.heap.size = g := ⟨_, rfl⟩
  have HG9 := Lib.hid hg9
  have hb2 := h2
  rw [hg9] at h1 ⊢
  have H9 := Lib.hid h1
  have HKE4 := Lib.hid (HKE2.out.below hb2 HKE2.out.lt)
  have HBW4 := Lib.hid (HBW.out.trans (hb2.mono HBW.out.size))
  have HS4 := Lib.hid ((HS.out.below hb2).wide hb2.size)
  have HEN4 := Lib.hid ((HEN.out.below hb2).wide hb2.size)
  have HK4 := Lib.hid (HKC.out.below HBW4.out HKC.out.2.2)
  have HE4 := Lib.hid (HEL.out.below (HBW4.out.mono HBW0.out))
  have HB4 : Hid (B ≤ w4.heap.size) := Lib.hid (Nat.le_trans HBW0.out HBW4.out.size)
  clear h1 h2 hb2 hz4 hg4 hg9 hz3 HKE2 HS HEN HBW HEL HKC HKE HB1
  have HMAY := Lib.hid (may_any w4 B c0 HB4.out A0 vs0 L HE4.out HLN.out)
  rw [← HNL.out] at HMAY
  refine HMAY.out.mono ?_
  rintro e w5 ⟨rfl, hB5⟩
  clear HMAY
  rw [HDD.out]
  have HBW5 := Lib.hid (HBW4.out.trans (hB5.mono HBW4.out.size))
  have H95 := Lib.hid (H9.out.below hB5 H9.out.lt)
  have HKE5 := Lib.hid (HKE4.out.below hB5 HKE4.out.lt)
  have HS5 := Lib.hid ((HS4.out.below hB5).wide hB5.size)
  have HEN5 := Lib.hid ((HEN4.out.below hB5).wide hB5.size)
  have HK5 := Lib.hid (HK4.out.below hB5 HK4.out.2.2)
  have HE5 := Lib.hid (HE4.out.below (hB5.mono HB4.out))
  have HB5 : Hid (B ≤ w5.heap.size) := Lib.hid (Nat.le_trans HB4.out hB5.size)
  clear hB5 H9 HKE4 HS4 HEN4 HK4 HE4 HB4 HBW4
  obtain ⟨S0, hS0⟩ : ∃ s, (sibT key 256 L).flatten = s := ⟨_, rfl⟩
  obtain ⟨E0, hE0⟩ : ∃ e, endT key 256 L = e := ⟨_, rfl⟩
  have hfew := endT_few key HKY.out 256 L (Nat.le_refl _) HMP.out HE5.out.keys (on_0 HE5.out.keys HKY.out)
  have hsl := sibT_len key 256 L
  have hfl := flat_len (sibT key 256 L) hsl.2
  have hsf := sibsT_flat (sibT key 256 L) hsl.2
  obtain ⟨P1, hP1⟩ : ∃ P, preT key 0 (sibT key 256 L) (endT key 256 L) = P := ⟨_, rfl⟩
  obtain ⟨P2, hP2⟩ : ∃ P, preT key 0 (sibsT T) E = P := ⟨_, rfl⟩
  rw [hP1, hP2] at HRR
  have HTRA : Hid (∀ W, Below w5.heap.size w5 W → Calls Tryd.prog 27 #[.slice A0 nL c0, .agg (bys key).toArray] W (fun e w' => ∃ v A' c' vs', e = .returned (.agg #[v, .slice A' E0.length c']) ∧ SlotK (· < W.heap.size) w' v S0 ∧ EntsW W B A' vs' E0 ∧ E0.length ≤ c' ∧ c' ≤ 9223372036854775807 ∧ Below W.heap.size W w')) := Lib.hid (fun W hW => by
    have := trail_any W B c0 (Nat.le_trans HB5.out hW.size) A0 vs0 L (HE5.out.below (hW.mono HB5.out)) HMP.out HLC.out HLM.out HLN.out (HK5.out.below hW HK5.out.2.2) key HKY.out
    unfold Trailed at this
    rw [hS0, hE0, ← HNL.out] at this
    exact this)
  have HPR1 : Hid (∀ W, Below w5.heap.size w5 W → ∀ u A' c' vs', Slot W W.heap.size u S0 → EntsW w5 B A' vs' E0 → E0.length ≤ c' → c' ≤ 9223372036854775807 → Calls Tryd.prog 35 #[.agg #[u, .slice A' E0.length c'], .agg (bys key).toArray] W (PreP W P1)) := Lib.hid (fun W hW u A' c' vs' h1 h2 h3 h4 => by
    obtain ⟨Au, cu, rfl, q1, q2, q3⟩ := h1
    have := pre_any W key HKY.out (HK5.out.below hW HK5.out.2.2) S0 (by rw [← hS0]; omega) (by rw [← hS0]; omega) Au cu ⟨Au, cu, rfl, q1, q2, q3⟩ B (Nat.le_trans HB5.out hW.size) A' c' vs' E0 (h2.below (hW.mono HB5.out)) (by rw [← hE0]; exact hfew.1) h3 h4
    rw [← hS0, hsf, ← hE0, hP1, hE0, hS0] at this
    exact this)
  have HPR2 : Hid (∀ W, Below w5.heap.size w5 W → Calls Tryd.prog 35 #[.agg [.slice As nt cs, .slice A3 m c3].toArray, .agg (bys key).toArray] W (PreP W P2)) := Lib.hid (fun W hW => by
    have := pre_any W key HKY.out (HK5.out.below hW HK5.out.2.2) T HT2.out HT1.out As cs (by have q := (HS5.out.below hW).wide hW.size; rw [HNT.out] at q; exact q) w5.heap.size hW.size A3 c3 vs3 E (HEN5.out.below hW) HE2.out (by rw [← HM.out]; exact HC3.out) HCM3.out
    rw [hP2, ← HNT.out, ← HM.out] at this
    exact this)
  have hl1 : P1.length = (sibT key 256 L).length + 1 := by rw [← hP1]; exact preT_len key 0 _ _
  have hl2 : P2.length = (sibsT T).length + 1 := by rw [← hP2]; exact preT_len key 0 _ _
  have hsh1 : ∀ p ∈ P1, p.length ≤ 1152921504606846974 := hP1 ▸ preT_short key 0 _ _ hsl.2 (fun e he => HE5.out.keys e (endT_sub key 256 L e he)) (fun e he => HE5.out.short e (endT_sub key 256 L e he))
  have hsh2 : ∀ p ∈ P2, p.length ≤ 1152921504606846974 := hP2 ▸ preT_short key 0 _ _ (sibsT_32 T) HEN5.out.keys HEN5.out.short
  rw [sibsT_len] at hl2
  have HL1 : Hid (P1.length ≤ 257) := Lib.hid (by omega)
  have HL2 : Hid (P2.length ≤ 257) := Lib.hid (by have := HT1.out; omega)
  have HSH1 := Lib.hid hsh1; have HSH2 := Lib.hid hsh2
  clear hS0 hE0 hfew hsl hfl hsf hP1 hP2 hl1 hl2 hsh1 hsh2 HMP HDD HT1 HT2 HE2 HS5 HEN5
  go_wp2_with fail
  refine wp_region_inv 67 (ClaR w5 B (.slice A0 nL c0) key S0 E0 [.slice As nt cs, .slice A3 m c3] P1 P2) (Below w5.heap.size w5) (fun _ W1 W2 => Below W1.heap.size W1 W2) (by kernel_rfl) (by rfl) (by kernel_rfl) (fun i j v W W' _ _ _ hT hR => ClaR.keep j hT hR) (fun _ _ _ e h => h.trans (e.mono h.size)) (Below.drew (Below.refl _ _)) (fun j ho1 ho vs W hI hdep => ?_) (fun vs W hI hR => ?_)
  · rcases j with _ | j
    · simp only [List.getElem?_toArray, List.getElem?_cons_zero, Option.some.injEq] at ho
      subst ho
      refine .inl ⟨rfl, fun K Q hK => ?_⟩
      simp only [putFrom, Act.put, List.setIfInBounds_toArray, List.set_cons_succ, List.set_cons_zero, Nat.reduceAdd] at hK ⊢
      have HOUT := Lib.hid hK
      clear hK hdep
      go_simp
      refine HOUT.out _ _ _ rfl ⟨Below.refl _ _, ?_⟩
      exact rfl
    rcases j with _ | j
    · simp only [List.getElem?_toArray, List.getElem?_cons_succ, List.getElem?_cons_zero, Option.some.injEq, Nat.zero_add] at ho
      subst ho
      refine .inl ⟨rfl, fun K Q hK => ?_⟩
      simp only [putFrom, Act.put, List.setIfInBounds_toArray, List.set_cons_succ, List.set_cons_zero, Nat.reduceAdd] at hK ⊢
      have HOUT := Lib.hid hK
      clear hK hdep
      refine wp_load_mid 24 _ rfl w.heap.size 0 rfl (bys key) _ (HKE5.out.below hI HKE5.out.lt).rngT Tryd.underlying24 rfl (by rw [bys_len, HKY.out]; exact Tryd.infoD) ?_
      simp only [Act.put, List.setIfInBounds_toArray, List.set_cons_succ, List.set_cons_zero]
      refine HOUT.out _ _ _ rfl ⟨Below.refl _ _, ?_⟩
      exact rfl
    rcases j with _ | j
    · simp only [List.getElem?_toArray, List.getElem?_cons_succ, List.getElem?_cons_zero, Option.some.injEq, Nat.zero_add] at ho
      subst ho
      have e0 : vs 0 = _ := hdep 0 rfl
      have e1 : vs 1 = _ := hdep 1 rfl
      have htr := Lib.hid (HTRA.out W hI)
      refine .inl ⟨rfl, fun K Q hK => ?_⟩
      simp only [putFrom, Act.put, List.setIfInBounds_toArray, List.set_cons_succ, List.set_cons_zero, Nat.reduceAdd, e0, e1] at hK ⊢
      have HOUT := Lib.hid hK
      clear hK hdep e0 e1
      go_simp
      refine htr.out.mono ?_
      rintro e w6 ⟨v6, A6, c6, vs6, rfl, h61, h62, h63, h64, hB6⟩
      go_simp
      refine HOUT.out _ _ _ rfl ⟨hB6, ?_⟩
      exact ⟨v6, A6, c6, vs6, rfl, h61.slot, ents_back h62 hI HB5.out, h63, h64⟩
    rcases j with _ | j
    · simp only [List.getElem?_toArray, List.getElem?_cons_succ, List.getElem?_cons_zero, Option.some.injEq, Nat.zero_add] at ho
      subst ho
      refine .inl ⟨rfl, fun K Q hK => ?_⟩
      simp only [putFrom, Act.put, List.setIfInBounds_toArray, List.set_cons_succ, List.set_cons_zero, Nat.reduceAdd] at hK ⊢
      have HOUT := Lib.hid hK
      clear hK hdep
      refine wp_load_mid 24 _ rfl w.heap.size 0 rfl (bys key) _ (HKE5.out.below hI HKE5.out.lt).rngT Tryd.underlying24 rfl (by rw [bys_len, HKY.out]; exact Tryd.infoD) ?_
      simp only [Act.put, List.setIfInBounds_toArray, List.set_cons_succ, List.set_cons_zero]
      refine HOUT.out _ _ _ rfl ⟨Below.refl _ _, ?_⟩
      exact rfl
    rcases j with _ | j
    · simp only [List.getElem?_toArray, List.getElem?_cons_succ, List.getElem?_cons_zero, Option.some.injEq, Nat.zero_add] at ho
      subst ho
      obtain ⟨u2, A2, c2, vs2, e2, h21, h22, h23, h24⟩ := hdep 2 rfl
      have e3 : vs 3 = _ := hdep 3 rfl
      have hpr := Lib.hid (HPR1.out W hI u2 A2 c2 vs2 h21 h22 h23 h24)
      refine .inl ⟨rfl, fun K Q hK => ?_⟩
      simp only [putFrom, Act.put, List.setIfInBounds_toArray, List.set_cons_succ, List.set_cons_zero, Nat.reduceAdd, e2, e3] at hK ⊢
      have HOUT := Lib.hid hK
      clear hK hdep e2 e3
      go_simp
      refine hpr.out.mono ?_
      rintro e w6 ⟨hB6, ad, c6, vs6, rfl, h61, h62, h63, h64⟩
      go_simp
      refine HOUT.out _ _ _ rfl ⟨hB6, ?_⟩
      exact ⟨ad, c6, vs6, rfl, h61, h62, h63, h64⟩
    rcases j with _ | j
    · simp only [List.getElem?_toArray, List.getElem?_cons_succ, List.getElem?_cons_zero, Option.some.injEq, Nat.zero_add] at ho
      subst ho
      refine .inl ⟨rfl, fun K Q hK => ?_⟩
      simp only [putFrom, Act.put, List.setIfInBounds_toArray, List.set_cons_succ, List.set_cons_zero, Nat.reduceAdd] at hK ⊢
      have HOUT := Lib.hid hK
      clear hK hdep
      refine wp_load_mid 62 _ rfl g9 0 rfl ([.slice As nt cs, .slice A3 m c3]) _ (H95.out.below hI H95.out.lt).rngT Tryd.underlying62 rfl (by kernel_rfl) ?_
      simp only [Act.put, List.setIfInBounds_toArray, List.set_cons_succ, List.set_cons_zero]
      refine HOUT.out _ _ _ rfl ⟨Below.refl _ _, ?_⟩
      exact rfl
    rcases j with _ | j
    · simp only [List.getElem?_toArray, List.getElem?_cons_succ, List.getElem?_cons_zero, Option.some.injEq, Nat.zero_add] at ho
      subst ho
      refine .inl ⟨rfl, fun K Q hK => ?_⟩
      simp only [putFrom, Act.put, List.setIfInBounds_toArray, List.set_cons_succ, List.set_cons_zero, Nat.reduceAdd] at hK ⊢
      have HOUT := Lib.hid hK
      clear hK hdep
      refine wp_load_mid 24 _ rfl w.heap.size 0 rfl (bys key) _ (HKE5.out.below hI HKE5.out.lt).rngT Tryd.underlying24 rfl (by rw [bys_len, HKY.out]; exact Tryd.infoD) ?_
      simp only [Act.put, List.setIfInBounds_toArray, List.set_cons_succ, List.set_cons_zero]
      refine HOUT.out _ _ _ rfl ⟨Below.refl _ _, ?_⟩
      exact rfl
    rcases j with _ | j
    · simp only [List.getElem?_toArray, List.getElem?_cons_succ, List.getElem?_cons_zero, Option.some.injEq, Nat.zero_add] at ho
      subst ho
      have e5 : vs 5 = _ := hdep 5 rfl
      have e6 : vs 6 = _ := hdep 6 rfl
      have hpr := Lib.hid (HPR2.out W hI)
      refine .inl ⟨rfl, fun K Q hK => ?_⟩
      simp only [putFrom, Act.put, List.setIfInBounds_toArray, List.set_cons_succ, List.set_cons_zero, Nat.reduceAdd, e5, e6] at hK ⊢
      have HOUT := Lib.hid hK
      clear hK hdep e5 e6
      go_simp
      refine hpr.out.mono ?_
      rintro e w6 ⟨hB6, ad, c6, vs6, rfl, h61, h62, h63, h64⟩
      go_simp
      refine HOUT.out _ _ _ rfl ⟨hB6, ?_⟩
      exact ⟨ad, c6, vs6, rfl, h61, h62, h63, h64⟩
    rcases j with _ | j
    · simp only [List.getElem?_toArray, List.getElem?_cons_succ, List.getElem?_cons_zero, Option.some.injEq, Nat.zero_add] at ho
      subst ho
      obtain ⟨ad, c4, vs4, e4, h41, h42, h43, h44⟩ := hdep 4 rfl
      refine .inl ⟨rfl, fun K Q hK => ?_⟩
      simp only [putFrom, Act.put, List.setIfInBounds_toArray, List.set_cons_succ, List.set_cons_zero, Nat.reduceAdd, e4] at hK ⊢
      have HOUT := Lib.hid hK
      clear hK hdep e4
      go_simp
      refine HOUT.out _ _ _ rfl ⟨Below.refl _ _, ?_⟩
      exact ⟨ad, c4, vs4, rfl, h41, h42, h43, h44⟩
    rcases j with _ | j
    · simp only [List.getElem?_toArray, List.getElem?_cons_succ, List.getElem?_cons_zero, Option.some.injEq, Nat.zero_add] at ho
      subst ho
      obtain ⟨ad, c7, vs7, e7, h41, h42, h43, h44⟩ := hdep 7 rfl
      refine .inl ⟨rfl, fun K Q hK => ?_⟩
      simp only [putFrom, Act.put, List.setIfInBounds_toArray, List.set_cons_succ, List.set_cons_zero, Nat.reduceAdd, e7] at hK ⊢
      have HOUT := Lib.hid hK
      clear hK hdep e7
      go_simp
      refine HOUT.out _ _ _ rfl ⟨Below.refl _ _, ?_⟩
      exact ⟨ad, c7, vs7, rfl, h41, h42, h43, h44⟩
    exact absurd ho (by simp)
  · obtain ⟨ad1, d1, us1, e8, h11, h12, h13, h14⟩ := hR 8 (by decide)
    obtain ⟨ad2, d2, us2, e9, h21, h22, h23, h24⟩ := hR 9 (by decide)
    have HX1 := Lib.hid (And.intro h11 (And.intro h12 (And.intro h13 h14))); have HX2 := Lib.hid (And.intro h21 (And.intro h22 (And.intro h23 h24)))
    have HKW := Lib.hid (HK5.out.below hI HK5.out.2.2)
    have HBW := Lib.hid (HBW5.out.trans (hI.mono HBW5.out.size))
    clear hR hI h11 h12 h13 h14 h21 h22 h23 h24
    simp only [putFrom, Act.put, List.setIfInBounds_toArray, List.set_cons_succ, List.set_cons_zero, Nat.reduceAdd, e8, e9]
    clear e8 e9
    generalize vs 0 = q0 at *; generalize vs 1 = q1 at *; generalize vs 2 = q2 at *; generalize vs 3 = q3 at *; generalize vs 4 = q4 at *; generalize vs 5 = q5 at *; generalize vs 6 = q6 at *; generalize vs 7 = q7 at *
    obtain ⟨n1, hn1⟩ : ∃ n, n = P1.length := ⟨_, rfl⟩
    obtain ⟨n2, hn2⟩ : ∃ n, n = P2.length := ⟨_, rfl⟩
    rw [← hn1, ← hn2]
    have HN1 := Lib.hid hn1; have HN2 := Lib.hid hn2
    have hle1 : (n1 : Int) ≤ 257 := by have := HL1.out; omega
    have hle2 : (n2 : Int) ≤ 257 := by have := HL2.out; omega
    clear hn1 hn2
    rcases Nat.lt_or_ge n2 n1 with hnn | hnn
    · have hnn' : (n2 : Int) < (n1 : Int) := by omega
      have HLE : Hid (n2 ≤ n1 ∧ n2 ≤ n2 ∧ (n2 = n1 ∨ n2 = n2)) := Lib.hid ⟨by omega, Nat.le_refl _, .inr rfl⟩
      go_wp2_with fail
      go_loopw [42] (fun t wr => ∃ i : Nat, t = .int .i64 (i : Int) ∧ i ≤ n2 ∧ clashT (P1.drop i) (P2.drop i) = r ∧ Below W.heap.size W wr) (fun t _ => n2 - (intOf t).toNat)
      case atStart => exact ⟨0, rfl, Nat.zero_le _, HRR.out.symm, Below.refl _ _⟩
      case round =>
        obtain ⟨i, rfl, hiK, hcl, hBr⟩ := hrel
        have HCL := Lib.hid hcl; have HBr := Lib.hid hBr
        clear hcl hBr
        rcases Nat.lt_or_ge i n2 with hlt | hge
        · have hlt' : (i : Int) < (n2 : Int) := by omega
          have hi0 : (0 : Int) ≤ (i : Int) := by omega
          have hi1 : i < P1.length := by have := HN1.out; have := HLE.out; omega
          have hi2 : i < P2.length := by have := HN2.out; have := HLE.out; omega
          have hii1 : (i : Int) < (n1 : Int) := by have := HN1.out; omega
          have hii2 : (i : Int) < (n2 : Int) := by have := HN2.out; omega
          obtain ⟨Aa, ca, ha1, ha2, ha3, ha4⟩ := HX1.out.2.2.2.2 i (P1[i]'hi1) (List.getElem?_eq_getElem hi1)
          obtain ⟨Ab, cb, hb1, hb2, hb3, hb4⟩ := HX2.out.2.2.2.2 i (P2[i]'hi2) (List.getElem?_eq_getElem hi2)
          obtain ⟨adx, hadx, -, hx1⟩ := HX1.out.2.2.1.some_ (by omega)
          cases hadx
          obtain ⟨ady, hady, -, hx2⟩ := HX2.out.2.2.1.some_ (by omega)
          cases hady
          have hm1 := HSH1.out _ (List.getElem_mem hi1)
          have hm2 := HSH2.out _ (List.getElem_mem hi2)
          have hd1 : P1.drop i = (P1[i]'hi1) :: P1.drop (i + 1) := List.drop_eq_getElem_cons hi1
          have hd2 : P2.drop i = (P2[i]'hi2) :: P2.drop (i + 1) := List.drop_eq_getElem_cons hi2
          have hcl := HCL.out
          rw [hd1, hd2] at hcl
          have hy1 := cell_old (hx1 i _ ha1) HBr.out
          have hy2 := cell_old (hx2 i _ hb1) HBr.out
          have HQ1 : Hid (∀ wb, Below wr.heap.size wr wb → wb.cell? (ad1.add i) = some (.slice Aa (P1[i]'hi1).length ca)) := Lib.hid (fun wb hI => cell_old hy1 hI)
          have HQ2 : Hid (∀ wb, Below wr.heap.size wr wb → wb.cell? (ad2.add i) = some (.slice Ab (P2[i]'hi2).length cb)) := Lib.hid (fun wb hI => cell_old hy2 hI)
          have hsa := (ha4.below HBr.out).wide HBr.out.size
          have hsb := (hb4.below HBr.out).wide HBr.out.size
          have hkr := HKW.out.below HBr.out HKW.out.2.2
          generalize (P1[i]'hi1) = a at *
          generalize (P2[i]'hi2) = bb at *
          have HCLS := Lib.hid hcl; have HSA := Lib.hid hsa; have HSB := Lib.hid hsb; have HKR := Lib.hid hkr
          have HA := Lib.hid (And.intro ha2 (And.intro ha3 hm1)); have HBB := Lib.hid (And.intro hb2 (And.intro hb3 hm2))
          clear hcl hsa hsb hkr ha1 ha2 ha3 ha4 hb1 hb2 hb3 hb4 hx1 hx2 hm1 hm2 hd1 hd2 hy1 hy2 HCL hi1 hi2
          go_wp2_with fail
          refine wp_region_inv 67 (fun jx v _ => v = ([.slice (some ad1) n1 d1, .int .i64 (i : Int), .pointer (some (ad1.add i)), .slice Aa a.length ca, .slice (some ad2) n2 d2, .int .i64 (i : Int), .pointer (some (ad2.add i)), .slice Ab bb.length cb, .slice Aa a.length ca, .slice Ab bb.length cb] : List Value).getD jx undef) (Below wr.heap.size wr) (fun _ W1 W2 => Below W1.heap.size W1 W2) (by kernel_rfl) (by rfl) (by kernel_rfl) (fun _ _ _ _ _ _ _ _ _ hR => hR) (fun _ _ _ e h => h.trans (e.mono h.size)) (Below.drew (Below.refl _ _)) (fun jx o ho vs wb hI hdep => ?_) (fun vs w6 hI hR => ?_)
          · rcases jx with _ | jx
            · simp only [List.getElem?_toArray, List.getElem?_cons_zero, Option.some.injEq] at ho
              subst ho
              refine .inl ⟨rfl, fun K Q hK => ?_⟩
              simp only [putFrom, Act.put, List.setIfInBounds_toArray, List.set_cons_succ, List.set_cons_zero, Nat.reduceAdd] at hK ⊢
              have HOUT := Lib.hid hK
              clear hK hdep 
              go_simp
              exact HOUT.out _ _ _ rfl ⟨Below.refl _ _, rfl⟩
            rcases jx with _ | jx
            · simp only [List.getElem?_toArray, List.getElem?_cons_succ, List.getElem?_cons_zero, Option.some.injEq, Nat.zero_add] at ho
              subst ho
              refine .inl ⟨rfl, fun K Q hK => ?_⟩
              simp only [putFrom, Act.put, List.setIfInBounds_toArray, List.set_cons_succ, List.set_cons_zero, Nat.reduceAdd] at hK ⊢
              have HOUT := Lib.hid hK
              clear hK hdep 
              go_simp
              exact HOUT.out _ _ _ rfl ⟨Below.refl _ _, rfl⟩
            rcases jx with _ | jx
            · simp only [List.getElem?_toArray, List.getElem?_cons_succ, List.getElem?_cons_zero, Option.some.injEq, Nat.zero_add] at ho
              subst ho
              have e0 : vs 0 = .slice (some ad1) n1 d1 := hdep 0 rfl
              have e1 : vs 1 = .int .i64 (i : Int) := hdep 1 rfl
              refine .inl ⟨rfl, fun K Q hK => ?_⟩
              simp only [putFrom, Act.put, List.setIfInBounds_toArray, List.set_cons_succ, List.set_cons_zero, Nat.reduceAdd, e0, e1] at hK ⊢
              have HOUT := Lib.hid hK
              clear hK hdep e0 e1
              go_simp
              exact HOUT.out _ _ _ rfl ⟨Below.refl _ _, rfl⟩
            rcases jx with _ | jx
            · simp only [List.getElem?_toArray, List.getElem?_cons_succ, List.getElem?_cons_zero, Option.some.injEq, Nat.zero_add] at ho
              subst ho
              have e2 : vs 2 = .pointer (some (ad1.add i)) := hdep 2 rfl
              have hq1 := HQ1.out wb hI
              refine .inl ⟨rfl, fun K Q hK => ?_⟩
              simp only [putFrom, Act.put, List.setIfInBounds_toArray, List.set_cons_succ, List.set_cons_zero, Nat.reduceAdd, e2] at hK ⊢
              have HOUT := Lib.hid hK
              clear hK hdep e2
              go_simp
              exact HOUT.out _ _ _ rfl ⟨Below.refl _ _, rfl⟩
            rcases jx with _ | jx
            · simp only [List.getElem?_toArray, List.getElem?_cons_succ, List.getElem?_cons_zero, Option.some.injEq, Nat.zero_add] at ho
              subst ho
              refine .inl ⟨rfl, fun K Q hK => ?_⟩
              simp only [putFrom, Act.put, List.setIfInBounds_toArray, List.set_cons_succ, List.set_cons_zero, Nat.reduceAdd] at hK ⊢
              have HOUT := Lib.hid hK
              clear hK hdep 
              go_simp
              exact HOUT.out _ _ _ rfl ⟨Below.refl _ _, rfl⟩
            rcases jx with _ | jx
            · simp only [List.getElem?_toArray, List.getElem?_cons_succ, List.getElem?_cons_zero, Option.some.injEq, Nat.zero_add] at ho
              subst ho
              refine .inl ⟨rfl, fun K Q hK => ?_⟩
              simp only [putFrom, Act.put, List.setIfInBounds_toArray, List.set_cons_succ, List.set_cons_zero, Nat.reduceAdd] at hK ⊢
              have HOUT := Lib.hid hK
              clear hK hdep 
              go_simp
              exact HOUT.out _ _ _ rfl ⟨Below.refl _ _, rfl⟩
            rcases jx with _ | jx
            · simp only [List.getElem?_toArray, List.getElem?_cons_succ, List.getElem?_cons_zero, Option.some.injEq, Nat.zero_add] at ho
              subst ho
              have e4 : vs 4 = .slice (some ad2) n2 d2 := hdep 4 rfl
              have e5 : vs 5 = .int .i64 (i : Int) := hdep 5 rfl
              refine .inl ⟨rfl, fun K Q hK => ?_⟩
              simp only [putFrom, Act.put, List.setIfInBounds_toArray, List.set_cons_succ, List.set_cons_zero, Nat.reduceAdd, e4, e5] at hK ⊢
              have HOUT := Lib.hid hK
              clear hK hdep e4 e5
              go_simp
              exact HOUT.out _ _ _ rfl ⟨Below.refl _ _, rfl⟩
            rcases jx with _ | jx
            · simp only [List.getElem?_toArray, List.getElem?_cons_succ, List.getElem?_cons_zero, Option.some.injEq, Nat.zero_add] at ho
              subst ho
              have e6 : vs 6 = .pointer (some (ad2.add i)) := hdep 6 rfl
              have hq2 := HQ2.out wb hI
              refine .inl ⟨rfl, fun K Q hK => ?_⟩
              simp only [putFrom, Act.put, List.setIfInBounds_toArray, List.set_cons_succ, List.set_cons_zero, Nat.reduceAdd, e6] at hK ⊢
              have HOUT := Lib.hid hK
              clear hK hdep e6
              go_simp
              exact HOUT.out _ _ _ rfl ⟨Below.refl _ _, rfl⟩
            rcases jx with _ | jx
            · simp only [List.getElem?_toArray, List.getElem?_cons_succ, List.getElem?_cons_zero, Option.some.injEq, Nat.zero_add] at ho
              subst ho
              have e3 : vs 3 = .slice Aa a.length ca := hdep 3 rfl
              refine .inl ⟨rfl, fun K Q hK => ?_⟩
              simp only [putFrom, Act.put, List.setIfInBounds_toArray, List.set_cons_succ, List.set_cons_zero, Nat.reduceAdd, e3] at hK ⊢
              have HOUT := Lib.hid hK
              clear hK hdep e3
              go_simp
              exact HOUT.out _ _ _ rfl ⟨Below.refl _ _, rfl⟩
            rcases jx with _ | jx
            · simp only [List.getElem?_toArray, List.getElem?_cons_succ, List.getElem?_cons_zero, Option.some.injEq, Nat.zero_add] at ho
              subst ho
              have e7 : vs 7 = .slice Ab bb.length cb := hdep 7 rfl
              refine .inl ⟨rfl, fun K Q hK => ?_⟩
              simp only [putFrom, Act.put, List.setIfInBounds_toArray, List.set_cons_succ, List.set_cons_zero, Nat.reduceAdd, e7] at hK ⊢
              have HOUT := Lib.hid hK
              clear hK hdep e7
              go_simp
              exact HOUT.out _ _ _ rfl ⟨Below.refl _ _, rfl⟩
            exact absurd ho (by simp)
          ·
            have e8 : vs 8 = .slice Aa a.length ca := hR 8 (by decide)
            have e9 : vs 9 = .slice Ab bb.length cb := hR 9 (by decide)
            simp only [putFrom, Act.put, List.setIfInBounds_toArray, List.set_cons_succ, List.set_cons_zero, Nat.reduceAdd, e8, e9]
            clear hR e8 e9
            generalize vs 0 = z0 at *; generalize vs 1 = z1 at *; generalize vs 2 = z2 at *; generalize vs 3 = z3 at *; generalize vs 4 = z4 at *; generalize vs 5 = z5 at *; generalize vs 6 = z6 at *; generalize vs 7 = z7 at *
            have HS6 := Lib.hid (And.intro ((HSA.out.below hI).wide hI.size) ((HSB.out.below hI).wide hI.size))
            have HK6 := Lib.hid (HKR.out.below hI HKR.out.2.2)
            have HB6 := Lib.hid (HBr.out.trans (hI.mono HBr.out.size))
            have heq := Lib.hid (equal_any w6.heap.size w6.heap.size Aa Ab ca cb a bb w6 HS6.out.1 HS6.out.2)
            have hsx := Lib.hid (sum_any w6.heap.size Aa ca a w6 HS6.out.1 (Nat.le_refl _) HA.out.1 HA.out.2.1 HA.out.2.2 HK6.out)
            clear hI HSA HSB HKR
            go_wp2_with fail
            refine heq.out.mono ?_
            rintro e w7 ⟨rfl, rfl⟩
            by_cases hab : a = bb
            · have hbe : (a == bb) = true := by simpa using hab
              have HNX : Hid (clashT (P1.drop (i + 1)) (P2.drop (i + 1)) = r) := Lib.hid (by
                have h := HCLS.out
                rw [clashT, if_neg (fun q => q.1 hab)] at h
                exact h)
              clear hab heq hsx
              go_wp2
              go_roundw
              case rel => exact ⟨i + 1, by go_num, by omega, HNX.out, HB6.out⟩
              case measure => simp [intOf]; omega
            · have hbe : (a == bb) = false := by simpa using hab
              have HAB := Lib.hid hab
              clear hab heq
              go_wp2_with fail
              refine hsx.out.mono ?_
              rintro e w8 ⟨rfl, hB8⟩
              have hsy := Lib.hid (sum_any w8.heap.size Ab cb bb w8 ((HS6.out.2.below hB8).wide hB8.size) (Nat.le_refl _) HBB.out.1 HBB.out.2.1 HBB.out.2.2 (HK6.out.below hB8 HK6.out.2.2))
              have HB8 := Lib.hid (HB6.out.trans (hB8.mono HB6.out.size))
              have HS8 := Lib.hid (And.intro ((HS6.out.1.below hB8).wide hB8.size) ((HS6.out.2.below hB8).wide hB8.size))
              clear hB8 hsx
              by_cases hxy : shaF a = shaF bb
              · have HRS : Hid (r = some (a, bb)) := Lib.hid (by
                  have h := HCLS.out
                  rw [clashT, if_pos ⟨HAB.out, hxy⟩] at h
                  exact h.symm)
                have heqd := fun W => eql_d W (shaF a) (shaF bb) (shaF_len _) (shaF_len _)
                have H2 : (shaF a == shaF bb) = true := by simpa using hxy
                clear hxy
                generalize hdx : shaF a = dx at *
                generalize hdy : shaF bb = dy at *
                clear hdx hdy
                go_wp2_with fail
                refine hsy.out.mono ?_
                rintro e w9 ⟨rfl, hB9⟩
                have HS9 := Lib.hid (And.intro ((HS8.out.1.below hB9).wide hB9.size) ((HS8.out.2.below hB9).wide hB9.size))
                have hfin := Lib.hid (HBW.out.trans ((HB8.out.trans (hB9.mono HB8.out.size)).mono HBW.out.size))
                clear hB9 hsy
                go_wp2
                go_ret3
                rw [HRS.out]
                exact ⟨hfin.out, Aa, ca, Ab, cb, rfl, ⟨Aa, ca, rfl, HA.out.1, HA.out.2.1, HS9.out.1⟩, ⟨Ab, cb, rfl, HBB.out.1, HBB.out.2.1, HS9.out.2⟩⟩
              · have HNX : Hid (clashT (P1.drop (i + 1)) (P2.drop (i + 1)) = r) := Lib.hid (by
                  have h := HCLS.out
                  rw [clashT, if_neg (fun q => hxy q.2)] at h
                  exact h)
                have heqd := fun W => eql_d W (shaF a) (shaF bb) (shaF_len _) (shaF_len _)
                have H2 : (shaF a == shaF bb) = false := by simpa using hxy
                clear hxy
                generalize hdx : shaF a = dx at *
                generalize hdy : shaF bb = dy at *
                clear hdx hdy
                go_wp2_with fail
                refine hsy.out.mono ?_
                rintro e w9 ⟨rfl, hB9⟩
                have hfin := Lib.hid (HB8.out.trans (hB9.mono HB8.out.size))
                clear hB9 hsy
                go_wp2
                go_roundw
                case rel => exact ⟨i + 1, by go_num, by omega, HNX.out, hfin.out⟩
                case measure => simp [intOf]; omega
        · have hge' : (n2 : Int) ≤ (i : Int) := by omega
          have HRN : Hid (r = none) := Lib.hid (by
            have h := HCL.out
            obtain rfl : i = n2 := by omega
            have h1 := HN1.out; have h2 := HN2.out; have h3 := HLE.out
            rw [← h]
            exact clashT_end (by omega))
          have hfin := Lib.hid (HBW.out.trans (HBr.out.mono HBW.out.size))
          go_wp2
          go_ret3
          rw [HRN.out]
          exact ⟨hfin.out, none, 0, none, 0, rfl, slot_nil' _ _, slot_nil' _ _⟩
    · have hnn' : (n1 : Int) ≤ (n2 : Int) := by omega
      have HLE : Hid (n1 ≤ n1 ∧ n1 ≤ n2 ∧ (n1 = n1 ∨ n1 = n2)) := Lib.hid ⟨Nat.le_refl _, hnn, .inl rfl⟩
      go_wp2_with fail
      go_loopw [42] (fun t wr => ∃ i : Nat, t = .int .i64 (i : Int) ∧ i ≤ n1 ∧ clashT (P1.drop i) (P2.drop i) = r ∧ Below W.heap.size W wr) (fun t _ => n1 - (intOf t).toNat)
      case atStart => exact ⟨0, rfl, Nat.zero_le _, HRR.out.symm, Below.refl _ _⟩
      case round =>
        obtain ⟨i, rfl, hiK, hcl, hBr⟩ := hrel
        have HCL := Lib.hid hcl; have HBr := Lib.hid hBr
        clear hcl hBr
        rcases Nat.lt_or_ge i n1 with hlt | hge
        · have hlt' : (i : Int) < (n1 : Int) := by omega
          have hi0 : (0 : Int) ≤ (i : Int) := by omega
          have hi1 : i < P1.length := by have := HN1.out; have := HLE.out; omega
          have hi2 : i < P2.length := by have := HN2.out; have := HLE.out; omega
          have hii1 : (i : Int) < (n1 : Int) := by have := HN1.out; omega
          have hii2 : (i : Int) < (n2 : Int) := by have := HN2.out; omega
          obtain ⟨Aa, ca, ha1, ha2, ha3, ha4⟩ := HX1.out.2.2.2.2 i (P1[i]'hi1) (List.getElem?_eq_getElem hi1)
          obtain ⟨Ab, cb, hb1, hb2, hb3, hb4⟩ := HX2.out.2.2.2.2 i (P2[i]'hi2) (List.getElem?_eq_getElem hi2)
          obtain ⟨adx, hadx, -, hx1⟩ := HX1.out.2.2.1.some_ (by omega)
          cases hadx
          obtain ⟨ady, hady, -, hx2⟩ := HX2.out.2.2.1.some_ (by omega)
          cases hady
          have hm1 := HSH1.out _ (List.getElem_mem hi1)
          have hm2 := HSH2.out _ (List.getElem_mem hi2)
          have hd1 : P1.drop i = (P1[i]'hi1) :: P1.drop (i + 1) := List.drop_eq_getElem_cons hi1
          have hd2 : P2.drop i = (P2[i]'hi2) :: P2.drop (i + 1) := List.drop_eq_getElem_cons hi2
          have hcl := HCL.out
          rw [hd1, hd2] at hcl
          have hy1 := cell_old (hx1 i _ ha1) HBr.out
          have hy2 := cell_old (hx2 i _ hb1) HBr.out
          have HQ1 : Hid (∀ wb, Below wr.heap.size wr wb → wb.cell? (ad1.add i) = some (.slice Aa (P1[i]'hi1).length ca)) := Lib.hid (fun wb hI => cell_old hy1 hI)
          have HQ2 : Hid (∀ wb, Below wr.heap.size wr wb → wb.cell? (ad2.add i) = some (.slice Ab (P2[i]'hi2).length cb)) := Lib.hid (fun wb hI => cell_old hy2 hI)
          have hsa := (ha4.below HBr.out).wide HBr.out.size
          have hsb := (hb4.below HBr.out).wide HBr.out.size
          have hkr := HKW.out.below HBr.out HKW.out.2.2
          generalize (P1[i]'hi1) = a at *
          generalize (P2[i]'hi2) = bb at *
          have HCLS := Lib.hid hcl; have HSA := Lib.hid hsa; have HSB := Lib.hid hsb; have HKR := Lib.hid hkr
          have HA := Lib.hid (And.intro ha2 (And.intro ha3 hm1)); have HBB := Lib.hid (And.intro hb2 (And.intro hb3 hm2))
          clear hcl hsa hsb hkr ha1 ha2 ha3 ha4 hb1 hb2 hb3 hb4 hx1 hx2 hm1 hm2 hd1 hd2 hy1 hy2 HCL hi1 hi2
          go_wp2_with fail
          refine wp_region_inv 67 (fun jx v _ => v = ([.slice (some ad1) n1 d1, .int .i64 (i : Int), .pointer (some (ad1.add i)), .slice Aa a.length ca, .slice (some ad2) n2 d2, .int .i64 (i : Int), .pointer (some (ad2.add i)), .slice Ab bb.length cb, .slice Aa a.length ca, .slice Ab bb.length cb] : List Value).getD jx undef) (Below wr.heap.size wr) (fun _ W1 W2 => Below W1.heap.size W1 W2) (by kernel_rfl) (by rfl) (by kernel_rfl) (fun _ _ _ _ _ _ _ _ _ hR => hR) (fun _ _ _ e h => h.trans (e.mono h.size)) (Below.drew (Below.refl _ _)) (fun jx o ho vs wb hI hdep => ?_) (fun vs w6 hI hR => ?_)
          · rcases jx with _ | jx
            · simp only [List.getElem?_toArray, List.getElem?_cons_zero, Option.some.injEq] at ho
              subst ho
              refine .inl ⟨rfl, fun K Q hK => ?_⟩
              simp only [putFrom, Act.put, List.setIfInBounds_toArray, List.set_cons_succ, List.set_cons_zero, Nat.reduceAdd] at hK ⊢
              have HOUT := Lib.hid hK
              clear hK hdep 
              go_simp
              exact HOUT.out _ _ _ rfl ⟨Below.refl _ _, rfl⟩
            rcases jx with _ | jx
            · simp only [List.getElem?_toArray, List.getElem?_cons_succ, List.getElem?_cons_zero, Option.some.injEq, Nat.zero_add] at ho
              subst ho
              refine .inl ⟨rfl, fun K Q hK => ?_⟩
              simp only [putFrom, Act.put, List.setIfInBounds_toArray, List.set_cons_succ, List.set_cons_zero, Nat.reduceAdd] at hK ⊢
              have HOUT := Lib.hid hK
              clear hK hdep 
              go_simp
              exact HOUT.out _ _ _ rfl ⟨Below.refl _ _, rfl⟩
            rcases jx with _ | jx
            · simp only [List.getElem?_toArray, List.getElem?_cons_succ, List.getElem?_cons_zero, Option.some.injEq, Nat.zero_add] at ho
              subst ho
              have e0 : vs 0 = .slice (some ad1) n1 d1 := hdep 0 rfl
              have e1 : vs 1 = .int .i64 (i : Int) := hdep 1 rfl
              refine .inl ⟨rfl, fun K Q hK => ?_⟩
              simp only [putFrom, Act.put, List.setIfInBounds_toArray, List.set_cons_succ, List.set_cons_zero, Nat.reduceAdd, e0, e1] at hK ⊢
              have HOUT := Lib.hid hK
              clear hK hdep e0 e1
              go_simp
              exact HOUT.out _ _ _ rfl ⟨Below.refl _ _, rfl⟩
            rcases jx with _ | jx
            · simp only [List.getElem?_toArray, List.getElem?_cons_succ, List.getElem?_cons_zero, Option.some.injEq, Nat.zero_add] at ho
              subst ho
              have e2 : vs 2 = .pointer (some (ad1.add i)) := hdep 2 rfl
              have hq1 := HQ1.out wb hI
              refine .inl ⟨rfl, fun K Q hK => ?_⟩
              simp only [putFrom, Act.put, List.setIfInBounds_toArray, List.set_cons_succ, List.set_cons_zero, Nat.reduceAdd, e2] at hK ⊢
              have HOUT := Lib.hid hK
              clear hK hdep e2
              go_simp
              exact HOUT.out _ _ _ rfl ⟨Below.refl _ _, rfl⟩
            rcases jx with _ | jx
            · simp only [List.getElem?_toArray, List.getElem?_cons_succ, List.getElem?_cons_zero, Option.some.injEq, Nat.zero_add] at ho
              subst ho
              refine .inl ⟨rfl, fun K Q hK => ?_⟩
              simp only [putFrom, Act.put, List.setIfInBounds_toArray, List.set_cons_succ, List.set_cons_zero, Nat.reduceAdd] at hK ⊢
              have HOUT := Lib.hid hK
              clear hK hdep 
              go_simp
              exact HOUT.out _ _ _ rfl ⟨Below.refl _ _, rfl⟩
            rcases jx with _ | jx
            · simp only [List.getElem?_toArray, List.getElem?_cons_succ, List.getElem?_cons_zero, Option.some.injEq, Nat.zero_add] at ho
              subst ho
              refine .inl ⟨rfl, fun K Q hK => ?_⟩
              simp only [putFrom, Act.put, List.setIfInBounds_toArray, List.set_cons_succ, List.set_cons_zero, Nat.reduceAdd] at hK ⊢
              have HOUT := Lib.hid hK
              clear hK hdep 
              go_simp
              exact HOUT.out _ _ _ rfl ⟨Below.refl _ _, rfl⟩
            rcases jx with _ | jx
            · simp only [List.getElem?_toArray, List.getElem?_cons_succ, List.getElem?_cons_zero, Option.some.injEq, Nat.zero_add] at ho
              subst ho
              have e4 : vs 4 = .slice (some ad2) n2 d2 := hdep 4 rfl
              have e5 : vs 5 = .int .i64 (i : Int) := hdep 5 rfl
              refine .inl ⟨rfl, fun K Q hK => ?_⟩
              simp only [putFrom, Act.put, List.setIfInBounds_toArray, List.set_cons_succ, List.set_cons_zero, Nat.reduceAdd, e4, e5] at hK ⊢
              have HOUT := Lib.hid hK
              clear hK hdep e4 e5
              go_simp
              exact HOUT.out _ _ _ rfl ⟨Below.refl _ _, rfl⟩
            rcases jx with _ | jx
            · simp only [List.getElem?_toArray, List.getElem?_cons_succ, List.getElem?_cons_zero, Option.some.injEq, Nat.zero_add] at ho
              subst ho
              have e6 : vs 6 = .pointer (some (ad2.add i)) := hdep 6 rfl
              have hq2 := HQ2.out wb hI
              refine .inl ⟨rfl, fun K Q hK => ?_⟩
              simp only [putFrom, Act.put, List.setIfInBounds_toArray, List.set_cons_succ, List.set_cons_zero, Nat.reduceAdd, e6] at hK ⊢
              have HOUT := Lib.hid hK
              clear hK hdep e6
              go_simp
              exact HOUT.out _ _ _ rfl ⟨Below.refl _ _, rfl⟩
            rcases jx with _ | jx
            · simp only [List.getElem?_toArray, List.getElem?_cons_succ, List.getElem?_cons_zero, Option.some.injEq, Nat.zero_add] at ho
              subst ho
              have e3 : vs 3 = .slice Aa a.length ca := hdep 3 rfl
              refine .inl ⟨rfl, fun K Q hK => ?_⟩
              simp only [putFrom, Act.put, List.setIfInBounds_toArray, List.set_cons_succ, List.set_cons_zero, Nat.reduceAdd, e3] at hK ⊢
              have HOUT := Lib.hid hK
              clear hK hdep e3
              go_simp
              exact HOUT.out _ _ _ rfl ⟨Below.refl _ _, rfl⟩
            rcases jx with _ | jx
            · simp only [List.getElem?_toArray, List.getElem?_cons_succ, List.getElem?_cons_zero, Option.some.injEq, Nat.zero_add] at ho
              subst ho
              have e7 : vs 7 = .slice Ab bb.length cb := hdep 7 rfl
              refine .inl ⟨rfl, fun K Q hK => ?_⟩
              simp only [putFrom, Act.put, List.setIfInBounds_toArray, List.set_cons_succ, List.set_cons_zero, Nat.reduceAdd, e7] at hK ⊢
              have HOUT := Lib.hid hK
              clear hK hdep e7
              go_simp
              exact HOUT.out _ _ _ rfl ⟨Below.refl _ _, rfl⟩
            exact absurd ho (by simp)
          ·
            have e8 : vs 8 = .slice Aa a.length ca := hR 8 (by decide)
            have e9 : vs 9 = .slice Ab bb.length cb := hR 9 (by decide)
            simp only [putFrom, Act.put, List.setIfInBounds_toArray, List.set_cons_succ, List.set_cons_zero, Nat.reduceAdd, e8, e9]
            clear hR e8 e9
            generalize vs 0 = z0 at *; generalize vs 1 = z1 at *; generalize vs 2 = z2 at *; generalize vs 3 = z3 at *; generalize vs 4 = z4 at *; generalize vs 5 = z5 at *; generalize vs 6 = z6 at *; generalize vs 7 = z7 at *
            have HS6 := Lib.hid (And.intro ((HSA.out.below hI).wide hI.size) ((HSB.out.below hI).wide hI.size))
            have HK6 := Lib.hid (HKR.out.below hI HKR.out.2.2)
            have HB6 := Lib.hid (HBr.out.trans (hI.mono HBr.out.size))
            have heq := Lib.hid (equal_any w6.heap.size w6.heap.size Aa Ab ca cb a bb w6 HS6.out.1 HS6.out.2)
            have hsx := Lib.hid (sum_any w6.heap.size Aa ca a w6 HS6.out.1 (Nat.le_refl _) HA.out.1 HA.out.2.1 HA.out.2.2 HK6.out)
            clear hI HSA HSB HKR
            go_wp2_with fail
            refine heq.out.mono ?_
            rintro e w7 ⟨rfl, rfl⟩
            by_cases hab : a = bb
            · have hbe : (a == bb) = true := by simpa using hab
              have HNX : Hid (clashT (P1.drop (i + 1)) (P2.drop (i + 1)) = r) := Lib.hid (by
                have h := HCLS.out
                rw [clashT, if_neg (fun q => q.1 hab)] at h
                exact h)
              clear hab heq hsx
              go_wp2
              go_roundw
              case rel => exact ⟨i + 1, by go_num, by omega, HNX.out, HB6.out⟩
              case measure => simp [intOf]; omega
            · have hbe : (a == bb) = false := by simpa using hab
              have HAB := Lib.hid hab
              clear hab heq
              go_wp2_with fail
              refine hsx.out.mono ?_
              rintro e w8 ⟨rfl, hB8⟩
              have hsy := Lib.hid (sum_any w8.heap.size Ab cb bb w8 ((HS6.out.2.below hB8).wide hB8.size) (Nat.le_refl _) HBB.out.1 HBB.out.2.1 HBB.out.2.2 (HK6.out.below hB8 HK6.out.2.2))
              have HB8 := Lib.hid (HB6.out.trans (hB8.mono HB6.out.size))
              have HS8 := Lib.hid (And.intro ((HS6.out.1.below hB8).wide hB8.size) ((HS6.out.2.below hB8).wide hB8.size))
              clear hB8 hsx
              by_cases hxy : shaF a = shaF bb
              · have HRS : Hid (r = some (a, bb)) := Lib.hid (by
                  have h := HCLS.out
                  rw [clashT, if_pos ⟨HAB.out, hxy⟩] at h
                  exact h.symm)
                have heqd := fun W => eql_d W (shaF a) (shaF bb) (shaF_len _) (shaF_len _)
                have H2 : (shaF a == shaF bb) = true := by simpa using hxy
                clear hxy
                generalize hdx : shaF a = dx at *
                generalize hdy : shaF bb = dy at *
                clear hdx hdy
                go_wp2_with fail
                refine hsy.out.mono ?_
                rintro e w9 ⟨rfl, hB9⟩
                have HS9 := Lib.hid (And.intro ((HS8.out.1.below hB9).wide hB9.size) ((HS8.out.2.below hB9).wide hB9.size))
                have hfin := Lib.hid (HBW.out.trans ((HB8.out.trans (hB9.mono HB8.out.size)).mono HBW.out.size))
                clear hB9 hsy
                go_wp2
                go_ret3
                rw [HRS.out]
                exact ⟨hfin.out, Aa, ca, Ab, cb, rfl, ⟨Aa, ca, rfl, HA.out.1, HA.out.2.1, HS9.out.1⟩, ⟨Ab, cb, rfl, HBB.out.1, HBB.out.2.1, HS9.out.2⟩⟩
              · have HNX : Hid (clashT (P1.drop (i + 1)) (P2.drop (i + 1)) = r) := Lib.hid (by
                  have h := HCLS.out
                  rw [clashT, if_neg (fun q => hxy q.2)] at h
                  exact h)
                have heqd := fun W => eql_d W (shaF a) (shaF bb) (shaF_len _) (shaF_len _)
                have H2 : (shaF a == shaF bb) = false := by simpa using hxy
                clear hxy
                generalize hdx : shaF a = dx at *
                generalize hdy : shaF bb = dy at *
                clear hdx hdy
                go_wp2_with fail
                refine hsy.out.mono ?_
                rintro e w9 ⟨rfl, hB9⟩
                have hfin := Lib.hid (HB8.out.trans (hB9.mono HB8.out.size))
                clear hB9 hsy
                go_wp2
                go_roundw
                case rel => exact ⟨i + 1, by go_num, by omega, HNX.out, hfin.out⟩
                case measure => simp [intOf]; omega
        · have hge' : (n1 : Int) ≤ (i : Int) := by omega
          have HRN : Hid (r = none) := Lib.hid (by
            have h := HCL.out
            obtain rfl : i = n1 := by omega
            have h1 := HN1.out; have h2 := HN2.out; have h3 := HLE.out
            rw [← h]
            exact clashT_end (by omega))
          have hfin := Lib.hid (HBW.out.trans (HBr.out.mono HBW.out.size))
          go_wp2
          go_ret3
          rw [HRN.out]
          exact ⟨hfin.out, none, 0, none, 0, rfl, slot_nil' _ _, slot_nil' _ _⟩
theorem cla_any (w : World) (hk : Consts w) (B c0 : Nat) (hBw : B ≤ w.heap.size) (A0 : Option Addr) (vs0 : List Value) (L : List Ent) (h : EntsW w B A0 vs0 L) (hlc : L.length ≤ c0) (hlm : c0 ≤ 9223372036854775807) (hln : L.length ≤ 4611686018427387904) (key : List UInt8) (hkey : key.length = 32) (A : Option Addr) (c : Nat) (b : List UInt8) (hs : Sees w w.heap.size 1 A b.length (bys b)) (hc : b.length ≤ c) (hcm : c ≤ 9223372036854775807) (hm : b.length ≤ 1099511627776) :
    Calls Tryd.prog 21 #[.slice A0 L.length c0, .agg (bys key).toArray, .slice A b.length c] w (ClaW w (clashF L key b)) := by
  unfold clashF
  cases hd : readF key b with
  | inl k => exact clash_bad w hk B c0 hBw A0 vs0 L h hlc hlm hln key hkey A c b hs hc hcm hm k hd
  | inr q =>
    obtain ⟨T, E⟩ := q
    by_cases hmay : MayP L
    · simp only [if_pos hmay]
      exact clash_ok w hk B c0 hBw A0 vs0 L h hlc hlm hln key hkey A c b hs hc hcm hm T E hd hmay _ rfl
    · simp only [if_neg hmay]
      exact clash_not w hk B c0 hBw A0 vs0 L h hlc hlm hln key hkey A c b hs hc hcm hm T E hd hmay
end Go.Proofs.YtapbaonlboefeaaDoor
namespace Go.Proofs.YtapbaonlboefeaaDoor
open Go.RowKit

theorem neq_b32 (W : World) (a : List UInt8) (ha : a.length = 32) : (binOp .neq 23 (.agg (bys a).toArray) (.agg (bys a).toArray)).run Tryd.prog W = .ok (.bool false) W := by
  have h : (Op.equalIn 10000 23 (.agg (bys a).toArray) (.agg (bys a).toArray)).run Tryd.prog W = .ok (a == a) W := run_equalIn_bytes W 9998 23 5 32 Tryd.underlying23 Tryd.underlying5 (fun _ => by kernel_rfl) a a ha ha
  rw [run_neq_struct, h]; simp [Result.andThen]
theorem read_proof (L : List Ent) (key : List UInt8) (hm : MayP L) (hk : Keys L) (hkey : key.length = 32) (hs : ∀ e ∈ L, e.2.length ≤ 1099511627776) : readF key (proofT L key) = .inr ((sibT key 256 L).flatten, endT key 256 L) := by
  have hfew := endT_few key hkey 256 L (Nat.le_refl _) hm hk (on_0 hk hkey)
  have hsl := sibT_len key 256 L
  have hfl := flat_len (sibT key 256 L) hsl.2
  have hd : decF (proofT L key) = some ((sibT key 256 L).flatten, endT key 256 L) :=
    dec_enc _ _ (by omega) (by omega) hfew.1 (fun e he => hk e (endT_sub key 256 L e he)) (fun e he => hs e (endT_sub key 256 L e he))
  unfold readF
  rw [hd]
  simp only
  rw [if_pos]
  intro e he
  have h1 := hfew.2 e he
  have h3 : (sibT key 256 L).flatten.length / 32 = (sibT key 256 L).length := by omega
  rw [h3]
  exact (pfx_bits (hk e (endT_sub key 256 L e he)) hkey _ (by omega)).1 (by rw [show 256 - 256 + (sibT key 256 L).length = (sibT key 256 L).length from by omega] at h1; exact h1)
theorem clash_own (L : List Ent) (key : List UInt8) (hm : MayP L) (hk : Keys L) (hkey : key.length = 32) (hs : ∀ e ∈ L, e.2.length ≤ 1099511627776) : clashF L key (proofT L key) = none := by
  unfold clashF
  rw [read_proof L key hm hk hkey hs]
  simp only
  rw [if_pos hm, sibsT_flat _ (sibT_len key 256 L).2]
  exact clashT_same _
theorem decF_short {b T : List UInt8} {E : List Ent} (h : decF b = some (T, E)) : ∀ e ∈ E, e.1.length = 32 ∧ e.2.length ≤ b.length := by
  unfold decF at h
  split at h
  · rename_i s e hb
    split at h
    · have hj := join_split _ _ hb
      cases he : endOf e with
      | none => rw [he] at h; cases h
      | some E' =>
        rw [he] at h
        injection h with h
        injection h with h1 h2
        subst h2
        have hl : e.length ≤ b.length := by rw [← hj, pair_len]; omega
        unfold endOf at he
        split at he
        · injection he with he; subst he; intro x hx; cases hx
        · rename_i k v hkv
          split at he
          · rename_i h32
            injection he with he
            subst he
            have hj2 := join_split _ _ hkv
            intro x hx
            rw [List.mem_singleton.1 hx]
            exact ⟨h32, by rw [← hj2, pair_len] at hl; simp only; omega⟩
          · cases he
        · cases he
    · cases h
  · cases h
theorem clashT_mem : ∀ {p q : List (List UInt8)} {a b : List UInt8}, clashT p q = some (a, b) → a ∈ p ∧ b ∈ q
  | [], q, a, b, h => by cases q <;> cases h
  | _ :: _, [], a, b, h => by cases h
  | x :: p, y :: q, a, b, h => by
    unfold clashT at h
    split at h
    · injection h with h
      injection h with h1 h2
      subst h1; subst h2
      exact ⟨by simp, by simp⟩
    · have := clashT_mem h
      exact ⟨List.mem_cons_of_mem _ this.1, List.mem_cons_of_mem _ this.2⟩
theorem preT_short2 (key : List UInt8) (N : Nat) (hN : 200 ≤ N) : ∀ (d : Nat) (ss : List (List UInt8)) (e : List Ent), (∀ s ∈ ss, s.length = 32) → Keys e → (∀ x ∈ e, 68 + x.2.length ≤ N) → ∀ p ∈ preT key d ss e, p.length ≤ N
  | d, [], [], _, _, _, p, hp => by
    simp only [preT, List.mem_singleton] at hp
    subst hp
    exact Nat.le_trans (by decide) hN
  | d, [], x :: r, _, hk, hs, p, hp => by
    simp only [preT, List.mem_singleton] at hp
    subst hp
    have h := hs x (by simp)
    show (tLeaf x.1 x.2).length ≤ N
    rw [tLeaf_len _ _ (hk x (by simp))]
    exact h
  | d, s :: ss, e, h32, hk, hs, p, hp => by
    simp only [preT, List.mem_cons] at hp
    rcases hp with rfl | hp
    · rw [brT_len (shaF_len _) (h32 s (by simp))]; omega
    · exact preT_short2 key N hN (d + 1) ss e (fun q hq => h32 q (by simp [hq])) hk hs p hp
/-- What Clash tells: two texts of one digest, and not too long. -/
theorem clashF_ok {L : List Ent} {key b x y : List UInt8} (h : clashF L key b = some (x, y)) (hk : Keys L) (hs : ∀ e ∈ L, e.2.length ≤ 1048576) (hb : b.length ≤ 1048576) : MayP L ∧ x ≠ y ∧ shaF x = shaF y ∧ x.length ≤ 1048776 ∧ y.length ≤ 1048776 := by
  unfold clashF at h
  split at h
  · cases h
  · rename_i T E hr
    split at h
    · rename_i hm
      obtain ⟨h1, h2⟩ := clashT_ok h
      obtain ⟨h3, h4⟩ := clashT_mem h
      refine ⟨hm, h1, h2, preT_short2 key 1048776 (by decide) 0 _ _ (sibT_len key 256 L).2 (fun e he => hk e (endT_sub key 256 L e he)) (fun e he => by have := hs e (endT_sub key 256 L e he); omega) x h3, ?_⟩
      have hd : decF b = some (T, E) := by
        unfold readF at hr
        split at hr
        · cases hr
        · rename_i T' E' hd
          split at hr
          · injection hr with hr; injection hr with q1 q2; subst q1; subst q2; exact hd
          · cases hr
      have hq := decF_short hd
      exact preT_short2 key 1048776 (by decide) 0 _ _ (sibsT_32 T) (fun e he => (hq e he).1) (fun e he => by have := (hq e he).2; omega) y h4
    · cases h
def VcR (G : Nat) (SL : Value) (k pf : List UInt8) : Nat → Value → World → Prop
  | 0, v, _ => v = SL
  | 1, v, _ => v = .agg (bys k).toArray
  | 2, v, _ => v = SL
  | 3, v, _ => v = .agg (bys k).toArray
  | 4, v, w => SlotK (· < G) w v pf
  | 5, v, _ => ∃ A c A' c', v = .tuple #[.slice A 0 c, .slice A' 0 c', .bool false]
  | 6, v, _ => ∃ A c A' c', v = .tuple #[.slice A 0 c, .slice A' 0 c', .bool false]
  | 7, v, _ => ∃ A c, v = .slice A 0 c
  | 8, v, _ => ∃ A c, v = .slice A 0 c
  | 9, v, _ => v = .bool false
  | 10, v, _ => ∃ A c, v = .slice A 0 c
  | 11, v, _ => ∃ A c, v = .slice A 0 c
  | 12, v, _ => v = .bool false
  | _, _, _ => True
theorem VcR.keep {G : Nat} {SL : Value} {k pf : List UInt8} : ∀ (j : Nat) {v : Value} {w w' : World}, Keep G (· < G) w w' → VcR G SL k pf j v w → VcR G SL k pf j v w'
  | 0, _, _, _, _, h => h
  | 1, _, _, _, _, h => h
  | 2, _, _, _, _, h => h
  | 3, _, _, _, _, h => h
  | 4, v, w, _, hk, h => SlotK.keep (show SlotK (· < G) w v pf from h) hk
  | 5, _, _, _, _, h => h
  | 6, _, _, _, _, h => h
  | 7, _, _, _, _, h => h
  | 8, _, _, _, _, h => h
  | 9, _, _, _, _, h => h
  | 10, _, _, _, _, h => h
  | 11, _, _, _, _, h => h
  | 12, _, _, _, _, h => h
  | _ + 13, _, _, _, _, _ => trivial

set_option maxRecDepth 20000 in
set_option maxHeartbeats 3200000 in
theorem clash_law (haw : Awakes) (w : World) (hk : Consts w) (B c : Nat) (hBw : B ≤ w.heap.size) (A : Option Addr) (L : List Ent) (h : EntsR w B A L) (key : List UInt8) (hkey : key.length = 32) (Ab : Option Addr) (cb : Nat) (b : List UInt8) (hbs : Sees w w.heap.size 1 Ab b.length (bys b)) (hbc : b.length ≤ cb) (hbm : cb ≤ 9223372036854775807) (hbl : b.length ≤ 1048576) :
    Calls Tryd.prog 7 #[.slice A L.length c, .agg (bys key).toArray, .slice Ab b.length cb] w fun e w' => e = .returned (.bool true) ∧ Below w.heap.size w w' := by
  have hfew := h.few
  have hkeys := h.keys
  have hshort := h.short
  have hd1 := HB.new w 24 (bys key)
  have hB1 := below_alloc1 w (.cells (bys key).toArray 24)
  generalize hw1 : w.alloc (.cells (bys key).toArray 24) = w1 at *
  have he1 := h.below (hB1.mono hBw)
  have hk1 := hk.below hB1 hk.2.2
  obtain ⟨n, hnn⟩ : ∃ n, n = L.length := ⟨_, rfl⟩
  obtain ⟨nb, hnb⟩ : ∃ n, n = b.length := ⟨_, rfl⟩
  rw [← hnn, ← hnb]
  have HNN := Lib.hid hnn; have HNB := Lib.hid hnb; have HD1 := Lib.hid hd1; have HB1 := Lib.hid hB1; have HE1 := Lib.hid he1; have HK1 := Lib.hid hk1; have HBW := Lib.hid hBw; have HKY := Lib.hid hkey; have HKEYS := Lib.hid hkeys; have HSHORT := Lib.hid hshort; have HFEW := Lib.hid hfew; have HAW := Lib.hid haw
  have HBS := Lib.hid hbs; have HBC := Lib.hid hbc; have HBM := Lib.hid hbm; have HBL := Lib.hid hbl
  have HKI : Hid ((Tryd.prog.info? 24).map (·.size) = some (bys key).length) := Lib.hid (by rw [bys_len, hkey]; kernel_rfl)
  clear hnn hnb hd1 hB1 he1 hk1 hBw hkey hkeys hshort hfew haw h hk hbs hbc hbm hbl
  go_enter Tryd.func7, Tryd.ntmps7
  go_wp2_with fail
  clear hw1
  refine (HAW.out w1 HK1.out).mono ?_
  rintro e w2 ⟨rfl, hB2⟩
  have HB2 := Lib.hid (HB1.out.trans (hB2.mono HB1.out.size))
  have HD2 := Lib.hid (HD1.out.below hB2 HD1.out.lt)
  have HE2 := Lib.hid (HE1.out.below (hB2.mono (Nat.le_trans HBW.out HB1.out.size)))
  have HK2 := Lib.hid (HK1.out.below hB2 HK1.out.2.2)
  clear hB2
  go_wp2_with fail
  have HL := Lib.hid (list_any w2 B c (Nat.le_trans HBW.out HB2.out.size) A L HE2.out)
  rw [← HNN.out] at HL
  refine HL.out.mono ?_
  rintro e w4 ⟨hB4, A4, c4, vv, rfl, hc4, hcm4, he4⟩
  have HB4 := Lib.hid (HB2.out.trans (hB4.mono HB2.out.size))
  have hd4 := HD2.out.below hB4 HD2.out.lt
  have HE4 := Lib.hid (HE2.out.below (hB4.mono (Nat.le_trans HBW.out HB2.out.size)))
  have hk4 := HK2.out.below hB4 HK2.out.2.2
  obtain ⟨G, hG⟩ : ∃ G : Nat, w4.heap.size = G := ⟨_, rfl⟩
  rw [hG] at he4
  have HG := Lib.hid hG; have HD := Lib.hid hd4; have HK4 := Lib.hid hk4; have HET := Lib.hid he4
  have HGB : Hid (w.heap.size < G) := Lib.hid (by rw [← hG]; exact hd4.lt)
  have hn4 : L.length ≤ 4611686018427387904 := by have := HFEW.out; omega
  have hsh : ∀ e ∈ L, e.2.length ≤ 1073741824 := fun e he => by have := HSHORT.out e he; omega
  have HBS4 := Lib.hid ((HBS.out.below HB4.out).wide HB4.out.size)
  have HKW : Hid (∀ W, Below G w4 W → Consts W) := Lib.hid (fun W hW => HK4.out.below (hG ▸ hW) HK4.out.2.2)
  have HCL : Hid (∀ W, Below G w4 W → ∀ A c b', Sees W W.heap.size 1 A b'.length (bys b') → b'.length ≤ c → c ≤ 9223372036854775807 → b'.length ≤ 1099511627776 → Calls Tryd.prog 21 #[.slice A4 n c4, .agg (bys key).toArray, .slice A b'.length c] W (ClaW W (clashF L key b'))) := Lib.hid (fun W hW A c b' q1 q2 q3 q4 => by
    have h := cla_any W (HKW.out W hW) G c4 (by have := hW.size; omega) A4 vv L (HET.out.below hW) (by rw [← HNN.out]; exact hc4) hcm4 hn4 key HKY.out A c b' q1 q2 q3 q4
    rw [← HNN.out] at h
    exact h)
  have HMAY : Hid (∀ W, Below G w4 W → Calls Tryd.prog 12 #[.slice A n c] W fun e w' => e = .returned (.bool (decide (MayP L))) ∧ Below W.heap.size W w') := Lib.hid (fun W hW => by
    have h := rmay_any W B c (by have := hW.size; have := HBW.out; have := HGB.out; omega) A L (HE4.out.below (hW.mono (by have := HBW.out; have := HGB.out; omega))) hn4
    rw [← HNN.out] at h
    exact h)
  obtain ⟨pf, hpf⟩ : ∃ pf, (if MayP L then proofT L key else []) = pf := ⟨_, rfl⟩
  have hpl : pf.length ≤ 1099511627776 := by
    rw [← hpf]
    split
    · exact proofT_len L key (by assumption) HKEYS.out HKY.out hsh
    · simp
  have HP : Hid (∀ W, Below G w4 W → Calls Tryd.prog 15 #[.slice A4 n c4, .agg (bys key).toArray] W (WroteF W pf)) := Lib.hid (fun W hW => by
    by_cases hm : MayP L
    · have h := prove_any W G c4 (by have := hW.size; omega) A4 vv L (HET.out.below hW) hm (by rw [← HNN.out]; exact hc4) hcm4 hn4 (HKW.out W hW) key HKY.out
      rw [← HNN.out] at h
      rw [if_pos hm] at hpf
      rw [← hpf]
      exact h
    · have h := prove_bad W G c4 (by have := hW.size; omega) A4 vv L (HET.out.below hW) hm hn4 key
      rw [← HNN.out] at h
      rw [if_neg hm] at hpf
      rw [← hpf]
      exact h.mono fun e w' ⟨h1, h2⟩ => ⟨_, h1, ⟨none, 0, rfl, Nat.le_refl _, by decide, Sees.nothing _ _ _ _, fun _ e => by cases e⟩, h2⟩)
  have hown : clashF L key pf = none := by
    rw [← hpf]
    split
    · exact clash_own L key (by assumption) HKEYS.out HKY.out (fun e he => by have := hsh e he; omega)
    · unfold clashF
      rw [read_short]
  have HV : Hid (∀ W, Below G w4 W → ∀ A c, SlotK (· < G) W (.slice A pf.length c) pf → Calls Tryd.prog 21 #[.slice A4 n c4, .agg (bys key).toArray, .slice A pf.length c] W fun e w' => Below W.heap.size W w' ∧ ∃ A c A' c', e = .returned (.tuple #[.slice A 0 c, .slice A' 0 c', .bool false])) := Lib.hid (fun W hW A c hs => by
    obtain ⟨A', c', e', q1, q2, q3, -⟩ := hs
    obtain ⟨rfl, -, rfl⟩ := Value.slice.inj e'
    have h := HCL.out W hW A c pf q3 q1 q2 hpl
    rw [hown] at h
    exact h.mono fun e w' ⟨h1, A1, c1, A2, c2, h2, _, _⟩ => ⟨h1, A1, c1, A2, c2, h2⟩)
  have HC0 := Lib.hid (HCL.out w4 (Below.refl _ _) Ab cb b HBS4.out HBC.out HBM.out (by have := HBL.out; omega))
  rw [← HNB.out] at HC0
  have HOK : Hid (∀ x y, clashF L key b = some (x, y) → MayP L ∧ x ≠ y ∧ shaF x = shaF y ∧ x.length ≤ 1048776 ∧ y.length ≤ 1048776) := Lib.hid (fun x y h => clashF_ok h HKEYS.out HSHORT.out HBL.out)
  have hrw := HD.out
  clear hpf hpl hown hG hB4 hc4 hcm4 he4 hd4 hk4 hn4 hsh HL HE4 HE2 HE1 HB2 HD2 HD1 HK2 HK1 HCL
  go_wp2_with (refine wpList_load_mid rfl 24 _ rfl w.heap.size 0 rfl (bys key) _ hrw.rngT Tryd.underlying24 rfl HKI.out ?_)
  clear hrw
  generalize clashF L key b = r at *
  refine HC0.out.mono ?_
  rintro e w6 ⟨hB6, A1, c1, A2, c2, rfl, hs1, hs2⟩
  have HIw := Lib.hid (show Below G w4 w6 from HG.out ▸ hB6)
  clear hB6 HC0
  rcases r with _ | ⟨x, y⟩
  · simp only [fst_, snd_, Option.map_none, Option.getD_none, List.length_nil, Option.isSome_none]
    clear hs1 hs2 HOK
    go_wp2_with fail
    by_cases hm : MayP L
    · have HDT := Lib.hid (decide_eq_true hm)
      clear hm
      have HMw := Lib.hid (HMAY.out w6 HIw.out)
      refine HMw.out.mono ?_
      rintro e wm ⟨rfl, hBm⟩
      have hszm : G ≤ w6.heap.size := by have := HIw.out.size; have := HG.out; omega
      have HIm := Lib.hid (HIw.out.trans (hBm.mono hszm))
      clear hBm hszm HMw
      rw [HDT.out]
      go_wp2_with fail
      refine wp_region_inv 75 (VcR G (.slice A4 n c4) key pf) (Below G w4) (fun _ => Keep G (· < G)) (by kernel_rfl) (by rfl) (by kernel_rfl) (fun i j v W W' _ _ _ hT hR => VcR.keep j hT hR) (fun _ W W' hT hI => hI.trans hT.low) (Below.drew HIm.out) (fun j ho1 ho vs W hI hdep => ?_) (fun vs W hI hR => ?_)
      · have hsz : G ≤ W.heap.size := by have := hI.size; have := HG.out; omega
        rcases j with _ | j
        · simp only [List.getElem?_toArray, List.getElem?_cons_zero, Option.some.injEq] at ho
          subst ho
          refine .inl ⟨rfl, fun K Q hK => ?_⟩
          simp only [putFrom, Act.put, List.setIfInBounds_toArray, List.set_cons_succ, List.set_cons_zero, Nat.reduceAdd] at hK ⊢
          have HOUT := Lib.hid hK
          clear hK hdep
          go_simp
          refine HOUT.out _ _ _ rfl ⟨Keep.refl _ _ _, ?_⟩
          exact rfl
        rcases j with _ | j
        · simp only [List.getElem?_toArray, List.getElem?_cons_succ, List.getElem?_cons_zero, Option.some.injEq, Nat.zero_add] at ho
          subst ho
          have hrw := HD.out.below hI HGB.out
          refine .inl ⟨rfl, fun K Q hK => ?_⟩
          simp only [putFrom, Act.put, List.setIfInBounds_toArray, List.set_cons_succ, List.set_cons_zero, Nat.reduceAdd] at hK ⊢
          have HOUT := Lib.hid hK
          clear hK hdep
          refine wp_load_mid 24 _ rfl w.heap.size 0 rfl (bys key) _ hrw.rngT Tryd.underlying24 rfl HKI.out ?_
          simp only [Act.put, List.setIfInBounds_toArray, List.set_cons_succ, List.set_cons_zero]
          refine HOUT.out _ _ _ rfl ⟨Keep.refl _ _ _, ?_⟩
          exact rfl
        rcases j with _ | j
        · simp only [List.getElem?_toArray, List.getElem?_cons_succ, List.getElem?_cons_zero, Option.some.injEq, Nat.zero_add] at ho
          subst ho
          refine .inl ⟨rfl, fun K Q hK => ?_⟩
          simp only [putFrom, Act.put, List.setIfInBounds_toArray, List.set_cons_succ, List.set_cons_zero, Nat.reduceAdd] at hK ⊢
          have HOUT := Lib.hid hK
          clear hK hdep
          go_simp
          refine HOUT.out _ _ _ rfl ⟨Keep.refl _ _ _, ?_⟩
          exact rfl
        rcases j with _ | j
        · simp only [List.getElem?_toArray, List.getElem?_cons_succ, List.getElem?_cons_zero, Option.some.injEq, Nat.zero_add] at ho
          subst ho
          have hrw := HD.out.below hI HGB.out
          refine .inl ⟨rfl, fun K Q hK => ?_⟩
          simp only [putFrom, Act.put, List.setIfInBounds_toArray, List.set_cons_succ, List.set_cons_zero, Nat.reduceAdd] at hK ⊢
          have HOUT := Lib.hid hK
          clear hK hdep
          refine wp_load_mid 24 _ rfl w.heap.size 0 rfl (bys key) _ hrw.rngT Tryd.underlying24 rfl HKI.out ?_
          simp only [Act.put, List.setIfInBounds_toArray, List.set_cons_succ, List.set_cons_zero]
          refine HOUT.out _ _ _ rfl ⟨Keep.refl _ _ _, ?_⟩
          exact rfl
        rcases j with _ | j
        · simp only [List.getElem?_toArray, List.getElem?_cons_succ, List.getElem?_cons_zero, Option.some.injEq, Nat.zero_add] at ho
          subst ho
          have e2 : vs 2 = _ := hdep 2 rfl
          have e3 : vs 3 = _ := hdep 3 rfl
          refine .inl ⟨rfl, fun K Q hK => ?_⟩
          simp only [putFrom, Act.put, List.setIfInBounds_toArray, List.set_cons_succ, List.set_cons_zero, Nat.reduceAdd, e2, e3] at hK ⊢
          have HOUT := Lib.hid hK
          clear hK hdep e2 e3
          go_simp
          refine (HP.out W hI).mono ?_
          rintro e w3 ⟨v3, rfl, hs3, hB3⟩
          go_simp
          refine HOUT.out _ _ _ rfl ⟨Keep.of_below hB3 hsz, ?_⟩
          exact hs3.wider hsz
        rcases j with _ | j
        · simp only [List.getElem?_toArray, List.getElem?_cons_succ, List.getElem?_cons_zero, Option.some.injEq, Nat.zero_add] at ho
          subst ho
          have e0 : vs 0 = _ := hdep 0 rfl
          have e1 : vs 1 = _ := hdep 1 rfl
          obtain ⟨A4, c4, e4, a4, b4, s4, d4⟩ := hdep 4 rfl
          have hv := Lib.hid (HV.out W hI A4 c4 ⟨A4, c4, rfl, a4, b4, s4, d4⟩)
          refine .inl ⟨rfl, fun K Q hK => ?_⟩
          simp only [putFrom, Act.put, List.setIfInBounds_toArray, List.set_cons_succ, List.set_cons_zero, Nat.reduceAdd, e0, e1, e4] at hK ⊢
          have HOUT := Lib.hid hK
          clear hK hdep e0 e1 e4
          go_simp
          refine hv.out.mono ?_
          rintro e w3 ⟨hB3, A3, c3, B3, d3, rfl⟩
          go_simp
          refine HOUT.out _ _ _ rfl ⟨Keep.of_below hB3 hsz, ?_⟩
          exact ⟨A3, c3, B3, d3, rfl⟩
        rcases j with _ | j
        · simp only [List.getElem?_toArray, List.getElem?_cons_succ, List.getElem?_cons_zero, Option.some.injEq, Nat.zero_add] at ho
          subst ho
          obtain ⟨A5, c5, B5, d5, e5⟩ := hdep 5 rfl
          refine .inl ⟨rfl, fun K Q hK => ?_⟩
          simp only [putFrom, Act.put, List.setIfInBounds_toArray, List.set_cons_succ, List.set_cons_zero, Nat.reduceAdd, e5] at hK ⊢
          have HOUT := Lib.hid hK
          clear hK hdep e5
          go_simp
          refine HOUT.out _ _ _ rfl ⟨Keep.refl _ _ _, ?_⟩
          exact ⟨A5, c5, B5, d5, rfl⟩
        rcases j with _ | j
        · simp only [List.getElem?_toArray, List.getElem?_cons_succ, List.getElem?_cons_zero, Option.some.injEq, Nat.zero_add] at ho
          subst ho
          obtain ⟨A6, c6, B6, d6, e6⟩ := hdep 6 rfl
          refine .inl ⟨rfl, fun K Q hK => ?_⟩
          simp only [putFrom, Act.put, List.setIfInBounds_toArray, List.set_cons_succ, List.set_cons_zero, Nat.reduceAdd, e6] at hK ⊢
          have HOUT := Lib.hid hK
          clear hK hdep e6
          go_simp
          refine HOUT.out _ _ _ rfl ⟨Keep.refl _ _ _, ?_⟩
          exact ⟨A6, c6, rfl⟩
        rcases j with _ | j
        · simp only [List.getElem?_toArray, List.getElem?_cons_succ, List.getElem?_cons_zero, Option.some.injEq, Nat.zero_add] at ho
          subst ho
          obtain ⟨A6, c6, B6, d6, e6⟩ := hdep 6 rfl
          refine .inl ⟨rfl, fun K Q hK => ?_⟩
          simp only [putFrom, Act.put, List.setIfInBounds_toArray, List.set_cons_succ, List.set_cons_zero, Nat.reduceAdd, e6] at hK ⊢
          have HOUT := Lib.hid hK
          clear hK hdep e6
          go_simp
          refine HOUT.out _ _ _ rfl ⟨Keep.refl _ _ _, ?_⟩
          exact ⟨B6, d6, rfl⟩
        rcases j with _ | j
        · simp only [List.getElem?_toArray, List.getElem?_cons_succ, List.getElem?_cons_zero, Option.some.injEq, Nat.zero_add] at ho
          subst ho
          obtain ⟨A6, c6, B6, d6, e6⟩ := hdep 6 rfl
          refine .inl ⟨rfl, fun K Q hK => ?_⟩
          simp only [putFrom, Act.put, List.setIfInBounds_toArray, List.set_cons_succ, List.set_cons_zero, Nat.reduceAdd, e6] at hK ⊢
          have HOUT := Lib.hid hK
          clear hK hdep e6
          go_simp
          refine HOUT.out _ _ _ rfl ⟨Keep.refl _ _ _, ?_⟩
          exact rfl
        rcases j with _ | j
        · simp only [List.getElem?_toArray, List.getElem?_cons_succ, List.getElem?_cons_zero, Option.some.injEq, Nat.zero_add] at ho
          subst ho
          obtain ⟨A7, c7, e7⟩ := hdep 7 rfl
          refine .inl ⟨rfl, fun K Q hK => ?_⟩
          simp only [putFrom, Act.put, List.setIfInBounds_toArray, List.set_cons_succ, List.set_cons_zero, Nat.reduceAdd, e7] at hK ⊢
          have HOUT := Lib.hid hK
          clear hK hdep e7
          go_simp
          refine HOUT.out _ _ _ rfl ⟨Keep.refl _ _ _, ?_⟩
          exact ⟨A7, c7, rfl⟩
        rcases j with _ | j
        · simp only [List.getElem?_toArray, List.getElem?_cons_succ, List.getElem?_cons_zero, Option.some.injEq, Nat.zero_add] at ho
          subst ho
          obtain ⟨A8, c8, e8⟩ := hdep 8 rfl
          refine .inl ⟨rfl, fun K Q hK => ?_⟩
          simp only [putFrom, Act.put, List.setIfInBounds_toArray, List.set_cons_succ, List.set_cons_zero, Nat.reduceAdd, e8] at hK ⊢
          have HOUT := Lib.hid hK
          clear hK hdep e8
          go_simp
          refine HOUT.out _ _ _ rfl ⟨Keep.refl _ _ _, ?_⟩
          exact ⟨A8, c8, rfl⟩
        rcases j with _ | j
        · simp only [List.getElem?_toArray, List.getElem?_cons_succ, List.getElem?_cons_zero, Option.some.injEq, Nat.zero_add] at ho
          subst ho
          have e9 : vs 9 = _ := hdep 9 rfl
          refine .inl ⟨rfl, fun K Q hK => ?_⟩
          simp only [putFrom, Act.put, List.setIfInBounds_toArray, List.set_cons_succ, List.set_cons_zero, Nat.reduceAdd, e9] at hK ⊢
          have HOUT := Lib.hid hK
          clear hK hdep e9
          go_simp
          refine HOUT.out _ _ _ rfl ⟨Keep.refl _ _ _, ?_⟩
          exact rfl
        exact absurd ho (by simp)
      · obtain ⟨A7, c7, e10⟩ := hR 10 (by decide)
        obtain ⟨A8, c8, e11⟩ := hR 11 (by decide)
        have e12 : vs 12 = .bool false := hR 12 (by decide)
        have HFIN := Lib.hid (HB4.out.trans (hI.mono (by have := HG.out; have := HGB.out; omega)))
        clear hR hI
        simp only [putFrom, Act.put, List.setIfInBounds_toArray, List.set_cons_succ, List.set_cons_zero, Nat.reduceAdd, e10, e11, e12]
        clear e10 e11 e12
        generalize vs 0 = q0 at *; generalize vs 1 = q1 at *; generalize vs 2 = q2 at *; generalize vs 3 = q3 at *; generalize vs 4 = q4 at *; generalize vs 5 = q5 at *; generalize vs 6 = q6 at *; generalize vs 7 = q7 at *; generalize vs 8 = q8 at *; generalize vs 9 = q9 at *
        go_wp2
        go_ret
        exact ⟨rfl, HFIN.out⟩
    · have HDF := Lib.hid (decide_eq_false hm)
      clear hm
      have HMw := Lib.hid (HMAY.out w6 HIw.out)
      refine HMw.out.mono ?_
      rintro e wm ⟨rfl, hBm⟩
      have hszm : G ≤ w6.heap.size := by have := HIw.out.size; have := HG.out; omega
      have HIm := Lib.hid (HIw.out.trans (hBm.mono hszm))
      clear hBm hszm HMw
      rw [HDF.out]
      go_wp2_with fail
      refine wp_region_inv 75 (VcR G (.slice A4 n c4) key pf) (Below G w4) (fun _ => Keep G (· < G)) (by kernel_rfl) (by rfl) (by kernel_rfl) (fun i j v W W' _ _ _ hT hR => VcR.keep j hT hR) (fun _ W W' hT hI => hI.trans hT.low) (Below.drew HIm.out) (fun j ho1 ho vs W hI hdep => ?_) (fun vs W hI hR => ?_)
      · have hsz : G ≤ W.heap.size := by have := hI.size; have := HG.out; omega
        rcases j with _ | j
        · simp only [List.getElem?_toArray, List.getElem?_cons_zero, Option.some.injEq] at ho
          subst ho
          refine .inl ⟨rfl, fun K Q hK => ?_⟩
          simp only [putFrom, Act.put, List.setIfInBounds_toArray, List.set_cons_succ, List.set_cons_zero, Nat.reduceAdd] at hK ⊢
          have HOUT := Lib.hid hK
          clear hK hdep
          go_simp
          refine HOUT.out _ _ _ rfl ⟨Keep.refl _ _ _, ?_⟩
          exact rfl
        rcases j with _ | j
        · simp only [List.getElem?_toArray, List.getElem?_cons_succ, List.getElem?_cons_zero, Option.some.injEq, Nat.zero_add] at ho
          subst ho
          have hrw := HD.out.below hI HGB.out
          refine .inl ⟨rfl, fun K Q hK => ?_⟩
          simp only [putFrom, Act.put, List.setIfInBounds_toArray, List.set_cons_succ, List.set_cons_zero, Nat.reduceAdd] at hK ⊢
          have HOUT := Lib.hid hK
          clear hK hdep
          refine wp_load_mid 24 _ rfl w.heap.size 0 rfl (bys key) _ hrw.rngT Tryd.underlying24 rfl HKI.out ?_
          simp only [Act.put, List.setIfInBounds_toArray, List.set_cons_succ, List.set_cons_zero]
          refine HOUT.out _ _ _ rfl ⟨Keep.refl _ _ _, ?_⟩
          exact rfl
        rcases j with _ | j
        · simp only [List.getElem?_toArray, List.getElem?_cons_succ, List.getElem?_cons_zero, Option.some.injEq, Nat.zero_add] at ho
          subst ho
          refine .inl ⟨rfl, fun K Q hK => ?_⟩
          simp only [putFrom, Act.put, List.setIfInBounds_toArray, List.set_cons_succ, List.set_cons_zero, Nat.reduceAdd] at hK ⊢
          have HOUT := Lib.hid hK
          clear hK hdep
          go_simp
          refine HOUT.out _ _ _ rfl ⟨Keep.refl _ _ _, ?_⟩
          exact rfl
        rcases j with _ | j
        · simp only [List.getElem?_toArray, List.getElem?_cons_succ, List.getElem?_cons_zero, Option.some.injEq, Nat.zero_add] at ho
          subst ho
          have hrw := HD.out.below hI HGB.out
          refine .inl ⟨rfl, fun K Q hK => ?_⟩
          simp only [putFrom, Act.put, List.setIfInBounds_toArray, List.set_cons_succ, List.set_cons_zero, Nat.reduceAdd] at hK ⊢
          have HOUT := Lib.hid hK
          clear hK hdep
          refine wp_load_mid 24 _ rfl w.heap.size 0 rfl (bys key) _ hrw.rngT Tryd.underlying24 rfl HKI.out ?_
          simp only [Act.put, List.setIfInBounds_toArray, List.set_cons_succ, List.set_cons_zero]
          refine HOUT.out _ _ _ rfl ⟨Keep.refl _ _ _, ?_⟩
          exact rfl
        rcases j with _ | j
        · simp only [List.getElem?_toArray, List.getElem?_cons_succ, List.getElem?_cons_zero, Option.some.injEq, Nat.zero_add] at ho
          subst ho
          have e2 : vs 2 = _ := hdep 2 rfl
          have e3 : vs 3 = _ := hdep 3 rfl
          refine .inl ⟨rfl, fun K Q hK => ?_⟩
          simp only [putFrom, Act.put, List.setIfInBounds_toArray, List.set_cons_succ, List.set_cons_zero, Nat.reduceAdd, e2, e3] at hK ⊢
          have HOUT := Lib.hid hK
          clear hK hdep e2 e3
          go_simp
          refine (HP.out W hI).mono ?_
          rintro e w3 ⟨v3, rfl, hs3, hB3⟩
          go_simp
          refine HOUT.out _ _ _ rfl ⟨Keep.of_below hB3 hsz, ?_⟩
          exact hs3.wider hsz
        rcases j with _ | j
        · simp only [List.getElem?_toArray, List.getElem?_cons_succ, List.getElem?_cons_zero, Option.some.injEq, Nat.zero_add] at ho
          subst ho
          have e0 : vs 0 = _ := hdep 0 rfl
          have e1 : vs 1 = _ := hdep 1 rfl
          obtain ⟨A4, c4, e4, a4, b4, s4, d4⟩ := hdep 4 rfl
          have hv := Lib.hid (HV.out W hI A4 c4 ⟨A4, c4, rfl, a4, b4, s4, d4⟩)
          refine .inl ⟨rfl, fun K Q hK => ?_⟩
          simp only [putFrom, Act.put, List.setIfInBounds_toArray, List.set_cons_succ, List.set_cons_zero, Nat.reduceAdd, e0, e1, e4] at hK ⊢
          have HOUT := Lib.hid hK
          clear hK hdep e0 e1 e4
          go_simp
          refine hv.out.mono ?_
          rintro e w3 ⟨hB3, A3, c3, B3, d3, rfl⟩
          go_simp
          refine HOUT.out _ _ _ rfl ⟨Keep.of_below hB3 hsz, ?_⟩
          exact ⟨A3, c3, B3, d3, rfl⟩
        rcases j with _ | j
        · simp only [List.getElem?_toArray, List.getElem?_cons_succ, List.getElem?_cons_zero, Option.some.injEq, Nat.zero_add] at ho
          subst ho
          obtain ⟨A5, c5, B5, d5, e5⟩ := hdep 5 rfl
          refine .inl ⟨rfl, fun K Q hK => ?_⟩
          simp only [putFrom, Act.put, List.setIfInBounds_toArray, List.set_cons_succ, List.set_cons_zero, Nat.reduceAdd, e5] at hK ⊢
          have HOUT := Lib.hid hK
          clear hK hdep e5
          go_simp
          refine HOUT.out _ _ _ rfl ⟨Keep.refl _ _ _, ?_⟩
          exact ⟨A5, c5, B5, d5, rfl⟩
        rcases j with _ | j
        · simp only [List.getElem?_toArray, List.getElem?_cons_succ, List.getElem?_cons_zero, Option.some.injEq, Nat.zero_add] at ho
          subst ho
          obtain ⟨A6, c6, B6, d6, e6⟩ := hdep 6 rfl
          refine .inl ⟨rfl, fun K Q hK => ?_⟩
          simp only [putFrom, Act.put, List.setIfInBounds_toArray, List.set_cons_succ, List.set_cons_zero, Nat.reduceAdd, e6] at hK ⊢
          have HOUT := Lib.hid hK
          clear hK hdep e6
          go_simp
          refine HOUT.out _ _ _ rfl ⟨Keep.refl _ _ _, ?_⟩
          exact ⟨A6, c6, rfl⟩
        rcases j with _ | j
        · simp only [List.getElem?_toArray, List.getElem?_cons_succ, List.getElem?_cons_zero, Option.some.injEq, Nat.zero_add] at ho
          subst ho
          obtain ⟨A6, c6, B6, d6, e6⟩ := hdep 6 rfl
          refine .inl ⟨rfl, fun K Q hK => ?_⟩
          simp only [putFrom, Act.put, List.setIfInBounds_toArray, List.set_cons_succ, List.set_cons_zero, Nat.reduceAdd, e6] at hK ⊢
          have HOUT := Lib.hid hK
          clear hK hdep e6
          go_simp
          refine HOUT.out _ _ _ rfl ⟨Keep.refl _ _ _, ?_⟩
          exact ⟨B6, d6, rfl⟩
        rcases j with _ | j
        · simp only [List.getElem?_toArray, List.getElem?_cons_succ, List.getElem?_cons_zero, Option.some.injEq, Nat.zero_add] at ho
          subst ho
          obtain ⟨A6, c6, B6, d6, e6⟩ := hdep 6 rfl
          refine .inl ⟨rfl, fun K Q hK => ?_⟩
          simp only [putFrom, Act.put, List.setIfInBounds_toArray, List.set_cons_succ, List.set_cons_zero, Nat.reduceAdd, e6] at hK ⊢
          have HOUT := Lib.hid hK
          clear hK hdep e6
          go_simp
          refine HOUT.out _ _ _ rfl ⟨Keep.refl _ _ _, ?_⟩
          exact rfl
        rcases j with _ | j
        · simp only [List.getElem?_toArray, List.getElem?_cons_succ, List.getElem?_cons_zero, Option.some.injEq, Nat.zero_add] at ho
          subst ho
          obtain ⟨A7, c7, e7⟩ := hdep 7 rfl
          refine .inl ⟨rfl, fun K Q hK => ?_⟩
          simp only [putFrom, Act.put, List.setIfInBounds_toArray, List.set_cons_succ, List.set_cons_zero, Nat.reduceAdd, e7] at hK ⊢
          have HOUT := Lib.hid hK
          clear hK hdep e7
          go_simp
          refine HOUT.out _ _ _ rfl ⟨Keep.refl _ _ _, ?_⟩
          exact ⟨A7, c7, rfl⟩
        rcases j with _ | j
        · simp only [List.getElem?_toArray, List.getElem?_cons_succ, List.getElem?_cons_zero, Option.some.injEq, Nat.zero_add] at ho
          subst ho
          obtain ⟨A8, c8, e8⟩ := hdep 8 rfl
          refine .inl ⟨rfl, fun K Q hK => ?_⟩
          simp only [putFrom, Act.put, List.setIfInBounds_toArray, List.set_cons_succ, List.set_cons_zero, Nat.reduceAdd, e8] at hK ⊢
          have HOUT := Lib.hid hK
          clear hK hdep e8
          go_simp
          refine HOUT.out _ _ _ rfl ⟨Keep.refl _ _ _, ?_⟩
          exact ⟨A8, c8, rfl⟩
        rcases j with _ | j
        · simp only [List.getElem?_toArray, List.getElem?_cons_succ, List.getElem?_cons_zero, Option.some.injEq, Nat.zero_add] at ho
          subst ho
          have e9 : vs 9 = _ := hdep 9 rfl
          refine .inl ⟨rfl, fun K Q hK => ?_⟩
          simp only [putFrom, Act.put, List.setIfInBounds_toArray, List.set_cons_succ, List.set_cons_zero, Nat.reduceAdd, e9] at hK ⊢
          have HOUT := Lib.hid hK
          clear hK hdep e9
          go_simp
          refine HOUT.out _ _ _ rfl ⟨Keep.refl _ _ _, ?_⟩
          exact rfl
        exact absurd ho (by simp)
      · obtain ⟨A7, c7, e10⟩ := hR 10 (by decide)
        obtain ⟨A8, c8, e11⟩ := hR 11 (by decide)
        have e12 : vs 12 = .bool false := hR 12 (by decide)
        have HFIN := Lib.hid (HB4.out.trans (hI.mono (by have := HG.out; have := HGB.out; omega)))
        clear hR hI
        simp only [putFrom, Act.put, List.setIfInBounds_toArray, List.set_cons_succ, List.set_cons_zero, Nat.reduceAdd, e10, e11, e12]
        clear e10 e11 e12
        generalize vs 0 = q0 at *; generalize vs 1 = q1 at *; generalize vs 2 = q2 at *; generalize vs 3 = q3 at *; generalize vs 4 = q4 at *; generalize vs 5 = q5 at *; generalize vs 6 = q6 at *; generalize vs 7 = q7 at *; generalize vs 8 = q8 at *; generalize vs 9 = q9 at *
        go_wp2
        go_ret
        exact ⟨rfl, HFIN.out⟩
  · simp only [fst_, snd_, Option.map_some, Option.getD_some, Option.isSome_some] at hs1 hs2 ⊢
    obtain ⟨hm, hxy, hsh, hxl, hyl⟩ := HOK.out x y rfl
    have HDT := Lib.hid (decide_eq_true hm)
    obtain ⟨Ax, cx, ex, hx1, hx2, hx3⟩ := hs1
    obtain ⟨rfl, -, rfl⟩ := Value.slice.inj ex
    obtain ⟨Ay, cy, ey, hy1, hy2, hy3⟩ := hs2
    obtain ⟨rfl, -, rfl⟩ := Value.slice.inj ey
    have hca := conv_sees c1 hx3
    have hcb := conv_sees c2 hy3
    have hne : ((strB x).toList == (strB y).toList) = false := by rw [strB_beq]; simpa using hxy
    have hsa := Lib.hid (rsum_any w6.heap.size A1 c1 x w6 hx3 (Nat.le_refl _) (by omega))
    have HY := Lib.hid hy3
    have HSH := Lib.hid hsh
    have HYL := Lib.hid hyl
    have HYD := Lib.hid (shaF_len y)
    clear ex ey hm hxy hsh hxl hyl hx3 hy3 HOK hx1 hx2 hy1 hy2
    go_wp2_with fail
    refine hsa.out.mono ?_
    rintro e w7 ⟨rfl, hB7⟩
    have hszw : G ≤ w6.heap.size := by have := HIw.out.size; have := HG.out; omega
    have HI7 := Lib.hid (HIw.out.trans (hB7.mono hszw))
    have hsb := Lib.hid (rsum_any w6.heap.size A2 c2 y w7 (HY.out.below hB7) hB7.size (by have := HYL.out; omega))
    have hnq := fun W => neq_b32 W (shaF y) HYD.out
    rw [HSH.out]
    clear hB7 hszw hsa hca hcb HIw
    generalize shaF y = dy at *
    go_wp2_with fail
    refine hsb.out.mono ?_
    rintro e w8 ⟨rfl, hB8⟩
    have HIw := Lib.hid (HI7.out.trans (hB8.mono (by have := HI7.out.size; have := HG.out; omega)))
    clear hB8 hsb HI7
    go_wp2_with fail
    have HMw := Lib.hid (HMAY.out w8 HIw.out)
    refine HMw.out.mono ?_
    rintro e wm ⟨rfl, hBm⟩
    have hszm : G ≤ w8.heap.size := by have := HIw.out.size; have := HG.out; omega
    have HIm := Lib.hid (HIw.out.trans (hBm.mono hszm))
    clear hBm hszm HMw
    rw [HDT.out]
    go_wp2_with fail
    refine wp_region_inv 75 (VcR G (.slice A4 n c4) key pf) (Below G w4) (fun _ => Keep G (· < G)) (by kernel_rfl) (by rfl) (by kernel_rfl) (fun i j v W W' _ _ _ hT hR => VcR.keep j hT hR) (fun _ W W' hT hI => hI.trans hT.low) (Below.drew HIm.out) (fun j ho1 ho vs W hI hdep => ?_) (fun vs W hI hR => ?_)
    · have hsz : G ≤ W.heap.size := by have := hI.size; have := HG.out; omega
      rcases j with _ | j
      · simp only [List.getElem?_toArray, List.getElem?_cons_zero, Option.some.injEq] at ho
        subst ho
        refine .inl ⟨rfl, fun K Q hK => ?_⟩
        simp only [putFrom, Act.put, List.setIfInBounds_toArray, List.set_cons_succ, List.set_cons_zero, Nat.reduceAdd] at hK ⊢
        have HOUT := Lib.hid hK
        clear hK hdep
        go_simp
        refine HOUT.out _ _ _ rfl ⟨Keep.refl _ _ _, ?_⟩
        exact rfl
      rcases j with _ | j
      · simp only [List.getElem?_toArray, List.getElem?_cons_succ, List.getElem?_cons_zero, Option.some.injEq, Nat.zero_add] at ho
        subst ho
        have hrw := HD.out.below hI HGB.out
        refine .inl ⟨rfl, fun K Q hK => ?_⟩
        simp only [putFrom, Act.put, List.setIfInBounds_toArray, List.set_cons_succ, List.set_cons_zero, Nat.reduceAdd] at hK ⊢
        have HOUT := Lib.hid hK
        clear hK hdep
        refine wp_load_mid 24 _ rfl w.heap.size 0 rfl (bys key) _ hrw.rngT Tryd.underlying24 rfl HKI.out ?_
        simp only [Act.put, List.setIfInBounds_toArray, List.set_cons_succ, List.set_cons_zero]
        refine HOUT.out _ _ _ rfl ⟨Keep.refl _ _ _, ?_⟩
        exact rfl
      rcases j with _ | j
      · simp only [List.getElem?_toArray, List.getElem?_cons_succ, List.getElem?_cons_zero, Option.some.injEq, Nat.zero_add] at ho
        subst ho
        refine .inl ⟨rfl, fun K Q hK => ?_⟩
        simp only [putFrom, Act.put, List.setIfInBounds_toArray, List.set_cons_succ, List.set_cons_zero, Nat.reduceAdd] at hK ⊢
        have HOUT := Lib.hid hK
        clear hK hdep
        go_simp
        refine HOUT.out _ _ _ rfl ⟨Keep.refl _ _ _, ?_⟩
        exact rfl
      rcases j with _ | j
      · simp only [List.getElem?_toArray, List.getElem?_cons_succ, List.getElem?_cons_zero, Option.some.injEq, Nat.zero_add] at ho
        subst ho
        have hrw := HD.out.below hI HGB.out
        refine .inl ⟨rfl, fun K Q hK => ?_⟩
        simp only [putFrom, Act.put, List.setIfInBounds_toArray, List.set_cons_succ, List.set_cons_zero, Nat.reduceAdd] at hK ⊢
        have HOUT := Lib.hid hK
        clear hK hdep
        refine wp_load_mid 24 _ rfl w.heap.size 0 rfl (bys key) _ hrw.rngT Tryd.underlying24 rfl HKI.out ?_
        simp only [Act.put, List.setIfInBounds_toArray, List.set_cons_succ, List.set_cons_zero]
        refine HOUT.out _ _ _ rfl ⟨Keep.refl _ _ _, ?_⟩
        exact rfl
      rcases j with _ | j
      · simp only [List.getElem?_toArray, List.getElem?_cons_succ, List.getElem?_cons_zero, Option.some.injEq, Nat.zero_add] at ho
        subst ho
        have e2 : vs 2 = _ := hdep 2 rfl
        have e3 : vs 3 = _ := hdep 3 rfl
        refine .inl ⟨rfl, fun K Q hK => ?_⟩
        simp only [putFrom, Act.put, List.setIfInBounds_toArray, List.set_cons_succ, List.set_cons_zero, Nat.reduceAdd, e2, e3] at hK ⊢
        have HOUT := Lib.hid hK
        clear hK hdep e2 e3
        go_simp
        refine (HP.out W hI).mono ?_
        rintro e w3 ⟨v3, rfl, hs3, hB3⟩
        go_simp
        refine HOUT.out _ _ _ rfl ⟨Keep.of_below hB3 hsz, ?_⟩
        exact hs3.wider hsz
      rcases j with _ | j
      · simp only [List.getElem?_toArray, List.getElem?_cons_succ, List.getElem?_cons_zero, Option.some.injEq, Nat.zero_add] at ho
        subst ho
        have e0 : vs 0 = _ := hdep 0 rfl
        have e1 : vs 1 = _ := hdep 1 rfl
        obtain ⟨A4, c4, e4, a4, b4, s4, d4⟩ := hdep 4 rfl
        have hv := Lib.hid (HV.out W hI A4 c4 ⟨A4, c4, rfl, a4, b4, s4, d4⟩)
        refine .inl ⟨rfl, fun K Q hK => ?_⟩
        simp only [putFrom, Act.put, List.setIfInBounds_toArray, List.set_cons_succ, List.set_cons_zero, Nat.reduceAdd, e0, e1, e4] at hK ⊢
        have HOUT := Lib.hid hK
        clear hK hdep e0 e1 e4
        go_simp
        refine hv.out.mono ?_
        rintro e w3 ⟨hB3, A3, c3, B3, d3, rfl⟩
        go_simp
        refine HOUT.out _ _ _ rfl ⟨Keep.of_below hB3 hsz, ?_⟩
        exact ⟨A3, c3, B3, d3, rfl⟩
      rcases j with _ | j
      · simp only [List.getElem?_toArray, List.getElem?_cons_succ, List.getElem?_cons_zero, Option.some.injEq, Nat.zero_add] at ho
        subst ho
        obtain ⟨A5, c5, B5, d5, e5⟩ := hdep 5 rfl
        refine .inl ⟨rfl, fun K Q hK => ?_⟩
        simp only [putFrom, Act.put, List.setIfInBounds_toArray, List.set_cons_succ, List.set_cons_zero, Nat.reduceAdd, e5] at hK ⊢
        have HOUT := Lib.hid hK
        clear hK hdep e5
        go_simp
        refine HOUT.out _ _ _ rfl ⟨Keep.refl _ _ _, ?_⟩
        exact ⟨A5, c5, B5, d5, rfl⟩
      rcases j with _ | j
      · simp only [List.getElem?_toArray, List.getElem?_cons_succ, List.getElem?_cons_zero, Option.some.injEq, Nat.zero_add] at ho
        subst ho
        obtain ⟨A6, c6, B6, d6, e6⟩ := hdep 6 rfl
        refine .inl ⟨rfl, fun K Q hK => ?_⟩
        simp only [putFrom, Act.put, List.setIfInBounds_toArray, List.set_cons_succ, List.set_cons_zero, Nat.reduceAdd, e6] at hK ⊢
        have HOUT := Lib.hid hK
        clear hK hdep e6
        go_simp
        refine HOUT.out _ _ _ rfl ⟨Keep.refl _ _ _, ?_⟩
        exact ⟨A6, c6, rfl⟩
      rcases j with _ | j
      · simp only [List.getElem?_toArray, List.getElem?_cons_succ, List.getElem?_cons_zero, Option.some.injEq, Nat.zero_add] at ho
        subst ho
        obtain ⟨A6, c6, B6, d6, e6⟩ := hdep 6 rfl
        refine .inl ⟨rfl, fun K Q hK => ?_⟩
        simp only [putFrom, Act.put, List.setIfInBounds_toArray, List.set_cons_succ, List.set_cons_zero, Nat.reduceAdd, e6] at hK ⊢
        have HOUT := Lib.hid hK
        clear hK hdep e6
        go_simp
        refine HOUT.out _ _ _ rfl ⟨Keep.refl _ _ _, ?_⟩
        exact ⟨B6, d6, rfl⟩
      rcases j with _ | j
      · simp only [List.getElem?_toArray, List.getElem?_cons_succ, List.getElem?_cons_zero, Option.some.injEq, Nat.zero_add] at ho
        subst ho
        obtain ⟨A6, c6, B6, d6, e6⟩ := hdep 6 rfl
        refine .inl ⟨rfl, fun K Q hK => ?_⟩
        simp only [putFrom, Act.put, List.setIfInBounds_toArray, List.set_cons_succ, List.set_cons_zero, Nat.reduceAdd, e6] at hK ⊢
        have HOUT := Lib.hid hK
        clear hK hdep e6
        go_simp
        refine HOUT.out _ _ _ rfl ⟨Keep.refl _ _ _, ?_⟩
        exact rfl
      rcases j with _ | j
      · simp only [List.getElem?_toArray, List.getElem?_cons_succ, List.getElem?_cons_zero, Option.some.injEq, Nat.zero_add] at ho
        subst ho
        obtain ⟨A7, c7, e7⟩ := hdep 7 rfl
        refine .inl ⟨rfl, fun K Q hK => ?_⟩
        simp only [putFrom, Act.put, List.setIfInBounds_toArray, List.set_cons_succ, List.set_cons_zero, Nat.reduceAdd, e7] at hK ⊢
        have HOUT := Lib.hid hK
        clear hK hdep e7
        go_simp
        refine HOUT.out _ _ _ rfl ⟨Keep.refl _ _ _, ?_⟩
        exact ⟨A7, c7, rfl⟩
      rcases j with _ | j
      · simp only [List.getElem?_toArray, List.getElem?_cons_succ, List.getElem?_cons_zero, Option.some.injEq, Nat.zero_add] at ho
        subst ho
        obtain ⟨A8, c8, e8⟩ := hdep 8 rfl
        refine .inl ⟨rfl, fun K Q hK => ?_⟩
        simp only [putFrom, Act.put, List.setIfInBounds_toArray, List.set_cons_succ, List.set_cons_zero, Nat.reduceAdd, e8] at hK ⊢
        have HOUT := Lib.hid hK
        clear hK hdep e8
        go_simp
        refine HOUT.out _ _ _ rfl ⟨Keep.refl _ _ _, ?_⟩
        exact ⟨A8, c8, rfl⟩
      rcases j with _ | j
      · simp only [List.getElem?_toArray, List.getElem?_cons_succ, List.getElem?_cons_zero, Option.some.injEq, Nat.zero_add] at ho
        subst ho
        have e9 : vs 9 = _ := hdep 9 rfl
        refine .inl ⟨rfl, fun K Q hK => ?_⟩
        simp only [putFrom, Act.put, List.setIfInBounds_toArray, List.set_cons_succ, List.set_cons_zero, Nat.reduceAdd, e9] at hK ⊢
        have HOUT := Lib.hid hK
        clear hK hdep e9
        go_simp
        refine HOUT.out _ _ _ rfl ⟨Keep.refl _ _ _, ?_⟩
        exact rfl
      exact absurd ho (by simp)
    · obtain ⟨A7, c7, e10⟩ := hR 10 (by decide)
      obtain ⟨A8, c8, e11⟩ := hR 11 (by decide)
      have e12 : vs 12 = .bool false := hR 12 (by decide)
      have HFIN := Lib.hid (HB4.out.trans (hI.mono (by have := HG.out; have := HGB.out; omega)))
      clear hR hI
      simp only [putFrom, Act.put, List.setIfInBounds_toArray, List.set_cons_succ, List.set_cons_zero, Nat.reduceAdd, e10, e11, e12]
      clear e10 e11 e12
      generalize vs 0 = q0 at *; generalize vs 1 = q1 at *; generalize vs 2 = q2 at *; generalize vs 3 = q3 at *; generalize vs 4 = q4 at *; generalize vs 5 = q5 at *; generalize vs 6 = q6 at *; generalize vs 7 = q7 at *; generalize vs 8 = q8 at *; generalize vs 9 = q9 at *
      go_wp2
      go_ret
      exact ⟨rfl, HFIN.out⟩
end Go.Proofs.YtapbaonlboefeaaDoor
