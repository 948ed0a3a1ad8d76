/- trie: trail.depth, read. WRITTEN BY wip/gen/tsa.py. -/
import Derived.Test.YtapbaonlboefeaaDoorTrZ
import Derived.Deep.Cut
namespace Go.Proofs.YtapbaonlboefeaaDoor
open Go.RowKit

set_option maxRecDepth 20000 in
set_option maxHeartbeats 1600000 in
theorem depth_any (w : World) (A : Option Addr) (n c : Nat) (v : Value) (hn : n ≤ 8192) (hv : ∃ A' n' c', v = .slice A' n' c') :
    Calls Tryd.prog 54 #[.agg #[.slice A n c, v]] w fun e w' => e = .returned (.int .i64 ((n / 32 : Nat) : Int)) ∧ Below w.heap.size w w' := by
  obtain ⟨A', n', c', rfl⟩ := hv
  have hb := HB.new w 62 [.slice A n c, .slice A' n' c']
  have hc0 : (w.alloc (.cells #[.slice A n c, .slice A' n' c'] 62)).cell? ⟨w.heap.size, 0, none⟩ = some (.slice A n c) := by rw [hb.cell]; rfl
  have hB := below_alloc1 w (.cells #[.slice A n c, .slice A' n' c'] 62)
  have h1 : (n : Int) ≤ 8192 := by omega
  have h2 : (0 : Int) ≤ (n : Int) := by omega
  clear hb hn
  go_enter Tryd.func54, Tryd.ntmps54
  go_wp2
  go_ret
  exact ⟨by push_cast; rfl, hB⟩
theorem Tryd.zeroEntry (W : World) : (zeroValue 34).run Tryd.prog W = .ok (.agg zent.toArray) W := by kernel_rfl
def Fit (key : List UInt8) (n : Nat) (e : Ent) : Prop := ∀ i, i < n → kbit e.1 i = kbit key i
instance (key : List UInt8) (n : Nat) (e : Ent) : Decidable (Fit key n e) := by unfold Fit; infer_instance
/-- What a proof tells, or what is wrong with it. -/
def readF (key b : List UInt8) : Sum Nat (List UInt8 × List Ent) :=
  match decF b with
  | none => .inl 5
  | some (T, E) => if ∀ e ∈ E, Fit key (T.length / 32) e then .inr (T, E) else .inl 19
def ReadW (w : World) (r : Sum Nat (List UInt8 × List Ent)) (e : Ending) (w' : World) : Prop :=
  Below w.heap.size w w' ∧ match r with
  | .inl k => ∃ A n c A' n' c', e = .returned (.tuple #[.agg #[.slice A n c, .slice A' n' c'], .int .i64 (k : Int)])
  | .inr (T, E) => ∃ As cs A c vs, e = .returned (.tuple #[.agg #[.slice As T.length cs, .slice A E.length c], .int .i64 0]) ∧ Slot w' w'.heap.size (.slice As T.length cs) T ∧ E.length ≤ c ∧ c ≤ 9223372036854775807 ∧ EntsW w' w'.heap.size A vs E ∧ (∀ ad : Addr, As = some ad → w.heap.size ≤ ad.block) ∧ NewE w.heap.size A vs
theorem decF_len {b : List UInt8} {T : List UInt8} {E : List Ent} (h : decF b = some (T, E)) : T.length ≤ 8192 ∧ T.length % 32 = 0 ∧ E.length < 2 := by
  unfold decF at h
  split at h
  · split at h
    · rename_i s e _ hc
      obtain ⟨E', hE, h⟩ := Option.map_eq_some_iff.1 h
      cases h
      refine ⟨hc.2, hc.1, ?_⟩
      unfold endOf at hE
      split at hE
      · cases hE; simp
      · split at hE
        · cases hE; simp
        · cases hE
      · cases hE
    · cases h
  · cases h

/-- Where read stands behind decode. -/
structure RdAt (w : World) (g : Nat) (key : List UInt8) (As : Option Addr) (n cs : Nat) (A3 : Option Addr) (m c3 : Nat) (W : World) : Prop where
  tr : HB W g 62 [.slice As n cs, .slice A3 m c3]
  res : HB W (w.heap.size + 1) 62 zTr
  key : HB W w.heap.size 24 (bys key)
  low : Below w.heap.size w W
theorem RdAt.below {w : World} {g : Nat} {key : List UInt8} {As : Option Addr} {n cs : Nat} {A3 : Option Addr} {m c3 : Nat} {W W' : World} (h : RdAt w g key As n cs A3 m c3 W) (hB : Below W.heap.size W W') : RdAt w g key As n cs A3 m c3 W' :=
  ⟨h.tr.below hB h.tr.lt, h.res.below hB h.res.lt, h.key.below hB h.key.lt, h.low.trans (hB.mono h.low.size)⟩
theorem rng_left {w : World} {b o : Nat} {xs ys : List Value} (h : w.rangeAt b o (xs ++ ys)) : w.rangeAt b o xs := fun j u hu => h j u (by
  rw [List.getElem?_append_left (by
    rcases Nat.lt_or_ge j xs.length with q | q
    · exact q
    · rw [List.getElem?_eq_none q] at hu; cases hu)]
  exact hu)
/-- Entry i, as a row. -/
theorem EntsW.row {w : World} {B : Nat} {A : Option Addr} {vs : List Value} {L : List Ent} (h : EntsW w B A vs L) {i : Nat} (hi : i < L.length) : ∃ b o v, A = some ⟨b, o, none⟩ ∧ b < B ∧ v.oneCell' = true ∧ w.rangeAt b (o + i * 33) (bys (L[i]'hi).1 ++ [v]) ∧ Slot w B v (L[i]'hi).2 := by
  obtain ⟨b, o, v, hA, hb, hr, hc, hs⟩ := h.at_ hi
  have hk := h.keys _ (List.getElem_mem hi)
  refine ⟨b, o, v, hA, hb, ?_, fun j u hu => ?_, hs⟩
  · obtain ⟨A', c', rfl, -⟩ := hs; rfl
  · rcases Nat.lt_or_ge j 32 with q | q
    · rw [List.getElem?_append_left (by rw [bys_len, hk]; exact q)] at hu
      exact hr j u hu
    · rw [List.getElem?_append_right (by rw [bys_len, hk]; exact q), bys_len, hk] at hu
      obtain rfl : j = 32 := by
        rcases Nat.lt_or_ge j 33 with q2 | q2
        · omega
        · rw [List.getElem?_eq_none (by simp; omega)] at hu; cases hu
      simp only [Nat.sub_self, List.getElem?_cons_zero, Option.some.injEq] at hu
      subst hu
      exact hc
theorem ent_one (k : List UInt8) {v : Value} (hv : v.oneCell' = true) : (bys k ++ [v]).toArray.all (·.oneCell') = true := all_oneCell_toArray (fun u hu => by
  rcases List.mem_append.1 hu with q | q
  · exact bys_one k u q
  · rw [List.mem_singleton.1 q]; exact hv)
set_option maxRecDepth 20000 in
set_option maxHeartbeats 1600000 in
theorem read_none (w : World) (key : List UInt8) (_hkey : key.length = 32) (A : Option Addr) (c : Nat) (b : List UInt8) (hs : Sees w w.heap.size 1 A b.length (bys b)) (hc : b.length ≤ c) (hcm : c ≤ 9223372036854775807) (hm : b.length ≤ 1099511627776) (hd : decF b = none) :
    Calls Tryd.prog 33 #[.agg (bys key).toArray, .slice A b.length c] w (ReadW w (.inl 5)) := by
  have hz := Tryd.zeroTrail
  have hb0 := HB.new w 24 (bys key)
  have hB0 := below_alloc1 w (.cells (bys key).toArray 24)
  have hq0 : (w.alloc (.cells (bys key).toArray 24)).heap.size = w.heap.size + 1 := by simp
  generalize hw0 : w.alloc (.cells (bys key).toArray 24) = w0 at *
  have hb1 := HB.new w0 62 zTr
  have hB1 := below_alloc1 w0 (.cells zTr.toArray 62)
  have hq1 : (w0.alloc (.cells zTr.toArray 62)).heap.size = w.heap.size + 2 := by simp; omega
  rw [hq0] at hb1
  have hw1' : w0.alloc (.cells #[.slice none 0 0, .slice none 0 0] 62) = w0.alloc (.cells zTr.toArray 62) := rfl
  generalize hw1 : w0.alloc (.cells zTr.toArray 62) = w1 at *
  have HK0 := Lib.hid (hb0.below hB1 (by omega))
  have HR0 := Lib.hid hb1
  have HB1 := Lib.hid (hB0.trans (hB1.mono hB0.size))
  have HQ1 := Lib.hid hq1
  have HD := Lib.hid (dec_any w1 A c b ((hs.below hB0).wide hB0.size |>.below hB1 |>.wide hB1.size) hc hcm hm)
  rw [hd] at HD
  clear hd hb0 hB0 hb1 hB1 hq1 hs hc hcm hm
  go_enter Tryd.func33, Tryd.ntmps33
  go_wp2_with fail
  clear hw0 hw1 hw1' hz
  refine HD.out.mono ?_
  rintro e w2 ⟨hB2, A1, n1, c1, A2, n2, c2, rfl⟩
  have hr2 := HR0.out.below hB2 HR0.out.lt
  have hBw := HB1.out.trans (hB2.mono HB1.out.size)
  have hlt2 : w.heap.size + 1 < w2.heap.size := hr2.lt
  clear HD HK0 HR0 HB1 hB2
  have hr3 := hr2.alloc (.cells zTr.toArray 62)
  have hr4 := HB.new w2 62 zTr
  have hBw3 := hBw.alloc hBw.size (.cells zTr.toArray 62)
  have hz := Tryd.zeroTrail
  have hw3' : w2.alloc (.cells #[.slice none 0 0, .slice none 0 0] 62) = w2.alloc (.cells zTr.toArray 62) := rfl
  generalize hw3 : w2.alloc (.cells zTr.toArray 62) = w3 at *
  have hc0z : w3.cell? ⟨w2.heap.size, 0, none⟩ = some (.slice none 0 0) := by rw [hr4.cell]; rfl
  have hf0z := hr4.frozen 0
  have hc1z : w3.cell? ⟨w2.heap.size, 1, none⟩ = some (.slice none 0 0) := by rw [hr4.cell]; rfl
  have hf1z := hr4.frozen 1
  have hc0r : w3.cell? ⟨w.heap.size + 1, 0, none⟩ = some (.slice none 0 0) := by rw [hr3.cell]; rfl
  have hf0r := hr3.frozen 0
  have hc1r : w3.cell? ⟨w.heap.size + 1, 1, none⟩ = some (.slice none 0 0) := by rw [hr3.cell]; rfl
  have hf1r := hr3.frozen 1
  have hne : w.heap.size + 1 ≠ w2.heap.size := by omega
  go_wp2
  refine bodyPost_ret (results_rowT rfl _ _ (w.heap.size + 1) 62 [.slice none 0 0, .slice none 0 0] _ _ rfl rfl ((((hr3.far (p := ⟨w2.heap.size, 0, none⟩) hne _).far (p := ⟨w2.heap.size, 1, none⟩) hne _).set_ 0 _).set_ 1 _) Tryd.underlying62 rfl (by kernel_rfl)) rfl ?_
  exact ⟨(((hBw3.setCell (by simp; omega) _).setCell (by simp; omega) _).setCell (by simp) _).setCell (by simp) _, _, _, _, _, _, _, rfl⟩
set_option maxRecDepth 20000 in
set_option maxHeartbeats 1600000 in
theorem read_some (w : World) (key : List UInt8) (hkey : key.length = 32) (A : Option Addr) (c : Nat) (b : List UInt8) (hs : Sees w w.heap.size 1 A b.length (bys b)) (hc : b.length ≤ c) (hcm : c ≤ 9223372036854775807) (hm : b.length ≤ 1099511627776) (T : List UInt8) (E : List Ent) (hT : T.length ≤ 8192) (hd : decF b = some (T, E)) (r : Sum Nat (List UInt8 × List Ent)) (hr : r = if ∀ e ∈ E, Fit key (T.length / 32) e then .inr (T, E) else .inl 19) :
    Calls Tryd.prog 33 #[.agg (bys key).toArray, .slice A b.length c] w (ReadW w (r)) := by
  have HRR := Lib.hid hr
  clear hr
  have hz := Tryd.zeroTrail
  have hb0 := HB.new w 24 (bys key)
  have hB0 := below_alloc1 w (.cells (bys key).toArray 24)
  have hq0 : (w.alloc (.cells (bys key).toArray 24)).heap.size = w.heap.size + 1 := by simp
  generalize hw0 : w.alloc (.cells (bys key).toArray 24) = w0 at *
  have hb1 := HB.new w0 62 zTr
  have hB1 := below_alloc1 w0 (.cells zTr.toArray 62)
  have hq1 : (w0.alloc (.cells zTr.toArray 62)).heap.size = w.heap.size + 2 := by simp; omega
  rw [hq0] at hb1
  have hw1' : w0.alloc (.cells #[.slice none 0 0, .slice none 0 0] 62) = w0.alloc (.cells zTr.toArray 62) := rfl
  generalize hw1 : w0.alloc (.cells zTr.toArray 62) = w1 at *
  have HK0 := Lib.hid (hb0.below hB1 (by omega))
  have HR0 := Lib.hid hb1
  have HB1 := Lib.hid (hB0.trans (hB1.mono hB0.size))
  have HQ1 := Lib.hid hq1
  have HD := Lib.hid (dec_any w1 A c b ((hs.below hB0).wide hB0.size |>.below hB1 |>.wide hB1.size) hc hcm hm)
  rw [hd] at HD
  clear hd hb0 hB0 hb1 hB1 hq1 hs hc hcm hm
  go_enter Tryd.func33, Tryd.ntmps33
  go_wp2_with fail
  clear hw0 hw1 hw1' hz
  refine HD.out.mono ?_
  rintro e0 w2 ⟨hB2, As, cs, A3, c3, vs, rfl, hS, hc3, hcm3, hents, hAs, hnew⟩
  have hr2 := HR0.out.below hB2 HR0.out.lt
  have hk2 := HK0.out.below hB2 HK0.out.lt
  have hBw := HB1.out.trans (hB2.mono HB1.out.size)
  have hlt2 : w.heap.size + 1 < w2.heap.size := hr2.lt
  have HQ2 := Lib.hid (show w.heap.size + 2 ≤ w2.heap.size by have := hB2.size; have := HQ1.out; omega)
  have HS := Lib.hid hS; have HE := Lib.hid hents; have HA := Lib.hid hAs; have HN := Lib.hid hnew; have HC3 := Lib.hid hc3
  have hk3 := hk2.alloc (.cells zTr.toArray 62)
  have hr3 := hr2.alloc (.cells zTr.toArray 62)
  have hr4 := HB.new w2 62 zTr
  have hW3 := hBw.alloc hBw.size (.cells zTr.toArray 62)
  have hB3 := below_alloc1 w2 (.cells zTr.toArray 62)
  have hz := Tryd.zeroTrail
  have hw3' : w2.alloc (.cells #[.slice none 0 0, .slice none 0 0] 62) = w2.alloc (.cells zTr.toArray 62) := rfl
  have hz3 : (w2.alloc (.cells zTr.toArray 62)).heap.size = w2.heap.size + 1 := by simp
  generalize hw3 : w2.alloc (.cells zTr.toArray 62) = w3 at *
  obtain ⟨n, hn⟩ : ∃ n, n = T.length := ⟨_, rfl⟩
  obtain ⟨m, hm⟩ : ∃ m, m = E.length := ⟨_, rfl⟩
  have HT := Lib.hid hn; have HM := Lib.hid hm
  rw [← hn] at HS ⊢
  rw [← hm] at HC3 ⊢
  have hn8 : n ≤ 8192 := by rw [hn]; exact hT
  have HN8 := Lib.hid hn8
  have HKY := Lib.hid hkey
  have HW4 : Hid (∀ a b : Value, ∀ W, (w3.setCell ⟨w2.heap.size, 0, none⟩ a).setCell ⟨w2.heap.size, 1, none⟩ b = W → (HB W w2.heap.size 62 [a, b] ∧ HB W (w.heap.size + 1) 62 zTr ∧ HB W w.heap.size 24 (bys key) ∧ Below w.heap.size w W) ∧ Below w2.heap.size w2 W ∧ W.heap.size = w2.heap.size + 1) := Lib.hid (fun a b W hW => by
    subst hW
    have hne : w.heap.size + 1 ≠ w2.heap.size := by omega
    have hne2 : w.heap.size ≠ w2.heap.size := by omega
    exact ⟨⟨(hr4.set_ 0 a).set_ 1 b, (hr3.far (p := ⟨w2.heap.size, 0, none⟩) hne _).far (p := ⟨w2.heap.size, 1, none⟩) hne _, (hk3.far (p := ⟨w2.heap.size, 0, none⟩) hne2 _).far (p := ⟨w2.heap.size, 1, none⟩) hne2 _, (hW3.setCell (by simp; omega) _).setCell (by simp; omega) _⟩, (hB3.setCell (by simp) _).setCell (by simp) _, by simpa [World.setCell] using hz3⟩)
  clear HD HK0 HR0 HB1 hB2 hS hents hAs hnew hr2 hk2 hBw hlt2 hn hm hc3 hn8 hT
  have hc0z : w3.cell? ⟨w2.heap.size, 0, none⟩ = some (.slice none 0 0) := by rw [hr4.cell]; rfl
  have hf0z := hr4.frozen 0
  have hc1z : w3.cell? ⟨w2.heap.size, 1, none⟩ = some (.slice none 0 0) := by rw [hr4.cell]; rfl
  have hf1z := hr4.frozen 1
  clear hr3 hk3 hW3 hB3 hz3 hr4
  go_upto_region 4 with (fail)
  obtain ⟨⟨h1, h2, h3, h4⟩, h5, h6⟩ := HW4.out (.slice As n cs) (.slice A3 m c3) _ rfl
  clear hw3 hw3' hc0z hf0z hc1z hf1z hz HW4
  generalize (w3.setCell ⟨w2.heap.size, 0, none⟩ (.slice As n cs)).setCell ⟨w2.heap.size, 1, none⟩ (.slice A3 m c3) = w4 at *
  have HR := Lib.hid (RdAt.mk (As := As) (n := n) (cs := cs) (A3 := A3) (m := m) (c3 := c3) h1 h2 h3 h4)
  have HB4 := Lib.hid h5
  have HZ4 := Lib.hid h6
  have hc1 : w4.cell? ⟨w2.heap.size, 1, none⟩ = some (.slice A3 m c3) := by rw [h1.cell]; rfl
  clear h1 h2 h3 h4 h5 h6
  obtain ⟨g, hg⟩ : ∃ g : Nat, w2.heap.size = g := ⟨_, rfl⟩
  rw [hg] at HE HS HB4 HZ4 HQ2 hc1 HR ⊢
  have HG := Lib.hid hg
  clear hg
  go_wp2_with fail
  clear hc1
  go_loopw [21] (fun t wr => ∃ i : Nat, t = .int .i64 (i : Int) ∧ i ≤ m ∧ (∀ j (h : j < E.length), j < i → Fit key (n / 32) (E[j]'h)) ∧ RdAt w g key As n cs A3 m c3 wr ∧ Below (g + 1) w4 wr) (fun t _ => m - (intOf t).toNat)
  case atStart => exact ⟨0, rfl, by omega, fun j _ h => by omega, HR.out, Below.refl _ _⟩
  case round =>
    obtain ⟨i, rfl, him, hall, hrd, hBr⟩ := hrel
    have HALL := Lib.hid hall
    have HR4 := Lib.hid hrd
    have HBr := Lib.hid hBr
    have HEW : Hid (EntsW wr g A3 vs E) := Lib.hid ((HE.out.below HB4.out).below (hBr.mono (by omega)))
    clear hall hrd hBr HR
    rcases Nat.lt_or_ge i m with hlt | hge
    · have hlt' : (i : Int) < (m : Int) := by omega
      have hmI : (m : Int) ≤ 9223372036854775807 := by have := HC3.out; omega
      have hiE : i < E.length := by rw [← HM.out]; exact hlt
      obtain ⟨b, o, v, rfl, hb, hv1, hrow, hsl⟩ := HEW.out.row hiE
      have hkl := HEW.out.keys _ (List.getElem_mem hiE)
      have HSTEP : Hid (Fit key (n / 32) (E[i]'hiE) → ∀ j (h : j < E.length), j < i + 1 → Fit key (n / 32) (E[j]'h)) := Lib.hid (fun x j h hj => by
        rcases Nat.lt_or_ge j i with q | q
        · exact HALL.out j h q
        · obtain rfl : j = i := by omega
          exact x)
      have HNO : Hid (¬ Fit key (n / 32) (E[i]'hiE) → ¬ ∀ e ∈ E, Fit key (n / 32) e) := Lib.hid (fun x q => x (q _ (List.getElem_mem hiE)))
      generalize (E[i]'hiE) = en at *
      obtain ⟨k, x⟩ := en
      simp only at hrow hkl hsl
      have HV1 := Lib.hid hv1; have HROW := Lib.hid hrow; have HKL := Lib.hid hkl
      clear hsl hb hiE hlt hv1 hrow hkl
      have HI33 : Hid ((Tryd.prog.info? 34).map (·.size) = some (bys k ++ [v]).length) := Lib.hid (by rw [one_len HKL.out]; kernel_rfl)
      have HI33' : Hid ((Tryd.prog.info? 34).map (·.size) = some (bys k ++ [v]).toArray.size) := Lib.hid (by rw [List.size_toArray]; exact HI33.out)
      have HOLD : Hid (zent.toArray.size = (bys k ++ [v]).toArray.size) := Lib.hid (by rw [List.size_toArray, List.size_toArray, one_len HKL.out, zent_len])
      have HONE := Lib.hid (ent_one k HV1.out)
      have hzr := Tryd.zeroEntry
      have hb9 := HB.new wr 34 zent
      go_wp2_with (first
        | (refine wpList_load_mid rfl 34 _ rfl b (o + i * 33) rfl (bys k ++ [v]) _ HROW.out Tryd.underlying34 rfl HI33.out ?_)
        | (refine wpList_store_row rfl 34 _ _ rfl wr.heap.size (bys k ++ [v]).toArray rfl rfl 34 zent.toArray hb9 HI33'.out HOLD.out HONE.out ?_))
      have hb9' := HB.row hb9 (bys k ++ [v]).toArray
      have hBa : Below wr.heap.size wr ((wr.alloc (.cells zent.toArray 34)).setRow wr.heap.size (bys k ++ [v]).toArray) := Below.setRow_ (below_alloc1 wr _) (Nat.le_refl _) _
      clear hzr hb9
      simp only [Act.put]
      generalize (wr.alloc (.cells zent.toArray 34)).setRow wr.heap.size (bys k ++ [v]).toArray = wa at *
      have HRA := Lib.hid (HR4.out.below hBa)
      have HB9 := Lib.hid hb9'
      have HBA := Lib.hid (HBr.out.trans (hBa.mono (by have := HBr.out.size; have := HZ4.out; omega)))
      have HBUK := Lib.hid (built_bits k HKL.out)
      have HBUY := Lib.hid (built_bits key HKY.out)
      have HNG := Lib.hid (show w.heap.size + 1 < wa.heap.size ∧ w.heap.size < wa.heap.size ∧ g < wa.heap.size from ⟨HRA.out.res.lt, HRA.out.key.lt, HRA.out.tr.lt⟩)
      obtain ⟨g9, hg9⟩ : ∃ g9 : Nat, wr.heap.size = g9 := ⟨_, rfl⟩
      rw [hg9] at HB9 ⊢
      clear hb9' hBa hg9
      obtain ⟨fit, hfit⟩ : ∃ fit : Bool, decide (∀ j, j < n / 32 → kbit k j = kbit key j) = fit := ⟨_, rfl⟩
      have HFIT := Lib.hid hfit
      clear hfit
      refine wp_region_inv 37 (fun jx v _ => v = ([.pointer (some ⟨g9, 0, none⟩), .agg (bys k).toArray, .agg (bys k).toArray, .agg #[.slice As n cs, .slice (some ⟨b, o, none⟩) m c3], .int .i64 ((n / 32 : Nat) : Int), .agg (bys key).toArray, .agg (bys key).toArray, .bool fit, .bool (!fit)] : List Value).getD jx undef) (Below wa.heap.size wa) (fun _ W1 W2 => Below W1.heap.size W1 W2) (by kernel_rfl) (by rfl) (by kernel_rfl) (fun _ _ _ _ _ _ _ _ _ hR => hR) (fun _ _ _ e h => h.trans (e.mono h.size)) (Below.drew (Below.refl _ _)) (fun jx o ho vs wb hI hdep => ?_) (fun vs w6 hI hR => ?_)
      · rcases jx with _ | jx
        · simp only [List.getElem?_toArray, List.getElem?_cons_zero, Option.some.injEq] at ho
          subst ho
          refine .inl ⟨rfl, fun K Q hK => ?_⟩
          simp only [putFrom, Act.put, List.setIfInBounds_toArray, List.set_cons_succ, List.set_cons_zero, Nat.reduceAdd] at hK ⊢
          have HOUT := Lib.hid hK
          clear hK hdep 
          go_simp
          exact HOUT.out _ _ _ rfl ⟨Below.refl _ _, rfl⟩
        rcases jx with _ | jx
        · simp only [List.getElem?_toArray, List.getElem?_cons_succ, List.getElem?_cons_zero, Option.some.injEq, Nat.zero_add] at ho
          subst ho
          have e0 : vs 0 = .pointer (some ⟨g9, 0, none⟩) := hdep 0 rfl
          refine .inl ⟨rfl, fun K Q hK => ?_⟩
          simp only [putFrom, Act.put, List.setIfInBounds_toArray, List.set_cons_succ, List.set_cons_zero, Nat.reduceAdd, e0] at hK ⊢
          have HOUT := Lib.hid hK
          clear hK hdep e0
          refine wp_load_mid 24 _ rfl g9 0 rfl (bys k) _ (rng_left (HB9.out.below hI HB9.out.lt).rngT) Tryd.underlying24 rfl (by rw [bys_len, HKL.out]; exact Tryd.infoD) ?_
          simp only [Act.put, List.setIfInBounds_toArray, List.set_cons_succ, List.set_cons_zero]
          exact HOUT.out _ _ _ rfl ⟨Below.refl _ _, rfl⟩
        rcases jx with _ | jx
        · simp only [List.getElem?_toArray, List.getElem?_cons_succ, List.getElem?_cons_zero, Option.some.injEq, Nat.zero_add] at ho
          subst ho
          have e1 : vs 1 = .agg (bys k).toArray := hdep 1 rfl
          refine .inl ⟨rfl, fun K Q hK => ?_⟩
          simp only [putFrom, Act.put, List.setIfInBounds_toArray, List.set_cons_succ, List.set_cons_zero, Nat.reduceAdd, e1] at hK ⊢
          have HOUT := Lib.hid hK
          clear hK hdep e1
          have hbu := HBUK.out
          refine wp_buildTo 95 _ rfl (bys k).toArray (by (simp only [List.map_toArray, List.map_cons, List.map_nil]; exact hbu)) ?_
          simp only [Act.put, List.setIfInBounds_toArray, List.set_cons_succ, List.set_cons_zero]
          exact HOUT.out _ _ _ rfl ⟨Below.refl _ _, rfl⟩
        rcases jx with _ | jx
        · simp only [List.getElem?_toArray, List.getElem?_cons_succ, List.getElem?_cons_zero, Option.some.injEq, Nat.zero_add] at ho
          subst ho
          refine .inl ⟨rfl, fun K Q hK => ?_⟩
          simp only [putFrom, Act.put, List.setIfInBounds_toArray, List.set_cons_succ, List.set_cons_zero, Nat.reduceAdd] at hK ⊢
          have HOUT := Lib.hid hK
          clear hK hdep 
          refine wp_load_mid 62 _ rfl g 0 rfl ([.slice As n cs, .slice (some ⟨b, o, none⟩) m c3]) _ (HRA.out.tr.below hI HNG.out.2.2).rngT Tryd.underlying62 rfl (by kernel_rfl) ?_
          simp only [Act.put, List.setIfInBounds_toArray, List.set_cons_succ, List.set_cons_zero]
          exact HOUT.out _ _ _ rfl ⟨Below.refl _ _, rfl⟩
        rcases jx with _ | jx
        · simp only [List.getElem?_toArray, List.getElem?_cons_succ, List.getElem?_cons_zero, Option.some.injEq, Nat.zero_add] at ho
          subst ho
          have e3 : vs 3 = .agg #[.slice As n cs, .slice (some ⟨b, o, none⟩) m c3] := hdep 3 rfl
          refine .inl ⟨rfl, fun K Q hK => ?_⟩
          simp only [putFrom, Act.put, List.setIfInBounds_toArray, List.set_cons_succ, List.set_cons_zero, Nat.reduceAdd, e3] at hK ⊢
          have HOUT := Lib.hid hK
          clear hK hdep e3
          go_simp
          refine (depth_any wb As n cs _ HN8.out ⟨_, _, _, rfl⟩).mono ?_
          rintro e w5 ⟨rfl, hB5⟩
          go_simp
          exact HOUT.out _ _ _ rfl ⟨hB5, rfl⟩
        rcases jx with _ | jx
        · simp only [List.getElem?_toArray, List.getElem?_cons_succ, List.getElem?_cons_zero, Option.some.injEq, Nat.zero_add] at ho
          subst ho
          refine .inl ⟨rfl, fun K Q hK => ?_⟩
          simp only [putFrom, Act.put, List.setIfInBounds_toArray, List.set_cons_succ, List.set_cons_zero, Nat.reduceAdd] at hK ⊢
          have HOUT := Lib.hid hK
          clear hK hdep 
          refine wp_load_mid 24 _ rfl w.heap.size 0 rfl (bys key) _ (HRA.out.key.below hI HNG.out.2.1).rngT Tryd.underlying24 rfl (by rw [bys_len, HKY.out]; exact Tryd.infoD) ?_
          simp only [Act.put, List.setIfInBounds_toArray, List.set_cons_succ, List.set_cons_zero]
          exact HOUT.out _ _ _ rfl ⟨Below.refl _ _, rfl⟩
        rcases jx with _ | jx
        · simp only [List.getElem?_toArray, List.getElem?_cons_succ, List.getElem?_cons_zero, Option.some.injEq, Nat.zero_add] at ho
          subst ho
          have e5 : vs 5 = .agg (bys key).toArray := hdep 5 rfl
          refine .inl ⟨rfl, fun K Q hK => ?_⟩
          simp only [putFrom, Act.put, List.setIfInBounds_toArray, List.set_cons_succ, List.set_cons_zero, Nat.reduceAdd, e5] at hK ⊢
          have HOUT := Lib.hid hK
          clear hK hdep e5
          have hbu := HBUY.out
          refine wp_buildTo 95 _ rfl (bys key).toArray (by (simp only [List.map_toArray, List.map_cons, List.map_nil]; exact hbu)) ?_
          simp only [Act.put, List.setIfInBounds_toArray, List.set_cons_succ, List.set_cons_zero]
          exact HOUT.out _ _ _ rfl ⟨Below.refl _ _, rfl⟩
        rcases jx with _ | jx
        · simp only [List.getElem?_toArray, List.getElem?_cons_succ, List.getElem?_cons_zero, Option.some.injEq, Nat.zero_add] at ho
          subst ho
          have e2 : vs 2 = .agg (bys k).toArray := hdep 2 rfl
          have e4 : vs 4 = .int .i64 ((n / 32 : Nat) : Int) := hdep 4 rfl
          have e6 : vs 6 = .agg (bys key).toArray := hdep 6 rfl
          refine .inl ⟨rfl, fun K Q hK => ?_⟩
          simp only [putFrom, Act.put, List.setIfInBounds_toArray, List.set_cons_succ, List.set_cons_zero, Nat.reduceAdd, e2, e4, e6] at hK ⊢
          have HOUT := Lib.hid hK
          clear hK hdep e2 e4 e6
          go_simp
          refine ((by have h := begins_any k key HKL.out HKY.out (n / 32) (by have := HN8.out; omega) wb; rw [HFIT.out] at h; exact h : Calls Tryd.prog 53 #[.agg (bys k).toArray, .int .i64 ((n / 32 : Nat) : Int), .agg (bys key).toArray] wb fun e w' => e = .returned (.bool fit) ∧ Below wb.heap.size wb w')).mono ?_
          rintro e w5 ⟨rfl, hB5⟩
          go_simp
          exact HOUT.out _ _ _ rfl ⟨hB5, rfl⟩
        rcases jx with _ | jx
        · simp only [List.getElem?_toArray, List.getElem?_cons_succ, List.getElem?_cons_zero, Option.some.injEq, Nat.zero_add] at ho
          subst ho
          have e7 : vs 7 = .bool fit := hdep 7 rfl
          refine .inl ⟨rfl, fun K Q hK => ?_⟩
          simp only [putFrom, Act.put, List.setIfInBounds_toArray, List.set_cons_succ, List.set_cons_zero, Nat.reduceAdd, e7] at hK ⊢
          have HOUT := Lib.hid hK
          clear hK hdep e7
          go_simp
          exact HOUT.out _ _ _ rfl ⟨Below.refl _ _, rfl⟩
        exact absurd ho (by simp)
      ·
        have e8 : vs 8 = .bool (!fit) := hR 8 (by decide)
        simp only [putFrom, Act.put, List.setIfInBounds_toArray, List.set_cons_succ, List.set_cons_zero, Nat.reduceAdd, e8]
        clear hR e8
        have hBx := HBA.out.trans (hI.mono (by have := HBA.out.size; have := HZ4.out; omega))
        have HRX := Lib.hid (HRA.out.below hI)
        clear hI
        cases fit with
        | true =>
          have hF := Lib.hid (of_decide_eq_true HFIT.out)
          go_wp2
          go_roundw
          case rel => exact ⟨i + 1, by go_num, by omega, HSTEP.out hF.out, HRX.out, hBx⟩
          case measure => simp [intOf]; omega
        | false =>
          have hF := Lib.hid (of_decide_eq_false HFIT.out)
          have hrx := HRX.out.res
          have hLow := HRX.out.low
          have hc0r : w6.cell? ⟨w.heap.size + 1, 0, none⟩ = some (.slice none 0 0) := by rw [hrx.cell]; rfl
          have hf0r := hrx.frozen 0
          have hc1r : w6.cell? ⟨w.heap.size + 1, 1, none⟩ = some (.slice none 0 0) := by rw [hrx.cell]; rfl
          have hf1r := hrx.frozen 1
          go_wp2
          refine bodyPost_ret (results_rowT rfl _ _ (w.heap.size + 1) 62 [.slice none 0 0, .slice none 0 0] _ _ rfl rfl ((hrx.set_ 0 _).set_ 1 _) Tryd.underlying62 rfl (by kernel_rfl)) rfl ?_
          have hne := HNO.out hF.out
          rw [HT.out] at hne
          rw [HRR.out, if_neg hne]
          exact ⟨(hLow.setCell (by simp) _).setCell (by simp) _, _, _, _, _, _, _, rfl⟩
    · obtain rfl : i = m := by omega
      have hall : ∀ e ∈ E, Fit key (n / 32) e := fun e he => by
        obtain ⟨j, hj, rfl⟩ := List.getElem_of_mem he
        exact HALL.out j hj (by rw [HM.out]; exact hj)
      have HALLE := Lib.hid hall
      clear hall
      have hrx := HR4.out.res
      have htr := HR4.out.tr
      have hLow := HR4.out.low
      have hneg : w.heap.size + 1 ≠ g := by have := HQ2.out; omega
      have hc0r : wr.cell? ⟨w.heap.size + 1, 0, none⟩ = some (.slice none 0 0) := by rw [hrx.cell]; rfl
      have hf0r := hrx.frozen 0
      have hc1r : wr.cell? ⟨w.heap.size + 1, 1, none⟩ = some (.slice none 0 0) := by rw [hrx.cell]; rfl
      have hf1r := hrx.frozen 1
      have hc0t : wr.cell? ⟨g, 0, none⟩ = some (.slice As n cs) := by rw [htr.cell]; rfl
      have hf0t := htr.frozen 0
      have hc1t : wr.cell? ⟨g, 1, none⟩ = some (.slice A3 i c3) := by rw [htr.cell]; rfl
      have hf1t := htr.frozen 1
      go_wp2
      refine bodyPost_ret (results_rowT rfl _ _ (w.heap.size + 1) 62 [.slice As n cs, .slice A3 i c3] _ _ rfl rfl ((hrx.set_ 0 _).set_ 1 _) Tryd.underlying62 rfl (by kernel_rfl)) rfl ?_
      have hall := HALLE.out
      rw [HT.out] at hall
      rw [HRR.out, if_pos hall]
      have hcell : ∀ p : Addr, w.heap.size + 2 ≤ p.block → ((wr.setCell ⟨w.heap.size + 1, 0, none⟩ (.slice As n cs)).setCell ⟨w.heap.size + 1, 1, none⟩ (.slice A3 i c3)).cell? p = wr.cell? p := fun p hp => (World.cell?_setCell_other _ _ p _ (fun e => by subst e; have hp' : w.heap.size + 2 ≤ w.heap.size + 1 := hp; omega)).trans (World.cell?_setCell_other _ _ p _ (fun e => by subst e; have hp' : w.heap.size + 2 ≤ w.heap.size + 1 := hp; omega))
      have hsz : ((wr.setCell ⟨w.heap.size + 1, 0, none⟩ (.slice As n cs)).setCell ⟨w.heap.size + 1, 1, none⟩ (.slice A3 i c3)).heap.size = wr.heap.size := by simp [World.setCell]
      have hSw : Slot wr wr.heap.size (.slice As n cs) T := ((HS.out.below HB4.out).below (HBr.out.mono (by omega))).wide (Nat.le_of_lt HR4.out.tr.lt)
      have hEw : EntsW wr wr.heap.size A3 vs E := HEW.out.wide (Nat.le_of_lt HR4.out.tr.lt)
      refine ⟨(hLow.setCell (by simp) _).setCell (by simp) _, As, cs, A3, c3, vs, by rw [← HT.out, ← HM.out]; rfl, ?_, (by have q := HC3.out; rw [HM.out] at q; exact q), hcm3, ?_, ?_, ?_⟩
      · rw [← HT.out]; exact hSw.turn HA.out (fun p h1 _ => hcell p (by have := HQ1.out; omega)) (Nat.le_of_eq hsz.symm)
      · exact hEw.turn HN.out (fun p h1 _ => hcell p (by have := HQ1.out; omega)) (Nat.le_of_eq hsz.symm)
      · intro ad e
        have := HA.out ad e
        have := HQ1.out
        omega
      · exact HN.out.low (by have := HQ1.out; omega)
theorem read_any (w : World) (key : List UInt8) (hkey : key.length = 32) (A : Option Addr) (c : Nat) (b : List UInt8) (hs : Sees w w.heap.size 1 A b.length (bys b)) (hc : b.length ≤ c) (hcm : c ≤ 9223372036854775807) (hm : b.length ≤ 1099511627776) :
    Calls Tryd.prog 33 #[.agg (bys key).toArray, .slice A b.length c] w (ReadW w (readF key b)) := by
  unfold readF
  cases h : decF b with
  | none => exact read_none w key hkey A c b hs hc hcm hm h
  | some q =>
    obtain ⟨T, E⟩ := q
    exact read_some w key hkey A c b hs hc hcm hm T E (decF_len h).1 h _ rfl
end Go.Proofs.YtapbaonlboefeaaDoor
