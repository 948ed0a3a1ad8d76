/- trie: part.digest, Root. WRITTEN BY wip/gen/trd.py. -/
import Derived.Test.YtapbaonlboefeaaDoorTrH
import Derived.StillTailTactics
import Derived.Deep.MidRow
import Derived.Deep.Cut
import Derived.Deep.DeepCutAuto
import Derived.IntWalk
namespace Go.Proofs.YtapbaonlboefeaaDoor
open Go.RowKit

theorem sum_slot {S : Nat → Prop} {w : World} {v : Value} {b : List UInt8} (h : SlotK S w v b) (hk : Consts w) (hb : b.length ≤ 1152921504606846974) : Calls Tryd.prog 34 #[v] w (Digs w (shaF b)) := by
  obtain ⟨A, c, rfl, h1, h2, h3, -⟩ := h
  exact (sum_any w.heap.size A c b w h3 (Nat.le_refl _) h1 h2 hb hk).mono fun e w' h => h
/-- endPreimage of a part of fewer than two entries. -/
theorem end_any (w : World) (B : Nat) (hBw : B ≤ w.heap.size) (A : Option Addr) (c : Nat) (vs : List Value) (L : List Ent) (h : EntsW w B A vs L) (h2 : L.length < 2) (hc : L.length ≤ c) (hcm : c ≤ 9223372036854775807) :
    Calls Tryd.prog 45 #[.slice A L.length c] w (WroteF w (endF L)) := by
  match L, h, hc with
  | [], _, _ => exact end0_any c A w
  | e :: r, h, hc => exact end1_any w B hBw A c vs e r h hc hcm
theorem endF_len (L : List Ent) (hk : Keys L) (hs : ∀ e ∈ L, e.2.length ≤ 140737488340000) : (endF L).length ≤ 140737488351300 := by
  cases L with
  | nil => have : tEmpty.length = 21 := by decide
           show tEmpty.length ≤ _
           omega
  | cons e r =>
    have := tLeaf_len e.1 e.2 (hk e (by simp))
    have := hs e (by simp)
    show (tLeaf e.1 e.2).length ≤ _
    omega

set_option maxRecDepth 20000 in
set_option maxHeartbeats 1600000 in
theorem dig_small (w : World) (B d c : Nat) (hBw : B ≤ w.heap.size) (A : Option Addr) (vs : List Value) (L : List Ent) (h : EntsW w B A vs L) (h2 : L.length < 2) (hc : L.length ≤ c) (hcm : c ≤ 9223372036854775807) (hk : Consts w) :
    Calls Tryd.prog 26 #[.agg #[.slice A L.length c, .int .i64 (d : Int)]] w (Digs w (shaF (endF L))) := by
  have hz := Tryd.zeroDig
  have hp1 : HB (w.alloc (.cells #[.slice A L.length c, .int .i64 (d : Int)] 58)) w.heap.size 58 [.slice A L.length c, .int .i64 (d : Int)] := HB.new w 58 _
  have hB1 := below_alloc1 w (.cells #[.slice A L.length c, .int .i64 (d : Int)] 58)
  have hq1 : (w.alloc (.cells #[.slice A L.length c, .int .i64 (d : Int)] 58)).heap.size = w.heap.size + 1 := by simp
  generalize hw1 : w.alloc (.cells #[.slice A L.length c, .int .i64 (d : Int)] 58) = w1 at *
  have hB2 := below_alloc1 w1 (.cells zdig.toArray 24)
  have hd2 := HB.new w1 24 zdig
  rw [hq1] at hd2
  generalize hw2 : w1.alloc (.cells zdig.toArray 24) = w2 at *
  have hp2 := HB.below hp1 hB2 (by omega)
  have hc0 : w2.cell? ⟨w.heap.size, 0, none⟩ = some (.slice A L.length c) := by rw [hp2.cell]; rfl
  have hB02 := hB1.trans (hB2.mono hB1.size)
  have HB2 := Lib.hid hB02
  have HD2 := Lib.hid hd2
  have HE := Lib.hid (end_any w2 B (Nat.le_trans hBw hB02.size) A c vs L (h.below (hB02.mono hBw)) h2 hc hcm)
  have HK := Lib.hid (hk.below hB02 hk.2.2)
  have HL := Lib.hid (endF_len L h.keys h.short)
  have hlt : (L.length : Int) < 2 := by omega
  clear h hk hB1 hB2 hd2 hp1 hp2 hB02 hBw hc hcm h2
  generalize L.length = n at *
  go_enter Tryd.func26, Tryd.ntmps26
  go_wp2_with fail
  refine HE.out.mono ?_
  rintro e w3 ⟨v3, rfl, hs3, hB3⟩
  clear hc0 hw1 hw2 HE
  have HK3 := Lib.hid (HK.out.below hB3 HK.out.2.2)
  have HS := Lib.hid (sum_slot hs3 HK3.out (by have := HL.out; omega))
  have HD3 := Lib.hid (HD2.out.below hB3 HD2.out.lt)
  have HB3 := Lib.hid (HB2.out.trans (hB3.mono HB2.out.size))
  clear hs3 hB3 HK HK3 HD2 HB2
  go_wp2_with fail
  refine HS.out.mono ?_
  rintro e w4 ⟨rfl, hB4⟩
  have hd4 := HD3.out.below hB4 HD3.out.lt
  have HI := dig_info (shaF_len (endF L))
  have HZ := dig_size (shaF_len (endF L))
  have HA := dig_one (shaF (endF L))
  have hr := hd4.row (bys (shaF (endF L))).toArray
  have hfin := Below.setRow_ (HB3.out.trans (hB4.mono HB3.out.size)) (show w.heap.size ≤ w.heap.size + 1 by omega) (bys (shaF (endF L))).toArray
  clear hB4 HS HD3 HB3
  generalize shaF (endF L) = dg at *
  go_wp2_with (refine wpList_store_row rfl 24 _ _ rfl (w.heap.size + 1) (bys dg).toArray rfl rfl 24 _ hd4 HI.out HZ.out HA.out ?_)
  refine bodyPost_ret (v := .agg (bys dg).toArray) (results_cell_row rfl _ _ (w.heap.size + 1) 24 (bys dg).toArray (0, 0) _ rfl hr Tryd.underlying24 rfl HI.out) rfl ?_
  exact ⟨rfl, hfin⟩

theorem RowK.rng {w : World} {b : Nat} {t : TypeId} {cs : List Value} (h : RowK w b t cs) : w.rangeAt b 0 cs := by
  obtain ⟨z, h⟩ := h
  intro i u hu
  rw [Nat.zero_add]
  simp [World.cell?, h, hu]
def DigR (G g2 : Nat) (p0 p1 : List Value) (D0 D1 D X : List UInt8) : Nat → Value → World → Prop
  | 0, v, _ => v = .agg p0.toArray
  | 1, v, _ => v = .agg (bys D0).toArray
  | 2, v, _ => v = .agg p1.toArray
  | 3, v, _ => v = .agg (bys D1).toArray
  | 4, v, w => SlotK (· < G) w v X
  | 5, v, _ => v = .agg (bys D).toArray
  | 6, _, w => HB w g2 24 (bys D)
  | _, _, _ => True
def DigT (g2 i : Nat) (w w' : World) : Prop := if i = 6 then ∃ l : List Value, w' = w.setCells g2 0 l else Below w.heap.size w w'
theorem DigT.keep {g2 i : Nat} {S : Nat → Prop} {w w' : World} (h : DigT g2 i w w') (hg : g2 ≤ w.heap.size) (hS : S g2) : Keep g2 S w w' := by
  unfold DigT at h
  split at h
  · obtain ⟨l, rfl⟩ := h
    exact Keep.setCells hS (Nat.le_refl _) l 0 w
  · exact Keep.of_below h hg
theorem DigR.keep {G g2 : Nat} {p0 p1 : List Value} {D0 D1 D X : List UInt8} (hG : g2 < G) : ∀ (j : Nat) {v : Value} {w w' : World} {i : Nat}, i ≠ j → DigT g2 i w w' → DigR G g2 p0 p1 D0 D1 D X j v w → DigR G g2 p0 p1 D0 D1 D X j v w'
  | 0, _, _, _, _, _, _, h => h
  | 1, _, _, _, _, _, _, h => h
  | 2, _, _, _, _, _, _, h => h
  | 3, _, _, _, _, _, _, h => h
  | 4, v, w, w', i, _, hT, h => by
    unfold DigT at hT
    have h : SlotK (· < G) w v X := h
    show SlotK (· < G) w' v X
    split at hT
    · obtain ⟨l, rfl⟩ := hT
      exact SlotK.keep h (Keep.setCells (S := (· < G)) (B := g2) (g := g2) hG (Nat.le_refl _) l 0 w)
    · exact SlotK.keep (B := 0) h (Keep.of_below hT (Nat.zero_le _))
  | 5, _, _, _, _, _, _, h => h
  | 6, _, w, w', i, hij, hT, h => by
    unfold DigT at hT
    rw [if_neg hij] at hT
    exact HB.below h hT h.lt
  | _ + 7, _, _, _, _, _, _, _ => trivial

set_option maxRecDepth 20000 in
set_option maxHeartbeats 3200000 in
theorem dig_big (w : World) (d dd n c z c1 z1 : Nat) (A A1 : Option Addr) (h2 : 2 ≤ n) (hn : n ≤ 4611686018427387904) (D0 D1 : List UInt8) (hl0 : D0.length = 32) (hl1 : D1.length = 32) (hk : Consts w)
    (hal : ∀ W, Below w.heap.size w W → Calls Tryd.prog 46 #[.agg #[.slice A n c, .int .i64 (d : Int)]] W fun e w' => e = .returned (.tuple #[.agg #[.slice A z c, .int .i64 (dd : Int)], .agg #[.slice A1 z1 c1, .int .i64 (dd : Int)]]) ∧ Below W.heap.size W w')
    (ih0 : ∀ W, Below w.heap.size w W → Calls Tryd.prog 26 #[.agg #[.slice A z c, .int .i64 (dd : Int)]] W (Digs W D0))
    (ih1 : ∀ W, Below w.heap.size w W → Calls Tryd.prog 26 #[.agg #[.slice A1 z1 c1, .int .i64 (dd : Int)]] W (Digs W D1)) :
    Calls Tryd.prog 26 #[.agg #[.slice A n c, .int .i64 (d : Int)]] w (Digs w (shaF (tBranch D0 D1))) := by
  have hz := Tryd.zeroDig
  have hzp := Tryd.zeroPart
  have hp1 : HB (w.alloc (.cells #[.slice A n c, .int .i64 (d : Int)] 58)) w.heap.size 58 [.slice A n c, .int .i64 (d : Int)] := HB.new w 58 _
  have hB1 := below_alloc1 w (.cells #[.slice A n c, .int .i64 (d : Int)] 58)
  have hq1 : (w.alloc (.cells #[.slice A n c, .int .i64 (d : Int)] 58)).heap.size = w.heap.size + 1 := by simp
  generalize hw1 : w.alloc (.cells #[.slice A n c, .int .i64 (d : Int)] 58) = w1 at *
  have hB2 := below_alloc1 w1 (.cells zdig.toArray 24)
  have hd2 := HB.new w1 24 zdig
  rw [hq1] at hd2
  have hq2 : (w1.alloc (.cells zdig.toArray 24)).heap.size = w.heap.size + 2 := by simp; omega
  generalize hw2 : w1.alloc (.cells zdig.toArray 24) = w2 at *
  have hp2 := HB.below hp1 hB2 (by omega)
  have hc0 : w2.cell? ⟨w.heap.size, 0, none⟩ = some (.slice A n c) := by rw [hp2.cell]; rfl
  have hc1 : w2.cell? ⟨w.heap.size, 1, none⟩ = some (.int .i64 (d : Int)) := by rw [hp2.cell]; rfl
  have hB02 := hB1.trans (hB2.mono hB1.size)
  have HB2 := Lib.hid hB02
  have HD2 := Lib.hid hd2
  have HQ2 := Lib.hid hq2
  have HAL := Lib.hid (hal w2 hB02)
  have IH0 := Lib.hid ih0; have IH1 := Lib.hid ih1
  have HL0 := Lib.hid hl0; have HL1 := Lib.hid hl1
  have HK := Lib.hid hk
  have hlt : (2 : Int) ≤ (n : Int) := by omega
  have hn2 : (n : Int) ≤ 4611686018427387904 := by omega
  clear hk hB1 hB2 hd2 hp1 hp2 hB02 hal ih0 ih1 hl0 hl1 hq2
  go_enter Tryd.func26, Tryd.ntmps26
  go_wp2_with fail
  refine HAL.out.mono ?_
  rintro e w5 ⟨rfl, hB5⟩
  clear hc0 hc1 hw1 hw2 hq1 HAL
  have HD5 := Lib.hid (HD2.out.below hB5 HD2.out.lt)
  have HB5 := Lib.hid (HB2.out.trans (hB5.mono HB2.out.size))
  have HQ5 := Lib.hid (show w.heap.size + 2 ≤ w5.heap.size by have := hB5.size; have := HQ2.out; omega)
  clear hB5 HD2 HB2 HQ2
  go_upto_region 4 with (fail)
  clear hz hzp
  have hr3 : RowK (w5.alloc (.cells #[.slice A z c, .int .i64 (dd : Int)] 58)) w5.heap.size 58 [.slice A z c, .int .i64 (dd : Int)] := RowK.new w5 58 _ (0, 0)
  have hb6 := below_alloc1 w5 (.cells #[.slice A z c, .int .i64 (dd : Int)] 58)
  have hq6 : (w5.alloc (.cells #[.slice A z c, .int .i64 (dd : Int)] 58)).heap.size = w5.heap.size + 1 := by simp
  generalize w5.alloc (.cells #[.slice A z c, .int .i64 (dd : Int)] 58) = w6 at *
  have hr4 : RowK (w6.alloc (.cells #[.slice A1 z1 c1, .int .i64 (dd : Int)] 58)) w6.heap.size 58 [.slice A1 z1 c1, .int .i64 (dd : Int)] := RowK.new w6 58 _ (0, 0)
  have hb7 := below_alloc1 w6 (.cells #[.slice A1 z1 c1, .int .i64 (dd : Int)] 58)
  have hq7 : (w6.alloc (.cells #[.slice A1 z1 c1, .int .i64 (dd : Int)] 58)).heap.size = w5.heap.size + 2 := by simp; omega
  generalize w6.alloc (.cells #[.slice A1 z1 c1, .int .i64 (dd : Int)] 58) = w7 at *
  have hr37 := hr3.keep (B := 0) (S := fun _ => False) (Keep.of_below hb7 (by omega)) (fun h => h)
  rw [hq6] at hr4
  have hb57 := hb6.trans (hb7.mono hb6.size)
  have HR3 := Lib.hid hr37; have HR4 := Lib.hid hr4
  have HD7 := Lib.hid (HD5.out.below hb57 HD5.out.lt)
  have HB7 := Lib.hid (HB5.out.trans (hb57.mono HB5.out.size))
  have HN3 : Hid (¬ (w5.heap.size = w.heap.size + 1)) := Lib.hid (by have := HQ5.out; omega)
  have HN4 : Hid (¬ (w5.heap.size + 1 = w.heap.size + 1)) := Lib.hid (by have := HQ5.out; omega)
  have HQ7 := Lib.hid (show w5.heap.size + 2 = w7.heap.size from hq7.symm)
  clear hr3 hr4 hr37 hb6 hb7 hb57 hq6 hq7 HD5 HB5
  obtain ⟨G, hG⟩ : ∃ G, G = w7.heap.size := ⟨_, rfl⟩
  have HGG := Lib.hid hG
  have HP0 : Hid ((Tryd.prog.info? 58).map (·.size) = some ([.slice A z c, .int .i64 (dd : Int)] : List Value).length) := Lib.hid (by kernel_rfl)
  have HP1 : Hid ((Tryd.prog.info? 58).map (·.size) = some ([.slice A1 z1 c1, .int .i64 (dd : Int)] : List Value).length) := Lib.hid (by kernel_rfl)
  change Code.wp _ _ _ _ _
  generalize hp0 : ([.slice A z c, .int .i64 (dd : Int)] : List Value) = p0 at *
  generalize hp1 : ([.slice A1 z1 c1, .int .i64 (dd : Int)] : List Value) = p1 at *
  have IHA : Hid (∀ W, Below w.heap.size w W → Calls Tryd.prog 26 #[.agg p0.toArray] W (Digs W D0)) := IH0
  have IHB : Hid (∀ W, Below w.heap.size w W → Calls Tryd.prog 26 #[.agg p1.toArray] W (Digs W D1)) := IH1
  clear IH0 IH1 hp0 hp1 hG
  have IH0 := IHA; have IH1 := IHB
  have HG2 : Hid (w.heap.size ≤ w.heap.size + 1) := Lib.hid (by omega)
  have HXL : Hid ((tBranch D0 D1).length ≤ 1152921504606846974) := Lib.hid (by rw [tBranch_len _ _ HL0.out HL1.out]; omega)
  have HLD : Hid ((shaF (tBranch D0 D1)).length = 32) := Lib.hid (shaF_len _)
  have HDI := dig_info (shaF_len (tBranch D0 D1))
  have HDA := dig_one (shaF (tBranch D0 D1))
  have HKW : Hid (∀ W, Keep (w.heap.size + 1) (fun b => b = w.heap.size + 1) w7 W → Consts W) := Lib.hid (fun W hW => HK.out.below (HB7.out.trans (hW.low.mono (by omega))) HK.out.2.2)
  obtain ⟨D, hD⟩ : ∃ D, D = shaF (tBranch D0 D1) := ⟨_, rfl⟩
  rw [← hD] at HLD HDI HDA ⊢
  have HDE : Hid (Value.agg (bys (shaF (tBranch D0 D1))).toArray = .agg (bys D).toArray) := Lib.hid (by rw [hD])
  clear hD
  generalize hg3 : w5.heap.size = g3 at *
  refine wp_region_inv 24 (DigR G (w.heap.size + 1) p0 p1 D0 D1 D (tBranch D0 D1)) (Keep (w.heap.size + 1) (fun b => b = w.heap.size + 1) w7) (DigT (w.heap.size + 1)) (by kernel_rfl) (by rfl) (by kernel_rfl) (fun i j v W W' hi hij hw hT hR => ?_) (fun i W W' hT hI => ?_) (Keep.drew (by have := HQ5.out; have := HQ7.out; omega)) (fun jx ho1 ho vs W hI hdep => ?_) (fun vs W hI hR => ?_)
  · exact DigR.keep (by have := HQ5.out; have := HQ7.out; have := HGG.out; omega) j hij hT hR
  · exact hI.trans (hT.keep (by have := HQ5.out; have := HQ7.out; have := hI.size; omega) rfl)
  · have hsz : G ≤ W.heap.size := by have := hI.size; have := HGG.out; omega
    rcases jx with _ | jx
    · simp only [List.getElem?_toArray, List.getElem?_cons_zero, Option.some.injEq] at ho
      subst ho
      have hrr := (HR3.out.keep hI HN3.out).rng
      refine .inl ⟨rfl, fun K Q hK => ?_⟩
      simp only [putFrom, Act.put, List.setIfInBounds_toArray, List.set_cons_succ, List.set_cons_zero, Nat.reduceAdd] at hK ⊢
      have HOUT := Lib.hid hK
      clear hK hdep
      refine wp_load_mid 58 _ rfl g3 0 rfl p0 _ hrr Tryd.underlying58 rfl HP0.out ?_
      simp only [Act.put, List.setIfInBounds_toArray, List.set_cons_succ, List.set_cons_zero]
      exact HOUT.out _ _ _ rfl ⟨(by unfold DigT; rw [if_neg (by omega)]; exact Below.refl _ _), rfl⟩
    rcases jx with _ | jx
    · simp only [List.getElem?_toArray, List.getElem?_cons_succ, List.getElem?_cons_zero, Option.some.injEq, Nat.zero_add] at ho
      subst ho
      have e0 : vs 0 = _ := hdep 0 rfl
      refine .inl ⟨rfl, fun K Q hK => ?_⟩
      simp only [putFrom, Act.put, List.setIfInBounds_toArray, List.set_cons_succ, List.set_cons_zero, Nat.reduceAdd, e0] at hK ⊢
      have HOUT := Lib.hid hK
      clear hK hdep e0
      go_simp
      refine (IH0.out W (HB7.out.trans (hI.low.mono HG2.out))).mono ?_
      rintro e w8 ⟨rfl, hB8⟩
      go_simp
      exact HOUT.out _ _ _ rfl ⟨(by unfold DigT; rw [if_neg (by omega)]; exact hB8), rfl⟩
    rcases jx with _ | jx
    · simp only [List.getElem?_toArray, List.getElem?_cons_succ, List.getElem?_cons_zero, Option.some.injEq, Nat.zero_add] at ho
      subst ho
      have hrr := (HR4.out.keep hI HN4.out).rng
      refine .inl ⟨rfl, fun K Q hK => ?_⟩
      simp only [putFrom, Act.put, List.setIfInBounds_toArray, List.set_cons_succ, List.set_cons_zero, Nat.reduceAdd] at hK ⊢
      have HOUT := Lib.hid hK
      clear hK hdep
      refine wp_load_mid 58 _ rfl (g3 + 1) 0 rfl p1 _ hrr Tryd.underlying58 rfl HP1.out ?_
      simp only [Act.put, List.setIfInBounds_toArray, List.set_cons_succ, List.set_cons_zero]
      exact HOUT.out _ _ _ rfl ⟨(by unfold DigT; rw [if_neg (by omega)]; exact Below.refl _ _), rfl⟩
    rcases jx with _ | jx
    · simp only [List.getElem?_toArray, List.getElem?_cons_succ, List.getElem?_cons_zero, Option.some.injEq, Nat.zero_add] at ho
      subst ho
      have e2 : vs 2 = _ := hdep 2 rfl
      refine .inl ⟨rfl, fun K Q hK => ?_⟩
      simp only [putFrom, Act.put, List.setIfInBounds_toArray, List.set_cons_succ, List.set_cons_zero, Nat.reduceAdd, e2] at hK ⊢
      have HOUT := Lib.hid hK
      clear hK hdep e2
      go_simp
      refine (IH1.out W (HB7.out.trans (hI.low.mono HG2.out))).mono ?_
      rintro e w8 ⟨rfl, hB8⟩
      go_simp
      exact HOUT.out _ _ _ rfl ⟨(by unfold DigT; rw [if_neg (by omega)]; exact hB8), rfl⟩
    rcases jx with _ | jx
    · simp only [List.getElem?_toArray, List.getElem?_cons_succ, List.getElem?_cons_zero, Option.some.injEq, Nat.zero_add] at ho
      subst ho
      have e1 : vs 1 = _ := hdep 1 rfl
      have e3 : vs 3 = _ := hdep 3 rfl
      refine .inl ⟨rfl, fun K Q hK => ?_⟩
      simp only [putFrom, Act.put, List.setIfInBounds_toArray, List.set_cons_succ, List.set_cons_zero, Nat.reduceAdd, e1, e3] at hK ⊢
      have HOUT := Lib.hid hK
      clear hK hdep e1 e3
      go_simp
      refine (branch_any D0 D1 W HL0.out HL1.out).mono ?_
      rintro e w8 ⟨v8, rfl, hs8, hB8⟩
      go_simp
      exact HOUT.out _ _ _ rfl ⟨(by unfold DigT; rw [if_neg (by omega)]; exact hB8), hs8.wider hsz⟩
    rcases jx with _ | jx
    · simp only [List.getElem?_toArray, List.getElem?_cons_succ, List.getElem?_cons_zero, Option.some.injEq, Nat.zero_add] at ho
      subst ho
      obtain ⟨A4, c4, e4, a4, b4, s4, d4⟩ := hdep 4 rfl
      have hs := Lib.hid (sum_slot (S := (· < G)) ⟨A4, c4, rfl, a4, b4, s4, d4⟩ (HKW.out W hI) HXL.out)
      refine .inl ⟨rfl, fun K Q hK => ?_⟩
      simp only [putFrom, Act.put, List.setIfInBounds_toArray, List.set_cons_succ, List.set_cons_zero, Nat.reduceAdd, e4] at hK ⊢
      have HOUT := Lib.hid hK
      clear hK hdep e4
      go_simp
      refine hs.out.mono ?_
      rintro e w8 ⟨rfl, hB8⟩
      go_simp
      exact HOUT.out _ _ _ rfl ⟨(by unfold DigT; rw [if_neg (by omega)]; exact hB8), HDE.out⟩
    rcases jx with _ | jx
    · simp only [List.getElem?_toArray, List.getElem?_cons_succ, List.getElem?_cons_zero, Option.some.injEq, Nat.zero_add] at ho
      subst ho
      have e5 : vs 5 = _ := hdep 5 rfl
      obtain ⟨cs, hcs, hcl⟩ := hI.hb rfl HD7.out
      refine .inl ⟨rfl, fun K Q hK => ?_⟩
      simp only [putFrom, Act.put, List.setIfInBounds_toArray, List.set_cons_succ, List.set_cons_zero, Nat.reduceAdd, e5] at hK ⊢
      have HOUT := Lib.hid hK
      clear hK hdep e5
      refine wp_store_mid 24 _ _ rfl (w.heap.size + 1) 0 (bys D).toArray rfl rfl (there_hb hcs (by rw [hcl]; simp [zdig_len, bys_len, HLD.out])) HDI.out HDA.out ?_
      simp only [Act.put]
      refine HOUT.out _ undef _ rfl ⟨?_, ?_⟩
      · unfold DigT; rw [if_pos rfl]; exact ⟨_, rfl⟩
      · exact hb_setAll hcs _ (by rw [hcl]; simp [zdig_len, bys_len, HLD.out])
    exact absurd ho (by simp)
  · have hr : HB W (w.heap.size + 1) 24 (bys D) := hR 6 (by decide)
    have hB := HB7.out.trans (hI.low.mono HG2.out)
    simp only [putFrom, Act.put, List.setIfInBounds_toArray, List.set_cons_succ, List.set_cons_zero, Nat.reduceAdd]
    clear hR hI
    go_wp2_with fail
    refine bodyPost_ret (v := .agg (bys D).toArray) (results_cell_row rfl _ _ (w.heap.size + 1) 24 (bys D).toArray (0, 0) _ rfl hr Tryd.underlying24 rfl HDI.out) rfl ?_
    exact ⟨by rw [HDE.out], hB⟩

/-- The digest of a part. -/
theorem dig_any : ∀ (r d : Nat) (_ : d + r = 256) (w : World) (B c : Nat) (_ : B ≤ w.heap.size) (A : Option Addr) (vs : List Value) (L : List Ent) (_ : EntsW w B A vs L) (_ : MayP L) (_ : Grp L d) (_ : L.length ≤ c) (_ : c ≤ 9223372036854775807) (_ : L.length ≤ 4611686018427387904) (_ : Consts w),
    Calls Tryd.prog 26 #[.agg #[.slice A L.length c, .int .i64 (d : Int)]] w (Digs w (digT r L))
  | 0, d, hd, w, B, c, hBw, A, vs, L, h, hm, hg, hc, hcm, _, hk => by
    obtain rfl : d = 256 := by omega
    exact dig_small w B 256 c hBw A vs L h (grp_few hm hg) hc hcm hk
  | r + 1, d, hd, w, B, c, hBw, A, vs, L, h, hm, hg, hc, hcm, hn, hk => by
    rw [digT]
    rcases Nat.lt_or_ge L.length 2 with h2 | h2
    · rw [if_pos h2]
      exact dig_small w B d c hBw A vs L h h2 hc hcm hk
    · rw [if_neg (by omega)]
      obtain rfl : d = 255 - r := by omega
      obtain ⟨s1, s2, -⟩ := halves_at hm h.keys hg (show 255 - r < 256 by omega)
      have hzn : (side L (255 - r) 0).length ≤ L.length := List.length_filter_le _ _
      have hon : (side L (255 - r) 1).length ≤ L.length := List.length_filter_le _ _
      have t0 := h.take hzn
      have t1 := h.drop hzn hc
      rw [s1] at t0
      rw [s2] at t1
      have e1 : (side L (255 - r) 1).length = L.length - (side L (255 - r) 0).length := by rw [← s2, List.length_drop]
      refine dig_big w (255 - r) (255 - r + 1) L.length c (side L (255 - r) 0).length (c - (side L (255 - r) 0).length) (side L (255 - r) 1).length A (tailA A c (side L (255 - r) 0).length) h2 hn (digT r (side L (255 - r) 0)) (digT r (side L (255 - r) 1)) (digT_len _ _) (digT_len _ _) hk (fun W hW => ?_) (fun W hW => ?_) (fun W hW => ?_)
      · exact halves_any W B (255 - r) c (by have := hW.size; omega) A vs L (h.below (hW.mono hBw)) (by omega) hm hg hc hn
      · exact (dig_any r (255 - r + 1) (by omega) W B c (by have := hW.size; omega) A _ _ (t0.below (hW.mono hBw)) (hm.side _ _) (hg.side h.keys (by omega) 0) (by omega) hcm (by omega) (hk.below hW hk.2.2))
      · exact (dig_any r (255 - r + 1) (by omega) W B (c - (side L (255 - r) 0).length) (by have := hW.size; omega) (tailA A c (side L (255 - r) 0).length) _ _ (t1.below (hW.mono hBw)) (hm.side _ _) (hg.side h.keys (by omega) 1) (by omega) (by omega) (by omega) (hk.below hW hk.2.2))
end Go.Proofs.YtapbaonlboefeaaDoor
