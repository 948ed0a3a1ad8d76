/- trie: wapentakelaw04.TrieSound. WRITTEN BY wip/gen/tsw.py. -/
import Derived.Test.YtapbaonlboefeaaDoorTsU
namespace Go.Proofs.YtapbaonlboefeaaDoor
open Go.RowKit

theorem eql_b32 (W : World) (a : List UInt8) (ha : a.length = 32) : (binOp .eql 23 (.agg (bys a).toArray) (.agg (bys a).toArray)).run Tryd.prog W = .ok (.bool true) W := by
  have h := run_eql_bytes (P := Tryd.prog) W 23 5 32 Tryd.underlying23 Tryd.underlying5 (fun _ => by kernel_rfl) a a ha ha
  have e : (a == a) = true := by simp
  rw [e] at h
  exact h
/-- What a proof that Verify accepts tells, or a clash. -/
theorem sound_cases (L : List Ent) (key b : List UInt8) (hm : MayP L) (hk : Keys L) (hkey : key.length = 32) (hs : ∀ e ∈ L, e.2.length ≤ 1048576) (hb : b.length ≤ 1048576) :
    ∃ l bo ec, verF (rootT L) key b = (l, bo, ec) ∧ ((ec ≠ 0 ∧ l = [] ∧ bo = false) ∨ (ec = 0 ∧ l = (getT L key).getD [] ∧ bo = (getT L key).isSome) ∨ (ec = 0 ∧ ∃ x y, clashF L key b = some (x, y))) := by
  unfold verF
  cases hr : readF key b with
  | inl k => exact ⟨[], false, k, rfl, .inl ⟨by have := readF_err hr; omega, rfl, rfl⟩⟩
  | inr q =>
    obtain ⟨T, E⟩ := q
    simp only
    by_cases ht : topT key 0 (sibsT T) E = rootT L
    · rw [if_pos ht]
      obtain ⟨hT1, hT2, hE2, -⟩ := readF_ok hr
      have hd : decF b = some (T, E) := by
        unfold readF at hr
        split at hr
        · cases hr
        · rename_i T' E' hd
          split at hr
          · injection hr with hr; injection hr with q1 q2; subst q1; subst q2; exact hd
          · cases hr
      have hq := decF_short hd
      have hfew := endT_few key hkey 256 L (Nat.le_refl _) hm hk (on_0 hk hkey)
      have hsl := sibT_len key 256 L
      cases hc : clashF L key b with
      | some p => cases htl : toldT E key with
        | some v => exact ⟨v, true, 0, rfl, .inr (.inr ⟨rfl, p.1, p.2, rfl⟩)⟩
        | none => exact ⟨[], false, 0, rfl, .inr (.inr ⟨rfl, p.1, p.2, rfl⟩)⟩
      | none =>
        unfold clashF at hc
        rw [hr] at hc
        simp only [if_pos hm] at hc
        have h1 := same_path key (endT key 256 L) E (fun x hx => ⟨by have := hk x (endT_sub key 256 L x hx); omega, by have := hs x (endT_sub key 256 L x hx); omega⟩) (fun x hx => ⟨by have := (hq x hx).1; omega, by have := (hq x hx).2; omega⟩) hfew.1 hE2 (sibT key 256 L) (sibsT T) 0 hsl.2 (sibsT_32 T) (by rw [ht, rootT, if_pos hm]; exact trail_top key 256 L (Nat.le_refl _)) hc
        rw [← h1.2, told_get key hkey L hm hk]
        cases getT L key with
        | some v => exact ⟨v, true, 0, rfl, .inr (.inl ⟨rfl, rfl, rfl⟩)⟩
        | none => exact ⟨[], false, 0, rfl, .inr (.inl ⟨rfl, rfl, rfl⟩)⟩
    · rw [if_neg ht]
      exact ⟨[], false, 18, rfl, .inl ⟨by decide, rfl, rfl⟩⟩
def VsR (G : Nat) (SL PB : Value) (rt k l : List UInt8) (bo : Bool) (z : Int) : Nat → Value → World → Prop
  | 0, v, _ => v = SL
  | 1, v, _ => v = .agg (bys rt).toArray
  | 2, v, _ => v = .agg (bys k).toArray
  | 3, v, _ => v = PB
  | 4, v, w => ∃ A c, v = .tuple #[.slice A l.length c, .bool bo, .int .i64 z] ∧ SlotK (· < G) w (.slice A l.length c) l
  | 5, v, w => ∃ A c, v = .tuple #[.slice A l.length c, .bool bo, .int .i64 z] ∧ SlotK (· < G) w (.slice A l.length c) l
  | 6, v, w => SlotK (· < G) w v l
  | 7, v, _ => v = .bool bo
  | 8, v, _ => v = .int .i64 z
  | 9, v, w => SlotK (· < G) w v l
  | 10, v, _ => v = .bool bo
  | 11, v, _ => v = .int .i64 z
  | _, _, _ => True
theorem VsR.keep {G : Nat} {SL PB : Value} {rt k l : List UInt8} {bo : Bool} {z : Int} : ∀ (j : Nat) {v : Value} {w w' : World}, Keep G (· < G) w w' → VsR G SL PB rt k l bo z j v w → VsR G SL PB rt k l bo z j v w'
  | 0, _, _, _, _, h => h
  | 1, _, _, _, _, h => h
  | 2, _, _, _, _, h => h
  | 3, _, _, _, _, h => h
  | 4, v, w, _, hk, h => (by obtain ⟨A, c, h1, h2⟩ := h; exact ⟨A, c, h1, h2.keep hk⟩)
  | 5, v, w, _, hk, h => (by obtain ⟨A, c, h1, h2⟩ := h; exact ⟨A, c, h1, h2.keep hk⟩)
  | 6, v, w, _, hk, h => SlotK.keep (show SlotK (· < G) w v l from h) hk
  | 7, _, _, _, _, h => h
  | 8, _, _, _, _, h => h
  | 9, v, w, _, hk, h => SlotK.keep (show SlotK (· < G) w v l from h) hk
  | 10, _, _, _, _, h => h
  | 11, _, _, _, _, h => h
  | _ + 12, _, _, _, _, _ => trivial

set_option maxRecDepth 20000 in
set_option maxHeartbeats 3200000 in
theorem sound_law (haw : Awakes) (w : World) (hk : Consts w) (B c : Nat) (hBw : B ≤ w.heap.size) (A : Option Addr) (L : List Ent) (h : EntsR w B A L) (key : List UInt8) (hkey : key.length = 32) (Ab : Option Addr) (cb : Nat) (b : List UInt8) (hbs : Sees w w.heap.size 1 Ab b.length (bys b)) (hbc : b.length ≤ cb) (hbm : cb ≤ 9223372036854775807) (hbl : b.length ≤ 1048576) :
    Calls Tryd.prog 6 #[.slice A L.length c, .agg (bys key).toArray, .slice Ab b.length cb] w fun e w' => e = .returned (.bool true) ∧ Below w.heap.size w w' := by
  have hfew := h.few
  have hkeys := h.keys
  have hshort := h.short
  have hd1 := HB.new w 24 (bys key)
  have hB1 := below_alloc1 w (.cells (bys key).toArray 24)
  generalize hw1 : w.alloc (.cells (bys key).toArray 24) = w1 at *
  have he1 := h.below (hB1.mono hBw)
  have hk1 := hk.below hB1 hk.2.2
  obtain ⟨n, hnn⟩ : ∃ n, n = L.length := ⟨_, rfl⟩
  obtain ⟨nb, hnb⟩ : ∃ n, n = b.length := ⟨_, rfl⟩
  rw [← hnn, ← hnb]
  have HNN := Lib.hid hnn; have HNB := Lib.hid hnb; have HD1 := Lib.hid hd1; have HB1 := Lib.hid hB1; have HE1 := Lib.hid he1; have HK1 := Lib.hid hk1; have HBW := Lib.hid hBw; have HKY := Lib.hid hkey; have HKEYS := Lib.hid hkeys; have HSHORT := Lib.hid hshort; have HFEW := Lib.hid hfew; have HAW := Lib.hid haw
  have HBS := Lib.hid hbs; have HBC := Lib.hid hbc; have HBM := Lib.hid hbm; have HBL := Lib.hid hbl
  have HKI : Hid ((Tryd.prog.info? 24).map (·.size) = some (bys key).length) := Lib.hid (by rw [bys_len, hkey]; kernel_rfl)
  clear hnn hnb hd1 hB1 he1 hk1 hBw hkey hkeys hshort hfew haw h hk hbs hbc hbm hbl
  go_enter Tryd.func6, Tryd.ntmps6
  go_wp2_with fail
  clear hw1
  refine (HAW.out w1 HK1.out).mono ?_
  rintro e w2 ⟨rfl, hB2⟩
  have HB2 := Lib.hid (HB1.out.trans (hB2.mono HB1.out.size))
  have HD2 := Lib.hid (HD1.out.below hB2 HD1.out.lt)
  have HE2 := Lib.hid (HE1.out.below (hB2.mono (Nat.le_trans HBW.out HB1.out.size)))
  have HK2 := Lib.hid (HK1.out.below hB2 HK1.out.2.2)
  clear hB2
  go_wp2_with fail
  have HM := Lib.hid (rmay_any w2 B c (Nat.le_trans HBW.out HB2.out.size) A L HE2.out (by have := HFEW.out; omega))
  rw [← HNN.out] at HM
  refine HM.out.mono ?_
  rintro e w3 ⟨rfl, hB3⟩
  have HB3 := Lib.hid (HB2.out.trans (hB3.mono HB2.out.size))
  have HD3 := Lib.hid (HD2.out.below hB3 HD2.out.lt)
  have HE3 := Lib.hid (HE2.out.below (hB3.mono (Nat.le_trans HBW.out HB2.out.size)))
  have HK3 := Lib.hid (HK2.out.below hB3 HK2.out.2.2)
  clear hB3 HM
  by_cases hm : MayP L
  · rw [decide_eq_true hm]
    have HMM := Lib.hid hm
    clear hm
    go_wp2_with fail
    have HL := Lib.hid (list_any w3 B c (Nat.le_trans HBW.out HB3.out.size) A L HE3.out)
    rw [← HNN.out] at HL
    refine HL.out.mono ?_
    rintro e w4 ⟨hB4, A4, c4, vv, rfl, hc4, hcm4, he4⟩
    have HB4 := Lib.hid (HB3.out.trans (hB4.mono HB3.out.size))
    have hd4 := HD3.out.below hB4 HD3.out.lt
    have HE4 := Lib.hid (HE3.out.below (hB4.mono (Nat.le_trans HBW.out HB3.out.size)))
    have hk4 := HK3.out.below hB4 HK3.out.2.2
    obtain ⟨G, hG⟩ : ∃ G : Nat, w4.heap.size = G := ⟨_, rfl⟩
    rw [hG] at he4
    have HG := Lib.hid hG; have HD := Lib.hid hd4; have HK4 := Lib.hid hk4; have HET := Lib.hid he4
    have HGB : Hid (w.heap.size < G) := Lib.hid (by rw [← hG]; exact hd4.lt)
    have hn4 : L.length ≤ 4611686018427387904 := by have := HFEW.out; omega
    have hrl := rootT_len L
    obtain ⟨l, bo, ec, hv, hcase⟩ := sound_cases L key b HMM.out HKEYS.out HKY.out HSHORT.out HBL.out
    have HBS4 := Lib.hid ((HBS.out.below HB4.out).wide HB4.out.size)
    have HKW : Hid (∀ W, Below G w4 W → Consts W) := Lib.hid (fun W hW => HK4.out.below (hG ▸ hW) HK4.out.2.2)
    have HR : Hid (∀ W, Below G w4 W → Calls Tryd.prog 14 #[.slice A4 n c4] W (Digs W (rootT L))) := Lib.hid (fun W hW => by
      have h := root_any W G c4 (by have := hW.size; omega) A4 vv L (HET.out.below hW) (by rw [← HNN.out]; exact hc4) hcm4 hn4 (HKW.out W hW)
      rw [← HNN.out] at h
      exact h)
    have HV : Hid (∀ W, Below G w4 W → Calls Tryd.prog 18 #[.agg (bys (rootT L)).toArray, .agg (bys key).toArray, .slice Ab nb cb] W fun e w' => Below W.heap.size W w' ∧ ∃ A c, e = .returned (.tuple #[.slice A l.length c, .bool bo, .int .i64 (ec : Int)]) ∧ SlotK (· < W.heap.size) w' (.slice A l.length c) l) := Lib.hid (fun W hW => by
      have hbw : Sees W W.heap.size 1 Ab b.length (bys b) := (HBS4.out.below (hG ▸ hW)).wide (hG ▸ hW.size)
      have h := ver_said W (HKW.out W hW) (rootT L) key hrl HKY.out Ab cb b ⟨Ab, cb, rfl, HBC.out, HBM.out, hbw⟩ (by have := HBL.out; omega) l bo ec hv _ rfl
      rw [← HNB.out] at h
      exact h)
    have HGET : Hid (∀ W, Below G w4 W → Calls Tryd.prog 20 #[.slice A n c, .agg (bys key).toArray] W fun e w' => e = .returned (.tuple #[.string (strB ((getT L key).getD [])), .bool (getT L key).isSome]) ∧ Below W.heap.size W w') := Lib.hid (fun W hW => by
      have h := rget_any W B c (by have := hW.size; have := HBW.out; have := HGB.out; omega) A L (HE4.out.below (hW.mono (by have := HBW.out; have := HGB.out; omega))) key HKY.out
      rw [← HNN.out] at h
      exact h)
    have HCL : Hid (∀ W, Below G w4 W → Calls Tryd.prog 21 #[.slice A4 n c4, .agg (bys key).toArray, .slice Ab nb cb] W (ClaW W (clashF L key b))) := Lib.hid (fun W hW => by
      have hbw : Sees W W.heap.size 1 Ab b.length (bys b) := (HBS4.out.below (hG ▸ hW)).wide (hG ▸ hW.size)
      have h := cla_any W (HKW.out W hW) G c4 (by have := hW.size; omega) A4 vv L (HET.out.below hW) (by rw [← HNN.out]; exact hc4) hcm4 hn4 key HKY.out Ab cb b hbw HBC.out HBM.out (by have := HBL.out; omega)
      rw [← HNN.out, ← HNB.out] at h
      exact h)
    have HOK : Hid (∀ x y, clashF L key b = some (x, y) → MayP L ∧ x ≠ y ∧ shaF x = shaF y ∧ x.length ≤ 1048776 ∧ y.length ≤ 1048776) := Lib.hid (fun x y h => clashF_ok h HKEYS.out HSHORT.out HBL.out)
    generalize rootT L = rt at *
    obtain ⟨xx, hxx⟩ : ∃ xx, (getT L key).getD [] = xx := ⟨_, rfl⟩
    obtain ⟨ho, hho⟩ : ∃ bo, (getT L key).isSome = bo := ⟨_, rfl⟩
    rw [hxx, hho] at hcase HGET
    generalize clashF L key b = cl at *
    obtain ⟨z, hz⟩ : ∃ z : Int, (ec : Int) = z := ⟨_, rfl⟩
    rw [hz] at HV
    have HZ := Lib.hid hz
    have HCASE := Lib.hid hcase
    clear hv hcase hrl hxx hho hz hG hB4 hc4 hcm4 he4 hd4 hk4 hn4 HL HE4 HE3 HE2 HE1 HB3 HB2 HD3 HD2 HD1 HK4 HK3 HK2 HK1 HET
    go_wp2_with fail
    refine wp_region_inv 81 (VsR G (.slice A4 n c4) (.slice Ab nb cb) rt key l bo z) (Below G w4) (fun _ => Keep G (· < G)) (by kernel_rfl) (by rfl) (by kernel_rfl) (fun i j v W W' _ _ _ hT hR => VsR.keep j hT hR) (fun _ W W' hT hI => hI.trans hT.low) (Below.drew (Below.refl _ _)) (fun j ho1 ho vs W hI hdep => ?_) (fun vs W hI hR => ?_)
    · have hsz : G ≤ W.heap.size := by have := hI.size; have := HG.out; omega
      rcases j with _ | j
      · simp only [List.getElem?_toArray, List.getElem?_cons_zero, Option.some.injEq] at ho
        subst ho
        refine .inl ⟨rfl, fun K Q hK => ?_⟩
        simp only [putFrom, Act.put, List.setIfInBounds_toArray, List.set_cons_succ, List.set_cons_zero, Nat.reduceAdd] at hK ⊢
        have HOUT := Lib.hid hK
        clear hK hdep
        go_simp
        refine HOUT.out _ _ _ rfl ⟨Keep.refl _ _ _, ?_⟩
        exact rfl
      rcases j with _ | j
      · simp only [List.getElem?_toArray, List.getElem?_cons_succ, List.getElem?_cons_zero, Option.some.injEq, Nat.zero_add] at ho
        subst ho
        have e0 : vs 0 = _ := hdep 0 rfl
        refine .inl ⟨rfl, fun K Q hK => ?_⟩
        simp only [putFrom, Act.put, List.setIfInBounds_toArray, List.set_cons_succ, List.set_cons_zero, Nat.reduceAdd, e0] at hK ⊢
        have HOUT := Lib.hid hK
        clear hK hdep e0
        go_simp
        refine (HR.out W hI).mono ?_
        rintro e w3 ⟨rfl, hB3⟩
        go_simp
        refine HOUT.out _ _ _ rfl ⟨Keep.of_below hB3 hsz, ?_⟩
        exact rfl
      rcases j with _ | j
      · simp only [List.getElem?_toArray, List.getElem?_cons_succ, List.getElem?_cons_zero, Option.some.injEq, Nat.zero_add] at ho
        subst ho
        have hrw := HD.out.below hI HGB.out
        refine .inl ⟨rfl, fun K Q hK => ?_⟩
        simp only [putFrom, Act.put, List.setIfInBounds_toArray, List.set_cons_succ, List.set_cons_zero, Nat.reduceAdd] at hK ⊢
        have HOUT := Lib.hid hK
        clear hK hdep
        refine wp_load_mid 24 _ rfl w.heap.size 0 rfl (bys key) _ hrw.rngT Tryd.underlying24 rfl HKI.out ?_
        simp only [Act.put, List.setIfInBounds_toArray, List.set_cons_succ, List.set_cons_zero]
        refine HOUT.out _ _ _ rfl ⟨Keep.refl _ _ _, ?_⟩
        exact rfl
      rcases j with _ | j
      · simp only [List.getElem?_toArray, List.getElem?_cons_succ, List.getElem?_cons_zero, Option.some.injEq, Nat.zero_add] at ho
        subst ho
        refine .inl ⟨rfl, fun K Q hK => ?_⟩
        simp only [putFrom, Act.put, List.setIfInBounds_toArray, List.set_cons_succ, List.set_cons_zero, Nat.reduceAdd] at hK ⊢
        have HOUT := Lib.hid hK
        clear hK hdep
        go_simp
        refine HOUT.out _ _ _ rfl ⟨Keep.refl _ _ _, ?_⟩
        exact rfl
      rcases j with _ | j
      · simp only [List.getElem?_toArray, List.getElem?_cons_succ, List.getElem?_cons_zero, Option.some.injEq, Nat.zero_add] at ho
        subst ho
        have e1 : vs 1 = _ := hdep 1 rfl
        have e2 : vs 2 = _ := hdep 2 rfl
        have e3 : vs 3 = _ := hdep 3 rfl
        have hv := Lib.hid (HV.out W hI)
        refine .inl ⟨rfl, fun K Q hK => ?_⟩
        simp only [putFrom, Act.put, List.setIfInBounds_toArray, List.set_cons_succ, List.set_cons_zero, Nat.reduceAdd, e1, e2, e3] at hK ⊢
        have HOUT := Lib.hid hK
        clear hK hdep e1 e2 e3
        go_simp
        refine hv.out.mono ?_
        rintro e w3 ⟨hB3, A3, c3, rfl, hs3⟩
        go_simp
        refine HOUT.out _ _ _ rfl ⟨Keep.of_below hB3 hsz, ?_⟩
        exact ⟨A3, c3, rfl, hs3.wider hsz⟩
      rcases j with _ | j
      · simp only [List.getElem?_toArray, List.getElem?_cons_succ, List.getElem?_cons_zero, Option.some.injEq, Nat.zero_add] at ho
        subst ho
        obtain ⟨A4, c4, e4, s4⟩ := hdep 4 rfl
        refine .inl ⟨rfl, fun K Q hK => ?_⟩
        simp only [putFrom, Act.put, List.setIfInBounds_toArray, List.set_cons_succ, List.set_cons_zero, Nat.reduceAdd, e4] at hK ⊢
        have HOUT := Lib.hid hK
        clear hK hdep e4
        go_simp
        refine HOUT.out _ _ _ rfl ⟨Keep.refl _ _ _, ?_⟩
        exact ⟨A4, c4, rfl, s4⟩
      rcases j with _ | j
      · simp only [List.getElem?_toArray, List.getElem?_cons_succ, List.getElem?_cons_zero, Option.some.injEq, Nat.zero_add] at ho
        subst ho
        obtain ⟨A5, c5, e5, s5⟩ := hdep 5 rfl
        refine .inl ⟨rfl, fun K Q hK => ?_⟩
        simp only [putFrom, Act.put, List.setIfInBounds_toArray, List.set_cons_succ, List.set_cons_zero, Nat.reduceAdd, e5] at hK ⊢
        have HOUT := Lib.hid hK
        clear hK hdep e5
        go_simp
        refine HOUT.out _ _ _ rfl ⟨Keep.refl _ _ _, ?_⟩
        exact s5
      rcases j with _ | j
      · simp only [List.getElem?_toArray, List.getElem?_cons_succ, List.getElem?_cons_zero, Option.some.injEq, Nat.zero_add] at ho
        subst ho
        obtain ⟨A5, c5, e5, s5⟩ := hdep 5 rfl
        refine .inl ⟨rfl, fun K Q hK => ?_⟩
        simp only [putFrom, Act.put, List.setIfInBounds_toArray, List.set_cons_succ, List.set_cons_zero, Nat.reduceAdd, e5] at hK ⊢
        have HOUT := Lib.hid hK
        clear hK hdep e5
        go_simp
        refine HOUT.out _ _ _ rfl ⟨Keep.refl _ _ _, ?_⟩
        exact rfl
      rcases j with _ | j
      · simp only [List.getElem?_toArray, List.getElem?_cons_succ, List.getElem?_cons_zero, Option.some.injEq, Nat.zero_add] at ho
        subst ho
        obtain ⟨A5, c5, e5, s5⟩ := hdep 5 rfl
        refine .inl ⟨rfl, fun K Q hK => ?_⟩
        simp only [putFrom, Act.put, List.setIfInBounds_toArray, List.set_cons_succ, List.set_cons_zero, Nat.reduceAdd, e5] at hK ⊢
        have HOUT := Lib.hid hK
        clear hK hdep e5
        go_simp
        refine HOUT.out _ _ _ rfl ⟨Keep.refl _ _ _, ?_⟩
        exact rfl
      rcases j with _ | j
      · simp only [List.getElem?_toArray, List.getElem?_cons_succ, List.getElem?_cons_zero, Option.some.injEq, Nat.zero_add] at ho
        subst ho
        obtain ⟨A6, c6, e6, a6, b6, s6, d6⟩ := hdep 6 rfl
        refine .inl ⟨rfl, fun K Q hK => ?_⟩
        simp only [putFrom, Act.put, List.setIfInBounds_toArray, List.set_cons_succ, List.set_cons_zero, Nat.reduceAdd, e6] at hK ⊢
        have HOUT := Lib.hid hK
        clear hK hdep e6
        go_simp
        refine HOUT.out _ _ _ rfl ⟨Keep.refl _ _ _, ?_⟩
        exact ⟨A6, c6, rfl, a6, b6, s6, d6⟩
      rcases j with _ | j
      · simp only [List.getElem?_toArray, List.getElem?_cons_succ, List.getElem?_cons_zero, Option.some.injEq, Nat.zero_add] at ho
        subst ho
        have e7 : vs 7 = _ := hdep 7 rfl
        refine .inl ⟨rfl, fun K Q hK => ?_⟩
        simp only [putFrom, Act.put, List.setIfInBounds_toArray, List.set_cons_succ, List.set_cons_zero, Nat.reduceAdd, e7] at hK ⊢
        have HOUT := Lib.hid hK
        clear hK hdep e7
        go_simp
        refine HOUT.out _ _ _ rfl ⟨Keep.refl _ _ _, ?_⟩
        exact rfl
      rcases j with _ | j
      · simp only [List.getElem?_toArray, List.getElem?_cons_succ, List.getElem?_cons_zero, Option.some.injEq, Nat.zero_add] at ho
        subst ho
        have e8 : vs 8 = _ := hdep 8 rfl
        refine .inl ⟨rfl, fun K Q hK => ?_⟩
        simp only [putFrom, Act.put, List.setIfInBounds_toArray, List.set_cons_succ, List.set_cons_zero, Nat.reduceAdd, e8] at hK ⊢
        have HOUT := Lib.hid hK
        clear hK hdep e8
        go_simp
        refine HOUT.out _ _ _ rfl ⟨Keep.refl _ _ _, ?_⟩
        exact rfl
      exact absurd ho (by simp)
    · obtain ⟨A3, c3, e9, a3, b3, s3, d3⟩ := (show SlotK (· < G) W (vs 9) l from hR 9 (by decide))
      have e10 : vs 10 = .bool bo := hR 10 (by decide)
      have e11 : vs 11 = .int .i64 z := hR 11 (by decide)
      have HSX : Hid (SlotK (· < G) W (.slice A3 l.length c3) l) := Lib.hid ⟨A3, c3, rfl, a3, b3, s3, d3⟩
      have HI := Lib.hid hI
      have hrw := HD.out.below hI HGB.out
      clear hR hI a3 b3 s3 d3
      simp only [putFrom, Act.put, List.setIfInBounds_toArray, List.set_cons_succ, List.set_cons_zero, Nat.reduceAdd, e9, e10, e11]
      clear e9 e10 e11
      generalize vs 0 = q0 at *; generalize vs 1 = q1 at *; generalize vs 2 = q2 at *; generalize vs 3 = q3 at *; generalize vs 4 = q4 at *; generalize vs 5 = q5 at *; generalize vs 6 = q6 at *; generalize vs 7 = q7 at *; generalize vs 8 = q8 at *
      go_wp2_with (refine wpList_load_mid rfl 24 _ rfl w.heap.size 0 rfl (bys key) _ hrw.rngT Tryd.underlying24 rfl HKI.out ?_)
      clear hrw
      refine (HGET.out W HI.out).mono ?_
      rintro e w6 ⟨rfl, hB6⟩
      have hsz : G ≤ W.heap.size := by have := HI.out.size; have := HG.out; omega
      have HS6 := Lib.hid (HSX.out.keep (Keep.of_below hB6 hsz))
      have HI6 := Lib.hid (HI.out.trans (hB6.mono hsz))
      have HFIN : Hid (∀ W', Below G w4 W' → Below w.heap.size w W') := Lib.hid (fun W' h => HB4.out.trans (h.mono (by have := HG.out; have := HGB.out; omega)))
      clear hB6 hsz HSX HI
      rcases HCASE.out with ⟨h1, h2, h3⟩ | ⟨h1, h2, h3⟩ | ⟨h1, x, y, h2⟩
      · have hzz : (z != 0) = true := by rw [← HZ.out]; simp; exact h1
        subst h2
        subst h3
        clear HCASE h1
        go_wp2
        go_ret
        exact ⟨rfl, HFIN.out _ HI6.out⟩
      · have hz0 : z = 0 := by rw [← HZ.out, h1]; rfl
        subst hz0
        subst h2
        subst h3
        obtain ⟨A9, c9, e9, h91, h92, h93, -⟩ := HS6.out
        obtain ⟨rfl, -, rfl⟩ := Value.slice.inj e9
        have hcv := conv_sees c3 h93
        have hbs : (bo == bo) = true := by simp
        clear HCASE h1 e9 h91 h92 h93
        go_wp2
        go_ret
        exact ⟨by simp, HFIN.out _ HI6.out⟩
      · have hz0 : z = 0 := by rw [← HZ.out, h1]; rfl
        subst hz0
        subst h2
        obtain ⟨-, hxy, hsh, hxl, hyl⟩ := HOK.out x y rfl
        have HXY := Lib.hid hxy; have HSH := Lib.hid hsh; have HXL := Lib.hid hxl; have HYL := Lib.hid hyl
        have HYD := Lib.hid (shaF_len y)
        obtain ⟨A9, c9, e9, h91, h92, h93, -⟩ := HS6.out
        obtain ⟨rfl, -, rfl⟩ := Value.slice.inj e9
        have hcv := conv_sees c3 h93
        have hrw := HD.out.below HI6.out HGB.out
        clear HCASE h1 e9 h91 h92 h93 hxy hsh hxl hyl HOK
        by_cases hbo : bo = ho
        · subst hbo
          have hbs : (bo == bo) = true := by simp
          by_cases hlx : l = xx
          · subst hlx
            go_wp2
            go_ret
            exact ⟨by simp, HFIN.out _ HI6.out⟩
          · have hlx' : ((strB l).toList == (strB xx).toList) = false := by rw [strB_beq]; simpa using hlx
            clear hlx
            go_wp2_with (refine wpList_load_mid rfl 24 _ rfl w.heap.size 0 rfl (bys key) _ hrw.rngT Tryd.underlying24 rfl HKI.out ?_)
            clear hrw hcv
            have HCW := Lib.hid (HCL.out w6 HI6.out)
            refine HCW.out.mono ?_
            rintro e w7 ⟨hB7, A1, c1, A2, c2, rfl, hs1, hs2⟩
            simp only [fst_, snd_, Option.map_some, Option.getD_some, Option.isSome_some] at hs1 hs2 ⊢
            have hsz : G ≤ w6.heap.size := by have := HI6.out.size; have := HG.out; omega
            have HI7 := Lib.hid (HI6.out.trans (hB7.mono hsz))
            obtain ⟨Ax, cx, ex, hx1, hx2, hx3⟩ := hs1
            obtain ⟨rfl, -, rfl⟩ := Value.slice.inj ex
            obtain ⟨Ay, cy, ey, hy1, hy2, hy3⟩ := hs2
            obtain ⟨rfl, -, rfl⟩ := Value.slice.inj ey
            have hca := conv_sees c1 hx3
            have hcb := conv_sees c2 hy3
            have hne : ((strB x).toList == (strB y).toList) = false := by rw [strB_beq]; simpa using HXY.out
            have hsa := Lib.hid (rsum_any w7.heap.size A1 c1 x w7 hx3 (Nat.le_refl _) (by have := HXL.out; omega))
            have HY := Lib.hid hy3
            clear ex ey hx3 hy3 hx1 hx2 hy1 hy2 hB7 hsz HCW
            go_wp2_with fail
            refine hsa.out.mono ?_
            rintro e w8 ⟨rfl, hB8⟩
            have HI8 := Lib.hid (HI7.out.trans (hB8.mono (by have := HI7.out.size; have := HG.out; omega)))
            have hsb := Lib.hid (rsum_any w7.heap.size A2 c2 y w8 (HY.out.below hB8) hB8.size (by have := HYL.out; omega))
            have heq := fun W => eql_b32 W (shaF y) HYD.out
            rw [HSH.out]
            clear hB8 hsa hca hcb HI7
            generalize shaF y = dy at *
            go_wp2_with fail
            refine hsb.out.mono ?_
            rintro e w9 ⟨rfl, hB9⟩
            have HI9 := Lib.hid (HI8.out.trans (hB9.mono (by have := HI8.out.size; have := HG.out; omega)))
            clear hB9 hsb HI8
            go_wp2
            go_ret
            exact ⟨rfl, HFIN.out _ HI9.out⟩
        · have hbs : (bo == ho) = false := by simpa using hbo
          clear hbo
          go_wp2_with (refine wpList_load_mid rfl 24 _ rfl w.heap.size 0 rfl (bys key) _ hrw.rngT Tryd.underlying24 rfl HKI.out ?_)
          clear hrw hcv
          have HCW := Lib.hid (HCL.out w6 HI6.out)
          refine HCW.out.mono ?_
          rintro e w7 ⟨hB7, A1, c1, A2, c2, rfl, hs1, hs2⟩
          simp only [fst_, snd_, Option.map_some, Option.getD_some, Option.isSome_some] at hs1 hs2 ⊢
          have hsz : G ≤ w6.heap.size := by have := HI6.out.size; have := HG.out; omega
          have HI7 := Lib.hid (HI6.out.trans (hB7.mono hsz))
          obtain ⟨Ax, cx, ex, hx1, hx2, hx3⟩ := hs1
          obtain ⟨rfl, -, rfl⟩ := Value.slice.inj ex
          obtain ⟨Ay, cy, ey, hy1, hy2, hy3⟩ := hs2
          obtain ⟨rfl, -, rfl⟩ := Value.slice.inj ey
          have hca := conv_sees c1 hx3
          have hcb := conv_sees c2 hy3
          have hne : ((strB x).toList == (strB y).toList) = false := by rw [strB_beq]; simpa using HXY.out
          have hsa := Lib.hid (rsum_any w7.heap.size A1 c1 x w7 hx3 (Nat.le_refl _) (by have := HXL.out; omega))
          have HY := Lib.hid hy3
          clear ex ey hx3 hy3 hx1 hx2 hy1 hy2 hB7 hsz HCW
          go_wp2_with fail
          refine hsa.out.mono ?_
          rintro e w8 ⟨rfl, hB8⟩
          have HI8 := Lib.hid (HI7.out.trans (hB8.mono (by have := HI7.out.size; have := HG.out; omega)))
          have hsb := Lib.hid (rsum_any w7.heap.size A2 c2 y w8 (HY.out.below hB8) hB8.size (by have := HYL.out; omega))
          have heq := fun W => eql_b32 W (shaF y) HYD.out
          rw [HSH.out]
          clear hB8 hsa hca hcb HI7
          generalize shaF y = dy at *
          go_wp2_with fail
          refine hsb.out.mono ?_
          rintro e w9 ⟨rfl, hB9⟩
          have HI9 := Lib.hid (HI8.out.trans (hB9.mono (by have := HI8.out.size; have := HG.out; omega)))
          clear hB9 hsb HI8
          go_wp2
          go_ret
          exact ⟨rfl, HFIN.out _ HI9.out⟩
  · rw [decide_eq_false hm]
    go_wp2
    go_ret
    exact ⟨rfl, HB3.out⟩
end Go.Proofs.YtapbaonlboefeaaDoor
