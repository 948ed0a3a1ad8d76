/- trie: wapentakelaw04.TrieBinds. WRITTEN BY wip/gen/tsx.py. | TrieBinds: for every input of the bulk that the row names the law returns true and the arguments read as before: the row. WRITTEN BY wip/gen/rowt.py. -/
import Derived.Test.YtapbaonlboefeaaDoorTsW
import Derived.Test.YtapbaonlboefeaaDoorTsV
import Derived.Stop.Joined
namespace Go.Proofs.YtapbaonlboefeaaDoor
open Go.RowKit

/-- Two maps of one root that differ at a key: a clash. -/
theorem binds_clash (L M : List Ent) (key : List UInt8) (hm : MayP L) (hn : MayP M) (hk : Keys L) (hl : Keys M) (hkey : key.length = 32) (hs : ∀ e ∈ L, e.2.length ≤ 1048576) (ht : ∀ e ∈ M, e.2.length ≤ 1048576) (hr : rootT L = rootT M) (hne : getT L key ≠ getT M key) :
    ∃ x y, clashF L key (proofT M key) = some (x, y) ∧ x ≠ y ∧ shaF x = shaF y ∧ x.length ≤ 1048776 ∧ y.length ≤ 1048776 := by
  have hfew := endT_few key hkey 256 L (Nat.le_refl _) hm hk (on_0 hk hkey)
  have hfew2 := endT_few key hkey 256 M (Nat.le_refl _) hn hl (on_0 hl hkey)
  have hsl := sibT_len key 256 L
  have hsm := sibT_len key 256 M
  have hrd := read_proof M key hn hl hkey (fun e he => by have := ht e he; omega)
  have hcl : clashF L key (proofT M key) = clashT (preT key 0 (sibT key 256 L) (endT key 256 L)) (preT key 0 (sibT key 256 M) (endT key 256 M)) := by
    unfold clashF
    rw [hrd]
    simp only
    rw [if_pos hm, sibsT_flat _ hsm.2]
  rw [hcl]
  cases hc : clashT (preT key 0 (sibT key 256 L) (endT key 256 L)) (preT key 0 (sibT key 256 M) (endT key 256 M)) with
  | none =>
    exfalso
    have h1 := same_path key (endT key 256 L) (endT key 256 M) (fun x hx => ⟨by have := hk x (endT_sub key 256 L x hx); omega, by have := hs x (endT_sub key 256 L x hx); omega⟩) (fun x hx => ⟨by have := hl x (endT_sub key 256 M x hx); omega, by have := ht x (endT_sub key 256 M x hx); omega⟩) hfew.1 hfew2.1 (sibT key 256 L) (sibT key 256 M) 0 hsl.2 hsm.2 (by
      have q1 := trail_top key 256 L (Nat.le_refl _)
      have q2 := trail_top key 256 M (Nat.le_refl _)
      rw [rootT, if_pos hm, rootT, if_pos hn] at hr
      rw [show (256 - 256 : Nat) = 0 from rfl] at q1 q2
      rw [q1, q2, hr]) hc
    exact hne (by rw [← told_get key hkey L hm hk, ← told_get key hkey M hn hl, h1.2])
  | some p =>
    obtain ⟨x, y⟩ := p
    obtain ⟨h1, h2⟩ := clashT_ok hc
    obtain ⟨h3, h4⟩ := clashT_mem hc
    exact ⟨x, y, rfl, h1, h2, preT_short2 key 1048776 (by decide) 0 _ _ hsl.2 (fun e he => hk e (endT_sub key 256 L e he)) (fun e he => by have := hs e (endT_sub key 256 L e he); omega) x h3,
      preT_short2 key 1048776 (by decide) 0 _ _ hsm.2 (fun e he => hl e (endT_sub key 256 M e he)) (fun e he => by have := ht e (endT_sub key 256 M e he); omega) y h4⟩
theorem opt_same {a b : Option (List UInt8)} (h1 : a.getD [] = b.getD []) (h2 : a.isSome = b.isSome) : a = b := by
  cases a <;> cases b <;> simp_all
def VdR (SL SM : Value) (k pf x y : List UInt8) : Nat → Value → World → Prop
  | 0, v, _ => v = SL
  | 1, v, _ => v = .agg (bys k).toArray
  | 2, v, _ => v = SM
  | 3, v, _ => v = .agg (bys k).toArray
  | 4, v, w => Slot w w.heap.size v pf
  | 5, v, w => ∃ A c A' c', v = .tuple #[.slice A x.length c, .slice A' y.length c', .bool true] ∧ Slot w w.heap.size (.slice A x.length c) x ∧ Slot w w.heap.size (.slice A' y.length c') y
  | 6, v, w => ∃ A c A' c', v = .tuple #[.slice A x.length c, .slice A' y.length c', .bool true] ∧ Slot w w.heap.size (.slice A x.length c) x ∧ Slot w w.heap.size (.slice A' y.length c') y
  | 7, v, w => Slot w w.heap.size v x
  | 8, v, w => Slot w w.heap.size v y
  | 9, v, _ => v = .bool true
  | 10, v, w => Slot w w.heap.size v x
  | 11, v, w => Slot w w.heap.size v y
  | 12, v, _ => v = .bool true
  | _, _, _ => True
theorem VdR.keep {SL SM : Value} {k pf x y : List UInt8} : ∀ (j : Nat) {v : Value} {w w' : World}, Below w.heap.size w w' → VdR SL SM k pf x y j v w → VdR SL SM k pf x y j v w'
  | 0, _, _, _, _, h => h
  | 1, _, _, _, _, h => h
  | 2, _, _, _, _, h => h
  | 3, _, _, _, _, h => h
  | 4, v, w, _, hk, h => ((show Slot w w.heap.size v pf from h).below hk).wide hk.size
  | 5, v, w, _, hk, h => (by obtain ⟨A, c, A', c', h1, h2, h3⟩ := h; exact ⟨A, c, A', c', h1, (h2.below hk).wide hk.size, (h3.below hk).wide hk.size⟩)
  | 6, v, w, _, hk, h => (by obtain ⟨A, c, A', c', h1, h2, h3⟩ := h; exact ⟨A, c, A', c', h1, (h2.below hk).wide hk.size, (h3.below hk).wide hk.size⟩)
  | 7, v, w, _, hk, h => ((show Slot w w.heap.size v x from h).below hk).wide hk.size
  | 8, v, w, _, hk, h => ((show Slot w w.heap.size v y from h).below hk).wide hk.size
  | 9, _, _, _, _, h => h
  | 10, v, w, _, hk, h => ((show Slot w w.heap.size v x from h).below hk).wide hk.size
  | 11, v, w, _, hk, h => ((show Slot w w.heap.size v y from h).below hk).wide hk.size
  | 12, _, _, _, _, h => h
  | _ + 13, _, _, _, _, _ => trivial
set_option maxRecDepth 20000 in
set_option maxHeartbeats 3200000 in
theorem binds_law (haw : Awakes) (w : World) (hk : Consts w) (B c : Nat) (hBw : B ≤ w.heap.size) (A : Option Addr) (L : List Ent) (h : EntsR w B A L) (B' c' : Nat) (hBw' : B' ≤ w.heap.size) (A' : Option Addr) (M : List Ent) (h' : EntsR w B' A' M) :
    Calls Tryd.prog 8 #[.slice A L.length c, .slice A' M.length c'] w fun e w' => e = .returned (.bool true) ∧ Below w.heap.size w w' := by
  obtain ⟨n, hnn⟩ : ∃ n, n = L.length := ⟨_, rfl⟩
  obtain ⟨m, hmm⟩ : ∃ n, n = M.length := ⟨_, rfl⟩
  rw [← hnn, ← hmm]
  have HNN := Lib.hid hnn; have HMM := Lib.hid hmm
  have hn1 : (n : Int) ≤ 1048576 := by have := h.few; omega
  have hm1 : (m : Int) ≤ 1048576 := by have := h'.few; omega
  have HE := Lib.hid h; have HE' := Lib.hid h'; have HK := Lib.hid hk; have HBW := Lib.hid hBw; have HBW' := Lib.hid hBw'; have HAW := Lib.hid haw
  clear hnn hmm h h' hk hBw hBw' haw
  go_enter Tryd.func8, Tryd.ntmps8
  go_wp2_with fail
  refine (HAW.out w HK.out).mono ?_
  rintro e w1 ⟨rfl, hB1⟩
  have HB1 := Lib.hid hB1
  clear hB1
  go_wp2_with fail
  have HM1 := Lib.hid (rmay_any w1 B c (Nat.le_trans HBW.out HB1.out.size) A L (HE.out.below (HB1.out.mono HBW.out)) (by have := HE.out.few; omega))
  rw [← HNN.out] at HM1
  refine HM1.out.mono ?_
  rintro e w2 ⟨rfl, hB2⟩
  have HB2 := Lib.hid (HB1.out.trans (hB2.mono HB1.out.size))
  clear hB2 HM1
  go_wp2_with fail
  have HM2 := Lib.hid (rmay_any w2 B' c' (Nat.le_trans HBW'.out HB2.out.size) A' M (HE'.out.below (HB2.out.mono HBW'.out)) (by have := HE'.out.few; omega))
  rw [← HMM.out] at HM2
  refine HM2.out.mono ?_
  rintro e w3 ⟨rfl, hB3⟩
  have HB3 := Lib.hid (HB2.out.trans (hB3.mono HB2.out.size))
  clear hB3 HM2
  go_wp2_with fail
  have HL1 := Lib.hid (list_any w3 B c (Nat.le_trans HBW.out HB3.out.size) A L (HE.out.below (HB3.out.mono HBW.out)))
  rw [← HNN.out] at HL1
  refine HL1.out.mono ?_
  rintro e w4 ⟨hB4, A4, c4, vv, rfl, hc4, hcm4, he4⟩
  have HB4 := Lib.hid (HB3.out.trans (hB4.mono HB3.out.size))
  clear hB4 HL1
  go_wp2_with fail
  have HL2 := Lib.hid (list_any w4 B' c' (Nat.le_trans HBW'.out HB4.out.size) A' M (HE'.out.below (HB4.out.mono HBW'.out)))
  rw [← HMM.out] at HL2
  refine HL2.out.mono ?_
  rintro e w5 ⟨hB5, A5, c5, uu, rfl, hc5, hcm5, he5⟩
  have HB5 := Lib.hid (HB4.out.trans (hB5.mono HB4.out.size))
  have HET := Lib.hid ((he4.below hB5).wide hB5.size)
  have HEM := Lib.hid he5
  have HK5 := Lib.hid (HK.out.below HB5.out HK.out.2.2)
  obtain ⟨G0, hG0⟩ : ∃ g : Nat, w5.heap.size = g := ⟨_, rfl⟩
  rw [hG0] at HET HEM
  have HG0 := Lib.hid hG0
  have HKW : Hid (∀ W, Below G0 w5 W → Consts W) := Lib.hid (fun W hW => HK5.out.below (hG0 ▸ hW) HK5.out.2.2)
  have HW0 : Hid (w.heap.size ≤ G0) := Lib.hid (by rw [← hG0]; exact HB5.out.size)
  have hnL : L.length ≤ 4611686018427387904 := by have := HE.out.few; omega
  have hnM : M.length ≤ 4611686018427387904 := by have := HE'.out.few; omega
  have HRA : Hid (∀ W, Below G0 w5 W → Calls Tryd.prog 14 #[.slice A4 n c4] W (Digs W (rootT L))) := Lib.hid (fun W hW => by
    have h := root_any W G0 c4 (by have := hW.size; omega) A4 vv L (HET.out.below hW) (by rw [← HNN.out]; exact hc4) hcm4 hnL (HKW.out W hW)
    rw [← HNN.out] at h
    exact h)
  have HRB : Hid (∀ W, Below G0 w5 W → Calls Tryd.prog 14 #[.slice A5 m c5] W (Digs W (rootT M))) := Lib.hid (fun W hW => by
    have h := root_any W G0 c5 (by have := hW.size; omega) A5 uu M (HEM.out.below hW) (by rw [← HMM.out]; exact hc5) hcm5 hnM (HKW.out W hW)
    rw [← HMM.out] at h
    exact h)
  have HPM : Hid (MayP M → ∀ W, Below G0 w5 W → ∀ k : List UInt8, k.length = 32 → Calls Tryd.prog 15 #[.slice A5 m c5, .agg (bys k).toArray] W (WroteF W (proofT M k))) := Lib.hid (fun hmm W hW k hk => by
    have h := prove_any W G0 c5 (by have := hW.size; omega) A5 uu M (HEM.out.below hW) hmm (by rw [← HMM.out]; exact hc5) hcm5 hnM (HKW.out W hW) k hk
    rw [← HMM.out] at h
    exact h)
  have HCL : Hid (∀ W, Below G0 w5 W → ∀ k : List UInt8, k.length = 32 → ∀ A c b', Sees W W.heap.size 1 A b'.length (bys b') → b'.length ≤ c → c ≤ 9223372036854775807 → b'.length ≤ 1099511627776 → Calls Tryd.prog 21 #[.slice A4 n c4, .agg (bys k).toArray, .slice A b'.length c] W (ClaW W (clashF L k b'))) := Lib.hid (fun W hW k hk A c b' q1 q2 q3 q4 => by
    have h := cla_any W (HKW.out W hW) G0 c4 (by have := hW.size; omega) A4 vv L (HET.out.below hW) (by rw [← HNN.out]; exact hc4) hcm4 hnL k hk A c b' q1 q2 q3 q4
    rw [← HNN.out] at h
    exact h)
  have HGA : Hid (∀ W, Below G0 w5 W → ∀ k : List UInt8, k.length = 32 → Calls Tryd.prog 20 #[.slice A n c, .agg (bys k).toArray] W fun e w' => e = .returned (.tuple #[.string (strB ((getT L k).getD [])), .bool (getT L k).isSome]) ∧ Below W.heap.size W w') := Lib.hid (fun W hW k hk => by
    have hbw := HB5.out.trans (hW.mono HW0.out)
    have h := rget_any W B c (Nat.le_trans HBW.out hbw.size) A L (HE.out.below (hbw.mono HBW.out)) k hk
    rw [← HNN.out] at h
    exact h)
  have HGM : Hid (∀ W, Below G0 w5 W → ∀ k : List UInt8, k.length = 32 → Calls Tryd.prog 20 #[.slice A' m c', .agg (bys k).toArray] W fun e w' => e = .returned (.tuple #[.string (strB ((getT M k).getD [])), .bool (getT M k).isSome]) ∧ Below W.heap.size W w') := Lib.hid (fun W hW k hk => by
    have hbw := HB5.out.trans (hW.mono HW0.out)
    have h := rget_any W B' c' (Nat.le_trans HBW'.out hbw.size) A' M (HE'.out.below (hbw.mono HBW'.out)) k hk
    rw [← HMM.out] at h
    exact h)
  have HRL := Lib.hid (rootT_len L); have HRM := Lib.hid (rootT_len M)
  clear hB5 hc4 hcm4 he4 hc5 hcm5 he5 hG0 hnL hnM HL2 HET HEM
  by_cases hm : MayP L
  · rw [decide_eq_true hm]
    by_cases hmM : MayP M
    · rw [decide_eq_true hmM]
      have HML := Lib.hid hm; have HMX := Lib.hid hmM
      clear hm hmM
      go_wp2_with fail
      refine (HRA.out w5 (Below.refl _ _)).mono ?_
      rintro e w6 ⟨rfl, hB6⟩
      have HI6 := Lib.hid (show Below G0 w5 w6 from HG0.out ▸ hB6)
      clear hB6
      go_wp2_with fail
      refine (HRB.out w6 HI6.out).mono ?_
      rintro e w7 ⟨rfl, hB7⟩
      have HI7 := Lib.hid (HI6.out.trans (hB7.mono (by have := HI6.out.size; have := HG0.out; omega)))
      clear hB7 HI6
      by_cases hrr : rootT L = rootT M
      · have hnq := fun W => neq_d W (rootT L) (rootT M) HRL.out HRM.out
        have hrb : (rootT L == rootT M) = true := by simpa using hrr
        have HRR := Lib.hid hrr
        clear hrr
        generalize hra : rootT L = ra at *
        generalize hrm : rootT M = rm at *
        have HRAE := Lib.hid hra; have HRME := Lib.hid hrm
        clear hra hrm
        go_wp2_with fail
        go_loopw [9] (fun t wr => ∃ i : Nat, t = .int .i64 (i : Int) ∧ i ≤ n + m ∧ Below G0 w5 wr) (fun t _ => n + m - (intOf t).toNat)
        case atStart => exact ⟨0, rfl, Nat.zero_le _, HI7.out⟩
        case round =>
          obtain ⟨i, rfl, hinm, hBr⟩ := hrel
          have HBr := Lib.hid hBr
          clear hBr
          obtain ⟨z32, hz32, hzl⟩ : ∃ z : List UInt8, zdig = bys z ∧ z.length = 32 := ⟨List.replicate 32 0, by kernel_rfl, List.length_replicate ..⟩
          have HZB : Hid (Tryd.prog.built 24 [] = some (bys z32).toArray) := Lib.hid (by rw [← hz32]; exact built_zdig)
          have hz : ∀ W : World, (zeroValue 24).run Tryd.prog W = .ok (.agg (bys z32).toArray) W := fun W => by rw [← hz32]; exact Tryd.zeroDig W
          have HIZ := dig_info hzl
          have HAZ := dig_one z32
          clear hz32
          rcases Nat.lt_or_ge i (n + m) with hlt | hge
          · have hlt' : (i : Int) < (n : Int) + (m : Int) := by omega
            have hi0 : (0 : Int) ≤ (i : Int) := by omega
            rcases Nat.lt_or_ge i n with hin | hin
            · have hin' : (i : Int) < (n : Int) := by omega
              have hiL : i < L.length := by rw [← HNN.out]; exact hin
              obtain ⟨b, o, rfl, hb, hrow⟩ := (HE.out.below ((HB5.out.trans (HBr.out.mono HW0.out)).mono HBW.out)).at_ i hiL
              have hkl := HE.out.keys _ (List.getElem_mem hiL)
              have hrow := rng_left hrow
              generalize (L[i]'hiL).1 = k at *
              have HKYk := Lib.hid hkl
              have HKI : Hid ((Tryd.prog.info? 24).map (·.size) = some (bys k).length) := Lib.hid (by rw [bys_len, hkl]; kernel_rfl)
              have hd1 := HB.new wr 24 (bys z32)
              have hb1 := below_alloc1 wr (.cells (bys z32).toArray 24)
              generalize hwz : wr.alloc (.cells (bys z32).toArray 24) = wz at *
              have hd2 := hd1.row (bys z32).toArray
              have hb2 := Below.setRow_ hb1 (show wr.heap.size ≤ wr.heap.size from Nat.le_refl _) (bys z32).toArray
              generalize hwy : wz.setRow wr.heap.size (bys z32).toArray = wy at *
              have hd3 := hd2.row (bys k).toArray
              have hb3 := Below.setRow_ hb2 (show wr.heap.size ≤ wr.heap.size from Nat.le_refl _) (bys k).toArray
              generalize hwx : wy.setRow wr.heap.size (bys k).toArray = W7 at *
              have HROW := Lib.hid (rng_below hrow hb2 (Nat.lt_of_lt_of_le hb (Nat.le_trans HBW.out (Nat.le_trans HW0.out (by have := HBr.out.size; have := HG0.out; omega)))))
              have HD1 := Lib.hid hd1; have HD2 := Lib.hid hd2
              have HD : Hid (HB W7 wr.heap.size 24 (bys k)) := Lib.hid hd3
              have hIk := dig_info hkl
              have hZk := dig_size hkl
              have hAk := dig_one k
              have hSz : (bys z32).toArray.size = (bys k).toArray.size := by simp [bys_len, hkl, hzl]
              have HI7w := Lib.hid (HBr.out.trans (hb3.mono (by have := HBr.out.size; have := HG0.out; omega)))
              have HG07 : Hid (G0 ≤ W7.heap.size) := Lib.hid (by have := hb3.size; have := HBr.out.size; have := HG0.out; omega)
              have HSz := Lib.hid hSz
              clear hd1 hd2 hd3 hb1 hb2 hb3 hrow hb hkl hSz hZk
              by_cases hgg : getT L k = getT M k
              · have HGK := Lib.hid (HGA.out W7 HI7w.out k HKYk.out)
                have HGG := Lib.hid hgg
                clear hgg
                go_wp2_with first
                  | (refine wpList_buildTo rfl 24 #[] rfl _ rfl (bys z32).toArray (by (simp only [List.map_toArray, List.map_nil]; exact HZB.out)) ?_)
                  | (refine wpList_store_row rfl 24 _ _ rfl wr.heap.size (bys z32).toArray rfl rfl 24 _ HD1.out HIZ.out rfl HAZ.out ?_; rw [hwy])
                  | (refine wpList_store_row rfl 24 _ _ rfl wr.heap.size (bys k).toArray rfl rfl 24 _ HD2.out hIk.out HSz.out hAk.out ?_; rw [hwx])
                  | (refine wpList_load_mid rfl 24 _ rfl b (o + i * 33) rfl (bys k) _ HROW.out Tryd.underlying24 rfl HKI.out ?_)
                  | (refine wpList_load_mid rfl 24 _ rfl wr.heap.size 0 rfl (bys k) _ HD.out.rngT Tryd.underlying24 rfl HKI.out ?_)
                clear HROW HD1 HD2
                refine HGK.out.mono ?_
                rintro e w8 ⟨rfl, hB8⟩
                have HI8 := Lib.hid (HI7w.out.trans (hB8.mono HG07.out))
                have HD8 := Lib.hid (HD.out.below hB8 HD.out.lt)
                have hrw := HD8.out
                have HGK2 := Lib.hid (HGM.out w8 HI8.out k HKYk.out)
                rw [← HGG.out] at HGK2
                clear hB8 HGK
                generalize (getT L k).getD [] = ga at *
                generalize (getT L k).isSome = ha at *
                have hbs : (ha == ha) = true := by simp
                go_wp2_with (refine wpList_load_mid rfl 24 _ rfl wr.heap.size 0 rfl (bys k) _ hrw.rngT Tryd.underlying24 rfl HKI.out ?_)
                clear hrw
                refine HGK2.out.mono ?_
                rintro e w9 ⟨rfl, hB9⟩
                have HI9 := Lib.hid (HI8.out.trans (hB9.mono (by have := HI8.out.size; have := HG0.out; omega)))
                clear hB9 HGK2
                go_wp2
                go_roundw
                case rel => exact ⟨i + 1, by go_num, by omega, HI9.out⟩
                case measure => simp [intOf]; omega
              · have HNE := Lib.hid hgg
                have HGK := Lib.hid (HGA.out W7 HI7w.out k HKYk.out)
                have hopt : ¬ ((getT L k).getD [] = (getT M k).getD [] ∧ (getT L k).isSome = (getT M k).isSome) := fun q => hgg (opt_same q.1 q.2)
                clear hgg
                go_wp2_with first
                  | (refine wpList_buildTo rfl 24 #[] rfl _ rfl (bys z32).toArray (by (simp only [List.map_toArray, List.map_nil]; exact HZB.out)) ?_)
                  | (refine wpList_store_row rfl 24 _ _ rfl wr.heap.size (bys z32).toArray rfl rfl 24 _ HD1.out HIZ.out rfl HAZ.out ?_; rw [hwy])
                  | (refine wpList_store_row rfl 24 _ _ rfl wr.heap.size (bys k).toArray rfl rfl 24 _ HD2.out hIk.out HSz.out hAk.out ?_; rw [hwx])
                  | (refine wpList_load_mid rfl 24 _ rfl b (o + i * 33) rfl (bys k) _ HROW.out Tryd.underlying24 rfl HKI.out ?_)
                  | (refine wpList_load_mid rfl 24 _ rfl wr.heap.size 0 rfl (bys k) _ HD.out.rngT Tryd.underlying24 rfl HKI.out ?_)
                clear HROW HD1 HD2
                refine HGK.out.mono ?_
                rintro e w8 ⟨rfl, hB8⟩
                have HI8 := Lib.hid (HI7w.out.trans (hB8.mono HG07.out))
                have HD8 := Lib.hid (HD.out.below hB8 HD.out.lt)
                have hrw := HD8.out
                have HGK2 := Lib.hid (HGM.out w8 HI8.out k HKYk.out)
                clear hB8 HGK
                generalize (getT L k).getD [] = ga at *
                generalize (getT L k).isSome = ha at *
                generalize (getT M k).getD [] = gb at *
                generalize (getT M k).isSome = hb' at *
                go_wp2_with (refine wpList_load_mid rfl 24 _ rfl wr.heap.size 0 rfl (bys k) _ hrw.rngT Tryd.underlying24 rfl HKI.out ?_)
                clear hrw
                refine HGK2.out.mono ?_
                rintro e w9 ⟨rfl, hB9⟩
                have HI9 := Lib.hid (HI8.out.trans (hB9.mono (by have := HI8.out.size; have := HG0.out; omega)))
                have HD9 := Lib.hid (HD8.out.below hB9 HD8.out.lt)
                clear hB9 HGK2 HD8 HI8 HD HI7w HG07
                by_cases hab : ga = gb
                · subst hab
                  have hhb : (ha == hb') = false := by
                    rcases Bool.eq_false_or_eq_true (ha == hb') with q | q
                    · exact absurd ⟨rfl, by simpa using q⟩ hopt
                    · exact q
                  clear hopt
                  obtain ⟨x, y, hcl, hxy, hsh, hxl, hyl⟩ := binds_clash L M k HML.out HMX.out HE.out.keys HE'.out.keys HKYk.out HE.out.short HE'.out.short (by rw [HRAE.out, HRME.out]; exact HRR.out) HNE.out
                  have hpl := proofT_len M k HMX.out HE'.out.keys HKYk.out (fun e he => by have := HE'.out.short e he; omega)
                  have hG9 : G0 ≤ w9.heap.size := by have := HI9.out.size; have := HG0.out; omega
                  have HIW : Hid (∀ W, Below w9.heap.size w9 W → Below G0 w5 W) := Lib.hid (fun W hW => HI9.out.trans (hW.mono hG9))
                  have HP : Hid (∀ W, Below w9.heap.size w9 W → Calls Tryd.prog 15 #[.slice A5 m c5, .agg (bys k).toArray] W (WroteF W (proofT M k))) := Lib.hid (fun W hW => HPM.out HMX.out W (HIW.out W hW) k HKYk.out)
                  have HV : Hid (∀ W, Below w9.heap.size w9 W → ∀ A c, Slot W W.heap.size (.slice A (proofT M k).length c) (proofT M k) → Calls Tryd.prog 21 #[.slice A4 n c4, .agg (bys k).toArray, .slice A (proofT M k).length c] W fun e w' => Below W.heap.size W w' ∧ ∃ A c A' c', e = .returned (.tuple #[.slice A x.length c, .slice A' y.length c', .bool true]) ∧ Slot w' w'.heap.size (.slice A x.length c) x ∧ Slot w' w'.heap.size (.slice A' y.length c') y) := Lib.hid (fun W hW A c hs => by
                    obtain ⟨Aq, cq, eq, q1, q2, q3⟩ := hs
                    obtain ⟨rfl, -, rfl⟩ := Value.slice.inj eq
                    have h := HCL.out W (HIW.out W hW) k HKYk.out A c (proofT M k) q3 q1 q2 hpl
                    rw [hcl] at h
                    exact h)
                  generalize proofT M k = pf at *
                  have HXY := Lib.hid hxy; have HSH := Lib.hid hsh; have HXL := Lib.hid hxl; have HYL := Lib.hid hyl; have HYD := Lib.hid (shaF_len y)
                  clear hcl hxy hsh hxl hyl hpl
                  go_wp2_with fail
                  refine wp_region_inv 113 (VdR (.slice A4 n c4) (.slice A5 m c5) k pf x y) (Below w9.heap.size w9) (fun _ W1 W2 => Below W1.heap.size W1 W2) (by kernel_rfl) (by rfl) (by kernel_rfl) (fun i j v W W' _ _ _ hT hR => VdR.keep j hT hR) (fun _ _ _ e h => h.trans (e.mono h.size)) (Below.drew (Below.refl _ _)) (fun j ho1 ho vs W hI hdep => ?_) (fun vs W hI hR => ?_)
                  · rcases j with _ | j
                    · simp only [List.getElem?_toArray, List.getElem?_cons_zero, Option.some.injEq] at ho
                      subst ho
                      refine .inl ⟨rfl, fun K Q hK => ?_⟩
                      simp only [putFrom, Act.put, List.setIfInBounds_toArray, List.set_cons_succ, List.set_cons_zero, Nat.reduceAdd] at hK ⊢
                      have HOUT := Lib.hid hK
                      clear hK hdep
                      go_simp
                      refine HOUT.out _ _ _ rfl ⟨Below.refl _ _, ?_⟩
                      exact rfl
                    rcases j with _ | j
                    · simp only [List.getElem?_toArray, List.getElem?_cons_succ, List.getElem?_cons_zero, Option.some.injEq, Nat.zero_add] at ho
                      subst ho
                      have hrw := HD9.out.below hI HD9.out.lt
                      refine .inl ⟨rfl, fun K Q hK => ?_⟩
                      simp only [putFrom, Act.put, List.setIfInBounds_toArray, List.set_cons_succ, List.set_cons_zero, Nat.reduceAdd] at hK ⊢
                      have HOUT := Lib.hid hK
                      clear hK hdep
                      refine wp_load_mid 24 _ rfl wr.heap.size 0 rfl (bys k) _ hrw.rngT Tryd.underlying24 rfl HKI.out ?_
                      simp only [Act.put, List.setIfInBounds_toArray, List.set_cons_succ, List.set_cons_zero]
                      refine HOUT.out _ _ _ rfl ⟨Below.refl _ _, ?_⟩
                      exact rfl
                    rcases j with _ | j
                    · simp only [List.getElem?_toArray, List.getElem?_cons_succ, List.getElem?_cons_zero, Option.some.injEq, Nat.zero_add] at ho
                      subst ho
                      refine .inl ⟨rfl, fun K Q hK => ?_⟩
                      simp only [putFrom, Act.put, List.setIfInBounds_toArray, List.set_cons_succ, List.set_cons_zero, Nat.reduceAdd] at hK ⊢
                      have HOUT := Lib.hid hK
                      clear hK hdep
                      go_simp
                      refine HOUT.out _ _ _ rfl ⟨Below.refl _ _, ?_⟩
                      exact rfl
                    rcases j with _ | j
                    · simp only [List.getElem?_toArray, List.getElem?_cons_succ, List.getElem?_cons_zero, Option.some.injEq, Nat.zero_add] at ho
                      subst ho
                      have hrw := HD9.out.below hI HD9.out.lt
                      refine .inl ⟨rfl, fun K Q hK => ?_⟩
                      simp only [putFrom, Act.put, List.setIfInBounds_toArray, List.set_cons_succ, List.set_cons_zero, Nat.reduceAdd] at hK ⊢
                      have HOUT := Lib.hid hK
                      clear hK hdep
                      refine wp_load_mid 24 _ rfl wr.heap.size 0 rfl (bys k) _ hrw.rngT Tryd.underlying24 rfl HKI.out ?_
                      simp only [Act.put, List.setIfInBounds_toArray, List.set_cons_succ, List.set_cons_zero]
                      refine HOUT.out _ _ _ rfl ⟨Below.refl _ _, ?_⟩
                      exact rfl
                    rcases j with _ | j
                    · simp only [List.getElem?_toArray, List.getElem?_cons_succ, List.getElem?_cons_zero, Option.some.injEq, Nat.zero_add] at ho
                      subst ho
                      have e2 : vs 2 = _ := hdep 2 rfl
                      have e3 : vs 3 = _ := hdep 3 rfl
                      refine .inl ⟨rfl, fun K Q hK => ?_⟩
                      simp only [putFrom, Act.put, List.setIfInBounds_toArray, List.set_cons_succ, List.set_cons_zero, Nat.reduceAdd, e2, e3] at hK ⊢
                      have HOUT := Lib.hid hK
                      clear hK hdep e2 e3
                      go_simp
                      refine (HP.out W hI).mono ?_
                      rintro e w3 ⟨v3, rfl, hs3, hB3⟩
                      go_simp
                      refine HOUT.out _ _ _ rfl ⟨hB3, ?_⟩
                      exact hs3.slot
                    rcases j with _ | j
                    · simp only [List.getElem?_toArray, List.getElem?_cons_succ, List.getElem?_cons_zero, Option.some.injEq, Nat.zero_add] at ho
                      subst ho
                      have e0 : vs 0 = _ := hdep 0 rfl
                      have e1 : vs 1 = _ := hdep 1 rfl
                      obtain ⟨A4, c4, e4, a4, b4, s4⟩ := hdep 4 rfl
                      have hv := Lib.hid (HV.out W hI A4 c4 ⟨A4, c4, rfl, a4, b4, s4⟩)
                      refine .inl ⟨rfl, fun K Q hK => ?_⟩
                      simp only [putFrom, Act.put, List.setIfInBounds_toArray, List.set_cons_succ, List.set_cons_zero, Nat.reduceAdd, e0, e1, e4] at hK ⊢
                      have HOUT := Lib.hid hK
                      clear hK hdep e0 e1 e4
                      go_simp
                      refine hv.out.mono ?_
                      rintro e w3 ⟨hB3, A3, c3, B3, d3, rfl, hs3, hs4⟩
                      go_simp
                      refine HOUT.out _ _ _ rfl ⟨hB3, ?_⟩
                      exact ⟨A3, c3, B3, d3, rfl, hs3, hs4⟩
                    rcases j with _ | j
                    · simp only [List.getElem?_toArray, List.getElem?_cons_succ, List.getElem?_cons_zero, Option.some.injEq, Nat.zero_add] at ho
                      subst ho
                      obtain ⟨A5, c5, B5, d5, e5, s5, r5⟩ := hdep 5 rfl
                      refine .inl ⟨rfl, fun K Q hK => ?_⟩
                      simp only [putFrom, Act.put, List.setIfInBounds_toArray, List.set_cons_succ, List.set_cons_zero, Nat.reduceAdd, e5] at hK ⊢
                      have HOUT := Lib.hid hK
                      clear hK hdep e5
                      go_simp
                      refine HOUT.out _ _ _ rfl ⟨Below.refl _ _, ?_⟩
                      exact ⟨A5, c5, B5, d5, rfl, s5, r5⟩
                    rcases j with _ | j
                    · simp only [List.getElem?_toArray, List.getElem?_cons_succ, List.getElem?_cons_zero, Option.some.injEq, Nat.zero_add] at ho
                      subst ho
                      obtain ⟨A6, c6, B6, d6, e6, s6, r6⟩ := hdep 6 rfl
                      refine .inl ⟨rfl, fun K Q hK => ?_⟩
                      simp only [putFrom, Act.put, List.setIfInBounds_toArray, List.set_cons_succ, List.set_cons_zero, Nat.reduceAdd, e6] at hK ⊢
                      have HOUT := Lib.hid hK
                      clear hK hdep e6
                      go_simp
                      refine HOUT.out _ _ _ rfl ⟨Below.refl _ _, ?_⟩
                      exact s6
                    rcases j with _ | j
                    · simp only [List.getElem?_toArray, List.getElem?_cons_succ, List.getElem?_cons_zero, Option.some.injEq, Nat.zero_add] at ho
                      subst ho
                      obtain ⟨A6, c6, B6, d6, e6, s6, r6⟩ := hdep 6 rfl
                      refine .inl ⟨rfl, fun K Q hK => ?_⟩
                      simp only [putFrom, Act.put, List.setIfInBounds_toArray, List.set_cons_succ, List.set_cons_zero, Nat.reduceAdd, e6] at hK ⊢
                      have HOUT := Lib.hid hK
                      clear hK hdep e6
                      go_simp
                      refine HOUT.out _ _ _ rfl ⟨Below.refl _ _, ?_⟩
                      exact r6
                    rcases j with _ | j
                    · simp only [List.getElem?_toArray, List.getElem?_cons_succ, List.getElem?_cons_zero, Option.some.injEq, Nat.zero_add] at ho
                      subst ho
                      obtain ⟨A6, c6, B6, d6, e6, s6, r6⟩ := hdep 6 rfl
                      refine .inl ⟨rfl, fun K Q hK => ?_⟩
                      simp only [putFrom, Act.put, List.setIfInBounds_toArray, List.set_cons_succ, List.set_cons_zero, Nat.reduceAdd, e6] at hK ⊢
                      have HOUT := Lib.hid hK
                      clear hK hdep e6
                      go_simp
                      refine HOUT.out _ _ _ rfl ⟨Below.refl _ _, ?_⟩
                      exact rfl
                    rcases j with _ | j
                    · simp only [List.getElem?_toArray, List.getElem?_cons_succ, List.getElem?_cons_zero, Option.some.injEq, Nat.zero_add] at ho
                      subst ho
                      obtain ⟨A7, c7, e7, a7, b7, s7⟩ := hdep 7 rfl
                      refine .inl ⟨rfl, fun K Q hK => ?_⟩
                      simp only [putFrom, Act.put, List.setIfInBounds_toArray, List.set_cons_succ, List.set_cons_zero, Nat.reduceAdd, e7] at hK ⊢
                      have HOUT := Lib.hid hK
                      clear hK hdep e7
                      go_simp
                      refine HOUT.out _ _ _ rfl ⟨Below.refl _ _, ?_⟩
                      exact ⟨A7, c7, rfl, a7, b7, s7⟩
                    rcases j with _ | j
                    · simp only [List.getElem?_toArray, List.getElem?_cons_succ, List.getElem?_cons_zero, Option.some.injEq, Nat.zero_add] at ho
                      subst ho
                      obtain ⟨A8, c8, e8, a8, b8, s8⟩ := hdep 8 rfl
                      refine .inl ⟨rfl, fun K Q hK => ?_⟩
                      simp only [putFrom, Act.put, List.setIfInBounds_toArray, List.set_cons_succ, List.set_cons_zero, Nat.reduceAdd, e8] at hK ⊢
                      have HOUT := Lib.hid hK
                      clear hK hdep e8
                      go_simp
                      refine HOUT.out _ _ _ rfl ⟨Below.refl _ _, ?_⟩
                      exact ⟨A8, c8, rfl, a8, b8, s8⟩
                    rcases j with _ | j
                    · simp only [List.getElem?_toArray, List.getElem?_cons_succ, List.getElem?_cons_zero, Option.some.injEq, Nat.zero_add] at ho
                      subst ho
                      have e9 : vs 9 = _ := hdep 9 rfl
                      refine .inl ⟨rfl, fun K Q hK => ?_⟩
                      simp only [putFrom, Act.put, List.setIfInBounds_toArray, List.set_cons_succ, List.set_cons_zero, Nat.reduceAdd, e9] at hK ⊢
                      have HOUT := Lib.hid hK
                      clear hK hdep e9
                      go_simp
                      refine HOUT.out _ _ _ rfl ⟨Below.refl _ _, ?_⟩
                      exact rfl
                    exact absurd ho (by simp)
                  · obtain ⟨Ax, c1, e10, hx1, hx2, hx3⟩ := (show Slot W W.heap.size (vs 10) x from hR 10 (by decide))
                    obtain ⟨Ay, c2, e11, hy1, hy2, hy3⟩ := (show Slot W W.heap.size (vs 11) y from hR 11 (by decide))
                    have e12 : vs 12 = .bool true := hR 12 (by decide)
                    have HIx := Lib.hid (HIW.out W hI)
                    have hca := conv_sees c1 hx3
                    have hcb := conv_sees c2 hy3
                    have hne : ((strB x).toList == (strB y).toList) = false := by rw [strB_beq]; simpa using HXY.out
                    have hsa := Lib.hid (rsum_any W.heap.size Ax c1 x W hx3 (Nat.le_refl _) (by have := HXL.out; omega))
                    have HY := Lib.hid hy3
                    clear hR hI hx1 hx2 hx3 hy1 hy2 hy3
                    simp only [putFrom, Act.put, List.setIfInBounds_toArray, List.set_cons_succ, List.set_cons_zero, Nat.reduceAdd, e10, e11, e12]
                    clear e10 e11 e12
                    generalize vs 0 = q0 at *; generalize vs 1 = q1 at *; generalize vs 2 = q2 at *; generalize vs 3 = q3 at *; generalize vs 4 = q4 at *; generalize vs 5 = q5 at *; generalize vs 6 = q6 at *; generalize vs 7 = q7 at *; generalize vs 8 = q8 at *; generalize vs 9 = q9 at *
                    go_wp2_with fail
                    refine hsa.out.mono ?_
                    rintro e w8x ⟨rfl, hB8⟩
                    have HI8x := Lib.hid (HIx.out.trans (hB8.mono (by have := HIx.out.size; have := HG0.out; omega)))
                    have hsb := Lib.hid (rsum_any W.heap.size Ay c2 y w8x (HY.out.below hB8) hB8.size (by have := HYL.out; omega))
                    have heq := fun W => eql_b32 W (shaF y) HYD.out
                    rw [HSH.out]
                    clear hB8 hsa hca hcb HIx
                    generalize shaF y = dy at *
                    go_wp2_with fail
                    refine hsb.out.mono ?_
                    rintro e w9x ⟨rfl, hB9⟩
                    have HFIN := Lib.hid (HB5.out.trans ((HI8x.out.trans (hB9.mono (by have := HI8x.out.size; have := HG0.out; omega))).mono HW0.out))
                    clear hB9 hsb HI8x
                    go_wp2
                    go_ret
                    exact ⟨rfl, HFIN.out⟩

                · have hstr : ((strB ga).toList == (strB gb).toList) = false := by rw [strB_beq]; simpa using hab
                  clear hopt hab
                  obtain ⟨x, y, hcl, hxy, hsh, hxl, hyl⟩ := binds_clash L M k HML.out HMX.out HE.out.keys HE'.out.keys HKYk.out HE.out.short HE'.out.short (by rw [HRAE.out, HRME.out]; exact HRR.out) HNE.out
                  have hpl := proofT_len M k HMX.out HE'.out.keys HKYk.out (fun e he => by have := HE'.out.short e he; omega)
                  have hG9 : G0 ≤ w9.heap.size := by have := HI9.out.size; have := HG0.out; omega
                  have HIW : Hid (∀ W, Below w9.heap.size w9 W → Below G0 w5 W) := Lib.hid (fun W hW => HI9.out.trans (hW.mono hG9))
                  have HP : Hid (∀ W, Below w9.heap.size w9 W → Calls Tryd.prog 15 #[.slice A5 m c5, .agg (bys k).toArray] W (WroteF W (proofT M k))) := Lib.hid (fun W hW => HPM.out HMX.out W (HIW.out W hW) k HKYk.out)
                  have HV : Hid (∀ W, Below w9.heap.size w9 W → ∀ A c, Slot W W.heap.size (.slice A (proofT M k).length c) (proofT M k) → Calls Tryd.prog 21 #[.slice A4 n c4, .agg (bys k).toArray, .slice A (proofT M k).length c] W fun e w' => Below W.heap.size W w' ∧ ∃ A c A' c', e = .returned (.tuple #[.slice A x.length c, .slice A' y.length c', .bool true]) ∧ Slot w' w'.heap.size (.slice A x.length c) x ∧ Slot w' w'.heap.size (.slice A' y.length c') y) := Lib.hid (fun W hW A c hs => by
                    obtain ⟨Aq, cq, eq, q1, q2, q3⟩ := hs
                    obtain ⟨rfl, -, rfl⟩ := Value.slice.inj eq
                    have h := HCL.out W (HIW.out W hW) k HKYk.out A c (proofT M k) q3 q1 q2 hpl
                    rw [hcl] at h
                    exact h)
                  generalize proofT M k = pf at *
                  have HXY := Lib.hid hxy; have HSH := Lib.hid hsh; have HXL := Lib.hid hxl; have HYL := Lib.hid hyl; have HYD := Lib.hid (shaF_len y)
                  clear hcl hxy hsh hxl hyl hpl
                  go_wp2_with fail
                  refine wp_region_inv 113 (VdR (.slice A4 n c4) (.slice A5 m c5) k pf x y) (Below w9.heap.size w9) (fun _ W1 W2 => Below W1.heap.size W1 W2) (by kernel_rfl) (by rfl) (by kernel_rfl) (fun i j v W W' _ _ _ hT hR => VdR.keep j hT hR) (fun _ _ _ e h => h.trans (e.mono h.size)) (Below.drew (Below.refl _ _)) (fun j ho1 ho vs W hI hdep => ?_) (fun vs W hI hR => ?_)
                  · rcases j with _ | j
                    · simp only [List.getElem?_toArray, List.getElem?_cons_zero, Option.some.injEq] at ho
                      subst ho
                      refine .inl ⟨rfl, fun K Q hK => ?_⟩
                      simp only [putFrom, Act.put, List.setIfInBounds_toArray, List.set_cons_succ, List.set_cons_zero, Nat.reduceAdd] at hK ⊢
                      have HOUT := Lib.hid hK
                      clear hK hdep
                      go_simp
                      refine HOUT.out _ _ _ rfl ⟨Below.refl _ _, ?_⟩
                      exact rfl
                    rcases j with _ | j
                    · simp only [List.getElem?_toArray, List.getElem?_cons_succ, List.getElem?_cons_zero, Option.some.injEq, Nat.zero_add] at ho
                      subst ho
                      have hrw := HD9.out.below hI HD9.out.lt
                      refine .inl ⟨rfl, fun K Q hK => ?_⟩
                      simp only [putFrom, Act.put, List.setIfInBounds_toArray, List.set_cons_succ, List.set_cons_zero, Nat.reduceAdd] at hK ⊢
                      have HOUT := Lib.hid hK
                      clear hK hdep
                      refine wp_load_mid 24 _ rfl wr.heap.size 0 rfl (bys k) _ hrw.rngT Tryd.underlying24 rfl HKI.out ?_
                      simp only [Act.put, List.setIfInBounds_toArray, List.set_cons_succ, List.set_cons_zero]
                      refine HOUT.out _ _ _ rfl ⟨Below.refl _ _, ?_⟩
                      exact rfl
                    rcases j with _ | j
                    · simp only [List.getElem?_toArray, List.getElem?_cons_succ, List.getElem?_cons_zero, Option.some.injEq, Nat.zero_add] at ho
                      subst ho
                      refine .inl ⟨rfl, fun K Q hK => ?_⟩
                      simp only [putFrom, Act.put, List.setIfInBounds_toArray, List.set_cons_succ, List.set_cons_zero, Nat.reduceAdd] at hK ⊢
                      have HOUT := Lib.hid hK
                      clear hK hdep
                      go_simp
                      refine HOUT.out _ _ _ rfl ⟨Below.refl _ _, ?_⟩
                      exact rfl
                    rcases j with _ | j
                    · simp only [List.getElem?_toArray, List.getElem?_cons_succ, List.getElem?_cons_zero, Option.some.injEq, Nat.zero_add] at ho
                      subst ho
                      have hrw := HD9.out.below hI HD9.out.lt
                      refine .inl ⟨rfl, fun K Q hK => ?_⟩
                      simp only [putFrom, Act.put, List.setIfInBounds_toArray, List.set_cons_succ, List.set_cons_zero, Nat.reduceAdd] at hK ⊢
                      have HOUT := Lib.hid hK
                      clear hK hdep
                      refine wp_load_mid 24 _ rfl wr.heap.size 0 rfl (bys k) _ hrw.rngT Tryd.underlying24 rfl HKI.out ?_
                      simp only [Act.put, List.setIfInBounds_toArray, List.set_cons_succ, List.set_cons_zero]
                      refine HOUT.out _ _ _ rfl ⟨Below.refl _ _, ?_⟩
                      exact rfl
                    rcases j with _ | j
                    · simp only [List.getElem?_toArray, List.getElem?_cons_succ, List.getElem?_cons_zero, Option.some.injEq, Nat.zero_add] at ho
                      subst ho
                      have e2 : vs 2 = _ := hdep 2 rfl
                      have e3 : vs 3 = _ := hdep 3 rfl
                      refine .inl ⟨rfl, fun K Q hK => ?_⟩
                      simp only [putFrom, Act.put, List.setIfInBounds_toArray, List.set_cons_succ, List.set_cons_zero, Nat.reduceAdd, e2, e3] at hK ⊢
                      have HOUT := Lib.hid hK
                      clear hK hdep e2 e3
                      go_simp
                      refine (HP.out W hI).mono ?_
                      rintro e w3 ⟨v3, rfl, hs3, hB3⟩
                      go_simp
                      refine HOUT.out _ _ _ rfl ⟨hB3, ?_⟩
                      exact hs3.slot
                    rcases j with _ | j
                    · simp only [List.getElem?_toArray, List.getElem?_cons_succ, List.getElem?_cons_zero, Option.some.injEq, Nat.zero_add] at ho
                      subst ho
                      have e0 : vs 0 = _ := hdep 0 rfl
                      have e1 : vs 1 = _ := hdep 1 rfl
                      obtain ⟨A4, c4, e4, a4, b4, s4⟩ := hdep 4 rfl
                      have hv := Lib.hid (HV.out W hI A4 c4 ⟨A4, c4, rfl, a4, b4, s4⟩)
                      refine .inl ⟨rfl, fun K Q hK => ?_⟩
                      simp only [putFrom, Act.put, List.setIfInBounds_toArray, List.set_cons_succ, List.set_cons_zero, Nat.reduceAdd, e0, e1, e4] at hK ⊢
                      have HOUT := Lib.hid hK
                      clear hK hdep e0 e1 e4
                      go_simp
                      refine hv.out.mono ?_
                      rintro e w3 ⟨hB3, A3, c3, B3, d3, rfl, hs3, hs4⟩
                      go_simp
                      refine HOUT.out _ _ _ rfl ⟨hB3, ?_⟩
                      exact ⟨A3, c3, B3, d3, rfl, hs3, hs4⟩
                    rcases j with _ | j
                    · simp only [List.getElem?_toArray, List.getElem?_cons_succ, List.getElem?_cons_zero, Option.some.injEq, Nat.zero_add] at ho
                      subst ho
                      obtain ⟨A5, c5, B5, d5, e5, s5, r5⟩ := hdep 5 rfl
                      refine .inl ⟨rfl, fun K Q hK => ?_⟩
                      simp only [putFrom, Act.put, List.setIfInBounds_toArray, List.set_cons_succ, List.set_cons_zero, Nat.reduceAdd, e5] at hK ⊢
                      have HOUT := Lib.hid hK
                      clear hK hdep e5
                      go_simp
                      refine HOUT.out _ _ _ rfl ⟨Below.refl _ _, ?_⟩
                      exact ⟨A5, c5, B5, d5, rfl, s5, r5⟩
                    rcases j with _ | j
                    · simp only [List.getElem?_toArray, List.getElem?_cons_succ, List.getElem?_cons_zero, Option.some.injEq, Nat.zero_add] at ho
                      subst ho
                      obtain ⟨A6, c6, B6, d6, e6, s6, r6⟩ := hdep 6 rfl
                      refine .inl ⟨rfl, fun K Q hK => ?_⟩
                      simp only [putFrom, Act.put, List.setIfInBounds_toArray, List.set_cons_succ, List.set_cons_zero, Nat.reduceAdd, e6] at hK ⊢
                      have HOUT := Lib.hid hK
                      clear hK hdep e6
                      go_simp
                      refine HOUT.out _ _ _ rfl ⟨Below.refl _ _, ?_⟩
                      exact s6
                    rcases j with _ | j
                    · simp only [List.getElem?_toArray, List.getElem?_cons_succ, List.getElem?_cons_zero, Option.some.injEq, Nat.zero_add] at ho
                      subst ho
                      obtain ⟨A6, c6, B6, d6, e6, s6, r6⟩ := hdep 6 rfl
                      refine .inl ⟨rfl, fun K Q hK => ?_⟩
                      simp only [putFrom, Act.put, List.setIfInBounds_toArray, List.set_cons_succ, List.set_cons_zero, Nat.reduceAdd, e6] at hK ⊢
                      have HOUT := Lib.hid hK
                      clear hK hdep e6
                      go_simp
                      refine HOUT.out _ _ _ rfl ⟨Below.refl _ _, ?_⟩
                      exact r6
                    rcases j with _ | j
                    · simp only [List.getElem?_toArray, List.getElem?_cons_succ, List.getElem?_cons_zero, Option.some.injEq, Nat.zero_add] at ho
                      subst ho
                      obtain ⟨A6, c6, B6, d6, e6, s6, r6⟩ := hdep 6 rfl
                      refine .inl ⟨rfl, fun K Q hK => ?_⟩
                      simp only [putFrom, Act.put, List.setIfInBounds_toArray, List.set_cons_succ, List.set_cons_zero, Nat.reduceAdd, e6] at hK ⊢
                      have HOUT := Lib.hid hK
                      clear hK hdep e6
                      go_simp
                      refine HOUT.out _ _ _ rfl ⟨Below.refl _ _, ?_⟩
                      exact rfl
                    rcases j with _ | j
                    · simp only [List.getElem?_toArray, List.getElem?_cons_succ, List.getElem?_cons_zero, Option.some.injEq, Nat.zero_add] at ho
                      subst ho
                      obtain ⟨A7, c7, e7, a7, b7, s7⟩ := hdep 7 rfl
                      refine .inl ⟨rfl, fun K Q hK => ?_⟩
                      simp only [putFrom, Act.put, List.setIfInBounds_toArray, List.set_cons_succ, List.set_cons_zero, Nat.reduceAdd, e7] at hK ⊢
                      have HOUT := Lib.hid hK
                      clear hK hdep e7
                      go_simp
                      refine HOUT.out _ _ _ rfl ⟨Below.refl _ _, ?_⟩
                      exact ⟨A7, c7, rfl, a7, b7, s7⟩
                    rcases j with _ | j
                    · simp only [List.getElem?_toArray, List.getElem?_cons_succ, List.getElem?_cons_zero, Option.some.injEq, Nat.zero_add] at ho
                      subst ho
                      obtain ⟨A8, c8, e8, a8, b8, s8⟩ := hdep 8 rfl
                      refine .inl ⟨rfl, fun K Q hK => ?_⟩
                      simp only [putFrom, Act.put, List.setIfInBounds_toArray, List.set_cons_succ, List.set_cons_zero, Nat.reduceAdd, e8] at hK ⊢
                      have HOUT := Lib.hid hK
                      clear hK hdep e8
                      go_simp
                      refine HOUT.out _ _ _ rfl ⟨Below.refl _ _, ?_⟩
                      exact ⟨A8, c8, rfl, a8, b8, s8⟩
                    rcases j with _ | j
                    · simp only [List.getElem?_toArray, List.getElem?_cons_succ, List.getElem?_cons_zero, Option.some.injEq, Nat.zero_add] at ho
                      subst ho
                      have e9 : vs 9 = _ := hdep 9 rfl
                      refine .inl ⟨rfl, fun K Q hK => ?_⟩
                      simp only [putFrom, Act.put, List.setIfInBounds_toArray, List.set_cons_succ, List.set_cons_zero, Nat.reduceAdd, e9] at hK ⊢
                      have HOUT := Lib.hid hK
                      clear hK hdep e9
                      go_simp
                      refine HOUT.out _ _ _ rfl ⟨Below.refl _ _, ?_⟩
                      exact rfl
                    exact absurd ho (by simp)
                  · obtain ⟨Ax, c1, e10, hx1, hx2, hx3⟩ := (show Slot W W.heap.size (vs 10) x from hR 10 (by decide))
                    obtain ⟨Ay, c2, e11, hy1, hy2, hy3⟩ := (show Slot W W.heap.size (vs 11) y from hR 11 (by decide))
                    have e12 : vs 12 = .bool true := hR 12 (by decide)
                    have HIx := Lib.hid (HIW.out W hI)
                    have hca := conv_sees c1 hx3
                    have hcb := conv_sees c2 hy3
                    have hne : ((strB x).toList == (strB y).toList) = false := by rw [strB_beq]; simpa using HXY.out
                    have hsa := Lib.hid (rsum_any W.heap.size Ax c1 x W hx3 (Nat.le_refl _) (by have := HXL.out; omega))
                    have HY := Lib.hid hy3
                    clear hR hI hx1 hx2 hx3 hy1 hy2 hy3
                    simp only [putFrom, Act.put, List.setIfInBounds_toArray, List.set_cons_succ, List.set_cons_zero, Nat.reduceAdd, e10, e11, e12]
                    clear e10 e11 e12
                    generalize vs 0 = q0 at *; generalize vs 1 = q1 at *; generalize vs 2 = q2 at *; generalize vs 3 = q3 at *; generalize vs 4 = q4 at *; generalize vs 5 = q5 at *; generalize vs 6 = q6 at *; generalize vs 7 = q7 at *; generalize vs 8 = q8 at *; generalize vs 9 = q9 at *
                    go_wp2_with fail
                    refine hsa.out.mono ?_
                    rintro e w8x ⟨rfl, hB8⟩
                    have HI8x := Lib.hid (HIx.out.trans (hB8.mono (by have := HIx.out.size; have := HG0.out; omega)))
                    have hsb := Lib.hid (rsum_any W.heap.size Ay c2 y w8x (HY.out.below hB8) hB8.size (by have := HYL.out; omega))
                    have heq := fun W => eql_b32 W (shaF y) HYD.out
                    rw [HSH.out]
                    clear hB8 hsa hca hcb HIx
                    generalize shaF y = dy at *
                    go_wp2_with fail
                    refine hsb.out.mono ?_
                    rintro e w9x ⟨rfl, hB9⟩
                    have HFIN := Lib.hid (HB5.out.trans ((HI8x.out.trans (hB9.mono (by have := HI8x.out.size; have := HG0.out; omega))).mono HW0.out))
                    clear hB9 hsb HI8x
                    go_wp2
                    go_ret
                    exact ⟨rfl, HFIN.out⟩
            · have hin' : (n : Int) ≤ (i : Int) := by omega
              obtain ⟨j, hj⟩ : ∃ j, i = n + j := ⟨i - n, by omega⟩
              have hij : (i : Int) - (n : Int) = (j : Int) := by omega
              have hj0 : (0 : Int) ≤ (j : Int) := by omega
              have hjm : (j : Int) < (m : Int) := by omega
              have hiL : j < M.length := by rw [← HMM.out]; omega
              have HJ := Lib.hid hj
              clear hj
              obtain ⟨b, o, rfl, hb, hrow⟩ := (HE'.out.below ((HB5.out.trans (HBr.out.mono HW0.out)).mono HBW'.out)).at_ j hiL
              have hkl := HE'.out.keys _ (List.getElem_mem hiL)
              have hrow := rng_left hrow
              generalize (M[j]'hiL).1 = k at *
              have HKYk := Lib.hid hkl
              have HKI : Hid ((Tryd.prog.info? 24).map (·.size) = some (bys k).length) := Lib.hid (by rw [bys_len, hkl]; kernel_rfl)
              have hd1 := HB.new wr 24 (bys z32)
              have hb1 := below_alloc1 wr (.cells (bys z32).toArray 24)
              generalize hwz : wr.alloc (.cells (bys z32).toArray 24) = wz at *
              have hd2 := hd1.row (bys z32).toArray
              have hb2 := Below.setRow_ hb1 (show wr.heap.size ≤ wr.heap.size from Nat.le_refl _) (bys z32).toArray
              generalize hwy : wz.setRow wr.heap.size (bys z32).toArray = wy at *
              have hd3 := hd2.row (bys k).toArray
              have hb3 := Below.setRow_ hb2 (show wr.heap.size ≤ wr.heap.size from Nat.le_refl _) (bys k).toArray
              generalize hwx : wy.setRow wr.heap.size (bys k).toArray = W7 at *
              have HROW := Lib.hid (rng_below hrow hb2 (Nat.lt_of_lt_of_le hb (Nat.le_trans HBW'.out (Nat.le_trans HW0.out (by have := HBr.out.size; have := HG0.out; omega)))))
              have HD1 := Lib.hid hd1; have HD2 := Lib.hid hd2
              have HD : Hid (HB W7 wr.heap.size 24 (bys k)) := Lib.hid hd3
              have hIk := dig_info hkl
              have hZk := dig_size hkl
              have hAk := dig_one k
              have hSz : (bys z32).toArray.size = (bys k).toArray.size := by simp [bys_len, hkl, hzl]
              have HI7w := Lib.hid (HBr.out.trans (hb3.mono (by have := HBr.out.size; have := HG0.out; omega)))
              have HG07 : Hid (G0 ≤ W7.heap.size) := Lib.hid (by have := hb3.size; have := HBr.out.size; have := HG0.out; omega)
              have HSz := Lib.hid hSz
              clear hd1 hd2 hd3 hb1 hb2 hb3 hrow hb hkl hSz hZk
              by_cases hgg : getT L k = getT M k
              · have HGK := Lib.hid (HGA.out W7 HI7w.out k HKYk.out)
                have HGG := Lib.hid hgg
                clear hgg
                go_wp2_with first
                  | (refine wpList_buildTo rfl 24 #[] rfl _ rfl (bys z32).toArray (by (simp only [List.map_toArray, List.map_nil]; exact HZB.out)) ?_)
                  | (refine wpList_store_row rfl 24 _ _ rfl wr.heap.size (bys z32).toArray rfl rfl 24 _ HD1.out HIZ.out rfl HAZ.out ?_; rw [hwy])
                  | (refine wpList_store_row rfl 24 _ _ rfl wr.heap.size (bys k).toArray rfl rfl 24 _ HD2.out hIk.out HSz.out hAk.out ?_; rw [hwx])
                  | (refine wpList_load_mid rfl 24 _ rfl b (o + j * 33) rfl (bys k) _ HROW.out Tryd.underlying24 rfl HKI.out ?_)
                  | (refine wpList_load_mid rfl 24 _ rfl wr.heap.size 0 rfl (bys k) _ HD.out.rngT Tryd.underlying24 rfl HKI.out ?_)
                clear HROW HD1 HD2
                refine HGK.out.mono ?_
                rintro e w8 ⟨rfl, hB8⟩
                have HI8 := Lib.hid (HI7w.out.trans (hB8.mono HG07.out))
                have HD8 := Lib.hid (HD.out.below hB8 HD.out.lt)
                have hrw := HD8.out
                have HGK2 := Lib.hid (HGM.out w8 HI8.out k HKYk.out)
                rw [← HGG.out] at HGK2
                clear hB8 HGK
                generalize (getT L k).getD [] = ga at *
                generalize (getT L k).isSome = ha at *
                have hbs : (ha == ha) = true := by simp
                go_wp2_with (refine wpList_load_mid rfl 24 _ rfl wr.heap.size 0 rfl (bys k) _ hrw.rngT Tryd.underlying24 rfl HKI.out ?_)
                clear hrw
                refine HGK2.out.mono ?_
                rintro e w9 ⟨rfl, hB9⟩
                have HI9 := Lib.hid (HI8.out.trans (hB9.mono (by have := HI8.out.size; have := HG0.out; omega)))
                clear hB9 HGK2
                go_wp2
                go_roundw
                case rel => exact ⟨i + 1, by go_num, by omega, HI9.out⟩
                case measure => simp [intOf]; omega
              · have HNE := Lib.hid hgg
                have HGK := Lib.hid (HGA.out W7 HI7w.out k HKYk.out)
                have hopt : ¬ ((getT L k).getD [] = (getT M k).getD [] ∧ (getT L k).isSome = (getT M k).isSome) := fun q => hgg (opt_same q.1 q.2)
                clear hgg
                go_wp2_with first
                  | (refine wpList_buildTo rfl 24 #[] rfl _ rfl (bys z32).toArray (by (simp only [List.map_toArray, List.map_nil]; exact HZB.out)) ?_)
                  | (refine wpList_store_row rfl 24 _ _ rfl wr.heap.size (bys z32).toArray rfl rfl 24 _ HD1.out HIZ.out rfl HAZ.out ?_; rw [hwy])
                  | (refine wpList_store_row rfl 24 _ _ rfl wr.heap.size (bys k).toArray rfl rfl 24 _ HD2.out hIk.out HSz.out hAk.out ?_; rw [hwx])
                  | (refine wpList_load_mid rfl 24 _ rfl b (o + j * 33) rfl (bys k) _ HROW.out Tryd.underlying24 rfl HKI.out ?_)
                  | (refine wpList_load_mid rfl 24 _ rfl wr.heap.size 0 rfl (bys k) _ HD.out.rngT Tryd.underlying24 rfl HKI.out ?_)
                clear HROW HD1 HD2
                refine HGK.out.mono ?_
                rintro e w8 ⟨rfl, hB8⟩
                have HI8 := Lib.hid (HI7w.out.trans (hB8.mono HG07.out))
                have HD8 := Lib.hid (HD.out.below hB8 HD.out.lt)
                have hrw := HD8.out
                have HGK2 := Lib.hid (HGM.out w8 HI8.out k HKYk.out)
                clear hB8 HGK
                generalize (getT L k).getD [] = ga at *
                generalize (getT L k).isSome = ha at *
                generalize (getT M k).getD [] = gb at *
                generalize (getT M k).isSome = hb' at *
                go_wp2_with (refine wpList_load_mid rfl 24 _ rfl wr.heap.size 0 rfl (bys k) _ hrw.rngT Tryd.underlying24 rfl HKI.out ?_)
                clear hrw
                refine HGK2.out.mono ?_
                rintro e w9 ⟨rfl, hB9⟩
                have HI9 := Lib.hid (HI8.out.trans (hB9.mono (by have := HI8.out.size; have := HG0.out; omega)))
                have HD9 := Lib.hid (HD8.out.below hB9 HD8.out.lt)
                clear hB9 HGK2 HD8 HI8 HD HI7w HG07
                by_cases hab : ga = gb
                · subst hab
                  have hhb : (ha == hb') = false := by
                    rcases Bool.eq_false_or_eq_true (ha == hb') with q | q
                    · exact absurd ⟨rfl, by simpa using q⟩ hopt
                    · exact q
                  clear hopt
                  obtain ⟨x, y, hcl, hxy, hsh, hxl, hyl⟩ := binds_clash L M k HML.out HMX.out HE.out.keys HE'.out.keys HKYk.out HE.out.short HE'.out.short (by rw [HRAE.out, HRME.out]; exact HRR.out) HNE.out
                  have hpl := proofT_len M k HMX.out HE'.out.keys HKYk.out (fun e he => by have := HE'.out.short e he; omega)
                  have hG9 : G0 ≤ w9.heap.size := by have := HI9.out.size; have := HG0.out; omega
                  have HIW : Hid (∀ W, Below w9.heap.size w9 W → Below G0 w5 W) := Lib.hid (fun W hW => HI9.out.trans (hW.mono hG9))
                  have HP : Hid (∀ W, Below w9.heap.size w9 W → Calls Tryd.prog 15 #[.slice A5 m c5, .agg (bys k).toArray] W (WroteF W (proofT M k))) := Lib.hid (fun W hW => HPM.out HMX.out W (HIW.out W hW) k HKYk.out)
                  have HV : Hid (∀ W, Below w9.heap.size w9 W → ∀ A c, Slot W W.heap.size (.slice A (proofT M k).length c) (proofT M k) → Calls Tryd.prog 21 #[.slice A4 n c4, .agg (bys k).toArray, .slice A (proofT M k).length c] W fun e w' => Below W.heap.size W w' ∧ ∃ A c A' c', e = .returned (.tuple #[.slice A x.length c, .slice A' y.length c', .bool true]) ∧ Slot w' w'.heap.size (.slice A x.length c) x ∧ Slot w' w'.heap.size (.slice A' y.length c') y) := Lib.hid (fun W hW A c hs => by
                    obtain ⟨Aq, cq, eq, q1, q2, q3⟩ := hs
                    obtain ⟨rfl, -, rfl⟩ := Value.slice.inj eq
                    have h := HCL.out W (HIW.out W hW) k HKYk.out A c (proofT M k) q3 q1 q2 hpl
                    rw [hcl] at h
                    exact h)
                  generalize proofT M k = pf at *
                  have HXY := Lib.hid hxy; have HSH := Lib.hid hsh; have HXL := Lib.hid hxl; have HYL := Lib.hid hyl; have HYD := Lib.hid (shaF_len y)
                  clear hcl hxy hsh hxl hyl hpl
                  go_wp2_with fail
                  refine wp_region_inv 113 (VdR (.slice A4 n c4) (.slice A5 m c5) k pf x y) (Below w9.heap.size w9) (fun _ W1 W2 => Below W1.heap.size W1 W2) (by kernel_rfl) (by rfl) (by kernel_rfl) (fun i j v W W' _ _ _ hT hR => VdR.keep j hT hR) (fun _ _ _ e h => h.trans (e.mono h.size)) (Below.drew (Below.refl _ _)) (fun j ho1 ho vs W hI hdep => ?_) (fun vs W hI hR => ?_)
                  · rcases j with _ | j
                    · simp only [List.getElem?_toArray, List.getElem?_cons_zero, Option.some.injEq] at ho
                      subst ho
                      refine .inl ⟨rfl, fun K Q hK => ?_⟩
                      simp only [putFrom, Act.put, List.setIfInBounds_toArray, List.set_cons_succ, List.set_cons_zero, Nat.reduceAdd] at hK ⊢
                      have HOUT := Lib.hid hK
                      clear hK hdep
                      go_simp
                      refine HOUT.out _ _ _ rfl ⟨Below.refl _ _, ?_⟩
                      exact rfl
                    rcases j with _ | j
                    · simp only [List.getElem?_toArray, List.getElem?_cons_succ, List.getElem?_cons_zero, Option.some.injEq, Nat.zero_add] at ho
                      subst ho
                      have hrw := HD9.out.below hI HD9.out.lt
                      refine .inl ⟨rfl, fun K Q hK => ?_⟩
                      simp only [putFrom, Act.put, List.setIfInBounds_toArray, List.set_cons_succ, List.set_cons_zero, Nat.reduceAdd] at hK ⊢
                      have HOUT := Lib.hid hK
                      clear hK hdep
                      refine wp_load_mid 24 _ rfl wr.heap.size 0 rfl (bys k) _ hrw.rngT Tryd.underlying24 rfl HKI.out ?_
                      simp only [Act.put, List.setIfInBounds_toArray, List.set_cons_succ, List.set_cons_zero]
                      refine HOUT.out _ _ _ rfl ⟨Below.refl _ _, ?_⟩
                      exact rfl
                    rcases j with _ | j
                    · simp only [List.getElem?_toArray, List.getElem?_cons_succ, List.getElem?_cons_zero, Option.some.injEq, Nat.zero_add] at ho
                      subst ho
                      refine .inl ⟨rfl, fun K Q hK => ?_⟩
                      simp only [putFrom, Act.put, List.setIfInBounds_toArray, List.set_cons_succ, List.set_cons_zero, Nat.reduceAdd] at hK ⊢
                      have HOUT := Lib.hid hK
                      clear hK hdep
                      go_simp
                      refine HOUT.out _ _ _ rfl ⟨Below.refl _ _, ?_⟩
                      exact rfl
                    rcases j with _ | j
                    · simp only [List.getElem?_toArray, List.getElem?_cons_succ, List.getElem?_cons_zero, Option.some.injEq, Nat.zero_add] at ho
                      subst ho
                      have hrw := HD9.out.below hI HD9.out.lt
                      refine .inl ⟨rfl, fun K Q hK => ?_⟩
                      simp only [putFrom, Act.put, List.setIfInBounds_toArray, List.set_cons_succ, List.set_cons_zero, Nat.reduceAdd] at hK ⊢
                      have HOUT := Lib.hid hK
                      clear hK hdep
                      refine wp_load_mid 24 _ rfl wr.heap.size 0 rfl (bys k) _ hrw.rngT Tryd.underlying24 rfl HKI.out ?_
                      simp only [Act.put, List.setIfInBounds_toArray, List.set_cons_succ, List.set_cons_zero]
                      refine HOUT.out _ _ _ rfl ⟨Below.refl _ _, ?_⟩
                      exact rfl
                    rcases j with _ | j
                    · simp only [List.getElem?_toArray, List.getElem?_cons_succ, List.getElem?_cons_zero, Option.some.injEq, Nat.zero_add] at ho
                      subst ho
                      have e2 : vs 2 = _ := hdep 2 rfl
                      have e3 : vs 3 = _ := hdep 3 rfl
                      refine .inl ⟨rfl, fun K Q hK => ?_⟩
                      simp only [putFrom, Act.put, List.setIfInBounds_toArray, List.set_cons_succ, List.set_cons_zero, Nat.reduceAdd, e2, e3] at hK ⊢
                      have HOUT := Lib.hid hK
                      clear hK hdep e2 e3
                      go_simp
                      refine (HP.out W hI).mono ?_
                      rintro e w3 ⟨v3, rfl, hs3, hB3⟩
                      go_simp
                      refine HOUT.out _ _ _ rfl ⟨hB3, ?_⟩
                      exact hs3.slot
                    rcases j with _ | j
                    · simp only [List.getElem?_toArray, List.getElem?_cons_succ, List.getElem?_cons_zero, Option.some.injEq, Nat.zero_add] at ho
                      subst ho
                      have e0 : vs 0 = _ := hdep 0 rfl
                      have e1 : vs 1 = _ := hdep 1 rfl
                      obtain ⟨A4, c4, e4, a4, b4, s4⟩ := hdep 4 rfl
                      have hv := Lib.hid (HV.out W hI A4 c4 ⟨A4, c4, rfl, a4, b4, s4⟩)
                      refine .inl ⟨rfl, fun K Q hK => ?_⟩
                      simp only [putFrom, Act.put, List.setIfInBounds_toArray, List.set_cons_succ, List.set_cons_zero, Nat.reduceAdd, e0, e1, e4] at hK ⊢
                      have HOUT := Lib.hid hK
                      clear hK hdep e0 e1 e4
                      go_simp
                      refine hv.out.mono ?_
                      rintro e w3 ⟨hB3, A3, c3, B3, d3, rfl, hs3, hs4⟩
                      go_simp
                      refine HOUT.out _ _ _ rfl ⟨hB3, ?_⟩
                      exact ⟨A3, c3, B3, d3, rfl, hs3, hs4⟩
                    rcases j with _ | j
                    · simp only [List.getElem?_toArray, List.getElem?_cons_succ, List.getElem?_cons_zero, Option.some.injEq, Nat.zero_add] at ho
                      subst ho
                      obtain ⟨A5, c5, B5, d5, e5, s5, r5⟩ := hdep 5 rfl
                      refine .inl ⟨rfl, fun K Q hK => ?_⟩
                      simp only [putFrom, Act.put, List.setIfInBounds_toArray, List.set_cons_succ, List.set_cons_zero, Nat.reduceAdd, e5] at hK ⊢
                      have HOUT := Lib.hid hK
                      clear hK hdep e5
                      go_simp
                      refine HOUT.out _ _ _ rfl ⟨Below.refl _ _, ?_⟩
                      exact ⟨A5, c5, B5, d5, rfl, s5, r5⟩
                    rcases j with _ | j
                    · simp only [List.getElem?_toArray, List.getElem?_cons_succ, List.getElem?_cons_zero, Option.some.injEq, Nat.zero_add] at ho
                      subst ho
                      obtain ⟨A6, c6, B6, d6, e6, s6, r6⟩ := hdep 6 rfl
                      refine .inl ⟨rfl, fun K Q hK => ?_⟩
                      simp only [putFrom, Act.put, List.setIfInBounds_toArray, List.set_cons_succ, List.set_cons_zero, Nat.reduceAdd, e6] at hK ⊢
                      have HOUT := Lib.hid hK
                      clear hK hdep e6
                      go_simp
                      refine HOUT.out _ _ _ rfl ⟨Below.refl _ _, ?_⟩
                      exact s6
                    rcases j with _ | j
                    · simp only [List.getElem?_toArray, List.getElem?_cons_succ, List.getElem?_cons_zero, Option.some.injEq, Nat.zero_add] at ho
                      subst ho
                      obtain ⟨A6, c6, B6, d6, e6, s6, r6⟩ := hdep 6 rfl
                      refine .inl ⟨rfl, fun K Q hK => ?_⟩
                      simp only [putFrom, Act.put, List.setIfInBounds_toArray, List.set_cons_succ, List.set_cons_zero, Nat.reduceAdd, e6] at hK ⊢
                      have HOUT := Lib.hid hK
                      clear hK hdep e6
                      go_simp
                      refine HOUT.out _ _ _ rfl ⟨Below.refl _ _, ?_⟩
                      exact r6
                    rcases j with _ | j
                    · simp only [List.getElem?_toArray, List.getElem?_cons_succ, List.getElem?_cons_zero, Option.some.injEq, Nat.zero_add] at ho
                      subst ho
                      obtain ⟨A6, c6, B6, d6, e6, s6, r6⟩ := hdep 6 rfl
                      refine .inl ⟨rfl, fun K Q hK => ?_⟩
                      simp only [putFrom, Act.put, List.setIfInBounds_toArray, List.set_cons_succ, List.set_cons_zero, Nat.reduceAdd, e6] at hK ⊢
                      have HOUT := Lib.hid hK
                      clear hK hdep e6
                      go_simp
                      refine HOUT.out _ _ _ rfl ⟨Below.refl _ _, ?_⟩
                      exact rfl
                    rcases j with _ | j
                    · simp only [List.getElem?_toArray, List.getElem?_cons_succ, List.getElem?_cons_zero, Option.some.injEq, Nat.zero_add] at ho
                      subst ho
                      obtain ⟨A7, c7, e7, a7, b7, s7⟩ := hdep 7 rfl
                      refine .inl ⟨rfl, fun K Q hK => ?_⟩
                      simp only [putFrom, Act.put, List.setIfInBounds_toArray, List.set_cons_succ, List.set_cons_zero, Nat.reduceAdd, e7] at hK ⊢
                      have HOUT := Lib.hid hK
                      clear hK hdep e7
                      go_simp
                      refine HOUT.out _ _ _ rfl ⟨Below.refl _ _, ?_⟩
                      exact ⟨A7, c7, rfl, a7, b7, s7⟩
                    rcases j with _ | j
                    · simp only [List.getElem?_toArray, List.getElem?_cons_succ, List.getElem?_cons_zero, Option.some.injEq, Nat.zero_add] at ho
                      subst ho
                      obtain ⟨A8, c8, e8, a8, b8, s8⟩ := hdep 8 rfl
                      refine .inl ⟨rfl, fun K Q hK => ?_⟩
                      simp only [putFrom, Act.put, List.setIfInBounds_toArray, List.set_cons_succ, List.set_cons_zero, Nat.reduceAdd, e8] at hK ⊢
                      have HOUT := Lib.hid hK
                      clear hK hdep e8
                      go_simp
                      refine HOUT.out _ _ _ rfl ⟨Below.refl _ _, ?_⟩
                      exact ⟨A8, c8, rfl, a8, b8, s8⟩
                    rcases j with _ | j
                    · simp only [List.getElem?_toArray, List.getElem?_cons_succ, List.getElem?_cons_zero, Option.some.injEq, Nat.zero_add] at ho
                      subst ho
                      have e9 : vs 9 = _ := hdep 9 rfl
                      refine .inl ⟨rfl, fun K Q hK => ?_⟩
                      simp only [putFrom, Act.put, List.setIfInBounds_toArray, List.set_cons_succ, List.set_cons_zero, Nat.reduceAdd, e9] at hK ⊢
                      have HOUT := Lib.hid hK
                      clear hK hdep e9
                      go_simp
                      refine HOUT.out _ _ _ rfl ⟨Below.refl _ _, ?_⟩
                      exact rfl
                    exact absurd ho (by simp)
                  · obtain ⟨Ax, c1, e10, hx1, hx2, hx3⟩ := (show Slot W W.heap.size (vs 10) x from hR 10 (by decide))
                    obtain ⟨Ay, c2, e11, hy1, hy2, hy3⟩ := (show Slot W W.heap.size (vs 11) y from hR 11 (by decide))
                    have e12 : vs 12 = .bool true := hR 12 (by decide)
                    have HIx := Lib.hid (HIW.out W hI)
                    have hca := conv_sees c1 hx3
                    have hcb := conv_sees c2 hy3
                    have hne : ((strB x).toList == (strB y).toList) = false := by rw [strB_beq]; simpa using HXY.out
                    have hsa := Lib.hid (rsum_any W.heap.size Ax c1 x W hx3 (Nat.le_refl _) (by have := HXL.out; omega))
                    have HY := Lib.hid hy3
                    clear hR hI hx1 hx2 hx3 hy1 hy2 hy3
                    simp only [putFrom, Act.put, List.setIfInBounds_toArray, List.set_cons_succ, List.set_cons_zero, Nat.reduceAdd, e10, e11, e12]
                    clear e10 e11 e12
                    generalize vs 0 = q0 at *; generalize vs 1 = q1 at *; generalize vs 2 = q2 at *; generalize vs 3 = q3 at *; generalize vs 4 = q4 at *; generalize vs 5 = q5 at *; generalize vs 6 = q6 at *; generalize vs 7 = q7 at *; generalize vs 8 = q8 at *; generalize vs 9 = q9 at *
                    go_wp2_with fail
                    refine hsa.out.mono ?_
                    rintro e w8x ⟨rfl, hB8⟩
                    have HI8x := Lib.hid (HIx.out.trans (hB8.mono (by have := HIx.out.size; have := HG0.out; omega)))
                    have hsb := Lib.hid (rsum_any W.heap.size Ay c2 y w8x (HY.out.below hB8) hB8.size (by have := HYL.out; omega))
                    have heq := fun W => eql_b32 W (shaF y) HYD.out
                    rw [HSH.out]
                    clear hB8 hsa hca hcb HIx
                    generalize shaF y = dy at *
                    go_wp2_with fail
                    refine hsb.out.mono ?_
                    rintro e w9x ⟨rfl, hB9⟩
                    have HFIN := Lib.hid (HB5.out.trans ((HI8x.out.trans (hB9.mono (by have := HI8x.out.size; have := HG0.out; omega))).mono HW0.out))
                    clear hB9 hsb HI8x
                    go_wp2
                    go_ret
                    exact ⟨rfl, HFIN.out⟩

                · have hstr : ((strB ga).toList == (strB gb).toList) = false := by rw [strB_beq]; simpa using hab
                  clear hopt hab
                  obtain ⟨x, y, hcl, hxy, hsh, hxl, hyl⟩ := binds_clash L M k HML.out HMX.out HE.out.keys HE'.out.keys HKYk.out HE.out.short HE'.out.short (by rw [HRAE.out, HRME.out]; exact HRR.out) HNE.out
                  have hpl := proofT_len M k HMX.out HE'.out.keys HKYk.out (fun e he => by have := HE'.out.short e he; omega)
                  have hG9 : G0 ≤ w9.heap.size := by have := HI9.out.size; have := HG0.out; omega
                  have HIW : Hid (∀ W, Below w9.heap.size w9 W → Below G0 w5 W) := Lib.hid (fun W hW => HI9.out.trans (hW.mono hG9))
                  have HP : Hid (∀ W, Below w9.heap.size w9 W → Calls Tryd.prog 15 #[.slice A5 m c5, .agg (bys k).toArray] W (WroteF W (proofT M k))) := Lib.hid (fun W hW => HPM.out HMX.out W (HIW.out W hW) k HKYk.out)
                  have HV : Hid (∀ W, Below w9.heap.size w9 W → ∀ A c, Slot W W.heap.size (.slice A (proofT M k).length c) (proofT M k) → Calls Tryd.prog 21 #[.slice A4 n c4, .agg (bys k).toArray, .slice A (proofT M k).length c] W fun e w' => Below W.heap.size W w' ∧ ∃ A c A' c', e = .returned (.tuple #[.slice A x.length c, .slice A' y.length c', .bool true]) ∧ Slot w' w'.heap.size (.slice A x.length c) x ∧ Slot w' w'.heap.size (.slice A' y.length c') y) := Lib.hid (fun W hW A c hs => by
                    obtain ⟨Aq, cq, eq, q1, q2, q3⟩ := hs
                    obtain ⟨rfl, -, rfl⟩ := Value.slice.inj eq
                    have h := HCL.out W (HIW.out W hW) k HKYk.out A c (proofT M k) q3 q1 q2 hpl
                    rw [hcl] at h
                    exact h)
                  generalize proofT M k = pf at *
                  have HXY := Lib.hid hxy; have HSH := Lib.hid hsh; have HXL := Lib.hid hxl; have HYL := Lib.hid hyl; have HYD := Lib.hid (shaF_len y)
                  clear hcl hxy hsh hxl hyl hpl
                  go_wp2_with fail
                  refine wp_region_inv 113 (VdR (.slice A4 n c4) (.slice A5 m c5) k pf x y) (Below w9.heap.size w9) (fun _ W1 W2 => Below W1.heap.size W1 W2) (by kernel_rfl) (by rfl) (by kernel_rfl) (fun i j v W W' _ _ _ hT hR => VdR.keep j hT hR) (fun _ _ _ e h => h.trans (e.mono h.size)) (Below.drew (Below.refl _ _)) (fun j ho1 ho vs W hI hdep => ?_) (fun vs W hI hR => ?_)
                  · rcases j with _ | j
                    · simp only [List.getElem?_toArray, List.getElem?_cons_zero, Option.some.injEq] at ho
                      subst ho
                      refine .inl ⟨rfl, fun K Q hK => ?_⟩
                      simp only [putFrom, Act.put, List.setIfInBounds_toArray, List.set_cons_succ, List.set_cons_zero, Nat.reduceAdd] at hK ⊢
                      have HOUT := Lib.hid hK
                      clear hK hdep
                      go_simp
                      refine HOUT.out _ _ _ rfl ⟨Below.refl _ _, ?_⟩
                      exact rfl
                    rcases j with _ | j
                    · simp only [List.getElem?_toArray, List.getElem?_cons_succ, List.getElem?_cons_zero, Option.some.injEq, Nat.zero_add] at ho
                      subst ho
                      have hrw := HD9.out.below hI HD9.out.lt
                      refine .inl ⟨rfl, fun K Q hK => ?_⟩
                      simp only [putFrom, Act.put, List.setIfInBounds_toArray, List.set_cons_succ, List.set_cons_zero, Nat.reduceAdd] at hK ⊢
                      have HOUT := Lib.hid hK
                      clear hK hdep
                      refine wp_load_mid 24 _ rfl wr.heap.size 0 rfl (bys k) _ hrw.rngT Tryd.underlying24 rfl HKI.out ?_
                      simp only [Act.put, List.setIfInBounds_toArray, List.set_cons_succ, List.set_cons_zero]
                      refine HOUT.out _ _ _ rfl ⟨Below.refl _ _, ?_⟩
                      exact rfl
                    rcases j with _ | j
                    · simp only [List.getElem?_toArray, List.getElem?_cons_succ, List.getElem?_cons_zero, Option.some.injEq, Nat.zero_add] at ho
                      subst ho
                      refine .inl ⟨rfl, fun K Q hK => ?_⟩
                      simp only [putFrom, Act.put, List.setIfInBounds_toArray, List.set_cons_succ, List.set_cons_zero, Nat.reduceAdd] at hK ⊢
                      have HOUT := Lib.hid hK
                      clear hK hdep
                      go_simp
                      refine HOUT.out _ _ _ rfl ⟨Below.refl _ _, ?_⟩
                      exact rfl
                    rcases j with _ | j
                    · simp only [List.getElem?_toArray, List.getElem?_cons_succ, List.getElem?_cons_zero, Option.some.injEq, Nat.zero_add] at ho
                      subst ho
                      have hrw := HD9.out.below hI HD9.out.lt
                      refine .inl ⟨rfl, fun K Q hK => ?_⟩
                      simp only [putFrom, Act.put, List.setIfInBounds_toArray, List.set_cons_succ, List.set_cons_zero, Nat.reduceAdd] at hK ⊢
                      have HOUT := Lib.hid hK
                      clear hK hdep
                      refine wp_load_mid 24 _ rfl wr.heap.size 0 rfl (bys k) _ hrw.rngT Tryd.underlying24 rfl HKI.out ?_
                      simp only [Act.put, List.setIfInBounds_toArray, List.set_cons_succ, List.set_cons_zero]
                      refine HOUT.out _ _ _ rfl ⟨Below.refl _ _, ?_⟩
                      exact rfl
                    rcases j with _ | j
                    · simp only [List.getElem?_toArray, List.getElem?_cons_succ, List.getElem?_cons_zero, Option.some.injEq, Nat.zero_add] at ho
                      subst ho
                      have e2 : vs 2 = _ := hdep 2 rfl
                      have e3 : vs 3 = _ := hdep 3 rfl
                      refine .inl ⟨rfl, fun K Q hK => ?_⟩
                      simp only [putFrom, Act.put, List.setIfInBounds_toArray, List.set_cons_succ, List.set_cons_zero, Nat.reduceAdd, e2, e3] at hK ⊢
                      have HOUT := Lib.hid hK
                      clear hK hdep e2 e3
                      go_simp
                      refine (HP.out W hI).mono ?_
                      rintro e w3 ⟨v3, rfl, hs3, hB3⟩
                      go_simp
                      refine HOUT.out _ _ _ rfl ⟨hB3, ?_⟩
                      exact hs3.slot
                    rcases j with _ | j
                    · simp only [List.getElem?_toArray, List.getElem?_cons_succ, List.getElem?_cons_zero, Option.some.injEq, Nat.zero_add] at ho
                      subst ho
                      have e0 : vs 0 = _ := hdep 0 rfl
                      have e1 : vs 1 = _ := hdep 1 rfl
                      obtain ⟨A4, c4, e4, a4, b4, s4⟩ := hdep 4 rfl
                      have hv := Lib.hid (HV.out W hI A4 c4 ⟨A4, c4, rfl, a4, b4, s4⟩)
                      refine .inl ⟨rfl, fun K Q hK => ?_⟩
                      simp only [putFrom, Act.put, List.setIfInBounds_toArray, List.set_cons_succ, List.set_cons_zero, Nat.reduceAdd, e0, e1, e4] at hK ⊢
                      have HOUT := Lib.hid hK
                      clear hK hdep e0 e1 e4
                      go_simp
                      refine hv.out.mono ?_
                      rintro e w3 ⟨hB3, A3, c3, B3, d3, rfl, hs3, hs4⟩
                      go_simp
                      refine HOUT.out _ _ _ rfl ⟨hB3, ?_⟩
                      exact ⟨A3, c3, B3, d3, rfl, hs3, hs4⟩
                    rcases j with _ | j
                    · simp only [List.getElem?_toArray, List.getElem?_cons_succ, List.getElem?_cons_zero, Option.some.injEq, Nat.zero_add] at ho
                      subst ho
                      obtain ⟨A5, c5, B5, d5, e5, s5, r5⟩ := hdep 5 rfl
                      refine .inl ⟨rfl, fun K Q hK => ?_⟩
                      simp only [putFrom, Act.put, List.setIfInBounds_toArray, List.set_cons_succ, List.set_cons_zero, Nat.reduceAdd, e5] at hK ⊢
                      have HOUT := Lib.hid hK
                      clear hK hdep e5
                      go_simp
                      refine HOUT.out _ _ _ rfl ⟨Below.refl _ _, ?_⟩
                      exact ⟨A5, c5, B5, d5, rfl, s5, r5⟩
                    rcases j with _ | j
                    · simp only [List.getElem?_toArray, List.getElem?_cons_succ, List.getElem?_cons_zero, Option.some.injEq, Nat.zero_add] at ho
                      subst ho
                      obtain ⟨A6, c6, B6, d6, e6, s6, r6⟩ := hdep 6 rfl
                      refine .inl ⟨rfl, fun K Q hK => ?_⟩
                      simp only [putFrom, Act.put, List.setIfInBounds_toArray, List.set_cons_succ, List.set_cons_zero, Nat.reduceAdd, e6] at hK ⊢
                      have HOUT := Lib.hid hK
                      clear hK hdep e6
                      go_simp
                      refine HOUT.out _ _ _ rfl ⟨Below.refl _ _, ?_⟩
                      exact s6
                    rcases j with _ | j
                    · simp only [List.getElem?_toArray, List.getElem?_cons_succ, List.getElem?_cons_zero, Option.some.injEq, Nat.zero_add] at ho
                      subst ho
                      obtain ⟨A6, c6, B6, d6, e6, s6, r6⟩ := hdep 6 rfl
                      refine .inl ⟨rfl, fun K Q hK => ?_⟩
                      simp only [putFrom, Act.put, List.setIfInBounds_toArray, List.set_cons_succ, List.set_cons_zero, Nat.reduceAdd, e6] at hK ⊢
                      have HOUT := Lib.hid hK
                      clear hK hdep e6
                      go_simp
                      refine HOUT.out _ _ _ rfl ⟨Below.refl _ _, ?_⟩
                      exact r6
                    rcases j with _ | j
                    · simp only [List.getElem?_toArray, List.getElem?_cons_succ, List.getElem?_cons_zero, Option.some.injEq, Nat.zero_add] at ho
                      subst ho
                      obtain ⟨A6, c6, B6, d6, e6, s6, r6⟩ := hdep 6 rfl
                      refine .inl ⟨rfl, fun K Q hK => ?_⟩
                      simp only [putFrom, Act.put, List.setIfInBounds_toArray, List.set_cons_succ, List.set_cons_zero, Nat.reduceAdd, e6] at hK ⊢
                      have HOUT := Lib.hid hK
                      clear hK hdep e6
                      go_simp
                      refine HOUT.out _ _ _ rfl ⟨Below.refl _ _, ?_⟩
                      exact rfl
                    rcases j with _ | j
                    · simp only [List.getElem?_toArray, List.getElem?_cons_succ, List.getElem?_cons_zero, Option.some.injEq, Nat.zero_add] at ho
                      subst ho
                      obtain ⟨A7, c7, e7, a7, b7, s7⟩ := hdep 7 rfl
                      refine .inl ⟨rfl, fun K Q hK => ?_⟩
                      simp only [putFrom, Act.put, List.setIfInBounds_toArray, List.set_cons_succ, List.set_cons_zero, Nat.reduceAdd, e7] at hK ⊢
                      have HOUT := Lib.hid hK
                      clear hK hdep e7
                      go_simp
                      refine HOUT.out _ _ _ rfl ⟨Below.refl _ _, ?_⟩
                      exact ⟨A7, c7, rfl, a7, b7, s7⟩
                    rcases j with _ | j
                    · simp only [List.getElem?_toArray, List.getElem?_cons_succ, List.getElem?_cons_zero, Option.some.injEq, Nat.zero_add] at ho
                      subst ho
                      obtain ⟨A8, c8, e8, a8, b8, s8⟩ := hdep 8 rfl
                      refine .inl ⟨rfl, fun K Q hK => ?_⟩
                      simp only [putFrom, Act.put, List.setIfInBounds_toArray, List.set_cons_succ, List.set_cons_zero, Nat.reduceAdd, e8] at hK ⊢
                      have HOUT := Lib.hid hK
                      clear hK hdep e8
                      go_simp
                      refine HOUT.out _ _ _ rfl ⟨Below.refl _ _, ?_⟩
                      exact ⟨A8, c8, rfl, a8, b8, s8⟩
                    rcases j with _ | j
                    · simp only [List.getElem?_toArray, List.getElem?_cons_succ, List.getElem?_cons_zero, Option.some.injEq, Nat.zero_add] at ho
                      subst ho
                      have e9 : vs 9 = _ := hdep 9 rfl
                      refine .inl ⟨rfl, fun K Q hK => ?_⟩
                      simp only [putFrom, Act.put, List.setIfInBounds_toArray, List.set_cons_succ, List.set_cons_zero, Nat.reduceAdd, e9] at hK ⊢
                      have HOUT := Lib.hid hK
                      clear hK hdep e9
                      go_simp
                      refine HOUT.out _ _ _ rfl ⟨Below.refl _ _, ?_⟩
                      exact rfl
                    exact absurd ho (by simp)
                  · obtain ⟨Ax, c1, e10, hx1, hx2, hx3⟩ := (show Slot W W.heap.size (vs 10) x from hR 10 (by decide))
                    obtain ⟨Ay, c2, e11, hy1, hy2, hy3⟩ := (show Slot W W.heap.size (vs 11) y from hR 11 (by decide))
                    have e12 : vs 12 = .bool true := hR 12 (by decide)
                    have HIx := Lib.hid (HIW.out W hI)
                    have hca := conv_sees c1 hx3
                    have hcb := conv_sees c2 hy3
                    have hne : ((strB x).toList == (strB y).toList) = false := by rw [strB_beq]; simpa using HXY.out
                    have hsa := Lib.hid (rsum_any W.heap.size Ax c1 x W hx3 (Nat.le_refl _) (by have := HXL.out; omega))
                    have HY := Lib.hid hy3
                    clear hR hI hx1 hx2 hx3 hy1 hy2 hy3
                    simp only [putFrom, Act.put, List.setIfInBounds_toArray, List.set_cons_succ, List.set_cons_zero, Nat.reduceAdd, e10, e11, e12]
                    clear e10 e11 e12
                    generalize vs 0 = q0 at *; generalize vs 1 = q1 at *; generalize vs 2 = q2 at *; generalize vs 3 = q3 at *; generalize vs 4 = q4 at *; generalize vs 5 = q5 at *; generalize vs 6 = q6 at *; generalize vs 7 = q7 at *; generalize vs 8 = q8 at *; generalize vs 9 = q9 at *
                    go_wp2_with fail
                    refine hsa.out.mono ?_
                    rintro e w8x ⟨rfl, hB8⟩
                    have HI8x := Lib.hid (HIx.out.trans (hB8.mono (by have := HIx.out.size; have := HG0.out; omega)))
                    have hsb := Lib.hid (rsum_any W.heap.size Ay c2 y w8x (HY.out.below hB8) hB8.size (by have := HYL.out; omega))
                    have heq := fun W => eql_b32 W (shaF y) HYD.out
                    rw [HSH.out]
                    clear hB8 hsa hca hcb HIx
                    generalize shaF y = dy at *
                    go_wp2_with fail
                    refine hsb.out.mono ?_
                    rintro e w9x ⟨rfl, hB9⟩
                    have HFIN := Lib.hid (HB5.out.trans ((HI8x.out.trans (hB9.mono (by have := HI8x.out.size; have := HG0.out; omega))).mono HW0.out))
                    clear hB9 hsb HI8x
                    go_wp2
                    go_ret
                    exact ⟨rfl, HFIN.out⟩
          · have hge' : (n : Int) + (m : Int) ≤ (i : Int) := by omega
            have HFIN := Lib.hid (HB5.out.trans (HBr.out.mono HW0.out))
            go_wp2
            go_ret
            exact ⟨rfl, HFIN.out⟩
      · have hnq := fun W => neq_d W (rootT L) (rootT M) HRL.out HRM.out
        have hrb : (rootT L == rootT M) = false := by simpa using hrr
        have HFIN := Lib.hid (HB5.out.trans (HI7.out.mono HW0.out))
        clear hrr
        generalize rootT L = ra at *
        generalize rootT M = rm at *
        go_wp2
        go_ret
        exact ⟨rfl, HFIN.out⟩
    · rw [decide_eq_false hmM]
      go_wp2
      go_ret
      exact ⟨rfl, HB5.out⟩
  · rw [decide_eq_false hm]
    go_wp2
    go_ret
    exact ⟨rfl, HB5.out⟩
end Go.Proofs.YtapbaonlboefeaaDoor
namespace Go.Proofs.YtapbaonlboefeaaDoor
open Go.RowKit Go.ChangeShapes Go.WideShapes Go.ChangeAt Go.Deep

theorem own : ownKnob Tryd.prog.godebug = none := by kernel_rfl
theorem laidOut : laidOutB Tryd.prog = true := by kernel_rfl
set_option maxRecDepth 100000 in
theorem row_contract (haw : Awakes) (H : Type) (enc : TypeId × Value → H) (W : World) (base : Nat) (args : Array Value) (ds gs : List (DataW H)) (before : List MemPlace)
    (hval : ∀ (j : Nat) t v, Tryd.f8.params[j]? = some t → args[j]? = some v → Value.okWide Tryd.prog W .any base t v)
    (hW : DataW.Whole enc Tryd.prog Tryd.f8.params.toList Rows.trieBindsSpec.vars false W args.toList ds gs before) (hbk : Rows.uptoSmall H (ds ++ gs) = true) (hL : laidMetH Tryd.prog Rows.trieBindsUptoRow.laid W) :
    Calls Tryd.prog 8 args W fun e W' => ∃ v, e = .returned v ∧ Rows.trieBindsSpec.post enc Tryd.prog Tryd.f8 false true false false W args v W' := by
  have hk : Consts W := consts_of (laid := Rows.trieBindsUptoRow.laid) hL (by kernel_rfl) (by kernel_rfl)
  have hW' := hW
  obtain ⟨p, q, hA0, hV, rfl, hfz, hnd⟩ := hW
  have hA : DataW.TrodAll enc Tryd.prog W 0 (fun _ => true) true Tryd.f8.params.toList args.toList ds p := hA0
  rw [Tryd.params8] at hA hval
  obtain ⟨v0, v1, d0, d1, p0, p1, rfl, rfl, rfl, h0, h1⟩ := trodAll_two hA
  obtain ⟨rfl, rfl⟩ := trodVars_none hV
  have hbk2 : Rows.uptoBulkAll [d0, d1] ≤ 1048576 := of_decide_eq_true hbk
  have hlt : ∀ x ∈ p0 ++ p1, x.block < W.heap.size := fun x hx => hW'.lt x (by simpa using hx)
  have hs0 := okWide_slice Tryd.underlying22 (hval 0 22 v0 rfl rfl)
  obtain ⟨A0, c0, L0, rfl, hl0⟩ := openEnts hs0 h0 (by have := bulk_in (l := [d0, d1]) (d := d0) (by simp); omega)
  have hs1 := okWide_slice Tryd.underlying22 (hval 1 22 v1 rfl rfl)
  obtain ⟨A1, c1, L1, rfl, hl1⟩ := openEnts hs1 h1 (by have := bulk_in (l := [d0, d1]) (d := d1) (by simp); omega)
  refine (binds_law haw W hk W.heap.size c0 (Nat.le_refl _) A0 L0 hl0 W.heap.size c1 (Nat.le_refl _) A1 L1 hl1).mono fun e W' ⟨he, hb⟩ => ?_
  subst he
  have hout : DataW.TrodAll enc Tryd.prog W' 0 (fun b => decide (b < W.heap.size)) true [22, 22] [.slice A0 L0.length c0, .slice A1 L1.length c1] [d0, d1] (p0 ++ p1) := by
    have h := trodAll_mk2 (Below.trod laidOut (by kernel_rfl) (of_decide_eq_true (by kernel_rfl)) h0 hb (fun x hx => by first | (cases hx; done) | exact hlt x (by simp [hx]))) (Below.trod laidOut (by kernel_rfl) (of_decide_eq_true (by kernel_rfl)) h1 hb (fun x hx => by first | (cases hx; done) | exact hlt x (by simp [hx])))
    simpa only [List.append_assoc, List.nil_append] using h
  exact ⟨_, rfl, _, _, _, [], _, [], hW', trodAll_mk1 (shut_bool Tryd.underlying4 _), hout, rfl, hb.frame _, fun h => by cases h⟩

theorem laid_met (os : Os) : laidMet Tryd.prog Rows.trieBindsUptoRow.laid (((World.doorLaid Tryd.prog 3000 os)).forCall (fun _ _ => 0) ⟨#[], #[.slice none 0 0, .slice none 0 0], []⟩).memory :=
  laidMet_of_run' 8 (by kernel_rfl) (by kernel_rfl)
theorem reads (os : Os) {H : Type} (enc : TypeId × Value → H) : ∃ places, DataW.whole enc Tryd.prog ((World.doorLaid Tryd.prog 3000 os).forCall (fun _ _ => 0) ⟨#[], #[.slice none 0 0, .slice none 0 0], []⟩).memory Tryd.f8.params.toList Rows.trieBindsSpec.vars false #[Value.slice none 0 0, Value.slice none 0 0].toList 8 = some ([.nil, .nil], [], places) :=
  ⟨[], by kernel_rfl⟩
set_option maxRecDepth 100000 in
theorem row_lifted (haw : Awakes) (os : Os) (started : os.Started) (H : Type) (enc : TypeId × Value → H) (F : Stop.Interp) :
    ReturnsInHanded {} Tryd.checked os 8 .any ((Rows.OpenSpec.upto Rows.trieBindsSpec).preRow enc Tryd.prog Tryd.f8 Rows.trieBindsUptoRow.domain false Rows.trieBindsUptoRow.laid) (((Rows.OpenSpec.upto Rows.trieBindsSpec).at F).post enc Tryd.prog Tryd.f8 false true false false) := by
  obtain ⟨places, hx⟩ := reads os enc
  refine returnsInHanded_of_row (C := Tryd.checked) (s := Rows.OpenSpec.upto Rows.trieBindsSpec) own started (by kernel_rfl) Tryd.func8
    (witness_row_at (enc := enc) (C := Tryd.checked) false (World.doorLaid Tryd.prog 3000 os) #[.slice none 0 0, .slice none 0 0] rfl (by kernel_rfl) (by kernel_rfl) (by kernel_rfl)
      (OpenSpec.preRow_of_cond 8 hx (by kernel_rfl) (fun k hk => by cases hk; kernel_rfl) (by kernel_rfl) (laid_met os))) ?_
  intro W base args ds gs before hval hW _ hcond _ hL _ _
  exact row_contract haw H enc W base args ds gs before hval hW (hcond _ rfl) hL

theorem row_said (haw : Awakes) : Rows.TrieBindsUptoSaid :=
  OpenClaim.holds_of_cond 8 Tryd.f8 rfl rfl rfl rfl rfl rfl rfl ⟨rfl, rfl, rfl, rfl, rfl⟩ rfl rfl rfl rfl rfl (by kernel_rfl) Tryd.func8 (by kernel_rfl)
    (of_decide_eq_true (by kernel_rfl)) (by unfold Func.isWrapper; first | (rw [if_pos (by decide +kernel)]; kernel_rfl) | (rw [if_neg (by decide +kernel)]; exact ⟨rfl, rfl⟩))
    (fun os started H enc _ F => by rw [OpenClaim.pre_eq_preRow]; exact row_lifted haw os started H enc F)
end Go.Proofs.YtapbaonlboefeaaDoor
