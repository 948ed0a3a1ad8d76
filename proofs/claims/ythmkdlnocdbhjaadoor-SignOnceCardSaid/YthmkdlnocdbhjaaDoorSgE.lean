/- wapentakelaw05.SignOnce returns true. -/
import Derived.Test.YthmkdlnocdbhjaaDoorSgB
import Derived.StillTailTactics
namespace Go.Proofs.YthmkdlnocdbhjaaDoor
open Go.RowKit

theorem next_q (w : World) (g : Nat) (f : Foot) (k : Nat) (n : Int) (h : SigW w g f k n) :
    Calls Tryd.prog 30 #[.pointer (some ⟨g, 0, none⟩)] w fun e w' => e = .returned (.int .i64 n) ∧ w' = w := (next_any w g f k n h).mono fun _ _ h => ⟨h.1, h.2.symm⟩
/-- Where SignOnce stands behind i rounds. -/
structure OnceI (W w : World) (f : Foot) (g : Nat) (c : Int) (i n : Nat) (L : List Sg) (U : List (Int × Int)) : Prop where
  law : Law W w f 1 1000 L U
  sig : SigW w g f 0 c
  high : W.heap.size ≤ g
  c0 : 0 ≤ c
  c1 : c ≤ 256 * (i : Int)
  ltL : ∀ s ∈ L, s.1.2 < c
  ltU : ∀ p ∈ U, p.2 < c
  cL : cntL L 0 = n
  cU : cntU U 0 = n
  few : L.length ≤ i
  ni : n ≤ i
section
variable {W w w' : World} {f : Foot} {g : Nat} {c : Int} {i n : Nat} {L : List Sg} {U : List (Int × Int)}
theorem OnceI.yes (h : OnceI W w f g c i n L U) (t : List UInt8) (hl : Law W w' f 1 1000 (L ++ [((0, c), t)]) (U ++ [(0, c)])) (hg : SigW w' g f 0 (c + 1)) : OnceI W w' f g (c + 1) (i + 1) (n + 1) (L ++ [((0, c), t)]) (U ++ [(0, c)]) := by
  have hc0 := h.c0
  have hc1 := h.c1
  refine ⟨hl, hg, h.high, by omega, by push_cast; omega, fun s hs => ?_, fun p hp => ?_, by rw [cntL_snoc, h.cL]; simp, by rw [cntU_snoc, h.cU]; simp, by simp; exact h.few, by have := h.ni; omega⟩
  · rcases List.mem_append.1 hs with h1 | h1
    · have := h.ltL s h1; omega
    · simp at h1; subst h1; simp only; omega
  · rcases List.mem_append.1 hp with h1 | h1
    · have := h.ltU p h1; omega
    · simp at h1; subst h1; simp only; omega
theorem OnceI.no (h : OnceI W w f g c i n L U) (hl : Law W w' f 1 1000 L U) (hg : SigW w' g f 0 c) : OnceI W w' f g c (i + 1) n L U :=
  ⟨hl, hg, h.high, h.c0, by have := h.c1; push_cast; omega, h.ltL, h.ltU, h.cL, h.cU, by have := h.few; omega, by have := h.ni; omega⟩
/-- Another signer, that begins later, by as much as a byte says. -/
theorem OnceI.next (h : OnceI W w f g c (i + 1) n L U) (hc : c ≤ 256 * (i : Int) + 1) {g' : Nat} {d : Int} (hd0 : 0 ≤ d) (hd : d ≤ 255) (hl : Law W w' f 1 1000 L U) (hg : SigW w' g' f 0 (c + d)) (hh : W.heap.size ≤ g') : OnceI W w' f g' (c + d) (i + 1) n L U :=
  ⟨hl, hg, hh, by have := h.c0; omega, by push_cast; omega, fun s hs => by have := h.ltL s hs; omega, fun p hp => by have := h.ltU p hp; omega, h.cL, h.cU, h.few, h.ni⟩
theorem OnceI.notL (h : OnceI W w f g c i n L U) (t : List UInt8) : (((0 : Int), c), t) ∉ L := fun hm => by have := h.ltL _ hm; simp at this
theorem OnceI.notU (h : OnceI W w f g c i n L U) : ((0 : Int), c) ∉ U := fun hm => by have := h.ltU _ hm; simp at this
end
def txv (ts : List (List UInt8)) : List Value := ts.map fun t => .string (strB t)

set_option maxRecDepth 20000 in
set_option maxHeartbeats 6400000 in
theorem once_law (W : World) (hk : Consts W) (A : Option Addr) (ca : Nat) (ts : List (List UInt8)) (hT : Sees W W.heap.size 1 A ts.length (txv ts)) (hTl : ∀ t ∈ ts, t.length ≤ 140737488351232)
    (A' : Option Addr) (cb : Nat) (gs : List UInt8) (hGs : Sees W W.heap.size 1 A' gs.length (bys gs)) :
    Calls Tryd.prog 7 #[.slice A ts.length ca, .slice A' gs.length cb] W (LawR W) := by
  have hz := Tryd.zeroSig
  have hcs := conv_str
  have HK := Lib.hid hk
  have HAW := Lib.hid (awake_any W hk)
  have HTX := Lib.hid hT
  have HTL := Lib.hid hTl
  have HGS := Lib.hid hGs
  clear hk hT hTl hGs
  go_enter Tryd.func7, Tryd.ntmps7
  go_wp2_with fail
  refine HAW.out.mono ?_
  rintro e w1 ⟨rfl, hB1⟩
  have HB1 := Lib.hid hB1
  clear hB1 HAW
  have hnew : Calls Tryd.prog 22 #[.int .i64 1, .int .i64 1000] w1 (NewR w1 1 1000) := new_ok 1 1000 (by omega) (by omega) (by omega) (by omega) w1
  have HNEW := Lib.hid hnew
  clear hnew
  go_wp2_with fail
  refine HNEW.out.mono ?_
  rintro e w2 ⟨f, rfl, hR, hB, h1, h2, h3, h4⟩
  have HLw2 := Lib.hid (Law.made HK.out HB1.out hR hB h2 h3 h4)
  clear hR hB h1 h2 h3 h4 HNEW
  have hsg : Calls Tryd.prog 28 #[.pointer (some ⟨f.r, 0, none⟩), .int .i64 0, .int .i64 0] w2 (NewS w2 f 0 0) := signer_ok w2 HLw2.out.ring 0 (by omega) 0
  have HSG := Lib.hid hsg
  clear hsg
  go_wp2_with fail
  refine HSG.out.mono ?_
  rintro e w3 ⟨g0, rfl, hg, hB, hgh⟩
  have HI3 := Lib.hid (show OnceI W w3 f g0 0 0 0 [] [] from ⟨HLw2.out.later hB, hg, Nat.le_trans HLw2.out.below.size hgh, by omega, by omega, by simp, by simp, rfl, rfl, by simp, by omega⟩)
  clear hg hB hgh HSG HLw2
  go_wp2_with fail
  go_loopw [6, 7, 8] (fun sg sn si wr => ∃ (g n i : Nat) (c : Int) (L : List Sg) (U : List (Int × Int)), sg = .pointer (some ⟨g, 0, none⟩) ∧ sn = .int .i64 (n : Int) ∧ si = .int .i64 (i : Int) ∧ i ≤ 60 ∧ i ≤ ts.length ∧ OnceI W wr f g c i n L U) (fun _ _ si _ => 60 - (intOf si).toNat)
  case atStart => exact ⟨g0, 0, 0, 0, [], [], rfl, rfl, rfl, by omega, by omega, HI3.out⟩
  case round =>
    obtain ⟨g, n, i, c, L, U, rfl, rfl, rfl, hi60, hits, hI⟩ := hrel
    have HI := Lib.hid hI
    clear hI HI3
    have hc0 := HI.out.c0
    have hc1 := HI.out.c1
    have hni := HI.out.ni
    by_cases hrun : i < ts.length ∧ i < 60
    · obtain ⟨hlt, hlt60⟩ := hrun
      have hlt' : (i : Int) < (ts.length : Int) := by omega
      have hlt60' : (i : Int) < 60 := by omega
      obtain ⟨ad, hAd, hadb, hx⟩ := (HTX.out.below HI.out.law.below).some_ (by omega)
      obtain ⟨t, ht⟩ : ∃ t, ts[i]? = some t := ⟨_, List.getElem?_eq_getElem hlt⟩
      have htl : t.length ≤ 140737488351232 := HTL.out t (List.mem_of_getElem? ht)
      have hcell := hx i (.string (strB t)) (by unfold txv; rw [List.getElem?_map, ht]; rfl)
      subst hAd
      have HTL2 := Lib.hid htl
      clear hx ht htl
      have HNX := Lib.hid (next_any wr g f 0 c HI.out.sig)
      go_wp2_with fail
      refine HNX.out.mono ?_
      rintro e w' ⟨rfl, rfl⟩
      clear HNX
      have hTt := txt_str wr t HTL2.out
      have hL2 := HI.out.law.later hTt.below
      have hG2 := HB.below HI.out.sig hTt.below (HB.lt HI.out.sig)
      by_cases hcn : c < 1000
      · have hs : Calls Tryd.prog 29 #[.pointer (some ⟨g, 0, none⟩), .slice (some ⟨wr.heap.size, 0, none⟩) t.length (grownCap wr t.length 0 5)] (Lib.bytesWorld wr 5 (strB t)) (fun e w' => e = .returned (.tuple #[.agg (sigL c (tagF (((0 : Int), c), t))).toArray, .int .i64 0]) ∧ RingW w' f 1 1000 (L ++ [(((0 : Int), c), t)]) (U ++ [((0 : Int), c)]) ∧ SigW w' g f 0 (c + 1) ∧ Turn (fun b => f.mine b ∨ b = g) (Lib.bytesWorld wr 5 (strB t)) w') :=
          ssign_lit _ hL2.ring 0 (by omega) c hc0 g hG2 _ _ t ⟨hTt.sees, Below.refl _ _, hTt.cap, hTt.max⟩ HTL2.out hL2.consts (by have := HI.out.few; omega) hcn (HI.out.notL _) HI.out.notU
        have HS := Lib.hid hs
        have HL2 := Lib.hid hL2
        clear hs hL2 hG2 hTt
        go_wp2_with fail
        refine HS.out.mono ?_
        rintro e w4 ⟨he, hR2, hG2, hT2⟩
        have HLw4 := Lib.hid (HL2.out.postS HI.out.high hR2 hT2)
        have HGw4 := Lib.hid hG2
        clear hR2 hG2 hT2 HS HL2
        obtain ⟨cs1, hcs1⟩ : ∃ cs, cs = sigL c (tagF (((0 : Int), c), t)) := ⟨_, rfl⟩
        rw [← hcs1] at he
        subst he
        have hcl1 : cs1.length = 33 := by rw [hcs1]; exact sigL_len _ _ (tagF_len _)
        have HI1 := cs_info hcl1
        have HZ1 := cs_size hcl1
        have HO1 : Hid (cs1.toArray.all (·.oneCell') = true) := Lib.hid (by rw [hcs1]; exact (sigL_one _ _).out)
        have hnew1 := HB.new w4 45 sigZ
        have hrow1 := row_new w4 cs1
        clear hcl1 hcs1
        go_upto_region 11 with (refine wpList_store_row rfl 45 _ _ rfl w4.heap.size cs1.toArray rfl rfl 45 _ hnew1 HI1.out HZ1.out HO1.out ?_)
        clear hnew1
        generalize (w4.alloc (.cells sigZ.toArray 45)).setRow w4.heap.size cs1.toArray = w5 at *
        have HLw5 := Lib.hid (HLw4.out.later hrow1.2)
        have HGw5 := Lib.hid (HB.below HGw4.out hrow1.2 (HB.lt HGw4.out))
        clear hrow1
        have HNX := Lib.hid (next_any w5 g f 0 (c + 1) HGw5.out)
        go_wp2_with fail
        refine HNX.out.mono ?_
        rintro e w' ⟨rfl, rfl⟩
        clear HNX
        have HJ := Lib.hid (HI.out.yes t HLw5.out HGw5.out)
        have hcc : c + 1 ≤ 256 * (i : Int) + 1 := by omega
        have hcc0 : 0 ≤ c + 1 := by omega
        by_cases hgl : i < gs.length
        · have hgl' : (i : Int) < (gs.length : Int) := by omega
          obtain ⟨ad', hl', hAd', hadb', hcell'⟩ := (HGS.out.below HJ.out.law.below).byte hgl
          subst hAd'
          have hbl := (gs[i]'hl').toNat_lt
          generalize (gs[i]'hl').toNat = d at *
          have hd0 : (0 : Int) ≤ (d : Int) := by omega
          have hd255 : (d : Int) ≤ 255 := by omega
          by_cases hd3 : (d : Int) % 3 = 0
          · have hmod : (d : Int).tmod 3 = 0 := by rw [Int.tmod_eq_emod_of_nonneg hd0]; exact hd3
            go_wp2_with fail
            have hcd : w5.drew.cell? (ad'.add i) = some (.int .u8 (d : Int)) := hcell'
            have hw64 : wrap64 (c + 1 + (d : Int)) = c + 1 + (d : Int) := by unfold wrap64; omega
            have hi64 : IntKind.i64.wrap (c + 1 + (d : Int)) = c + 1 + (d : Int) := IntWalk.i64_in _ (by omega)
            go_still_tail 9, (by kernel_rfl)
            still_call (next_q _ g f 0 (c + 1) HJ.out.sig.drew)
            repeat still_step
            refine wpStill_nil ?_
            change wpList _ _ _ _ _ w5.drew
            have hsg : Calls Tryd.prog 28 #[.pointer (some ⟨f.r, 0, none⟩), .int .i64 0, .int .i64 (c + 1 + (d : Int))] w5.drew (NewS w5.drew f 0 (c + 1 + (d : Int))) := by
              have h := signer_ok w5.drew HJ.out.law.ring.drew 0 (by omega) (c + 1 + (d : Int))
              rw [Int.max_eq_left (by omega)] at h
              exact h
            have HSG := Lib.hid hsg
            clear hsg hcd
            go_wp2_with fail
            refine HSG.out.mono ?_
            rintro e w6 ⟨g', rfl, hg', hB6, hgh'⟩
            have HQ := Lib.hid (HJ.out.next hcc hd0 hd255 (HJ.out.law.later ((Below.drew (Below.refl _ _)).trans hB6)) hg' (Nat.le_trans HJ.out.law.below.size hgh'))
            clear hg' hB6 hgh' HSG
            go_wp2
            go_roundw
            case rel => exact ⟨g', n + 1, i + 1, c + 1 + (d : Int), _, _, rfl, by go_num, by go_num, by omega, by omega, HQ.out⟩
            case measure => simp [intOf]; omega
          · have hmod : ((d : Int).tmod 3 == 0) = false := by rw [Int.tmod_eq_emod_of_nonneg hd0]; simpa using hd3
            have hmod2 : decide ((d : Int).tmod 3 = 0) = false := by rw [Int.tmod_eq_emod_of_nonneg hd0]; simpa using hd3
            have hmod3 : ((d : Int) % 3 == 0) = false := by simpa using hd3
            go_wp2
            go_roundw
            case rel => exact ⟨g, n + 1, i + 1, c + 1, _, _, rfl, by go_num, by go_num, by omega, by omega, HJ.out⟩
            case measure => simp [intOf]; omega
        · have hgl' : decide ((i : Int) < (gs.length : Int)) = false := by simp; omega
          have hgl2 : decide (i < gs.length) = false := by simp; omega
          go_wp2
          go_roundw
          case rel => exact ⟨g, n + 1, i + 1, c + 1, _, _, rfl, by go_num, by go_num, by omega, by omega, HJ.out⟩
          case measure => simp [intOf]; omega
      · have hs : Calls Tryd.prog 29 #[.pointer (some ⟨g, 0, none⟩), .slice (some ⟨wr.heap.size, 0, none⟩) t.length (grownCap wr t.length 0 5)] (Lib.bytesWorld wr 5 (strB t)) (fun e w' => e = .returned (.tuple #[.agg (sigZ).toArray, .int .i64 17]) ∧ RingW w' f 1 1000 L U ∧ SigW w' g f 0 (c) ∧ Turn (fun b => f.mine b ∨ b = g) (Lib.bytesWorld wr 5 (strB t)) w') :=
          ssign_bad _ hL2.ring 0 (by omega) c hc0 g hG2 _ _ t ⟨hTt.sees, Below.refl _ _, hTt.cap, hTt.max⟩ HTL2.out hL2.consts (by have := HI.out.few; omega) (by omega)
        have HS := Lib.hid hs
        have HL2 := Lib.hid hL2
        clear hs hL2 hG2 hTt
        go_wp2_with fail
        refine HS.out.mono ?_
        rintro e w4 ⟨he, hR2, hG2, hT2⟩
        have HLw4 := Lib.hid (HL2.out.postS HI.out.high hR2 hT2)
        have HGw4 := Lib.hid hG2
        clear hR2 hG2 hT2 HS HL2
        obtain ⟨cs1, hcs1⟩ : ∃ cs, cs = sigZ := ⟨_, rfl⟩
        rw [← hcs1] at he
        subst he
        have hcl1 : cs1.length = 33 := by rw [hcs1]; exact sigZ_len
        have HI1 := cs_info hcl1
        have HZ1 := cs_size hcl1
        have HO1 : Hid (cs1.toArray.all (·.oneCell') = true) := Lib.hid (by rw [hcs1]; exact (sigL_one _ _).out)
        have hnew1 := HB.new w4 45 sigZ
        have hrow1 := row_new w4 cs1
        clear hcl1 hcs1
        go_upto_region 11 with (refine wpList_store_row rfl 45 _ _ rfl w4.heap.size cs1.toArray rfl rfl 45 _ hnew1 HI1.out HZ1.out HO1.out ?_)
        clear hnew1
        generalize (w4.alloc (.cells sigZ.toArray 45)).setRow w4.heap.size cs1.toArray = w5 at *
        have HLw5 := Lib.hid (HLw4.out.later hrow1.2)
        have HGw5 := Lib.hid (HB.below HGw4.out hrow1.2 (HB.lt HGw4.out))
        clear hrow1
        have HNX := Lib.hid (next_any w5 g f 0 (c) HGw5.out)
        go_wp2_with fail
        refine HNX.out.mono ?_
        rintro e w' ⟨rfl, rfl⟩
        clear HNX
        have HJ := Lib.hid (HI.out.no HLw5.out HGw5.out)
        have hcc : c ≤ 256 * (i : Int) + 1 := by omega
        have hcc0 : 0 ≤ c := by omega
        by_cases hgl : i < gs.length
        · have hgl' : (i : Int) < (gs.length : Int) := by omega
          obtain ⟨ad', hl', hAd', hadb', hcell'⟩ := (HGS.out.below HJ.out.law.below).byte hgl
          subst hAd'
          have hbl := (gs[i]'hl').toNat_lt
          generalize (gs[i]'hl').toNat = d at *
          have hd0 : (0 : Int) ≤ (d : Int) := by omega
          have hd255 : (d : Int) ≤ 255 := by omega
          by_cases hd3 : (d : Int) % 3 = 0
          · have hmod : (d : Int).tmod 3 = 0 := by rw [Int.tmod_eq_emod_of_nonneg hd0]; exact hd3
            go_wp2_with fail
            have hcd : w5.drew.cell? (ad'.add i) = some (.int .u8 (d : Int)) := hcell'
            have hw64 : wrap64 (c + (d : Int)) = c + (d : Int) := by unfold wrap64; omega
            have hi64 : IntKind.i64.wrap (c + (d : Int)) = c + (d : Int) := IntWalk.i64_in _ (by omega)
            go_still_tail 9, (by kernel_rfl)
            still_call (next_q _ g f 0 (c) HJ.out.sig.drew)
            repeat still_step
            refine wpStill_nil ?_
            change wpList _ _ _ _ _ w5.drew
            have hsg : Calls Tryd.prog 28 #[.pointer (some ⟨f.r, 0, none⟩), .int .i64 0, .int .i64 (c + (d : Int))] w5.drew (NewS w5.drew f 0 (c + (d : Int))) := by
              have h := signer_ok w5.drew HJ.out.law.ring.drew 0 (by omega) (c + (d : Int))
              rw [Int.max_eq_left (by omega)] at h
              exact h
            have HSG := Lib.hid hsg
            clear hsg hcd
            go_wp2_with fail
            refine HSG.out.mono ?_
            rintro e w6 ⟨g', rfl, hg', hB6, hgh'⟩
            have HQ := Lib.hid (HJ.out.next hcc hd0 hd255 (HJ.out.law.later ((Below.drew (Below.refl _ _)).trans hB6)) hg' (Nat.le_trans HJ.out.law.below.size hgh'))
            clear hg' hB6 hgh' HSG
            go_wp2
            go_roundw
            case rel => exact ⟨g', n, i + 1, c + (d : Int), _, _, rfl, by go_num, by go_num, by omega, by omega, HQ.out⟩
            case measure => simp [intOf]; omega
          · have hmod : ((d : Int).tmod 3 == 0) = false := by rw [Int.tmod_eq_emod_of_nonneg hd0]; simpa using hd3
            have hmod2 : decide ((d : Int).tmod 3 = 0) = false := by rw [Int.tmod_eq_emod_of_nonneg hd0]; simpa using hd3
            have hmod3 : ((d : Int) % 3 == 0) = false := by simpa using hd3
            go_wp2
            go_roundw
            case rel => exact ⟨g, n, i + 1, c, _, _, rfl, by go_num, by go_num, by omega, by omega, HJ.out⟩
            case measure => simp [intOf]; omega
        · have hgl' : decide ((i : Int) < (gs.length : Int)) = false := by simp; omega
          have hgl2 : decide (i < gs.length) = false := by simp; omega
          go_wp2
          go_roundw
          case rel => exact ⟨g, n, i + 1, c, _, _, rfl, by go_num, by go_num, by omega, by omega, HJ.out⟩
          case measure => simp [intOf]; omega
    · have HRU := Lib.hid (reused_b wr HI.out.law.ring 0 (by omega) false (by unfold reuB; rw [HI.out.cL, HI.out.cU]; simp))
      have HFIN := Lib.hid HI.out.law.below
      have hmd : ∀ w6 : World, Below wr.heap.size wr w6 → Calls Tryd.prog 33 #[.pointer (some ⟨f.r, 0, none⟩), .int .i64 0] w6 fun e w' => e = .returned (.int .i64 (n : Int)) ∧ w6 = w' := fun w6 hB => by
        have h := made_yes w6 (HI.out.law.later hB).ring 0 (by omega)
        rw [HI.out.cL] at h
        exact h
      have HMD := Lib.hid hmd
      clear hmd
      by_cases hlt : i < ts.length
      · have hlt' : (i : Int) < (ts.length : Int) := by omega
        obtain rfl : i = 60 := by omega
        go_wp2_with fail
        refine HRU.out.mono ?_
        rintro e w6 ⟨rfl, hB6⟩
        have HM6 := Lib.hid (HMD.out w6 hB6)
        have HF6 := Lib.hid (HFIN.out.trans (hB6.mono HFIN.out.size))
        clear hB6
        go_wp2_with fail
        refine HM6.out.mono ?_
        rintro e w' ⟨rfl, rfl⟩
        go_wp2
        go_ret
        exact ⟨rfl, HF6.out⟩
      · have hlt' : decide ((i : Int) < (ts.length : Int)) = false := by simp; omega
        have hlt2 : decide (i < ts.length) = false := by simp; omega
        go_wp2_with fail
        refine HRU.out.mono ?_
        rintro e w6 ⟨rfl, hB6⟩
        have HM6 := Lib.hid (HMD.out w6 hB6)
        have HF6 := Lib.hid (HFIN.out.trans (hB6.mono HFIN.out.size))
        clear hB6
        go_wp2_with fail
        refine HM6.out.mono ?_
        rintro e w' ⟨rfl, rfl⟩
        go_wp2
        go_ret
        exact ⟨rfl, HF6.out⟩
end Go.Proofs.YthmkdlnocdbhjaaDoor
