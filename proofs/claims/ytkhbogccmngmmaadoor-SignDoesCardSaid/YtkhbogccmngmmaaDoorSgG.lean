/- wapentakelaw05.SignDoes returns true. WRITTEN BY wip/gen/sgg.py. -/
import Derived.Test.YtkhbogccmngmmaaDoorSgF
namespace Go.Proofs.YtkhbogccmngmmaaDoor
open Go.RowKit

def LawD (W : World) (e : Ending) (w' : World) : Prop := e = .returned (.bool true) ∧ Below W.heap.size W w'
def stZ : List Value := stC ⟨0, 0, 0, 0, [], zeros 32⟩
theorem Tryd.zeroStep (W : World) : (zeroValue 65).run Tryd.prog W = .ok (.agg stZ.toArray) W := by kernel_rfl
theorem stC_len (x : Stp) (h : x.tag.length = 32) : (stC x).length = 37 := by simp [stC, bys_len, h]
theorem stC_one (x : Stp) : (stC x).toArray.all (·.oneCell') = true := all_oneCell_toArray (by
  intro v hv
  simp only [stC, List.mem_append, List.mem_cons, List.not_mem_nil, or_false] at hv
  rcases hv with (rfl | rfl | rfl | rfl | rfl) | hv
  · rfl
  · rfl
  · rfl
  · rfl
  · rfl
  · exact bys_one _ v hv)
theorem sigL_all (i : Int) (d : List UInt8) : ∀ u ∈ sigL i d, u.oneCell' = true := by
  intro v hv
  rcases List.mem_cons.1 hv with rfl | hv
  · rfl
  · exact bys_one d v hv
theorem u64_nonneg (n : Int) : 0 ≤ IntKind.u64.wrap n := by rw [IntKind.wrap_u64]; omega
theorem u64_lt (n : Int) : IntKind.u64.wrap n < 18446744073709551616 := by rw [IntKind.wrap_u64]; omega
theorem own_some {w : World} {base : Nat} {e : TypeId} {size n : Nat} {v : Value} {xs : List Value} (h : w.ownsRow base e size v n xs) (hn : 1 ≤ n) : ∃ g cap, v = .slice (some ⟨g, 0, none⟩) n cap ∧ n ≤ cap ∧ cap ≤ 9223372036854775807 ∧ ∀ j u, xs[j]? = some u → w.cell? ⟨g, j, none⟩ = some u := by
  have h0 := h
  obtain ⟨h1, h2⟩ := h
  rcases h2 with ⟨-, rfl⟩ | ⟨g, cap, cur, rfl, h3, h4, h5, h6, h7, h8⟩
  · omega
  · refine ⟨g, cap, rfl, h5, by unfold maxLen at h6; omega, fun j u hu => ?_⟩
    have := h0.cells rfl j u hu
    rw [add_at] at this; exact this
theorem tmp_keep {S : Nat → Prop} {w w' : World} {H0 b : Nat} {t : TypeId} {cs : List Value} (h : HB w b t cs) (hb : H0 ≤ b) (hT : Turn S w w') (hS : ∀ k, S k → k < H0) : HB w' b t cs :=
  h.keep (hT.block _ h.lt (fun q => by have := hS _ q; omega))
/-- The bytes that a round made of its text. -/
structure TxB (w : World) (b c : Nat) (t : List UInt8) : Prop where
  sees : Sees w w.heap.size 1 (some ⟨b, 0, none⟩) t.length (bys t)
  cap : t.length ≤ c
  max : c ≤ 9223372036854775807
theorem TxB.later {w w' : World} {b c : Nat} {t : List UInt8} (h : TxB w b c t) (hB : Below w.heap.size w w') : TxB w' b c t := ⟨(h.sees.below hB).wide hB.size, h.cap, h.max⟩
theorem TxB.turn {S : Nat → Prop} {w w' : World} {b c : Nat} {t : List UInt8} (h : TxB w b c t) (hT : Turn S w w') (hS : ¬ S b) : TxB w' b c t := by
  obtain ⟨⟨h1, h2⟩, h3, h4⟩ := h
  refine ⟨⟨h1, ?_⟩, h3, h4⟩
  rcases h2 with e | ⟨ad, e, hb, hx⟩
  · exact .inl e
  · cases e
    refine .inr ⟨_, rfl, Nat.lt_of_lt_of_le hb hT.size, fun j u hu => ?_⟩
    have := hx j u hu
    rw [add_at] at this ⊢
    unfold World.cell? at this ⊢
    rw [hT.block b hb hS]
    exact this
theorem ring5_own {w : World} {base' r : Nat} {nk bud : Int} (h : HB w r 118 [.int .i64 nk, .int .i64 bud, .slice none 0 0]) : Ring5 w base' r nk bud (.slice none 0 0) [] := ⟨h, World.ownsRow_nil _ _ _ _⟩
theorem ad_spot {w : World} {a : Addr} {v : Value} (h : w.cell? (a.add 0) = some v) : a.spot = none := by
  rw [add_zero] at h
  unfold World.cell? at h
  split at h
  · split at h
    · cases h
    · rename_i hn; simpa using hn
  · cases h
theorem stp_range {W w : World} {ad : Addr} {j : Nat} {x : Stp} (hB : Below W.heap.size W w) (hb : ad.block < W.heap.size) (hs : ad.spot = none) (h : ∀ i u, (stC x)[i]? = some u → W.cell? (ad.add (j * 37 + i)) = some u) : w.rangeAt ad.block (ad.off + j * 37) (stC x) := fun i u hu => by
  have h0 := h i u hu
  have e : w.cell? (ad.add (j * 37 + i)) = some u := (hB.cell (by rw [add_block]; exact hb)).trans h0
  rcases ad with ⟨b, o, z⟩
  simp only at hs
  subst hs
  rw [Addr.add_mid] at e
  rw [Nat.add_assoc]
  exact e
theorem steps_spot {W : World} {ad : Addr} {l : List Stp} (h : StepsW W (some ad) l) (hl : 0 < l.length) : ad.spot = none := by
  obtain ⟨ad', e, -, -, hc⟩ := h 0 hl
  cases e
  have := hc 0 _ rfl
  exact ad_spot this
/-- What a ring or a signer writes lay when the round began. -/
structure Old (H0 : Nat) (f : Foot) (r5 : Nat) (v5 vm : Value) (wo : Option (Nat × Nat × Int)) : Prop where
  mine : ∀ b, f.mine b → b < H0
  five : ∀ b, b = r5 ∨ v5.ownBlock = some b → b < H0
  made : ∀ b, vm.ownBlock = some b → b < H0
  who : ∀ g k n, wo = some (g, k, n) → g < H0
theorem dow_blocks {W w : World} {f : Foot} {nk : Nat} {bud : Int} {L Ld : List Sg} {U : List (Int × Int)} {r5 : Nat} {v5 vm : Value} {S : List (Int × List UInt8)} {wo : Option (Nat × Nat × Int)} (h : DoW W w f nk bud L U r5 v5 Ld vm S wo) : Old w.heap.size f r5 v5 vm wo :=
  ⟨mine_lt h.law.ring, fun b hb => by
    rcases hb with rfl | q
    · exact h.ring.ring.lt
    · exact (h.ring.list.lt b q).2, fun b hb => (h.made.lt b hb).2, fun g k n e => HB.lt (h.who g k n e).1⟩
/-- A signature that Sign answers. -/
theorem sC_form (nk : Nat) (bud : Int) (s : Sg) (hb : bud ≤ 65536) : ∃ i d, sC nk bud s = sigL i d ∧ I64 i ∧ d.length = 32 := by
  unfold sC
  split
  · rename_i h
    obtain ⟨-, h1, h2⟩ := sErr_zero.1 h
    exact ⟨_, _, rfl, ⟨by omega, by omega⟩, tagF_len s⟩
  · exact ⟨0, zeros 32, rfl, ⟨by omega, by omega⟩, zeros_len 32⟩
theorem in5_sign {nk : Nat} {bud : Int} {L : List Sg} {s : Sg} (h : ∀ x ∈ L, In5 nk bud x) (ht : s.2.length ≤ 140737488351232) : ∀ x ∈ sL nk bud L s, In5 nk bud x := by
  unfold sL
  split
  · rename_i he
    obtain ⟨⟨h1, h2⟩, h3, h4⟩ := sErr_zero.1 he
    unfold signL
    split
    · exact h
    · intro x hx
      rcases List.mem_append.1 hx with q | q
      · exact h x q
      · simp at q; subst q; exact ⟨h1, h2, h3, h4, ht⟩
  · exact h
theorem max_if (n : Int) : max n 0 = if n < 0 then 0 else n := by split <;> omega
theorem DoW.nowho {W w : World} {f : Foot} {nk : Nat} {bud : Int} {L Ld : List Sg} {U : List (Int × Int)} {r5 : Nat} {v5 vm : Value} {S : List (Int × List UInt8)} {wo : Option (Nat × Nat × Int)} (h : DoW W w f nk bud L U r5 v5 Ld vm S wo) : DoW W w f nk bud L U r5 v5 Ld vm S none :=
  ⟨h.law, h.ring, h.hi5, h.in5, h.used, h.made, h.sigs, h.has1, fun _ _ _ e => by cases e⟩
theorem DoW.setwho {W w : World} {f : Foot} {nk : Nat} {bud : Int} {L Ld : List Sg} {U : List (Int × Int)} {r5 : Nat} {v5 vm : Value} {S : List (Int × List UInt8)} {wo : Option (Nat × Nat × Int)} (h : DoW W w f nk bud L U r5 v5 Ld vm S wo) {g k : Nat} {n : Int} (hg : SigW w g f k n) (hW : W.heap.size ≤ g) (hk : k < nk) (h0 : 0 ≤ n) (h1 : n ≤ 9223372036854775807) : DoW W w f nk bud L U r5 v5 Ld vm S (some (g, k, n)) :=
  ⟨h.law, h.ring, h.hi5, h.in5, h.used, h.made, h.sigs, h.has1, fun _ _ _ e => by cases e; exact ⟨hg, hW, hk, h0, h1⟩⟩
theorem sErr_at {nk k : Nat} (bud : Int) {n : Int} (hk : k < nk) (hn : 0 ≤ n) : sErr nk bud ((k : Int), n) = if n < bud then 0 else 17 := by
  unfold sErr
  rw [if_neg (show ¬ ((k : Int) < 0 ∨ (nk : Int) ≤ (k : Int)) by omega)]
  by_cases h : n < bud
  · rw [if_neg (show ¬ (n < 0 ∨ bud ≤ n) by omega), if_pos h]
  · rw [if_pos (show n < 0 ∨ bud ≤ n by omega), if_neg h]
theorem ssign_lists {L : List Sg} {U : List (Int × Int)} {t : List UInt8} {nk k : Nat} (bud : Int) {n : Int} (hk : k < nk) (hn : 0 ≤ n) :
    (if n < bud then signL L (((k : Int), n), t) else L) = sL nk bud L (((k : Int), n), t) ∧ (if n < bud then signU L U (((k : Int), n), t) else U) = sU nk bud L U (((k : Int), n), t) := by
  unfold sL sU
  rw [sErr_at bud hk hn]
  by_cases h : n < bud <;> simp [h]
/-- What both rings tell of a key. -/
theorem keys_same {W w : World} {f : Foot} {nk : Nat} {bud : Int} {L : List Sg} {U : List (Int × Int)} {r5 : Nat} {v5 vm : Value} {S : List (Int × List UInt8)} {wo : Option (Nat × Nat × Int)} (h : DoW W w f nk bud L U r5 v5 L vm S wo) (key : Int) :
    ∃ (bb : Bool) (cc : Int), ∀ wb, Below w.heap.size w wb →
      (Calls Tryd.prog 34 #[.pointer (some ⟨f.r, 0, none⟩), .int .i64 key] wb fun e w' => e = .returned (.bool bb) ∧ Below wb.heap.size wb w') ∧
      (Calls Tryd.prog 35 #[.pointer (some ⟨r5, 0, none⟩), .int .i64 key] wb fun e w' => e = .returned (.bool bb) ∧ Below wb.heap.size wb w') ∧
      (Calls Tryd.prog 36 #[.pointer (some ⟨f.r, 0, none⟩), .int .i64 key] wb fun e w' => e = .returned (.int .i64 cc) ∧ Below wb.heap.size wb w') ∧
      (Calls Tryd.prog 37 #[.pointer (some ⟨r5, 0, none⟩), .int .i64 key] wb fun e w' => e = .returned (.int .i64 cc) ∧ Below wb.heap.size wb w') := by
  by_cases ho : key < 0 ∨ (nk : Int) ≤ key
  · refine ⟨false, 0, fun wb hB => ?_⟩
    have hR := h.law.ring.below hB
    have h5 := h.ring.below hB
    have hno : ∀ s ∈ L, s.1.1 ≠ key := fun s hs e => by
      have h1 := (h.in5 s hs).k0
      have h2 := (h.in5 s hs).k1
      omega
    refine ⟨(reused_no wb hR key ho).mono fun e w' ⟨he, n, hw⟩ => ⟨he, by rw [hw]; exact below_drewN_ (Below.refl _ _) n⟩, ?_, (made_no wb hR key ho).mono fun e w' ⟨he, hw⟩ => ⟨he, by rw [← hw]; exact Below.refl _ _⟩, ?_⟩
    · refine (reused5_any wb W.heap.size r5 nk bud v5 L h5 key).mono fun e w' ⟨he, hw⟩ => ⟨?_, hw⟩
      rcases he with ⟨⟨i, j, -, hi, hj, q, -⟩, -⟩ | ⟨-, he⟩
      · exact absurd q (hno _ (List.getElem_mem hi))
      · exact he
    · refine (made5_any wb W.heap.size r5 nk bud v5 L h5 key).mono fun e w' ⟨he, hw⟩ => ⟨?_, hw⟩
      have e0 : cnt5 L key = 0 := by
        unfold cnt5
        rw [List.countP_eq_zero]
        intro s hs
        simpa using hno s hs
      rw [he, e0]; rfl
  · obtain ⟨k, rfl⟩ : ∃ k : Nat, key = (k : Int) := ⟨key.toNat, by omega⟩
    have hkn : k < nk := by omega
    refine ⟨reuB L U k, (cntL L k : Int), fun wb hB => ?_⟩
    have hR := h.law.ring.below hB
    have h5 := h.ring.below hB
    refine ⟨(reused_yes wb hR k hkn).mono fun e w' ⟨he, n, hw⟩ => ⟨he, by rw [hw]; exact below_drewN_ (Below.refl _ _) n⟩, ?_, (made_yes wb hR k hkn).mono fun e w' ⟨he, hw⟩ => ⟨he, by rw [← hw]; exact Below.refl _ _⟩, ?_⟩
    · refine (reused5_any wb W.heap.size r5 nk bud v5 L h5 (k : Int)).mono fun e w' ⟨he, hw⟩ => ⟨?_, hw⟩
      have hiff := reuse_iff h.used k
      rcases he with ⟨q, he⟩ | ⟨q, he⟩
      · rw [hiff.2 q]; exact he
      · have : reuB L U k = false := by
          cases hr : reuB L U k with
          | false => rfl
          | true => exact absurd (hiff.1 hr) q
        rw [this]; exact he
    · exact (made5_any wb W.heap.size r5 nk bud v5 L h5 (k : Int)).mono fun e w' ⟨he, hw⟩ => ⟨he, hw⟩
/-- Where SignDoes stands behind j steps. -/
structure DoI (W w : World) (f : Foot) (nk : Nat) (bud : Int) (r5 : Nat) (j : Nat) (L : List Sg) (U : List (Int × Int)) (v5 : Value) (S : List (Int × List UInt8)) (wo : Option (Nat × Nat × Int)) (ky nx : Int) (vm : Value) : Prop where
  dow : DoW W w f nk bud L U r5 v5 L vm S wo
  few : L.length ≤ j
  fewS : S.length ≤ j + 1
  same : ∀ g k n, wo = some (g, k, n) → ky = (k : Int) ∧ nx = n
set_option maxRecDepth 30000 in
theorem does_bad (W : World) (hk : Consts W) (n0 b0 : Int) (hn : ¬ (1 ≤ n0 ∧ n0 ≤ 12 ∧ 1 ≤ b0 ∧ b0 ≤ 65536)) (v : Value) :
    Calls Tryd.prog 10 #[.int .i64 n0, .int .i64 b0, v] W (LawD W) := by
  have HAW := Lib.hid (awake_any W hk)
  have H1 := Lib.hid (fun w => new_no n0 b0 (by omega) w)
  have H2 := Lib.hid (fun w => new5_no n0 b0 hn w)
  clear hk hn
  go_enter Tryd.func10, Tryd.ntmps10
  go_wp2_with fail
  refine HAW.out.mono ?_
  rintro e w1 ⟨rfl, hB1⟩
  have HB1 := Lib.hid hB1
  clear hB1 HAW
  go_wp2_with fail
  refine (H1.out _).mono ?_
  rintro e w2 ⟨rfl, rfl⟩
  have HB2 := Lib.hid HB1.out
  clear HB1 H1
  go_wp2_with fail
  refine (H2.out _).mono ?_
  rintro e w3 ⟨rfl, hB3⟩
  have hfin := HB2.out.trans (hB3.mono HB2.out.size)
  clear hB3 HB2 H2
  go_wp2
  go_ret
  exact ⟨rfl, hfin⟩

set_option maxRecDepth 30000 in
set_option maxHeartbeats 16000000 in
theorem does_in (W : World) (hk : Consts W) (nk : Nat) (bud : Int) (hn1 : 1 ≤ nk) (hn2 : nk ≤ 12) (hb1 : 1 ≤ bud) (hb2 : bud ≤ 65536) (A : Option Addr) (c : Nat) (l : List Stp) (hl : StepsW W A l) (hll : l.length ≤ 1759218604390) :
    Calls Tryd.prog 10 #[.int .i64 (nk : Int), .int .i64 bud, .slice A l.length c] W (LawD W) := by
  have hz := Tryd.zeroSig
  have hzs := Tryd.zeroStep
  have HAW := Lib.hid (awake_any W hk)
  have HK := Lib.hid hk
  have HL := Lib.hid hl
  have HLL := Lib.hid hll
  have HN2 := Lib.hid hn2
  have HBU := Lib.hid hb2
  have H1 := Lib.hid (fun w => new_ok nk bud hn1 hn2 hb1 hb2 w)
  have H2 := Lib.hid (fun w => new5_yes (nk : Int) bud (by omega) (by omega) hb1 hb2 w)
  clear hk hl hll hn1 hn2 hb1 hb2
  go_enter Tryd.func10, Tryd.ntmps10
  go_wp2_with fail
  refine HAW.out.mono ?_
  rintro e w1 ⟨rfl, hB1⟩
  have HB1 := Lib.hid hB1
  clear hB1 HAW
  go_wp2_with fail
  refine (H1.out _).mono ?_
  rintro e w2 ⟨f, rfl, hR, hB, h1, h2, h3, h4⟩
  have HLw2 := Lib.hid (Law.made HK.out HB1.out hR hB h2 h3 h4)
  clear hR hB h1 h2 h3 h4 H1
  go_wp2_with fail
  refine (H2.out _).mono ?_
  rintro e w3 ⟨rfl, hR5, hB3⟩
  have HLw3 := Lib.hid (HLw2.out.later hB3)
  have HR5 := Lib.hid hR5
  have HZ := Lib.hid (show W.heap.size ≤ w2.heap.size from HLw2.out.below.size)
  clear hR5 hB3 H2 HLw2 HB1
  obtain ⟨i0, hi0, hz0, hz1, hz2⟩ := Tryd.infoSig
  have HFL0 := Lib.hid (fill_sig i0 hz1 0 (zeros 32) (zeros_len 32))
  have HI0 := Lib.hid hi0; have HZ0 := Lib.hid hz0; have HZ1 := Lib.hid hz1; have HZ2 := Lib.hid hz2
  have HBZ := Lib.hid Tryd.builtZ
  clear hi0 hz0 hz1 hz2
  go_wp2_with (first
    | (refine wpList_buildTo rfl 61 _ rfl _ rfl sigZ.toArray (by (simp only [List.map_toArray, List.map_nil]; exact HBZ.out)) ?_)
    | (refine wpList_buildSlice rfl 62 61 1 _ rfl sigZ.toArray i0 (.agg sigZ.toArray) Tryd.underlying62 HI0.out HZ0.out (by rw [HZ1.out]; decide) (by rw [HZ1.out]; decide) (by (simp only [List.map_toArray, List.map_cons, List.map_nil]; exact HFL0.out)) ?_))
  have hO := World.ownsRow_lit (base := W.heap.size) (e := 61) (size := 33) w3 sigZ.toArray 1 (by have := HLw3.out.below.size; omega) (by unfold maxLen; omega) (by rw [List.size_toArray, sigZ_len])
  have hD0 : DoW W (w3.alloc (.cells sigZ.toArray 61)) f nk bud [] [] w2.heap.size (.slice none 0 0) [] (.slice (some ⟨w3.heap.size, 0, none⟩) 1 1) [(0, zeros 32)] none :=
    ⟨HLw3.out.later (below_alloc1 _ _), (ring5_own HR5.out).below (below_alloc1 _ _), HZ.out, by simp, Used.nil, by simpa [sgsC, sigZ] using hO, by simp [I64, zeros_len], by simp, by simp⟩
  have HD0 := Lib.hid hD0
  clear hO hD0 HR5 HLw3 HZ HFL0 hz
  generalize w3.alloc (.cells sigZ.toArray 61) = w4 at *
  generalize Value.slice (some ⟨w3.heap.size, 0, none⟩) 1 1 = vm0 at *
  generalize w2.heap.size = r5 at *
  go_loopw [9, 10, 11, 12, 13] (fun vm wp kp np ip wr => ∃ (j : Nat) (L : List Sg) (U : List (Int × Int)) (v5 : Value) (S : List (Int × List UInt8)) (wo : Option (Nat × Nat × Int)) (ky nx : Int), wp = .pointer (wo.map fun x => ⟨x.1, 0, none⟩) ∧ kp = .int .i64 ky ∧ np = .int .i64 nx ∧ ip = .int .i64 (j : Int) ∧ j ≤ l.length ∧ DoI W wr f nk bud r5 j L U v5 S wo ky nx vm) (fun _ _ _ _ ip _ => l.length - (intOf ip).toNat)
  case atStart => exact ⟨0, [], [], _, _, none, 0, 0, rfl, rfl, rfl, rfl, by omega, ⟨HD0.out, by simp, by simp, by simp⟩⟩
  case round =>
    obtain ⟨j, L, U, v5, S, wo, ky, nx, rfl, rfl, rfl, rfl, hj, hI⟩ := hrel
    have HI := Lib.hid hI
    clear hI HD0
    by_cases hlt : j < l.length
    · have hlt' : (j : Int) < (l.length : Int) := by omega
      have hjb : (j : Int) ≤ 1759218604390 := by have := HLL.out; omega
      obtain ⟨ad, hA, hadb, hok, hcells⟩ := HL.out j hlt
      subst hA
      generalize hx : l[j]'hlt = x at *
      clear hx
      have HOK := Lib.hid hok
      have hrg : wr.rangeAt ad.block (ad.off + j * 37) (stC x) := stp_range HI.out.dow.law.below hadb (steps_spot HL.out (by omega)) hcells
      have HXL := Lib.hid (stC_len x hok.tag)
      have HSP := Lib.hid (steps_spot HL.out (by omega))
      clear hok hcells hadb
      obtain ⟨b, o, z⟩ := ad
      have hzz : z = none := HSP.out
      subst hzz
      simp only at hrg
      clear HSP
      have hXI : Hid ((Tryd.prog.info? 65).map (·.size) = some (stC x).length) := Lib.hid (by rw [HXL.out]; kernel_rfl)
      have hXI2 : Hid ((Tryd.prog.info? 65).map (·.size) = some (stC x).toArray.size) := Lib.hid (by rw [List.size_toArray, HXL.out]; kernel_rfl)
      have hXS : Hid (stZ.toArray.size = (stC x).toArray.size) := Lib.hid (by rw [List.size_toArray, List.size_toArray, HXL.out]; rfl)
      have hXO := Lib.hid (stC_one x)
      have hnewX := HB.new wr 65 stZ
      have hrowX : HB ((wr.alloc (.cells stZ.toArray 65)).setRow wr.heap.size (stC x).toArray) wr.heap.size 65 (stC x) := by simpa using hnewX.row (stC x).toArray
      have hBX := Below.setRow_ (below_alloc1 wr (.cells stZ.toArray 65)) (Nat.le_refl _) (stC x).toArray
      go_upto_region 14 with (first
        | (refine wpList_load_mid rfl 65 _ rfl b (o + j * 37) (by (simp only [Act.eval]; rfl)) (stC x) _ hrg Tryd.underlying65 rfl hXI.out ?_)
        | (refine wpList_store_row rfl 65 _ _ rfl wr.heap.size (stC x).toArray rfl rfl 65 _ hnewX hXI2.out hXS.out hXO.out ?_))
      have HDW := Lib.hid HI.out.dow
      have HDX := Lib.hid (HI.out.dow.later hBX)
      have HX := Lib.hid hrowX
      have HFW := Lib.hid HI.out.few
      have HFS := Lib.hid HI.out.fewS
      have HSA := Lib.hid HI.out.same
      clear hnewX hrowX hBX hrg hXI hXI2 hXS hXO HI hzs
      generalize (wr.alloc (.cells stZ.toArray 65)).setRow wr.heap.size (stC x).toArray = wX at *
      have hcs := conv_str wX x.text
      have hc4 : wX.cell? ⟨wr.heap.size, 4, none⟩ = some (.string (strB x.text)) := by rw [HX.out.cell]; rfl
      have HTt := Lib.hid (txt_str wX x.text HOK.out.text)
      go_upto_region 15 with (fail)
      clear hcs hc4
      have HT : Hid (TxB (Lib.bytesWorld wX 5 (strB x.text)) wX.heap.size (grownCap wX x.text.length 0 5) x.text) := Lib.hid ⟨HTt.out.sees, HTt.out.cap, HTt.out.max⟩
      have HDT := Lib.hid (HDX.out.later HTt.out.below)
      have HXT := Lib.hid (HX.out.below HTt.out.below HX.out.lt)
      have HH0 : Hid (wr.heap.size ≤ wX.heap.size) := Lib.hid (Nat.le_of_lt HX.out.lt)
      have HG0 : Hid (wX.heap.size < (Lib.bytesWorld wX 5 (strB x.text)).heap.size) := Lib.hid (by rw [Lib.bytesWorld_size]; omega)
      clear HTt HDX HX
      generalize Lib.bytesWorld wX 5 (strB x.text) = wT at *
      generalize grownCap wX x.text.length 0 5 = ct at *
      generalize wX.heap.size = gt at *
      have HS0 := Lib.hid (dow_blocks HDW.out)
      generalize wr.heap.size = H0 at *
      clear HDW
      by_cases hk0 : x.kind = 0
      · as_aux_lemma =>
          have hc0 : wT.cell? ⟨H0, 0, none⟩ = some (.int .i64 x.kind) := by rw [HXT.out.cell]; rfl
          have hc1 : wT.cell? ⟨H0, 1, none⟩ = some (.int .i64 x.key) := by rw [HXT.out.cell]; rfl
          have hc3 : wT.cell? ⟨H0, 3, none⟩ = some (.int .i64 x.ix) := by rw [HXT.out.cell]; rfl
          rw [hk0] at hc0
          have hs := Lib.hid (sign_all wT HDT.out.law.ring x.key x.ix wT.heap.size (some ⟨gt, 0, none⟩) ct x.text HT.out.sees (Nat.le_refl _) HT.out.cap HT.out.max HOK.out.text HDT.out.law.consts (by have := HFW.out; have := HLL.out; omega))
          obtain ⟨ii, dd, hsc, hii, hdd⟩ := sC_form nk bud ((x.key, x.ix), x.text) HBU.out
          have HSC := Lib.hid hsc; have HII := Lib.hid hii; have HDD := Lib.hid hdd
          clear hsc hii hdd
          go_wp2_with fail
          refine hs.out.mono ?_
          rintro e w5 ⟨he, hR, hT⟩
          rw [HSC.out] at he
          subst he
          clear hs
          clear hc0 hc1 hc3
          have HD5 := Lib.hid (HDT.out.sign1 hR hT (HDT.out.used.signed nk bud ((x.key, x.ix), x.text)))
          have HTT := HT
          have HX5 := Lib.hid (tmp_keep HXT.out (Nat.le_refl H0) hT HS0.out.mine)
          have HT5 := Lib.hid (HTT.out.turn hT (fun q => by have := HS0.out.mine _ q; have := HH0.out; omega))
          clear hR hT HXT HTT HDT
          have HSI : Hid ((Tryd.prog.info? 61).map (·.size) = some (sigL ii dd).toArray.size) := sig_info HDD.out
          have HSL : Hid ((Tryd.prog.info? 61).map (·.size) = some (sigL ii dd).length) := sig_info_l HDD.out
          have HSS : Hid (sigZ.toArray.size = (sigL ii dd).toArray.size) := sig_size HDD.out
          have HSO := sigL_one ii dd
          have hz := Tryd.zeroSig
          have hnw := HB.new w5 61 sigZ
          have hrn := row_new w5 (sigL ii dd)
          go_upto_region 20 with (refine wpList_store_row rfl 61 _ _ rfl w5.heap.size (sigL ii dd).toArray rfl rfl 61 _ hnw HSI.out HSS.out HSO.out ?_)
          clear hz hnw
          have HP0 : Hid (H0 ≤ w5.heap.size) := Lib.hid (Nat.le_of_lt HX5.out.lt)
          generalize (w5.alloc (.cells sigZ.toArray 61)).setRow w5.heap.size (sigL ii dd).toArray = w6 at *
          have HD6 := Lib.hid (HD5.out.later hrn.2)
          have HP6 := Lib.hid hrn.1
          have HX6 := Lib.hid (HX5.out.below hrn.2 HX5.out.lt)
          have HT6 := Lib.hid (HT5.out.later hrn.2)
          generalize hgP : w5.heap.size = gP at *
          clear hgP hrn HX5 HT5 HD5 
          have hc1 : w6.cell? ⟨H0, 1, none⟩ = some (.int .i64 x.key) := by rw [HX6.out.cell]; rfl
          have hc3 : w6.cell? ⟨H0, 3, none⟩ = some (.int .i64 x.ix) := by rw [HX6.out.cell]; rfl
          have hc4 : w6.cell? ⟨H0, 4, none⟩ = some (.string (strB x.text)) := by rw [HX6.out.cell]; rfl
          have hs := Lib.hid (rsign_all w6 W.heap.size r5 nk bud v5 L HD6.out.ring HD6.out.in5 HN2.out HBU.out (by have := HFW.out; have := HLL.out; omega) HD6.out.law.below.size x.key x.ix x.text HOK.out.text)
          go_wp2_with fail
          refine hs.out.mono ?_
          rintro e w7 ⟨he, v5', hR, hT⟩
          rw [HSC.out] at he
          subst he
          clear hs
          clear hc1 hc3 hc4
          have HD7 := Lib.hid (HD6.out.sign2 hR hT (in5_sign HD6.out.in5 HOK.out.text))
          have HX7 := Lib.hid (tmp_keep HX6.out (Nat.le_refl H0) hT HS0.out.five)
          have HT7 := Lib.hid (HT6.out.turn hT (fun q => by have := HS0.out.five _ q; have := HH0.out; omega))
          have HP7 := Lib.hid (tmp_keep HP6.out HP0.out hT HS0.out.five)
          clear hR hT HX6 HT6 HD6 HP6
          have hz := Tryd.zeroSig
          have hnw := HB.new w7 61 sigZ
          have hrn := row_new w7 (sigL ii dd)
          go_upto_region 21 with (refine wpList_store_row rfl 61 _ _ rfl w7.heap.size (sigL ii dd).toArray rfl rfl 61 _ hnw HSI.out HSS.out HSO.out ?_)
          clear hz hnw
          have HQ0 : Hid (H0 ≤ w7.heap.size) := Lib.hid (Nat.le_of_lt HX7.out.lt)
          generalize (w7.alloc (.cells sigZ.toArray 61)).setRow w7.heap.size (sigL ii dd).toArray = w8 at *
          have HD8 := Lib.hid (HD7.out.later hrn.2)
          have HQ8 := Lib.hid hrn.1
          have HX8 := Lib.hid (HX7.out.below hrn.2 HX7.out.lt)
          have HT8 := Lib.hid (HT7.out.later hrn.2)
          have HP8 := Lib.hid (HP7.out.below hrn.2 HP7.out.lt)
          generalize hgQ : w7.heap.size = gQ at *
          clear hgQ hrn HX7 HT7 HD7 HP7
          have hx8 := HP8.out
          have hy8 := HQ8.out
          go_upto_region 23 with (first
            | (refine wpList_load_row rfl 61 (.tmp 16) rfl gP rfl 61 (sigL ii dd).toArray (0, 0) _ hx8 Tryd.underlying61 rfl HSI.out ?_)
            | (refine wpList_load_row rfl 61 (.tmp 18) rfl gQ rfl 61 (sigL ii dd).toArray (0, 0) _ hy8 Tryd.underlying61 rfl HSI.out ?_)
            | (refine wpList_cmp rfl .neq 61 _ _ _ rfl (.agg (sigL ii dd).toArray) (.agg (sigL ii dd).toArray) (.bool false) rfl rfl (run_eqGuard_agg _ _ _ _ _ _ _ (by kernel_rfl)) (neq_sig _ ii dd HII.out HDD.out) ?_))
          clear hy8
          clear hx8
          obtain ⟨i0, hi0, hz0, hz1, hz2⟩ := Tryd.infoSig
          have HFL := Lib.hid (fill_sig i0 hz1 ii dd HDD.out)
          have HI0 := Lib.hid hi0; have HZ0 := Lib.hid hz0; have HZ1 := Lib.hid hz1; have HZ2 := Lib.hid hz2
          clear hi0 hz0 hz1 hz2
          have hx8 := HP8.out
          go_wp2_with (first
            | (refine wpList_load_row rfl 61 (.tmp 16) rfl gP rfl 61 (sigL ii dd).toArray (0, 0) _ hx8 Tryd.underlying61 rfl HSI.out ?_)
            | (refine wpList_buildSlice rfl 62 61 1 _ rfl (sigL ii dd).toArray i0 (.agg sigZ.toArray) Tryd.underlying62 HI0.out HZ0.out (by rw [HZ1.out]; decide) (by rw [HZ1.out]; decide) (by (simp only [List.map_toArray, List.map_cons, List.map_nil]; exact HFL.out)) ?_)
            | (at_builtin; refine wpList_append_own _ rfl (.tmp 114) (.tmp 116) 62 rfl W.heap.size 61 i0 (.agg sigZ.toArray) 33 40 Tryd.underlying62 HI0.out HZ0.out HZ1.out HZ2.out rfl (by decide) u9 S.length _ rfl (HD8.out.made.alloc _) ⟨w8.heap.size, 0, none⟩ 1 1 (sigL ii dd) rfl ?c0 ?c1 ?c2 ?c3 ?c4 ?c5 ?_))
          case c0 => rw [sigL_len _ _ HDD.out]
          case c1 => intro q u hu; rw [add_at, boxed]; simpa using hu
          case c2 => exact sigL_all ii dd
          case c3 => have := HFS.out; have := HLL.out; unfold maxLen; omega
          case c4 => have := HFS.out; have := HLL.out; omega
          case c5 => have := HD8.out.law.below.size; simp; omega
          intro vm' w9 hown' hg' _
          have hal := below_alloc1 w8 (.cells (sigL ii dd).toArray 61)
          have HD9 := Lib.hid ((HD8.out.later hal).append hown' hg' HII.out HDD.out)
          have hTt : Turn (fun b => u9.ownBlock = some b) w8 w9 := (Turn.of_below hal).trans ⟨hg'.os, hg'.tape, hg'.output, hg'.size, fun k hk hs => hg'.block k hk (fun e => hs e.symm)⟩
          have HX9 := Lib.hid (tmp_keep HX8.out (Nat.le_refl H0) hTt HS0.out.made)
          have HT9 := Lib.hid (HT8.out.turn hTt (fun q => by have := HS0.out.made _ q; have := HH0.out; omega))
          clear hx8 hown' hg' hal hTt HX8 HT8 HD8 HFL HI0 HZ0 HZ1 HZ2
          have hc4 : w9.cell? ⟨H0, 4, none⟩ = some (.string (strB x.text)) := by rw [HX9.out.cell]; rfl
          have hcv := conv_sees ct HT9.out.sees
          have HEND := Lib.hid (show DoI W w9 f nk bud r5 (j + 1) (sL nk bud L ((x.key, x.ix), x.text)) (sU nk bud L U ((x.key, x.ix), x.text)) v5' (S ++ [(ii, dd)]) wo ky nx vm' from ⟨HD9.out, (by have := sL_len nk bud L ((x.key, x.ix), x.text); have := HFW.out; omega), (by have := HFS.out; simp; omega), HSA.out⟩)
          go_wp2
          go_roundw
          case rel => exact ⟨j + 1, (sL nk bud L ((x.key, x.ix), x.text)), (sU nk bud L U ((x.key, x.ix), x.text)), v5', (S ++ [(ii, dd)]), wo, ky, nx, rfl, rfl, rfl, by go_num, by omega, HEND.out⟩
          case measure => simp [intOf]; omega
      have hK0 : (x.kind == 0) = false := by simpa using hk0
      have HK0 := Lib.hid hK0
      clear hK0
      by_cases hk1 : x.kind = 1
      · as_aux_lemma =>
          have hc0 : wT.cell? ⟨H0, 0, none⟩ = some (.int .i64 x.kind) := by rw [HXT.out.cell]; rfl
          have hc2 : wT.cell? ⟨H0, 2, none⟩ = some (.int .i64 x.at_) := by rw [HXT.out.cell]; rfl
          rw [hk1] at hc0
          obtain ⟨gm, cm, rfl, hcm1, hcm2, hms⟩ := own_some HDT.out.made HDT.out.has1
          have hs1 := HDT.out.has1
          obtain ⟨pp, hpp⟩ : ∃ pp : Nat, IntKind.u64.wrap x.at_ = (pp : Int) := ⟨(IntKind.u64.wrap x.at_).toNat, by have : 0 ≤ IntKind.u64.wrap x.at_ := u64_nonneg _; omega⟩
          have hpb : (pp : Int) < 18446744073709551616 := by have := u64_lt x.at_; omega
          obtain ⟨q, hq⟩ : ∃ q : Nat, q = pp % S.length := ⟨_, rfl⟩
          have hql : q < S.length := by rw [hq]; exact Nat.mod_lt _ (by omega)
          have hqi : (pp : Int) % (S.length : Int) = (q : Int) := by rw [hq]; omega
          have hsl : (S.length : Int) ≤ 1759218604391 := by have := HFS.out; have := HLL.out; omega
          have hql' : (q : Int) < (S.length : Int) := by omega
          have hs1' : (1 : Int) ≤ (S.length : Int) := by omega
          obtain ⟨ii, dd, hsq⟩ : ∃ ii dd, S[q]'hql = (ii, dd) := ⟨_, _, rfl⟩
          obtain ⟨hii, hdd⟩ := HDT.out.sigs _ (List.getElem_mem hql)
          rw [hsq] at hii hdd
          have HII : Hid (I64 ii) := Lib.hid hii; have HDD : Hid (dd.length = 32) := Lib.hid hdd
          have hrg : wT.rangeAt gm (q * 33) (sigL ii dd) := fun m u hu => hms _ u (by
            have hm : m < 33 := by
              rcases Nat.lt_or_ge m 33 with h | h
              · exact h
              · rw [List.getElem?_eq_none (by rw [sigL_len _ _ hdd]; exact h)] at hu; cases hu
            rw [sgsC_at S (fun s hs => (HDT.out.sigs s hs).2) q hql m hm, hsq]; exact hu)
          have HRG := Lib.hid hrg
          clear hq hms hrg hsq hii hdd
          have hsu : IntKind.u64.wrap (S.length : Int) = (S.length : Int) := u64_nat (by omega)
          have hqw : IntKind.i64.wrap (q : Int) = (q : Int) := IntWalk.i64_in _ ⟨by omega, by omega⟩
          have HSI : Hid ((Tryd.prog.info? 61).map (·.size) = some (sigL ii dd).toArray.size) := sig_info HDD.out
          have HSL : Hid ((Tryd.prog.info? 61).map (·.size) = some (sigL ii dd).length) := sig_info_l HDD.out
          have HSS : Hid (sigZ.toArray.size = (sigL ii dd).toArray.size) := sig_size HDD.out
          have HSO := sigL_one ii dd
          have hz := Tryd.zeroSig
          have hnw := HB.new wT 61 sigZ
          have hrn := row_new wT (sigL ii dd)
          go_upto_region 26 with (first
            | (refine wpList_load_mid rfl 61 _ rfl gm (q * 33) (by (simp only [Act.eval]; rfl)) (sigL ii dd) _ HRG.out Tryd.underlying61 rfl HSL.out ?_)
            | (refine wpList_store_row rfl 61 _ _ rfl wT.heap.size (sigL ii dd).toArray rfl rfl 61 _ hnw HSI.out HSS.out HSO.out ?_))
          clear hz hnw hpp hpb hqi hql' hs1' hsu hqw hcm1 hcm2 HRG
          clear hc0 hc2
          generalize (wT.alloc (.cells sigZ.toArray 61)).setRow wT.heap.size (sigL ii dd).toArray = w5 at *
          have HD5 := Lib.hid (HDT.out.later hrn.2)
          have HP5 := Lib.hid hrn.1
          have HTT := HT
          have HX5 := Lib.hid (HXT.out.below hrn.2 HXT.out.lt)
          have HT5 := Lib.hid (HTT.out.later hrn.2)
          generalize hgP : wT.heap.size = gP at *
          clear hgP hrn HXT HTT HDT HT
          have HCK1 := Lib.hid (fun wb (hI : Below w5.heap.size w5 wb) => check_any wb (HD5.out.law.ring.below hI) x.key ii HOK.out.key HII.out wb.heap.size (some ⟨gt, 0, none⟩) ct x.text (HT5.out.later hI).sees (Nat.le_refl _) HOK.out.text dd HDD.out)
          have HCK2 := Lib.hid (fun wb (hI : Below w5.heap.size w5 wb) => rcheck_any wb W.heap.size r5 nk bud v5 L (HD5.out.ring.below hI) HD5.out.in5 (by have := HN2.out; omega) HBU.out x.key ii HOK.out.key HII.out x.text HOK.out.text dd HDD.out)
          generalize chkB L ((x.key, ii), x.text) dd = bb at *
          refine wp_region_inv 237 (fun j v _ => v = ([.pointer (some ⟨f.r, 0, none⟩), .pointer (some ⟨H0, 1, none⟩), .int .i64 x.key, .slice (some ⟨gt, 0, none⟩) x.text.length ct, .agg (sigL ii dd).toArray, .bool bb, .pointer (some ⟨r5, 0, none⟩), .pointer (some ⟨H0, 1, none⟩), .int .i64 x.key, .pointer (some ⟨H0, 4, none⟩), .string (strB x.text), .agg (sigL ii dd).toArray, .bool bb, .bool false] : List Value).getD j undef) (Below w5.heap.size w5) (fun _ W W' => Below W.heap.size W W') (by kernel_rfl) (by rfl) (by kernel_rfl) (fun _ _ _ _ _ _ _ _ _ hR => hR) (fun _ _ _ e h => h.trans (e.mono h.size)) (Below.drew (Below.refl _ _)) (fun j o ho vs wb hI hdep => ?_) (fun vs w6 hI hR => ?_)
          · rcases j with _ | j
            · simp only [List.getElem?_toArray, List.getElem?_cons_zero, Option.some.injEq] at ho
              subst ho
              refine .inl ⟨rfl, fun K Q hK => ?_⟩
              simp only [putFrom, Act.put, List.setIfInBounds_toArray, List.set_cons_succ, List.set_cons_zero, Nat.reduceAdd] at hK ⊢
              have HK := Lib.hid hK
              clear hK hdep 
              go_simp
              exact HK.out _ _ _ rfl ⟨Below.refl _ _, rfl⟩
            rcases j with _ | j
            · simp only [List.getElem?_toArray, List.getElem?_cons_succ, List.getElem?_cons_zero, Option.some.injEq, Nat.zero_add] at ho
              subst ho
              refine .inl ⟨rfl, fun K Q hK => ?_⟩
              simp only [putFrom, Act.put, List.setIfInBounds_toArray, List.set_cons_succ, List.set_cons_zero, Nat.reduceAdd] at hK ⊢
              have HK := Lib.hid hK
              clear hK hdep 
              go_simp
              exact HK.out _ _ _ rfl ⟨Below.refl _ _, rfl⟩
            rcases j with _ | j
            · simp only [List.getElem?_toArray, List.getElem?_cons_succ, List.getElem?_cons_zero, Option.some.injEq, Nat.zero_add] at ho
              subst ho
              have e1 : vs 1 = .pointer (some ⟨H0, 1, none⟩) := hdep 1 rfl
              have hX : HB wb H0 65 (stC x) := HX5.out.below hI HX5.out.lt
              have hc1 : wb.cell? ⟨H0, 1, none⟩ = some (.int .i64 x.key) := by rw [hX.cell]; rfl
              clear hX
              refine .inl ⟨rfl, fun K Q hK => ?_⟩
              simp only [putFrom, Act.put, List.setIfInBounds_toArray, List.set_cons_succ, List.set_cons_zero, Nat.reduceAdd, e1] at hK ⊢
              have HK := Lib.hid hK
              clear hK hdep e1
              go_simp
              exact HK.out _ _ _ rfl ⟨Below.refl _ _, rfl⟩
            rcases j with _ | j
            · simp only [List.getElem?_toArray, List.getElem?_cons_succ, List.getElem?_cons_zero, Option.some.injEq, Nat.zero_add] at ho
              subst ho
              refine .inl ⟨rfl, fun K Q hK => ?_⟩
              simp only [putFrom, Act.put, List.setIfInBounds_toArray, List.set_cons_succ, List.set_cons_zero, Nat.reduceAdd] at hK ⊢
              have HK := Lib.hid hK
              clear hK hdep 
              go_simp
              exact HK.out _ _ _ rfl ⟨Below.refl _ _, rfl⟩
            rcases j with _ | j
            · simp only [List.getElem?_toArray, List.getElem?_cons_succ, List.getElem?_cons_zero, Option.some.injEq, Nat.zero_add] at ho
              subst ho
              refine .inl ⟨rfl, fun K Q hK => ?_⟩
              simp only [putFrom, Act.put, List.setIfInBounds_toArray, List.set_cons_succ, List.set_cons_zero, Nat.reduceAdd] at hK ⊢
              have HK := Lib.hid hK
              clear hK hdep 
              refine wp_load_mid 61 _ rfl gP 0 rfl (sigL ii dd) _ (HP5.out.below hI HP5.out.lt).range Tryd.underlying61 rfl HSL.out ?_
              simp only [Act.put, List.setIfInBounds_toArray, List.set_cons_succ, List.set_cons_zero]
              exact HK.out _ _ _ rfl ⟨Below.refl _ _, rfl⟩
            rcases j with _ | j
            · simp only [List.getElem?_toArray, List.getElem?_cons_succ, List.getElem?_cons_zero, Option.some.injEq, Nat.zero_add] at ho
              subst ho
              have e0 : vs 0 = .pointer (some ⟨f.r, 0, none⟩) := hdep 0 rfl
              have e2 : vs 2 = .int .i64 x.key := hdep 2 rfl
              have e3 : vs 3 = .slice (some ⟨gt, 0, none⟩) x.text.length ct := hdep 3 rfl
              have e4 : vs 4 = .agg (sigL ii dd).toArray := hdep 4 rfl
              refine .inl ⟨rfl, fun K Q hK => ?_⟩
              simp only [putFrom, Act.put, List.setIfInBounds_toArray, List.set_cons_succ, List.set_cons_zero, Nat.reduceAdd, e0, e2, e3, e4] at hK ⊢
              have HK := Lib.hid hK
              clear hK hdep e0 e2 e3 e4
              go_simp
              refine (HCK1.out wb hI).mono ?_
              rintro e w5 ⟨rfl, hB5⟩
              go_simp
              exact HK.out _ _ _ rfl ⟨hB5, rfl⟩
            rcases j with _ | j
            · simp only [List.getElem?_toArray, List.getElem?_cons_succ, List.getElem?_cons_zero, Option.some.injEq, Nat.zero_add] at ho
              subst ho
              refine .inl ⟨rfl, fun K Q hK => ?_⟩
              simp only [putFrom, Act.put, List.setIfInBounds_toArray, List.set_cons_succ, List.set_cons_zero, Nat.reduceAdd] at hK ⊢
              have HK := Lib.hid hK
              clear hK hdep 
              go_simp
              exact HK.out _ _ _ rfl ⟨Below.refl _ _, rfl⟩
            rcases j with _ | j
            · simp only [List.getElem?_toArray, List.getElem?_cons_succ, List.getElem?_cons_zero, Option.some.injEq, Nat.zero_add] at ho
              subst ho
              refine .inl ⟨rfl, fun K Q hK => ?_⟩
              simp only [putFrom, Act.put, List.setIfInBounds_toArray, List.set_cons_succ, List.set_cons_zero, Nat.reduceAdd] at hK ⊢
              have HK := Lib.hid hK
              clear hK hdep 
              go_simp
              exact HK.out _ _ _ rfl ⟨Below.refl _ _, rfl⟩
            rcases j with _ | j
            · simp only [List.getElem?_toArray, List.getElem?_cons_succ, List.getElem?_cons_zero, Option.some.injEq, Nat.zero_add] at ho
              subst ho
              have e7 : vs 7 = .pointer (some ⟨H0, 1, none⟩) := hdep 7 rfl
              have hX : HB wb H0 65 (stC x) := HX5.out.below hI HX5.out.lt
              have hc1 : wb.cell? ⟨H0, 1, none⟩ = some (.int .i64 x.key) := by rw [hX.cell]; rfl
              clear hX
              refine .inl ⟨rfl, fun K Q hK => ?_⟩
              simp only [putFrom, Act.put, List.setIfInBounds_toArray, List.set_cons_succ, List.set_cons_zero, Nat.reduceAdd, e7] at hK ⊢
              have HK := Lib.hid hK
              clear hK hdep e7
              go_simp
              exact HK.out _ _ _ rfl ⟨Below.refl _ _, rfl⟩
            rcases j with _ | j
            · simp only [List.getElem?_toArray, List.getElem?_cons_succ, List.getElem?_cons_zero, Option.some.injEq, Nat.zero_add] at ho
              subst ho
              refine .inl ⟨rfl, fun K Q hK => ?_⟩
              simp only [putFrom, Act.put, List.setIfInBounds_toArray, List.set_cons_succ, List.set_cons_zero, Nat.reduceAdd] at hK ⊢
              have HK := Lib.hid hK
              clear hK hdep 
              go_simp
              exact HK.out _ _ _ rfl ⟨Below.refl _ _, rfl⟩
            rcases j with _ | j
            · simp only [List.getElem?_toArray, List.getElem?_cons_succ, List.getElem?_cons_zero, Option.some.injEq, Nat.zero_add] at ho
              subst ho
              have e9 : vs 9 = .pointer (some ⟨H0, 4, none⟩) := hdep 9 rfl
              have hX : HB wb H0 65 (stC x) := HX5.out.below hI HX5.out.lt
              have hc4 : wb.cell? ⟨H0, 4, none⟩ = some (.string (strB x.text)) := by rw [hX.cell]; rfl
              clear hX
              refine .inl ⟨rfl, fun K Q hK => ?_⟩
              simp only [putFrom, Act.put, List.setIfInBounds_toArray, List.set_cons_succ, List.set_cons_zero, Nat.reduceAdd, e9] at hK ⊢
              have HK := Lib.hid hK
              clear hK hdep e9
              go_simp
              exact HK.out _ _ _ rfl ⟨Below.refl _ _, rfl⟩
            rcases j with _ | j
            · simp only [List.getElem?_toArray, List.getElem?_cons_succ, List.getElem?_cons_zero, Option.some.injEq, Nat.zero_add] at ho
              subst ho
              refine .inl ⟨rfl, fun K Q hK => ?_⟩
              simp only [putFrom, Act.put, List.setIfInBounds_toArray, List.set_cons_succ, List.set_cons_zero, Nat.reduceAdd] at hK ⊢
              have HK := Lib.hid hK
              clear hK hdep 
              refine wp_load_mid 61 _ rfl gP 0 rfl (sigL ii dd) _ (HP5.out.below hI HP5.out.lt).range Tryd.underlying61 rfl HSL.out ?_
              simp only [Act.put, List.setIfInBounds_toArray, List.set_cons_succ, List.set_cons_zero]
              exact HK.out _ _ _ rfl ⟨Below.refl _ _, rfl⟩
            rcases j with _ | j
            · simp only [List.getElem?_toArray, List.getElem?_cons_succ, List.getElem?_cons_zero, Option.some.injEq, Nat.zero_add] at ho
              subst ho
              have e6 : vs 6 = .pointer (some ⟨r5, 0, none⟩) := hdep 6 rfl
              have e8 : vs 8 = .int .i64 x.key := hdep 8 rfl
              have e10 : vs 10 = .string (strB x.text) := hdep 10 rfl
              have e11 : vs 11 = .agg (sigL ii dd).toArray := hdep 11 rfl
              refine .inl ⟨rfl, fun K Q hK => ?_⟩
              simp only [putFrom, Act.put, List.setIfInBounds_toArray, List.set_cons_succ, List.set_cons_zero, Nat.reduceAdd, e6, e8, e10, e11] at hK ⊢
              have HK := Lib.hid hK
              clear hK hdep e6 e8 e10 e11
              go_simp
              refine (HCK2.out wb hI).mono ?_
              rintro e w5 ⟨rfl, hB5⟩
              go_simp
              exact HK.out _ _ _ rfl ⟨hB5, rfl⟩
            rcases j with _ | j
            · simp only [List.getElem?_toArray, List.getElem?_cons_succ, List.getElem?_cons_zero, Option.some.injEq, Nat.zero_add] at ho
              subst ho
              have e5 : vs 5 = .bool bb := hdep 5 rfl
              have e12 : vs 12 = .bool bb := hdep 12 rfl
              refine .inl ⟨rfl, fun K Q hK => ?_⟩
              simp only [putFrom, Act.put, List.setIfInBounds_toArray, List.set_cons_succ, List.set_cons_zero, Nat.reduceAdd, e5, e12] at hK ⊢
              have HK := Lib.hid hK
              clear hK hdep e5 e12
              go_simp
              exact HK.out _ _ _ rfl ⟨Below.refl _ _, rfl⟩
            exact absurd ho (by simp)
          ·
            have e13 : vs 13 = .bool false := hR 13 (by decide)
            simp only [putFrom, Act.put, List.setIfInBounds_toArray, List.set_cons_succ, List.set_cons_zero, Nat.reduceAdd, e13]
            clear hR e13
            have HD6 := Lib.hid (HD5.out.later hI)
            have HX6 := Lib.hid (HX5.out.below hI HX5.out.lt)
            have HT6 := Lib.hid (HT5.out.later hI)
            clear hI
            have hc4 : w6.cell? ⟨H0, 4, none⟩ = some (.string (strB x.text)) := by rw [HX6.out.cell]; rfl
            have hcv := conv_sees ct HT6.out.sees
            have HEND := Lib.hid (show DoI W w6 f nk bud r5 (j + 1) L U v5 S wo ky nx _ from ⟨HD6.out, (by have := HFW.out; omega), (by have := HFS.out; omega), HSA.out⟩)
            go_wp2
            go_roundw
            case rel => exact ⟨j + 1, L, U, v5, S, wo, ky, nx, rfl, rfl, rfl, by go_num, by omega, HEND.out⟩
            case measure => simp [intOf]; omega
      have hK1 : (x.kind == 1) = false := by simpa using hk1
      have HK1 := Lib.hid hK1
      clear hK1
      by_cases hk2 : x.kind = 2
      · as_aux_lemma =>
          have hc0 : wT.cell? ⟨H0, 0, none⟩ = some (.int .i64 x.kind) := by rw [HXT.out.cell]; rfl
          have hc3 : wT.cell? ⟨H0, 3, none⟩ = some (.int .i64 x.ix) := by rw [HXT.out.cell]; rfl
          rw [hk2] at hc0
          have HII : Hid (I64 x.ix) := Lib.hid HOK.out.ix; have HDD : Hid (x.tag.length = 32) := Lib.hid HOK.out.tag
          have hrg : wT.rangeAt H0 5 (bys x.tag) := fun m u hu => by
            rw [HXT.out.cell]
            show (stC x)[5 + m]? = some u
            unfold stC
            rw [List.getElem?_append_right (by simp)]
            simpa using hu
          have HRG := Lib.hid hrg
          have HDL : Hid ((Tryd.prog.info? 24).map (·.size) = some (bys x.tag).length) := Lib.hid (by rw [bys_len, HDD.out]; kernel_rfl)
          have HBS := Lib.hid (built_sig x.ix x.tag HDD.out)
          clear hrg
          have HSI : Hid ((Tryd.prog.info? 61).map (·.size) = some (sigL x.ix x.tag).toArray.size) := sig_info HDD.out
          have HSL : Hid ((Tryd.prog.info? 61).map (·.size) = some (sigL x.ix x.tag).length) := sig_info_l HDD.out
          have HSS : Hid (sigZ.toArray.size = (sigL x.ix x.tag).toArray.size) := sig_size HDD.out
          have HSO := sigL_one x.ix x.tag
          have hz := Tryd.zeroSig
          have hnw := HB.new wT 61 sigZ
          have hrn := row_new wT (sigL x.ix x.tag)
          go_upto_region 30 with (first
            | (refine wpList_load_mid rfl 24 _ rfl H0 5 (by (simp only [Act.eval]; rfl)) (bys x.tag) _ HRG.out Tryd.underlying24 rfl HDL.out ?_)
            | (refine wpList_buildTo rfl 61 _ rfl _ rfl (sigL x.ix x.tag).toArray (by (simp only [List.map_toArray, List.map_cons, List.map_nil]; exact HBS.out)) ?_)
            | (refine wpList_store_row rfl 61 _ _ rfl wT.heap.size (sigL x.ix x.tag).toArray rfl rfl 61 _ hnw HSI.out HSS.out HSO.out ?_))
          clear hz hnw HRG HDL HBS
          clear hc0 hc3
          generalize (wT.alloc (.cells sigZ.toArray 61)).setRow wT.heap.size (sigL x.ix x.tag).toArray = w5 at *
          have HD5 := Lib.hid (HDT.out.later hrn.2)
          have HP5 := Lib.hid hrn.1
          have HTT := HT
          have HX5 := Lib.hid (HXT.out.below hrn.2 HXT.out.lt)
          have HT5 := Lib.hid (HTT.out.later hrn.2)
          generalize hgP : wT.heap.size = gP at *
          clear hgP hrn HXT HTT HDT HT
          have HCK1 := Lib.hid (fun wb (hI : Below w5.heap.size w5 wb) => check_any wb (HD5.out.law.ring.below hI) x.key x.ix HOK.out.key HII.out wb.heap.size (some ⟨gt, 0, none⟩) ct x.text (HT5.out.later hI).sees (Nat.le_refl _) HOK.out.text x.tag HDD.out)
          have HCK2 := Lib.hid (fun wb (hI : Below w5.heap.size w5 wb) => rcheck_any wb W.heap.size r5 nk bud v5 L (HD5.out.ring.below hI) HD5.out.in5 (by have := HN2.out; omega) HBU.out x.key x.ix HOK.out.key HII.out x.text HOK.out.text x.tag HDD.out)
          generalize chkB L ((x.key, x.ix), x.text) x.tag = bb at *
          refine wp_region_inv 237 (fun j v _ => v = ([.pointer (some ⟨f.r, 0, none⟩), .pointer (some ⟨H0, 1, none⟩), .int .i64 x.key, .slice (some ⟨gt, 0, none⟩) x.text.length ct, .agg (sigL x.ix x.tag).toArray, .bool bb, .pointer (some ⟨r5, 0, none⟩), .pointer (some ⟨H0, 1, none⟩), .int .i64 x.key, .pointer (some ⟨H0, 4, none⟩), .string (strB x.text), .agg (sigL x.ix x.tag).toArray, .bool bb, .bool false] : List Value).getD j undef) (Below w5.heap.size w5) (fun _ W W' => Below W.heap.size W W') (by kernel_rfl) (by rfl) (by kernel_rfl) (fun _ _ _ _ _ _ _ _ _ hR => hR) (fun _ _ _ e h => h.trans (e.mono h.size)) (Below.drew (Below.refl _ _)) (fun j o ho vs wb hI hdep => ?_) (fun vs w6 hI hR => ?_)
          · rcases j with _ | j
            · simp only [List.getElem?_toArray, List.getElem?_cons_zero, Option.some.injEq] at ho
              subst ho
              refine .inl ⟨rfl, fun K Q hK => ?_⟩
              simp only [putFrom, Act.put, List.setIfInBounds_toArray, List.set_cons_succ, List.set_cons_zero, Nat.reduceAdd] at hK ⊢
              have HK := Lib.hid hK
              clear hK hdep 
              go_simp
              exact HK.out _ _ _ rfl ⟨Below.refl _ _, rfl⟩
            rcases j with _ | j
            · simp only [List.getElem?_toArray, List.getElem?_cons_succ, List.getElem?_cons_zero, Option.some.injEq, Nat.zero_add] at ho
              subst ho
              refine .inl ⟨rfl, fun K Q hK => ?_⟩
              simp only [putFrom, Act.put, List.setIfInBounds_toArray, List.set_cons_succ, List.set_cons_zero, Nat.reduceAdd] at hK ⊢
              have HK := Lib.hid hK
              clear hK hdep 
              go_simp
              exact HK.out _ _ _ rfl ⟨Below.refl _ _, rfl⟩
            rcases j with _ | j
            · simp only [List.getElem?_toArray, List.getElem?_cons_succ, List.getElem?_cons_zero, Option.some.injEq, Nat.zero_add] at ho
              subst ho
              have e1 : vs 1 = .pointer (some ⟨H0, 1, none⟩) := hdep 1 rfl
              have hX : HB wb H0 65 (stC x) := HX5.out.below hI HX5.out.lt
              have hc1 : wb.cell? ⟨H0, 1, none⟩ = some (.int .i64 x.key) := by rw [hX.cell]; rfl
              clear hX
              refine .inl ⟨rfl, fun K Q hK => ?_⟩
              simp only [putFrom, Act.put, List.setIfInBounds_toArray, List.set_cons_succ, List.set_cons_zero, Nat.reduceAdd, e1] at hK ⊢
              have HK := Lib.hid hK
              clear hK hdep e1
              go_simp
              exact HK.out _ _ _ rfl ⟨Below.refl _ _, rfl⟩
            rcases j with _ | j
            · simp only [List.getElem?_toArray, List.getElem?_cons_succ, List.getElem?_cons_zero, Option.some.injEq, Nat.zero_add] at ho
              subst ho
              refine .inl ⟨rfl, fun K Q hK => ?_⟩
              simp only [putFrom, Act.put, List.setIfInBounds_toArray, List.set_cons_succ, List.set_cons_zero, Nat.reduceAdd] at hK ⊢
              have HK := Lib.hid hK
              clear hK hdep 
              go_simp
              exact HK.out _ _ _ rfl ⟨Below.refl _ _, rfl⟩
            rcases j with _ | j
            · simp only [List.getElem?_toArray, List.getElem?_cons_succ, List.getElem?_cons_zero, Option.some.injEq, Nat.zero_add] at ho
              subst ho
              refine .inl ⟨rfl, fun K Q hK => ?_⟩
              simp only [putFrom, Act.put, List.setIfInBounds_toArray, List.set_cons_succ, List.set_cons_zero, Nat.reduceAdd] at hK ⊢
              have HK := Lib.hid hK
              clear hK hdep 
              refine wp_load_mid 61 _ rfl gP 0 rfl (sigL x.ix x.tag) _ (HP5.out.below hI HP5.out.lt).range Tryd.underlying61 rfl HSL.out ?_
              simp only [Act.put, List.setIfInBounds_toArray, List.set_cons_succ, List.set_cons_zero]
              exact HK.out _ _ _ rfl ⟨Below.refl _ _, rfl⟩
            rcases j with _ | j
            · simp only [List.getElem?_toArray, List.getElem?_cons_succ, List.getElem?_cons_zero, Option.some.injEq, Nat.zero_add] at ho
              subst ho
              have e0 : vs 0 = .pointer (some ⟨f.r, 0, none⟩) := hdep 0 rfl
              have e2 : vs 2 = .int .i64 x.key := hdep 2 rfl
              have e3 : vs 3 = .slice (some ⟨gt, 0, none⟩) x.text.length ct := hdep 3 rfl
              have e4 : vs 4 = .agg (sigL x.ix x.tag).toArray := hdep 4 rfl
              refine .inl ⟨rfl, fun K Q hK => ?_⟩
              simp only [putFrom, Act.put, List.setIfInBounds_toArray, List.set_cons_succ, List.set_cons_zero, Nat.reduceAdd, e0, e2, e3, e4] at hK ⊢
              have HK := Lib.hid hK
              clear hK hdep e0 e2 e3 e4
              go_simp
              refine (HCK1.out wb hI).mono ?_
              rintro e w5 ⟨rfl, hB5⟩
              go_simp
              exact HK.out _ _ _ rfl ⟨hB5, rfl⟩
            rcases j with _ | j
            · simp only [List.getElem?_toArray, List.getElem?_cons_succ, List.getElem?_cons_zero, Option.some.injEq, Nat.zero_add] at ho
              subst ho
              refine .inl ⟨rfl, fun K Q hK => ?_⟩
              simp only [putFrom, Act.put, List.setIfInBounds_toArray, List.set_cons_succ, List.set_cons_zero, Nat.reduceAdd] at hK ⊢
              have HK := Lib.hid hK
              clear hK hdep 
              go_simp
              exact HK.out _ _ _ rfl ⟨Below.refl _ _, rfl⟩
            rcases j with _ | j
            · simp only [List.getElem?_toArray, List.getElem?_cons_succ, List.getElem?_cons_zero, Option.some.injEq, Nat.zero_add] at ho
              subst ho
              refine .inl ⟨rfl, fun K Q hK => ?_⟩
              simp only [putFrom, Act.put, List.setIfInBounds_toArray, List.set_cons_succ, List.set_cons_zero, Nat.reduceAdd] at hK ⊢
              have HK := Lib.hid hK
              clear hK hdep 
              go_simp
              exact HK.out _ _ _ rfl ⟨Below.refl _ _, rfl⟩
            rcases j with _ | j
            · simp only [List.getElem?_toArray, List.getElem?_cons_succ, List.getElem?_cons_zero, Option.some.injEq, Nat.zero_add] at ho
              subst ho
              have e7 : vs 7 = .pointer (some ⟨H0, 1, none⟩) := hdep 7 rfl
              have hX : HB wb H0 65 (stC x) := HX5.out.below hI HX5.out.lt
              have hc1 : wb.cell? ⟨H0, 1, none⟩ = some (.int .i64 x.key) := by rw [hX.cell]; rfl
              clear hX
              refine .inl ⟨rfl, fun K Q hK => ?_⟩
              simp only [putFrom, Act.put, List.setIfInBounds_toArray, List.set_cons_succ, List.set_cons_zero, Nat.reduceAdd, e7] at hK ⊢
              have HK := Lib.hid hK
              clear hK hdep e7
              go_simp
              exact HK.out _ _ _ rfl ⟨Below.refl _ _, rfl⟩
            rcases j with _ | j
            · simp only [List.getElem?_toArray, List.getElem?_cons_succ, List.getElem?_cons_zero, Option.some.injEq, Nat.zero_add] at ho
              subst ho
              refine .inl ⟨rfl, fun K Q hK => ?_⟩
              simp only [putFrom, Act.put, List.setIfInBounds_toArray, List.set_cons_succ, List.set_cons_zero, Nat.reduceAdd] at hK ⊢
              have HK := Lib.hid hK
              clear hK hdep 
              go_simp
              exact HK.out _ _ _ rfl ⟨Below.refl _ _, rfl⟩
            rcases j with _ | j
            · simp only [List.getElem?_toArray, List.getElem?_cons_succ, List.getElem?_cons_zero, Option.some.injEq, Nat.zero_add] at ho
              subst ho
              have e9 : vs 9 = .pointer (some ⟨H0, 4, none⟩) := hdep 9 rfl
              have hX : HB wb H0 65 (stC x) := HX5.out.below hI HX5.out.lt
              have hc4 : wb.cell? ⟨H0, 4, none⟩ = some (.string (strB x.text)) := by rw [hX.cell]; rfl
              clear hX
              refine .inl ⟨rfl, fun K Q hK => ?_⟩
              simp only [putFrom, Act.put, List.setIfInBounds_toArray, List.set_cons_succ, List.set_cons_zero, Nat.reduceAdd, e9] at hK ⊢
              have HK := Lib.hid hK
              clear hK hdep e9
              go_simp
              exact HK.out _ _ _ rfl ⟨Below.refl _ _, rfl⟩
            rcases j with _ | j
            · simp only [List.getElem?_toArray, List.getElem?_cons_succ, List.getElem?_cons_zero, Option.some.injEq, Nat.zero_add] at ho
              subst ho
              refine .inl ⟨rfl, fun K Q hK => ?_⟩
              simp only [putFrom, Act.put, List.setIfInBounds_toArray, List.set_cons_succ, List.set_cons_zero, Nat.reduceAdd] at hK ⊢
              have HK := Lib.hid hK
              clear hK hdep 
              refine wp_load_mid 61 _ rfl gP 0 rfl (sigL x.ix x.tag) _ (HP5.out.below hI HP5.out.lt).range Tryd.underlying61 rfl HSL.out ?_
              simp only [Act.put, List.setIfInBounds_toArray, List.set_cons_succ, List.set_cons_zero]
              exact HK.out _ _ _ rfl ⟨Below.refl _ _, rfl⟩
            rcases j with _ | j
            · simp only [List.getElem?_toArray, List.getElem?_cons_succ, List.getElem?_cons_zero, Option.some.injEq, Nat.zero_add] at ho
              subst ho
              have e6 : vs 6 = .pointer (some ⟨r5, 0, none⟩) := hdep 6 rfl
              have e8 : vs 8 = .int .i64 x.key := hdep 8 rfl
              have e10 : vs 10 = .string (strB x.text) := hdep 10 rfl
              have e11 : vs 11 = .agg (sigL x.ix x.tag).toArray := hdep 11 rfl
              refine .inl ⟨rfl, fun K Q hK => ?_⟩
              simp only [putFrom, Act.put, List.setIfInBounds_toArray, List.set_cons_succ, List.set_cons_zero, Nat.reduceAdd, e6, e8, e10, e11] at hK ⊢
              have HK := Lib.hid hK
              clear hK hdep e6 e8 e10 e11
              go_simp
              refine (HCK2.out wb hI).mono ?_
              rintro e w5 ⟨rfl, hB5⟩
              go_simp
              exact HK.out _ _ _ rfl ⟨hB5, rfl⟩
            rcases j with _ | j
            · simp only [List.getElem?_toArray, List.getElem?_cons_succ, List.getElem?_cons_zero, Option.some.injEq, Nat.zero_add] at ho
              subst ho
              have e5 : vs 5 = .bool bb := hdep 5 rfl
              have e12 : vs 12 = .bool bb := hdep 12 rfl
              refine .inl ⟨rfl, fun K Q hK => ?_⟩
              simp only [putFrom, Act.put, List.setIfInBounds_toArray, List.set_cons_succ, List.set_cons_zero, Nat.reduceAdd, e5, e12] at hK ⊢
              have HK := Lib.hid hK
              clear hK hdep e5 e12
              go_simp
              exact HK.out _ _ _ rfl ⟨Below.refl _ _, rfl⟩
            exact absurd ho (by simp)
          ·
            have e13 : vs 13 = .bool false := hR 13 (by decide)
            simp only [putFrom, Act.put, List.setIfInBounds_toArray, List.set_cons_succ, List.set_cons_zero, Nat.reduceAdd, e13]
            clear hR e13
            have HD6 := Lib.hid (HD5.out.later hI)
            have HX6 := Lib.hid (HX5.out.below hI HX5.out.lt)
            have HT6 := Lib.hid (HT5.out.later hI)
            clear hI
            have hc4 : w6.cell? ⟨H0, 4, none⟩ = some (.string (strB x.text)) := by rw [HX6.out.cell]; rfl
            have hcv := conv_sees ct HT6.out.sees
            have HEND := Lib.hid (show DoI W w6 f nk bud r5 (j + 1) L U v5 S wo ky nx u9 from ⟨HD6.out, (by have := HFW.out; omega), (by have := HFS.out; omega), HSA.out⟩)
            go_wp2
            go_roundw
            case rel => exact ⟨j + 1, L, U, v5, S, wo, ky, nx, rfl, rfl, rfl, by go_num, by omega, HEND.out⟩
            case measure => simp [intOf]; omega
      have hK2 : (x.kind == 2) = false := by simpa using hk2
      have HK2 := Lib.hid hK2
      clear hK2
      by_cases hk3 : x.kind = 3
      · as_aux_lemma =>
          have hc0 : wT.cell? ⟨H0, 0, none⟩ = some (.int .i64 x.kind) := by rw [HXT.out.cell]; rfl
          have hc1 : wT.cell? ⟨H0, 1, none⟩ = some (.int .i64 x.key) := by rw [HXT.out.cell]; rfl
          have hc3 : wT.cell? ⟨H0, 3, none⟩ = some (.int .i64 x.ix) := by rw [HXT.out.cell]; rfl
          rw [hk3] at hc0
          by_cases hko : x.key < 0 ∨ (nk : Int) ≤ x.key
          ·
            have HNO := Lib.hid (signer_no wT HDT.out.law.ring x.key hko x.ix)
            have HDN := Lib.hid HDT.out.nowho
            clear HSA
            by_cases hneg : x.key < 0
            · have hk0' : x.key < 0 := hneg
              clear hko hneg
              go_wp2_with fail
              refine HNO.out.mono ?_
              rintro e w5 ⟨rfl, rfl⟩
              clear HNO
              go_wp2_with fail
              clear hk0'
              clear hc0 hc1 hc3
              have HTT := HT
              obtain ⟨wd, hwd⟩ : ∃ wd : World, wd = wT.drew := ⟨_, rfl⟩
              have hBd : Below wT.heap.size wT wd := by rw [hwd]; exact Below.drew (Below.refl _ _)
              refine wp_region_inv 237 (fun j v _ => v = ([.pointer (some ⟨H0, 1, none⟩), .int .i64 x.key, .pointer (some ⟨H0, 3, none⟩), .int .i64 x.ix, .int .i64 (if x.ix < 0 then 0 else x.ix), .int .i64 x.key, .int .i64 (if x.ix < 0 then 0 else x.ix)] : List Value).getD j undef) (· = wd) (fun _ W W' => W = W') (by kernel_rfl) (by rfl) (by kernel_rfl) (fun _ _ _ _ _ _ _ _ _ hR => hR) (fun _ _ _ e h => e.symm.trans h) hwd.symm (fun j o ho vs wb hI hdep => ?_) (fun vs wb hI hR => ?_)
              · subst hI
                clear hwd
                rcases j with _ | j
                · simp only [List.getElem?_toArray, List.getElem?_cons_zero, Option.some.injEq] at ho
                  subst ho
                  refine .inl ⟨rfl, fun K Q hK => ?_⟩
                  simp only [putFrom, Act.put, List.setIfInBounds_toArray, List.set_cons_succ, List.set_cons_zero, Nat.reduceAdd] at hK ⊢
                  have HK := Lib.hid hK
                  clear hK hdep 
                  go_simp
                  exact HK.out _ _ _ rfl ⟨rfl, rfl⟩
                rcases j with _ | j
                · simp only [List.getElem?_toArray, List.getElem?_cons_succ, List.getElem?_cons_zero, Option.some.injEq, Nat.zero_add] at ho
                  subst ho
                  have e0 : vs 0 = .pointer (some ⟨H0, 1, none⟩) := hdep 0 rfl
                  have hX : HB wb H0 65 (stC x) := HXT.out.below hBd HXT.out.lt
                  have hc1 : wb.cell? ⟨H0, 1, none⟩ = some (.int .i64 x.key) := by rw [hX.cell]; rfl
                  clear hX
                  refine .inl ⟨rfl, fun K Q hK => ?_⟩
                  simp only [putFrom, Act.put, List.setIfInBounds_toArray, List.set_cons_succ, List.set_cons_zero, Nat.reduceAdd, e0] at hK ⊢
                  have HK := Lib.hid hK
                  clear hK hdep e0
                  go_simp
                  exact HK.out _ _ _ rfl ⟨rfl, rfl⟩
                rcases j with _ | j
                · simp only [List.getElem?_toArray, List.getElem?_cons_succ, List.getElem?_cons_zero, Option.some.injEq, Nat.zero_add] at ho
                  subst ho
                  refine .inl ⟨rfl, fun K Q hK => ?_⟩
                  simp only [putFrom, Act.put, List.setIfInBounds_toArray, List.set_cons_succ, List.set_cons_zero, Nat.reduceAdd] at hK ⊢
                  have HK := Lib.hid hK
                  clear hK hdep 
                  go_simp
                  exact HK.out _ _ _ rfl ⟨rfl, rfl⟩
                rcases j with _ | j
                · simp only [List.getElem?_toArray, List.getElem?_cons_succ, List.getElem?_cons_zero, Option.some.injEq, Nat.zero_add] at ho
                  subst ho
                  have e2 : vs 2 = .pointer (some ⟨H0, 3, none⟩) := hdep 2 rfl
                  have hX : HB wb H0 65 (stC x) := HXT.out.below hBd HXT.out.lt
                  have hc3 : wb.cell? ⟨H0, 3, none⟩ = some (.int .i64 x.ix) := by rw [hX.cell]; rfl
                  clear hX
                  refine .inl ⟨rfl, fun K Q hK => ?_⟩
                  simp only [putFrom, Act.put, List.setIfInBounds_toArray, List.set_cons_succ, List.set_cons_zero, Nat.reduceAdd, e2] at hK ⊢
                  have HK := Lib.hid hK
                  clear hK hdep e2
                  go_simp
                  exact HK.out _ _ _ rfl ⟨rfl, rfl⟩
                rcases j with _ | j
                · simp only [List.getElem?_toArray, List.getElem?_cons_succ, List.getElem?_cons_zero, Option.some.injEq, Nat.zero_add] at ho
                  subst ho
                  have e3 : vs 3 = .int .i64 x.ix := hdep 3 rfl
                  refine .inl ⟨rfl, fun K Q hK => ?_⟩
                  simp only [putFrom, Act.put, List.setIfInBounds_toArray, List.set_cons_succ, List.set_cons_zero, Nat.reduceAdd, e3] at hK ⊢
                  have HK := Lib.hid hK
                  clear hK hdep e3
                  go_simp
                  exact HK.out _ _ _ rfl ⟨rfl, rfl⟩
                rcases j with _ | j
                · simp only [List.getElem?_toArray, List.getElem?_cons_succ, List.getElem?_cons_zero, Option.some.injEq, Nat.zero_add] at ho
                  subst ho
                  have e1 : vs 1 = .int .i64 x.key := hdep 1 rfl
                  refine .inl ⟨rfl, fun K Q hK => ?_⟩
                  simp only [putFrom, Act.put, List.setIfInBounds_toArray, List.set_cons_succ, List.set_cons_zero, Nat.reduceAdd, e1] at hK ⊢
                  have HK := Lib.hid hK
                  clear hK hdep e1
                  go_simp
                  exact HK.out _ _ _ rfl ⟨rfl, rfl⟩
                rcases j with _ | j
                · simp only [List.getElem?_toArray, List.getElem?_cons_succ, List.getElem?_cons_zero, Option.some.injEq, Nat.zero_add] at ho
                  subst ho
                  have e4 : vs 4 = .int .i64 (if x.ix < 0 then 0 else x.ix) := hdep 4 rfl
                  refine .inl ⟨rfl, fun K Q hK => ?_⟩
                  simp only [putFrom, Act.put, List.setIfInBounds_toArray, List.set_cons_succ, List.set_cons_zero, Nat.reduceAdd, e4] at hK ⊢
                  have HK := Lib.hid hK
                  clear hK hdep e4
                  go_simp
                  exact HK.out _ _ _ rfl ⟨rfl, rfl⟩
                exact absurd ho (by simp)
              ·
                subst hI
                clear hwd
                have e5 : vs 5 = .int .i64 x.key := hR 5 (by decide)
                have e6 : vs 6 = .int .i64 (if x.ix < 0 then 0 else x.ix) := hR 6 (by decide)
                simp only [putFrom, Act.put, List.setIfInBounds_toArray, List.set_cons_succ, List.set_cons_zero, Nat.reduceAdd, e5, e6]
                clear hR e5 e6
                have HDd := Lib.hid (HDN.out.later hBd)
                have HXd := Lib.hid (HXT.out.below hBd HXT.out.lt)
                have HTd := Lib.hid (HTT.out.later hBd)
                clear hBd HDT HXT HTT
                generalize (if x.ix < 0 then 0 else x.ix) = nn at *
                have HEND := Lib.hid (show DoI W wb f nk bud r5 (j + 1) L U v5 S none x.key nn u9 from ⟨HDd.out, (by have := HFW.out; omega), (by have := HFS.out; omega), (fun g k n e => by cases e)⟩)
                go_wp2
                go_roundw
                case rel => exact ⟨j + 1, L, U, v5, S, none, x.key, nn, rfl, rfl, rfl, by go_num, by omega, HEND.out⟩
                case measure => simp [intOf]; omega
            · have hk0' : ¬ x.key < 0 := hneg
              have hk1' : (0 : Int) ≤ x.key := by omega
              have hk2' : (nk : Int) ≤ x.key := by omega
              have hk3' : decide (x.key < 0) = false := by simpa using hneg
              clear hko hneg
              go_wp2_with fail
              refine HNO.out.mono ?_
              rintro e w5 ⟨rfl, rfl⟩
              clear HNO
              go_wp2_with fail
              clear hk0' hk1' hk2' hk3'
              clear hc0 hc1 hc3
              have HTT := HT
              obtain ⟨wd, hwd⟩ : ∃ wd : World, wd = wT.drew := ⟨_, rfl⟩
              have hBd : Below wT.heap.size wT wd := by rw [hwd]; exact Below.drew (Below.refl _ _)
              refine wp_region_inv 237 (fun j v _ => v = ([.pointer (some ⟨H0, 1, none⟩), .int .i64 x.key, .pointer (some ⟨H0, 3, none⟩), .int .i64 x.ix, .int .i64 (if x.ix < 0 then 0 else x.ix), .int .i64 x.key, .int .i64 (if x.ix < 0 then 0 else x.ix)] : List Value).getD j undef) (· = wd) (fun _ W W' => W = W') (by kernel_rfl) (by rfl) (by kernel_rfl) (fun _ _ _ _ _ _ _ _ _ hR => hR) (fun _ _ _ e h => e.symm.trans h) hwd.symm (fun j o ho vs wb hI hdep => ?_) (fun vs wb hI hR => ?_)
              · subst hI
                clear hwd
                rcases j with _ | j
                · simp only [List.getElem?_toArray, List.getElem?_cons_zero, Option.some.injEq] at ho
                  subst ho
                  refine .inl ⟨rfl, fun K Q hK => ?_⟩
                  simp only [putFrom, Act.put, List.setIfInBounds_toArray, List.set_cons_succ, List.set_cons_zero, Nat.reduceAdd] at hK ⊢
                  have HK := Lib.hid hK
                  clear hK hdep 
                  go_simp
                  exact HK.out _ _ _ rfl ⟨rfl, rfl⟩
                rcases j with _ | j
                · simp only [List.getElem?_toArray, List.getElem?_cons_succ, List.getElem?_cons_zero, Option.some.injEq, Nat.zero_add] at ho
                  subst ho
                  have e0 : vs 0 = .pointer (some ⟨H0, 1, none⟩) := hdep 0 rfl
                  have hX : HB wb H0 65 (stC x) := HXT.out.below hBd HXT.out.lt
                  have hc1 : wb.cell? ⟨H0, 1, none⟩ = some (.int .i64 x.key) := by rw [hX.cell]; rfl
                  clear hX
                  refine .inl ⟨rfl, fun K Q hK => ?_⟩
                  simp only [putFrom, Act.put, List.setIfInBounds_toArray, List.set_cons_succ, List.set_cons_zero, Nat.reduceAdd, e0] at hK ⊢
                  have HK := Lib.hid hK
                  clear hK hdep e0
                  go_simp
                  exact HK.out _ _ _ rfl ⟨rfl, rfl⟩
                rcases j with _ | j
                · simp only [List.getElem?_toArray, List.getElem?_cons_succ, List.getElem?_cons_zero, Option.some.injEq, Nat.zero_add] at ho
                  subst ho
                  refine .inl ⟨rfl, fun K Q hK => ?_⟩
                  simp only [putFrom, Act.put, List.setIfInBounds_toArray, List.set_cons_succ, List.set_cons_zero, Nat.reduceAdd] at hK ⊢
                  have HK := Lib.hid hK
                  clear hK hdep 
                  go_simp
                  exact HK.out _ _ _ rfl ⟨rfl, rfl⟩
                rcases j with _ | j
                · simp only [List.getElem?_toArray, List.getElem?_cons_succ, List.getElem?_cons_zero, Option.some.injEq, Nat.zero_add] at ho
                  subst ho
                  have e2 : vs 2 = .pointer (some ⟨H0, 3, none⟩) := hdep 2 rfl
                  have hX : HB wb H0 65 (stC x) := HXT.out.below hBd HXT.out.lt
                  have hc3 : wb.cell? ⟨H0, 3, none⟩ = some (.int .i64 x.ix) := by rw [hX.cell]; rfl
                  clear hX
                  refine .inl ⟨rfl, fun K Q hK => ?_⟩
                  simp only [putFrom, Act.put, List.setIfInBounds_toArray, List.set_cons_succ, List.set_cons_zero, Nat.reduceAdd, e2] at hK ⊢
                  have HK := Lib.hid hK
                  clear hK hdep e2
                  go_simp
                  exact HK.out _ _ _ rfl ⟨rfl, rfl⟩
                rcases j with _ | j
                · simp only [List.getElem?_toArray, List.getElem?_cons_succ, List.getElem?_cons_zero, Option.some.injEq, Nat.zero_add] at ho
                  subst ho
                  have e3 : vs 3 = .int .i64 x.ix := hdep 3 rfl
                  refine .inl ⟨rfl, fun K Q hK => ?_⟩
                  simp only [putFrom, Act.put, List.setIfInBounds_toArray, List.set_cons_succ, List.set_cons_zero, Nat.reduceAdd, e3] at hK ⊢
                  have HK := Lib.hid hK
                  clear hK hdep e3
                  go_simp
                  exact HK.out _ _ _ rfl ⟨rfl, rfl⟩
                rcases j with _ | j
                · simp only [List.getElem?_toArray, List.getElem?_cons_succ, List.getElem?_cons_zero, Option.some.injEq, Nat.zero_add] at ho
                  subst ho
                  have e1 : vs 1 = .int .i64 x.key := hdep 1 rfl
                  refine .inl ⟨rfl, fun K Q hK => ?_⟩
                  simp only [putFrom, Act.put, List.setIfInBounds_toArray, List.set_cons_succ, List.set_cons_zero, Nat.reduceAdd, e1] at hK ⊢
                  have HK := Lib.hid hK
                  clear hK hdep e1
                  go_simp
                  exact HK.out _ _ _ rfl ⟨rfl, rfl⟩
                rcases j with _ | j
                · simp only [List.getElem?_toArray, List.getElem?_cons_succ, List.getElem?_cons_zero, Option.some.injEq, Nat.zero_add] at ho
                  subst ho
                  have e4 : vs 4 = .int .i64 (if x.ix < 0 then 0 else x.ix) := hdep 4 rfl
                  refine .inl ⟨rfl, fun K Q hK => ?_⟩
                  simp only [putFrom, Act.put, List.setIfInBounds_toArray, List.set_cons_succ, List.set_cons_zero, Nat.reduceAdd, e4] at hK ⊢
                  have HK := Lib.hid hK
                  clear hK hdep e4
                  go_simp
                  exact HK.out _ _ _ rfl ⟨rfl, rfl⟩
                exact absurd ho (by simp)
              ·
                subst hI
                clear hwd
                have e5 : vs 5 = .int .i64 x.key := hR 5 (by decide)
                have e6 : vs 6 = .int .i64 (if x.ix < 0 then 0 else x.ix) := hR 6 (by decide)
                simp only [putFrom, Act.put, List.setIfInBounds_toArray, List.set_cons_succ, List.set_cons_zero, Nat.reduceAdd, e5, e6]
                clear hR e5 e6
                have HDd := Lib.hid (HDN.out.later hBd)
                have HXd := Lib.hid (HXT.out.below hBd HXT.out.lt)
                have HTd := Lib.hid (HTT.out.later hBd)
                clear hBd HDT HXT HTT
                generalize (if x.ix < 0 then 0 else x.ix) = nn at *
                have HEND := Lib.hid (show DoI W wb f nk bud r5 (j + 1) L U v5 S none x.key nn u9 from ⟨HDd.out, (by have := HFW.out; omega), (by have := HFS.out; omega), (fun g k n e => by cases e)⟩)
                go_wp2
                go_roundw
                case rel => exact ⟨j + 1, L, U, v5, S, none, x.key, nn, rfl, rfl, rfl, by go_num, by omega, HEND.out⟩
                case measure => simp [intOf]; omega
          · obtain ⟨kk, hkk⟩ : ∃ kk : Nat, x.key = (kk : Int) := ⟨x.key.toNat, by omega⟩
            have hkn : kk < nk := by omega
            have HKK := Lib.hid hkk
            have HSN : Hid (Calls Tryd.prog 31 #[.pointer (some ⟨f.r, 0, none⟩), .int .i64 x.key, .int .i64 x.ix] wT (NewS wT f kk (max x.ix 0))) := Lib.hid (by rw [hkk]; exact signer_ok wT HDT.out.law.ring kk hkn x.ix)
            have hk0' : ¬ x.key < 0 := by omega
            have hk1' : ¬ (nk : Int) ≤ x.key := by omega
            have hk1'' : x.key < (nk : Int) := by omega
            have hk2' : (0 : Int) ≤ x.key := by omega
            have hk3' : decide (x.key < 0) = false := by simpa using hk0'
            have hk4' : decide ((nk : Int) ≤ x.key) = false := by simpa using hk1'
            clear hko HSA
            clear hkk
            have HKQ := Lib.hid hkn
            clear hkn
            go_wp2_with fail
            refine HSN.out.mono ?_
            rintro e w5 ⟨g0, rfl, hsg, hB5, hg0⟩
            rw [max_if] at hsg
            clear hc0 hc1 hc3 HSN
            have HGX : Hid (g0 ≠ H0) := Lib.hid (fun e => by have := HXT.out.lt; omega)
            have HGT : Hid (g0 ≠ gt) := Lib.hid (fun e => by have := HG0.out; omega)
            have HD5 := Lib.hid ((HDT.out.later hB5).setwho hsg (Nat.le_trans HDT.out.law.below.size hg0) HKQ.out (by split <;> omega) (by have := HOK.out.ix.2; split <;> omega))
            have HTT := HT
            have HX5 := Lib.hid (HXT.out.below hB5 HXT.out.lt)
            have HT5 := Lib.hid (HTT.out.later hB5)
            clear hB5 hsg hg0 HXT HTT HT HDT
            have hc1 : w5.cell? ⟨H0, 1, none⟩ = some (.int .i64 x.key) := by rw [HX5.out.cell]; rfl
            go_wp2_with fail
            clear hc1 hk0' hk1' hk1'' hk2' hk3' hk4'
            obtain ⟨wd, hwd⟩ : ∃ wd : World, wd = w5.drew := ⟨_, rfl⟩
            have hBd : Below w5.heap.size w5 wd := by rw [hwd]; exact Below.drew (Below.refl _ _)
            refine wp_region_inv 237 (fun j v _ => v = ([.pointer (some ⟨H0, 1, none⟩), .int .i64 x.key, .pointer (some ⟨H0, 3, none⟩), .int .i64 x.ix, .int .i64 (if x.ix < 0 then 0 else x.ix), .int .i64 x.key, .int .i64 (if x.ix < 0 then 0 else x.ix)] : List Value).getD j undef) (· = wd) (fun _ W W' => W = W') (by kernel_rfl) (by rfl) (by kernel_rfl) (fun _ _ _ _ _ _ _ _ _ hR => hR) (fun _ _ _ e h => e.symm.trans h) hwd.symm (fun j o ho vs wb hI hdep => ?_) (fun vs wb hI hR => ?_)
            · subst hI
              clear hwd
              rcases j with _ | j
              · simp only [List.getElem?_toArray, List.getElem?_cons_zero, Option.some.injEq] at ho
                subst ho
                refine .inl ⟨rfl, fun K Q hK => ?_⟩
                simp only [putFrom, Act.put, List.setIfInBounds_toArray, List.set_cons_succ, List.set_cons_zero, Nat.reduceAdd] at hK ⊢
                have HK := Lib.hid hK
                clear hK hdep 
                go_simp
                exact HK.out _ _ _ rfl ⟨rfl, rfl⟩
              rcases j with _ | j
              · simp only [List.getElem?_toArray, List.getElem?_cons_succ, List.getElem?_cons_zero, Option.some.injEq, Nat.zero_add] at ho
                subst ho
                have e0 : vs 0 = .pointer (some ⟨H0, 1, none⟩) := hdep 0 rfl
                have hX : HB wb H0 65 (stC x) := HX5.out.below hBd HX5.out.lt
                have hc1 : wb.cell? ⟨H0, 1, none⟩ = some (.int .i64 x.key) := by rw [hX.cell]; rfl
                clear hX
                refine .inl ⟨rfl, fun K Q hK => ?_⟩
                simp only [putFrom, Act.put, List.setIfInBounds_toArray, List.set_cons_succ, List.set_cons_zero, Nat.reduceAdd, e0] at hK ⊢
                have HK := Lib.hid hK
                clear hK hdep e0
                go_simp
                exact HK.out _ _ _ rfl ⟨rfl, rfl⟩
              rcases j with _ | j
              · simp only [List.getElem?_toArray, List.getElem?_cons_succ, List.getElem?_cons_zero, Option.some.injEq, Nat.zero_add] at ho
                subst ho
                refine .inl ⟨rfl, fun K Q hK => ?_⟩
                simp only [putFrom, Act.put, List.setIfInBounds_toArray, List.set_cons_succ, List.set_cons_zero, Nat.reduceAdd] at hK ⊢
                have HK := Lib.hid hK
                clear hK hdep 
                go_simp
                exact HK.out _ _ _ rfl ⟨rfl, rfl⟩
              rcases j with _ | j
              · simp only [List.getElem?_toArray, List.getElem?_cons_succ, List.getElem?_cons_zero, Option.some.injEq, Nat.zero_add] at ho
                subst ho
                have e2 : vs 2 = .pointer (some ⟨H0, 3, none⟩) := hdep 2 rfl
                have hX : HB wb H0 65 (stC x) := HX5.out.below hBd HX5.out.lt
                have hc3 : wb.cell? ⟨H0, 3, none⟩ = some (.int .i64 x.ix) := by rw [hX.cell]; rfl
                clear hX
                refine .inl ⟨rfl, fun K Q hK => ?_⟩
                simp only [putFrom, Act.put, List.setIfInBounds_toArray, List.set_cons_succ, List.set_cons_zero, Nat.reduceAdd, e2] at hK ⊢
                have HK := Lib.hid hK
                clear hK hdep e2
                go_simp
                exact HK.out _ _ _ rfl ⟨rfl, rfl⟩
              rcases j with _ | j
              · simp only [List.getElem?_toArray, List.getElem?_cons_succ, List.getElem?_cons_zero, Option.some.injEq, Nat.zero_add] at ho
                subst ho
                have e3 : vs 3 = .int .i64 x.ix := hdep 3 rfl
                refine .inl ⟨rfl, fun K Q hK => ?_⟩
                simp only [putFrom, Act.put, List.setIfInBounds_toArray, List.set_cons_succ, List.set_cons_zero, Nat.reduceAdd, e3] at hK ⊢
                have HK := Lib.hid hK
                clear hK hdep e3
                go_simp
                exact HK.out _ _ _ rfl ⟨rfl, rfl⟩
              rcases j with _ | j
              · simp only [List.getElem?_toArray, List.getElem?_cons_succ, List.getElem?_cons_zero, Option.some.injEq, Nat.zero_add] at ho
                subst ho
                have e1 : vs 1 = .int .i64 x.key := hdep 1 rfl
                refine .inl ⟨rfl, fun K Q hK => ?_⟩
                simp only [putFrom, Act.put, List.setIfInBounds_toArray, List.set_cons_succ, List.set_cons_zero, Nat.reduceAdd, e1] at hK ⊢
                have HK := Lib.hid hK
                clear hK hdep e1
                go_simp
                exact HK.out _ _ _ rfl ⟨rfl, rfl⟩
              rcases j with _ | j
              · simp only [List.getElem?_toArray, List.getElem?_cons_succ, List.getElem?_cons_zero, Option.some.injEq, Nat.zero_add] at ho
                subst ho
                have e4 : vs 4 = .int .i64 (if x.ix < 0 then 0 else x.ix) := hdep 4 rfl
                refine .inl ⟨rfl, fun K Q hK => ?_⟩
                simp only [putFrom, Act.put, List.setIfInBounds_toArray, List.set_cons_succ, List.set_cons_zero, Nat.reduceAdd, e4] at hK ⊢
                have HK := Lib.hid hK
                clear hK hdep e4
                go_simp
                exact HK.out _ _ _ rfl ⟨rfl, rfl⟩
              exact absurd ho (by simp)
            ·
              subst hI
              clear hwd
              have e5 : vs 5 = .int .i64 x.key := hR 5 (by decide)
              have e6 : vs 6 = .int .i64 (if x.ix < 0 then 0 else x.ix) := hR 6 (by decide)
              simp only [putFrom, Act.put, List.setIfInBounds_toArray, List.set_cons_succ, List.set_cons_zero, Nat.reduceAdd, e5, e6]
              clear hR e5 e6
              have HDd := Lib.hid (HD5.out.later hBd)
              have HXd := Lib.hid (HX5.out.below hBd HX5.out.lt)
              have HTd := Lib.hid (HT5.out.later hBd)
              clear hBd HD5 HX5 HT5
              rw [HKK.out]
              generalize (if x.ix < 0 then 0 else x.ix) = nn at *
              obtain ⟨hsw, -, hkn, hn0, hn1⟩ := HDd.out.who g0 kk nn rfl
              have HKN : Hid (kk < nk) := Lib.hid hkn; have HN0 : Hid (0 ≤ nn) := Lib.hid hn0; have HN1 : Hid (nn ≤ 9223372036854775807) := Lib.hid hn1
              have hs := Lib.hid (ssign_all wb HDd.out.law.ring kk hkn nn hn0 g0 hsw (some ⟨gt, 0, none⟩) ct x.text ⟨HTd.out.sees, Below.refl _ _, HTd.out.cap, HTd.out.max⟩ HOK.out.text HDd.out.law.consts (by have := HFW.out; have := HLL.out; omega))
              obtain ⟨ii, dd, hsc, hii, hdd⟩ := sC_form nk bud (((kk : Int), nn), x.text) HBU.out
              have HSC := Lib.hid hsc; have HII := Lib.hid hii; have HDD := Lib.hid hdd
              clear hsc hii hdd hsw hkn hn0 hn1
              go_wp2_with fail
              refine hs.out.mono ?_
              rintro e w5 ⟨he, hR, hG, hT⟩
              obtain ⟨er, her⟩ : ∃ er : Int, er = if nn < bud then 0 else 17 := ⟨_, rfl⟩
              rw [HSC.out, ← her] at he
              subst he
              have HER := Lib.hid her
              clear hs her
              have hlu := ssign_lists (L := L) (U := U) (t := x.text) bud HKN.out HN0.out
              rw [hlu.1, hlu.2] at hR
              have HD5 := Lib.hid (HDd.out.sign1s hR hT (HDd.out.used.signed nk bud (((kk : Int), nn), x.text)) (by split <;> have := HN0.out <;> omega) (by split <;> have := HBU.out <;> have := HN1.out <;> omega) hG)
              have HX5 : Hid (HB w5 H0 65 (stC x)) := Lib.hid (HXd.out.keep (hT.block _ HXd.out.lt (fun q => by
                rcases q with q | q
                · exact absurd (HS0.out.mine _ q) (Nat.lt_irrefl _)
                · exact HGX.out q.symm)))
              have HT5 := Lib.hid (HTd.out.turn hT (fun q => by
                rcases q with q | q
                · have := HS0.out.mine _ q; have := HH0.out; omega
                · exact HGT.out q.symm))
              clear hR hT hG hlu HXd HTd HDd
              have HSI : Hid ((Tryd.prog.info? 61).map (·.size) = some (sigL ii dd).toArray.size) := sig_info HDD.out
              have HSL : Hid ((Tryd.prog.info? 61).map (·.size) = some (sigL ii dd).length) := sig_info_l HDD.out
              have HSS : Hid (sigZ.toArray.size = (sigL ii dd).toArray.size) := sig_size HDD.out
              have HSO := sigL_one ii dd
              have hz := Tryd.zeroSig
              have hnw := HB.new w5 61 sigZ
              have hrn := row_new w5 (sigL ii dd)
              go_upto_region 41 with (refine wpList_store_row rfl 61 _ _ rfl w5.heap.size (sigL ii dd).toArray rfl rfl 61 _ hnw HSI.out HSS.out HSO.out ?_)
              clear hz hnw
              have HP0 : Hid (H0 ≤ w5.heap.size) := Lib.hid (Nat.le_of_lt HX5.out.lt)
              generalize (w5.alloc (.cells sigZ.toArray 61)).setRow w5.heap.size (sigL ii dd).toArray = w6 at *
              have HD6 := Lib.hid (HD5.out.later hrn.2)
              have HP6 := Lib.hid hrn.1
              have HX6 := Lib.hid (HX5.out.below hrn.2 HX5.out.lt)
              have HT6 := Lib.hid (HT5.out.later hrn.2)
              generalize hgP : w5.heap.size = gP at *
              clear hgP hrn HX5 HT5 HD5 
              have hc4 : w6.cell? ⟨H0, 4, none⟩ = some (.string (strB x.text)) := by rw [HX6.out.cell]; rfl
              have hs := Lib.hid (rsign_all w6 W.heap.size r5 nk bud v5 L HD6.out.ring HD6.out.in5 HN2.out HBU.out (by have := HFW.out; have := HLL.out; omega) HD6.out.law.below.size (kk : Int) nn x.text HOK.out.text)
              go_wp2_with fail
              refine hs.out.mono ?_
              rintro e w7 ⟨he, v5', hR, hT⟩
              rw [HSC.out, sErr_at bud HKN.out HN0.out, ← HER.out] at he
              subst he
              clear hs hc4
              have HD7 := Lib.hid (HD6.out.sign2 hR hT (in5_sign HD6.out.in5 HOK.out.text))
              have HX7 := Lib.hid (tmp_keep HX6.out (Nat.le_refl H0) hT HS0.out.five)
              have HT7 := Lib.hid (HT6.out.turn hT (fun q => by have := HS0.out.five _ q; have := HH0.out; omega))
              have HP7 := Lib.hid (tmp_keep HP6.out HP0.out hT HS0.out.five)
              clear hR hT HX6 HT6 HD6 HP6
              have hz := Tryd.zeroSig
              have hnw := HB.new w7 61 sigZ
              have hrn := row_new w7 (sigL ii dd)
              go_upto_region 42 with (refine wpList_store_row rfl 61 _ _ rfl w7.heap.size (sigL ii dd).toArray rfl rfl 61 _ hnw HSI.out HSS.out HSO.out ?_)
              clear hz hnw
              have HQ0 : Hid (H0 ≤ w7.heap.size) := Lib.hid (Nat.le_of_lt HX7.out.lt)
              generalize (w7.alloc (.cells sigZ.toArray 61)).setRow w7.heap.size (sigL ii dd).toArray = w8 at *
              have HD8 := Lib.hid (HD7.out.later hrn.2)
              have HQ8 := Lib.hid hrn.1
              have HX8 := Lib.hid (HX7.out.below hrn.2 HX7.out.lt)
              have HT8 := Lib.hid (HT7.out.later hrn.2)
              have HP8 := Lib.hid (HP7.out.below hrn.2 HP7.out.lt)
              generalize hgQ : w7.heap.size = gQ at *
              clear hgQ hrn HX7 HT7 HD7 HP7
              have hx8 := HP8.out
              have hy8 := HQ8.out
              go_upto_region 44 with (first
                | (refine wpList_load_row rfl 61 (.tmp 22) rfl gP rfl 61 (sigL ii dd).toArray (0, 0) _ hx8 Tryd.underlying61 rfl HSI.out ?_)
                | (refine wpList_load_row rfl 61 (.tmp 24) rfl gQ rfl 61 (sigL ii dd).toArray (0, 0) _ hy8 Tryd.underlying61 rfl HSI.out ?_)
                | (refine wpList_cmp rfl .neq 61 _ _ _ rfl (.agg (sigL ii dd).toArray) (.agg (sigL ii dd).toArray) (.bool false) rfl rfl (run_eqGuard_agg _ _ _ _ _ _ _ (by kernel_rfl)) (neq_sig _ ii dd HII.out HDD.out) ?_))
              clear hy8
              clear hx8
              by_cases hnb : nn < bud
              ·
                rw [if_pos hnb] at HD8
                obtain rfl : er = 0 := by rw [HER.out, if_pos hnb]
                clear HER
                have hn1 : nn + 1 ≤ 9223372036854775807 := by have := HBU.out; omega
                have hn2 := HN0.out
                obtain ⟨i0, hi0, hz0, hz1, hz2⟩ := Tryd.infoSig
                have HFL := Lib.hid (fill_sig i0 hz1 ii dd HDD.out)
                have HI0 := Lib.hid hi0; have HZ0 := Lib.hid hz0; have HZ1 := Lib.hid hz1; have HZ2 := Lib.hid hz2
                clear hi0 hz0 hz1 hz2
                have hx8 := HP8.out
                go_wp2_with (first
                  | (refine wpList_load_row rfl 61 (.tmp 22) rfl gP rfl 61 (sigL ii dd).toArray (0, 0) _ hx8 Tryd.underlying61 rfl HSI.out ?_)
                  | (refine wpList_buildSlice rfl 62 61 1 _ rfl (sigL ii dd).toArray i0 (.agg sigZ.toArray) Tryd.underlying62 HI0.out HZ0.out (by rw [HZ1.out]; decide) (by rw [HZ1.out]; decide) (by (simp only [List.map_toArray, List.map_cons, List.map_nil]; exact HFL.out)) ?_)
                  | (at_builtin; refine wpList_append_own _ rfl (.tmp 224) (.tmp 226) 62 rfl W.heap.size 61 i0 (.agg sigZ.toArray) 33 40 Tryd.underlying62 HI0.out HZ0.out HZ1.out HZ2.out rfl (by decide) u9 S.length _ rfl (HD8.out.made.alloc _) ⟨w8.heap.size, 0, none⟩ 1 1 (sigL ii dd) rfl ?c0 ?c1 ?c2 ?c3 ?c4 ?c5 ?_))
                case c0 => rw [sigL_len _ _ HDD.out]
                case c1 => intro q u hu; rw [add_at, boxed]; simpa using hu
                case c2 => exact sigL_all ii dd
                case c3 => have := HFS.out; have := HLL.out; unfold maxLen; omega
                case c4 => have := HFS.out; have := HLL.out; omega
                case c5 => have := HD8.out.law.below.size; simp; omega
                intro vm' w9 hown' hg' _
                have hal := below_alloc1 w8 (.cells (sigL ii dd).toArray 61)
                have HD9 := Lib.hid ((HD8.out.later hal).append hown' hg' HII.out HDD.out)
                have hTt : Turn (fun b => u9.ownBlock = some b) w8 w9 := (Turn.of_below hal).trans ⟨hg'.os, hg'.tape, hg'.output, hg'.size, fun k hk hs => hg'.block k hk (fun e => hs e.symm)⟩
                have HX9 := Lib.hid (tmp_keep HX8.out (Nat.le_refl H0) hTt HS0.out.made)
                have HT9 := Lib.hid (HT8.out.turn hTt (fun q => by have := HS0.out.made _ q; have := HH0.out; omega))
                clear hx8 hown' hg' hal hTt HX8 HT8 HD8 HFL HI0 HZ0 HZ1 HZ2
                obtain ⟨hsw, -, -, -, -⟩ := HD9.out.who g0 kk _ rfl
                have HNX := Lib.hid (next_any w9 g0 f kk (nn + 1) hsw)
                clear hsw
                go_wp2_with fail
                refine HNX.out.mono ?_
                rintro e w' ⟨rfl, rfl⟩
                clear HNX
                have hc4 : w9.cell? ⟨H0, 4, none⟩ = some (.string (strB x.text)) := by rw [HX9.out.cell]; rfl
                have hcv := conv_sees ct HT9.out.sees
                have HEND := Lib.hid (show DoI W w9 f nk bud r5 (j + 1) (sL nk bud L (((kk : Int), nn), x.text)) (sU nk bud L U (((kk : Int), nn), x.text)) v5' (S ++ [(ii, dd)]) (some (g0, kk, nn + 1)) (kk : Int) (nn + 1) vm' from ⟨HD9.out, (by have := sL_len nk bud L (((kk : Int), nn), x.text); have := HFW.out; omega), (by have := HFS.out; simp; omega), (fun g k n e => by cases e; exact ⟨rfl, rfl⟩)⟩)
                go_wp2
                go_roundw
                case rel => exact ⟨j + 1, (sL nk bud L (((kk : Int), nn), x.text)), (sU nk bud L U (((kk : Int), nn), x.text)), v5', (S ++ [(ii, dd)]), (some (g0, kk, nn + 1)), (kk : Int), (nn + 1), rfl, rfl, rfl, by go_num, by omega, HEND.out⟩
                case measure => simp [intOf]; omega
              · rw [if_neg hnb] at HD8
                obtain rfl : er = 17 := by rw [HER.out, if_neg hnb]
                clear HER
                obtain ⟨hsw, -, -, -, -⟩ := HD8.out.who g0 kk _ rfl
                have HNX := Lib.hid (next_any w8 g0 f kk nn hsw)
                clear hsw
                go_wp2_with fail
                refine HNX.out.mono ?_
                rintro e w' ⟨rfl, rfl⟩
                clear HNX
                have hc4 : w8.cell? ⟨H0, 4, none⟩ = some (.string (strB x.text)) := by rw [HX8.out.cell]; rfl
                have hcv := conv_sees ct HT8.out.sees
                have HEND := Lib.hid (show DoI W w8 f nk bud r5 (j + 1) (sL nk bud L (((kk : Int), nn), x.text)) (sU nk bud L U (((kk : Int), nn), x.text)) v5' S (some (g0, kk, nn)) (kk : Int) nn u9 from ⟨HD8.out, (by have := sL_len nk bud L (((kk : Int), nn), x.text); have := HFW.out; omega), (by have := HFS.out; omega), (fun g k n e => by cases e; exact ⟨rfl, rfl⟩)⟩)
                go_wp2
                go_roundw
                case rel => exact ⟨j + 1, (sL nk bud L (((kk : Int), nn), x.text)), (sU nk bud L U (((kk : Int), nn), x.text)), v5', S, (some (g0, kk, nn)), (kk : Int), nn, rfl, rfl, rfl, by go_num, by omega, HEND.out⟩
                case measure => simp [intOf]; omega
      have hK3 : (x.kind == 3) = false := by simpa using hk3
      have HK3 := Lib.hid hK3
      clear hK3
      by_cases hk4 : x.kind = 4
      · as_aux_lemma =>
          have hc0 : wT.cell? ⟨H0, 0, none⟩ = some (.int .i64 x.kind) := by rw [HXT.out.cell]; rfl
          rw [hk4] at hc0
          have HTT := HT
          rcases wo with _ | ⟨g0, k0, n0⟩
          ·
            simp only [Option.map_none]
            have HEND := Lib.hid (show DoI W wT f nk bud r5 (j + 1) L U v5 S none ky nx u9 from ⟨HDT.out, (by have := HFW.out; omega), (by have := HFS.out; omega), (fun g k n e => by cases e)⟩)
            go_wp2
            go_roundw
            case rel => exact ⟨j + 1, L, U, v5, S, none, ky, nx, rfl, rfl, rfl, by go_num, by omega, HEND.out⟩
            case measure => simp [intOf]; omega
          · simp only [Option.map_some]
            obtain ⟨rfl, rfl⟩ := HSA.out g0 k0 n0 rfl
            have HGX : Hid (g0 ≠ H0) := Lib.hid (fun e => by have := HS0.out.who _ _ _ rfl; omega)
            have HGT : Hid (g0 ≠ gt) := Lib.hid (fun e => by have := HS0.out.who _ _ _ rfl; have := HH0.out; omega)
            clear HSA HT
            obtain ⟨hsw, -, hkn, hn0, hn1⟩ := HDT.out.who g0 k0 nx rfl
            have HKN : Hid (k0 < nk) := Lib.hid hkn; have HN0 : Hid (0 ≤ nx) := Lib.hid hn0; have HN1 : Hid (nx ≤ 9223372036854775807) := Lib.hid hn1
            have hs := Lib.hid (ssign_all wT HDT.out.law.ring k0 hkn nx hn0 g0 hsw (some ⟨gt, 0, none⟩) ct x.text ⟨HTT.out.sees, Below.refl _ _, HTT.out.cap, HTT.out.max⟩ HOK.out.text HDT.out.law.consts (by have := HFW.out; have := HLL.out; omega))
            obtain ⟨ii, dd, hsc, hii, hdd⟩ := sC_form nk bud (((k0 : Int), nx), x.text) HBU.out
            have HSC := Lib.hid hsc; have HII := Lib.hid hii; have HDD := Lib.hid hdd
            clear hsc hii hdd hsw hkn hn0 hn1
            go_wp2_with fail
            refine hs.out.mono ?_
            rintro e w5 ⟨he, hR, hG, hT⟩
            obtain ⟨er, her⟩ : ∃ er : Int, er = if nx < bud then 0 else 17 := ⟨_, rfl⟩
            rw [HSC.out, ← her] at he
            subst he
            have HER := Lib.hid her
            clear hs her
            have hlu := ssign_lists (L := L) (U := U) (t := x.text) bud HKN.out HN0.out
            rw [hlu.1, hlu.2] at hR
            have HD5 := Lib.hid (HDT.out.sign1s hR hT (HDT.out.used.signed nk bud (((k0 : Int), nx), x.text)) (by split <;> have := HN0.out <;> omega) (by split <;> have := HBU.out <;> have := HN1.out <;> omega) hG)
            have HX5 : Hid (HB w5 H0 65 (stC x)) := Lib.hid (HXT.out.keep (hT.block _ HXT.out.lt (fun q => by
              rcases q with q | q
              · exact absurd (HS0.out.mine _ q) (Nat.lt_irrefl _)
              · exact HGX.out q.symm)))
            have HT5 := Lib.hid (HTT.out.turn hT (fun q => by
              rcases q with q | q
              · have := HS0.out.mine _ q; have := HH0.out; omega
              · exact HGT.out q.symm))
            clear hR hT hG hlu HXT HTT HDT
            have HSI : Hid ((Tryd.prog.info? 61).map (·.size) = some (sigL ii dd).toArray.size) := sig_info HDD.out
            have HSL : Hid ((Tryd.prog.info? 61).map (·.size) = some (sigL ii dd).length) := sig_info_l HDD.out
            have HSS : Hid (sigZ.toArray.size = (sigL ii dd).toArray.size) := sig_size HDD.out
            have HSO := sigL_one ii dd
            have hz := Tryd.zeroSig
            have hnw := HB.new w5 61 sigZ
            have hrn := row_new w5 (sigL ii dd)
            go_upto_region 41 with (refine wpList_store_row rfl 61 _ _ rfl w5.heap.size (sigL ii dd).toArray rfl rfl 61 _ hnw HSI.out HSS.out HSO.out ?_)
            clear hz hnw
            have HP0 : Hid (H0 ≤ w5.heap.size) := Lib.hid (Nat.le_of_lt HX5.out.lt)
            generalize (w5.alloc (.cells sigZ.toArray 61)).setRow w5.heap.size (sigL ii dd).toArray = w6 at *
            have HD6 := Lib.hid (HD5.out.later hrn.2)
            have HP6 := Lib.hid hrn.1
            have HX6 := Lib.hid (HX5.out.below hrn.2 HX5.out.lt)
            have HT6 := Lib.hid (HT5.out.later hrn.2)
            generalize hgP : w5.heap.size = gP at *
            clear hgP hrn HX5 HT5 HD5 
            have hc4 : w6.cell? ⟨H0, 4, none⟩ = some (.string (strB x.text)) := by rw [HX6.out.cell]; rfl
            have hs := Lib.hid (rsign_all w6 W.heap.size r5 nk bud v5 L HD6.out.ring HD6.out.in5 HN2.out HBU.out (by have := HFW.out; have := HLL.out; omega) HD6.out.law.below.size (k0 : Int) nx x.text HOK.out.text)
            go_wp2_with fail
            refine hs.out.mono ?_
            rintro e w7 ⟨he, v5', hR, hT⟩
            rw [HSC.out, sErr_at bud HKN.out HN0.out, ← HER.out] at he
            subst he
            clear hs hc4
            have HD7 := Lib.hid (HD6.out.sign2 hR hT (in5_sign HD6.out.in5 HOK.out.text))
            have HX7 := Lib.hid (tmp_keep HX6.out (Nat.le_refl H0) hT HS0.out.five)
            have HT7 := Lib.hid (HT6.out.turn hT (fun q => by have := HS0.out.five _ q; have := HH0.out; omega))
            have HP7 := Lib.hid (tmp_keep HP6.out HP0.out hT HS0.out.five)
            clear hR hT HX6 HT6 HD6 HP6
            have hz := Tryd.zeroSig
            have hnw := HB.new w7 61 sigZ
            have hrn := row_new w7 (sigL ii dd)
            go_upto_region 42 with (refine wpList_store_row rfl 61 _ _ rfl w7.heap.size (sigL ii dd).toArray rfl rfl 61 _ hnw HSI.out HSS.out HSO.out ?_)
            clear hz hnw
            have HQ0 : Hid (H0 ≤ w7.heap.size) := Lib.hid (Nat.le_of_lt HX7.out.lt)
            generalize (w7.alloc (.cells sigZ.toArray 61)).setRow w7.heap.size (sigL ii dd).toArray = w8 at *
            have HD8 := Lib.hid (HD7.out.later hrn.2)
            have HQ8 := Lib.hid hrn.1
            have HX8 := Lib.hid (HX7.out.below hrn.2 HX7.out.lt)
            have HT8 := Lib.hid (HT7.out.later hrn.2)
            have HP8 := Lib.hid (HP7.out.below hrn.2 HP7.out.lt)
            generalize hgQ : w7.heap.size = gQ at *
            clear hgQ hrn HX7 HT7 HD7 HP7
            have hx8 := HP8.out
            have hy8 := HQ8.out
            go_upto_region 44 with (first
              | (refine wpList_load_row rfl 61 (.tmp 22) rfl gP rfl 61 (sigL ii dd).toArray (0, 0) _ hx8 Tryd.underlying61 rfl HSI.out ?_)
              | (refine wpList_load_row rfl 61 (.tmp 24) rfl gQ rfl 61 (sigL ii dd).toArray (0, 0) _ hy8 Tryd.underlying61 rfl HSI.out ?_)
              | (refine wpList_cmp rfl .neq 61 _ _ _ rfl (.agg (sigL ii dd).toArray) (.agg (sigL ii dd).toArray) (.bool false) rfl rfl (run_eqGuard_agg _ _ _ _ _ _ _ (by kernel_rfl)) (neq_sig _ ii dd HII.out HDD.out) ?_))
            clear hy8
            clear hx8
            by_cases hnb : nx < bud
            ·
              rw [if_pos hnb] at HD8
              obtain rfl : er = 0 := by rw [HER.out, if_pos hnb]
              clear HER
              have hn1 : nx + 1 ≤ 9223372036854775807 := by have := HBU.out; omega
              have hn2 := HN0.out
              obtain ⟨i0, hi0, hz0, hz1, hz2⟩ := Tryd.infoSig
              have HFL := Lib.hid (fill_sig i0 hz1 ii dd HDD.out)
              have HI0 := Lib.hid hi0; have HZ0 := Lib.hid hz0; have HZ1 := Lib.hid hz1; have HZ2 := Lib.hid hz2
              clear hi0 hz0 hz1 hz2
              have hx8 := HP8.out
              go_wp2_with (first
                | (refine wpList_load_row rfl 61 (.tmp 22) rfl gP rfl 61 (sigL ii dd).toArray (0, 0) _ hx8 Tryd.underlying61 rfl HSI.out ?_)
                | (refine wpList_buildSlice rfl 62 61 1 _ rfl (sigL ii dd).toArray i0 (.agg sigZ.toArray) Tryd.underlying62 HI0.out HZ0.out (by rw [HZ1.out]; decide) (by rw [HZ1.out]; decide) (by (simp only [List.map_toArray, List.map_cons, List.map_nil]; exact HFL.out)) ?_)
                | (at_builtin; refine wpList_append_own _ rfl (.tmp 224) (.tmp 226) 62 rfl W.heap.size 61 i0 (.agg sigZ.toArray) 33 40 Tryd.underlying62 HI0.out HZ0.out HZ1.out HZ2.out rfl (by decide) u9 S.length _ rfl (HD8.out.made.alloc _) ⟨w8.heap.size, 0, none⟩ 1 1 (sigL ii dd) rfl ?c0 ?c1 ?c2 ?c3 ?c4 ?c5 ?_))
              case c0 => rw [sigL_len _ _ HDD.out]
              case c1 => intro q u hu; rw [add_at, boxed]; simpa using hu
              case c2 => exact sigL_all ii dd
              case c3 => have := HFS.out; have := HLL.out; unfold maxLen; omega
              case c4 => have := HFS.out; have := HLL.out; omega
              case c5 => have := HD8.out.law.below.size; simp; omega
              intro vm' w9 hown' hg' _
              have hal := below_alloc1 w8 (.cells (sigL ii dd).toArray 61)
              have HD9 := Lib.hid ((HD8.out.later hal).append hown' hg' HII.out HDD.out)
              have hTt : Turn (fun b => u9.ownBlock = some b) w8 w9 := (Turn.of_below hal).trans ⟨hg'.os, hg'.tape, hg'.output, hg'.size, fun k hk hs => hg'.block k hk (fun e => hs e.symm)⟩
              have HX9 := Lib.hid (tmp_keep HX8.out (Nat.le_refl H0) hTt HS0.out.made)
              have HT9 := Lib.hid (HT8.out.turn hTt (fun q => by have := HS0.out.made _ q; have := HH0.out; omega))
              clear hx8 hown' hg' hal hTt HX8 HT8 HD8 HFL HI0 HZ0 HZ1 HZ2
              obtain ⟨hsw, -, -, -, -⟩ := HD9.out.who g0 k0 _ rfl
              have HNX := Lib.hid (next_any w9 g0 f k0 (nx + 1) hsw)
              clear hsw
              go_wp2_with fail
              refine HNX.out.mono ?_
              rintro e w' ⟨rfl, rfl⟩
              clear HNX
              have hc4 : w9.cell? ⟨H0, 4, none⟩ = some (.string (strB x.text)) := by rw [HX9.out.cell]; rfl
              have hcv := conv_sees ct HT9.out.sees
              have HEND := Lib.hid (show DoI W w9 f nk bud r5 (j + 1) (sL nk bud L (((k0 : Int), nx), x.text)) (sU nk bud L U (((k0 : Int), nx), x.text)) v5' (S ++ [(ii, dd)]) (some (g0, k0, nx + 1)) (k0 : Int) (nx + 1) vm' from ⟨HD9.out, (by have := sL_len nk bud L (((k0 : Int), nx), x.text); have := HFW.out; omega), (by have := HFS.out; simp; omega), (fun g k n e => by cases e; exact ⟨rfl, rfl⟩)⟩)
              go_wp2
              go_roundw
              case rel => exact ⟨j + 1, (sL nk bud L (((k0 : Int), nx), x.text)), (sU nk bud L U (((k0 : Int), nx), x.text)), v5', (S ++ [(ii, dd)]), (some (g0, k0, nx + 1)), (k0 : Int), (nx + 1), rfl, rfl, rfl, by go_num, by omega, HEND.out⟩
              case measure => simp [intOf]; omega
            · rw [if_neg hnb] at HD8
              obtain rfl : er = 17 := by rw [HER.out, if_neg hnb]
              clear HER
              obtain ⟨hsw, -, -, -, -⟩ := HD8.out.who g0 k0 _ rfl
              have HNX := Lib.hid (next_any w8 g0 f k0 nx hsw)
              clear hsw
              go_wp2_with fail
              refine HNX.out.mono ?_
              rintro e w' ⟨rfl, rfl⟩
              clear HNX
              have hc4 : w8.cell? ⟨H0, 4, none⟩ = some (.string (strB x.text)) := by rw [HX8.out.cell]; rfl
              have hcv := conv_sees ct HT8.out.sees
              have HEND := Lib.hid (show DoI W w8 f nk bud r5 (j + 1) (sL nk bud L (((k0 : Int), nx), x.text)) (sU nk bud L U (((k0 : Int), nx), x.text)) v5' S (some (g0, k0, nx)) (k0 : Int) nx u9 from ⟨HD8.out, (by have := sL_len nk bud L (((k0 : Int), nx), x.text); have := HFW.out; omega), (by have := HFS.out; omega), (fun g k n e => by cases e; exact ⟨rfl, rfl⟩)⟩)
              go_wp2
              go_roundw
              case rel => exact ⟨j + 1, (sL nk bud L (((k0 : Int), nx), x.text)), (sU nk bud L U (((k0 : Int), nx), x.text)), v5', S, (some (g0, k0, nx)), (k0 : Int), nx, rfl, rfl, rfl, by go_num, by omega, HEND.out⟩
              case measure => simp [intOf]; omega
      have hK4 : (x.kind == 4) = false := by simpa using hk4
      have HK4 := Lib.hid hK4
      clear hK4
      have hc0 : wT.cell? ⟨H0, 0, none⟩ = some (.int .i64 x.kind) := by rw [HXT.out.cell]; rfl
      have h0 := HK0.out; have h1 := HK1.out; have h2 := HK2.out; have h3 := HK3.out; have h4 := HK4.out
      obtain ⟨bb, cc, hkeys⟩ := keys_same HDT.out x.key
      have HKEYS := Lib.hid hkeys
      clear hkeys
      go_wp2_with fail
      clear h0 h1 h2 h3 h4 hc0
      refine wp_region_inv 237 (fun j v _ => v = ([.pointer (some ⟨f.r, 0, none⟩), .pointer (some ⟨H0, 1, none⟩), .int .i64 x.key, .bool bb, .pointer (some ⟨r5, 0, none⟩), .pointer (some ⟨H0, 1, none⟩), .int .i64 x.key, .bool bb, .bool false, .bool false, .pointer (some ⟨f.r, 0, none⟩), .pointer (some ⟨H0, 1, none⟩), .int .i64 x.key, .int .i64 cc, .pointer (some ⟨r5, 0, none⟩), .pointer (some ⟨H0, 1, none⟩), .int .i64 x.key, .int .i64 cc, .bool false, .bool false] : List Value).getD j undef) (Below wT.heap.size wT) (fun _ W W' => Below W.heap.size W W') (by kernel_rfl) (by rfl) (by kernel_rfl) (fun _ _ _ _ _ _ _ _ _ hR => hR) (fun _ _ _ e h => h.trans (e.mono h.size)) (Below.drew (Below.refl _ _)) (fun j o ho vs wb hI hdep => ?_) (fun vs w6 hI hR => ?_)
      · rcases j with _ | j
        · simp only [List.getElem?_toArray, List.getElem?_cons_zero, Option.some.injEq] at ho
          subst ho
          refine .inl ⟨rfl, fun K Q hK => ?_⟩
          simp only [putFrom, Act.put, List.setIfInBounds_toArray, List.set_cons_succ, List.set_cons_zero, Nat.reduceAdd] at hK ⊢
          have HK := Lib.hid hK
          clear hK hdep 
          go_simp
          exact HK.out _ _ _ rfl ⟨Below.refl _ _, rfl⟩
        rcases j with _ | j
        · simp only [List.getElem?_toArray, List.getElem?_cons_succ, List.getElem?_cons_zero, Option.some.injEq, Nat.zero_add] at ho
          subst ho
          refine .inl ⟨rfl, fun K Q hK => ?_⟩
          simp only [putFrom, Act.put, List.setIfInBounds_toArray, List.set_cons_succ, List.set_cons_zero, Nat.reduceAdd] at hK ⊢
          have HK := Lib.hid hK
          clear hK hdep 
          go_simp
          exact HK.out _ _ _ rfl ⟨Below.refl _ _, rfl⟩
        rcases j with _ | j
        · simp only [List.getElem?_toArray, List.getElem?_cons_succ, List.getElem?_cons_zero, Option.some.injEq, Nat.zero_add] at ho
          subst ho
          have e1 : vs 1 = .pointer (some ⟨H0, 1, none⟩) := hdep 1 rfl
          have hX : HB wb H0 65 (stC x) := HXT.out.below hI HXT.out.lt
          have hc1 : wb.cell? ⟨H0, 1, none⟩ = some (.int .i64 x.key) := by rw [hX.cell]; rfl
          clear hX
          refine .inl ⟨rfl, fun K Q hK => ?_⟩
          simp only [putFrom, Act.put, List.setIfInBounds_toArray, List.set_cons_succ, List.set_cons_zero, Nat.reduceAdd, e1] at hK ⊢
          have HK := Lib.hid hK
          clear hK hdep e1
          go_simp
          exact HK.out _ _ _ rfl ⟨Below.refl _ _, rfl⟩
        rcases j with _ | j
        · simp only [List.getElem?_toArray, List.getElem?_cons_succ, List.getElem?_cons_zero, Option.some.injEq, Nat.zero_add] at ho
          subst ho
          have e0 : vs 0 = .pointer (some ⟨f.r, 0, none⟩) := hdep 0 rfl
          have e2 : vs 2 = .int .i64 x.key := hdep 2 rfl
          refine .inl ⟨rfl, fun K Q hK => ?_⟩
          simp only [putFrom, Act.put, List.setIfInBounds_toArray, List.set_cons_succ, List.set_cons_zero, Nat.reduceAdd, e0, e2] at hK ⊢
          have HK := Lib.hid hK
          clear hK hdep e0 e2
          go_simp
          refine ((HKEYS.out wb hI).1).mono ?_
          rintro e w5 ⟨rfl, hB5⟩
          go_simp
          exact HK.out _ _ _ rfl ⟨hB5, rfl⟩
        rcases j with _ | j
        · simp only [List.getElem?_toArray, List.getElem?_cons_succ, List.getElem?_cons_zero, Option.some.injEq, Nat.zero_add] at ho
          subst ho
          refine .inl ⟨rfl, fun K Q hK => ?_⟩
          simp only [putFrom, Act.put, List.setIfInBounds_toArray, List.set_cons_succ, List.set_cons_zero, Nat.reduceAdd] at hK ⊢
          have HK := Lib.hid hK
          clear hK hdep 
          go_simp
          exact HK.out _ _ _ rfl ⟨Below.refl _ _, rfl⟩
        rcases j with _ | j
        · simp only [List.getElem?_toArray, List.getElem?_cons_succ, List.getElem?_cons_zero, Option.some.injEq, Nat.zero_add] at ho
          subst ho
          refine .inl ⟨rfl, fun K Q hK => ?_⟩
          simp only [putFrom, Act.put, List.setIfInBounds_toArray, List.set_cons_succ, List.set_cons_zero, Nat.reduceAdd] at hK ⊢
          have HK := Lib.hid hK
          clear hK hdep 
          go_simp
          exact HK.out _ _ _ rfl ⟨Below.refl _ _, rfl⟩
        rcases j with _ | j
        · simp only [List.getElem?_toArray, List.getElem?_cons_succ, List.getElem?_cons_zero, Option.some.injEq, Nat.zero_add] at ho
          subst ho
          have e5 : vs 5 = .pointer (some ⟨H0, 1, none⟩) := hdep 5 rfl
          have hX : HB wb H0 65 (stC x) := HXT.out.below hI HXT.out.lt
          have hc1 : wb.cell? ⟨H0, 1, none⟩ = some (.int .i64 x.key) := by rw [hX.cell]; rfl
          clear hX
          refine .inl ⟨rfl, fun K Q hK => ?_⟩
          simp only [putFrom, Act.put, List.setIfInBounds_toArray, List.set_cons_succ, List.set_cons_zero, Nat.reduceAdd, e5] at hK ⊢
          have HK := Lib.hid hK
          clear hK hdep e5
          go_simp
          exact HK.out _ _ _ rfl ⟨Below.refl _ _, rfl⟩
        rcases j with _ | j
        · simp only [List.getElem?_toArray, List.getElem?_cons_succ, List.getElem?_cons_zero, Option.some.injEq, Nat.zero_add] at ho
          subst ho
          have e4 : vs 4 = .pointer (some ⟨r5, 0, none⟩) := hdep 4 rfl
          have e6 : vs 6 = .int .i64 x.key := hdep 6 rfl
          refine .inl ⟨rfl, fun K Q hK => ?_⟩
          simp only [putFrom, Act.put, List.setIfInBounds_toArray, List.set_cons_succ, List.set_cons_zero, Nat.reduceAdd, e4, e6] at hK ⊢
          have HK := Lib.hid hK
          clear hK hdep e4 e6
          go_simp
          refine ((HKEYS.out wb hI).2.1).mono ?_
          rintro e w5 ⟨rfl, hB5⟩
          go_simp
          exact HK.out _ _ _ rfl ⟨hB5, rfl⟩
        rcases j with _ | j
        · simp only [List.getElem?_toArray, List.getElem?_cons_succ, List.getElem?_cons_zero, Option.some.injEq, Nat.zero_add] at ho
          subst ho
          have e3 : vs 3 = .bool bb := hdep 3 rfl
          have e7 : vs 7 = .bool bb := hdep 7 rfl
          refine .inl ⟨rfl, fun K Q hK => ?_⟩
          simp only [putFrom, Act.put, List.setIfInBounds_toArray, List.set_cons_succ, List.set_cons_zero, Nat.reduceAdd, e3, e7] at hK ⊢
          have HK := Lib.hid hK
          clear hK hdep e3 e7
          go_simp
          exact HK.out _ _ _ rfl ⟨Below.refl _ _, rfl⟩
        rcases j with _ | j
        · simp only [List.getElem?_toArray, List.getElem?_cons_succ, List.getElem?_cons_zero, Option.some.injEq, Nat.zero_add] at ho
          subst ho
          have e8 : vs 8 = .bool false := hdep 8 rfl
          refine .inl ⟨rfl, fun K Q hK => ?_⟩
          simp only [putFrom, Act.put, List.setIfInBounds_toArray, List.set_cons_succ, List.set_cons_zero, Nat.reduceAdd, e8] at hK ⊢
          have HK := Lib.hid hK
          clear hK hdep e8
          go_simp
          exact HK.out _ _ _ rfl ⟨Below.refl _ _, rfl⟩
        rcases j with _ | j
        · simp only [List.getElem?_toArray, List.getElem?_cons_succ, List.getElem?_cons_zero, Option.some.injEq, Nat.zero_add] at ho
          subst ho
          have e9 : vs 9 = .bool false := hdep 9 rfl
          refine .inl ⟨(by simp only [putFrom, Act.put, List.setIfInBounds_toArray, List.set_cons_succ, List.set_cons_zero, Nat.reduceAdd, e9]; rfl), fun K Q hK => ?_⟩
          simp only [putFrom, Act.put, List.setIfInBounds_toArray, List.set_cons_succ, List.set_cons_zero, Nat.reduceAdd] at hK ⊢
          have HK := Lib.hid hK
          clear hK hdep e9
          go_simp
          exact HK.out _ _ _ rfl ⟨Below.refl _ _, rfl⟩
        rcases j with _ | j
        · simp only [List.getElem?_toArray, List.getElem?_cons_succ, List.getElem?_cons_zero, Option.some.injEq, Nat.zero_add] at ho
          subst ho
          have e9 : vs 9 = .bool false := hdep 9 rfl
          refine .inl ⟨(by simp only [putFrom, Act.put, List.setIfInBounds_toArray, List.set_cons_succ, List.set_cons_zero, Nat.reduceAdd, e9]; rfl), fun K Q hK => ?_⟩
          simp only [putFrom, Act.put, List.setIfInBounds_toArray, List.set_cons_succ, List.set_cons_zero, Nat.reduceAdd] at hK ⊢
          have HK := Lib.hid hK
          clear hK hdep e9
          go_simp
          exact HK.out _ _ _ rfl ⟨Below.refl _ _, rfl⟩
        rcases j with _ | j
        · simp only [List.getElem?_toArray, List.getElem?_cons_succ, List.getElem?_cons_zero, Option.some.injEq, Nat.zero_add] at ho
          subst ho
          have e11 : vs 11 = .pointer (some ⟨H0, 1, none⟩) := hdep 11 rfl
          have e9 : vs 9 = .bool false := hdep 9 rfl
          have hX : HB wb H0 65 (stC x) := HXT.out.below hI HXT.out.lt
          have hc1 : wb.cell? ⟨H0, 1, none⟩ = some (.int .i64 x.key) := by rw [hX.cell]; rfl
          clear hX
          refine .inl ⟨(by simp only [putFrom, Act.put, List.setIfInBounds_toArray, List.set_cons_succ, List.set_cons_zero, Nat.reduceAdd, e9]; rfl), fun K Q hK => ?_⟩
          simp only [putFrom, Act.put, List.setIfInBounds_toArray, List.set_cons_succ, List.set_cons_zero, Nat.reduceAdd, e11] at hK ⊢
          have HK := Lib.hid hK
          clear hK hdep e11 e9
          go_simp
          exact HK.out _ _ _ rfl ⟨Below.refl _ _, rfl⟩
        rcases j with _ | j
        · simp only [List.getElem?_toArray, List.getElem?_cons_succ, List.getElem?_cons_zero, Option.some.injEq, Nat.zero_add] at ho
          subst ho
          have e10 : vs 10 = .pointer (some ⟨f.r, 0, none⟩) := hdep 10 rfl
          have e12 : vs 12 = .int .i64 x.key := hdep 12 rfl
          have e9 : vs 9 = .bool false := hdep 9 rfl
          refine .inl ⟨(by simp only [putFrom, Act.put, List.setIfInBounds_toArray, List.set_cons_succ, List.set_cons_zero, Nat.reduceAdd, e9]; rfl), fun K Q hK => ?_⟩
          simp only [putFrom, Act.put, List.setIfInBounds_toArray, List.set_cons_succ, List.set_cons_zero, Nat.reduceAdd, e10, e12] at hK ⊢
          have HK := Lib.hid hK
          clear hK hdep e10 e12 e9
          go_simp
          refine ((HKEYS.out wb hI).2.2.1).mono ?_
          rintro e w5 ⟨rfl, hB5⟩
          go_simp
          exact HK.out _ _ _ rfl ⟨hB5, rfl⟩
        rcases j with _ | j
        · simp only [List.getElem?_toArray, List.getElem?_cons_succ, List.getElem?_cons_zero, Option.some.injEq, Nat.zero_add] at ho
          subst ho
          have e9 : vs 9 = .bool false := hdep 9 rfl
          refine .inl ⟨(by simp only [putFrom, Act.put, List.setIfInBounds_toArray, List.set_cons_succ, List.set_cons_zero, Nat.reduceAdd, e9]; rfl), fun K Q hK => ?_⟩
          simp only [putFrom, Act.put, List.setIfInBounds_toArray, List.set_cons_succ, List.set_cons_zero, Nat.reduceAdd] at hK ⊢
          have HK := Lib.hid hK
          clear hK hdep e9
          go_simp
          exact HK.out _ _ _ rfl ⟨Below.refl _ _, rfl⟩
        rcases j with _ | j
        · simp only [List.getElem?_toArray, List.getElem?_cons_succ, List.getElem?_cons_zero, Option.some.injEq, Nat.zero_add] at ho
          subst ho
          have e9 : vs 9 = .bool false := hdep 9 rfl
          refine .inl ⟨(by simp only [putFrom, Act.put, List.setIfInBounds_toArray, List.set_cons_succ, List.set_cons_zero, Nat.reduceAdd, e9]; rfl), fun K Q hK => ?_⟩
          simp only [putFrom, Act.put, List.setIfInBounds_toArray, List.set_cons_succ, List.set_cons_zero, Nat.reduceAdd] at hK ⊢
          have HK := Lib.hid hK
          clear hK hdep e9
          go_simp
          exact HK.out _ _ _ rfl ⟨Below.refl _ _, rfl⟩
        rcases j with _ | j
        · simp only [List.getElem?_toArray, List.getElem?_cons_succ, List.getElem?_cons_zero, Option.some.injEq, Nat.zero_add] at ho
          subst ho
          have e15 : vs 15 = .pointer (some ⟨H0, 1, none⟩) := hdep 15 rfl
          have e9 : vs 9 = .bool false := hdep 9 rfl
          have hX : HB wb H0 65 (stC x) := HXT.out.below hI HXT.out.lt
          have hc1 : wb.cell? ⟨H0, 1, none⟩ = some (.int .i64 x.key) := by rw [hX.cell]; rfl
          clear hX
          refine .inl ⟨(by simp only [putFrom, Act.put, List.setIfInBounds_toArray, List.set_cons_succ, List.set_cons_zero, Nat.reduceAdd, e9]; rfl), fun K Q hK => ?_⟩
          simp only [putFrom, Act.put, List.setIfInBounds_toArray, List.set_cons_succ, List.set_cons_zero, Nat.reduceAdd, e15] at hK ⊢
          have HK := Lib.hid hK
          clear hK hdep e15 e9
          go_simp
          exact HK.out _ _ _ rfl ⟨Below.refl _ _, rfl⟩
        rcases j with _ | j
        · simp only [List.getElem?_toArray, List.getElem?_cons_succ, List.getElem?_cons_zero, Option.some.injEq, Nat.zero_add] at ho
          subst ho
          have e14 : vs 14 = .pointer (some ⟨r5, 0, none⟩) := hdep 14 rfl
          have e16 : vs 16 = .int .i64 x.key := hdep 16 rfl
          have e9 : vs 9 = .bool false := hdep 9 rfl
          refine .inl ⟨(by simp only [putFrom, Act.put, List.setIfInBounds_toArray, List.set_cons_succ, List.set_cons_zero, Nat.reduceAdd, e9]; rfl), fun K Q hK => ?_⟩
          simp only [putFrom, Act.put, List.setIfInBounds_toArray, List.set_cons_succ, List.set_cons_zero, Nat.reduceAdd, e14, e16] at hK ⊢
          have HK := Lib.hid hK
          clear hK hdep e14 e16 e9
          go_simp
          refine ((HKEYS.out wb hI).2.2.2).mono ?_
          rintro e w5 ⟨rfl, hB5⟩
          go_simp
          exact HK.out _ _ _ rfl ⟨hB5, rfl⟩
        rcases j with _ | j
        · simp only [List.getElem?_toArray, List.getElem?_cons_succ, List.getElem?_cons_zero, Option.some.injEq, Nat.zero_add] at ho
          subst ho
          have e13 : vs 13 = .int .i64 cc := hdep 13 rfl
          have e17 : vs 17 = .int .i64 cc := hdep 17 rfl
          have e9 : vs 9 = .bool false := hdep 9 rfl
          refine .inl ⟨(by simp only [putFrom, Act.put, List.setIfInBounds_toArray, List.set_cons_succ, List.set_cons_zero, Nat.reduceAdd, e9]; rfl), fun K Q hK => ?_⟩
          simp only [putFrom, Act.put, List.setIfInBounds_toArray, List.set_cons_succ, List.set_cons_zero, Nat.reduceAdd, e13, e17] at hK ⊢
          have HK := Lib.hid hK
          clear hK hdep e13 e17 e9
          go_simp
          exact HK.out _ _ _ rfl ⟨Below.refl _ _, rfl⟩
        rcases j with _ | j
        · simp only [List.getElem?_toArray, List.getElem?_cons_succ, List.getElem?_cons_zero, Option.some.injEq, Nat.zero_add] at ho
          subst ho
          have e9 : vs 9 = .bool false := hdep 9 rfl
          have e18 : vs 18 = .bool false := hdep 18 rfl
          refine .inl ⟨rfl, fun K Q hK => ?_⟩
          simp only [putFrom, Act.put, List.setIfInBounds_toArray, List.set_cons_succ, List.set_cons_zero, Nat.reduceAdd, e9, e18] at hK ⊢
          have HK := Lib.hid hK
          clear hK hdep e9 e18
          go_simp
          exact HK.out _ _ _ rfl ⟨Below.refl _ _, rfl⟩
        exact absurd ho (by simp)
      ·
        have e19 : vs 19 = .bool false := hR 19 (by decide)
        simp only [putFrom, Act.put, List.setIfInBounds_toArray, List.set_cons_succ, List.set_cons_zero, Nat.reduceAdd, e19]
        clear hR e19 HKEYS
        have HD6 := Lib.hid (HDT.out.later hI)
        have HX6 := Lib.hid (HXT.out.below hI HXT.out.lt)
        have HT6 := Lib.hid (HT.out.later hI)
        clear hI
        have hc4 : w6.cell? ⟨H0, 4, none⟩ = some (.string (strB x.text)) := by rw [HX6.out.cell]; rfl
        have hcv := conv_sees ct HT6.out.sees
        have HEND := Lib.hid (show DoI W w6 f nk bud r5 (j + 1) L U v5 S wo ky nx u9 from ⟨HD6.out, (by have := HFW.out; omega), (by have := HFS.out; omega), HSA.out⟩)
        go_wp2
        go_roundw
        case rel => exact ⟨j + 1, L, U, v5, S, wo, ky, nx, rfl, rfl, rfl, by go_num, by omega, HEND.out⟩
        case measure => simp [intOf]; omega
    · obtain rfl : j = l.length := by omega
      have hfin := HI.out.dow.law.below
      go_wp2
      go_ret
      exact ⟨rfl, hfin⟩
/-- SignDoes: whatever it is called with. -/
theorem does_law (W : World) (hk : Consts W) (n0 n1 : Int) (A : Option Addr) (c : Nat) (l : List Stp) (hl : StepsW W A l) (hll : l.length ≤ 1759218604390) :
    Calls Tryd.prog 10 #[.int .i64 n0, .int .i64 n1, .slice A l.length c] W (LawD W) := by
  by_cases h : 1 ≤ n0 ∧ n0 ≤ 12 ∧ 1 ≤ n1 ∧ n1 ≤ 65536
  · obtain ⟨h1, h2, h3, h4⟩ := h
    obtain ⟨k, rfl⟩ : ∃ k : Nat, n0 = (k : Int) := ⟨n0.toNat, by omega⟩
    exact does_in W hk k n1 (by omega) (by omega) h3 h4 A c l hl hll
  · exact does_bad W hk n0 n1 h _
end Go.Proofs.YtkhbogccmngmmaaDoor
