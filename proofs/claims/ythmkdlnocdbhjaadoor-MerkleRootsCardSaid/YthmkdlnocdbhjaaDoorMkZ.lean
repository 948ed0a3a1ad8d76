/- merkle.climb: the loop. -/
import Derived.Test.YthmkdlnocdbhjaaDoorMkY
namespace Go.Proofs.YthmkdlnocdbhjaaDoor
open Go.RowKit

/-- At the head of round k. -/
structure ClimbW (W1 wr : World) (gd i : Nat) (S : List (Nat × Nat)) (ps : List (List UInt8)) (e : List UInt8) (v : Value) (vs : List Value) (k : Nat) : Prop where
  below : Below W1.heap.size W1 wr
  d : HB wr gd 28 (bys (cD i S ps (shaF (leafB e)) k))
  own : wr.ownsRow W1.heap.size 33 1 v (k + 1) vs
  lists : Lists wr wr.heap.size vs (cP i S ps e k)
  mine : Mine wr W1.heap.size 5 vs
  gd_ : W1.heap.size ≤ gd
theorem own_lit (w : World) (base : Nat) (e : TypeId) (x : Value) (h : base ≤ w.heap.size) : (w.alloc (.cells #[x] e)).ownsRow base e 1 (.slice (some ⟨w.heap.size, 0, none⟩) 1 1) 1 [x] :=
  ⟨rfl, .inr ⟨w.heap.size, 1, #[x], rfl, h, heap_alloc_new w _, Nat.le_refl _, by decide, rfl, rfl⟩⟩
/-- Ahead of the first round. -/
theorem climb_start {W1 w2 w3 w4 : World} {gd i : Nat} {S : List (Nat × Nat)} {ps : List (List UInt8)} {e : List UInt8} {A : Option Addr} {c : Nat} (h12 : Below W1.heap.size W1 w2) (ho : w2.ownsRow W1.heap.size 5 1 (.slice A (leafB e).length c) (leafB e).length (bys (leafB e)))
    (h23 : Below (w2.alloc (.cells #[.slice A (leafB e).length c] 33)).heap.size (w2.alloc (.cells #[.slice A (leafB e).length c] 33)) w3) (h34 : Below w3.heap.size w3 w4) (hgd : w3.heap.size ≤ gd) (hd : HB w4 gd 28 (bys (shaF (leafB e)))) :
    ClimbW W1 w4 gd i S ps e (.slice (some ⟨w2.heap.size, 0, none⟩) 1 1) [.slice A (leafB e).length c] 0 := by
  have h1 := h12.size
  have b2 := below_alloc1 w2 (.cells #[.slice A (leafB e).length c] 33)
  have h3 := h23.size
  have hz : (w2.alloc (.cells #[.slice A (leafB e).length c] 33)).heap.size = w2.heap.size + 1 := by simp
  have h2e : Below w2.heap.size w2 w4 := b2.trans ((h23.mono b2.size).trans (h34.mono (by omega)))
  obtain ⟨A', c', e1, hc, hcm, hmi, hse⟩ := own_slice ho
  injection e1 with e1 _ e2
  subst e1
  subst e2
  refine ⟨h12.trans (h2e.mono h1), hd, own_below (own_below (own_lit w2 W1.heap.size 33 _ h1) h23) h34, ?_, ?_, by omega⟩
  · have hl := (Lists.cons (⟨A, c, rfl, hc, hcm, hse⟩ : Slot w2 w2.heap.size _ _) (Lists.nothing w2 w2.heap.size))
    exact (hl.below h2e).wide h2e.size
  · have hm : Mine w2 W1.heap.size 5 [.slice A (leafB e).length c] := (Mine.nothing w2 W1.heap.size 5).snoc hmi
    exact hm.below h2e

/-- Behind 'a, b := d, path[level]'. -/
structure CutAB (wr wx : World) (ga gb : Nat) (q : Nat × Nat) (d p : List UInt8) : Prop where
  below : Below wr.heap.size wr wx
  s : HB wx wr.heap.size 75 [.int .i64 (q.1 : Int), .int .i64 (q.2 : Int)]
  a : HB wx ga 28 (bys d)
  b : HB wx gb 28 (bys p)
  ga_ : wr.heap.size < ga
  gb_ : wr.heap.size < gb
  ne : ga ≠ gb

theorem HB.setCells_far {g b : Nat} {t : TypeId} {cs : List Value} (hne : g ≠ b) : ∀ (l : List Value) (o : Nat) (w : World), HB w g t cs → HB (w.setCells b o l) g t cs
  | [], _, _, h => h
  | v :: l, o, _, h => HB.setCells_far hne l (o + 1) _ (h.far (p := ⟨b, o, none⟩) hne v)
/-- The two new variables, still zero. -/
theorem two_new (W2 : World) : HB ((W2.alloc (.cells zdig.toArray 28)).alloc (.cells zdig.toArray 28)).drew W2.heap.size 28 zdig ∧ HB ((W2.alloc (.cells zdig.toArray 28)).alloc (.cells zdig.toArray 28)).drew (W2.heap.size + 1) 28 zdig := by
  refine ⟨((HB.new W2 _ _).alloc _).drew, ?_⟩
  have h := HB.new (W2.alloc (.cells zdig.toArray 28)) 28 zdig
  have e : (W2.alloc (.cells zdig.toArray 28)).heap.size = W2.heap.size + 1 := by simp
  rw [e] at h
  exact h.drew
theorem two_below (W2 : World) : Below W2.heap.size W2 ((W2.alloc (.cells zdig.toArray 28)).alloc (.cells zdig.toArray 28)).drew := (((Below.refl _ _).alloc (Nat.le_refl _) _).alloc (by simp) _).drew
theorem two_at (W2 : World) (g : Nat) (h : g = W2.heap.size ∨ g = W2.heap.size + 1) : HB ((W2.alloc (.cells zdig.toArray 28)).alloc (.cells zdig.toArray 28)).drew g 28 zdig := by
  rcases h with rfl | rfl
  · exact (two_new W2).1
  · exact (two_new W2).2
theorem cut_ab {wr W2 : World} {q : Nat × Nat} {d pp : List UInt8} {ga gb : Nat} (hW2 : W2 = wr.alloc (.cells #[.int .i64 (q.1 : Int), .int .i64 (q.2 : Int)] 75)) (h : ga = W2.heap.size ∧ gb = W2.heap.size + 1 ∨ ga = W2.heap.size + 1 ∧ gb = W2.heap.size) (ld : d.length = 32) (lp : pp.length = 32) :
    CutAB wr ((((W2.alloc (.cells zdig.toArray 28)).alloc (.cells zdig.toArray 28)).drew.setCells ga 0 (bys d)).setCells gb 0 (bys pp)) ga gb q d pp := by
  have hz : W2.heap.size = wr.heap.size + 1 := by rw [hW2]; simp
  have hB2 : Below wr.heap.size wr W2 := by rw [hW2]; exact below_alloc1 _ _
  have hs2 : HB W2 wr.heap.size 75 [.int .i64 (q.1 : Int), .int .i64 (q.2 : Int)] := by rw [hW2]; exact HB.new _ _ _
  have ha := two_at W2 ga (by omega)
  have hb := two_at W2 gb (by omega)
  have hne : ga ≠ gb := by omega
  have ldz := zdig_len
  have ldb : (bys d).length = 32 := by rw [bys_len, ld]
  have lpb : (bys pp).length = 32 := by rw [bys_len, lp]
  have a1 := hb_setCells (bys d) 0 _ _ ha (by omega)
  have b1 := HB.setCells_far (Ne.symm hne) (bys d) 0 _ hb
  have b2 := hb_setCells (bys pp) 0 _ _ b1 (by omega)
  have a2 := HB.setCells_far hne (bys pp) 0 _ a1
  rw [List.take_zero, List.nil_append] at a2 b2
  have hlow := two_below W2
  have hall : Below W2.heap.size W2 ((((W2.alloc (.cells zdig.toArray 28)).alloc (.cells zdig.toArray 28)).drew.setCells ga 0 (bys d)).setCells gb 0 (bys pp)) := below_setCells (by omega) _ 0 _ (below_setCells (by omega) _ 0 _ hlow)
  exact ⟨hB2.trans (hall.mono hB2.size), hs2.below hall hs2.lt, a2, b2, by omega, by omega, hne⟩

theorem HB.typed {w : World} {g : Nat} {t : TypeId} {cs : List Value} (h : HB w g t cs) : ∃ cur z, w.heap[g]? = some (.cells cur t z) := ⟨_, _, h⟩
/-- Behind the append. -/
theorem climb_mid {W1 wr wc w5 w7 : World} {gd i k : Nat} {S : List (Nat × Nat)} {ps : List (List UInt8)} {e : List UInt8} {v : Value} {vs : List Value} {P : List UInt8} {A9 : Option Addr} {c9 : Nat} (hC : ClimbW W1 wr gd i S ps e v vs k) (hBc : Below wr.heap.size wr wc) (h5 : Below wc.heap.size wc w5)
    (ho : w5.ownsRow wc.heap.size 5 1 (.slice A9 P.length c9) P.length (bys P)) (hg : (w5.alloc (.cells #[.slice A9 P.length c9] 33)).grownBy w7 v.ownBlock) :
    Below W1.heap.size W1 w7 ∧ HB w7 gd 28 (bys (cD i S ps (shaF (leafB e)) k)) ∧ Lists w7 w7.heap.size (vs ++ [.slice A9 P.length c9]) (cP i S ps e k ++ [P]) ∧ Mine w7 W1.heap.size 5 (vs ++ [.slice A9 P.length c9]) := by
  obtain ⟨A', c', e1, hc, hcm, hmi, hse⟩ := own_slice ho
  injection e1 with e1 _ e2
  subst e1
  subst e2
  have h1 := hC.below.size
  have hb5 : Below wr.heap.size wr w5 := hBc.trans (h5.mono hBc.size)
  have hb6 : Below wr.heap.size wr (w5.alloc (.cells #[.slice A9 P.length c9] 33)) := hb5.alloc hb5.size _
  have l5 := ((hC.lists.below hb5).wide hb5.size).snoc hc hcm hse
  have m5 := (hC.mine.below hb5).snoc (A := A9) (n := P.length) (c := c9) (fun ad h => ⟨by have := (hmi ad h).1; have := hBc.size; omega, (hmi ad h).2⟩)
  have b6 := below_alloc1 w5 (.cells #[.slice A9 P.length c9] 33)
  have l6 := (l5.below b6).wide b6.size
  have m6 := m5.below b6
  have o6 := own_below hC.own hb6
  have hr := own_type o6
  have d6 := hC.d.below hb6 hC.d.lt
  have hd7 : HB w7 gd 28 (bys (cD i S ps (shaF (leafB e)) k)) := d6.grown hg (fun h => types_ne d6.typed (hr gd h.symm) (by decide) rfl)
  have l7 := Lists.grown l6 m6 hg hr (by decide)
  have m7 := m6.grown hg hr (by decide)
  exact ⟨(hC.below.trans (hb6.mono h1)).grown hg (Nat.le_trans h1 hb6.size) (fun g h => (hC.own.lt g h).1), hd7, l7.wide hg.size, m7⟩
theorem climb_slot {w : World} {vs : List Value} {ls : List (List UInt8)} {A9 : Option Addr} {c9 : Nat} {P : List UInt8} (h : Lists w w.heap.size (vs ++ [.slice A9 P.length c9]) (ls ++ [P])) : Sees w w.heap.size 1 A9 P.length (bys P) := by
  have hl : vs.length = ls.length := by have := h.1; simpa using this
  obtain ⟨A, c, e, h1, h2, h3⟩ := h.slot ls.length (v := .slice A9 P.length c9) (l := P) (by rw [← hl]; simp) (by simp)
  injection e with e
  subst e
  exact h3
/-- Behind the round. -/
theorem climb_next {W1 w7 w8 : World} {gd i k : Nat} {S : List (Nat × Nat)} {ps : List (List UInt8)} {e : List UInt8} {v7 : Value} {vs : List Value} {P d : List UInt8} (hP : P = stepP i (S.getD k (0, 0)) (ps.getD k []) (cD i S ps (shaF (leafB e)) k)) (h7 : Below W1.heap.size W1 w7) (hd : HB w7 gd 28 (bys d)) (hl : Lists w7 w7.heap.size vs (cP i S ps e k ++ [P])) (hm : Mine w7 W1.heap.size 5 vs)
    (ho : w7.ownsRow W1.heap.size 33 1 v7 (k + 1 + 1) vs) (h8 : Below w7.heap.size w7 w8) (hgd : W1.heap.size ≤ gd) :
    ClimbW W1 (w8.setRow gd (bys (shaF P)).toArray) gd i S ps e v7 vs (k + 1) := by
  subst hP
  have d8 := hd.below h8 hd.lt
  have o8 := own_below ho h8
  have hr : ∀ g, some gd = some g → ∃ cur z, w8.heap[g]? = some (.cells cur 28 z) := fun g h => by injection h with h; subst h; exact d8.typed
  have m8 := hm.below h8
  have l8 := (hl.below h8).wide h8.size
  have hg := grownBy_setRow w8 gd (bys (shaF (stepP i (S.getD k (0, 0)) (ps.getD k []) (cD i S ps (shaF (leafB e)) k)))).toArray
  have h78 := h7.trans (h8.mono h7.size)
  refine ⟨Below.setRow_ h78 hgd _, ?_, o8.kept hg ?_, ?_, m8.grown hg hr (by decide), hgd⟩
  · have := d8.row (bys (shaF (stepP i (S.getD k (0, 0)) (ps.getD k []) (cD i S ps (shaF (leafB e)) k)))).toArray
    simpa [cD] using this
  · rcases hv : v7.ownBlock with _ | g
    · exact .inl rfl
    · exact .inr fun h => types_ne (own_type o8 g hv) (hr g h.symm) (by decide) rfl
  · rw [cP_succ]
    exact (Lists.grown l8 m8 hg hr (by decide)).wide hg.size

set_option maxRecDepth 20000 in
set_option maxHeartbeats 6400000 in
theorem climb_yes (n i : Nat) (hi : i < n) (hn : n < 9223372036854775808) (B : Nat) (A : Option Addr) (c : Nat) (e : List UInt8) (Bp : Nat) (Ap : Option Addr) (cp : Nat) (ps : List (List UInt8)) (w : World) (hs : Sees w B 1 A e.length (bys e)) (hB : B ≤ w.heap.size) (hc : e.length ≤ c) (hcm : c ≤ 9223372036854775807) (he : e.length ≤ 140737488351232)
    (hP : PathW w Bp Ap cp ps) (hl : ps.length = (sibs 0 n i).length) (hk : Consts w) :
    Calls Tryd.prog 49 #[.int .i64 (n : Int), .int .i64 (i : Int), .slice A e.length c, .slice Ap ps.length cp] w fun en w' => ∃ v' vs, en = .returned (.tuple #[v', .bool true]) ∧ w'.ownsRow w.heap.size 33 1 v' (climbF n i e ps).length vs ∧ Lists w' w'.heap.size vs (climbF n i e ps) ∧ Below w.heap.size w w' := by
  have hz := Tryd.zeroDig
  have hsb := Lib.hid (siblings_any n i hi hn w)
  have hfew := sibs_few i 63 0 n (by omega) (by omega)
  have hcf : climbF n i e ps = cP i (sibs 0 n i) ps e (sibs 0 n i).length ++ [rootB n (cD i (sibs 0 n i) ps (shaF (leafB e)) (sibs 0 n i).length)] := rfl
  have HCF := Lib.hid hcf
  clear hcf
  generalize sibs 0 n i = S at *
  have b1 : 0 ≤ (i : Int) := by omega
  have b2 : (i : Int) < n := by omega
  have bd : decide ((i : Int) < 0) = false := by simp
  have hne2 : ((S.length : Int) != (ps.length : Int)) = false := by simp; omega
  have HL := Lib.hid hl
  have HP := Lib.hid hP
  clear hl hP hi
  go_enter Tryd.func49, Tryd.ntmps49
  go_wp2_with fail
  refine hsb.out.mono ?_
  rintro en W1 ⟨v1, rfl, ho1, hB1⟩
  obtain ⟨A1, c1, rfl, hc1, hcm1, -, hs1⟩ := own_slice ho1
  have hlf := Lib.hid (leaf_any B A c e W1 (hs.below (hB1.mono hB)) (Nat.le_trans hB hB1.size) hc hcm he)
  have hk1 := hk.below hB1 hk.2.2
  have HS1 := Lib.hid hs1
  have HB1 := Lib.hid hB1
  clear ho1 hsb hs1 hs hB1
  go_wp2_with fail
  refine hlf.out.mono ?_
  rintro en w2 ⟨v2, rfl, ho2, hB2⟩
  obtain ⟨A2, c2, rfl, hc2, hcm2, -, hs2⟩ := own_slice ho2
  have hk2 := hk1.below hB2 hk1.2.2
  have b3 := below_alloc1 w2 (.cells #[.slice A2 (leafB e).length c2] 33)
  have hsm := Lib.hid (sum_any w2.heap.size A2 c2 (leafB e) (w2.alloc (.cells #[.slice A2 (leafB e).length c2] 33)) (hs2.below b3) (by simp) hc2 hcm2 (by rw [leafB_len]; omega) (hk2.below b3 hk2.2.2))
  have HO2 := Lib.hid ho2
  have HB2 := Lib.hid hB2
  have hb1 := build_1
  clear hlf ho2 hs2 hB2 b3
  go_wp2_with fail
  refine hsm.out.mono ?_
  rintro en w3 ⟨rfl, hB3⟩
  have hd3 := HB.new w3 28 zdig
  have HI := dig_info (shaF_len (leafB e))
  have HS := dig_size (shaF_len (leafB e))
  have HA := dig_one (shaF (leafB e))
  have HST := Lib.hid (climb_start (i := i) (S := S) (ps := ps) HB2.out HO2.out hB3 (Below.setRow_ (below_alloc1 w3 (.cells zdig.toArray 28)) (Nat.le_refl _) (bys (shaF (leafB e))).toArray) (Nat.le_refl _) (hd3.row _))
  have hgd : W1.heap.size ≤ w3.heap.size := by have h1 := HB2.out.size; have h3 := hB3.size; simp at h3; omega
  clear hB3 hsm
  generalize hD0 : shaF (leafB e) = D0 at *
  have HDD := Lib.hid hD0
  clear hD0
  go_wp2_with (refine wpList_store_row rfl 28 _ _ rfl w3.heap.size (bys D0).toArray rfl rfl 28 _ hd3 HI.out HS.out HA.out ?_)
  clear hd3 HI HS HA
  generalize (w3.alloc (.cells zdig.toArray 28)).setRow w3.heap.size (bys D0).toArray = w4 at *
  generalize w3.heap.size = gd at *
  have HST : Hid (∃ vs, ClimbW W1 w4 gd i S ps e (.slice (some ⟨w2.heap.size, 0, none⟩) 1 1) vs 0) := Lib.hid ⟨_, HST.out⟩
  have HHS1 := HS1
  go_loopg [11, 13, 14, 15, 16, 17, 42] S.length (fun g p _ _ _ _ _ j wr => ∃ (k : Nat) (vs : List Value), k ≤ S.length ∧ g + k = S.length ∧ j = .int .i64 (k : Int) ∧ ClimbW W1 wr gd i S ps e p vs k)
  case atStart => obtain ⟨vs, h⟩ := HST.out; exact ⟨0, vs, by omega, by omega, rfl, h⟩
  case round =>
    obtain ⟨k, vs, hk, hg, rfl, hC⟩ := hrel
    clear HST
    rcases Nat.lt_or_ge k S.length with hlt | hge
    · obtain ⟨ad1, hA1, had1, hx⟩ := HS1.out.some_ (by omega)
      subst hA1
      have hBw := hC.below
      have hx0 : wr.cell? (ad1.add (k * 2)) = some (.int .i64 ((S[k]'hlt).1 : Int)) := (hBw.cell (by rw [add_block]; exact had1)).trans (hx _ _ (spanCells_fst S k hlt))
      have hx1 : wr.cell? ⟨(ad1.add (k * 2)).block, (ad1.add (k * 2)).off + 1, none⟩ = some (.int .i64 ((S[k]'hlt).2 : Int)) := by
        have e : (ad1.add (k * 2 + 1)) = ⟨(ad1.add (k * 2)).block, (ad1.add (k * 2)).off + 1, none⟩ := by rw [← add_add, add_pos _ 1 (by decide)]
        rw [← e]
        exact (hBw.cell (by rw [add_block]; exact had1)).trans (hx _ _ (spanCells_snd S k hlt))
      have hx2 : wr.cell? ⟨ad1.block, (ad1.add (k * 2)).off + 1, none⟩ = some (.int .i64 ((S[k]'hlt).2 : Int)) := by rw [add_block] at hx1; exact hx1
      clear hx
      have hS' : S.getD k (0, 0) = S[k]'hlt := by rw [List.getD_eq_getElem?_getD, List.getElem?_eq_getElem hlt]; rfl
      have hlp : k < ps.length := by rw [HL.out]; exact hlt
      have hkk : (k : Int) < S.length := by omega
      have hkp : (k : Int) < ps.length := by omega
      have HC := Lib.hid hC
      have HSS := Lib.hid hS'
      clear hC hS' hBw
      generalize S[k]'hlt = q at *
      have hpl := HP.out.len _ (List.getElem_mem hlp)
      have hpsee := (HP.out.below HB1.out).sees.below (HC.out.below.mono (HP.out.below HB1.out).hB)
      obtain ⟨adp, eAp, hadp, hpx⟩ := hpsee.some_ (by omega)
      subst eAp
      have hpc : ∀ j u, (bys (ps[k]'hlp))[j]? = some u → wr.cell? ((adp.add (k * 32)).add j) = some u := fun j u hu => by
        rw [add_add]; exact hpx _ u (digCells_at ps k hlp HP.out.len j u hu)
      have hPS : ps.getD k [] = ps[k]'hlp := by rw [List.getD_eq_getElem?_getD, List.getElem?_eq_getElem hlp]; rfl
      have HPS := Lib.hid hPS
      clear hpx hpsee hPS
      generalize ps[k]'hlp = pp at *
      obtain ⟨pk, po, hpa⟩ : ∃ pk po, adp.add (k * 32) = ⟨pk, po, none⟩ := by
        have h0 := hpc 0 _ (List.getElem?_eq_getElem (by rw [bys_len, hpl]; omega))
        rw [add_zero] at h0
        rcases hh : adp.add (k * 32) with ⟨x, y, z⟩
        refine ⟨x, y, ?_⟩
        rw [hh] at h0
        cases z with
        | none => rfl
        | some _ => simp only [World.cell?] at h0; split at h0 <;> simp at h0
      have hpb : pk < wr.heap.size := by have h1 := congrArg Addr.block hpa; rw [add_block] at h1; have := (HP.out.below HB1.out).hB; have := HC.out.below.size; simp only at h1; omega
      have hpr : wr.rangeAt pk po (bys pp) := fun j u hu => by
        have h1 := hpc j u hu
        rw [hpa, Addr.add_mid] at h1; exact h1
      have HPA := Lib.hid hpa
      have ld : (cD i S ps (shaF (leafB e)) k).length = 32 := cD_len i S ps _ (shaF_len _) k
      have hdk := HC.out.d
      have HST := Lib.hid (show stepP i (S.getD k (0, 0)) (ps.getD k []) (cD i S ps (shaF (leafB e)) k) = stepP i q pp (cD i S ps (shaF (leafB e)) k) by rw [HSS.out, HPS.out])
      clear hpc hadp
      go_upto_region 11 with fail
      clear hx0 hx1 hx2
      generalize hd0 : cD i S ps (shaF (leafB e)) k = d at hdk ld HST
      have HD0 := Lib.hid hd0
      clear hd0
      obtain ⟨W2, hW2⟩ : ∃ W2 : World, W2 = wr.alloc (.cells #[.int .i64 (q.1 : Int), .int .i64 (q.2 : Int)] 75) := ⟨_, rfl⟩
      rw [← hW2]
      have hz2 : W2.heap.size = wr.heap.size + 1 := by rw [hW2]; simp
      have hB2 : Below wr.heap.size wr W2 := by rw [hW2]; exact below_alloc1 _ _
      have HW2 := Lib.hid hW2
      have HZ2 := Lib.hid hz2
      clear hW2 hz2
      have hdr : wr.rangeAt gd 0 (bys d) := fun j u hu => by rw [Nat.zero_add, hdk.cell]; exact hu
      have hlow : ∀ a : World, Below W2.heap.size W2 a → Below wr.heap.size wr a := fun a h => hB2.trans (h.mono hB2.size)
      have hS : ∀ a : World, Below W2.heap.size W2 a → (Below W2.heap.size W2 a ∧ a.rangeAt gd 0 (bys d) ∧ a.rangeAt pk po (bys pp)) := fun a h => ⟨h, fun j u hu => ((hlow a h).cell (p := ⟨gd, 0 + j, none⟩) hdk.lt).trans (hdr j u hu), fun j u hu => ((hlow a h).cell (p := ⟨pk, po + j, none⟩) hpb).trans (hpr j u hu)⟩
      have hK0 := hS _ (Below.drew (Below.refl _ _))
      have hu28 := Tryd.underlying28
      have hi1 := dig_sizeL ld
      have hi2 := dig_sizeL hpl
      have ho1 := bys_one d
      have ho2 := bys_one pp
      go_cut [15, 16] (fun s15 s16 wx => ∃ ga gb : Nat, s15 = .pointer (some ⟨ga, 0, none⟩) ∧ s16 = .pointer (some ⟨gb, 0, none⟩) ∧ CutAB wr wx ga gb q d pp)
      case first =>
        have hL1 : (Tryd.prog.info? 28).map (·.size) = some (bys d).length := by rw [bys_len, ld]; exact Tryd.infoD
        have hL2 : (Tryd.prog.info? 28).map (·.size) = some (bys pp).length := by rw [bys_len, hpl]; exact Tryd.infoD
        have hL1 := Lib.hid hL1
        have hL2 := Lib.hid hL2
        refine wp_region_held_drew (S := (fun w' => Below W2.heap.size W2 w' ∧ w'.rangeAt gd 0 (bys d) ∧ w'.rangeAt pk po (bys pp))) (by kernel_rfl) hK0 (fun hHeld => ?_)
        refine wpAnyH_take (i := 0) (v := .agg (bys d).toArray) rfl (by kernel_rfl) (by kernel_rfl) (by kernel_rfl) (fun _ _ _ h => h) (yieldsIf_load_mid (by rfl) 28 _ rfl gd 0 rfl (bys d) _ (fun w' h => h.2.1) hu28 rfl hL1.out) hHeld ?_
        simp only [Act.put, List.setIfInBounds_toArray]
        refine wpAnyH_take (i := 1) (v := ?v1) rfl (by kernel_rfl) (by kernel_rfl) (by kernel_rfl) (fun _ _ _ h => h) (Or.inl ⟨by rfl, ?y1⟩) hHeld ?_
        case y1 => intro w' _; (first | (go_simp; done) | (go_simp; with_reducible rfl))
        simp only [Act.put]
        refine wpAnyH_take (i := 2) (v := ?v2) rfl (by kernel_rfl) (by kernel_rfl) (by kernel_rfl) (fun _ _ _ h => h) (Or.inl ⟨by rfl, ?y2⟩) hHeld ?_
        case y2 => intro w' _; (first | (go_simp; done) | (go_simp; with_reducible rfl))
        simp only [Act.put]
        refine wpAnyH_take (i := 3) (v := ?v3) rfl (by kernel_rfl) (by kernel_rfl) (by kernel_rfl) (fun _ _ _ h => h) (Or.inl ⟨by rfl, ?y3⟩) hHeld ?_
        case y3 => intro w' _; (first | (go_simp; done) | (go_simp; with_reducible rfl))
        simp only [Act.put]
        refine wpAnyH_take (i := 4) (v := .agg (bys pp).toArray) rfl (by kernel_rfl) (by kernel_rfl) (by kernel_rfl) (fun _ _ _ h => h) (yieldsIf_load_mid (by rfl) 28 _ rfl pk po rfl (bys pp) _ (fun w' h => h.2.2) hu28 rfl hL2.out) hHeld ?_
        simp only [Act.put]
        refine wpAnyH_ready (rs := [5, 6]) (by kernel_rfl) (by simp) ?_
        refine AllReadyH.cons rfl (fun K hK => ?_) (AllReadyH.cons rfl (fun K hK => ?_) AllReadyH.nil)
        · go_simp
          refine hK.out _ _ (hS _ ((below_alloc1 W2 _).drew)) (fun hHeld => ?_)
          clear hK K
          refine wpAnyH_ready (rs := [6]) (by kernel_rfl) (by simp) ?_
          refine AllReadyH.cons rfl (fun K hK => ?_) AllReadyH.nil
          go_simp
          refine hK.out _ _ (hS _ (two_below W2)) (fun hHeld => ?_)
          clear hK K
          refine wpAnyH_ready (rs := [7]) (by kernel_rfl) (by simp) ?_
          refine AllReadyH.cons rfl (fun K hK => ?_) AllReadyH.nil
          rw [if_pos (by rfl)]
          refine wp_store_mid 28 _ _ rfl (W2.heap.size) 0 (bys d).toArray rfl rfl (there_hb (two_at W2 _ (by omega)) (by rw [List.size_toArray, bys_len, ld, zdig_len]; exact Nat.le_refl _)) hi1 (bys_all d) ?_
          refine hK.out _ _ (hS _ (below_setCells (by omega) _ 0 _ (two_below W2))) (fun hHeld => ?_)
          clear hK K
          refine wpAnyH_ready (rs := [8]) (by kernel_rfl) (by simp) ?_
          refine AllReadyH.cons rfl (fun K hK => ?_) AllReadyH.nil
          rw [if_pos (by rfl)]
          refine wp_store_mid 28 _ _ rfl (W2.heap.size + 1) 0 (bys pp).toArray rfl rfl (there_hb (HB.setCells_far (by omega) _ 0 _ (two_at W2 _ (by omega))) (by rw [List.size_toArray, bys_len, hpl, zdig_len]; exact Nat.le_refl _)) hi2 (bys_all pp) ?_
          refine hK.out _ _ (hS _ (below_setCells (by omega) _ 0 _ (below_setCells (by omega) _ 0 _ (two_below W2)))) (fun hHeld => ?_)
          clear hK K
          refine wpAnyH_done (by kernel_rfl) ?_ _
          have hab := Lib.hid (cut_ab (ga := W2.heap.size) (gb := W2.heap.size + 1) HW2.out (by omega) ld hpl)
          go_wp2_with fail
          go_meet
          exact ⟨W2.heap.size, W2.heap.size + 1, rfl, rfl, hab.out⟩
        · go_simp
          refine hK.out _ _ (hS _ ((below_alloc1 W2 _).drew)) (fun hHeld => ?_)
          clear hK K
          refine wpAnyH_ready (rs := [5]) (by kernel_rfl) (by simp) ?_
          refine AllReadyH.cons rfl (fun K hK => ?_) AllReadyH.nil
          go_simp
          refine hK.out _ _ (hS _ (two_below W2)) (fun hHeld => ?_)
          clear hK K
          refine wpAnyH_ready (rs := [7]) (by kernel_rfl) (by simp) ?_
          refine AllReadyH.cons rfl (fun K hK => ?_) AllReadyH.nil
          rw [if_pos (by rfl)]
          refine wp_store_mid 28 _ _ rfl (W2.heap.size + 1) 0 (bys d).toArray rfl rfl (there_hb (two_at W2 _ (by omega)) (by rw [List.size_toArray, bys_len, ld, zdig_len]; exact Nat.le_refl _)) hi1 (bys_all d) ?_
          refine hK.out _ _ (hS _ (below_setCells (by omega) _ 0 _ (two_below W2))) (fun hHeld => ?_)
          clear hK K
          refine wpAnyH_ready (rs := [8]) (by kernel_rfl) (by simp) ?_
          refine AllReadyH.cons rfl (fun K hK => ?_) AllReadyH.nil
          rw [if_pos (by rfl)]
          refine wp_store_mid 28 _ _ rfl (W2.heap.size) 0 (bys pp).toArray rfl rfl (there_hb (HB.setCells_far (by omega) _ 0 _ (two_at W2 _ (by omega))) (by rw [List.size_toArray, bys_len, hpl, zdig_len]; exact Nat.le_refl _)) hi2 (bys_all pp) ?_
          refine hK.out _ _ (hS _ (below_setCells (by omega) _ 0 _ (below_setCells (by omega) _ 0 _ (two_below W2)))) (fun hHeld => ?_)
          clear hK K
          refine wpAnyH_done (by kernel_rfl) ?_ _
          have hab := Lib.hid (cut_ab (ga := W2.heap.size + 1) (gb := W2.heap.size) HW2.out (by omega) ld hpl)
          go_wp2_with fail
          go_meet
          exact ⟨W2.heap.size + 1, W2.heap.size, rfl, rfl, hab.out⟩
      case rest =>
        obtain ⟨ga, gb, rfl, rfl, hAB⟩ := hcut
        have hs0 := hAB.s.cell 0
        simp only [List.getElem?_cons_zero] at hs0
        clear hdk hdr hpr hS hK0 hlow HW2 HZ2 hB2
        have HAB := Lib.hid hAB
        clear hAB
        by_cases hqi : q.1 < i
        · have hq : (q.1 : Int) < (i : Int) := by omega
          have HPv := Lib.hid (show stepP i q pp d = nodeB pp d by unfold stepP; rw [if_pos hqi])
          clear hqi
          have ha0 := HAB.out.a
          have hb0 := HAB.out.b
          have HIa := Lib.hid hi2
          have HSa := dig_size2 ld hpl
          have HAa := dig_one pp
          have hb1' := hb0.keep (w' := wc.setRow ga (bys pp).toArray) ((grownBy_setRow wc ga _).block gb hb0.lt (fun h => by injection h with h; exact HAB.out.ne h.symm))
          have HIb := Lib.hid hi1
          have HSb := dig_size2 hpl ld
          have HAb := dig_one d
          go_upto_region 14 with (first
            | (refine wpList_load_row rfl 28 _ rfl ga rfl 28 (bys d).toArray (0, 0) _ ha0 hu28 rfl hi1 ?_)
            | (refine wpList_load_row rfl 28 _ rfl gb rfl 28 (bys pp).toArray (0, 0) _ hb0 hu28 rfl hi2 ?_)
            | (refine wpList_store_row rfl 28 _ _ rfl ga (bys pp).toArray rfl rfl 28 _ ha0 HIa.out HSa.out HAa.out ?_)
            | (refine wpList_store_row rfl 28 _ _ rfl gb (bys d).toArray rfl rfl 28 _ hb1' HIb.out HSb.out HAb.out ?_))
          have hax : HB ((wc.setRow ga (bys pp).toArray).setRow gb (bys d).toArray) ga 28 (bys pp) := by
            have h := ha0.row (bys pp).toArray
            exact h.keep ((grownBy_setRow _ gb _).block ga h.lt (fun h => by injection h with h; exact HAB.out.ne h))
          have hbx : HB ((wc.setRow ga (bys pp).toArray).setRow gb (bys d).toArray) gb 28 (bys d) := hb1'.row (bys d).toArray
          have hBc : Below wr.heap.size wr ((wc.setRow ga (bys pp).toArray).setRow gb (bys d).toArray) := Below.setRow_ (Below.setRow_ HAB.out.below (Nat.le_of_lt HAB.out.ga_) _) (Nat.le_of_lt HAB.out.gb_) _
          clear ha0 hb0 hb1' HIa HSa HAa HIb HSb HAb
          generalize (wc.setRow ga (bys pp).toArray).setRow gb (bys d).toArray = wc2 at *
          have hnd := Lib.hid (node_any pp d wc2 hpl ld)
          have hlP := nodeB_len pp d
          have HPV := HPv
          clear HPv
          go_wp2_with (first
            | (refine wpList_load_row rfl 28 _ rfl ga rfl 28 (bys pp).toArray (0, 0) _ hax hu28 rfl hi2 ?_)
            | (refine wpList_load_row rfl 28 _ rfl gb rfl 28 (bys d).toArray (0, 0) _ hbx hu28 rfl hi1 ?_))
          refine hnd.out.mono ?_
          rintro en w5 ⟨v5, rfl, ho5, h5⟩
          obtain ⟨A9, c9, rfl, hc9, hcm9, -, -⟩ := own_slice ho5
          generalize nodeB pp d = P at *
          have hb5 : Below wr.heap.size wr w5 := hBc.trans (h5.mono hBc.size)
          have hown5 := own_below HC.out.own hb5
          have hsz5 := hb5.size
          have hsz1 := HC.out.below.size
          obtain ⟨i1, hi33, hz33, hs33, hb33⟩ := info_parts Tryd.infoSlice
          have HO5 := Lib.hid ho5
          have H5 := Lib.hid h5
          have HBC := Lib.hid hBc
          have hlP2 : P.length ≤ 1152921504606846974 := by omega
          have HLP := Lib.hid hlP2
          clear hnd hax hbx ho5 h5 hBc hb5 hlP hlP2 hs0 hq
          go_wp2_with (at_builtin; refine wpList_append_own_at _ rfl (.tmp 61) (.tmp 63) 22 rfl W1.heap.size 33 i1 (.slice none 0 0) 1 24 Tryd.underlying22 hi33 hz33 hs33 hb33 rfl (by decide) u11 (k + 1) vs rfl (hown5.alloc _) ⟨w5.heap.size, 0, none⟩ 1 1 [.slice A9 P.length c9] rfl rfl (cell_one_new _ _ _) ?d1 ?d3 ?d4 ?d5 ?_)
          case d1 => intro u hu; simp at hu; subst hu; rfl
          case d3 => unfold maxLen; omega
          case d4 => omega
          case d5 => simp; omega
          intro v7 w7 hown7 hg7 _ _
          obtain ⟨m1, m2, m3, m4⟩ := climb_mid HC.out HBC.out H5.out HO5.out hg7
          have hsm := Lib.hid (sum_any w7.heap.size A9 c9 P w7 (climb_slot m3) (Nat.le_refl _) hc9 hcm9 HLP.out (hk1.below m1 hk1.2.2))
          rw [HD0.out] at m2
          have M1 := Lib.hid m1
          have M2 := Lib.hid m2
          have M3 := Lib.hid m3
          have M4 := Lib.hid m4
          have M5 := Lib.hid hown7
          clear m1 m2 m3 m4 hown7 hg7 hown5
          go_wp2_with fail
          refine hsm.out.mono ?_
          rintro en w8 ⟨rfl, h8⟩
          have hd8 := M2.out.below h8 M2.out.lt
          have hnx := Lib.hid (climb_next (i := i) (S := S) (ps := ps) (e := e) (k := k) (by rw [HD0.out, HST.out, HPV.out]) M1.out M2.out M3.out M4.out M5.out h8 hgd)
          have HIP := dig_info (shaF_len P)
          have HSP := dig_size2 ld (shaF_len P)
          have HAP := dig_one (shaF P)
          clear hsm h8
          generalize shaF P = dP at *
          go_wp2_with (refine wpList_store_row rfl 28 _ _ rfl gd (bys dP).toArray rfl rfl 28 _ hd8 HIP.out HSP.out HAP.out ?_)
          go_roundg (S.length - (k + 1))
          case measure => omega
          case rel => exact ⟨k + 1, _, by omega, by omega, by go_num, hnx.out⟩
        · have hq : (i : Int) ≤ (q.1 : Int) := by omega
          have HPv := Lib.hid (show stepP i q pp d = nodeB d pp by unfold stepP; rw [if_neg hqi])
          clear hqi
          obtain ⟨wc2, rfl⟩ : ∃ wc2 : World, wc2 = wc := ⟨_, rfl⟩
          have hax := HAB.out.a
          have hbx := HAB.out.b
          have hBc := HAB.out.below
          have hnd := Lib.hid (node_any d pp wc2 ld hpl)
          have hlP := nodeB_len d pp
          have HPV := HPv
          clear HPv
          go_wp2_with (first
            | (refine wpList_load_row rfl 28 _ rfl ga rfl 28 (bys d).toArray (0, 0) _ hax hu28 rfl hi1 ?_)
            | (refine wpList_load_row rfl 28 _ rfl gb rfl 28 (bys pp).toArray (0, 0) _ hbx hu28 rfl hi2 ?_))
          refine hnd.out.mono ?_
          rintro en w5 ⟨v5, rfl, ho5, h5⟩
          obtain ⟨A9, c9, rfl, hc9, hcm9, -, -⟩ := own_slice ho5
          generalize nodeB d pp = P at *
          have hb5 : Below wr.heap.size wr w5 := hBc.trans (h5.mono hBc.size)
          have hown5 := own_below HC.out.own hb5
          have hsz5 := hb5.size
          have hsz1 := HC.out.below.size
          obtain ⟨i1, hi33, hz33, hs33, hb33⟩ := info_parts Tryd.infoSlice
          have HO5 := Lib.hid ho5
          have H5 := Lib.hid h5
          have HBC := Lib.hid hBc
          have hlP2 : P.length ≤ 1152921504606846974 := by omega
          have HLP := Lib.hid hlP2
          clear hnd hax hbx ho5 h5 hBc hb5 hlP hlP2 hs0 hq
          go_wp2_with (at_builtin; refine wpList_append_own_at _ rfl (.tmp 61) (.tmp 63) 22 rfl W1.heap.size 33 i1 (.slice none 0 0) 1 24 Tryd.underlying22 hi33 hz33 hs33 hb33 rfl (by decide) u11 (k + 1) vs rfl (hown5.alloc _) ⟨w5.heap.size, 0, none⟩ 1 1 [.slice A9 P.length c9] rfl rfl (cell_one_new _ _ _) ?d1 ?d3 ?d4 ?d5 ?_)
          case d1 => intro u hu; simp at hu; subst hu; rfl
          case d3 => unfold maxLen; omega
          case d4 => omega
          case d5 => simp; omega
          intro v7 w7 hown7 hg7 _ _
          obtain ⟨m1, m2, m3, m4⟩ := climb_mid HC.out HBC.out H5.out HO5.out hg7
          have hsm := Lib.hid (sum_any w7.heap.size A9 c9 P w7 (climb_slot m3) (Nat.le_refl _) hc9 hcm9 HLP.out (hk1.below m1 hk1.2.2))
          rw [HD0.out] at m2
          have M1 := Lib.hid m1
          have M2 := Lib.hid m2
          have M3 := Lib.hid m3
          have M4 := Lib.hid m4
          have M5 := Lib.hid hown7
          clear m1 m2 m3 m4 hown7 hg7 hown5
          go_wp2_with fail
          refine hsm.out.mono ?_
          rintro en w8 ⟨rfl, h8⟩
          have hd8 := M2.out.below h8 M2.out.lt
          have hnx := Lib.hid (climb_next (i := i) (S := S) (ps := ps) (e := e) (k := k) (by rw [HD0.out, HST.out, HPV.out]) M1.out M2.out M3.out M4.out M5.out h8 hgd)
          have HIP := dig_info (shaF_len P)
          have HSP := dig_size2 ld (shaF_len P)
          have HAP := dig_one (shaF P)
          clear hsm h8
          generalize shaF P = dP at *
          go_wp2_with (refine wpList_store_row rfl 28 _ _ rfl gd (bys dP).toArray rfl rfl 28 _ hd8 HIP.out HSP.out HAP.out ?_)
          go_roundg (S.length - (k + 1))
          case measure => omega
          case rel => exact ⟨k + 1, _, by omega, by omega, by go_num, hnx.out⟩
    · obtain rfl : k = S.length := by omega
      have hdk := hC.d
      have ld : (cD i S ps (shaF (leafB e)) S.length).length = 32 := cD_len i S ps _ (shaF_len _) _
      have HC := Lib.hid hC
      clear hC
      have hu28 := Tryd.underlying28
      have hi1 := dig_sizeL ld
      have hlR := rootB_len n (cD i S ps (shaF (leafB e)) S.length)
      have hro := Lib.hid (root_any n hn (cD i S ps (shaF (leafB e)) S.length) wr ld)
      generalize hdd : cD i S ps (shaF (leafB e)) S.length = d at *
      have HD0 := Lib.hid hdd
      clear hdd
      go_wp2_with (refine wpList_load_row rfl 28 _ rfl gd rfl 28 (bys d).toArray (0, 0) _ hdk hu28 rfl hi1 ?_)
      refine hro.out.mono ?_
      rintro en w5 ⟨v5, rfl, ho5, h5⟩
      obtain ⟨A9, c9, rfl, hc9, hcm9, -, -⟩ := own_slice ho5
      generalize hRR : rootB n d = P at *
      have HRR := Lib.hid hRR
      clear hRR
      have hown5 := own_below HC.out.own h5
      have hsz5 := h5.size
      have hsz1 := HC.out.below.size
      obtain ⟨i1, hi33, hz33, hs33, hb33⟩ := info_parts Tryd.infoSlice
      have HO5 := Lib.hid ho5
      have H5 := Lib.hid h5
      clear hro hdk ho5 h5 hlR
      go_wp2_with (at_builtin; refine wpList_append_own_at _ rfl (.tmp 68) (.tmp 72) 22 rfl W1.heap.size 33 i1 (.slice none 0 0) 1 24 Tryd.underlying22 hi33 hz33 hs33 hb33 rfl (by decide) u11 (S.length + 1) vs rfl (hown5.alloc _) ⟨w5.heap.size, 0, none⟩ 1 1 [.slice A9 P.length c9] rfl rfl (cell_one_new _ _ _) ?e1 ?e3 ?e4 ?e5 ?_)
      case e1 => intro u hu; simp at hu; subst hu; rfl
      case e3 => unfold maxLen; omega
      case e4 => omega
      case e5 => simp; omega
      intro v7 w7 hown7 hg7 _ _
      obtain ⟨m1, -, m3, -⟩ := climb_mid HC.out (Below.refl _ _) H5.out HO5.out hg7
      have hres : w7.ownsRow w.heap.size 33 1 v7 (climbF n i e ps).length (vs ++ [.slice A9 P.length c9]) ∧ Lists w7 w7.heap.size (vs ++ [.slice A9 P.length c9]) (climbF n i e ps) ∧ Below w.heap.size w w7 := by
        have e1 : climbF n i e ps = cP i S ps e S.length ++ [P] := by rw [HCF.out, ← HDD.out, HD0.out, HRR.out]
        rw [e1]
        refine ⟨?_, m3, HB1.out.trans (m1.mono HB1.out.size)⟩
        rw [List.length_append, cP_len, List.length_singleton]
        exact own_wide hown7 HB1.out.size
      have HRES := Lib.hid hres
      clear hres m1 m3 hown7 hg7 hown5
      go_wp2
      go_ret2
      exact ⟨v7, _, rfl, HRES.out⟩
end Go.Proofs.YthmkdlnocdbhjaaDoor
