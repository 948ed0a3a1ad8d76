/- wapentakeref05.Check. WRITTEN BY wip/gen/sdc.py. -/
import Derived.Test.YtkhbogccmngmmaaDoorSdV
import Derived.Test.YtkhbogccmngmmaaDoorSgK
namespace Go.Proofs.YtkhbogccmngmmaaDoor
open Go.RowKit

/-- A signing that a ring takes. -/
structure In5 (nk bud : Int) (s : Sg) : Prop where
  k0 : 0 ≤ s.1.1
  k1 : s.1.1 < nk
  i0 : 0 ≤ s.1.2
  i1 : s.1.2 < bud
  text : s.2.length ≤ 140737488351232
theorem In5.ok {nk bud : Int} {s : Sg} (h : In5 nk bud s) (hn : nk ≤ 12) (hb : bud ≤ 65536) : SgOk s :=
  ⟨⟨by have := h.k0; omega, by have := h.k1; omega⟩, ⟨by have := h.i0; omega, by have := h.i1; omega⟩, h.text⟩
theorem rtag_in {nk bud : Int} {s : Sg} (h : In5 nk bud s) (hn : nk ≤ 12) (hb : bud ≤ 65536) (w : World) :
    Calls Tryd.prog 62 #[.agg (sgC s).toArray] w (Digs w (tagF s)) := by
  obtain ⟨⟨k, i⟩, t⟩ := s
  obtain ⟨h1, h2, h3, h4, h5⟩ := h
  simp only at h1 h2 h3 h4 h5
  obtain ⟨k, rfl⟩ := Int.eq_ofNat_of_zero_le h1
  obtain ⟨i, rfl⟩ := Int.eq_ofNat_of_zero_le h3
  exact rtag_any w k i t (by omega) (by omega) h5
theorem HB.part1 {w : World} {g : Nat} {t : TypeId} {i : Int} {d : List UInt8} (h : HB w g t (sigL i d)) : w.rangeAt g 1 (bys d) := fun j u hu => by
  rw [h.cell]
  simp only [sigL, Nat.add_comm 1 j, List.getElem?_cons_succ]
  exact hu

set_option maxRecDepth 20000 in
set_option maxHeartbeats 3200000 in
theorem rcheck_in (w : World) (base r : Nat) (nk bud : Int) (v : Value) (L : List Sg) (h : Ring5 w base r nk bud v L) (hin : ∀ x ∈ L, In5 nk bud x) (hn : nk ≤ 12) (hb : bud ≤ 65536) (k i : Int) (hk : I64 k) (hi : I64 i) (t : List UInt8) (ht : t.length ≤ 140737488351232) (d : List UInt8) (hd : d.length = 32) (hmem : ((k, i), t) ∈ L) :
    Calls Tryd.prog 30 #[.pointer (some ⟨r, 0, none⟩), .int .i64 k, .string (strB t), .agg (sigL i d).toArray] w (ChkR w (tagF ((k, i), t) == d)) := by
  have HM := Lib.hid (show decide (((k, i), t) ∈ L) = true by simpa using hmem)
  have HOK := Lib.hid (fun x hx => (hin x hx).ok hn hb : ∀ x ∈ L, SgOk x)
  have HSG := Lib.hid (⟨hk, hi, ht⟩ : SgOk ((k, i), t))
  have HD := Lib.hid hd
  have HTG := Lib.hid (rtag_in (hin _ hmem) hn hb)
  have hs1 := HB.new w 61 (sigL i d)
  have hB1 := below_alloc1 w (.cells (sigL i d).toArray 61)
  have hR1 := h.below hB1
  have hz1 : (w.alloc (.cells (sigL i d).toArray 61)).heap.size = w.heap.size + 1 := by simp
  generalize hw1 : w.alloc (.cells (sigL i d).toArray 61) = w1 at *
  have hs0 : w1.cell? ⟨w.heap.size, 0, none⟩ = some (.int .i64 i) := by rw [hs1.cell]; rfl
  have hcs : (sgC ((k, i), t)) = [.int .i64 k, .int .i64 i, .string (strB t)] := rfl
  have HZZ := Lib.hid hz1
  have HS1 := Lib.hid hs1; have HB1 := Lib.hid hB1; have HR1 := Lib.hid hR1
  clear h hin hn hb hk hi ht hmem hs1 hB1 hR1 hd hz1 
  go_enter Tryd.func30, Tryd.ntmps30
  go_wp2_with fail
  have hX := HB.new w1 127 (sgC ((k, i), t))
  have hB4 := HB1.out.alloc (by have := HZZ.out; omega) (.cells (sgC ((k, i), t)).toArray 127)
  have hR4 := HR1.out.below (below_alloc1 w1 (.cells (sgC ((k, i), t)).toArray 127))
  have hS4 := HS1.out.alloc (.cells (sgC ((k, i), t)).toArray 127)
  rw [HZZ.out] at hX ⊢
  rw [hcs] at hX hB4 hR4 hS4
  change Code.wp _ _ _ _ (w1.alloc (.cells ([.int .i64 k, .int .i64 i, .string (strB t)] : List Value).toArray 127))
  generalize w1.alloc (.cells ([.int .i64 k, .int .i64 i, .string (strB t)] : List Value).toArray 127) = w4 at *
  have HX : Hid (HB w4 (w.heap.size + 1) 127 (sgC ((k, i), t))) := Lib.hid hX
  have HB4 := Lib.hid hB4; have HR4 := Lib.hid hR4; have HS4 := Lib.hid hS4
  have HEQ := Lib.hid (fun W : World => eql_dg W (tagF ((k, i), t)) d (tagF_len _) HD.out)
  clear hX hB4 hR4 hS4 hs0 hw1 hcs
  generalize tagF ((k, i), t) = dg at *
  refine wp_region_inv 25 (fun j v _ => v = ([.pointer (some ⟨r, 0, none⟩), .agg (sgC ((k, i), t)).toArray, .bool true, .bool true, .agg (sgC ((k, i), t)).toArray, .agg (bys dg).toArray, .pointer (some ⟨w.heap.size, 1, none⟩), .agg (bys d).toArray, .bool (dg == d), .bool (dg == d), .bool (dg == d)] : List Value).getD j undef) (Below w4.heap.size w4) (fun _ W W' => Below W.heap.size W W') (by kernel_rfl) (by rfl) (by kernel_rfl) (fun _ _ _ _ _ _ _ _ _ hR => hR) (fun _ _ _ e h => h.trans (e.mono h.size)) (Below.drew (Below.refl _ _)) (fun j o ho vs W hI hdep => ?_) (fun vs W hI hR => ?_)
  · rcases j with _ | j
    · simp only [List.getElem?_toArray, List.getElem?_cons_zero, Option.some.injEq] at ho
      subst ho
      refine .inl ⟨rfl, fun K Q hK => ?_⟩
      simp only [putFrom, Act.put, List.setIfInBounds_toArray, List.set_cons_succ, List.set_cons_zero, Nat.reduceAdd] at hK ⊢
      have HK := Lib.hid hK
      clear hK hdep 
      go_simp
      exact HK.out _ _ _ rfl ⟨Below.refl _ _, rfl⟩
    rcases j with _ | j
    · simp only [List.getElem?_toArray, List.getElem?_cons_succ, List.getElem?_cons_zero, Option.some.injEq, Nat.zero_add] at ho
      subst ho
      refine .inl ⟨rfl, fun K Q hK => ?_⟩
      simp only [putFrom, Act.put, List.setIfInBounds_toArray, List.set_cons_succ, List.set_cons_zero, Nat.reduceAdd] at hK ⊢
      have HK := Lib.hid hK
      clear hK hdep 
      refine wp_load_mid 127 _ rfl (w.heap.size + 1) 0 rfl (sgC ((k, i), t)) _ (HX.out.below hI HX.out.lt).range Tryd.underlying127 rfl (by kernel_rfl) ?_
      simp only [Act.put, List.setIfInBounds_toArray, List.set_cons_succ, List.set_cons_zero]
      exact HK.out _ _ _ rfl ⟨Below.refl _ _, rfl⟩
    rcases j with _ | j
    · simp only [List.getElem?_toArray, List.getElem?_cons_succ, List.getElem?_cons_zero, Option.some.injEq, Nat.zero_add] at ho
      subst ho
      have e0 : vs 0 = .pointer (some ⟨r, 0, none⟩) := hdep 0 rfl
      have e1 : vs 1 = .agg (sgC ((k, i), t)).toArray := hdep 1 rfl
      refine .inl ⟨rfl, fun K Q hK => ?_⟩
      simp only [putFrom, Act.put, List.setIfInBounds_toArray, List.set_cons_succ, List.set_cons_zero, Nat.reduceAdd, e0, e1] at hK ⊢
      have HK := Lib.hid hK
      clear hK hdep e0 e1
      go_simp
      refine (has5_any W base r nk bud v L (HR4.out.below (hI.mono (Nat.le_refl _))) HOK.out ((k, i), t) HSG.out).mono ?_
      rintro e w5 ⟨rfl, hB5⟩
      rw [HM.out]
      go_simp
      exact HK.out _ _ _ rfl ⟨hB5, rfl⟩
    rcases j with _ | j
    · simp only [List.getElem?_toArray, List.getElem?_cons_succ, List.getElem?_cons_zero, Option.some.injEq, Nat.zero_add] at ho
      subst ho
      have e2 : vs 2 = .bool true := hdep 2 rfl
      refine .inl ⟨rfl, fun K Q hK => ?_⟩
      simp only [putFrom, Act.put, List.setIfInBounds_toArray, List.set_cons_succ, List.set_cons_zero, Nat.reduceAdd, e2] at hK ⊢
      have HK := Lib.hid hK
      clear hK hdep e2
      go_simp
      exact HK.out _ _ _ rfl ⟨Below.refl _ _, rfl⟩
    rcases j with _ | j
    · simp only [List.getElem?_toArray, List.getElem?_cons_succ, List.getElem?_cons_zero, Option.some.injEq, Nat.zero_add] at ho
      subst ho
      have e3 : vs 3 = .bool true := hdep 3 rfl
      refine .inl ⟨(by simp only [putFrom, Act.put, List.setIfInBounds_toArray, List.set_cons_succ, List.set_cons_zero, Nat.reduceAdd, e3]; rfl), fun K Q hK => ?_⟩
      simp only [putFrom, Act.put, List.setIfInBounds_toArray, List.set_cons_succ, List.set_cons_zero, Nat.reduceAdd] at hK ⊢
      have HK := Lib.hid hK
      clear hK hdep e3
      refine wp_load_mid 127 _ rfl (w.heap.size + 1) 0 rfl (sgC ((k, i), t)) _ (HX.out.below hI HX.out.lt).range Tryd.underlying127 rfl (by kernel_rfl) ?_
      simp only [Act.put, List.setIfInBounds_toArray, List.set_cons_succ, List.set_cons_zero]
      exact HK.out _ _ _ rfl ⟨Below.refl _ _, rfl⟩
    rcases j with _ | j
    · simp only [List.getElem?_toArray, List.getElem?_cons_succ, List.getElem?_cons_zero, Option.some.injEq, Nat.zero_add] at ho
      subst ho
      have e4 : vs 4 = .agg (sgC ((k, i), t)).toArray := hdep 4 rfl
      have e3 : vs 3 = .bool true := hdep 3 rfl
      refine .inl ⟨(by simp only [putFrom, Act.put, List.setIfInBounds_toArray, List.set_cons_succ, List.set_cons_zero, Nat.reduceAdd, e3]; rfl), fun K Q hK => ?_⟩
      simp only [putFrom, Act.put, List.setIfInBounds_toArray, List.set_cons_succ, List.set_cons_zero, Nat.reduceAdd, e4] at hK ⊢
      have HK := Lib.hid hK
      clear hK hdep e3 e4
      go_simp
      refine (HTG.out W).mono ?_
      rintro e w5 ⟨rfl, hB5⟩
      go_simp
      exact HK.out _ _ _ rfl ⟨hB5, rfl⟩
    rcases j with _ | j
    · simp only [List.getElem?_toArray, List.getElem?_cons_succ, List.getElem?_cons_zero, Option.some.injEq, Nat.zero_add] at ho
      subst ho
      have e3 : vs 3 = .bool true := hdep 3 rfl
      refine .inl ⟨(by simp only [putFrom, Act.put, List.setIfInBounds_toArray, List.set_cons_succ, List.set_cons_zero, Nat.reduceAdd, e3]; rfl), fun K Q hK => ?_⟩
      simp only [putFrom, Act.put, List.setIfInBounds_toArray, List.set_cons_succ, List.set_cons_zero, Nat.reduceAdd] at hK ⊢
      have HK := Lib.hid hK
      clear hK hdep e3
      go_simp
      exact HK.out _ _ _ rfl ⟨Below.refl _ _, rfl⟩
    rcases j with _ | j
    · simp only [List.getElem?_toArray, List.getElem?_cons_succ, List.getElem?_cons_zero, Option.some.injEq, Nat.zero_add] at ho
      subst ho
      have e6 : vs 6 = .pointer (some ⟨w.heap.size, 1, none⟩) := hdep 6 rfl
      have e3 : vs 3 = .bool true := hdep 3 rfl
      refine .inl ⟨(by simp only [putFrom, Act.put, List.setIfInBounds_toArray, List.set_cons_succ, List.set_cons_zero, Nat.reduceAdd, e3]; rfl), fun K Q hK => ?_⟩
      simp only [putFrom, Act.put, List.setIfInBounds_toArray, List.set_cons_succ, List.set_cons_zero, Nat.reduceAdd, e6] at hK ⊢
      have HK := Lib.hid hK
      clear hK hdep e3 e6
      refine wp_load_mid 24 _ rfl w.heap.size 1 rfl (bys d) _ ((HS4.out.below hI HS4.out.lt).part1) Tryd.underlying24 rfl (by rw [bys_len, HD.out]; kernel_rfl) ?_
      simp only [Act.put, List.setIfInBounds_toArray, List.set_cons_succ, List.set_cons_zero]
      exact HK.out _ _ _ rfl ⟨Below.refl _ _, rfl⟩
    rcases j with _ | j
    · simp only [List.getElem?_toArray, List.getElem?_cons_succ, List.getElem?_cons_zero, Option.some.injEq, Nat.zero_add] at ho
      subst ho
      have e5 : vs 5 = .agg (bys dg).toArray := hdep 5 rfl
      have e7 : vs 7 = .agg (bys d).toArray := hdep 7 rfl
      have e3 : vs 3 = .bool true := hdep 3 rfl
      refine .inl ⟨(by simp only [putFrom, Act.put, List.setIfInBounds_toArray, List.set_cons_succ, List.set_cons_zero, Nat.reduceAdd, e3]; rfl), fun K Q hK => ?_⟩
      simp only [putFrom, Act.put, List.setIfInBounds_toArray, List.set_cons_succ, List.set_cons_zero, Nat.reduceAdd, e5, e7] at hK ⊢
      have HK := Lib.hid hK
      clear hK hdep e3 e5 e7
      refine wp_cmp .eql 24 _ _ _ rfl (.agg (bys dg).toArray) (.agg (bys d).toArray) (.bool (dg == d)) rfl rfl (run_eqGuard_agg _ _ _ _ _ _ _ (by kernel_rfl)) (HEQ.out W) ?_
      simp only [Act.put, List.setIfInBounds_toArray, List.set_cons_succ, List.set_cons_zero]
      exact HK.out _ _ _ rfl ⟨Below.refl _ _, rfl⟩
    rcases j with _ | j
    · simp only [List.getElem?_toArray, List.getElem?_cons_succ, List.getElem?_cons_zero, Option.some.injEq, Nat.zero_add] at ho
      subst ho
      have e3 : vs 3 = .bool true := hdep 3 rfl
      have e8 : vs 8 = .bool (dg == d) := hdep 8 rfl
      refine .inl ⟨rfl, fun K Q hK => ?_⟩
      simp only [putFrom, Act.put, List.setIfInBounds_toArray, List.set_cons_succ, List.set_cons_zero, Nat.reduceAdd, e3, e8] at hK ⊢
      have HK := Lib.hid hK
      clear hK hdep e3 e8
      go_simp
      exact HK.out _ _ _ rfl ⟨Below.refl _ _, rfl⟩
    rcases j with _ | j
    · simp only [List.getElem?_toArray, List.getElem?_cons_succ, List.getElem?_cons_zero, Option.some.injEq, Nat.zero_add] at ho
      subst ho
      have e9 : vs 9 = .bool (dg == d) := hdep 9 rfl
      refine .inl ⟨rfl, fun K Q hK => ?_⟩
      simp only [putFrom, Act.put, List.setIfInBounds_toArray, List.set_cons_succ, List.set_cons_zero, Nat.reduceAdd, e9] at hK ⊢
      have HK := Lib.hid hK
      clear hK hdep e9
      go_simp
      exact HK.out _ _ _ rfl ⟨Below.refl _ _, rfl⟩
    exact absurd ho (by simp)
  · have hB := HB4.out.trans (hI.mono HB4.out.size)
    have e10 : vs 10 = .bool (dg == d) := hR 10 (by decide)
    simp only [putFrom, Act.put, List.setIfInBounds_toArray, List.set_cons_succ, List.set_cons_zero, Nat.reduceAdd, e10]
    clear hR e10
    go_wp2
    go_ret
    exact ⟨rfl, hB⟩
set_option maxRecDepth 20000 in
set_option maxHeartbeats 3200000 in
theorem rcheck_out (w : World) (base r : Nat) (nk bud : Int) (v : Value) (L : List Sg) (h : Ring5 w base r nk bud v L) (hin : ∀ x ∈ L, In5 nk bud x) (hn : nk ≤ 12) (hb : bud ≤ 65536) (k i : Int) (hk : I64 k) (hi : I64 i) (t : List UInt8) (ht : t.length ≤ 140737488351232) (d : List UInt8) (hd : d.length = 32) (hmem : ((k, i), t) ∉ L) :
    Calls Tryd.prog 30 #[.pointer (some ⟨r, 0, none⟩), .int .i64 k, .string (strB t), .agg (sigL i d).toArray] w (ChkR w false) := by
  have HM := Lib.hid (show decide (((k, i), t) ∈ L) = false by simpa using hmem)
  have HOK := Lib.hid (fun x hx => (hin x hx).ok hn hb : ∀ x ∈ L, SgOk x)
  have HSG := Lib.hid (⟨hk, hi, ht⟩ : SgOk ((k, i), t))
  have HD := Lib.hid hd
  have hz0 := hn
  have hs1 := HB.new w 61 (sigL i d)
  have hB1 := below_alloc1 w (.cells (sigL i d).toArray 61)
  have hR1 := h.below hB1
  have hz1 : (w.alloc (.cells (sigL i d).toArray 61)).heap.size = w.heap.size + 1 := by simp
  generalize hw1 : w.alloc (.cells (sigL i d).toArray 61) = w1 at *
  have hs0 : w1.cell? ⟨w.heap.size, 0, none⟩ = some (.int .i64 i) := by rw [hs1.cell]; rfl
  have hcs : (sgC ((k, i), t)) = [.int .i64 k, .int .i64 i, .string (strB t)] := rfl
  have HZZ := Lib.hid hz1
  have HS1 := Lib.hid hs1; have HB1 := Lib.hid hB1; have HR1 := Lib.hid hR1
  clear h hin hn hb hk hi ht hmem hs1 hB1 hR1 hd hz1 hz0
  go_enter Tryd.func30, Tryd.ntmps30
  go_wp2_with fail
  have hX := HB.new w1 127 (sgC ((k, i), t))
  have hB4 := HB1.out.alloc (by have := HZZ.out; omega) (.cells (sgC ((k, i), t)).toArray 127)
  have hR4 := HR1.out.below (below_alloc1 w1 (.cells (sgC ((k, i), t)).toArray 127))
  have hS4 := HS1.out.alloc (.cells (sgC ((k, i), t)).toArray 127)
  rw [HZZ.out] at hX ⊢
  rw [hcs] at hX hB4 hR4 hS4
  change Code.wp _ _ _ _ (w1.alloc (.cells ([.int .i64 k, .int .i64 i, .string (strB t)] : List Value).toArray 127))
  generalize w1.alloc (.cells ([.int .i64 k, .int .i64 i, .string (strB t)] : List Value).toArray 127) = w4 at *
  have HX : Hid (HB w4 (w.heap.size + 1) 127 (sgC ((k, i), t))) := Lib.hid hX
  have HB4 := Lib.hid hB4; have HR4 := Lib.hid hR4; have HS4 := Lib.hid hS4
  have HEQ := Lib.hid (fun W : World => eql_dg W (tagF ((k, i), t)) d (tagF_len _) HD.out)
  clear hX hB4 hR4 hS4 hs0 hw1 hcs
  generalize tagF ((k, i), t) = dg at *
  refine wp_region_inv 25 (fun j v _ => v = ([.pointer (some ⟨r, 0, none⟩), .agg (sgC ((k, i), t)).toArray, .bool false, .bool false, undef, undef, undef, undef, undef, .bool false, .bool false] : List Value).getD j undef) (Below w4.heap.size w4) (fun _ W W' => Below W.heap.size W W') (by kernel_rfl) (by rfl) (by kernel_rfl) (fun _ _ _ _ _ _ _ _ _ hR => hR) (fun _ _ _ e h => h.trans (e.mono h.size)) (Below.drew (Below.refl _ _)) (fun j o ho vs W hI hdep => ?_) (fun vs W hI hR => ?_)
  · rcases j with _ | j
    · simp only [List.getElem?_toArray, List.getElem?_cons_zero, Option.some.injEq] at ho
      subst ho
      refine .inl ⟨rfl, fun K Q hK => ?_⟩
      simp only [putFrom, Act.put, List.setIfInBounds_toArray, List.set_cons_succ, List.set_cons_zero, Nat.reduceAdd] at hK ⊢
      have HK := Lib.hid hK
      clear hK hdep 
      go_simp
      exact HK.out _ _ _ rfl ⟨Below.refl _ _, rfl⟩
    rcases j with _ | j
    · simp only [List.getElem?_toArray, List.getElem?_cons_succ, List.getElem?_cons_zero, Option.some.injEq, Nat.zero_add] at ho
      subst ho
      refine .inl ⟨rfl, fun K Q hK => ?_⟩
      simp only [putFrom, Act.put, List.setIfInBounds_toArray, List.set_cons_succ, List.set_cons_zero, Nat.reduceAdd] at hK ⊢
      have HK := Lib.hid hK
      clear hK hdep 
      refine wp_load_mid 127 _ rfl (w.heap.size + 1) 0 rfl (sgC ((k, i), t)) _ (HX.out.below hI HX.out.lt).range Tryd.underlying127 rfl (by kernel_rfl) ?_
      simp only [Act.put, List.setIfInBounds_toArray, List.set_cons_succ, List.set_cons_zero]
      exact HK.out _ _ _ rfl ⟨Below.refl _ _, rfl⟩
    rcases j with _ | j
    · simp only [List.getElem?_toArray, List.getElem?_cons_succ, List.getElem?_cons_zero, Option.some.injEq, Nat.zero_add] at ho
      subst ho
      have e0 : vs 0 = .pointer (some ⟨r, 0, none⟩) := hdep 0 rfl
      have e1 : vs 1 = .agg (sgC ((k, i), t)).toArray := hdep 1 rfl
      refine .inl ⟨rfl, fun K Q hK => ?_⟩
      simp only [putFrom, Act.put, List.setIfInBounds_toArray, List.set_cons_succ, List.set_cons_zero, Nat.reduceAdd, e0, e1] at hK ⊢
      have HK := Lib.hid hK
      clear hK hdep e0 e1
      go_simp
      refine (has5_any W base r nk bud v L (HR4.out.below (hI.mono (Nat.le_refl _))) HOK.out ((k, i), t) HSG.out).mono ?_
      rintro e w5 ⟨rfl, hB5⟩
      rw [HM.out]
      go_simp
      exact HK.out _ _ _ rfl ⟨hB5, rfl⟩
    rcases j with _ | j
    · simp only [List.getElem?_toArray, List.getElem?_cons_succ, List.getElem?_cons_zero, Option.some.injEq, Nat.zero_add] at ho
      subst ho
      have e2 : vs 2 = .bool false := hdep 2 rfl
      refine .inl ⟨rfl, fun K Q hK => ?_⟩
      simp only [putFrom, Act.put, List.setIfInBounds_toArray, List.set_cons_succ, List.set_cons_zero, Nat.reduceAdd, e2] at hK ⊢
      have HK := Lib.hid hK
      clear hK hdep e2
      go_simp
      exact HK.out _ _ _ rfl ⟨Below.refl _ _, rfl⟩
    rcases j with _ | j
    · simp only [List.getElem?_toArray, List.getElem?_cons_succ, List.getElem?_cons_zero, Option.some.injEq, Nat.zero_add] at ho
      subst ho
      have e3 : vs 3 = .bool false := hdep 3 rfl
      exact .inr ⟨by simp only [putFrom, Act.put, List.setIfInBounds_toArray, List.set_cons_succ, List.set_cons_zero, Nat.reduceAdd, e3]; rfl, Below.refl _ _, rfl⟩
    rcases j with _ | j
    · simp only [List.getElem?_toArray, List.getElem?_cons_succ, List.getElem?_cons_zero, Option.some.injEq, Nat.zero_add] at ho
      subst ho
      have e3 : vs 3 = .bool false := hdep 3 rfl
      exact .inr ⟨by simp only [putFrom, Act.put, List.setIfInBounds_toArray, List.set_cons_succ, List.set_cons_zero, Nat.reduceAdd, e3]; rfl, Below.refl _ _, rfl⟩
    rcases j with _ | j
    · simp only [List.getElem?_toArray, List.getElem?_cons_succ, List.getElem?_cons_zero, Option.some.injEq, Nat.zero_add] at ho
      subst ho
      have e3 : vs 3 = .bool false := hdep 3 rfl
      exact .inr ⟨by simp only [putFrom, Act.put, List.setIfInBounds_toArray, List.set_cons_succ, List.set_cons_zero, Nat.reduceAdd, e3]; rfl, Below.refl _ _, rfl⟩
    rcases j with _ | j
    · simp only [List.getElem?_toArray, List.getElem?_cons_succ, List.getElem?_cons_zero, Option.some.injEq, Nat.zero_add] at ho
      subst ho
      have e3 : vs 3 = .bool false := hdep 3 rfl
      exact .inr ⟨by simp only [putFrom, Act.put, List.setIfInBounds_toArray, List.set_cons_succ, List.set_cons_zero, Nat.reduceAdd, e3]; rfl, Below.refl _ _, rfl⟩
    rcases j with _ | j
    · simp only [List.getElem?_toArray, List.getElem?_cons_succ, List.getElem?_cons_zero, Option.some.injEq, Nat.zero_add] at ho
      subst ho
      have e3 : vs 3 = .bool false := hdep 3 rfl
      exact .inr ⟨by simp only [putFrom, Act.put, List.setIfInBounds_toArray, List.set_cons_succ, List.set_cons_zero, Nat.reduceAdd, e3]; rfl, Below.refl _ _, rfl⟩
    rcases j with _ | j
    · simp only [List.getElem?_toArray, List.getElem?_cons_succ, List.getElem?_cons_zero, Option.some.injEq, Nat.zero_add] at ho
      subst ho
      have e3 : vs 3 = .bool false := hdep 3 rfl
      have e8 : vs 8 = undef := hdep 8 rfl
      refine .inl ⟨rfl, fun K Q hK => ?_⟩
      simp only [putFrom, Act.put, List.setIfInBounds_toArray, List.set_cons_succ, List.set_cons_zero, Nat.reduceAdd, e3, e8] at hK ⊢
      have HK := Lib.hid hK
      clear hK hdep e3 e8
      go_simp
      exact HK.out _ _ _ rfl ⟨Below.refl _ _, rfl⟩
    rcases j with _ | j
    · simp only [List.getElem?_toArray, List.getElem?_cons_succ, List.getElem?_cons_zero, Option.some.injEq, Nat.zero_add] at ho
      subst ho
      have e9 : vs 9 = .bool false := hdep 9 rfl
      refine .inl ⟨rfl, fun K Q hK => ?_⟩
      simp only [putFrom, Act.put, List.setIfInBounds_toArray, List.set_cons_succ, List.set_cons_zero, Nat.reduceAdd, e9] at hK ⊢
      have HK := Lib.hid hK
      clear hK hdep e9
      go_simp
      exact HK.out _ _ _ rfl ⟨Below.refl _ _, rfl⟩
    exact absurd ho (by simp)
  · have hB := HB4.out.trans (hI.mono HB4.out.size)
    have e10 : vs 10 = .bool false := hR 10 (by decide)
    simp only [putFrom, Act.put, List.setIfInBounds_toArray, List.set_cons_succ, List.set_cons_zero, Nat.reduceAdd, e10]
    clear hR e10
    go_wp2
    go_ret
    exact ⟨rfl, hB⟩
theorem rcheck_any (w : World) (base r : Nat) (nk bud : Int) (v : Value) (L : List Sg) (h : Ring5 w base r nk bud v L) (hin : ∀ x ∈ L, In5 nk bud x) (hn : nk ≤ 12) (hb : bud ≤ 65536) (k i : Int) (hk : I64 k) (hi : I64 i) (t : List UInt8) (ht : t.length ≤ 140737488351232) (d : List UInt8) (hd : d.length = 32) :
    Calls Tryd.prog 30 #[.pointer (some ⟨r, 0, none⟩), .int .i64 k, .string (strB t), .agg (sigL i d).toArray] w (ChkR w (chkB L ((k, i), t) d)) := by
  by_cases hm : ((k, i), t) ∈ L
  · have e : chkB L ((k, i), t) d = (tagF ((k, i), t) == d) := by simp [chkB, hm]
    rw [e]
    exact rcheck_in w base r nk bud v L h hin hn hb k i hk hi t ht d hd hm
  · have e : chkB L ((k, i), t) d = false := by simp [chkB, hm]
    rw [e]
    exact rcheck_out w base r nk bud v L h hin hn hb k i hk hi t ht d hd hm
end Go.Proofs.YtkhbogccmngmmaaDoor
