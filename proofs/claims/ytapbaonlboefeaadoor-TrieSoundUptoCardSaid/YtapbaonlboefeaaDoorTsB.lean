/- trie: trail.outwards: the iterator. -/
import Derived.Test.YtapbaonlboefeaaDoorTsA
import Derived.Test.YtapbaonlboefeaaDoorGen
import Derived.Shelf.Abstract
import Derived.Shelf.RegionOpen
import Derived.WalkKit
import Derived.OwnWalkIn
import Derived.TacticsInMore
import Derived.LoopNIn
import Derived.LoopIn
namespace Go.Proofs.YtapbaonlboefeaaDoor
open Go.RowKit Go.Shelf
attribute [local go_sem] Oper.semAt_some

/-- Sibling number x of those that lie in T. -/
def sibAt (T : List UInt8) (x : Nat) : List UInt8 := (T.drop (x * 32)).take 32
theorem sibAt_len {T : List UInt8} {x : Nat} (h : x < T.length / 32) : (sibAt T x).length = 32 := by
  simp [sibAt]; omega
/-- From the path's end to the root. -/
def dn (D k : Nat) : List (Fin D) := ((List.finRange D).reverse).take k
theorem dn_len (D k : Nat) (h : k ≤ D) : (dn D k).length = k := by simp [dn]; omega
theorem dn_succ (D k : Nat) (h : k < D) : dn D (k + 1) = dn D k ++ [⟨D - 1 - k, by omega⟩] := by
  unfold dn
  rw [List.take_succ_eq_append_getElem (by simpa using h)]
  simp [List.getElem_reverse]
theorem dn_all (D : Nat) : dn D D = (List.finRange D).reverse := by
  unfold dn; exact List.take_of_length_le (by simp)
def encO (T : List UInt8) (D : Nat) (x : Fin D) : Array Value := #[.int .i64 (x.val : Int), .agg (bys (sibAt T x.val)).toArray]
/-- What a round keeps. -/
def KpO (n₀ gb : Nat) (W W' : World) : Prop := Below n₀ W W' ∧ W'.heap[gb]? = W.heap[gb]?
theorem KpO.trans_ {n₀ gb : Nat} {A B C : World} (h : KpO n₀ gb A B) (k : KpO n₀ gb B C) : KpO n₀ gb A C := ⟨h.1.trans k.1, k.2.trans h.2⟩
theorem grown_of_below {W W' : World} (hb : Below W.heap.size W W') : W.grownBy W' none := ⟨hb.os, hb.tape, hb.output, hb.size, fun k hk _ => hb.block k hk⟩
set_option maxRecDepth 100000 in
set_option maxHeartbeats 2000000 in
theorem out_any (w : World) (As : Option Addr) (n cs : Nat) (A3 : Option Addr) (m c3 : Nat) :
    Calls Tryd.prog 58 #[.agg #[.slice As n cs, .slice A3 m c3]] w fun e w' => e = .returned (.func (.func 71) #[] #[.pointer (some ⟨w.heap.size, 0, none⟩)]) ∧ w' = w.alloc (.cells #[.slice As n cs, .slice A3 m c3] 62) := by
  go_enter Tryd.func58, Tryd.ntmps58
  go_wp2
  go_ret
  exact ⟨rfl, rfl⟩
set_option maxRecDepth 100000 in
set_option maxHeartbeats 2000000 in
theorem out1_any (nn l gb n₀ D : Nat) (As : Option Addr) (cs : Nat) (A3 : Option Addr) (m c3 : Nat) (T : List UInt8) (hD : D ≤ 256) (hTD : T.length = D * 32) (J Jx : List (Fin D) → World → Prop)
    (W : World) (hJ : AbidesFrom W.heap.size J)
    (hY : ∀ pre x W1, J pre W1 → pre.length < D → YieldAt Fence.wide (nn - 1) Tryd.prog l (encO T D x) W1 fun e W' =>
      (e = .returned (.bool true) ∧ J (pre ++ [x]) W' ∧ KpO n₀ gb W1 W') ∨ (e = .returned (.bool false) ∧ Jx (pre ++ [x]) W'))
    (hn₀ : n₀ ≤ W.heap.size) (hgb : HB W gb 62 [.slice As (D * 32) cs, .slice A3 m c3]) (hS : Slot W n₀ (.slice As (D * 32) cs) T) (h0 : J [] W) :
    CallsIn Fence.wide nn Tryd.prog 71 #[.func (.yield l) #[] #[], .pointer (some ⟨gb, 0, none⟩)] W fun e W' => (∃ v, e = .returned v) ∧
      ((∃ ys, ys = dn D D ∧ J ys W') ∨ (∃ pre, (∃ k, k ≤ D ∧ pre = dn D k) ∧ Jx pre W')) := by
  refine callsIn_of_wp Tryd.func71 rfl trivial ?_ rfl
  simp only [Tryd.ntmps71, List.size_toArray, List.length_cons, List.length_nil, Nat.reduceAdd, Nat.reduceSub, Array.replicate_succ, Array.replicate_zero, List.push_toArray, List.append_toArray, List.nil_append, List.cons_append]
  have HTR := Lib.hid hgb; have HS := Lib.hid hS; have HJ := Lib.hid hJ; have HY := Lib.hid hY; have HN := Lib.hid hn₀; have H0 := Lib.hid h0
  have HTD := Lib.hid hTD; have HD := Lib.hid hD
  have hc0 : W.cell? ⟨gb, 0, none⟩ = some (.slice As (D * 32) cs) := by rw [hgb.cell]; rfl
  have hc1 : W.cell? ⟨gb, 1, none⟩ = some (.slice A3 m c3) := by rw [hgb.cell]; rfl
  obtain ⟨nt, hn⟩ : ∃ nt, nt = D * 32 := ⟨_, rfl⟩
  have HND := Lib.hid hn
  have HDA := Lib.hid (depth_any W As nt cs (.slice A3 m c3) (by omega) ⟨_, _, _, rfl⟩)
  have HDV : Hid (nt / 32 = D) := Lib.hid (by omega)
  rw [← hn] at hc0
  rw [HDV.out] at HDA
  clear hgb hS hJ hY hn₀ h0 hn hTD
  have hD1 : (D : Int) ≤ 256 := by omega
  have hD0 : (0 : Int) ≤ (D : Int) := by omega
  gi_wp2_with fail
  refine ⟨trivial, (fun q => by cases q), (callsIn_wide.2 HDA.out).mono ?_⟩
  rintro e w2 ⟨rfl, hB⟩
  have HB2 := Lib.hid hB
  have HJ2 : Hid (J [] w2) := Lib.hid (HJ.out _ _ _ none H0.out (grown_of_below hB) (fun r e => by cases e))
  clear hc0 hc1 hB HDA
  gi_wp2_with fail
  gi_loopw [3] (fun t wr => ∃ (k : Nat) (d : Int), k ≤ D ∧ d = (D : Int) - 1 - k ∧ t = .int .i64 d ∧ J (dn D k) wr ∧ KpO n₀ gb W wr ∧ W.heap.size ≤ wr.heap.size) (fun t _ => (intOf t + 1).toNat)
  case atStart => exact ⟨0, _, Nat.zero_le _, by omega, rfl, HJ2.out, ⟨HB2.out.mono HN.out, HB2.out.block gb HTR.out.lt⟩, HB2.out.size⟩
  case round =>
    obtain ⟨k, d', hk, hd', rfl, hJs, hkp, hsz⟩ := hrel
    by_cases hlt : k < D
    · obtain ⟨d, rfl⟩ : ∃ d : Nat, d' = (d : Int) := ⟨d'.toNat, by omega⟩
      have hdD : d < D := by omega
      have HX : Hid (dn D (k + 1) = dn D k ++ [⟨d, hdD⟩]) := Lib.hid (by rw [dn_succ D k hlt]; congr 3; omega)
      have HTRr : HB wr gb 62 [.slice As (D * 32) cs, .slice A3 m c3] := HTR.out.keep hkp.2
      have hc0 : wr.cell? ⟨gb, 0, none⟩ = some (.slice As nt cs) := by rw [HTRr.cell, HND.out]; rfl
      have hSr := (HS.out.below hkp.1).wide (Nat.le_trans HN.out hsz)
      rw [← HND.out] at hSr
      obtain ⟨As', cs', he, hcs1, hcs2, hse⟩ := hSr
      obtain ⟨he1, he2, he3⟩ := Value.slice.inj he
      subst he1; subst he3
      clear he he2
      have hTn : T.length = nt := by rw [HTD.out, HND.out]
      rw [hTn] at hcs1 hse
      obtain ⟨ad, rfl, hadl, -⟩ := hse.some_ (by have := HND.out; omega)
      have hdn : d * 32 < nt := by have := HND.out; omega
      have hdrop := hse.drop (k := d * 32) (cap := cs) (by omega) hcs1
      rw [if_neg (by omega : ¬ cs = d * 32), Nat.mul_one, show (bys T).drop (d * 32) = bys (T.drop (d * 32)) from by simp [bys]] at hdrop
      have HDIG := Lib.hid (toDigest_any wr ((some ad).map (·.add (d * 32))) (cs - d * 32) (T.drop (d * 32)) (by rw [List.length_drop, hTn]; exact hdrop) (by rw [List.length_drop, hTn]; have := HND.out; omega) (by rw [List.length_drop, hTn]; omega))
      have hln : (T.drop (d * 32)).length = nt - d * 32 := by rw [List.length_drop, hTn]
      rw [hln] at HDIG
      have HKP := Lib.hid hkp; have HSZ := Lib.hid hsz; have HJR := Lib.hid hJs; have HDD := Lib.hid hd'
      have i1 : (0 : Int) ≤ (d : Int) := by omega
      have i2 : (d : Int) * 32 ≤ (nt : Int) := by omega
      have i3 : (nt : Int) ≤ (cs : Int) := by omega
      have i4 : (d : Int) * 32 < (cs : Int) := by omega
      have i5 : (d : Int) ≤ 256 := by omega
      have i6 : ((d : Int) * 32).toNat = d * 32 := by omega
      clear hkp hsz hJs hd' hse hdrop hln hTn HTRr hcs1
      obtain ⟨sb, hsb⟩ : ∃ sb, sibAt T d = sb := ⟨_, rfl⟩
      have HSB := Lib.hid hsb
      change Hid (Calls _ _ _ _ (Digs wr (sibAt T d))) at HDIG
      rw [hsb] at HDIG
      clear hsb
      gi_wp2_with fail
      refine ⟨trivial, (fun q => by cases q), (callsIn_wide.2 HDIG.out).mono ?_⟩
      rintro e w3 ⟨rfl, hB3⟩
      have hJ3 : J (dn D k) w3 := HJ.out _ _ _ none HJR.out (grown_of_below hB3) (fun r e => by cases e)
      obtain ⟨fn, tmps, assign, body, hy, hR⟩ := HY.out _ ⟨d, hdD⟩ w3 hJ3 (by rw [dn_len D k hk]; exact hlt)
      dsimp only [encO] at hy
      rw [HSB.out] at hy
      have HR := Lib.hid hR
      have HKP3 : Hid (KpO n₀ gb W w3) := Lib.hid ⟨HKP.out.1.trans (hB3.mono (Nat.le_trans HN.out HSZ.out)), (hB3.block gb (Nat.lt_of_lt_of_le HTR.out.lt HSZ.out)).trans HKP.out.2⟩
      have HSZ3 := Lib.hid (Nat.le_trans HSZ.out hB3.size)
      clear hJ3 hR hB3 hc0
      gi_wp2
      refine ⟨(fun q => by cases q), HR.out.mono ?_⟩
      rintro e W3 (⟨rfl, hJ3, hk3⟩ | ⟨rfl, hJx3⟩)
      · have HJ3 := Lib.hid hJ3
        have HK3 := Lib.hid (HKP3.out.trans_ hk3)
        have HSZ4 := Lib.hid (Nat.le_trans HSZ3.out hk3.1.size)
        clear hJ3 hk3
        have i7 : Hid ((d : Int) - 1 = (D : Int) - 1 - ((k + 1 : Nat) : Int)) := Lib.hid (by have := HDD.out; push_cast; omega)
        gi_wp2
        go_roundw
        case rel => exact ⟨k + 1, (d : Int) - 1, by omega, i7.out, rfl, by rw [HX.out]; exact HJ3.out, HK3.out, HSZ4.out⟩
        case measure => simp [intOf]
      · gi_wp2
        refine bodyPost_ret (results_none rfl _ _ _) rfl ?_
        exact ⟨⟨_, rfl⟩, .inr ⟨_, ⟨k + 1, by omega, HX.out.symm⟩, hJx3⟩⟩
    · obtain rfl : k = D := by omega
      have HJR := Lib.hid hJs
      have hneg : d' < 0 := by omega
      clear hJs hkp hd' hlt
      gi_wp2
      go_end0
      exact ⟨⟨_, rfl⟩, .inl ⟨_, rfl, HJR.out⟩⟩
end Go.Proofs.YtapbaonlboefeaaDoor
