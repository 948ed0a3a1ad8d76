/- merkle.Verify. -/
import Derived.Test.YthmkdlnocdbhjaaDoorMkZ
import Derived.Stop.BytesEq
import Derived.IntWalk
namespace Go.Proofs.YthmkdlnocdbhjaaDoor
open Go.RowKit

/-- The digest that is computed from an element and its path. -/
def topF (n i : Nat) (e : List UInt8) (ps : List (List UInt8)) : List UInt8 := cD i (sibs 0 n i) ps (shaF (leafB e)) (sibs 0 n i).length
theorem climbF_eq (n i : Nat) (e : List UInt8) (ps : List (List UInt8)) : climbF n i e ps = cP i (sibs 0 n i) ps e (sibs 0 n i).length ++ [rootB n (topF n i e ps)] := rfl
theorem topF_len (n i : Nat) (e : List UInt8) (ps : List (List UInt8)) : (topF n i e ps).length = 32 := cD_len _ _ _ _ (shaF_len _) _
theorem eql_dig (W : World) (a b : List UInt8) (ha : a.length = 32) (hb : b.length = 32) : (binOp .eql 28 (.agg (bys a).toArray) (.agg (bys b).toArray)).run Tryd.prog W = .ok (.bool (a == b)) W :=
  run_eql_bytes W 28 5 32 Tryd.underlying28 Tryd.underlying5 (fun _ => by kernel_rfl) a b ha hb

theorem verify_no (r : Array Value) (n i : Int) (A : Option Addr) (m c : Nat) (B : Option Addr) (k d : Nat) (hi : i < 0 ∨ n ≤ i) (w : World) :
    Calls Tryd.prog 36 #[.agg r, .int .i64 n, .int .i64 i, .slice A m c, .slice B k d] w fun e w' => e = .returned (.bool false) ∧ Below w.heap.size w w' := by
  have hb := below_alloc1 w (.cells r 28)
  go_enter Tryd.func36, Tryd.ntmps36
  go_wp2_with fail
  refine (climb_no n i A m c B k d hi _).mono ?_
  rintro e w1 ⟨rfl, rfl⟩
  go_wp2_with fail
  go_quiet (fail)
  go_wp2
  go_ret
  exact ⟨rfl, below_drewN_ hb _⟩

theorem verify_len (r : Array Value) (n i : Nat) (hi : i < n) (hn : n < 9223372036854775808) (A : Option Addr) (m c : Nat) (B : Option Addr) (k d : Nat) (hk : k ≠ (sibs 0 n i).length) (w : World) :
    Calls Tryd.prog 36 #[.agg r, .int .i64 (n : Int), .int .i64 (i : Int), .slice A m c, .slice B k d] w fun e w' => e = .returned (.bool false) ∧ Below w.heap.size w w' := by
  have hb := below_alloc1 w (.cells r 28)
  have hc := Lib.hid (climb_len n i hi hn A m c B k d hk (w.alloc (.cells r 28)))
  clear hk hi
  go_enter Tryd.func36, Tryd.ntmps36
  go_wp2_with fail
  refine hc.out.mono ?_
  rintro e w1 ⟨rfl, h1⟩
  have hB := hb.trans (h1.mono hb.size)
  clear hc
  go_wp2_with fail
  go_quiet (fail)
  go_wp2
  go_ret
  exact ⟨rfl, below_drewN_ hB _⟩

set_option maxRecDepth 20000 in
set_option maxHeartbeats 6400000 in
theorem verify_ok (r : List UInt8) (hr : r.length = 32) (n i : Nat) (hi : i < n) (hn : n < 9223372036854775808) (B : Nat) (A : Option Addr) (c : Nat) (e : List UInt8) (Bp : Nat) (Ap : Option Addr) (cp : Nat) (ps : List (List UInt8)) (w : World) (hs : Sees w B 1 A e.length (bys e)) (hB : B ≤ w.heap.size) (hc : e.length ≤ c) (hcm : c ≤ 9223372036854775807) (he : e.length ≤ 140737488351232)
    (hP : PathW w Bp Ap cp ps) (hl : ps.length = (sibs 0 n i).length) (hk : Consts w) :
    Calls Tryd.prog 36 #[.agg (bys r).toArray, .int .i64 (n : Int), .int .i64 (i : Int), .slice A e.length c, .slice Ap ps.length cp] w fun en w' => en = .returned (.bool (shaF (rootB n (topF n i e ps)) == r)) ∧ Below w.heap.size w w' := by
  have hb := below_alloc1 w (.cells (bys r).toArray 28)
  have hbox := HB.new w 28 (bys r)
  have hcl := Lib.hid (climb_yes n i hi hn B A c e Bp Ap cp ps (w.alloc (.cells (bys r).toArray 28)) (hs.alloc hB _) (by simp; omega) hc hcm he (hP.below hb) hl (hk.below hb hk.2.2))
  have hk1 := hk.below hb hk.2.2
  have hcf := climbF_eq n i e ps
  have hPl : (rootB n (topF n i e ps)).length ≤ 1152921504606846974 := by rw [rootB_len, topF_len]; omega
  clear hs hP hl hk hi
  go_enter Tryd.func36, Tryd.ntmps36
  go_wp2_with fail
  refine hcl.out.mono ?_
  generalize w.alloc (.cells (bys r).toArray 28) = w0 at *
  rintro en W1 ⟨v1, vs, rfl, ho, hli, hB1⟩
  obtain ⟨M, hM⟩ : ∃ M, (climbF n i e ps).length = M + 1 := ⟨(cP i (sibs 0 n i) ps e (sibs 0 n i).length).length, by rw [hcf]; simp⟩
  have hlast : (climbF n i e ps)[M]? = some (rootB n (topF n i e ps)) := by
    rw [hcf] at hM ⊢
    have e1 : M = (cP i (sibs 0 n i) ps e (sibs 0 n i).length).length := by simpa using hM.symm
    rw [e1]; simp
  rw [hM] at ho
  obtain ⟨A1, c1, rfl, hc1, hcm1, -, hs1⟩ := own_slice ho
  obtain ⟨ad, rfl, had, hx⟩ := hs1.some_ (by omega)
  obtain ⟨A9, c9, h1, h2, h3, h4⟩ := hli.2 M _ hlast
  have hx9 := hx M _ h1
  have hcs1 := hk1.below hB1 hk1.2.2
  have hb1 := hbox.below hB1 hbox.lt
  have hBw : Below w.heap.size w W1 := hb.trans (hB1.mono hb.size)
  have hmm : M < 9223372036854775807 := by omega
  clear hcl ho hli hx h1 hs1 hlast hcf hM hbox hB1 hb
  generalize hPP : rootB n (topF n i e ps) = P at *
  have HPP := Lib.hid hPP
  clear hPP
  have hS : ∀ a : World, Below W1.heap.size W1 a → (Below W1.heap.size W1 a ∧ a.cell? (ad.add M) = some (.slice A9 P.length c9) ∧ a.rangeAt w.heap.size 0 (bys r)) := fun a h => ⟨h, (h.cell (by rw [add_block]; exact had)).trans hx9, fun j u hu => (h.cell (p := ⟨w.heap.size, 0 + j, none⟩) hb1.lt).trans (by rw [Nat.zero_add, hb1.cell]; exact hu)⟩
  have hK0 := hS _ (Below.drew (Below.refl _ _))
  have hKL : ∀ a b : World, (Below W1.heap.size W1 a ∧ a.cell? (ad.add M) = some (.slice A9 P.length c9) ∧ a.rangeAt w.heap.size 0 (bys r)) → Below a.heap.size a b → (Below W1.heap.size W1 b ∧ b.cell? (ad.add M) = some (.slice A9 P.length c9) ∧ b.rangeAt w.heap.size 0 (bys r)) := fun a b h k => hS b (h.1.trans (k.mono h.1.size))
  have hsm : ∀ a : World, (Below W1.heap.size W1 a ∧ a.cell? (ad.add M) = some (.slice A9 P.length c9) ∧ a.rangeAt w.heap.size 0 (bys r)) → Hid (Calls Tryd.prog 39 #[.slice A9 P.length c9] a (Digs a (shaF P))) := fun a h =>
    sum_any W1.heap.size A9 c9 P a (h4.below h.1) h.1.size h2 h3 hPl (hcs1.below h.1 hcs1.2.2)
  have HSM := Lib.hid hsm
  have HKL := Lib.hid hKL
  have HSS := Lib.hid hS
  have hu28 := Tryd.underlying28
  have hi1 : (Tryd.prog.info? 28).map (·.size) = some (bys r).length := by rw [bys_len, hr]; exact Tryd.infoD
  have heq : ∀ W, _ := fun W => eql_dig W (shaF P) r (shaF_len _) hr
  have HEQ := Lib.hid heq
  have HBW := Lib.hid hBw
  clear hsm hKL hS heq h4 hx9 hb1 hcs1 hk1 hBw hr
  generalize hDD : shaF P = D at *
  have HDD := Lib.hid hDD
  clear hDD
  have heq := HEQ.out
  have m1 : (0 : Int) ≤ (M : Int) := by omega
  have m3 : IntKind.i64.wrap (((M + 1 : Nat) : Int) - 1) = (M : Int) := by rw [IntWalk.i64_in _ (by omega)]; omega
  have m4 : IntKind.i64.wrap (M : Int) = (M : Int) := IntWalk.i64_in _ (by omega)
  have m5 : (M : Int) < ((M + 1 : Nat) : Int) := by omega
  have m6 : IntKind.i64.wrap ((M : Int) + 1 - 1) = (M : Int) := by rw [IntWalk.i64_in _ (by omega)]; omega
  have m7 : (M : Int) < (M : Int) + 1 := by omega
  go_wp2_with fail
  go_region_held3 (fun w' => (Below W1.heap.size W1 w' ∧ w'.cell? (ad.add M) = some (.slice A9 P.length c9) ∧ w'.rangeAt w.heap.size 0 (bys r)))
    (first | exact hK0 | exact HKL.out _ _ (by assumption) hB)
    (first
      | (go_at_call 39; refine (HSM.out _ (by assumption)).out.mono ?_; rintro en w' ⟨rfl, hB⟩))
  have hfin : Below w.heap.size w _ := HBW.out.trans (((Below.drew (Below.refl W1.heap.size W1)).trans hB).mono HBW.out.size)
  have HF := Lib.hid hfin
  clear hfin hB
  go_wp2
  go_ret
  exact ⟨by rw [HPP.out, HDD.out]; rfl, HF.out⟩
end Go.Proofs.YthmkdlnocdbhjaaDoor
