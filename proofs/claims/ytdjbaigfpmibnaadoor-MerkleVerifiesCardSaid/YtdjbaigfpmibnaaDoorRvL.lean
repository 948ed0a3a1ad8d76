/- wapentakelaw03.MerkleVerifies: the law returns true. -/
import Derived.Test.YtdjbaigfpmibnaaDoorRtW
namespace Go.Proofs.YtdjbaigfpmibnaaDoor
open Go.RowKit

/-- Called so it hands back this Boolean, and all that lay before lies. -/
def Says (w : World) (b : Bool) (en : Ending) (w' : World) : Prop := en = .returned (.bool b) ∧ Below w.heap.size w w'
theorem both_any (r : List UInt8) (hr : r.length = 32) (n i : Int) (hn : n ≤ 9223372036854775807) (Be : Nat) (Ae : Option Addr) (ce : Nat) (e : List UInt8) (hc : e.length ≤ ce) (hcm : ce ≤ 9223372036854775807) (he : e.length ≤ 140737488351232) (Bp : Nat) (Ap : Option Addr) (cp : Nat) (ps : List (List UInt8)) :
    ∃ b : Bool, ∀ a : World, Sees a Be 1 Ae e.length (bys e) → Be ≤ a.heap.size → PathW a Bp Ap cp ps → Consts a →
      Calls Tryd.prog 21 #[.agg (bys r).toArray, .int .i64 n, .int .i64 i, .slice Ae e.length ce, .slice Ap ps.length cp] a (Says a b) ∧
      Calls Tryd.prog 22 #[.agg (bys r).toArray, .int .i64 n, .int .i64 i, .slice Ae e.length ce, .slice Ap ps.length cp] a (Says a b) := by
  by_cases h : 0 ≤ i ∧ i < n
  · obtain ⟨k, rfl⟩ : ∃ k : Nat, i = (k : Int) := ⟨i.toNat, by omega⟩
    obtain ⟨m, rfl⟩ : ∃ m : Nat, n = (m : Int) := ⟨n.toNat, by omega⟩
    by_cases hl : ps.length = (sibs 0 m k).length
    · exact ⟨_, fun a hs hBe hP hk => ⟨verify_ok r hr m k (by omega) (by omega) Be Ae ce e Bp Ap cp ps a hs hBe hc hcm he hP hl hk, rverify_ok r hr m k (by omega) (by omega) Be Ae ce e a hs hBe hc hcm he Bp Ap cp ps hP hl⟩⟩
    · exact ⟨false, fun a hs hBe hP _ => ⟨verify_len _ m k (by omega) (by omega) Ae _ ce Ap _ cp hl a, rverify_len r m k (by omega) (by omega) Be Ae ce e a hs hBe hc hcm he Bp Ap cp ps hP hl⟩⟩
  · exact ⟨false, fun a _ _ _ _ => ⟨verify_no _ n i Ae _ ce Ap _ cp (by omega) a, rverify_no r n i Ae _ ce Ap _ cp (by omega) a⟩⟩
set_option maxRecDepth 20000 in
set_option maxHeartbeats 1600000 in
theorem verifies_law (haw : ∀ W : World, Consts W → Calls Tryd.prog 15 #[] W fun e w' => e = .returned (.bool true) ∧ Below W.heap.size W w') (r : List UInt8) (hr : r.length = 32) (n i : Int) (hn : n ≤ 9223372036854775807) (w : World) (hk : Consts w) (Be : Nat) (Ae : Option Addr) (ce : Nat) (e : List UInt8) (hs : Sees w Be 1 Ae e.length (bys e)) (hBe : Be ≤ w.heap.size) (hc : e.length ≤ ce) (hcm : ce ≤ 9223372036854775807) (he : e.length ≤ 140737488351232)
    (Bp : Nat) (Ap : Option Addr) (cp : Nat) (ps : List (List UInt8)) (hP : PathW w Bp Ap cp ps) :
    Calls Tryd.prog 4 #[.agg (bys r).toArray, .int .i64 n, .int .i64 i, .slice Ae e.length ce, .slice Ap ps.length cp] w fun e w' => e = .returned (.bool true) ∧ Below w.heap.size w w' := by
  obtain ⟨b, hboth⟩ := both_any r hr n i hn Be Ae ce e hc hcm he Bp Ap cp ps
  have hW1 := below_alloc1 w (.cells (bys r).toArray 28)
  have hbox := HB.new w 28 (bys r)
  have hiR : (Tryd.prog.info? 28).map (·.size) = some (bys r).length := by rw [bys_len, hr]; exact Tryd.infoD
  have hat : ∀ a : World, Below (w.alloc (.cells (bys r).toArray 28)).heap.size (w.alloc (.cells (bys r).toArray 28)) a → Sees a Be 1 Ae e.length (bys e) ∧ Be ≤ a.heap.size ∧ PathW a Bp Ap cp ps ∧ Consts a := fun a h => by
    have h1 := hW1.trans (h.mono hW1.size)
    exact ⟨hs.below (h1.mono hBe), Nat.le_trans hBe h1.size, hP.below h1, hk.below h1 hk.2.2⟩
  have HB_ := Lib.hid hboth
  have HAt := Lib.hid hat
  have HAW := Lib.hid haw
  clear hboth hat hs hP hk haw
  go_enter Tryd.func4, Tryd.ntmps4
  go_wp2_with fail
  generalize w.alloc (.cells (bys r).toArray 28) = W1 at *
  refine wp_region_held_drew (S := fun w' => Below W1.heap.size W1 w') (by kernel_rfl) (Below.drew (Below.refl _ _)) (fun hH => ?_)
  refine wpAnyH_ready (rs := [0]) (by kernel_rfl) (by simp) ?_
  refine AllReadyH.cons rfl (fun K hK => ?_) AllReadyH.nil
  rw [if_pos (by rfl)]
  go_simp
  refine (HAW.out _ (HAt.out _ hH).2.2.2).mono ?_
  rintro en w3 ⟨rfl, hBn⟩
  have hH3 := hH.trans (hBn.mono hH.size)
  dsimp only
  refine hK.out _ _ hH3 (fun _ => ?_)
  clear hK K hBn
  try simp only [Act.put, List.getElem_toArray, List.getElem_cons_succ, List.getElem_cons_zero, List.setIfInBounds_toArray, List.set_cons_succ, List.set_cons_zero]
  refine wpAnyH_take (i := 1) (v := ?v1) rfl (by kernel_rfl) (by kernel_rfl) (by kernel_rfl) (fun _ _ _ h => h) (Or.inl ⟨by rfl, ?y1⟩) hH3 ?_
  case y1 => intro w' hSw; (first | (go_simp; done) | (go_simp; with_reducible rfl))
  try simp only [Act.put, List.getElem_toArray, List.getElem_cons_succ, List.getElem_cons_zero, List.setIfInBounds_toArray, List.set_cons_succ, List.set_cons_zero]
  refine wpAnyH_take (i := 2) (v := .agg (bys r).toArray) rfl (by kernel_rfl) (by kernel_rfl) (by kernel_rfl) (fun _ _ _ h => h) (yieldsIf_load_mid (by rfl) 28 _ rfl w.heap.size 0 rfl (bys r) _ (fun w' h => hb_range (hbox.below h (HB.lt hbox))) Tryd.underlying28 rfl hiR) hH3 ?_
  try simp only [Act.put, List.getElem_toArray, List.getElem_cons_succ, List.getElem_cons_zero, List.setIfInBounds_toArray, List.set_cons_succ, List.set_cons_zero]
  refine wpAnyH_take (i := 3) (v := ?v2) rfl (by kernel_rfl) (by kernel_rfl) (by kernel_rfl) (fun _ _ _ h => h) (Or.inl ⟨by rfl, ?y2⟩) hH3 ?_
  case y2 => intro w' hSw; (first | (go_simp; done) | (go_simp; with_reducible rfl))
  try simp only [Act.put, List.getElem_toArray, List.getElem_cons_succ, List.getElem_cons_zero, List.setIfInBounds_toArray, List.set_cons_succ, List.set_cons_zero]
  refine wpAnyH_take (i := 4) (v := ?v3) rfl (by kernel_rfl) (by kernel_rfl) (by kernel_rfl) (fun _ _ _ h => h) (Or.inl ⟨by rfl, ?y3⟩) hH3 ?_
  case y3 => intro w' hSw; (first | (go_simp; done) | (go_simp; with_reducible rfl))
  try simp only [Act.put, List.getElem_toArray, List.getElem_cons_succ, List.getElem_cons_zero, List.setIfInBounds_toArray, List.set_cons_succ, List.set_cons_zero]
  refine wpAnyH_take (i := 5) (v := ?v4) rfl (by kernel_rfl) (by kernel_rfl) (by kernel_rfl) (fun _ _ _ h => h) (Or.inl ⟨by rfl, ?y4⟩) hH3 ?_
  case y4 => intro w' hSw; (first | (go_simp; done) | (go_simp; with_reducible rfl))
  try simp only [Act.put, List.getElem_toArray, List.getElem_cons_succ, List.getElem_cons_zero, List.setIfInBounds_toArray, List.set_cons_succ, List.set_cons_zero]
  refine wpAnyH_take (i := 6) (v := ?v5) rfl (by kernel_rfl) (by kernel_rfl) (by kernel_rfl) (fun _ _ _ h => h) (Or.inl ⟨by rfl, ?y5⟩) hH3 ?_
  case y5 => intro w' hSw; (first | (go_simp; done) | (go_simp; with_reducible rfl))
  try simp only [Act.put, List.getElem_toArray, List.getElem_cons_succ, List.getElem_cons_zero, List.setIfInBounds_toArray, List.set_cons_succ, List.set_cons_zero]
  refine wpAnyH_take (i := 8) (v := .agg (bys r).toArray) rfl (by kernel_rfl) (by kernel_rfl) (by kernel_rfl) (fun _ _ _ h => h) (yieldsIf_load_mid (by rfl) 28 _ rfl w.heap.size 0 rfl (bys r) _ (fun w' h => hb_range (hbox.below h (HB.lt hbox))) Tryd.underlying28 rfl hiR) hH3 ?_
  try simp only [Act.put, List.getElem_toArray, List.getElem_cons_succ, List.getElem_cons_zero, List.setIfInBounds_toArray, List.set_cons_succ, List.set_cons_zero]
  refine wpAnyH_take (i := 9) (v := ?v6) rfl (by kernel_rfl) (by kernel_rfl) (by kernel_rfl) (fun _ _ _ h => h) (Or.inl ⟨by rfl, ?y6⟩) hH3 ?_
  case y6 => intro w' hSw; (first | (go_simp; done) | (go_simp; with_reducible rfl))
  try simp only [Act.put, List.getElem_toArray, List.getElem_cons_succ, List.getElem_cons_zero, List.setIfInBounds_toArray, List.set_cons_succ, List.set_cons_zero]
  refine wpAnyH_take (i := 10) (v := ?v7) rfl (by kernel_rfl) (by kernel_rfl) (by kernel_rfl) (fun _ _ _ h => h) (Or.inl ⟨by rfl, ?y7⟩) hH3 ?_
  case y7 => intro w' hSw; (first | (go_simp; done) | (go_simp; with_reducible rfl))
  try simp only [Act.put, List.getElem_toArray, List.getElem_cons_succ, List.getElem_cons_zero, List.setIfInBounds_toArray, List.set_cons_succ, List.set_cons_zero]
  refine wpAnyH_take (i := 11) (v := ?v8) rfl (by kernel_rfl) (by kernel_rfl) (by kernel_rfl) (fun _ _ _ h => h) (Or.inl ⟨by rfl, ?y8⟩) hH3 ?_
  case y8 => intro w' hSw; (first | (go_simp; done) | (go_simp; with_reducible rfl))
  try simp only [Act.put, List.getElem_toArray, List.getElem_cons_succ, List.getElem_cons_zero, List.setIfInBounds_toArray, List.set_cons_succ, List.set_cons_zero]
  refine wpAnyH_take (i := 12) (v := ?v9) rfl (by kernel_rfl) (by kernel_rfl) (by kernel_rfl) (fun _ _ _ h => h) (Or.inl ⟨by rfl, ?y9⟩) hH3 ?_
  case y9 => intro w' hSw; (first | (go_simp; done) | (go_simp; with_reducible rfl))
  try simp only [Act.put, List.getElem_toArray, List.getElem_cons_succ, List.getElem_cons_zero, List.setIfInBounds_toArray, List.set_cons_succ, List.set_cons_zero]
  refine wpAnyH_ready (rs := [7]) (by kernel_rfl) (by simp) ?_
  refine AllReadyH.cons rfl (fun K hK => ?_) AllReadyH.nil
  · rw [if_pos (by rfl)]
    go_simp
    refine ((HB_.out _ (HAt.out _ hH3).1 (HAt.out _ hH3).2.1 (HAt.out _ hH3).2.2.1 (HAt.out _ hH3).2.2.2).1).mono ?_
    rintro en w4 ⟨rfl, hBn⟩
    have hH4 := hH3.trans (hBn.mono hH3.size)
    dsimp only
    refine hK.out _ _ hH4 (fun _ => ?_)
    clear hK K hBn
    try simp only [Act.put, List.getElem_toArray, List.getElem_cons_succ, List.getElem_cons_zero, List.setIfInBounds_toArray, List.set_cons_succ, List.set_cons_zero]
    refine wpAnyH_ready (rs := [13]) (by kernel_rfl) (by simp) ?_
    refine AllReadyH.cons rfl (fun K hK => ?_) AllReadyH.nil
    rw [if_pos (by rfl)]
    go_simp
    refine ((HB_.out _ (HAt.out _ hH4).1 (HAt.out _ hH4).2.1 (HAt.out _ hH4).2.2.1 (HAt.out _ hH4).2.2.2).2).mono ?_
    rintro en w5 ⟨rfl, hBn⟩
    have hH5 := hH4.trans (hBn.mono hH4.size)
    dsimp only
    refine hK.out _ _ hH5 (fun _ => ?_)
    clear hK K hBn
    try simp only [Act.put, List.getElem_toArray, List.getElem_cons_succ, List.getElem_cons_zero, List.setIfInBounds_toArray, List.set_cons_succ, List.set_cons_zero]
    refine wpAnyH_take (i := 14) (v := ?v10) rfl (by kernel_rfl) (by kernel_rfl) (by kernel_rfl) (fun _ _ _ h => h) (Or.inl ⟨by rfl, ?y10⟩) hH5 ?_
    case y10 => intro w' hSw; (first | (go_simp; done) | (go_simp; with_reducible rfl))
    try simp only [Act.put, List.getElem_toArray, List.getElem_cons_succ, List.getElem_cons_zero, List.setIfInBounds_toArray, List.set_cons_succ, List.set_cons_zero]
    refine wpAnyH_take (i := 15) (v := ?v11) rfl (by kernel_rfl) (by kernel_rfl) (by kernel_rfl) (fun _ _ _ h => h) (Or.inl ⟨by rfl, ?y11⟩) hH5 ?_
    case y11 => intro w' hSw; (first | (go_simp; done) | (go_simp; with_reducible rfl))
    try simp only [Act.put, List.getElem_toArray, List.getElem_cons_succ, List.getElem_cons_zero, List.setIfInBounds_toArray, List.set_cons_succ, List.set_cons_zero]
    refine wpAnyH_take (i := 16) (v := ?v12) rfl (by kernel_rfl) (by kernel_rfl) (by kernel_rfl) (fun _ _ _ h => h) (Or.inl ⟨by rfl, ?y12⟩) hH5 ?_
    case y12 => intro w' hSw; (first | (go_simp; done) | (go_simp; with_reducible rfl))
    try simp only [Act.put, List.getElem_toArray, List.getElem_cons_succ, List.getElem_cons_zero, List.setIfInBounds_toArray, List.set_cons_succ, List.set_cons_zero]
    refine wpAnyH_done (by kernel_rfl) ?_ _
    have hfin := Lib.hid (hW1.trans (hH5.mono hW1.size))
    try simp only [List.getElem_toArray, List.getElem_cons_succ, List.getElem_cons_zero, List.setIfInBounds_toArray, List.set_cons_succ, List.set_cons_zero]
    go_wp2
    go_ret
    exact ⟨by simp, hfin.out⟩
end Go.Proofs.YtdjbaigfpmibnaaDoor
