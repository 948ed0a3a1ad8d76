/- (*sign.Signer).Sign. WRITTEN BY wip/gen/sgt.py. -/
import Derived.Test.YtkhbogccmngmmaaDoorSgT
import Derived.Test.YtkhbogccmngmmaaDoorSgX
import Derived.Deep.DeepCutAuto
namespace Go.Proofs.YtkhbogccmngmmaaDoor
open Go.RowKit

theorem heap_setCells_other {g b : Nat} (hb : b ≠ g) : ∀ (l : List Value) (o : Nat) (w : World), (w.setCells g o l).heap[b]? = w.heap[b]?
  | [], _, _ => rfl
  | v :: l, o, w => (heap_setCells_other hb l (o + 1) _).trans (heap_setCell_other w _ _ v hb)
theorem setCells_os {g : Nat} : ∀ (l : List Value) (o : Nat) (w : World), (w.setCells g o l).os = w.os
  | [], _, _ => rfl
  | _ :: l, o, _ => setCells_os l (o + 1) _
theorem setCells_tape {g : Nat} : ∀ (l : List Value) (o : Nat) (w : World), (w.setCells g o l).tape = w.tape
  | [], _, _ => rfl
  | _ :: l, o, _ => setCells_tape l (o + 1) _
theorem setCells_output {g : Nat} : ∀ (l : List Value) (o : Nat) (w : World), (w.setCells g o l).output = w.output
  | [], _, _ => rfl
  | _ :: l, o, _ => setCells_output l (o + 1) _
section
variable {w : World} {g : Nat} {f : Foot} {k : Nat} {n : Int}
theorem SigW.g0 (h : SigW w g f k n) : w.cell? ⟨g, 0, none⟩ = some (.pointer (some ⟨f.r, 0, none⟩)) := by rw [HB.cell h]; rfl
theorem SigW.g1 (h : SigW w g f k n) : w.cell? ⟨g, 1, none⟩ = some (.int .i64 (k : Int)) := by rw [HB.cell h]; rfl
theorem SigW.g2 (h : SigW w g f k n) : w.cell? ⟨g, 2, none⟩ = some (.int .i64 n) := by rw [HB.cell h]; rfl
theorem SigW.drew (h : SigW w g f k n) : SigW w.drew g f k n := h
theorem SigW.alloc (h : SigW w g f k n) (o : Obj) : SigW (w.alloc o) g f k n := HB.alloc h o
theorem SigW.lt (h : SigW w g f k n) : g < w.heap.size := HB.lt h
theorem mine_lt {w : World} {f : Foot} {nk : Nat} {bud : Int} {L : List Sg} {U : List (Int × Int)} (h : RingW w f nk bud L U) : ∀ b, f.mine b → b < w.heap.size := fun b hb => by
  rcases hb with rfl | rfl | rfl
  · exact h.tally.lt
  · exact h.tags.lt
  · exact h.used.lt
/-- A block of cells of another type is none of the ring's. -/
theorem cells_ne {w : World} {g : Nat} {t : TypeId} {cs : List Value} (h : HB w g t cs) {f : Foot} {nk : Nat} {bud : Int} {L : List Sg} {U : List (Int × Int)} (hR : RingW w f nk bud L U) (h1 : t ≠ 133) : ¬ f.mine g := fun hb => by
  rcases hb with e | e | e
  · exact hb_ne h hR.tally h1 e
  · exact cells_not_map h hR.tags e
  · exact cells_not_map h hR.used e
end
/-- What the ring's Sign leaves, whatever it answers. -/
def SPost (f : Foot) (nk : Nat) (bud : Int) (L : List Sg) (U : List (Int × Int)) (cs : List Value) (err : Int) (W : World) (e : Ending) (w' : World) : Prop :=
  e = .returned (.tuple #[.agg cs.toArray, .int .i64 err]) ∧ RingW w' f nk bud L U ∧ Turn f.mine W w'
/-- Behind the ring's answer: a row of it in block n6. -/
structure MidW (w wx : World) (g : Nat) (f : Foot) (nk : Nat) (bud : Int) (k : Nat) (n : Int) (L : List Sg) (U : List (Int × Int)) (cs : List Value) (n6 : Nat) : Prop where
  ring : RingW wx f nk bud L U
  sig : SigW wx g f k n
  row : HB wx n6 61 cs
  res : HB wx w.heap.size 61 sigZ
  turn : Turn f.mine w wx
  fresh : w.heap.size < n6
/-- .. before there is such a row. -/
structure MidC (w wx : World) (g : Nat) (f : Foot) (nk : Nat) (bud : Int) (k : Nat) (n : Int) (L : List Sg) (U : List (Int × Int)) : Prop where
  ring : RingW wx f nk bud L U
  sig : SigW wx g f k n
  res : HB wx w.heap.size 61 sigZ
  turn : Turn f.mine w wx
section
variable {w w1 W w2 wx : World} {g : Nat} {f : Foot} {nk : Nat} {bud : Int} {k : Nat} {n : Int} {L L0 : List Sg} {U U0 : List (Int × Int)} {cs : List Value} {n6 : Nat}
theorem mid_call (hg : SigW w1 g f k n) (hR : RingW w1 f nk bud L0 U0) (hd : HB w1 w.heap.size 61 sigZ) (ht : Turn f.mine w w1) (hb : Below w1.heap.size w1 W) (hR2 : RingW w2 f nk bud L U) (hT2 : Turn f.mine W w2) : MidC w w2 g f nk bud k n L U := by
  have hgW : HB W g _ _ := HB.below hg hb (HB.lt hg)
  have hdW := hd.below hb hd.lt
  exact ⟨hR2, HB.keep hgW (hT2.block _ hgW.lt (cells_ne hg hR (by decide))), hdW.keep (hT2.block _ hdW.lt (cells_ne hd hR (by decide))), (ht.trans (Turn.of_below hb)).trans hT2⟩
theorem MidC.alloc (h : MidC w w2 g f nk bud k n L U) : MidW w (w2.alloc (.cells sigZ.toArray 61)) g f nk bud k n L U sigZ w2.heap.size :=
  ⟨h.ring.alloc _, h.sig.alloc _, HB.new _ _ _, h.res.alloc _, h.turn.trans (Turn.alloc _ _), h.res.lt⟩
theorem MidC.keep (h : MidC w w2 g f nk bud k n L U) (hn : HB W n6 61 sigZ) (hR : RingW w1 f nk bud L0 U0) (hT : Turn f.mine W w2) (h6 : w1.heap.size ≤ n6) (hw : w.heap.size < w1.heap.size) : MidW w w2 g f nk bud k n L U sigZ n6 :=
  ⟨h.ring, h.sig, hn.keep (hT.block _ hn.lt (fun hb => by have := mine_lt hR _ hb; omega)), h.res, h.turn, by omega⟩
theorem mid_store (h : MidW w wx g f nk bud k n L U sigZ n6) (hl : cs.toArray.toList.length = sigZ.length) : MidW w (wx.setCells n6 0 cs.toArray.toList) g f nk bud k n L U cs n6 := by
  have hne := cells_ne h.row h.ring (by decide)
  have hkeep : ∀ b, b ≠ n6 → (wx.setCells n6 0 cs.toArray.toList).heap[b]? = wx.heap[b]? := fun b hb => heap_setCells_other hb _ _ _
  have hgn := hb_ne h.sig h.row (by decide)
  have hrn := hb_ne h.ring.ring h.row (by decide)
  refine ⟨h.ring.of_heap (hkeep _ hrn) (hkeep _ fun e => hne (.inl e.symm)) (hkeep _ fun e => hne (.inr (.inl e.symm))) (hkeep _ fun e => hne (.inr (.inr e.symm))), HB.keep h.sig (hkeep _ hgn), hb_setAll h.row _ hl, h.res.keep (hkeep _ (by have := h.fresh; omega)), ?_, h.fresh⟩
  refine ⟨(setCells_os _ _ _).trans h.turn.os, (setCells_tape _ _ _).trans h.turn.tape, (setCells_output _ _ _).trans h.turn.output, by rw [setCells_size]; exact h.turn.size, fun b hb hm => ?_⟩
  rw [hkeep b (by have := h.fresh; omega)]
  exact h.turn.block b hb hm
end
/-- The signer signed. -/
def SSignR (w : World) (g : Nat) (f : Foot) (nk : Nat) (bud : Int) (k : Nat) (L : List Sg) (U : List (Int × Int)) (s : Sg) (e : Ending) (w' : World) : Prop :=
  e = .returned (.tuple #[.agg (sigL s.1.2 (tagF s)).toArray, .int .i64 0]) ∧ RingW w' f nk bud (signL L s) (signU L U s) ∧ SigW w' g f k (s.1.2 + 1) ∧ Turn (fun b => f.mine b ∨ b = g) w w'
def SNoR (w : World) (n : Int) (g : Nat) (f : Foot) (nk : Nat) (bud : Int) (L : List Sg) (U : List (Int × Int)) (k : Nat) (i : Int) (e : Ending) (w' : World) : Prop :=
  e = .returned (.tuple #[.agg sigZ.toArray, .int .i64 n]) ∧ RingW w' f nk bud L U ∧ SigW w' g f k i ∧ Turn f.mine w w'

set_option maxRecDepth 20000 in
set_option maxHeartbeats 1600000 in
theorem ssign_yes {f : Foot} {nk : Nat} {bud : Int} {L : List Sg} {U : List (Int × Int)} (w : World) (h : RingW w f nk bud L U) (k : Nat) (n : Nat) (g : Nat) (hg : SigW w g f k (n : Int)) (tv : Value) (L' : List Sg) (U' : List (Int × Int)) (cs : List Value) (hcl : cs.length = 33) (hone : cs.toArray.all (·.oneCell') = true)
    (hcall : ∀ W : World, Below w.heap.size w W → Calls Tryd.prog 27 #[.pointer (some ⟨f.r, 0, none⟩), .int .i64 (k : Int), .int .i64 (n : Int), tv] W (SPost f nk bud L' U' cs 0 W)) (hib : (n : Int) < bud) :
    Calls Tryd.prog 32 #[.pointer (some ⟨g, 0, none⟩), tv] w (fun e w' => e = .returned (.tuple #[.agg cs.toArray, .int .i64 0]) ∧ RingW w' f nk bud L' U' ∧ SigW w' g f k ((n : Int) + 1) ∧ Turn (fun b => f.mine b ∨ b = g) w w') := by
  have hz := Tryd.zeroSig
  have hd1 := HB.new w 61 sigZ
  have hR1 := h.alloc (.cells sigZ.toArray 61)
  have hg1 := hg.alloc (.cells sigZ.toArray 61)
  have hB1 := below_alloc1 w (.cells sigZ.toArray 61)
  have hcall1 : ∀ W : World, Below (w.alloc (.cells sigZ.toArray 61)).heap.size (w.alloc (.cells sigZ.toArray 61)) W → Calls Tryd.prog 27 #[.pointer (some ⟨f.r, 0, none⟩), .int .i64 (k : Int), .int .i64 (n : Int), tv] W (SPost f nk bud L' U' cs 0 W) := fun W hB => hcall W (hB1.trans (hB.mono hB1.size))
  have HR := Lib.hid h
  have HG := Lib.hid hg
  have HR1 := Lib.hid hR1
  have HG1 := Lib.hid hg1
  have HB1 := Lib.hid hB1
  have HT1 : Hid (Turn f.mine w (w.alloc (.cells sigZ.toArray 61))) := Lib.hid (Turn.of_below hB1)
  have HD1 := Lib.hid hd1
  have HCALL := Lib.hid hcall1
  have HZ33 : Hid (cs.toArray.size = sigZ.length) := Lib.hid (by rw [List.size_toArray, hcl, sigZ_len])
  have HZ33' : Hid (cs.toArray.toList.length = sigZ.length) := Lib.hid (by simp [hcl, sigZ_len])
  have HSI : Hid ((Tryd.prog.info? 61).map (·.size) = some cs.toArray.size) := Lib.hid (by rw [List.size_toArray, hcl]; exact Tryd.sizeSig)
  have HSL : Hid ((Tryd.prog.info? 61).map (·.size) = some cs.length) := Lib.hid (by rw [hcl]; exact Tryd.sizeSig)
  have HSA := Lib.hid hone
  have HSS : Hid (sigZ.toArray.size = cs.toArray.size) := Lib.hid (by rw [List.size_toArray, List.size_toArray, hcl, sigZ_len])
  have HIB := Lib.hid hib
  clear hib
  clear h hg hd1 hR1 hg1 hB1 hcall hcall1 hcl hone
  go_enter Tryd.func32, Tryd.ntmps32
  go_upto_region 1 with fail
  generalize w.alloc (.cells sigZ.toArray 61) = w1 at *
  go_cut [6, 7] (fun s6 s7 wx => ∃ n6 : Nat, s6 = .pointer (some ⟨n6, 0, none⟩) ∧ s7 = .int .i64 0 ∧ MidW w wx g f nk bud k (n : Int) L' U' cs n6)
  case first =>
    refine wp_region_held_drew (S := fun w' => SigW w' g f k (n : Int)) (by kernel_rfl) HG1.out.drew (fun hH => ?_)
    try simp only [Act.put, List.getElem_toArray, List.getElem_cons_succ, List.getElem_cons_zero, List.setIfInBounds_toArray, List.set_cons_succ, List.set_cons_zero]
    refine wpAnyH_take (i := 0) (v := ?v51) rfl (by kernel_rfl) (by kernel_rfl) (by kernel_rfl) (fun _ _ _ h => h) (Or.inl ⟨by rfl, ?y51⟩) hH ?_
    case y51 => intro w' hSw; have hg0 := hSw.g0; have hg1 := hSw.g1; have hg2 := hSw.g2; clear hSw; (first | (go_simp; done) | (go_simp; with_reducible rfl))
    try simp only [Act.put, List.getElem_toArray, List.getElem_cons_zero, List.setIfInBounds_toArray, List.set_cons_succ, List.set_cons_zero]
    refine wpAnyH_take (i := 1) (v := ?v52) rfl (by kernel_rfl) (by kernel_rfl) (by kernel_rfl) (fun _ _ _ h => h) (Or.inl ⟨by rfl, ?y52⟩) hH ?_
    case y52 => intro w' hSw; have hg0 := hSw.g0; have hg1 := hSw.g1; have hg2 := hSw.g2; clear hSw; (first | (go_simp; done) | (go_simp; with_reducible rfl))
    try simp only [Act.put, List.getElem_toArray, List.getElem_cons_succ, List.getElem_cons_zero, List.setIfInBounds_toArray, List.set_cons_succ, List.set_cons_zero]
    refine wpAnyH_take (i := 2) (v := ?v53) rfl (by kernel_rfl) (by kernel_rfl) (by kernel_rfl) (fun _ _ _ h => h) (Or.inl ⟨by rfl, ?y53⟩) hH ?_
    case y53 => intro w' hSw; have hg0 := hSw.g0; have hg1 := hSw.g1; have hg2 := hSw.g2; clear hSw; (first | (go_simp; done) | (go_simp; with_reducible rfl))
    try simp only [Act.put, List.getElem_toArray, List.getElem_cons_succ, List.getElem_cons_zero, List.setIfInBounds_toArray, List.set_cons_succ, List.set_cons_zero]
    refine wpAnyH_take (i := 3) (v := ?v54) rfl (by kernel_rfl) (by kernel_rfl) (by kernel_rfl) (fun _ _ _ h => h) (Or.inl ⟨by rfl, ?y54⟩) hH ?_
    case y54 => intro w' hSw; have hg0 := hSw.g0; have hg1 := hSw.g1; have hg2 := hSw.g2; clear hSw; (first | (go_simp; done) | (go_simp; with_reducible rfl))
    try simp only [Act.put, List.getElem_toArray, List.getElem_cons_succ, List.getElem_cons_zero, List.setIfInBounds_toArray, List.set_cons_succ, List.set_cons_zero]
    refine wpAnyH_take (i := 4) (v := ?v55) rfl (by kernel_rfl) (by kernel_rfl) (by kernel_rfl) (fun _ _ _ h => h) (Or.inl ⟨by rfl, ?y55⟩) hH ?_
    case y55 => intro w' hSw; have hg0 := hSw.g0; have hg1 := hSw.g1; have hg2 := hSw.g2; clear hSw; (first | (go_simp; done) | (go_simp; with_reducible rfl))
    try simp only [Act.put, List.getElem_toArray, List.getElem_cons_succ, List.getElem_cons_zero, List.setIfInBounds_toArray, List.set_cons_succ, List.set_cons_zero]
    refine wpAnyH_take (i := 5) (v := ?v56) rfl (by kernel_rfl) (by kernel_rfl) (by kernel_rfl) (fun _ _ _ h => h) (Or.inl ⟨by rfl, ?y56⟩) hH ?_
    case y56 => intro w' hSw; have hg0 := hSw.g0; have hg1 := hSw.g1; have hg2 := hSw.g2; clear hSw; (first | (go_simp; done) | (go_simp; with_reducible rfl))
    try simp only [Act.put, List.getElem_toArray, List.getElem_cons_succ, List.getElem_cons_zero, List.setIfInBounds_toArray, List.set_cons_succ, List.set_cons_zero]
    refine wpAnyH_take (i := 6) (v := ?v57) rfl (by kernel_rfl) (by kernel_rfl) (by kernel_rfl) (fun _ _ _ h => h) (Or.inl ⟨by rfl, ?y57⟩) hH ?_
    case y57 => intro w' hSw; have hg0 := hSw.g0; have hg1 := hSw.g1; have hg2 := hSw.g2; clear hSw; (first | (go_simp; done) | (go_simp; with_reducible rfl))
    try simp only [Act.put, List.getElem_toArray, List.getElem_cons_succ, List.getElem_cons_zero, List.setIfInBounds_toArray, List.set_cons_succ, List.set_cons_zero]
    refine wpAnyH_take (i := 7) (v := ?v58) rfl (by kernel_rfl) (by kernel_rfl) (by kernel_rfl) (fun _ _ _ h => h) (Or.inl ⟨by rfl, ?y58⟩) hH ?_
    case y58 => intro w' hSw; have hg0 := hSw.g0; have hg1 := hSw.g1; have hg2 := hSw.g2; clear hSw; (first | (go_simp; done) | (go_simp; with_reducible rfl))
    try simp only [Act.put, List.getElem_toArray, List.getElem_cons_succ, List.getElem_cons_zero, List.setIfInBounds_toArray, List.set_cons_succ, List.set_cons_zero]
    refine wpAnyH_take (i := 8) (v := ?v59) rfl (by kernel_rfl) (by kernel_rfl) (by kernel_rfl) (fun _ _ _ h => h) (Or.inl ⟨by rfl, ?y59⟩) hH ?_
    case y59 => intro w' hSw; have hg0 := hSw.g0; have hg1 := hSw.g1; have hg2 := hSw.g2; clear hSw; (first | (go_simp; done) | (go_simp; with_reducible rfl))
    try simp only [Act.put, List.getElem_toArray, List.getElem_cons_succ, List.getElem_cons_zero, List.setIfInBounds_toArray, List.set_cons_succ, List.set_cons_zero]
    refine wpAnyH_take (i := 9) (v := ?v60) rfl (by kernel_rfl) (by kernel_rfl) (by kernel_rfl) (fun _ _ _ h => h) (Or.inl ⟨by rfl, ?y60⟩) hH ?_
    case y60 => intro w' hSw; have hg0 := hSw.g0; have hg1 := hSw.g1; have hg2 := hSw.g2; clear hSw; (first | (go_simp; done) | (go_simp; with_reducible rfl))
    try simp only [Act.put, List.getElem_toArray, List.getElem_cons_succ, List.getElem_cons_zero, List.setIfInBounds_toArray, List.set_cons_succ, List.set_cons_zero]
    refine wpAnyH_take (i := 10) (v := ?v61) rfl (by kernel_rfl) (by kernel_rfl) (by kernel_rfl) (fun _ _ _ h => h) (Or.inl ⟨by rfl, ?y61⟩) hH ?_
    case y61 => intro w' hSw; have hg0 := hSw.g0; have hg1 := hSw.g1; have hg2 := hSw.g2; clear hSw; (first | (go_simp; done) | (go_simp; with_reducible rfl))
    try simp only [Act.put, List.getElem_toArray, List.getElem_cons_succ, List.getElem_cons_zero, List.setIfInBounds_toArray, List.set_cons_succ, List.set_cons_zero]
    refine wpAnyH_take (i := 11) (v := ?v62) rfl (by kernel_rfl) (by kernel_rfl) (by kernel_rfl) (fun _ _ _ h => h) (Or.inl ⟨by rfl, ?y62⟩) hH ?_
    case y62 => intro w' hSw; have hg0 := hSw.g0; have hg1 := hSw.g1; have hg2 := hSw.g2; clear hSw; (first | (go_simp; done) | (go_simp; with_reducible rfl))
    try simp only [Act.put, List.getElem_toArray, List.getElem_cons_succ, List.getElem_cons_zero, List.setIfInBounds_toArray, List.set_cons_succ, List.set_cons_zero]
    refine wpAnyH_take (i := 12) (v := ?v63) rfl (by kernel_rfl) (by kernel_rfl) (by kernel_rfl) (fun _ _ _ h => h) (Or.inl ⟨by rfl, ?y63⟩) hH ?_
    case y63 => intro w' hSw; have hg0 := hSw.g0; have hg1 := hSw.g1; have hg2 := hSw.g2; clear hSw; (first | (go_simp; done) | (go_simp; with_reducible rfl))
    try simp only [Act.put, List.getElem_toArray, List.getElem_cons_succ, List.getElem_cons_zero, List.setIfInBounds_toArray, List.set_cons_succ, List.set_cons_zero]
    refine wpAnyH_ready (rs := [13, 17]) (by kernel_rfl) (by simp) ?_
    refine AllReadyH.cons rfl (fun K hK => ?_) (AllReadyH.cons rfl (fun K hK => ?_) AllReadyH.nil)
    · rw [if_pos (by rfl)]
      go_simp
      refine (HCALL.out w1.drew (Below.drew (Below.refl _ _))).mono ?_
      rintro e w2 ⟨he, hR2, hT2⟩
      subst he
      have hM2 := mid_call HG1.out HR1.out HD1.out HT1.out (Below.drew (Below.refl _ _)) hR2 hT2
      have HM2 := Lib.hid hM2
      have hH2 := hM2.sig
      clear hR2 hT2 hM2
      dsimp only
      refine hK.out _ _ hH2 (fun _ => ?_)
      clear hK K hH
      try simp only [Act.put, List.getElem_toArray, List.getElem_cons_succ, List.getElem_cons_zero, List.setIfInBounds_toArray, List.set_cons_succ, List.set_cons_zero]
      refine wpAnyH_take (i := 14) (v := ?v64) rfl (by kernel_rfl) (by kernel_rfl) (by kernel_rfl) (fun _ _ _ h => h) (Or.inl ⟨by rfl, ?y64⟩) hH2 ?_
      case y64 => intro w' hSw; clear hSw; (first | (go_simp; done) | (go_simp; with_reducible rfl))
      try simp only [Act.put, List.getElem_toArray, List.getElem_cons_succ, List.getElem_cons_zero, List.setIfInBounds_toArray, List.set_cons_succ, List.set_cons_zero]
      refine wpAnyH_take (i := 15) (v := ?v65) rfl (by kernel_rfl) (by kernel_rfl) (by kernel_rfl) (fun _ _ _ h => h) (Or.inl ⟨by rfl, ?y65⟩) hH2 ?_
      case y65 => intro w' hSw; clear hSw; (first | (go_simp; done) | (go_simp; with_reducible rfl))
      try simp only [Act.put, List.getElem_toArray, List.getElem_cons_succ, List.getElem_cons_zero, List.setIfInBounds_toArray, List.set_cons_succ, List.set_cons_zero]
      refine wpAnyH_take (i := 16) (v := ?v66) rfl (by kernel_rfl) (by kernel_rfl) (by kernel_rfl) (fun _ _ _ h => h) (Or.inl ⟨by rfl, ?y66⟩) hH2 ?_
      case y66 => intro w' hSw; clear hSw; (first | (go_simp; done) | (go_simp; with_reducible rfl))
      try simp only [Act.put, List.getElem_toArray, List.getElem_cons_succ, List.getElem_cons_zero, List.setIfInBounds_toArray, List.set_cons_succ, List.set_cons_zero]
      refine wpAnyH_ready (rs := [17]) (by kernel_rfl) (by simp) ?_
      refine AllReadyH.cons rfl (fun K hK => ?_) AllReadyH.nil
      rw [if_pos (by rfl)]
      go_simp
      have hM := HM2.out.alloc
      have HM := Lib.hid hM
      have hn6 := hM.row
      have hH6 := hM.sig
      clear hM
      generalize w2.alloc (.cells sigZ.toArray 61) = w6 at *
      refine hK.out _ _ hH6 (fun _ => ?_)
      clear hK K hH2
      try simp only [Act.put, List.getElem_toArray, List.getElem_cons_succ, List.getElem_cons_zero, List.setIfInBounds_toArray, List.set_cons_succ, List.set_cons_zero]
      refine wpAnyH_ready (rs := [18]) (by kernel_rfl) (by simp) ?_
      refine AllReadyH.cons rfl (fun K hK => ?_) AllReadyH.nil
      rw [if_pos (by rfl)]
      refine wp_store_mid 61 _ _ rfl w2.heap.size 0 cs.toArray rfl rfl (there_hb0 hn6 HZ33.out) HSI.out HSA.out ?_
      have hmid := mid_store (cs := cs) HM.out HZ33'.out
      generalize (w6).setCells (w2.heap.size) 0 cs.toArray.toList = w7 at *
      refine hK.out _ _ hmid.sig (fun _ => ?_)
      clear hK K
      have hH7 := hmid.sig
      try simp only [Act.put, List.getElem_toArray, List.getElem_cons_succ, List.getElem_cons_zero]
      refine wpAnyH_take (i := 19) (v := ?v67) rfl (by kernel_rfl) (by kernel_rfl) (by kernel_rfl) (fun _ _ _ h => h) (Or.inl ⟨by rfl, ?y67⟩) hH7 ?_
      case y67 => intro w' hSw; clear hSw; (first | (go_simp; done) | (go_simp; with_reducible rfl))
      try simp only [Act.put, List.getElem_toArray, List.getElem_cons_succ, List.getElem_cons_zero, List.setIfInBounds_toArray, List.set_cons_succ, List.set_cons_zero]
      refine wpAnyH_done (by kernel_rfl) ?_ _
      clear hH7
      have HMID := Lib.hid hmid
      clear hmid
      go_wp2_with fail
      go_meet
      exact ⟨_, rfl, rfl, HMID.out⟩
    · rw [if_pos (by rfl)]
      go_simp
      have hn0 := (HB.new w1 61 sigZ).drew
      have hb0 : Below w1.heap.size w1 (w1.alloc (.cells sigZ.toArray 61)).drew := (below_alloc1 w1 _).drew
      have hH0 : SigW (w1.alloc (.cells sigZ.toArray 61)).drew g f k (n : Int) := (HG1.out.alloc _).drew
      generalize (w1.alloc (.cells sigZ.toArray 61)).drew = w1a at *
      refine hK.out _ _ hH0 (fun _ => ?_)
      clear hK K hH
      try simp only [Act.put, List.getElem_toArray, List.getElem_cons_succ, List.getElem_cons_zero, List.setIfInBounds_toArray, List.set_cons_succ, List.set_cons_zero]
      refine wpAnyH_ready (rs := [13]) (by kernel_rfl) (by simp) ?_
      refine AllReadyH.cons rfl (fun K hK => ?_) AllReadyH.nil
      rw [if_pos (by rfl)]
      go_simp
      refine (HCALL.out w1a hb0).mono ?_
      rintro e w2 ⟨he, hR2, hT2⟩
      subst he
      have hM2 := mid_call HG1.out HR1.out HD1.out HT1.out hb0 hR2 hT2
      have hM := hM2.keep hn0 HR1.out hT2 (Nat.le_refl _) HD1.out.lt
      have HM := Lib.hid hM
      have hn6 := hM.row
      have hH2 := hM.sig
      clear hR2 hT2 hM2 hM hn0 hb0
      dsimp only
      refine hK.out _ _ hH2 (fun _ => ?_)
      clear hK K hH0
      try simp only [Act.put, List.getElem_toArray, List.getElem_cons_succ, List.getElem_cons_zero, List.setIfInBounds_toArray, List.set_cons_succ, List.set_cons_zero]
      refine wpAnyH_take (i := 14) (v := ?v68) rfl (by kernel_rfl) (by kernel_rfl) (by kernel_rfl) (fun _ _ _ h => h) (Or.inl ⟨by rfl, ?y68⟩) hH2 ?_
      case y68 => intro w' hSw; clear hSw; (first | (go_simp; done) | (go_simp; with_reducible rfl))
      try simp only [Act.put, List.getElem_toArray, List.getElem_cons_succ, List.getElem_cons_zero, List.setIfInBounds_toArray, List.set_cons_succ, List.set_cons_zero]
      refine wpAnyH_take (i := 15) (v := ?v69) rfl (by kernel_rfl) (by kernel_rfl) (by kernel_rfl) (fun _ _ _ h => h) (Or.inl ⟨by rfl, ?y69⟩) hH2 ?_
      case y69 => intro w' hSw; clear hSw; (first | (go_simp; done) | (go_simp; with_reducible rfl))
      try simp only [Act.put, List.getElem_toArray, List.getElem_cons_succ, List.getElem_cons_zero, List.setIfInBounds_toArray, List.set_cons_succ, List.set_cons_zero]
      refine wpAnyH_take (i := 16) (v := ?v70) rfl (by kernel_rfl) (by kernel_rfl) (by kernel_rfl) (fun _ _ _ h => h) (Or.inl ⟨by rfl, ?y70⟩) hH2 ?_
      case y70 => intro w' hSw; clear hSw; (first | (go_simp; done) | (go_simp; with_reducible rfl))
      try simp only [Act.put, List.getElem_toArray, List.getElem_cons_succ, List.getElem_cons_zero, List.setIfInBounds_toArray, List.set_cons_succ, List.set_cons_zero]
      refine wpAnyH_ready (rs := [18]) (by kernel_rfl) (by simp) ?_
      refine AllReadyH.cons rfl (fun K hK => ?_) AllReadyH.nil
      rw [if_pos (by rfl)]
      refine wp_store_mid 61 _ _ rfl w1.heap.size 0 cs.toArray rfl rfl (there_hb0 hn6 HZ33.out) HSI.out HSA.out ?_
      have hmid := mid_store (cs := cs) HM.out HZ33'.out
      generalize (w2).setCells (w1.heap.size) 0 cs.toArray.toList = w7 at *
      refine hK.out _ _ hmid.sig (fun _ => ?_)
      clear hK K
      have hH7 := hmid.sig
      try simp only [Act.put, List.getElem_toArray, List.getElem_cons_succ, List.getElem_cons_zero]
      refine wpAnyH_take (i := 19) (v := ?v71) rfl (by kernel_rfl) (by kernel_rfl) (by kernel_rfl) (fun _ _ _ h => h) (Or.inl ⟨by rfl, ?y71⟩) hH7 ?_
      case y71 => intro w' hSw; clear hSw; (first | (go_simp; done) | (go_simp; with_reducible rfl))
      try simp only [Act.put, List.getElem_toArray, List.getElem_cons_succ, List.getElem_cons_zero, List.setIfInBounds_toArray, List.set_cons_succ, List.set_cons_zero]
      refine wpAnyH_done (by kernel_rfl) ?_ _
      clear hH7
      have HMID := Lib.hid hmid
      clear hmid
      go_wp2_with fail
      go_meet
      exact ⟨_, rfl, rfl, HMID.out⟩
  case rest =>
    obtain ⟨n6, rfl, rfl, hm⟩ := hcut
    have HM := Lib.hid hm
    clear hm
    have hg72 := HM.out.sig.g2
    have hf7 := HB.frozen HM.out.sig 2
    have hwr : IntKind.i64.wrap ((n : Int) + 1) = (n : Int) + 1 := IntWalk.i64_in _ (by have := HIB.out; have := HR.out.bud; omega)
    have hm1 := mine_lt HR.out
    have hgne := cells_ne HM.out.sig HM.out.ring (by decide)
    have hgr := hb_ne HM.out.sig HM.out.ring.ring (by decide)
    have hg6 := hb_ne HM.out.sig HM.out.row (by decide)
    have hgw := HG.out.lt
    have hn8 := HM.out.row.far (p := ⟨g, 2, none⟩) (fun e => hg6 e.symm) (.int .i64 ((n : Int) + 1))
    have hd8 := HM.out.res.far (p := ⟨g, 2, none⟩) (by simp; omega) (.int .i64 ((n : Int) + 1))
    have hg8 : SigW (wc.setCell ⟨g, 2, none⟩ (.int .i64 ((n : Int) + 1))) g f k ((n : Int) + 1) := HB.set_ HM.out.sig 2 _
    have hR8 := HM.out.ring.far (p := ⟨g, 2, none⟩) (fun e => hgr e.symm) (fun e => hgne (.inl e.symm)) (fun e => hgne (.inr (.inl e.symm))) (fun e => hgne (.inr (.inr e.symm))) (.int .i64 ((n : Int) + 1))
    have ht8 : Turn (fun b => f.mine b ∨ b = g) w (wc.setCell ⟨g, 2, none⟩ (.int .i64 ((n : Int) + 1))) := (HM.out.turn.mono fun b _ hb => .inl hb).trans ⟨rfl, rfl, rfl, by simp [World.setCell], fun b _ hb => heap_setCell_other wc _ _ _ (fun e => hb (.inr e))⟩
    have hr := hd8.row cs.toArray
    have hset : ∀ b, b ≠ w.heap.size → ((wc.setCell ⟨g, 2, none⟩ (.int .i64 ((n : Int) + 1))).setRow w.heap.size cs.toArray).heap[b]? = (wc.setCell ⟨g, 2, none⟩ (.int .i64 ((n : Int) + 1))).heap[b]? := fun b hb => by
      simp only [World.setRow, Array.getElem?_modify]
      rw [if_neg (by omega)]
    have hR9 := hR8.of_heap (w' := (wc.setCell ⟨g, 2, none⟩ (.int .i64 ((n : Int) + 1))).setRow w.heap.size cs.toArray) (hset _ (by have := HR.out.ring.lt; omega)) (hset _ (by have := hm1 f.K (.inl rfl); omega)) (hset _ (by have := hm1 f.T (.inr (.inl rfl)); omega)) (hset _ (by have := hm1 f.U (.inr (.inr rfl)); omega))
    have hg9 : SigW ((wc.setCell ⟨g, 2, none⟩ (.int .i64 ((n : Int) + 1))).setRow w.heap.size cs.toArray) g f k ((n : Int) + 1) := HB.keep hg8 (hset _ (by omega))
    have ht9 : Turn (fun b => f.mine b ∨ b = g) w ((wc.setCell ⟨g, 2, none⟩ (.int .i64 ((n : Int) + 1))).setRow w.heap.size cs.toArray) := by
      refine ⟨ht8.os, ht8.tape, ht8.output, by simpa using ht8.size, fun b hb hm => ?_⟩
      rw [hset b (by omega)]
      exact ht8.block b hb hm
    have HR9 := Lib.hid hR9
    have HG9 := Lib.hid hg9
    have HT9 := Lib.hid ht9
    clear hm1 hset hR9 hg9 ht9 hgne hgr hg6 hgw hg8 hR8 ht8
    go_wp2_with (first
      | (refine wpList_load_row rfl 61 _ rfl n6 rfl 61 cs.toArray (0, 0) _ hn8 Tryd.underlying61 rfl HSI.out ?_)
      | (refine wpList_store_row rfl 61 _ _ rfl w.heap.size cs.toArray rfl rfl 61 _ hd8 HSI.out HSS.out HSA.out ?_))
    refine bodyPost_ret (results_sig rfl _ _ w.heap.size 61 cs _ (.int .i64 0) rfl rfl hr Tryd.underlying61 rfl HSL.out) rfl ?_
    exact ⟨rfl, HR9.out, HG9.out, HT9.out⟩

set_option maxRecDepth 20000 in
set_option maxHeartbeats 1600000 in
theorem ssign_not {f : Foot} {nk : Nat} {bud : Int} {L : List Sg} {U : List (Int × Int)} (w : World) (h : RingW w f nk bud L U) (k : Nat) (n : Nat) (g : Nat) (hg : SigW w g f k (n : Int)) (tv : Value) (L' : List Sg) (U' : List (Int × Int)) (cs : List Value) (hcl : cs.length = 33) (hone : cs.toArray.all (·.oneCell') = true)
    (hcall : ∀ W : World, Below w.heap.size w W → Calls Tryd.prog 27 #[.pointer (some ⟨f.r, 0, none⟩), .int .i64 (k : Int), .int .i64 (n : Int), tv] W (SPost f nk bud L' U' cs 17 W))  :
    Calls Tryd.prog 32 #[.pointer (some ⟨g, 0, none⟩), tv] w (fun e w' => e = .returned (.tuple #[.agg cs.toArray, .int .i64 17]) ∧ RingW w' f nk bud L' U' ∧ SigW w' g f k (n : Int) ∧ Turn f.mine w w') := by
  have hz := Tryd.zeroSig
  have hd1 := HB.new w 61 sigZ
  have hR1 := h.alloc (.cells sigZ.toArray 61)
  have hg1 := hg.alloc (.cells sigZ.toArray 61)
  have hB1 := below_alloc1 w (.cells sigZ.toArray 61)
  have hcall1 : ∀ W : World, Below (w.alloc (.cells sigZ.toArray 61)).heap.size (w.alloc (.cells sigZ.toArray 61)) W → Calls Tryd.prog 27 #[.pointer (some ⟨f.r, 0, none⟩), .int .i64 (k : Int), .int .i64 (n : Int), tv] W (SPost f nk bud L' U' cs 17 W) := fun W hB => hcall W (hB1.trans (hB.mono hB1.size))
  have HR := Lib.hid h
  have HG := Lib.hid hg
  have HR1 := Lib.hid hR1
  have HG1 := Lib.hid hg1
  have HB1 := Lib.hid hB1
  have HT1 : Hid (Turn f.mine w (w.alloc (.cells sigZ.toArray 61))) := Lib.hid (Turn.of_below hB1)
  have HD1 := Lib.hid hd1
  have HCALL := Lib.hid hcall1
  have HZ33 : Hid (cs.toArray.size = sigZ.length) := Lib.hid (by rw [List.size_toArray, hcl, sigZ_len])
  have HZ33' : Hid (cs.toArray.toList.length = sigZ.length) := Lib.hid (by simp [hcl, sigZ_len])
  have HSI : Hid ((Tryd.prog.info? 61).map (·.size) = some cs.toArray.size) := Lib.hid (by rw [List.size_toArray, hcl]; exact Tryd.sizeSig)
  have HSL : Hid ((Tryd.prog.info? 61).map (·.size) = some cs.length) := Lib.hid (by rw [hcl]; exact Tryd.sizeSig)
  have HSA := Lib.hid hone
  have HSS : Hid (sigZ.toArray.size = cs.toArray.size) := Lib.hid (by rw [List.size_toArray, List.size_toArray, hcl, sigZ_len])
  clear h hg hd1 hR1 hg1 hB1 hcall hcall1 hcl hone
  go_enter Tryd.func32, Tryd.ntmps32
  go_upto_region 1 with fail
  generalize w.alloc (.cells sigZ.toArray 61) = w1 at *
  go_cut [6, 7] (fun s6 s7 wx => ∃ n6 : Nat, s6 = .pointer (some ⟨n6, 0, none⟩) ∧ s7 = .int .i64 17 ∧ MidW w wx g f nk bud k (n : Int) L' U' cs n6)
  case first =>
    refine wp_region_held_drew (S := fun w' => SigW w' g f k (n : Int)) (by kernel_rfl) HG1.out.drew (fun hH => ?_)
    try simp only [Act.put, List.getElem_toArray, List.getElem_cons_succ, List.getElem_cons_zero, List.setIfInBounds_toArray, List.set_cons_succ, List.set_cons_zero]
    refine wpAnyH_take (i := 0) (v := ?v72) rfl (by kernel_rfl) (by kernel_rfl) (by kernel_rfl) (fun _ _ _ h => h) (Or.inl ⟨by rfl, ?y72⟩) hH ?_
    case y72 => intro w' hSw; have hg0 := hSw.g0; have hg1 := hSw.g1; have hg2 := hSw.g2; clear hSw; (first | (go_simp; done) | (go_simp; with_reducible rfl))
    try simp only [Act.put, List.getElem_toArray, List.getElem_cons_zero, List.setIfInBounds_toArray, List.set_cons_succ, List.set_cons_zero]
    refine wpAnyH_take (i := 1) (v := ?v73) rfl (by kernel_rfl) (by kernel_rfl) (by kernel_rfl) (fun _ _ _ h => h) (Or.inl ⟨by rfl, ?y73⟩) hH ?_
    case y73 => intro w' hSw; have hg0 := hSw.g0; have hg1 := hSw.g1; have hg2 := hSw.g2; clear hSw; (first | (go_simp; done) | (go_simp; with_reducible rfl))
    try simp only [Act.put, List.getElem_toArray, List.getElem_cons_succ, List.getElem_cons_zero, List.setIfInBounds_toArray, List.set_cons_succ, List.set_cons_zero]
    refine wpAnyH_take (i := 2) (v := ?v74) rfl (by kernel_rfl) (by kernel_rfl) (by kernel_rfl) (fun _ _ _ h => h) (Or.inl ⟨by rfl, ?y74⟩) hH ?_
    case y74 => intro w' hSw; have hg0 := hSw.g0; have hg1 := hSw.g1; have hg2 := hSw.g2; clear hSw; (first | (go_simp; done) | (go_simp; with_reducible rfl))
    try simp only [Act.put, List.getElem_toArray, List.getElem_cons_succ, List.getElem_cons_zero, List.setIfInBounds_toArray, List.set_cons_succ, List.set_cons_zero]
    refine wpAnyH_take (i := 3) (v := ?v75) rfl (by kernel_rfl) (by kernel_rfl) (by kernel_rfl) (fun _ _ _ h => h) (Or.inl ⟨by rfl, ?y75⟩) hH ?_
    case y75 => intro w' hSw; have hg0 := hSw.g0; have hg1 := hSw.g1; have hg2 := hSw.g2; clear hSw; (first | (go_simp; done) | (go_simp; with_reducible rfl))
    try simp only [Act.put, List.getElem_toArray, List.getElem_cons_succ, List.getElem_cons_zero, List.setIfInBounds_toArray, List.set_cons_succ, List.set_cons_zero]
    refine wpAnyH_take (i := 4) (v := ?v76) rfl (by kernel_rfl) (by kernel_rfl) (by kernel_rfl) (fun _ _ _ h => h) (Or.inl ⟨by rfl, ?y76⟩) hH ?_
    case y76 => intro w' hSw; have hg0 := hSw.g0; have hg1 := hSw.g1; have hg2 := hSw.g2; clear hSw; (first | (go_simp; done) | (go_simp; with_reducible rfl))
    try simp only [Act.put, List.getElem_toArray, List.getElem_cons_succ, List.getElem_cons_zero, List.setIfInBounds_toArray, List.set_cons_succ, List.set_cons_zero]
    refine wpAnyH_take (i := 5) (v := ?v77) rfl (by kernel_rfl) (by kernel_rfl) (by kernel_rfl) (fun _ _ _ h => h) (Or.inl ⟨by rfl, ?y77⟩) hH ?_
    case y77 => intro w' hSw; have hg0 := hSw.g0; have hg1 := hSw.g1; have hg2 := hSw.g2; clear hSw; (first | (go_simp; done) | (go_simp; with_reducible rfl))
    try simp only [Act.put, List.getElem_toArray, List.getElem_cons_succ, List.getElem_cons_zero, List.setIfInBounds_toArray, List.set_cons_succ, List.set_cons_zero]
    refine wpAnyH_take (i := 6) (v := ?v78) rfl (by kernel_rfl) (by kernel_rfl) (by kernel_rfl) (fun _ _ _ h => h) (Or.inl ⟨by rfl, ?y78⟩) hH ?_
    case y78 => intro w' hSw; have hg0 := hSw.g0; have hg1 := hSw.g1; have hg2 := hSw.g2; clear hSw; (first | (go_simp; done) | (go_simp; with_reducible rfl))
    try simp only [Act.put, List.getElem_toArray, List.getElem_cons_succ, List.getElem_cons_zero, List.setIfInBounds_toArray, List.set_cons_succ, List.set_cons_zero]
    refine wpAnyH_take (i := 7) (v := ?v79) rfl (by kernel_rfl) (by kernel_rfl) (by kernel_rfl) (fun _ _ _ h => h) (Or.inl ⟨by rfl, ?y79⟩) hH ?_
    case y79 => intro w' hSw; have hg0 := hSw.g0; have hg1 := hSw.g1; have hg2 := hSw.g2; clear hSw; (first | (go_simp; done) | (go_simp; with_reducible rfl))
    try simp only [Act.put, List.getElem_toArray, List.getElem_cons_succ, List.getElem_cons_zero, List.setIfInBounds_toArray, List.set_cons_succ, List.set_cons_zero]
    refine wpAnyH_take (i := 8) (v := ?v80) rfl (by kernel_rfl) (by kernel_rfl) (by kernel_rfl) (fun _ _ _ h => h) (Or.inl ⟨by rfl, ?y80⟩) hH ?_
    case y80 => intro w' hSw; have hg0 := hSw.g0; have hg1 := hSw.g1; have hg2 := hSw.g2; clear hSw; (first | (go_simp; done) | (go_simp; with_reducible rfl))
    try simp only [Act.put, List.getElem_toArray, List.getElem_cons_succ, List.getElem_cons_zero, List.setIfInBounds_toArray, List.set_cons_succ, List.set_cons_zero]
    refine wpAnyH_take (i := 9) (v := ?v81) rfl (by kernel_rfl) (by kernel_rfl) (by kernel_rfl) (fun _ _ _ h => h) (Or.inl ⟨by rfl, ?y81⟩) hH ?_
    case y81 => intro w' hSw; have hg0 := hSw.g0; have hg1 := hSw.g1; have hg2 := hSw.g2; clear hSw; (first | (go_simp; done) | (go_simp; with_reducible rfl))
    try simp only [Act.put, List.getElem_toArray, List.getElem_cons_succ, List.getElem_cons_zero, List.setIfInBounds_toArray, List.set_cons_succ, List.set_cons_zero]
    refine wpAnyH_take (i := 10) (v := ?v82) rfl (by kernel_rfl) (by kernel_rfl) (by kernel_rfl) (fun _ _ _ h => h) (Or.inl ⟨by rfl, ?y82⟩) hH ?_
    case y82 => intro w' hSw; have hg0 := hSw.g0; have hg1 := hSw.g1; have hg2 := hSw.g2; clear hSw; (first | (go_simp; done) | (go_simp; with_reducible rfl))
    try simp only [Act.put, List.getElem_toArray, List.getElem_cons_succ, List.getElem_cons_zero, List.setIfInBounds_toArray, List.set_cons_succ, List.set_cons_zero]
    refine wpAnyH_take (i := 11) (v := ?v83) rfl (by kernel_rfl) (by kernel_rfl) (by kernel_rfl) (fun _ _ _ h => h) (Or.inl ⟨by rfl, ?y83⟩) hH ?_
    case y83 => intro w' hSw; have hg0 := hSw.g0; have hg1 := hSw.g1; have hg2 := hSw.g2; clear hSw; (first | (go_simp; done) | (go_simp; with_reducible rfl))
    try simp only [Act.put, List.getElem_toArray, List.getElem_cons_succ, List.getElem_cons_zero, List.setIfInBounds_toArray, List.set_cons_succ, List.set_cons_zero]
    refine wpAnyH_take (i := 12) (v := ?v84) rfl (by kernel_rfl) (by kernel_rfl) (by kernel_rfl) (fun _ _ _ h => h) (Or.inl ⟨by rfl, ?y84⟩) hH ?_
    case y84 => intro w' hSw; have hg0 := hSw.g0; have hg1 := hSw.g1; have hg2 := hSw.g2; clear hSw; (first | (go_simp; done) | (go_simp; with_reducible rfl))
    try simp only [Act.put, List.getElem_toArray, List.getElem_cons_succ, List.getElem_cons_zero, List.setIfInBounds_toArray, List.set_cons_succ, List.set_cons_zero]
    refine wpAnyH_ready (rs := [13, 17]) (by kernel_rfl) (by simp) ?_
    refine AllReadyH.cons rfl (fun K hK => ?_) (AllReadyH.cons rfl (fun K hK => ?_) AllReadyH.nil)
    · rw [if_pos (by rfl)]
      go_simp
      refine (HCALL.out w1.drew (Below.drew (Below.refl _ _))).mono ?_
      rintro e w2 ⟨he, hR2, hT2⟩
      subst he
      have hM2 := mid_call HG1.out HR1.out HD1.out HT1.out (Below.drew (Below.refl _ _)) hR2 hT2
      have HM2 := Lib.hid hM2
      have hH2 := hM2.sig
      clear hR2 hT2 hM2
      dsimp only
      refine hK.out _ _ hH2 (fun _ => ?_)
      clear hK K hH
      try simp only [Act.put, List.getElem_toArray, List.getElem_cons_succ, List.getElem_cons_zero, List.setIfInBounds_toArray, List.set_cons_succ, List.set_cons_zero]
      refine wpAnyH_take (i := 14) (v := ?v85) rfl (by kernel_rfl) (by kernel_rfl) (by kernel_rfl) (fun _ _ _ h => h) (Or.inl ⟨by rfl, ?y85⟩) hH2 ?_
      case y85 => intro w' hSw; clear hSw; (first | (go_simp; done) | (go_simp; with_reducible rfl))
      try simp only [Act.put, List.getElem_toArray, List.getElem_cons_succ, List.getElem_cons_zero, List.setIfInBounds_toArray, List.set_cons_succ, List.set_cons_zero]
      refine wpAnyH_take (i := 15) (v := ?v86) rfl (by kernel_rfl) (by kernel_rfl) (by kernel_rfl) (fun _ _ _ h => h) (Or.inl ⟨by rfl, ?y86⟩) hH2 ?_
      case y86 => intro w' hSw; clear hSw; (first | (go_simp; done) | (go_simp; with_reducible rfl))
      try simp only [Act.put, List.getElem_toArray, List.getElem_cons_succ, List.getElem_cons_zero, List.setIfInBounds_toArray, List.set_cons_succ, List.set_cons_zero]
      refine wpAnyH_take (i := 16) (v := ?v87) rfl (by kernel_rfl) (by kernel_rfl) (by kernel_rfl) (fun _ _ _ h => h) (Or.inl ⟨by rfl, ?y87⟩) hH2 ?_
      case y87 => intro w' hSw; clear hSw; (first | (go_simp; done) | (go_simp; with_reducible rfl))
      try simp only [Act.put, List.getElem_toArray, List.getElem_cons_succ, List.getElem_cons_zero, List.setIfInBounds_toArray, List.set_cons_succ, List.set_cons_zero]
      refine wpAnyH_ready (rs := [17]) (by kernel_rfl) (by simp) ?_
      refine AllReadyH.cons rfl (fun K hK => ?_) AllReadyH.nil
      rw [if_pos (by rfl)]
      go_simp
      have hM := HM2.out.alloc
      have HM := Lib.hid hM
      have hn6 := hM.row
      have hH6 := hM.sig
      clear hM
      generalize w2.alloc (.cells sigZ.toArray 61) = w6 at *
      refine hK.out _ _ hH6 (fun _ => ?_)
      clear hK K hH2
      try simp only [Act.put, List.getElem_toArray, List.getElem_cons_succ, List.getElem_cons_zero, List.setIfInBounds_toArray, List.set_cons_succ, List.set_cons_zero]
      refine wpAnyH_ready (rs := [18]) (by kernel_rfl) (by simp) ?_
      refine AllReadyH.cons rfl (fun K hK => ?_) AllReadyH.nil
      rw [if_pos (by rfl)]
      refine wp_store_mid 61 _ _ rfl w2.heap.size 0 cs.toArray rfl rfl (there_hb0 hn6 HZ33.out) HSI.out HSA.out ?_
      have hmid := mid_store (cs := cs) HM.out HZ33'.out
      generalize (w6).setCells (w2.heap.size) 0 cs.toArray.toList = w7 at *
      refine hK.out _ _ hmid.sig (fun _ => ?_)
      clear hK K
      have hH7 := hmid.sig
      try simp only [Act.put, List.getElem_toArray, List.getElem_cons_succ, List.getElem_cons_zero]
      refine wpAnyH_take (i := 19) (v := ?v88) rfl (by kernel_rfl) (by kernel_rfl) (by kernel_rfl) (fun _ _ _ h => h) (Or.inl ⟨by rfl, ?y88⟩) hH7 ?_
      case y88 => intro w' hSw; clear hSw; (first | (go_simp; done) | (go_simp; with_reducible rfl))
      try simp only [Act.put, List.getElem_toArray, List.getElem_cons_succ, List.getElem_cons_zero, List.setIfInBounds_toArray, List.set_cons_succ, List.set_cons_zero]
      refine wpAnyH_done (by kernel_rfl) ?_ _
      clear hH7
      have HMID := Lib.hid hmid
      clear hmid
      go_wp2_with fail
      go_meet
      exact ⟨_, rfl, rfl, HMID.out⟩
    · rw [if_pos (by rfl)]
      go_simp
      have hn0 := (HB.new w1 61 sigZ).drew
      have hb0 : Below w1.heap.size w1 (w1.alloc (.cells sigZ.toArray 61)).drew := (below_alloc1 w1 _).drew
      have hH0 : SigW (w1.alloc (.cells sigZ.toArray 61)).drew g f k (n : Int) := (HG1.out.alloc _).drew
      generalize (w1.alloc (.cells sigZ.toArray 61)).drew = w1a at *
      refine hK.out _ _ hH0 (fun _ => ?_)
      clear hK K hH
      try simp only [Act.put, List.getElem_toArray, List.getElem_cons_succ, List.getElem_cons_zero, List.setIfInBounds_toArray, List.set_cons_succ, List.set_cons_zero]
      refine wpAnyH_ready (rs := [13]) (by kernel_rfl) (by simp) ?_
      refine AllReadyH.cons rfl (fun K hK => ?_) AllReadyH.nil
      rw [if_pos (by rfl)]
      go_simp
      refine (HCALL.out w1a hb0).mono ?_
      rintro e w2 ⟨he, hR2, hT2⟩
      subst he
      have hM2 := mid_call HG1.out HR1.out HD1.out HT1.out hb0 hR2 hT2
      have hM := hM2.keep hn0 HR1.out hT2 (Nat.le_refl _) HD1.out.lt
      have HM := Lib.hid hM
      have hn6 := hM.row
      have hH2 := hM.sig
      clear hR2 hT2 hM2 hM hn0 hb0
      dsimp only
      refine hK.out _ _ hH2 (fun _ => ?_)
      clear hK K hH0
      try simp only [Act.put, List.getElem_toArray, List.getElem_cons_succ, List.getElem_cons_zero, List.setIfInBounds_toArray, List.set_cons_succ, List.set_cons_zero]
      refine wpAnyH_take (i := 14) (v := ?v89) rfl (by kernel_rfl) (by kernel_rfl) (by kernel_rfl) (fun _ _ _ h => h) (Or.inl ⟨by rfl, ?y89⟩) hH2 ?_
      case y89 => intro w' hSw; clear hSw; (first | (go_simp; done) | (go_simp; with_reducible rfl))
      try simp only [Act.put, List.getElem_toArray, List.getElem_cons_succ, List.getElem_cons_zero, List.setIfInBounds_toArray, List.set_cons_succ, List.set_cons_zero]
      refine wpAnyH_take (i := 15) (v := ?v90) rfl (by kernel_rfl) (by kernel_rfl) (by kernel_rfl) (fun _ _ _ h => h) (Or.inl ⟨by rfl, ?y90⟩) hH2 ?_
      case y90 => intro w' hSw; clear hSw; (first | (go_simp; done) | (go_simp; with_reducible rfl))
      try simp only [Act.put, List.getElem_toArray, List.getElem_cons_succ, List.getElem_cons_zero, List.setIfInBounds_toArray, List.set_cons_succ, List.set_cons_zero]
      refine wpAnyH_take (i := 16) (v := ?v91) rfl (by kernel_rfl) (by kernel_rfl) (by kernel_rfl) (fun _ _ _ h => h) (Or.inl ⟨by rfl, ?y91⟩) hH2 ?_
      case y91 => intro w' hSw; clear hSw; (first | (go_simp; done) | (go_simp; with_reducible rfl))
      try simp only [Act.put, List.getElem_toArray, List.getElem_cons_succ, List.getElem_cons_zero, List.setIfInBounds_toArray, List.set_cons_succ, List.set_cons_zero]
      refine wpAnyH_ready (rs := [18]) (by kernel_rfl) (by simp) ?_
      refine AllReadyH.cons rfl (fun K hK => ?_) AllReadyH.nil
      rw [if_pos (by rfl)]
      refine wp_store_mid 61 _ _ rfl w1.heap.size 0 cs.toArray rfl rfl (there_hb0 hn6 HZ33.out) HSI.out HSA.out ?_
      have hmid := mid_store (cs := cs) HM.out HZ33'.out
      generalize (w2).setCells (w1.heap.size) 0 cs.toArray.toList = w7 at *
      refine hK.out _ _ hmid.sig (fun _ => ?_)
      clear hK K
      have hH7 := hmid.sig
      try simp only [Act.put, List.getElem_toArray, List.getElem_cons_succ, List.getElem_cons_zero]
      refine wpAnyH_take (i := 19) (v := ?v92) rfl (by kernel_rfl) (by kernel_rfl) (by kernel_rfl) (fun _ _ _ h => h) (Or.inl ⟨by rfl, ?y92⟩) hH7 ?_
      case y92 => intro w' hSw; clear hSw; (first | (go_simp; done) | (go_simp; with_reducible rfl))
      try simp only [Act.put, List.getElem_toArray, List.getElem_cons_succ, List.getElem_cons_zero, List.setIfInBounds_toArray, List.set_cons_succ, List.set_cons_zero]
      refine wpAnyH_done (by kernel_rfl) ?_ _
      clear hH7
      have HMID := Lib.hid hmid
      clear hmid
      go_wp2_with fail
      go_meet
      exact ⟨_, rfl, rfl, HMID.out⟩
  case rest =>
    obtain ⟨n6, rfl, rfl, hm⟩ := hcut
    have HM := Lib.hid hm
    clear hm
    have hn7 := HM.out.row
    have hd7 := HM.out.res
    have hr := hd7.row cs.toArray
    have hm1 := mine_lt HR.out
    have hset : ∀ b, b ≠ w.heap.size → (wc.setRow w.heap.size cs.toArray).heap[b]? = wc.heap[b]? := fun b hb => by
      simp only [World.setRow, Array.getElem?_modify]
      rw [if_neg (by omega)]
    have hR9 := HM.out.ring.of_heap (w' := wc.setRow w.heap.size cs.toArray) (hset _ (by have := HR.out.ring.lt; omega)) (hset _ (by have := hm1 f.K (.inl rfl); omega)) (hset _ (by have := hm1 f.T (.inr (.inl rfl)); omega)) (hset _ (by have := hm1 f.U (.inr (.inr rfl)); omega))
    have hg9 : SigW (wc.setRow w.heap.size cs.toArray) g f k (n : Int) := HB.keep HM.out.sig (hset _ (by have := HG.out.lt; omega))
    have ht9 : Turn f.mine w (wc.setRow w.heap.size cs.toArray) := by
      refine ⟨HM.out.turn.os, HM.out.turn.tape, HM.out.turn.output, by simpa using HM.out.turn.size, fun b hb hm => ?_⟩
      rw [hset b (by omega)]
      exact HM.out.turn.block b hb hm
    have HR9 := Lib.hid hR9
    have HG9 := Lib.hid hg9
    have HT9 := Lib.hid ht9
    clear hm1 hset hR9 hg9 ht9
    go_wp2_with (first
      | (refine wpList_load_row rfl 61 _ rfl n6 rfl 61 cs.toArray (0, 0) _ hn7 Tryd.underlying61 rfl HSI.out ?_)
      | (refine wpList_store_row rfl 61 _ _ rfl w.heap.size cs.toArray rfl rfl 61 _ hd7 HSI.out HSS.out HSA.out ?_))
    refine bodyPost_ret (results_sig rfl _ _ w.heap.size 61 cs _ (.int .i64 17) rfl rfl hr Tryd.underlying61 rfl HSL.out) rfl ?_
    exact ⟨rfl, HR9.out, HG9.out, HT9.out⟩
end Go.Proofs.YtkhbogccmngmmaaDoor
