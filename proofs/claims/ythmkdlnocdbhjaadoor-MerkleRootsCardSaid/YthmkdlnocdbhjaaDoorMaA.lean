/- wapentakelaw03.awake: its parts. -/
import Derived.Test.YthmkdlnocdbhjaaDoorMvB
namespace Go.Proofs.YthmkdlnocdbhjaaDoor
open Go.RowKit

set_option maxRecDepth 20000 in
/-- A literal of one byte. -/
theorem build_b1 (W : World) (a : Int) : (Instr.buildSlice 33 1 #[(0, .int .u8 a)]).run Tryd.prog W = .ok (.slice (some ⟨W.heap.size, 0, none⟩) 1 1) (W.alloc (.cells #[.int .u8 a] 5)) := by
  obtain ⟨i0, hi, hz0, hz1, hz2⟩ := info_parts Tryd.infoByte
  exact run_buildSlice (P := Tryd.prog) W 33 5 1 _ _ i0 (.int .u8 0) Tryd.underlying33 hi hz0 (by rw [hz1]; decide) (by rw [hz1]; decide) (by rw [hz1]; exact Great.fill_flat [.int .u8 a] _ (by simp [Value.cells]) (by simp))
theorem conv_litG (w : World) (C : Array Value) (n c G : Nat) (hG : w.heap.size = G) : (convert 33 33 (.slice (some ⟨G, 0, none⟩) n c)).run Tryd.prog (w.alloc (.cells C 5)) = .ok (.slice (some ⟨G, 0, none⟩) n c) (w.alloc (.cells C 5 (C.size, C.size + 1))) := by
  subst hG; exact conv_lit0 w C n c
/-- Any bytes in a block of their own. -/
theorem slot_cells (w : World) (t : TypeId) (z : Nat × Nat) (l : List UInt8) (n : Nat) (hn : l.length = n) (h : n ≤ 9223372036854775807) : Slot (w.alloc (.cells (bys l).toArray t z)) (w.heap.size + 1) (.slice (some ⟨w.heap.size, 0, none⟩) n n) l := by
  refine slot_boxed (cs := bys l) hn h (Nat.lt_succ_self _) (fun j => ?_) (fun j hj => by rw [Nat.zero_add])
  rw [cell_of_row _ w.heap.size j _ t z (heap_alloc_new w _)]; simp
def abc : List (List UInt8) := [[97], [98], [99]]

/-- The list of three elements. -/
theorem abc_ls (w : World) (hk : Consts w) : ∃ W : World, W = ((((w.alloc (.cells #[.int .u8 97] 5 (1, 2))).alloc (.cells #[.int .u8 98] 5 (1, 2))).alloc (.cells #[.int .u8 99] 5 (1, 2))).alloc (.cells #[.slice (some ⟨w.heap.size, 0, none⟩) 1 1, .slice (some ⟨w.heap.size + 1, 0, none⟩) 1 1, .slice (some ⟨w.heap.size + 1 + 1, 0, none⟩) 1 1] 33)) ∧
    LsW W W.heap.size (some ⟨w.heap.size + 1 + 1 + 1, 0, none⟩) 3 [.slice (some ⟨w.heap.size, 0, none⟩) 1 1, .slice (some ⟨w.heap.size + 1, 0, none⟩) 1 1, .slice (some ⟨w.heap.size + 1 + 1, 0, none⟩) 1 1] abc ∧ Below w.heap.size w W ∧ HB W (w.heap.size + 1 + 1 + 1) 33 [.slice (some ⟨w.heap.size, 0, none⟩) 1 1, .slice (some ⟨w.heap.size + 1, 0, none⟩) 1 1, .slice (some ⟨w.heap.size + 1 + 1, 0, none⟩) 1 1] := by
  obtain ⟨w1, h1⟩ : ∃ w1 : World, w1 = w.alloc (.cells #[.int .u8 97] 5 (1, 2)) := ⟨_, rfl⟩
  obtain ⟨w2, h2⟩ : ∃ w2 : World, w2 = w1.alloc (.cells #[.int .u8 98] 5 (1, 2)) := ⟨_, rfl⟩
  obtain ⟨w3, h3⟩ : ∃ w3 : World, w3 = w2.alloc (.cells #[.int .u8 99] 5 (1, 2)) := ⟨_, rfl⟩
  obtain ⟨W, h4⟩ : ∃ W : World, W = w3.alloc (.cells #[.slice (some ⟨w.heap.size, 0, none⟩) 1 1, .slice (some ⟨w.heap.size + 1, 0, none⟩) 1 1, .slice (some ⟨w.heap.size + 1 + 1, 0, none⟩) 1 1] 33) := ⟨_, rfl⟩
  have z1 : w1.heap.size = w.heap.size + 1 := by rw [h1]; simp
  have z2 : w2.heap.size = w.heap.size + 1 + 1 := by rw [h2]; simp; omega
  have z3 : w3.heap.size = w.heap.size + 1 + 1 + 1 := by rw [h3]; simp; omega
  have z4 : W.heap.size = w.heap.size + 1 + 1 + 1 + 1 := by rw [h4]; simp; omega
  have b1 : Below w.heap.size w w1 := by rw [h1]; exact below_alloc1 _ _
  have b2 : Below w1.heap.size w1 w2 := by rw [h2]; exact below_alloc1 _ _
  have b3 : Below w2.heap.size w2 w3 := by rw [h3]; exact below_alloc1 _ _
  have b4 : Below w3.heap.size w3 W := by rw [h4]; exact below_alloc1 _ _
  have b34 := b3.trans (b4.mono b3.size)
  have b24 := b2.trans (b34.mono b2.size)
  have b14 := b1.trans (b24.mono b1.size)
  have s1 : Slot w1 (w.heap.size + 1) (.slice (some ⟨w.heap.size, 0, none⟩) 1 1) [97] := by rw [h1]; exact slot_cells w 5 (1, 2) [97] 1 rfl (by omega)
  have s2 : Slot w2 (w.heap.size + 1 + 1) (.slice (some ⟨w.heap.size + 1, 0, none⟩) 1 1) [98] := by rw [h2, ← z1]; exact slot_cells w1 5 (1, 2) [98] 1 rfl (by omega)
  have s3 : Slot w3 (w.heap.size + 1 + 1 + 1) (.slice (some ⟨w.heap.size + 1 + 1, 0, none⟩) 1 1) [99] := by rw [h3, ← z2]; exact slot_cells w2 5 (1, 2) [99] 1 rfl (by omega)
  have t1 := (s1.below (b24.mono (by omega))).wide (show _ ≤ W.heap.size by omega)
  have t2 := (s2.below (b34.mono (by omega))).wide (show _ ≤ W.heap.size by omega)
  have t3 := (s3.below (b4.mono (by omega))).wide (show _ ≤ W.heap.size by omega)
  have hb : HB W (w.heap.size + 1 + 1 + 1) 33 [.slice (some ⟨w.heap.size, 0, none⟩) 1 1, .slice (some ⟨w.heap.size + 1, 0, none⟩) 1 1, .slice (some ⟨w.heap.size + 1 + 1, 0, none⟩) 1 1] := by rw [h4, ← z3]; exact HB.new w3 _ _
  refine ⟨W, by rw [h4, h3, h2, h1], ⟨?_, Lists.cons t1 (Lists.cons t2 (Lists.cons t3 (Lists.nothing _ _))), Nat.le_refl _, ⟨by decide, by decide⟩, fun i l h => ?_, hk.below b14 hk.2.2⟩, b14, hb⟩
  · exact hb.sees W.heap.size (by omega) rfl (fun j u hu => by rw [Nat.zero_add]; exact hu)
  · have hm := List.mem_of_getElem? h
    simp [abc] at hm
    rcases hm with rfl | rfl | rfl <;> decide

/-- Bytes that lie anywhere. -/
def SlotH (w : World) (v : Value) (l : List UInt8) : Prop := Slot w w.heap.size v l
theorem SlotH.alloc {w : World} {v : Value} {l : List UInt8} (o : Obj) (h : SlotH w v l) : SlotH (w.alloc o) v l := (Slot.alloc h (Nat.le_refl _) o).wide (by simp)
theorem SlotH.freeze {w : World} {v : Value} {l : List UInt8} (a : Addr) (n : Nat) (h : SlotH w v l) : SlotH (w.freeze a n) v l := (freeze_slot h a n).wide (by rw [freeze_size]; exact Nat.le_refl _)
theorem SlotH.drew {w : World} {v : Value} {l : List UInt8} (h : SlotH w v l) : SlotH w.drew v l := Slot.below h (Below.drew (Below.refl _ _))
theorem SlotH.later {w w' : World} {v : Value} {l : List UInt8} (h : SlotH w v l) (hb : Below w.heap.size w w') : SlotH w' v l := (Slot.below h hb).wide hb.size
theorem SlotH.lit {w : World} {G : Nat} (z : Nat × Nat) (hG : w.heap.size = G) : SlotH (w.alloc (.cells #[.int .u8 108, .int .u8 105, .int .u8 115, .int .u8 116] 5 z)) (.slice (some ⟨G, 0, none⟩) 4 4) tagList := by
  subst hG; exact (slot_lit w 5 z 108 105 115 116).wide (by simp)
def zeros8 : List UInt8 := List.replicate 8 0
theorem SlotH.made {w : World} {G : Nat} (hG : w.heap.size = G) : SlotH (w.alloc (.cells (madeCells #[.int .u8 0] 8) 5)) (.slice (some ⟨G, 0, none⟩) 8 8) zeros8 := by
  subst hG
  have e : madeCells #[.int .u8 0] 8 = (bys zeros8).toArray := by
    apply Array.toList_inj.1
    simp [madeCells, bys, zeros8]
    rfl
  rw [e]
  exact (slot_cells w 5 (0, 0) zeros8 8 rfl (by omega)).wide (by simp)
/-- The literal, not yet marked. -/
def LitAt (w : World) (g : Nat) : Prop := w.heap[g]? = some (.cells #[.int .u8 108, .int .u8 105, .int .u8 115, .int .u8 116] 5)
theorem LitAt.new {w : World} {G : Nat} (hG : w.heap.size = G) : LitAt (w.alloc (.cells #[.int .u8 108, .int .u8 105, .int .u8 115, .int .u8 116] 5)) G := by subst hG; exact heap_alloc_new w _
theorem LitAt.alloc {w : World} {g : Nat} (o : Obj) (h : LitAt w g) : LitAt (w.alloc o) g := (heap_alloc_old w o (lt_of_heap h)).trans h
theorem LitAt.drew {w : World} {g : Nat} (h : LitAt w g) : LitAt w.drew g := h
theorem LitAt.later {w w' : World} {g : Nat} (h : LitAt w g) (hb : Below w.heap.size w w') : LitAt w' g := (hb.block g (lt_of_heap h)).trans h
theorem LitAt.conv {w : World} {g : Nat} (h : LitAt w g) (n c : Nat) : (convert 33 33 (.slice (some ⟨g, 0, none⟩) n c)).run Tryd.prog w = .ok (.slice (some ⟨g, 0, none⟩) n c) (w.freeze ⟨g, 4, none⟩ 1) := conv_at w g _ n c h
theorem conv_under (w : World) (o : Obj) (n c G : Nat) (hG : w.heap.size = G) : (convert 33 33 (.slice (some ⟨G, 0, none⟩) n c)).run Tryd.prog ((w.alloc (.cells #[.int .u8 108, .int .u8 105, .int .u8 115, .int .u8 116] 5)).alloc o) = .ok (.slice (some ⟨G, 0, none⟩) n c) (((w.alloc (.cells #[.int .u8 108, .int .u8 105, .int .u8 115, .int .u8 116] 5)).alloc o).freeze ⟨G, 4, none⟩ 1) := LitAt.conv ((LitAt.new hG).alloc o) n c
theorem conv_under_drew (w : World) (o : Obj) (n c G : Nat) (hG : w.heap.size = G) : (convert 33 33 (.slice (some ⟨G, 0, none⟩) n c)).run Tryd.prog ((w.alloc (.cells #[.int .u8 108, .int .u8 105, .int .u8 115, .int .u8 116] 5)).alloc o).drew = .ok (.slice (some ⟨G, 0, none⟩) n c) (((w.alloc (.cells #[.int .u8 108, .int .u8 105, .int .u8 115, .int .u8 116] 5)).alloc o).drew.freeze ⟨G, 4, none⟩ 1) := LitAt.conv ((LitAt.new hG).alloc o).drew n c

/-- The literal of three slices. -/
def RowHB (w : World) (g : Nat) (v0 v1 v2 : Value) : Prop := HB w g 33 [v0, v1, v2]
theorem RowHB.new {w : World} {G : Nat} {v0 v1 v2 : Value} (hG : w.heap.size = G) : RowHB (w.alloc (.cells #[v0, v1, v2] 33)) G v0 v1 v2 := by subst hG; exact HB.new w _ [v0, v1, v2]
theorem RowHB.drew {w : World} {g : Nat} {v0 v1 v2 : Value} (h : RowHB w g v0 v1 v2) : RowHB w.drew g v0 v1 v2 := h
theorem RowHB.later {w w' : World} {g : Nat} {v0 v1 v2 : Value} (h : RowHB w g v0 v1 v2) (hb : Below w.heap.size w w') : RowHB w' g v0 v1 v2 := HB.below h hb (HB.lt h)
theorem bel_alloc {a w : World} (o : Obj) (h : Below a.heap.size a w) : Below a.heap.size a (w.alloc o) := h.alloc h.size o
/-- What follows is proved once, for whatever was left in three slots. -/
theorem by_tail {T : Value → Value → Value → World → Prop} {G : Prop} (B : World → Prop) (main : (∀ x y z w, B w → T x y z w) → G) (tail : ∀ x y z w, B w → T x y z w) : G := main tail

set_option maxRecDepth 20000 in
set_option maxHeartbeats 6400000 in
theorem awake_any (w : World) (hk : Consts w) :
    Calls Tryd.prog 11 #[] w fun e w' => e = .returned (.bool true) ∧ Below w.heap.size w w' := by
  have hz := Tryd.zeroDig
  have hb4 := build_b4
  have hb1 := build_b1
  have hbs1 := build_1
  have hbs3 := build_3
  have kc := conv_litG
  have hl4 := slot_lit w 5 (4, 5) 110 111 110 101
  have b1 := below_alloc1 w (.cells #[.int .u8 110, .int .u8 111, .int .u8 110, .int .u8 101] 5 (4, 5))
  have hk1 := hk.below b1 hk.2.2
  have hof := Lib.hid (of_lit (w.alloc (.cells #[.int .u8 110, .int .u8 111, .int .u8 110, .int .u8 101] 5 (4, 5))) _ _ (w.heap.size + 1) 1 (by simp) rfl (Lists.cons (hl4.wide (by simp)) (Lists.nothing _ _)) (by decide) hk1)
  have b2 := b1.alloc b1.size (.cells #[.slice (some ⟨w.heap.size, 0, none⟩) 4 4] 33)
  go_enter Tryd.func11, Tryd.ntmps11
  go_wp2_with fail
  refine hof.out.mono ?_
  rintro e w1 ⟨rfl, hB1⟩
  have hw1 : Below w.heap.size w w1 := b2.trans (hB1.mono b2.size)
  have hnb : joinF [[110, 111, 110, 101]] = noneB := rfl
  rw [hnb]
  clear hnb hof hB1 b1 b2 hl4 hk1
  have hd1 := HB.new w1 28 zdig
  have HI := dig_info (shaF_len noneB)
  have HS := dig_size (shaF_len noneB)
  have HA := dig_one (shaF noneB)
  have hr := Lib.hid (hd1.row (bys (shaF noneB)).toArray)
  have hB2 := Below.setRow_ (below_alloc1 w1 (.cells zdig.toArray 28)) (Nat.le_refl _) (bys (shaF noneB)).toArray
  have hw2 := Lib.hid (hw1.trans (hB2.mono hw1.size))
  have hz2 : ((w1.alloc (.cells zdig.toArray 28)).setRow w1.heap.size (bys (shaF noneB)).toArray).heap.size = w1.heap.size + 1 := by simp [World.setRow]
  have HZ2 := Lib.hid hz2
  clear hw1 hB2 hz2
  generalize hN : shaF noneB = D at *
  have HN := Lib.hid hN
  clear hN
  go_upto_region 2 with (refine wpList_store_row rfl 28 _ _ rfl w1.heap.size (bys D).toArray rfl rfl 28 _ hd1 HI.out HS.out HA.out ?_)
  generalize (w1.alloc (.cells zdig.toArray 28)).setRow w1.heap.size (bys D).toArray = w2 at *
  clear hd1 HI HS HA
  have hk2 := hk.below hw2.out hk.2.2
  obtain ⟨W3, hW3, hL3, hB3, hb3⟩ := abc_ls w2 hk2
  have hpy := Lib.hid (show Calls Tryd.prog 12 #[.slice (some ⟨w2.heap.size + 1 + 1 + 1, 0, none⟩) 3 3, .int .i64 2] W3 _ from prove_yes 2 W3.heap.size _ 3 _ abc W3 hL3 (by decide))
  have hcc := hb3.cell 2
  simp only [List.getElem?_cons_zero, List.getElem?_cons_succ] at hcc
  have HCC := Lib.hid hcc
  have HL3 := Lib.hid hL3
  have HB3 := Lib.hid hB3
  have HB33 := Lib.hid hb3.lt
  rw [hW3] at hpy
  clear hL3 hB3 hb3 hcc
  go_wp2_with fail
  refine hpy.out.mono ?_
  rw [← hW3]
  rintro e w4 ⟨v4, rfl, ho4, hB4⟩
  have hpl : (pathF abc 2).length = 1 := by rw [pathF_len]; decide
  obtain ⟨A4, c4, rfl, hc4, hcm4, -, -⟩ := own_slice ho4
  have hP4 := Lib.hid (path_own ho4 (pathF_32 abc 2) (by omega))
  rw [hpl]
  have HB4 := Lib.hid hB4
  clear hpy ho4 hB4 hW3
  go_wp2_with fail
  refine (prove_no (some ⟨w2.heap.size + 1 + 1 + 1, 0, none⟩) 3 3 3 (.inr (by decide)) w4).mono ?_
  rintro e w5 ⟨rfl, rfl⟩
  have hB35 := HB4.out
  have hB5 : Below w.heap.size w w5 := hw2.out.trans ((HB3.out.trans (hB35.mono HB3.out.size)).mono hw2.out.size)
  have hL5 := HL3.out.below hB35
  have hn5 : HB w5 w1.heap.size 28 (bys D) := (hr.out.below (HB3.out.trans (hB35.mono HB3.out.size)) hr.out.lt)
  have hc5 := (hB35.cell (p := ⟨w2.heap.size + 1 + 1 + 1, 2, none⟩) HB33.out).trans HCC.out
  have hg5 : w2.heap.size + 1 + 1 + 1 < w5.heap.size := Nat.lt_of_lt_of_le HB33.out hB35.size
  have hD32 : D.length = 32 := by rw [← HN.out]; exact shaF_len _
  have hR0 : shaF (joinF [tagList, zeros8, D]) = rootF [] := by rw [← HN.out]; rfl
  have HB5 := Lib.hid hB5
  clear hB35 hB5 hr hw2 HB4 HB3 HB33 HCC HL3 hk2
  generalize w2.heap.size + 1 + 1 + 1 = gl at *
  generalize w2.heap.size + 1 + 1 = gc at *
  generalize w1.heap.size = gn at *
  have hcs5 := hL5.consts
  go_wp2_with fail
  have hrn : ∀ Y : World, Below w5.heap.size w5 Y → Calls Tryd.prog 13 #[.slice none 0 0] Y fun e w' => e = .returned (.agg (bys (rootF [])).toArray) ∧ Below Y.heap.size Y w' ∧ Below w5.heap.size w5 w' := fun Y hY =>
    (rootOf_any 0 none 0 [] [] Y (Sees.nothing _ _ _ _) (Lists.nothing _ _) (Nat.zero_le _) (fun i l h => by simp at h) (by simp) (hcs5.below hY hcs5.2.2)).mono fun _ _ ⟨he, hb⟩ => ⟨he, hb, hY.trans (hb.mono hY.size)⟩
  have hrl : ∀ Y : World, Below w5.heap.size w5 Y → Calls Tryd.prog 13 #[.slice (some ⟨gl, 0, none⟩) 3 3] Y fun e w' => e = .returned (.agg (bys (rootF abc)).toArray) ∧ Below w5.heap.size w5 w' := fun Y hY => by
    have h := hL5.below hY
    exact (rootOf_any _ _ 3 _ abc Y h.sees h.lists h.hB h.small (by decide) h.consts).mono fun _ _ ⟨he, hb⟩ => ⟨he, hY.trans (hb.mono hY.size)⟩
  have hvf : ∀ Y : World, Below w5.heap.size w5 Y → Calls Tryd.prog 36 #[.agg (bys (rootF abc)).toArray, .int .i64 3, .int .i64 2, .slice (some ⟨gc, 0, none⟩) 1 1, .slice A4 1 c4] Y fun en w' => en = .returned (.bool true) ∧ Below w5.heap.size w5 w' := fun Y hY => by
    have h := hL5.below hY
    have hp := hP4.out.below hY
    have hp' : PathW Y Y.heap.size A4 c4 (pathF abc 2) := ⟨hp.sees.wide hY.size, hp.len, hp.cap, Nat.le_refl _⟩
    have hv := verify_proved 2 _ _ 3 _ abc Y h (by decide) A4 c4 hp' (some ⟨gc, 0, none⟩) 1 rfl
    rw [hpl] at hv
    exact hv.mono fun _ _ ⟨he, hb⟩ => ⟨he, hY.trans (hb.mono hY.size)⟩
  have hof : ∀ (wk : World) (vL vM : Value) (G : Nat), wk.heap.size = G → Below w5.heap.size w5 wk → SlotH wk vL tagList → SlotH wk vM zeros8 → Calls Tryd.prog 35 #[.slice (some ⟨G, 0, none⟩) 3 3] (wk.alloc (.cells #[vL, vM, .slice (some ⟨gn, 0, none⟩) 32 32] 33)) fun e w' => e = .returned (.agg (bys (rootF [])).toArray) ∧ Below w5.heap.size w5 w' := fun wk vL vM G hG hb h1 h2 => by
    have hn := hn5.below hb hn5.lt
    have h3 : SlotH wk (.slice (some ⟨gn, 0, none⟩) 32 32) D := ⟨some ⟨gn, 0, none⟩, 32, by rw [hD32], by rw [hD32]; exact Nat.le_refl _, by decide, hn.sees wk.heap.size hn.lt (by rw [bys_len]) (fun j u hu => by rw [Nat.zero_add]; exact hu)⟩
    have ho := of_lit wk [vL, vM, .slice (some ⟨gn, 0, none⟩) 32 32] [tagList, zeros8, D] G 3 hG rfl (Lists.cons h1 (Lists.cons h2 (Lists.cons h3 (Lists.nothing _ _)))) (by simp [joinF_len, partsOf, part_len, tagList, zeros8, hD32]) (hcs5.below hb hcs5.2.2)
    refine ho.mono fun e w' ⟨he, hB⟩ => ⟨by rw [he, hR0], hb.trans (((below_alloc1 _ _).trans (hB.mono (by simp))).mono hb.size)⟩
  have hof2 : ∀ (wk : World) (vL vM : Value) (G : Nat), Below w5.heap.size w5 wk → RowHB wk G vL vM (.slice (some ⟨gn, 0, none⟩) 32 32) → SlotH wk vL tagList → SlotH wk vM zeros8 → Calls Tryd.prog 35 #[.slice (some ⟨G, 0, none⟩) 3 3] wk fun e w' => e = .returned (.agg (bys (rootF [])).toArray) ∧ Below w5.heap.size w5 w' := fun wk vL vM G hb hr h1 h2 => by
    have hn := hn5.below hb hn5.lt
    have h3 : SlotH wk (.slice (some ⟨gn, 0, none⟩) 32 32) D := ⟨some ⟨gn, 0, none⟩, 32, by rw [hD32], by rw [hD32]; exact Nat.le_refl _, by decide, hn.sees wk.heap.size hn.lt (by rw [bys_len]) (fun j u hu => by rw [Nat.zero_add]; exact hu)⟩
    have hsr := HB.sees (n := 3) (o := 0) (xs := [vL, vM, .slice (some ⟨gn, 0, none⟩) 32 32]) hr wk.heap.size (HB.lt hr) rfl (fun j u hu => by rw [Nat.zero_add]; exact hu)
    have ho := of_any wk.heap.size (some ⟨G, 0, none⟩) 3 [vL, vM, .slice (some ⟨gn, 0, none⟩) 32 32] [tagList, zeros8, D] wk hsr (Lists.cons h1 (Lists.cons h2 (Lists.cons h3 (Lists.nothing _ _)))) (Nat.le_refl _) (by simp [joinF_len, partsOf, part_len, tagList, zeros8, hD32]) (hcs5.below hb hcs5.2.2)
    refine ho.mono fun e w' ⟨he, hB⟩ => ⟨by rw [he, hR0], hb.trans (hB.mono hb.size)⟩
  have heq := fun W => eql_dig W (rootF []) (rootF []) (shaF_len _) (shaF_len _)
  generalize rootF [] = R0 at *
  generalize rootF abc = RL at *
  have heq2 : (R0 == R0) = true := by simp
  obtain ⟨i0, hi, hz0, hz1, hz2⟩ := info_parts Tryd.infoByte
  have hmk8 : ∀ W : World, (Instr.makeSlice 33 (.int .i64 8) (.int .i64 8)).run Tryd.prog W = .ok (.slice (some ⟨W.heap.size, 0, none⟩) 8 8) (W.alloc (.cells (madeCells #[.int .u8 0] 8) 5)) := fun W => by
    have h := run_make_n (P := Tryd.prog) W 33 5 i0 (.int .u8 0) Tryd.underlying33 hi hz0 8 (by rw [hz2]; omega) (by omega)
    rw [hz1] at h
    exact h
  have HRN := Lib.hid hrn
  have HRL := Lib.hid hrl
  have HVF := Lib.hid hvf
  have HOF := Lib.hid hof
  have HOF2 := Lib.hid hof2
  have hc6 := fun Y (hY : Below w5.heap.size w5 Y) => (hY.cell (p := ⟨gl, 2, none⟩) hg5).trans hc5
  have HC6 := Lib.hid hc6
  have kd := conv_lit
  have ku := conv_under
  have kv := conv_under_drew
  clear hrn hrl hvf hof hof2 hc6 hn5 hL5 hcs5 hR0 hD32 hz0 hz1 hz2 hi hP4 hpl hk hz HN
  -- REGION
  have hSS : ∀ a : World, Below w5.heap.size w5 a → (Below w5.heap.size w5 a ∧ a.cell? ⟨gl, 2, none⟩ = some (.slice (some ⟨gc, 0, none⟩) 1 1)) := fun a h => ⟨h, HC6.out a h⟩
  have HSS := Lib.hid hSS
  clear hSS hc5
  refine wp_region_held_drew (S := fun w' => (Below w5.heap.size w5 w' ∧ w'.cell? ⟨gl, 2, none⟩ = some (.slice (some ⟨gc, 0, none⟩) 1 1))) (by kernel_rfl) (HSS.out _ (Below.drew (Below.refl _ _))) (fun hHeld => ?_)
  refine wpAnyH_take (i := 4) (v := ?v4) rfl (by kernel_rfl) (by kernel_rfl) (by kernel_rfl) (fun _ _ _ h => h) (Or.inl ⟨by rfl, ?y4⟩) hHeld ?_
  case y4 => intro w' hSw; obtain ⟨-, hSc⟩ := hSw; (first | (go_simp; done) | (go_simp; with_reducible rfl))
  (try simp only [Act.put, List.getElem_toArray, List.getElem_cons_succ, List.getElem_cons_zero, List.setIfInBounds_toArray, List.set_cons_zero, List.set_cons_succ])
  apply by_tail (B := fun w' => Below w5.heap.size w5 w')
  case main =>
    intro H
    refine wpAnyH_ready (rs := [0, 1, 3]) (by kernel_rfl) (by simp) ?_
    refine AllReadyH.cons rfl (fun K hK => ?_) (AllReadyH.cons rfl (fun K hK => ?_) (AllReadyH.cons rfl (fun K hK => ?_) AllReadyH.nil))
    · go_simp
      refine (HRN.out _ (by (repeat' first | exact Below.refl _ _ | apply Below.drew | apply bel_alloc | (refine freeze_below ?_ (by first | (simp; done) | omega) _)))).mono ?_
      rintro e w6 ⟨rfl, hB, hbw6⟩
      have hz6 := hbw6.size
      clear hB
      go_wp2_with fail
      refine hK.out _ _ (HSS.out _ hbw6) (fun hHeld => ?_)
      clear hK K
      (try simp only [Act.put, List.getElem_toArray, List.getElem_cons_succ, List.getElem_cons_zero, List.setIfInBounds_toArray, List.set_cons_zero, List.set_cons_succ])
      refine wpAnyH_ready (rs := [1, 3]) (by kernel_rfl) (by simp) ?_
      refine AllReadyH.cons rfl (fun K hK => ?_) (AllReadyH.cons rfl (fun K hK => ?_) AllReadyH.nil)
      · go_simp
        refine hK.out _ _ (HSS.out _ (by (repeat' first | exact Below.refl _ _ | exact hbw6 | apply Below.drew | apply bel_alloc | (refine freeze_below ?_ (by first | (simp; done) | omega) _)))) (fun hHeld => ?_)
        clear hK K
        (try simp only [Act.put, List.getElem_toArray, List.getElem_cons_succ, List.getElem_cons_zero, List.setIfInBounds_toArray, List.set_cons_zero, List.set_cons_succ])
        refine wpAnyH_ready (rs := [2, 3]) (by kernel_rfl) (by simp) ?_
        refine AllReadyH.cons rfl (fun K hK => ?_) (AllReadyH.cons rfl (fun K hK => ?_) AllReadyH.nil)
        · go_simp
          refine hK.out _ _ (HSS.out _ (by (repeat' first | exact Below.refl _ _ | exact hbw6 | apply Below.drew | apply bel_alloc | (refine freeze_below ?_ (by first | (simp; done) | omega) _)))) (fun hHeld => ?_)
          clear hK K
          (try simp only [Act.put, List.getElem_toArray, List.getElem_cons_succ, List.getElem_cons_zero, List.setIfInBounds_toArray, List.set_cons_zero, List.set_cons_succ])
          refine wpAnyH_ready (rs := [3]) (by kernel_rfl) (by simp) ?_
          refine AllReadyH.cons rfl (fun K hK => ?_) AllReadyH.nil
          · go_simp
            refine hK.out _ _ (HSS.out _ (by (repeat' first | exact Below.refl _ _ | exact hbw6 | apply Below.drew | apply bel_alloc | (refine freeze_below ?_ (by first | (simp; done) | omega) _)))) (fun hHeld => ?_)
            clear hK K
            (try simp only [Act.put, List.getElem_toArray, List.getElem_cons_succ, List.getElem_cons_zero, List.setIfInBounds_toArray, List.set_cons_zero, List.set_cons_succ])
            refine wpAnyH_ready (rs := [5]) (by kernel_rfl) (by simp) ?_
            refine AllReadyH.cons rfl (fun K hK => ?_) AllReadyH.nil
            · go_simp
              refine hK.out _ _ (HSS.out _ (by (repeat' first | exact Below.refl _ _ | exact hbw6 | apply Below.drew | apply bel_alloc | (refine freeze_below ?_ (by first | (simp; done) | omega) _)))) (fun hHeld => ?_)
              clear hK K
              (try simp only [Act.put, List.getElem_toArray, List.getElem_cons_succ, List.getElem_cons_zero, List.setIfInBounds_toArray, List.set_cons_zero, List.set_cons_succ])
              refine wpAnyH_ready (rs := [6]) (by kernel_rfl) (by simp) ?_
              refine AllReadyH.cons rfl (fun K hK => ?_) AllReadyH.nil
              go_simp
              refine (HOF.out _ _ _ _ (by simp) (by (repeat' first | exact Below.refl _ _ | exact hbw6 | apply Below.drew | apply bel_alloc | (refine freeze_below ?_ (by first | (simp; done) | omega) _))) (by (repeat' first | exact SlotH.lit _ (by simp) | exact SlotH.made (by simp) | assumption | apply SlotH.drew | apply SlotH.freeze | apply SlotH.alloc)) (by (repeat' first | exact SlotH.lit _ (by simp) | exact SlotH.made (by simp) | assumption | apply SlotH.drew | apply SlotH.freeze | apply SlotH.alloc))).mono ?_
              rintro e w7 ⟨rfl, hbw7⟩
              go_wp2_with fail
              refine hK.out _ _ (HSS.out _ hbw7) (fun hHeld => ?_)
              clear hK K
              (try simp only [Act.put, List.getElem_toArray, List.getElem_cons_succ, List.getElem_cons_zero, List.setIfInBounds_toArray, List.set_cons_zero, List.set_cons_succ])
              clear hHeld
              generalize Value.slice (some ⟨w6.heap.size, 0, none⟩) 4 4 = xL
              generalize Value.slice (some ⟨w6.heap.size + 1, 0, none⟩) 8 8 = xM
              generalize Value.slice (some ⟨w6.heap.size + 1 + 1, 0, none⟩) 3 3 = xG
              exact H xL xM xG w7 hbw7
        · go_simp
          refine hK.out _ _ (HSS.out _ (by (repeat' first | exact Below.refl _ _ | exact hbw6 | apply Below.drew | apply bel_alloc | (refine freeze_below ?_ (by first | (simp; done) | omega) _)))) (fun hHeld => ?_)
          clear hK K
          (try simp only [Act.put, List.getElem_toArray, List.getElem_cons_succ, List.getElem_cons_zero, List.setIfInBounds_toArray, List.set_cons_zero, List.set_cons_succ])
          refine wpAnyH_ready (rs := [2]) (by kernel_rfl) (by simp) ?_
          refine AllReadyH.cons rfl (fun K hK => ?_) AllReadyH.nil
          · go_simp
            refine hK.out _ _ (HSS.out _ (by (repeat' first | exact Below.refl _ _ | exact hbw6 | apply Below.drew | apply bel_alloc | (refine freeze_below ?_ (by first | (simp; done) | omega) _)))) (fun hHeld => ?_)
            clear hK K
            (try simp only [Act.put, List.getElem_toArray, List.getElem_cons_succ, List.getElem_cons_zero, List.setIfInBounds_toArray, List.set_cons_zero, List.set_cons_succ])
            refine wpAnyH_ready (rs := [5]) (by kernel_rfl) (by simp) ?_
            refine AllReadyH.cons rfl (fun K hK => ?_) AllReadyH.nil
            · go_simp
              refine hK.out _ _ (HSS.out _ (by (repeat' first | exact Below.refl _ _ | exact hbw6 | apply Below.drew | apply bel_alloc | (refine freeze_below ?_ (by first | (simp; done) | omega) _)))) (fun hHeld => ?_)
              clear hK K
              (try simp only [Act.put, List.getElem_toArray, List.getElem_cons_succ, List.getElem_cons_zero, List.setIfInBounds_toArray, List.set_cons_zero, List.set_cons_succ])
              refine wpAnyH_ready (rs := [6]) (by kernel_rfl) (by simp) ?_
              refine AllReadyH.cons rfl (fun K hK => ?_) AllReadyH.nil
              go_simp
              refine (HOF.out _ _ _ _ (by simp [freeze_size]) (by (repeat' first | exact Below.refl _ _ | exact hbw6 | apply Below.drew | apply bel_alloc | (refine freeze_below ?_ (by first | (simp; done) | omega) _))) (by (repeat' first | exact SlotH.lit _ (by simp) | exact SlotH.made (by simp) | assumption | apply SlotH.drew | apply SlotH.freeze | apply SlotH.alloc)) (by (repeat' first | exact SlotH.lit _ (by simp) | exact SlotH.made (by simp) | assumption | apply SlotH.drew | apply SlotH.freeze | apply SlotH.alloc))).mono ?_
              rintro e w7 ⟨rfl, hbw7⟩
              go_wp2_with fail
              refine hK.out _ _ (HSS.out _ hbw7) (fun hHeld => ?_)
              clear hK K
              (try simp only [Act.put, List.getElem_toArray, List.getElem_cons_succ, List.getElem_cons_zero, List.setIfInBounds_toArray, List.set_cons_zero, List.set_cons_succ])
              exact H _ _ _ w7 hbw7
      · go_simp
        refine hK.out _ _ (HSS.out _ (by (repeat' first | exact Below.refl _ _ | exact hbw6 | apply Below.drew | apply bel_alloc | (refine freeze_below ?_ (by first | (simp; done) | omega) _)))) (fun hHeld => ?_)
        clear hK K
        (try simp only [Act.put, List.getElem_toArray, List.getElem_cons_succ, List.getElem_cons_zero, List.setIfInBounds_toArray, List.set_cons_zero, List.set_cons_succ])
        refine wpAnyH_ready (rs := [1]) (by kernel_rfl) (by simp) ?_
        refine AllReadyH.cons rfl (fun K hK => ?_) AllReadyH.nil
        · go_simp
          refine hK.out _ _ (HSS.out _ (by (repeat' first | exact Below.refl _ _ | exact hbw6 | apply Below.drew | apply bel_alloc | (refine freeze_below ?_ (by first | (simp; done) | omega) _)))) (fun hHeld => ?_)
          clear hK K
          (try simp only [Act.put, List.getElem_toArray, List.getElem_cons_succ, List.getElem_cons_zero, List.setIfInBounds_toArray, List.set_cons_zero, List.set_cons_succ])
          refine wpAnyH_ready (rs := [2]) (by kernel_rfl) (by simp) ?_
          refine AllReadyH.cons rfl (fun K hK => ?_) AllReadyH.nil
          · go_simp
            refine hK.out _ _ (HSS.out _ (by (repeat' first | exact Below.refl _ _ | exact hbw6 | apply Below.drew | apply bel_alloc | (refine freeze_below ?_ (by first | (simp; done) | omega) _)))) (fun hHeld => ?_)
            clear hK K
            (try simp only [Act.put, List.getElem_toArray, List.getElem_cons_succ, List.getElem_cons_zero, List.setIfInBounds_toArray, List.set_cons_zero, List.set_cons_succ])
            refine wpAnyH_ready (rs := [5]) (by kernel_rfl) (by simp) ?_
            refine AllReadyH.cons rfl (fun K hK => ?_) AllReadyH.nil
            · go_simp
              refine hK.out _ _ (HSS.out _ (by (repeat' first | exact Below.refl _ _ | exact hbw6 | apply Below.drew | apply bel_alloc | (refine freeze_below ?_ (by first | (simp; done) | omega) _)))) (fun hHeld => ?_)
              clear hK K
              (try simp only [Act.put, List.getElem_toArray, List.getElem_cons_succ, List.getElem_cons_zero, List.setIfInBounds_toArray, List.set_cons_zero, List.set_cons_succ])
              refine wpAnyH_ready (rs := [6]) (by kernel_rfl) (by simp) ?_
              refine AllReadyH.cons rfl (fun K hK => ?_) AllReadyH.nil
              go_simp
              refine (HOF.out _ _ _ _ (by simp) (by (repeat' first | exact Below.refl _ _ | exact hbw6 | apply Below.drew | apply bel_alloc | (refine freeze_below ?_ (by first | (simp; done) | omega) _))) (by (repeat' first | exact SlotH.lit _ (by simp) | exact SlotH.made (by simp) | assumption | apply SlotH.drew | apply SlotH.freeze | apply SlotH.alloc)) (by (repeat' first | exact SlotH.lit _ (by simp) | exact SlotH.made (by simp) | assumption | apply SlotH.drew | apply SlotH.freeze | apply SlotH.alloc))).mono ?_
              rintro e w7 ⟨rfl, hbw7⟩
              go_wp2_with fail
              refine hK.out _ _ (HSS.out _ hbw7) (fun hHeld => ?_)
              clear hK K
              (try simp only [Act.put, List.getElem_toArray, List.getElem_cons_succ, List.getElem_cons_zero, List.setIfInBounds_toArray, List.set_cons_zero, List.set_cons_succ])
              exact H _ _ _ w7 hbw7
    · go_simp
      refine hK.out _ _ (HSS.out _ (by (repeat' first | exact Below.refl _ _ | apply Below.drew | apply bel_alloc | (refine freeze_below ?_ (by first | (simp; done) | omega) _)))) (fun hHeld => ?_)
      clear hK K
      (try simp only [Act.put, List.getElem_toArray, List.getElem_cons_succ, List.getElem_cons_zero, List.setIfInBounds_toArray, List.set_cons_zero, List.set_cons_succ])
      refine wpAnyH_ready (rs := [0, 2, 3]) (by kernel_rfl) (by simp) ?_
      refine AllReadyH.cons rfl (fun K hK => ?_) (AllReadyH.cons rfl (fun K hK => ?_) (AllReadyH.cons rfl (fun K hK => ?_) AllReadyH.nil))
      · go_simp
        refine (HRN.out _ (by (repeat' first | exact Below.refl _ _ | apply Below.drew | apply bel_alloc | (refine freeze_below ?_ (by first | (simp; done) | omega) _)))).mono ?_
        rintro e w6 ⟨rfl, hB, hbw6⟩
        have hz6 := hbw6.size
        have hsl := SlotH.later (w' := w6) (v := .slice (some ⟨w5.heap.size, 0, none⟩) 4 4) (l := tagList) (by (repeat' first | exact SlotH.lit _ (by simp) | exact SlotH.made (by simp) | apply SlotH.drew | apply SlotH.freeze | apply SlotH.alloc)) hB
        have hla := LitAt.later (w' := w6) (g := w5.heap.size) (by (repeat' first | exact LitAt.new (by simp) | apply LitAt.drew | apply LitAt.alloc)) hB
        have hkc := hla.conv
        have hkm := fun o => (hla.alloc o).conv
        clear hB
        go_wp2_with fail
        refine hK.out _ _ (HSS.out _ hbw6) (fun hHeld => ?_)
        clear hK K
        (try simp only [Act.put, List.getElem_toArray, List.getElem_cons_succ, List.getElem_cons_zero, List.setIfInBounds_toArray, List.set_cons_zero, List.set_cons_succ])
        refine wpAnyH_ready (rs := [2, 3]) (by kernel_rfl) (by simp) ?_
        refine AllReadyH.cons rfl (fun K hK => ?_) (AllReadyH.cons rfl (fun K hK => ?_) AllReadyH.nil)
        · go_simp
          refine hK.out _ _ (HSS.out _ (by (repeat' first | exact Below.refl _ _ | exact hbw6 | apply Below.drew | apply bel_alloc | (refine freeze_below ?_ (by first | (simp; done) | omega) _)))) (fun hHeld => ?_)
          clear hK K
          (try simp only [Act.put, List.getElem_toArray, List.getElem_cons_succ, List.getElem_cons_zero, List.setIfInBounds_toArray, List.set_cons_zero, List.set_cons_succ])
          refine wpAnyH_ready (rs := [3]) (by kernel_rfl) (by simp) ?_
          refine AllReadyH.cons rfl (fun K hK => ?_) AllReadyH.nil
          · go_simp
            refine hK.out _ _ (HSS.out _ (by (repeat' first | exact Below.refl _ _ | exact hbw6 | apply Below.drew | apply bel_alloc | (refine freeze_below ?_ (by first | (simp; done) | omega) _)))) (fun hHeld => ?_)
            clear hK K
            (try simp only [Act.put, List.getElem_toArray, List.getElem_cons_succ, List.getElem_cons_zero, List.setIfInBounds_toArray, List.set_cons_zero, List.set_cons_succ])
            refine wpAnyH_ready (rs := [5]) (by kernel_rfl) (by simp) ?_
            refine AllReadyH.cons rfl (fun K hK => ?_) AllReadyH.nil
            · go_simp
              refine hK.out _ _ (HSS.out _ (by (repeat' first | exact Below.refl _ _ | exact hbw6 | apply Below.drew | apply bel_alloc | (refine freeze_below ?_ (by first | (simp; done) | omega) _)))) (fun hHeld => ?_)
              clear hK K
              (try simp only [Act.put, List.getElem_toArray, List.getElem_cons_succ, List.getElem_cons_zero, List.setIfInBounds_toArray, List.set_cons_zero, List.set_cons_succ])
              refine wpAnyH_ready (rs := [6]) (by kernel_rfl) (by simp) ?_
              refine AllReadyH.cons rfl (fun K hK => ?_) AllReadyH.nil
              go_simp
              refine (HOF.out _ _ _ _ (by simp [freeze_size]) (by (repeat' first | exact Below.refl _ _ | exact hbw6 | apply Below.drew | apply bel_alloc | (refine freeze_below ?_ (by first | (simp; done) | omega) _))) (by (repeat' first | exact SlotH.lit _ (by simp) | exact SlotH.made (by simp) | assumption | apply SlotH.drew | apply SlotH.freeze | apply SlotH.alloc)) (by (repeat' first | exact SlotH.lit _ (by simp) | exact SlotH.made (by simp) | assumption | apply SlotH.drew | apply SlotH.freeze | apply SlotH.alloc))).mono ?_
              rintro e w7 ⟨rfl, hbw7⟩
              go_wp2_with fail
              refine hK.out _ _ (HSS.out _ hbw7) (fun hHeld => ?_)
              clear hK K
              (try simp only [Act.put, List.getElem_toArray, List.getElem_cons_succ, List.getElem_cons_zero, List.setIfInBounds_toArray, List.set_cons_zero, List.set_cons_succ])
              exact H _ _ _ w7 hbw7
        · go_simp
          refine hK.out _ _ (HSS.out _ (by (repeat' first | exact Below.refl _ _ | exact hbw6 | apply Below.drew | apply bel_alloc | (refine freeze_below ?_ (by first | (simp; done) | omega) _)))) (fun hHeld => ?_)
          clear hK K
          (try simp only [Act.put, List.getElem_toArray, List.getElem_cons_succ, List.getElem_cons_zero, List.setIfInBounds_toArray, List.set_cons_zero, List.set_cons_succ])
          refine wpAnyH_ready (rs := [2]) (by kernel_rfl) (by simp) ?_
          refine AllReadyH.cons rfl (fun K hK => ?_) AllReadyH.nil
          · go_simp
            refine hK.out _ _ (HSS.out _ (by (repeat' first | exact Below.refl _ _ | exact hbw6 | apply Below.drew | apply bel_alloc | (refine freeze_below ?_ (by first | (simp; done) | omega) _)))) (fun hHeld => ?_)
            clear hK K
            (try simp only [Act.put, List.getElem_toArray, List.getElem_cons_succ, List.getElem_cons_zero, List.setIfInBounds_toArray, List.set_cons_zero, List.set_cons_succ])
            refine wpAnyH_ready (rs := [5]) (by kernel_rfl) (by simp) ?_
            refine AllReadyH.cons rfl (fun K hK => ?_) AllReadyH.nil
            · go_simp
              refine hK.out _ _ (HSS.out _ (by (repeat' first | exact Below.refl _ _ | exact hbw6 | apply Below.drew | apply bel_alloc | (refine freeze_below ?_ (by first | (simp; done) | omega) _)))) (fun hHeld => ?_)
              clear hK K
              (try simp only [Act.put, List.getElem_toArray, List.getElem_cons_succ, List.getElem_cons_zero, List.setIfInBounds_toArray, List.set_cons_zero, List.set_cons_succ])
              refine wpAnyH_ready (rs := [6]) (by kernel_rfl) (by simp) ?_
              refine AllReadyH.cons rfl (fun K hK => ?_) AllReadyH.nil
              go_simp
              refine (HOF.out _ _ _ _ (by simp [freeze_size]) (by (repeat' first | exact Below.refl _ _ | exact hbw6 | apply Below.drew | apply bel_alloc | (refine freeze_below ?_ (by first | (simp; done) | omega) _))) (by (repeat' first | exact SlotH.lit _ (by simp) | exact SlotH.made (by simp) | assumption | apply SlotH.drew | apply SlotH.freeze | apply SlotH.alloc)) (by (repeat' first | exact SlotH.lit _ (by simp) | exact SlotH.made (by simp) | assumption | apply SlotH.drew | apply SlotH.freeze | apply SlotH.alloc))).mono ?_
              rintro e w7 ⟨rfl, hbw7⟩
              go_wp2_with fail
              refine hK.out _ _ (HSS.out _ hbw7) (fun hHeld => ?_)
              clear hK K
              (try simp only [Act.put, List.getElem_toArray, List.getElem_cons_succ, List.getElem_cons_zero, List.setIfInBounds_toArray, List.set_cons_zero, List.set_cons_succ])
              exact H _ _ _ w7 hbw7
      · go_simp
        refine hK.out _ _ (HSS.out _ (by (repeat' first | exact Below.refl _ _ | apply Below.drew | apply bel_alloc | (refine freeze_below ?_ (by first | (simp; done) | omega) _)))) (fun hHeld => ?_)
        clear hK K
        (try simp only [Act.put, List.getElem_toArray, List.getElem_cons_succ, List.getElem_cons_zero, List.setIfInBounds_toArray, List.set_cons_zero, List.set_cons_succ])
        refine wpAnyH_ready (rs := [0, 3]) (by kernel_rfl) (by simp) ?_
        refine AllReadyH.cons rfl (fun K hK => ?_) (AllReadyH.cons rfl (fun K hK => ?_) AllReadyH.nil)
        · go_simp
          refine (HRN.out _ (by (repeat' first | exact Below.refl _ _ | apply Below.drew | apply bel_alloc | (refine freeze_below ?_ (by first | (simp; done) | omega) _)))).mono ?_
          rintro e w6 ⟨rfl, hB, hbw6⟩
          have hz6 := hbw6.size
          have hsl := SlotH.later (w' := w6) (v := .slice (some ⟨w5.heap.size, 0, none⟩) 4 4) (l := tagList) (by (repeat' first | exact SlotH.lit _ (by simp) | exact SlotH.made (by simp) | apply SlotH.drew | apply SlotH.freeze | apply SlotH.alloc)) hB
          clear hB
          go_wp2_with fail
          refine hK.out _ _ (HSS.out _ hbw6) (fun hHeld => ?_)
          clear hK K
          (try simp only [Act.put, List.getElem_toArray, List.getElem_cons_succ, List.getElem_cons_zero, List.setIfInBounds_toArray, List.set_cons_zero, List.set_cons_succ])
          refine wpAnyH_ready (rs := [3]) (by kernel_rfl) (by simp) ?_
          refine AllReadyH.cons rfl (fun K hK => ?_) AllReadyH.nil
          · go_simp
            refine hK.out _ _ (HSS.out _ (by (repeat' first | exact Below.refl _ _ | exact hbw6 | apply Below.drew | apply bel_alloc | (refine freeze_below ?_ (by first | (simp; done) | omega) _)))) (fun hHeld => ?_)
            clear hK K
            (try simp only [Act.put, List.getElem_toArray, List.getElem_cons_succ, List.getElem_cons_zero, List.setIfInBounds_toArray, List.set_cons_zero, List.set_cons_succ])
            refine wpAnyH_ready (rs := [5]) (by kernel_rfl) (by simp) ?_
            refine AllReadyH.cons rfl (fun K hK => ?_) AllReadyH.nil
            · go_simp
              refine hK.out _ _ (HSS.out _ (by (repeat' first | exact Below.refl _ _ | exact hbw6 | apply Below.drew | apply bel_alloc | (refine freeze_below ?_ (by first | (simp; done) | omega) _)))) (fun hHeld => ?_)
              clear hK K
              (try simp only [Act.put, List.getElem_toArray, List.getElem_cons_succ, List.getElem_cons_zero, List.setIfInBounds_toArray, List.set_cons_zero, List.set_cons_succ])
              refine wpAnyH_ready (rs := [6]) (by kernel_rfl) (by simp) ?_
              refine AllReadyH.cons rfl (fun K hK => ?_) AllReadyH.nil
              go_simp
              refine (HOF.out _ _ _ _ (by simp) (by (repeat' first | exact Below.refl _ _ | exact hbw6 | apply Below.drew | apply bel_alloc | (refine freeze_below ?_ (by first | (simp; done) | omega) _))) (by (repeat' first | exact SlotH.lit _ (by simp) | exact SlotH.made (by simp) | assumption | apply SlotH.drew | apply SlotH.freeze | apply SlotH.alloc)) (by (repeat' first | exact SlotH.lit _ (by simp) | exact SlotH.made (by simp) | assumption | apply SlotH.drew | apply SlotH.freeze | apply SlotH.alloc))).mono ?_
              rintro e w7 ⟨rfl, hbw7⟩
              go_wp2_with fail
              refine hK.out _ _ (HSS.out _ hbw7) (fun hHeld => ?_)
              clear hK K
              (try simp only [Act.put, List.getElem_toArray, List.getElem_cons_succ, List.getElem_cons_zero, List.setIfInBounds_toArray, List.set_cons_zero, List.set_cons_succ])
              exact H _ _ _ w7 hbw7
        · go_simp
          refine hK.out _ _ (HSS.out _ (by (repeat' first | exact Below.refl _ _ | apply Below.drew | apply bel_alloc | (refine freeze_below ?_ (by first | (simp; done) | omega) _)))) (fun hHeld => ?_)
          clear hK K
          (try simp only [Act.put, List.getElem_toArray, List.getElem_cons_succ, List.getElem_cons_zero, List.setIfInBounds_toArray, List.set_cons_zero, List.set_cons_succ])
          refine wpAnyH_ready (rs := [0, 5]) (by kernel_rfl) (by simp) ?_
          refine AllReadyH.cons rfl (fun K hK => ?_) (AllReadyH.cons rfl (fun K hK => ?_) AllReadyH.nil)
          · go_simp
            refine (HRN.out _ (by (repeat' first | exact Below.refl _ _ | apply Below.drew | apply bel_alloc | (refine freeze_below ?_ (by first | (simp; done) | omega) _)))).mono ?_
            rintro e w6 ⟨rfl, hB, hbw6⟩
            have hz6 := hbw6.size
            have hsl := SlotH.later (w' := w6) (v := .slice (some ⟨w5.heap.size, 0, none⟩) 4 4) (l := tagList) (by (repeat' first | exact SlotH.lit _ (by simp) | exact SlotH.made (by simp) | apply SlotH.drew | apply SlotH.freeze | apply SlotH.alloc)) hB
            have hsm := SlotH.later (w' := w6) (v := .slice (some ⟨w5.heap.size + 1, 0, none⟩) 8 8) (l := zeros8) (by (repeat' first | exact SlotH.lit _ (by simp) | exact SlotH.made (by simp) | apply SlotH.drew | apply SlotH.freeze | apply SlotH.alloc)) hB
            clear hB
            go_wp2_with fail
            refine hK.out _ _ (HSS.out _ hbw6) (fun hHeld => ?_)
            clear hK K
            (try simp only [Act.put, List.getElem_toArray, List.getElem_cons_succ, List.getElem_cons_zero, List.setIfInBounds_toArray, List.set_cons_zero, List.set_cons_succ])
            refine wpAnyH_ready (rs := [5]) (by kernel_rfl) (by simp) ?_
            refine AllReadyH.cons rfl (fun K hK => ?_) AllReadyH.nil
            · go_simp
              refine hK.out _ _ (HSS.out _ (by (repeat' first | exact Below.refl _ _ | exact hbw6 | apply Below.drew | apply bel_alloc | (refine freeze_below ?_ (by first | (simp; done) | omega) _)))) (fun hHeld => ?_)
              clear hK K
              (try simp only [Act.put, List.getElem_toArray, List.getElem_cons_succ, List.getElem_cons_zero, List.setIfInBounds_toArray, List.set_cons_zero, List.set_cons_succ])
              refine wpAnyH_ready (rs := [6]) (by kernel_rfl) (by simp) ?_
              refine AllReadyH.cons rfl (fun K hK => ?_) AllReadyH.nil
              go_simp
              refine (HOF.out _ _ _ _ (by simp) (by (repeat' first | exact Below.refl _ _ | exact hbw6 | apply Below.drew | apply bel_alloc | (refine freeze_below ?_ (by first | (simp; done) | omega) _))) (by (repeat' first | exact SlotH.lit _ (by simp) | exact SlotH.made (by simp) | assumption | apply SlotH.drew | apply SlotH.freeze | apply SlotH.alloc)) (by (repeat' first | exact SlotH.lit _ (by simp) | exact SlotH.made (by simp) | assumption | apply SlotH.drew | apply SlotH.freeze | apply SlotH.alloc))).mono ?_
              rintro e w7 ⟨rfl, hbw7⟩
              go_wp2_with fail
              refine hK.out _ _ (HSS.out _ hbw7) (fun hHeld => ?_)
              clear hK K
              (try simp only [Act.put, List.getElem_toArray, List.getElem_cons_succ, List.getElem_cons_zero, List.setIfInBounds_toArray, List.set_cons_zero, List.set_cons_succ])
              exact H _ _ _ w7 hbw7
          · go_simp
            refine hK.out _ _ (HSS.out _ (by (repeat' first | exact Below.refl _ _ | apply Below.drew | apply bel_alloc | (refine freeze_below ?_ (by first | (simp; done) | omega) _)))) (fun hHeld => ?_)
            clear hK K
            (try simp only [Act.put, List.getElem_toArray, List.getElem_cons_succ, List.getElem_cons_zero, List.setIfInBounds_toArray, List.set_cons_zero, List.set_cons_succ])
            refine wpAnyH_ready (rs := [0]) (by kernel_rfl) (by simp) ?_
            refine AllReadyH.cons rfl (fun K hK => ?_) AllReadyH.nil
            · go_simp
              refine (HRN.out _ (by (repeat' first | exact Below.refl _ _ | apply Below.drew | apply bel_alloc | (refine freeze_below ?_ (by first | (simp; done) | omega) _)))).mono ?_
              rintro e w6 ⟨rfl, hB, hbw6⟩
              have hz6 := hbw6.size
              have hsl := SlotH.later (w' := w6) (v := .slice (some ⟨w5.heap.size, 0, none⟩) 4 4) (l := tagList) (by (repeat' first | exact SlotH.lit _ (by simp) | exact SlotH.made (by simp) | apply SlotH.drew | apply SlotH.freeze | apply SlotH.alloc)) hB
              have hsm := SlotH.later (w' := w6) (v := .slice (some ⟨w5.heap.size + 1, 0, none⟩) 8 8) (l := zeros8) (by (repeat' first | exact SlotH.lit _ (by simp) | exact SlotH.made (by simp) | apply SlotH.drew | apply SlotH.freeze | apply SlotH.alloc)) hB
              have hrow := RowHB.later (w' := w6) (g := w5.heap.size + 1 + 1) (v0 := .slice (some ⟨w5.heap.size, 0, none⟩) 4 4) (v1 := .slice (some ⟨w5.heap.size + 1, 0, none⟩) 8 8) (v2 := .slice (some ⟨gn, 0, none⟩) 32 32) (by first | exact RowHB.new (by simp) | exact RowHB.drew (RowHB.new (by simp [freeze_size]))) hB
              clear hB
              go_wp2_with fail
              refine hK.out _ _ (HSS.out _ hbw6) (fun hHeld => ?_)
              clear hK K
              (try simp only [Act.put, List.getElem_toArray, List.getElem_cons_succ, List.getElem_cons_zero, List.setIfInBounds_toArray, List.set_cons_zero, List.set_cons_succ])
              refine wpAnyH_ready (rs := [6]) (by kernel_rfl) (by simp) ?_
              refine AllReadyH.cons rfl (fun K hK => ?_) AllReadyH.nil
              go_simp
              refine (HOF2.out _ _ _ _ hbw6 (by first | exact hrow | (simpa [freeze_size] using hrow)) hsl hsm).mono ?_
              rintro e w7 ⟨rfl, hbw7⟩
              go_wp2_with fail
              refine hK.out _ _ (HSS.out _ hbw7) (fun hHeld => ?_)
              clear hK K
              (try simp only [Act.put, List.getElem_toArray, List.getElem_cons_succ, List.getElem_cons_zero, List.setIfInBounds_toArray, List.set_cons_zero, List.set_cons_succ])
              exact H _ _ _ w7 hbw7
      · go_simp
        refine hK.out _ _ (HSS.out _ (by (repeat' first | exact Below.refl _ _ | apply Below.drew | apply bel_alloc | (refine freeze_below ?_ (by first | (simp; done) | omega) _)))) (fun hHeld => ?_)
        clear hK K
        (try simp only [Act.put, List.getElem_toArray, List.getElem_cons_succ, List.getElem_cons_zero, List.setIfInBounds_toArray, List.set_cons_zero, List.set_cons_succ])
        refine wpAnyH_ready (rs := [0, 2]) (by kernel_rfl) (by simp) ?_
        refine AllReadyH.cons rfl (fun K hK => ?_) (AllReadyH.cons rfl (fun K hK => ?_) AllReadyH.nil)
        · go_simp
          refine (HRN.out _ (by (repeat' first | exact Below.refl _ _ | apply Below.drew | apply bel_alloc | (refine freeze_below ?_ (by first | (simp; done) | omega) _)))).mono ?_
          rintro e w6 ⟨rfl, hB, hbw6⟩
          have hz6 := hbw6.size
          have hsl := SlotH.later (w' := w6) (v := .slice (some ⟨w5.heap.size, 0, none⟩) 4 4) (l := tagList) (by (repeat' first | exact SlotH.lit _ (by simp) | exact SlotH.made (by simp) | apply SlotH.drew | apply SlotH.freeze | apply SlotH.alloc)) hB
          have hsm := SlotH.later (w' := w6) (v := .slice (some ⟨w5.heap.size + 1, 0, none⟩) 8 8) (l := zeros8) (by (repeat' first | exact SlotH.lit _ (by simp) | exact SlotH.made (by simp) | apply SlotH.drew | apply SlotH.freeze | apply SlotH.alloc)) hB
          have hla := LitAt.later (w' := w6) (g := w5.heap.size) (by (repeat' first | exact LitAt.new (by simp) | apply LitAt.drew | apply LitAt.alloc)) hB
          have hkc := hla.conv
          have hkm := fun o => (hla.alloc o).conv
          clear hB
          go_wp2_with fail
          refine hK.out _ _ (HSS.out _ hbw6) (fun hHeld => ?_)
          clear hK K
          (try simp only [Act.put, List.getElem_toArray, List.getElem_cons_succ, List.getElem_cons_zero, List.setIfInBounds_toArray, List.set_cons_zero, List.set_cons_succ])
          refine wpAnyH_ready (rs := [2]) (by kernel_rfl) (by simp) ?_
          refine AllReadyH.cons rfl (fun K hK => ?_) AllReadyH.nil
          · go_simp
            refine hK.out _ _ (HSS.out _ (by (repeat' first | exact Below.refl _ _ | exact hbw6 | apply Below.drew | apply bel_alloc | (refine freeze_below ?_ (by first | (simp; done) | omega) _)))) (fun hHeld => ?_)
            clear hK K
            (try simp only [Act.put, List.getElem_toArray, List.getElem_cons_succ, List.getElem_cons_zero, List.setIfInBounds_toArray, List.set_cons_zero, List.set_cons_succ])
            refine wpAnyH_ready (rs := [5]) (by kernel_rfl) (by simp) ?_
            refine AllReadyH.cons rfl (fun K hK => ?_) AllReadyH.nil
            · go_simp
              refine hK.out _ _ (HSS.out _ (by (repeat' first | exact Below.refl _ _ | exact hbw6 | apply Below.drew | apply bel_alloc | (refine freeze_below ?_ (by first | (simp; done) | omega) _)))) (fun hHeld => ?_)
              clear hK K
              (try simp only [Act.put, List.getElem_toArray, List.getElem_cons_succ, List.getElem_cons_zero, List.setIfInBounds_toArray, List.set_cons_zero, List.set_cons_succ])
              refine wpAnyH_ready (rs := [6]) (by kernel_rfl) (by simp) ?_
              refine AllReadyH.cons rfl (fun K hK => ?_) AllReadyH.nil
              go_simp
              refine (HOF.out _ _ _ _ (by simp [freeze_size]) (by (repeat' first | exact Below.refl _ _ | exact hbw6 | apply Below.drew | apply bel_alloc | (refine freeze_below ?_ (by first | (simp; done) | omega) _))) (by (repeat' first | exact SlotH.lit _ (by simp) | exact SlotH.made (by simp) | assumption | apply SlotH.drew | apply SlotH.freeze | apply SlotH.alloc)) (by (repeat' first | exact SlotH.lit _ (by simp) | exact SlotH.made (by simp) | assumption | apply SlotH.drew | apply SlotH.freeze | apply SlotH.alloc))).mono ?_
              rintro e w7 ⟨rfl, hbw7⟩
              go_wp2_with fail
              refine hK.out _ _ (HSS.out _ hbw7) (fun hHeld => ?_)
              clear hK K
              (try simp only [Act.put, List.getElem_toArray, List.getElem_cons_succ, List.getElem_cons_zero, List.setIfInBounds_toArray, List.set_cons_zero, List.set_cons_succ])
              exact H _ _ _ w7 hbw7
        · go_simp
          refine hK.out _ _ (HSS.out _ (by (repeat' first | exact Below.refl _ _ | apply Below.drew | apply bel_alloc | (refine freeze_below ?_ (by first | (simp; done) | omega) _)))) (fun hHeld => ?_)
          clear hK K
          (try simp only [Act.put, List.getElem_toArray, List.getElem_cons_succ, List.getElem_cons_zero, List.setIfInBounds_toArray, List.set_cons_zero, List.set_cons_succ])
          refine wpAnyH_ready (rs := [0, 5]) (by kernel_rfl) (by simp) ?_
          refine AllReadyH.cons rfl (fun K hK => ?_) (AllReadyH.cons rfl (fun K hK => ?_) AllReadyH.nil)
          · go_simp
            refine (HRN.out _ (by (repeat' first | exact Below.refl _ _ | apply Below.drew | apply bel_alloc | (refine freeze_below ?_ (by first | (simp; done) | omega) _)))).mono ?_
            rintro e w6 ⟨rfl, hB, hbw6⟩
            have hz6 := hbw6.size
            have hsl := SlotH.later (w' := w6) (v := .slice (some ⟨w5.heap.size, 0, none⟩) 4 4) (l := tagList) (by (repeat' first | exact SlotH.lit _ (by simp) | exact SlotH.made (by simp) | apply SlotH.drew | apply SlotH.freeze | apply SlotH.alloc)) hB
            have hsm := SlotH.later (w' := w6) (v := .slice (some ⟨w5.heap.size + 1, 0, none⟩) 8 8) (l := zeros8) (by (repeat' first | exact SlotH.lit _ (by simp) | exact SlotH.made (by simp) | apply SlotH.drew | apply SlotH.freeze | apply SlotH.alloc)) hB
            clear hB
            go_wp2_with fail
            refine hK.out _ _ (HSS.out _ hbw6) (fun hHeld => ?_)
            clear hK K
            (try simp only [Act.put, List.getElem_toArray, List.getElem_cons_succ, List.getElem_cons_zero, List.setIfInBounds_toArray, List.set_cons_zero, List.set_cons_succ])
            refine wpAnyH_ready (rs := [5]) (by kernel_rfl) (by simp) ?_
            refine AllReadyH.cons rfl (fun K hK => ?_) AllReadyH.nil
            · go_simp
              refine hK.out _ _ (HSS.out _ (by (repeat' first | exact Below.refl _ _ | exact hbw6 | apply Below.drew | apply bel_alloc | (refine freeze_below ?_ (by first | (simp; done) | omega) _)))) (fun hHeld => ?_)
              clear hK K
              (try simp only [Act.put, List.getElem_toArray, List.getElem_cons_succ, List.getElem_cons_zero, List.setIfInBounds_toArray, List.set_cons_zero, List.set_cons_succ])
              refine wpAnyH_ready (rs := [6]) (by kernel_rfl) (by simp) ?_
              refine AllReadyH.cons rfl (fun K hK => ?_) AllReadyH.nil
              go_simp
              refine (HOF.out _ _ _ _ (by simp) (by (repeat' first | exact Below.refl _ _ | exact hbw6 | apply Below.drew | apply bel_alloc | (refine freeze_below ?_ (by first | (simp; done) | omega) _))) (by (repeat' first | exact SlotH.lit _ (by simp) | exact SlotH.made (by simp) | assumption | apply SlotH.drew | apply SlotH.freeze | apply SlotH.alloc)) (by (repeat' first | exact SlotH.lit _ (by simp) | exact SlotH.made (by simp) | assumption | apply SlotH.drew | apply SlotH.freeze | apply SlotH.alloc))).mono ?_
              rintro e w7 ⟨rfl, hbw7⟩
              go_wp2_with fail
              refine hK.out _ _ (HSS.out _ hbw7) (fun hHeld => ?_)
              clear hK K
              (try simp only [Act.put, List.getElem_toArray, List.getElem_cons_succ, List.getElem_cons_zero, List.setIfInBounds_toArray, List.set_cons_zero, List.set_cons_succ])
              exact H _ _ _ w7 hbw7
          · go_simp
            refine hK.out _ _ (HSS.out _ (by (repeat' first | exact Below.refl _ _ | apply Below.drew | apply bel_alloc | (refine freeze_below ?_ (by first | (simp; done) | omega) _)))) (fun hHeld => ?_)
            clear hK K
            (try simp only [Act.put, List.getElem_toArray, List.getElem_cons_succ, List.getElem_cons_zero, List.setIfInBounds_toArray, List.set_cons_zero, List.set_cons_succ])
            refine wpAnyH_ready (rs := [0]) (by kernel_rfl) (by simp) ?_
            refine AllReadyH.cons rfl (fun K hK => ?_) AllReadyH.nil
            · go_simp
              refine (HRN.out _ (by (repeat' first | exact Below.refl _ _ | apply Below.drew | apply bel_alloc | (refine freeze_below ?_ (by first | (simp; done) | omega) _)))).mono ?_
              rintro e w6 ⟨rfl, hB, hbw6⟩
              have hz6 := hbw6.size
              have hsl := SlotH.later (w' := w6) (v := .slice (some ⟨w5.heap.size, 0, none⟩) 4 4) (l := tagList) (by (repeat' first | exact SlotH.lit _ (by simp) | exact SlotH.made (by simp) | apply SlotH.drew | apply SlotH.freeze | apply SlotH.alloc)) hB
              have hsm := SlotH.later (w' := w6) (v := .slice (some ⟨w5.heap.size + 1, 0, none⟩) 8 8) (l := zeros8) (by (repeat' first | exact SlotH.lit _ (by simp) | exact SlotH.made (by simp) | apply SlotH.drew | apply SlotH.freeze | apply SlotH.alloc)) hB
              have hrow := RowHB.later (w' := w6) (g := w5.heap.size + 1 + 1) (v0 := .slice (some ⟨w5.heap.size, 0, none⟩) 4 4) (v1 := .slice (some ⟨w5.heap.size + 1, 0, none⟩) 8 8) (v2 := .slice (some ⟨gn, 0, none⟩) 32 32) (by first | exact RowHB.new (by simp [freeze_size]) | exact RowHB.drew (RowHB.new (by simp [freeze_size]))) hB
              clear hB
              go_wp2_with fail
              refine hK.out _ _ (HSS.out _ hbw6) (fun hHeld => ?_)
              clear hK K
              (try simp only [Act.put, List.getElem_toArray, List.getElem_cons_succ, List.getElem_cons_zero, List.setIfInBounds_toArray, List.set_cons_zero, List.set_cons_succ])
              refine wpAnyH_ready (rs := [6]) (by kernel_rfl) (by simp) ?_
              refine AllReadyH.cons rfl (fun K hK => ?_) AllReadyH.nil
              go_simp
              refine (HOF2.out _ _ _ _ hbw6 (by first | exact hrow | (simpa [freeze_size] using hrow)) hsl hsm).mono ?_
              rintro e w7 ⟨rfl, hbw7⟩
              go_wp2_with fail
              refine hK.out _ _ (HSS.out _ hbw7) (fun hHeld => ?_)
              clear hK K
              (try simp only [Act.put, List.getElem_toArray, List.getElem_cons_succ, List.getElem_cons_zero, List.setIfInBounds_toArray, List.set_cons_zero, List.set_cons_succ])
              exact H _ _ _ w7 hbw7
    · go_simp
      refine hK.out _ _ (HSS.out _ (by (repeat' first | exact Below.refl _ _ | apply Below.drew | apply bel_alloc | (refine freeze_below ?_ (by first | (simp; done) | omega) _)))) (fun hHeld => ?_)
      clear hK K
      (try simp only [Act.put, List.getElem_toArray, List.getElem_cons_succ, List.getElem_cons_zero, List.setIfInBounds_toArray, List.set_cons_zero, List.set_cons_succ])
      refine wpAnyH_ready (rs := [0, 1]) (by kernel_rfl) (by simp) ?_
      refine AllReadyH.cons rfl (fun K hK => ?_) (AllReadyH.cons rfl (fun K hK => ?_) AllReadyH.nil)
      · go_simp
        refine (HRN.out _ (by (repeat' first | exact Below.refl _ _ | apply Below.drew | apply bel_alloc | (refine freeze_below ?_ (by first | (simp; done) | omega) _)))).mono ?_
        rintro e w6 ⟨rfl, hB, hbw6⟩
        have hz6 := hbw6.size
        have hsm := SlotH.later (w' := w6) (v := .slice (some ⟨w5.heap.size, 0, none⟩) 8 8) (l := zeros8) (by (repeat' first | exact SlotH.lit _ (by simp) | exact SlotH.made (by simp) | apply SlotH.drew | apply SlotH.freeze | apply SlotH.alloc)) hB
        clear hB
        go_wp2_with fail
        refine hK.out _ _ (HSS.out _ hbw6) (fun hHeld => ?_)
        clear hK K
        (try simp only [Act.put, List.getElem_toArray, List.getElem_cons_succ, List.getElem_cons_zero, List.setIfInBounds_toArray, List.set_cons_zero, List.set_cons_succ])
        refine wpAnyH_ready (rs := [1]) (by kernel_rfl) (by simp) ?_
        refine AllReadyH.cons rfl (fun K hK => ?_) AllReadyH.nil
        · go_simp
          refine hK.out _ _ (HSS.out _ (by (repeat' first | exact Below.refl _ _ | exact hbw6 | apply Below.drew | apply bel_alloc | (refine freeze_below ?_ (by first | (simp; done) | omega) _)))) (fun hHeld => ?_)
          clear hK K
          (try simp only [Act.put, List.getElem_toArray, List.getElem_cons_succ, List.getElem_cons_zero, List.setIfInBounds_toArray, List.set_cons_zero, List.set_cons_succ])
          refine wpAnyH_ready (rs := [2]) (by kernel_rfl) (by simp) ?_
          refine AllReadyH.cons rfl (fun K hK => ?_) AllReadyH.nil
          · go_simp
            refine hK.out _ _ (HSS.out _ (by (repeat' first | exact Below.refl _ _ | exact hbw6 | apply Below.drew | apply bel_alloc | (refine freeze_below ?_ (by first | (simp; done) | omega) _)))) (fun hHeld => ?_)
            clear hK K
            (try simp only [Act.put, List.getElem_toArray, List.getElem_cons_succ, List.getElem_cons_zero, List.setIfInBounds_toArray, List.set_cons_zero, List.set_cons_succ])
            refine wpAnyH_ready (rs := [5]) (by kernel_rfl) (by simp) ?_
            refine AllReadyH.cons rfl (fun K hK => ?_) AllReadyH.nil
            · go_simp
              refine hK.out _ _ (HSS.out _ (by (repeat' first | exact Below.refl _ _ | exact hbw6 | apply Below.drew | apply bel_alloc | (refine freeze_below ?_ (by first | (simp; done) | omega) _)))) (fun hHeld => ?_)
              clear hK K
              (try simp only [Act.put, List.getElem_toArray, List.getElem_cons_succ, List.getElem_cons_zero, List.setIfInBounds_toArray, List.set_cons_zero, List.set_cons_succ])
              refine wpAnyH_ready (rs := [6]) (by kernel_rfl) (by simp) ?_
              refine AllReadyH.cons rfl (fun K hK => ?_) AllReadyH.nil
              go_simp
              refine (HOF.out _ _ _ _ (by simp) (by (repeat' first | exact Below.refl _ _ | exact hbw6 | apply Below.drew | apply bel_alloc | (refine freeze_below ?_ (by first | (simp; done) | omega) _))) (by (repeat' first | exact SlotH.lit _ (by simp) | exact SlotH.made (by simp) | assumption | apply SlotH.drew | apply SlotH.freeze | apply SlotH.alloc)) (by (repeat' first | exact SlotH.lit _ (by simp) | exact SlotH.made (by simp) | assumption | apply SlotH.drew | apply SlotH.freeze | apply SlotH.alloc))).mono ?_
              rintro e w7 ⟨rfl, hbw7⟩
              go_wp2_with fail
              refine hK.out _ _ (HSS.out _ hbw7) (fun hHeld => ?_)
              clear hK K
              (try simp only [Act.put, List.getElem_toArray, List.getElem_cons_succ, List.getElem_cons_zero, List.setIfInBounds_toArray, List.set_cons_zero, List.set_cons_succ])
              exact H _ _ _ w7 hbw7
      · go_simp
        refine hK.out _ _ (HSS.out _ (by (repeat' first | exact Below.refl _ _ | apply Below.drew | apply bel_alloc | (refine freeze_below ?_ (by first | (simp; done) | omega) _)))) (fun hHeld => ?_)
        clear hK K
        (try simp only [Act.put, List.getElem_toArray, List.getElem_cons_succ, List.getElem_cons_zero, List.setIfInBounds_toArray, List.set_cons_zero, List.set_cons_succ])
        refine wpAnyH_ready (rs := [0, 2]) (by kernel_rfl) (by simp) ?_
        refine AllReadyH.cons rfl (fun K hK => ?_) (AllReadyH.cons rfl (fun K hK => ?_) AllReadyH.nil)
        · go_simp
          refine (HRN.out _ (by (repeat' first | exact Below.refl _ _ | apply Below.drew | apply bel_alloc | (refine freeze_below ?_ (by first | (simp; done) | omega) _)))).mono ?_
          rintro e w6 ⟨rfl, hB, hbw6⟩
          have hz6 := hbw6.size
          have hsl := SlotH.later (w' := w6) (v := .slice (some ⟨w5.heap.size + 1, 0, none⟩) 4 4) (l := tagList) (by (repeat' first | exact SlotH.lit _ (by simp) | exact SlotH.made (by simp) | apply SlotH.drew | apply SlotH.freeze | apply SlotH.alloc)) hB
          have hsm := SlotH.later (w' := w6) (v := .slice (some ⟨w5.heap.size, 0, none⟩) 8 8) (l := zeros8) (by (repeat' first | exact SlotH.lit _ (by simp) | exact SlotH.made (by simp) | apply SlotH.drew | apply SlotH.freeze | apply SlotH.alloc)) hB
          have hla := LitAt.later (w' := w6) (g := w5.heap.size + 1) (by (repeat' first | exact LitAt.new (by simp) | apply LitAt.drew | apply LitAt.alloc)) hB
          have hkc := hla.conv
          have hkm := fun o => (hla.alloc o).conv
          clear hB
          go_wp2_with fail
          refine hK.out _ _ (HSS.out _ hbw6) (fun hHeld => ?_)
          clear hK K
          (try simp only [Act.put, List.getElem_toArray, List.getElem_cons_succ, List.getElem_cons_zero, List.setIfInBounds_toArray, List.set_cons_zero, List.set_cons_succ])
          refine wpAnyH_ready (rs := [2]) (by kernel_rfl) (by simp) ?_
          refine AllReadyH.cons rfl (fun K hK => ?_) AllReadyH.nil
          · go_simp
            refine hK.out _ _ (HSS.out _ (by (repeat' first | exact Below.refl _ _ | exact hbw6 | apply Below.drew | apply bel_alloc | (refine freeze_below ?_ (by first | (simp; done) | omega) _)))) (fun hHeld => ?_)
            clear hK K
            (try simp only [Act.put, List.getElem_toArray, List.getElem_cons_succ, List.getElem_cons_zero, List.setIfInBounds_toArray, List.set_cons_zero, List.set_cons_succ])
            refine wpAnyH_ready (rs := [5]) (by kernel_rfl) (by simp) ?_
            refine AllReadyH.cons rfl (fun K hK => ?_) AllReadyH.nil
            · go_simp
              refine hK.out _ _ (HSS.out _ (by (repeat' first | exact Below.refl _ _ | exact hbw6 | apply Below.drew | apply bel_alloc | (refine freeze_below ?_ (by first | (simp; done) | omega) _)))) (fun hHeld => ?_)
              clear hK K
              (try simp only [Act.put, List.getElem_toArray, List.getElem_cons_succ, List.getElem_cons_zero, List.setIfInBounds_toArray, List.set_cons_zero, List.set_cons_succ])
              refine wpAnyH_ready (rs := [6]) (by kernel_rfl) (by simp) ?_
              refine AllReadyH.cons rfl (fun K hK => ?_) AllReadyH.nil
              go_simp
              refine (HOF.out _ _ _ _ (by simp [freeze_size]) (by (repeat' first | exact Below.refl _ _ | exact hbw6 | apply Below.drew | apply bel_alloc | (refine freeze_below ?_ (by first | (simp; done) | omega) _))) (by (repeat' first | exact SlotH.lit _ (by simp) | exact SlotH.made (by simp) | assumption | apply SlotH.drew | apply SlotH.freeze | apply SlotH.alloc)) (by (repeat' first | exact SlotH.lit _ (by simp) | exact SlotH.made (by simp) | assumption | apply SlotH.drew | apply SlotH.freeze | apply SlotH.alloc))).mono ?_
              rintro e w7 ⟨rfl, hbw7⟩
              go_wp2_with fail
              refine hK.out _ _ (HSS.out _ hbw7) (fun hHeld => ?_)
              clear hK K
              (try simp only [Act.put, List.getElem_toArray, List.getElem_cons_succ, List.getElem_cons_zero, List.setIfInBounds_toArray, List.set_cons_zero, List.set_cons_succ])
              exact H _ _ _ w7 hbw7
        · go_simp
          refine hK.out _ _ (HSS.out _ (by (repeat' first | exact Below.refl _ _ | apply Below.drew | apply bel_alloc | (refine freeze_below ?_ (by first | (simp; done) | omega) _)))) (fun hHeld => ?_)
          clear hK K
          (try simp only [Act.put, List.getElem_toArray, List.getElem_cons_succ, List.getElem_cons_zero, List.setIfInBounds_toArray, List.set_cons_zero, List.set_cons_succ])
          refine wpAnyH_ready (rs := [0, 5]) (by kernel_rfl) (by simp) ?_
          refine AllReadyH.cons rfl (fun K hK => ?_) (AllReadyH.cons rfl (fun K hK => ?_) AllReadyH.nil)
          · go_simp
            refine (HRN.out _ (by (repeat' first | exact Below.refl _ _ | apply Below.drew | apply bel_alloc | (refine freeze_below ?_ (by first | (simp; done) | omega) _)))).mono ?_
            rintro e w6 ⟨rfl, hB, hbw6⟩
            have hz6 := hbw6.size
            have hsl := SlotH.later (w' := w6) (v := .slice (some ⟨w5.heap.size + 1, 0, none⟩) 4 4) (l := tagList) (by (repeat' first | exact SlotH.lit _ (by simp) | exact SlotH.made (by simp) | apply SlotH.drew | apply SlotH.freeze | apply SlotH.alloc)) hB
            have hsm := SlotH.later (w' := w6) (v := .slice (some ⟨w5.heap.size, 0, none⟩) 8 8) (l := zeros8) (by (repeat' first | exact SlotH.lit _ (by simp) | exact SlotH.made (by simp) | apply SlotH.drew | apply SlotH.freeze | apply SlotH.alloc)) hB
            clear hB
            go_wp2_with fail
            refine hK.out _ _ (HSS.out _ hbw6) (fun hHeld => ?_)
            clear hK K
            (try simp only [Act.put, List.getElem_toArray, List.getElem_cons_succ, List.getElem_cons_zero, List.setIfInBounds_toArray, List.set_cons_zero, List.set_cons_succ])
            refine wpAnyH_ready (rs := [5]) (by kernel_rfl) (by simp) ?_
            refine AllReadyH.cons rfl (fun K hK => ?_) AllReadyH.nil
            · go_simp
              refine hK.out _ _ (HSS.out _ (by (repeat' first | exact Below.refl _ _ | exact hbw6 | apply Below.drew | apply bel_alloc | (refine freeze_below ?_ (by first | (simp; done) | omega) _)))) (fun hHeld => ?_)
              clear hK K
              (try simp only [Act.put, List.getElem_toArray, List.getElem_cons_succ, List.getElem_cons_zero, List.setIfInBounds_toArray, List.set_cons_zero, List.set_cons_succ])
              refine wpAnyH_ready (rs := [6]) (by kernel_rfl) (by simp) ?_
              refine AllReadyH.cons rfl (fun K hK => ?_) AllReadyH.nil
              go_simp
              refine (HOF.out _ _ _ _ (by simp) (by (repeat' first | exact Below.refl _ _ | exact hbw6 | apply Below.drew | apply bel_alloc | (refine freeze_below ?_ (by first | (simp; done) | omega) _))) (by (repeat' first | exact SlotH.lit _ (by simp) | exact SlotH.made (by simp) | assumption | apply SlotH.drew | apply SlotH.freeze | apply SlotH.alloc)) (by (repeat' first | exact SlotH.lit _ (by simp) | exact SlotH.made (by simp) | assumption | apply SlotH.drew | apply SlotH.freeze | apply SlotH.alloc))).mono ?_
              rintro e w7 ⟨rfl, hbw7⟩
              go_wp2_with fail
              refine hK.out _ _ (HSS.out _ hbw7) (fun hHeld => ?_)
              clear hK K
              (try simp only [Act.put, List.getElem_toArray, List.getElem_cons_succ, List.getElem_cons_zero, List.setIfInBounds_toArray, List.set_cons_zero, List.set_cons_succ])
              exact H _ _ _ w7 hbw7
          · go_simp
            refine hK.out _ _ (HSS.out _ (by (repeat' first | exact Below.refl _ _ | apply Below.drew | apply bel_alloc | (refine freeze_below ?_ (by first | (simp; done) | omega) _)))) (fun hHeld => ?_)
            clear hK K
            (try simp only [Act.put, List.getElem_toArray, List.getElem_cons_succ, List.getElem_cons_zero, List.setIfInBounds_toArray, List.set_cons_zero, List.set_cons_succ])
            refine wpAnyH_ready (rs := [0]) (by kernel_rfl) (by simp) ?_
            refine AllReadyH.cons rfl (fun K hK => ?_) AllReadyH.nil
            · go_simp
              refine (HRN.out _ (by (repeat' first | exact Below.refl _ _ | apply Below.drew | apply bel_alloc | (refine freeze_below ?_ (by first | (simp; done) | omega) _)))).mono ?_
              rintro e w6 ⟨rfl, hB, hbw6⟩
              have hz6 := hbw6.size
              have hsl := SlotH.later (w' := w6) (v := .slice (some ⟨w5.heap.size + 1, 0, none⟩) 4 4) (l := tagList) (by (repeat' first | exact SlotH.lit _ (by simp) | exact SlotH.made (by simp) | apply SlotH.drew | apply SlotH.freeze | apply SlotH.alloc)) hB
              have hsm := SlotH.later (w' := w6) (v := .slice (some ⟨w5.heap.size, 0, none⟩) 8 8) (l := zeros8) (by (repeat' first | exact SlotH.lit _ (by simp) | exact SlotH.made (by simp) | apply SlotH.drew | apply SlotH.freeze | apply SlotH.alloc)) hB
              have hrow := RowHB.later (w' := w6) (g := w5.heap.size + 1 + 1) (v0 := .slice (some ⟨w5.heap.size + 1, 0, none⟩) 4 4) (v1 := .slice (some ⟨w5.heap.size, 0, none⟩) 8 8) (v2 := .slice (some ⟨gn, 0, none⟩) 32 32) (by first | exact RowHB.new (by simp) | exact RowHB.drew (RowHB.new (by simp [freeze_size]))) hB
              clear hB
              go_wp2_with fail
              refine hK.out _ _ (HSS.out _ hbw6) (fun hHeld => ?_)
              clear hK K
              (try simp only [Act.put, List.getElem_toArray, List.getElem_cons_succ, List.getElem_cons_zero, List.setIfInBounds_toArray, List.set_cons_zero, List.set_cons_succ])
              refine wpAnyH_ready (rs := [6]) (by kernel_rfl) (by simp) ?_
              refine AllReadyH.cons rfl (fun K hK => ?_) AllReadyH.nil
              go_simp
              refine (HOF2.out _ _ _ _ hbw6 (by first | exact hrow | (simpa [freeze_size] using hrow)) hsl hsm).mono ?_
              rintro e w7 ⟨rfl, hbw7⟩
              go_wp2_with fail
              refine hK.out _ _ (HSS.out _ hbw7) (fun hHeld => ?_)
              clear hK K
              (try simp only [Act.put, List.getElem_toArray, List.getElem_cons_succ, List.getElem_cons_zero, List.setIfInBounds_toArray, List.set_cons_zero, List.set_cons_succ])
              exact H _ _ _ w7 hbw7
  case tail =>
    intro xL xM xG w7 hbw7
    have hHeld := HSS.out w7 hbw7
    refine wpAnyH_take (i := 7) (v := ?v7) rfl (by kernel_rfl) (by kernel_rfl) (by kernel_rfl) (fun _ _ _ h => h) (Or.inl ⟨by rfl, ?y7⟩) hHeld ?_
    case y7 => intro w' hSw; obtain ⟨-, hSc⟩ := hSw; (first | (go_simp; done) | (go_simp; with_reducible rfl))
    (try simp only [Act.put, List.getElem_toArray, List.getElem_cons_succ, List.getElem_cons_zero, List.setIfInBounds_toArray, List.set_cons_zero, List.set_cons_succ])
    refine wpAnyH_take (i := 8) (v := ?v8) rfl (by kernel_rfl) (by kernel_rfl) (by kernel_rfl) (fun _ _ _ h => h) (Or.inl ⟨by rfl, ?y8⟩) hHeld ?_
    case y8 => intro w' hSw; obtain ⟨-, hSc⟩ := hSw; (first | (go_simp; done) | (go_simp; with_reducible rfl))
    (try simp only [Act.put, List.getElem_toArray, List.getElem_cons_succ, List.getElem_cons_zero, List.setIfInBounds_toArray, List.set_cons_zero, List.set_cons_succ])
    refine wpAnyH_take (i := 9) (v := ?v9) rfl (by kernel_rfl) (by kernel_rfl) (by kernel_rfl) (fun _ _ _ h => h) (Or.inl ⟨by rfl, ?y9⟩) hHeld ?_
    case y9 => intro w' hSw; obtain ⟨-, hSc⟩ := hSw; (first | (go_simp; done) | (go_simp; with_reducible rfl))
    (try simp only [Act.put, List.getElem_toArray, List.getElem_cons_succ, List.getElem_cons_zero, List.setIfInBounds_toArray, List.set_cons_zero, List.set_cons_succ])
    refine wpAnyH_take (i := 10) (v := ?v10) rfl (by kernel_rfl) (by kernel_rfl) (by kernel_rfl) (fun _ _ _ h => h) (Or.inl ⟨by rfl, ?y10⟩) hHeld ?_
    case y10 => intro w' hSw; obtain ⟨-, hSc⟩ := hSw; (first | (go_simp; done) | (go_simp; with_reducible rfl))
    (try simp only [Act.put, List.getElem_toArray, List.getElem_cons_succ, List.getElem_cons_zero, List.setIfInBounds_toArray, List.set_cons_zero, List.set_cons_succ])
    refine wpAnyH_take (i := 11) (v := ?v11) rfl (by kernel_rfl) (by kernel_rfl) (by kernel_rfl) (fun _ _ _ h => h) (Or.inl ⟨by rfl, ?y11⟩) hHeld ?_
    case y11 => intro w' hSw; obtain ⟨-, hSc⟩ := hSw; (first | (go_simp; done) | (go_simp; with_reducible rfl))
    (try simp only [Act.put, List.getElem_toArray, List.getElem_cons_succ, List.getElem_cons_zero, List.setIfInBounds_toArray, List.set_cons_zero, List.set_cons_succ])
    refine wpAnyH_take (i := 12) (v := ?v12) rfl (by kernel_rfl) (by kernel_rfl) (by kernel_rfl) (fun _ _ _ h => h) (Or.inl ⟨by rfl, ?y12⟩) hHeld ?_
    case y12 => intro w' hSw; obtain ⟨-, hSc⟩ := hSw; (first | (go_simp; done) | (go_simp; with_reducible rfl))
    (try simp only [Act.put, List.getElem_toArray, List.getElem_cons_succ, List.getElem_cons_zero, List.setIfInBounds_toArray, List.set_cons_zero, List.set_cons_succ])
    refine wpAnyH_take (i := 13) (v := ?v13) rfl (by kernel_rfl) (by kernel_rfl) (by kernel_rfl) (fun _ _ _ h => h) (Or.inl ⟨by rfl, ?y13⟩) hHeld ?_
    case y13 => intro w' hSw; obtain ⟨-, hSc⟩ := hSw; (first | (go_simp; done) | (go_simp; with_reducible rfl))
    (try simp only [Act.put, List.getElem_toArray, List.getElem_cons_succ, List.getElem_cons_zero, List.setIfInBounds_toArray, List.set_cons_zero, List.set_cons_succ])
    refine wpAnyH_take (i := 14) (v := ?v14) rfl (by kernel_rfl) (by kernel_rfl) (by kernel_rfl) (fun _ _ _ h => h) (Or.inl ⟨by rfl, ?y14⟩) hHeld ?_
    case y14 => intro w' hSw; obtain ⟨-, hSc⟩ := hSw; (first | (go_simp; done) | (go_simp; with_reducible rfl))
    (try simp only [Act.put, List.getElem_toArray, List.getElem_cons_succ, List.getElem_cons_zero, List.setIfInBounds_toArray, List.set_cons_zero, List.set_cons_succ])
    refine wpAnyH_take (i := 15) (v := ?v15) rfl (by kernel_rfl) (by kernel_rfl) (by kernel_rfl) (fun _ _ _ h => h) (Or.inl ⟨by rfl, ?y15⟩) hHeld ?_
    case y15 => intro w' hSw; obtain ⟨-, hSc⟩ := hSw; (first | (go_simp; done) | (go_simp; with_reducible rfl))
    (try simp only [Act.put, List.getElem_toArray, List.getElem_cons_succ, List.getElem_cons_zero, List.setIfInBounds_toArray, List.set_cons_zero, List.set_cons_succ])
    refine wpAnyH_take (i := 16) (v := ?v16) rfl (by kernel_rfl) (by kernel_rfl) (by kernel_rfl) (fun _ _ _ h => h) (Or.inl ⟨by rfl, ?y16⟩) hHeld ?_
    case y16 => intro w' hSw; obtain ⟨-, hSc⟩ := hSw; (first | (go_simp; done) | (go_simp; with_reducible rfl))
    (try simp only [Act.put, List.getElem_toArray, List.getElem_cons_succ, List.getElem_cons_zero, List.setIfInBounds_toArray, List.set_cons_zero, List.set_cons_succ])
    refine wpAnyH_take (i := 17) (v := ?v17) rfl (by kernel_rfl) (by kernel_rfl) (by kernel_rfl) (fun _ _ _ h => h) (Or.inl ⟨by rfl, ?y17⟩) hHeld ?_
    case y17 => intro w' hSw; obtain ⟨-, hSc⟩ := hSw; (first | (go_simp; done) | (go_simp; with_reducible rfl))
    (try simp only [Act.put, List.getElem_toArray, List.getElem_cons_succ, List.getElem_cons_zero, List.setIfInBounds_toArray, List.set_cons_zero, List.set_cons_succ])
    refine wpAnyH_take (i := 18) (v := ?v18) rfl (by kernel_rfl) (by kernel_rfl) (by kernel_rfl) (fun _ _ _ h => h) (Or.inl ⟨by rfl, ?y18⟩) hHeld ?_
    case y18 => intro w' hSw; obtain ⟨-, hSc⟩ := hSw; (first | (go_simp; done) | (go_simp; with_reducible rfl))
    (try simp only [Act.put, List.getElem_toArray, List.getElem_cons_succ, List.getElem_cons_zero, List.setIfInBounds_toArray, List.set_cons_zero, List.set_cons_succ])
    refine wpAnyH_take (i := 19) (v := ?v19) rfl (by kernel_rfl) (by kernel_rfl) (by kernel_rfl) (fun _ _ _ h => h) (Or.inl ⟨by rfl, ?y19⟩) hHeld ?_
    case y19 => intro w' hSw; obtain ⟨-, hSc⟩ := hSw; (first | (go_simp; done) | (go_simp; with_reducible rfl))
    (try simp only [Act.put, List.getElem_toArray, List.getElem_cons_succ, List.getElem_cons_zero, List.setIfInBounds_toArray, List.set_cons_zero, List.set_cons_succ])
    refine wpAnyH_take (i := 20) (v := ?v20) rfl (by kernel_rfl) (by kernel_rfl) (by kernel_rfl) (fun _ _ _ h => h) (Or.inl ⟨by rfl, ?y20⟩) hHeld ?_
    case y20 => intro w' hSw; obtain ⟨-, hSc⟩ := hSw; (first | (go_simp; done) | (go_simp; with_reducible rfl))
    (try simp only [Act.put, List.getElem_toArray, List.getElem_cons_succ, List.getElem_cons_zero, List.setIfInBounds_toArray, List.set_cons_zero, List.set_cons_succ])
    refine wpAnyH_take (i := 21) (v := ?v21) rfl (by kernel_rfl) (by kernel_rfl) (by kernel_rfl) (fun _ _ _ h => h) (Or.inl ⟨by rfl, ?y21⟩) hHeld ?_
    case y21 => intro w' hSw; obtain ⟨-, hSc⟩ := hSw; (first | (go_simp; done) | (go_simp; with_reducible rfl))
    (try simp only [Act.put, List.getElem_toArray, List.getElem_cons_succ, List.getElem_cons_zero, List.setIfInBounds_toArray, List.set_cons_zero, List.set_cons_succ])
    refine wpAnyH_take (i := 23) (v := ?v23) rfl (by kernel_rfl) (by kernel_rfl) (by kernel_rfl) (fun _ _ _ h => h) (Or.inl ⟨by rfl, ?y23⟩) hHeld ?_
    case y23 => intro w' hSw; obtain ⟨-, hSc⟩ := hSw; (first | (go_simp; done) | (go_simp; with_reducible rfl))
    (try simp only [Act.put, List.getElem_toArray, List.getElem_cons_succ, List.getElem_cons_zero, List.setIfInBounds_toArray, List.set_cons_zero, List.set_cons_succ])
    refine wpAnyH_take (i := 24) (v := ?v24) rfl (by kernel_rfl) (by kernel_rfl) (by kernel_rfl) (fun _ _ _ h => h) (Or.inl ⟨by rfl, ?y24⟩) hHeld ?_
    case y24 => intro w' hSw; obtain ⟨-, hSc⟩ := hSw; (first | (go_simp; done) | (go_simp; with_reducible rfl))
    (try simp only [Act.put, List.getElem_toArray, List.getElem_cons_succ, List.getElem_cons_zero, List.setIfInBounds_toArray, List.set_cons_zero, List.set_cons_succ])
    refine wpAnyH_take (i := 25) (v := ?v25) rfl (by kernel_rfl) (by kernel_rfl) (by kernel_rfl) (fun _ _ _ h => h) (Or.inl ⟨by rfl, ?y25⟩) hHeld ?_
    case y25 => intro w' hSw; obtain ⟨-, hSc⟩ := hSw; (first | (go_simp; done) | (go_simp; with_reducible rfl))
    (try simp only [Act.put, List.getElem_toArray, List.getElem_cons_succ, List.getElem_cons_zero, List.setIfInBounds_toArray, List.set_cons_zero, List.set_cons_succ])
    refine wpAnyH_take (i := 26) (v := ?v26) rfl (by kernel_rfl) (by kernel_rfl) (by kernel_rfl) (fun _ _ _ h => h) (Or.inl ⟨by rfl, ?y26⟩) hHeld ?_
    case y26 => intro w' hSw; obtain ⟨-, hSc⟩ := hSw; (first | (go_simp; done) | (go_simp; with_reducible rfl))
    (try simp only [Act.put, List.getElem_toArray, List.getElem_cons_succ, List.getElem_cons_zero, List.setIfInBounds_toArray, List.set_cons_zero, List.set_cons_succ])
    refine wpAnyH_ready (rs := [22]) (by kernel_rfl) (by simp) ?_
    refine AllReadyH.cons rfl (fun K hK => ?_) AllReadyH.nil
    go_simp
    refine (HRL.out _ hbw7).mono ?_
    rintro e w8 ⟨rfl, hbw8⟩
    go_wp2_with fail
    refine hK.out _ _ (HSS.out _ hbw8) (fun hHeld8 => ?_)
    clear hK K
    (try simp only [Act.put, List.getElem_toArray, List.getElem_cons_succ, List.getElem_cons_zero, List.setIfInBounds_toArray, List.set_cons_zero, List.set_cons_succ])
    refine wpAnyH_ready (rs := [27]) (by kernel_rfl) (by simp) ?_
    refine AllReadyH.cons rfl (fun K hK => ?_) AllReadyH.nil
    go_simp
    refine (HVF.out _ hbw8).mono ?_
    rintro e w9 ⟨rfl, hbw9⟩
    go_wp2_with fail
    refine hK.out _ _ (HSS.out _ hbw9) (fun hHeld9 => ?_)
    clear hK K
    (try simp only [Act.put, List.getElem_toArray, List.getElem_cons_succ, List.getElem_cons_zero, List.setIfInBounds_toArray, List.set_cons_zero, List.set_cons_succ])
    refine wpAnyH_take (i := 28) (v := ?v28) rfl (by kernel_rfl) (by kernel_rfl) (by kernel_rfl) (fun _ _ _ h => h) (Or.inl ⟨by rfl, ?y28⟩) hHeld9 ?_
    case y28 => intro w' hSw; obtain ⟨-, hSc⟩ := hSw; (first | (go_simp; done) | (go_simp; with_reducible rfl))
    (try simp only [Act.put, List.getElem_toArray, List.getElem_cons_succ, List.getElem_cons_zero, List.setIfInBounds_toArray, List.set_cons_zero, List.set_cons_succ])
    refine wpAnyH_take (i := 29) (v := ?v29) rfl (by kernel_rfl) (by kernel_rfl) (by kernel_rfl) (fun _ _ _ h => h) (Or.inl ⟨by rfl, ?y29⟩) hHeld9 ?_
    case y29 => intro w' hSw; obtain ⟨-, hSc⟩ := hSw; (first | (go_simp; done) | (go_simp; with_reducible rfl))
    (try simp only [Act.put, List.getElem_toArray, List.getElem_cons_succ, List.getElem_cons_zero, List.setIfInBounds_toArray, List.set_cons_zero])
    refine wpAnyH_done (by kernel_rfl) ?_ _
    go_wp2
    go_ret
    exact ⟨rfl, HB5.out.trans (hbw9.mono HB5.out.size)⟩
end Go.Proofs.YthmkdlnocdbhjaaDoor
