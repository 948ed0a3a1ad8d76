/- The law on one header: written as the document says, read back as it was. -/
import Derived.Test.YtlkjahfkgfkilaaDoorConv
import Derived.Test.YtlkjahfkgfkilaaDoorFDec
namespace Go.Proofs.YtlkjahfkgfkilaaDoor
open Go.RowKit

theorem headerR_free {w w' : World} {p p' : Nat → Prop} {cs : List Value} {b : List UInt8} (h : headerR w p cs b) : headerR w' p' cs b := by
  obtain ⟨ps, h, rfl⟩ := h
  obtain ⟨_, _, b0, _, rfl, rfl, h0, _, _, b1, _, rfl, rfl, h1, _, _, b2, _, rfl, rfl, h2, _, _, b3, _, rfl, rfl, h3, _, _, b4, _, rfl, rfl, h4, _, _, b5, _, rfl, rfl, h5, _, _, b6, _, rfl, rfl, h6, _, _, b7, _, rfl, rfl, h7, rfl, rfl⟩ := h
  exact ⟨_, ⟨_, _, b0, _, rfl, rfl, h0, _, _, b1, _, rfl, rfl, h1, _, _, b2, _, rfl, rfl, h2, _, _, b3, _, rfl, rfl, h3, _, _, b4, _, rfl, rfl, h4, _, _, b5, _, rfl, rfl, h5, _, _, b6, _, rfl, rfl, h6, _, _, b7, _, rfl, rfl, h7, rfl, rfl⟩, rfl⟩
theorem grown_set {w : World} {g k : Nat} (v : Value) : w.grownBy (w.setCell ⟨g, k, none⟩ v) (some g) := grownBy_setCell_ w g k v
/-- The row is one of bytes, whichever. -/
def ByteRow (w : World) (base g n cap : Nat) : Prop := ∃ xs, w.ownsRow base 5 1 (.slice (some ⟨g, 0, none⟩) n cap) n xs ∧ ∀ v ∈ xs, ∃ z, v = .int .u8 z
theorem ByteRow.get {w : World} {base g n cap : Nat} (h : ByteRow w base g n cap) {k : Nat} (hk : k < n) : ∃ z, w.cell? ⟨g, k, none⟩ = some (.int .u8 z) ∧ w.frozen? ⟨g, k, none⟩ = false := by
  obtain ⟨xs, ho, hx⟩ := h
  have hl : k < xs.length := by have := ho.1; omega
  obtain ⟨z, hz⟩ := hx _ (List.getElem_mem hl)
  refine ⟨z, ?_, ho.frozenAt k⟩
  rw [ho.cellAt k (by omega), List.getElem?_eq_getElem hl, hz]
theorem ByteRow.put {w : World} {base g n cap : Nat} (h : ByteRow w base g n cap) (k : Nat) (z : Int) : ByteRow (w.setCell ⟨g, k, none⟩ (.int .u8 z)) base g n cap := by
  obtain ⟨xs, ho, hx⟩ := h
  refine ⟨_, (ho.stored k (.int .u8 z)).1, fun v hv => ?_⟩
  rcases List.mem_or_eq_of_mem_set hv with h1 | h1
  · exact hx v h1
  · exact ⟨z, h1⟩

set_option maxRecDepth 20000 in
set_option maxHeartbeats 8000000 in
theorem header_law (w : World) (al af : Addr) (tl tf : ByteArray) (hL : Lay w al af tl tf) (cs : List Value) (b : List UInt8) (hR : headerR w (fun _ => False) cs b) :
    Calls Tryd.prog 5 #[.agg cs.toArray] w fun e w' => e = .returned (.bool true) ∧ Below w.heap.size w w' := by
  obtain ⟨hcl, hone⟩ := headerR_len _ _ _ _ hR
  have hsz := headerR_size hR
  have hfm := headerR_form hR
  have hz := Tryd.zeroHeader
  obtain ⟨W1, hW1⟩ : ∃ W1 : World, W1 = w.alloc (.cells cs.toArray 25) := ⟨_, rfl⟩
  have hB1 : Below w.heap.size w W1 := by rw [hW1]; exact (Below.refl _ _).alloc (Nat.le_refl _) _
  have hx1 : HB W1 w.heap.size 25 cs := by rw [hW1]; exact HB.new w _ _
  have hL1 := hL.later hB1
  have hRk : ∀ V : World, headerR V (fun _ => False) cs b := fun V => headerR_kept _ _ _ _ _ _ hR (fun _ h => h.elim) (fun _ h => h)
  have hw1 := header_writes W1 (fun _ => False) cs b (hRk W1) (fun _ h => h.elim) (by rw [hsz]; decide)
  have HI : (Tryd.prog.info? 25).map (·.size) = some cs.toArray.size := by rw [List.size_toArray, hcl]; kernel_rfl
  have HLl : (Tryd.prog.info? 25).map (·.size) = some cs.length := by rw [hcl]; kernel_rfl
  have HI := Lib.hid HI
  have HL := Lib.hid HLl
  have Hsz := Lib.hid hsz
  have Hw1 := Lib.hid hw1
  have HRk := Lib.hid hRk
  have Hfm := Lib.hid hfm
  clear hw1 hRk hR hfm hsz HLl hcl hone hL
  have hx1' : (w.alloc (.cells cs.toArray 25)).heap[w.heap.size]? = some (.cells cs.toArray 25) := heap_alloc_new w _
  go_enter Tryd.func5, Tryd.ntmps5
  go_wp2_with (refine wpList_load_row rfl 25 _ rfl w.heap.size rfl 25 cs.toArray (0, 0) _ hx1' Tryd.underlying25 rfl HI.out ?_)
  clear hx1'
  rw [← hW1]
  clear hW1
  refine Hw1.out.mono ?_
  rintro e w2 ⟨v2, rfl, hown2, hB2⟩
  obtain ⟨A2, c2, rfl, hc2, hcm2, hmi2, hse2⟩ := own_slice hown2
  have hx2 : HB w2 w.heap.size 25 cs := hx1.below hB2 (HB.lt hx1)
  go_wp2_with fail
  refine wp_region_held_drew (S := fun w' => Below w2.heap.size w2 w') (by kernel_rfl) (Below.drew (Below.refl _ _)) (fun hHeld => ?_)
  refine wpAnyH_take (i := 0) (v := ?v0) rfl (by kernel_rfl) (by kernel_rfl) (by kernel_rfl) (fun _ _ _ h => h) (Or.inl ⟨by rfl, ?y0⟩) hHeld ?_
  case y0 => intro w' hSw; (first | (go_simp; done) | (go_simp; with_reducible rfl))
  try simp only [Act.put]
  refine wpAnyH_take (i := 1) (v := ?v1) rfl (by kernel_rfl) (by kernel_rfl) (by kernel_rfl) (fun _ _ _ h => h) (Or.inl ⟨by rfl, ?y1⟩) hHeld ?_
  case y1 => intro w' hSw; have hc := conv_sees (w := w') c2 (hse2.below hSw); (first | (go_simp; done) | (go_simp; with_reducible rfl))
  try simp only [Act.put]
  refine wpAnyH_take (i := 2) (v := .agg cs.toArray) rfl (by kernel_rfl) (by kernel_rfl) (by kernel_rfl) (fun _ _ _ h => h) (yieldsIf_load_mid (by rfl) 25 _ rfl w.heap.size 0 rfl cs _ (fun w' h => (hx2.below h (HB.lt hx2)).range) Tryd.underlying25 rfl HL.out) hHeld ?_
  try simp only [Act.put]
  refine wpAnyH_ready (rs := [3]) (by kernel_rfl) (by simp) ?_
  refine AllReadyH.cons rfl (fun K hK => ?_) AllReadyH.nil
  rw [if_pos (by rfl)]
  go_simp
  refine (rheader_writes w2.drew (fun _ => False) cs b (HRk.out _) (fun _ h => h.elim) (by rw [Hsz.out]; decide)).mono ?_
  rintro e w3 ⟨v3, rfl, hown3, hB3⟩
  obtain ⟨A3, c3, rfl, hc3, hcm3, hmi3, hse3⟩ := own_slice hown3
  dsimp only
  refine hK.out _ _ (hHeld.trans hB3) (fun hHeld2 => ?_)
  clear hK K
  try simp only [Act.put]
  refine wpAnyH_ready (rs := [4]) (by kernel_rfl) (by simp) ?_
  refine AllReadyH.cons rfl (fun K hK => ?_) AllReadyH.nil
  rw [if_pos (by rfl)]
  have hc3' := conv_sees (w := w3) c3 hse3
  go_simp
  refine hK.out _ _ hHeld2 (fun _ => ?_)
  clear hK K hc3'
  try simp only [Act.put]
  refine wpAnyH_take (i := 5) (v := ?v5) rfl (by kernel_rfl) (by kernel_rfl) (by kernel_rfl) (fun _ _ _ h => h) (Or.inl ⟨by rfl, ?y5⟩) hHeld2 ?_
  case y5 => intro w' hSw; (first | (go_simp; done) | (go_simp; with_reducible rfl))
  try simp only [Act.put]
  refine wpAnyH_done (by kernel_rfl) ?_ _
  have hB13 : Below W1.heap.size W1 w3 := hB2.trans ((hHeld.trans hB3).mono hB2.size)
  have hL3 := hL1.later hB13
  have ha3 := (own_arg hown2 (by rw [Hsz.out]; decide) A2 c2 rfl).later (hHeld.trans hB3)
  have hW1s : w.heap.size < W1.heap.size := HB.lt hx1
  have hrd := readHeader_ok al w3 hL3.long _ A2 c2 b ha3 Hfm.out (by rw [Hsz.out]; decide)
  have hx3 : HB w3 w.heap.size 25 cs := hx1.below hB13 (HB.lt hx1)
  have hown3 := own_below hown2 (hHeld.trans hB3)
  obtain ⟨g, cap, hform, hgb, hglt⟩ := hown3.form (by rw [Hsz.out]; decide)
  have hrow3 : ByteRow w3 W1.heap.size g b.length cap := ⟨bys b, by rw [← hform]; exact hown3, fun v hv => by simp only [bys, List.mem_map] at hv; obtain ⟨x, _, rfl⟩ := hv; exact ⟨_, rfl⟩⟩
  injection hform with e1 _ e3
  subst e1
  subst e3
  have hn208 := Hsz.out
  rw [hn208] at hrd hrow3
  have Hrd := Lib.hid hrd
  have hB3w : Below w.heap.size w w3 := hB1.trans (hB13.mono hB1.size)
  clear hrd ha3 hown2 hown3 hmi2 hse2 hmi3 hse3 hHeld hHeld2 hL3 hc2 hcm2 hc3 hcm3 hx2 hx1 hB2 hB3 hL1
  go_wp2_with fail
  refine Hrd.out.mono ?_
  rintro e w4 ⟨cs4, rfl, hR4, hB4⟩
  obtain ⟨hcl4, hone4⟩ := headerR_len _ _ _ _ hR4
  have HR4 := Lib.hid hR4
  have HI4 : (Tryd.prog.info? 25).map (·.size) = some cs4.toArray.size := by rw [List.size_toArray, hcl4]; kernel_rfl
  have HL4 : (Tryd.prog.info? 25).map (·.size) = some cs4.length := by rw [hcl4]; kernel_rfl
  have HS4 : zhead.toArray.size = cs4.toArray.size := by rw [List.size_toArray, List.size_toArray, hcl4]; simp [zhead, zb]
  have HA4 := Lib.hid (all_oneCell_toArray hone4)
  have HI4 := Lib.hid HI4
  have HL4 := Lib.hid HL4
  have HS4 := Lib.hid HS4
  have hz4 := HB.new w4 25 zhead
  have hB5 : Below w4.heap.size w4 ((w4.alloc (.cells zhead.toArray 25)).setRow w4.heap.size cs4.toArray) := Below.setRow_ ((Below.refl _ _).alloc (Nat.le_refl _) _) (Nat.le_refl _) _
  have hy5 : HB ((w4.alloc (.cells zhead.toArray 25)).setRow w4.heap.size cs4.toArray) w4.heap.size 25 cs4 := hz4.row _
  have hB35 : Below w3.heap.size w3 ((w4.alloc (.cells zhead.toArray 25)).setRow w4.heap.size cs4.toArray) := hB4.trans (hB5.mono hB4.size)
  have hB4s := hB4.size
  have hgx : w.heap.size < g := Nat.lt_of_lt_of_le hW1s hgb
  have hx5 := hx3.below hB35 (HB.lt hx3)
  have hrow5 : ByteRow ((w4.alloc (.cells zhead.toArray 25)).setRow w4.heap.size cs4.toArray) W1.heap.size g 208 c2 := by
    obtain ⟨xs, ho, hx⟩ := hrow3
    exact ⟨xs, own_below ho hB35, hx⟩
  have hB5w := hB3w.trans (hB35.mono hB3w.size)
  have hL5 : w.heap.size + 1 ≤ w4.heap.size := by have := HB.lt hx3; omega
  clear hR4 hcl4 hone4 hB4
  go_wp2_with (refine wpList_store_row rfl 25 _ _ rfl w4.heap.size cs4.toArray rfl rfl 25 _ hz4 HI4.out HS4.out HA4.out ?_)
  generalize (w4.alloc (.cells zhead.toArray 25)).setRow w4.heap.size cs4.toArray = W5 at *
  clear hz4 hB5 hB35 hrow3 hx3
  go_loopw [6, 27] (fun _ i wr => ∃ k : Nat, k ≤ 208 ∧ i = .int .i64 (k : Int) ∧ ByteRow wr W1.heap.size g 208 c2 ∧ W5.grownBy wr (some g)) (fun _ i _ => (208 - intOf i).toNat)
  case atStart => exact ⟨0, by omega, rfl, hrow5, World.grownBy.refl W5 _⟩
  case round =>
    obtain ⟨k, hk, rfl, hrow, hgr⟩ := hrel
    rcases Nat.lt_or_ge k 208 with hlt | hge
    · obtain ⟨z, hcell, hfro⟩ := hrow.get hlt
      have hk1 : (k : Int) < 208 := by omega
      have hput := fun z => hrow.put k z
      have hgr2 := fun v => hgr.trans (grown_set (w := wr) (g := g) (k := k) v)
      clear hrow hgr
      go_wp2
      go_roundw
      case rel => exact ⟨k + 1, by omega, by go_num, hput _, hgr2 _⟩
      case measure => simp [intOf]; omega
    · obtain rfl : k = 208 := by omega
      have hxr : HB wr w.heap.size 25 cs := hx5.grown hgr (fun e => by injection e; omega)
      have hyr : HB wr w4.heap.size 25 cs4 := hy5.grown hgr (fun e => by injection e; omega)
      have hBr := hB5w.grown hgr hB5w.size (fun t e => by injection e; omega)
      clear hrow hgr hrow5 hx5 hy5
      go_wp2
      refine wp_region_held_drew (S := fun w' => Below wr.heap.size wr w') (by kernel_rfl) (Below.drew (Below.refl _ _)) (fun hH => ?_)
      refine wpAnyH_take (i := 0) (v := ?v101) rfl (by kernel_rfl) (by kernel_rfl) (by kernel_rfl) (fun _ _ _ h => h) (Or.inl ⟨by rfl, ?y101⟩) hH ?_
      case y101 => intro w' hSw; (first | (go_simp; done) | (go_simp; with_reducible rfl))
      try simp only [Act.put]
      refine wpAnyH_take (i := 1) (v := ?v102) rfl (by kernel_rfl) (by kernel_rfl) (by kernel_rfl) (fun _ _ _ h => h) (Or.inl ⟨by rfl, ?y102⟩) hH ?_
      case y102 => intro w' hSw; (first | (go_simp; done) | (go_simp; with_reducible rfl))
      try simp only [Act.put]
      refine wpAnyH_take (i := 2) (v := ?v103) rfl (by kernel_rfl) (by kernel_rfl) (by kernel_rfl) (fun _ _ _ h => h) (Or.inl ⟨by rfl, ?y103⟩) hH ?_
      case y103 => intro w' hSw; (first | (go_simp; done) | (go_simp; with_reducible rfl))
      try simp only [Act.put]
      refine wpAnyH_take (i := 3) (v := .agg cs4.toArray) rfl (by kernel_rfl) (by kernel_rfl) (by kernel_rfl) (fun _ _ _ h => h) (yieldsIf_load_mid (by rfl) 25 _ rfl w4.heap.size 0 rfl cs4 _ (fun w' h => (hyr.below h (HB.lt hyr)).range) Tryd.underlying25 rfl HL4.out) hH ?_
      try simp only [Act.put]
      refine wpAnyH_take (i := 6) (v := .agg cs.toArray) rfl (by kernel_rfl) (by kernel_rfl) (by kernel_rfl) (fun _ _ _ h => h) (yieldsIf_load_mid (by rfl) 25 _ rfl w.heap.size 0 rfl cs _ (fun w' h => (hxr.below h (HB.lt hxr)).range) Tryd.underlying25 rfl HL.out) hH ?_
      try simp only [Act.put]
      refine wpAnyH_ready (rs := [4]) (by kernel_rfl) (by simp) ?_
      refine AllReadyH.cons rfl (fun K hK => ?_) AllReadyH.nil
      rw [if_pos (by rfl)]
      go_simp
      refine (rheader_writes _ (fun _ => False) cs4 b (headerR_free HR4.out) (fun _ h => h.elim) (by rw [Hsz.out]; decide)).mono ?_
      rintro e w6 ⟨v6, rfl, hown6, hB6⟩
      obtain ⟨A6, c6, rfl, -, -, -, hse6⟩ := own_slice hown6
      rw [hn208] at hse6
      have hH6 := hH.trans (hB6.mono hH.size)
      dsimp only
      refine hK.out _ _ hH6 (fun _ => ?_)
      clear hK K hown6
      try simp only [Act.put]
      refine wpAnyH_ready (rs := [5, 7]) (by kernel_rfl) (by simp) ?_
      refine AllReadyH.cons rfl (fun K hK => ?_) (AllReadyH.cons rfl (fun K hK => ?_) AllReadyH.nil)
      · rw [if_pos (by rfl)]
        have hc6 := conv_sees (w := w6) c6 (hse6)
        go_simp
        refine hK.out _ _ hH6 (fun _ => ?_)
        clear hK K hc6
        try simp only [Act.put]
        refine wpAnyH_ready (rs := [7]) (by kernel_rfl) (by simp) ?_
        refine AllReadyH.cons rfl (fun K hK => ?_) AllReadyH.nil
        rw [if_pos (by rfl)]
        go_simp
        refine (rheader_writes _ (fun _ => False) cs b (HRk.out _) (fun _ h => h.elim) (by rw [Hsz.out]; decide)).mono ?_
        rintro e w7 ⟨v7, rfl, hown7, hB7⟩
        obtain ⟨A7, c7, rfl, -, -, -, hse7⟩ := own_slice hown7
        rw [hn208] at hse7
        have hH7 := hH6.trans (hB7.mono hH6.size)
        dsimp only
        refine hK.out _ _ hH7 (fun _ => ?_)
        clear hK K hown7
        try simp only [Act.put]
        refine wpAnyH_ready (rs := [8]) (by kernel_rfl) (by simp) ?_
        refine AllReadyH.cons rfl (fun K hK => ?_) AllReadyH.nil
        rw [if_pos (by rfl)]
        have hc7 := conv_sees (w := w7) c7 (hse7)
        go_simp
        refine hK.out _ _ hH7 (fun _ => ?_)
        clear hK K hc7
        try simp only [Act.put]
        refine wpAnyH_take (i := 9) (v := ?v104) rfl (by kernel_rfl) (by kernel_rfl) (by kernel_rfl) (fun _ _ _ h => h) (Or.inl ⟨by rfl, ?y104⟩) hH7 ?_
        case y104 => intro w' hSw; (first | (go_simp; done) | (go_simp; with_reducible rfl))
        try simp only [Act.put]
        refine wpAnyH_take (i := 10) (v := ?v105) rfl (by kernel_rfl) (by kernel_rfl) (by kernel_rfl) (fun _ _ _ h => h) (Or.inl ⟨by rfl, ?y105⟩) hH7 ?_
        case y105 => intro w' hSw; (first | (go_simp; done) | (go_simp; with_reducible rfl))
        try simp only [Act.put]
        refine wpAnyH_take (i := 11) (v := ?v106) rfl (by kernel_rfl) (by kernel_rfl) (by kernel_rfl) (fun _ _ _ h => h) (Or.inl ⟨by rfl, ?y106⟩) hH7 ?_
        case y106 => intro w' hSw; (first | (go_simp; done) | (go_simp; with_reducible rfl))
        try simp only [Act.put]
        refine wpAnyH_done (by kernel_rfl) ?_ _
        have hEnd := hBr.trans (hH7.mono hBr.size)
        simp only [List.getElem_toArray, List.getElem_cons_succ, List.getElem_cons_zero, List.setIfInBounds_toArray, List.set_cons_succ, List.set_cons_zero]
        go_wp2
        go_ret
        exact ⟨rfl, hEnd⟩
      · rw [if_pos (by rfl)]
        go_simp
        refine (rheader_writes _ (fun _ => False) cs b (HRk.out _) (fun _ h => h.elim) (by rw [Hsz.out]; decide)).mono ?_
        rintro e w7 ⟨v7, rfl, hown7, hB7⟩
        obtain ⟨A7, c7, rfl, -, -, -, hse7⟩ := own_slice hown7
        rw [hn208] at hse7
        have hH7 := hH6.trans (hB7.mono hH6.size)
        dsimp only
        refine hK.out _ _ hH7 (fun _ => ?_)
        clear hK K hown7
        try simp only [Act.put]
        refine wpAnyH_ready (rs := [5, 8]) (by kernel_rfl) (by simp) ?_
        refine AllReadyH.cons rfl (fun K hK => ?_) (AllReadyH.cons rfl (fun K hK => ?_) AllReadyH.nil)
        · rw [if_pos (by rfl)]
          have hc6 := conv_sees (w := w7) c6 (hse6.below hB7)
          go_simp
          refine hK.out _ _ hH7 (fun _ => ?_)
          clear hK K hc6
          try simp only [Act.put]
          refine wpAnyH_ready (rs := [8]) (by kernel_rfl) (by simp) ?_
          refine AllReadyH.cons rfl (fun K hK => ?_) AllReadyH.nil
          rw [if_pos (by rfl)]
          have hc7 := conv_sees (w := w7) c7 (hse7)
          go_simp
          refine hK.out _ _ hH7 (fun _ => ?_)
          clear hK K hc7
          try simp only [Act.put]
          refine wpAnyH_take (i := 9) (v := ?v107) rfl (by kernel_rfl) (by kernel_rfl) (by kernel_rfl) (fun _ _ _ h => h) (Or.inl ⟨by rfl, ?y107⟩) hH7 ?_
          case y107 => intro w' hSw; (first | (go_simp; done) | (go_simp; with_reducible rfl))
          try simp only [Act.put]
          refine wpAnyH_take (i := 10) (v := ?v108) rfl (by kernel_rfl) (by kernel_rfl) (by kernel_rfl) (fun _ _ _ h => h) (Or.inl ⟨by rfl, ?y108⟩) hH7 ?_
          case y108 => intro w' hSw; (first | (go_simp; done) | (go_simp; with_reducible rfl))
          try simp only [Act.put]
          refine wpAnyH_take (i := 11) (v := ?v109) rfl (by kernel_rfl) (by kernel_rfl) (by kernel_rfl) (fun _ _ _ h => h) (Or.inl ⟨by rfl, ?y109⟩) hH7 ?_
          case y109 => intro w' hSw; (first | (go_simp; done) | (go_simp; with_reducible rfl))
          try simp only [Act.put]
          refine wpAnyH_done (by kernel_rfl) ?_ _
          have hEnd := hBr.trans (hH7.mono hBr.size)
          simp only [List.getElem_toArray, List.getElem_cons_succ, List.getElem_cons_zero, List.setIfInBounds_toArray, List.set_cons_succ, List.set_cons_zero]
          go_wp2
          go_ret
          exact ⟨rfl, hEnd⟩
        · rw [if_pos (by rfl)]
          have hc7 := conv_sees (w := w7) c7 (hse7)
          go_simp
          refine hK.out _ _ hH7 (fun _ => ?_)
          clear hK K hc7
          try simp only [Act.put]
          refine wpAnyH_ready (rs := [5]) (by kernel_rfl) (by simp) ?_
          refine AllReadyH.cons rfl (fun K hK => ?_) AllReadyH.nil
          rw [if_pos (by rfl)]
          have hc6 := conv_sees (w := w7) c6 (hse6.below hB7)
          go_simp
          refine hK.out _ _ hH7 (fun _ => ?_)
          clear hK K hc6
          try simp only [Act.put]
          refine wpAnyH_take (i := 9) (v := ?v110) rfl (by kernel_rfl) (by kernel_rfl) (by kernel_rfl) (fun _ _ _ h => h) (Or.inl ⟨by rfl, ?y110⟩) hH7 ?_
          case y110 => intro w' hSw; (first | (go_simp; done) | (go_simp; with_reducible rfl))
          try simp only [Act.put]
          refine wpAnyH_take (i := 10) (v := ?v111) rfl (by kernel_rfl) (by kernel_rfl) (by kernel_rfl) (fun _ _ _ h => h) (Or.inl ⟨by rfl, ?y111⟩) hH7 ?_
          case y111 => intro w' hSw; (first | (go_simp; done) | (go_simp; with_reducible rfl))
          try simp only [Act.put]
          refine wpAnyH_take (i := 11) (v := ?v112) rfl (by kernel_rfl) (by kernel_rfl) (by kernel_rfl) (fun _ _ _ h => h) (Or.inl ⟨by rfl, ?y112⟩) hH7 ?_
          case y112 => intro w' hSw; (first | (go_simp; done) | (go_simp; with_reducible rfl))
          try simp only [Act.put]
          refine wpAnyH_done (by kernel_rfl) ?_ _
          have hEnd := hBr.trans (hH7.mono hBr.size)
          simp only [List.getElem_toArray, List.getElem_cons_succ, List.getElem_cons_zero, List.setIfInBounds_toArray, List.set_cons_succ, List.set_cons_zero]
          go_wp2
          go_ret
          exact ⟨rfl, hEnd⟩
end Go.Proofs.YtlkjahfkgfkilaaDoor
