/- merkle.digest's closure: no element, one element. -/
import Derived.Test.YthmkdlnocdbhjaaDoorMkP
namespace Go.Proofs.YthmkdlnocdbhjaaDoor
open Go.RowKit

/-- Where a digest goes: a result's block, still zero. -/
theorem res_new (w : World) : HB (w.alloc (.cells zdig.toArray 28)) w.heap.size 28 zdig := HB.new w _ _

set_option maxRecDepth 20000 in
set_option maxHeartbeats 1600000 in
theorem dig_rec1 (f t : Nat) (h : t - f = 1) (w : World) (gl go : Nat) (A : Option Addr) (c : Nat) (vs : List Value) (ls : List (List UInt8)) (hW : DigW w gl go A c vs ls) (ht : t ≤ ls.length) :
    Calls Tryd.prog 59 #[.agg #[.int .i64 (f : Int), .int .i64 (t : Int)], .pointer (some ⟨gl, 0, none⟩), .pointer (some ⟨go, 0, none⟩)] w (Digs w (dig ls f t)) := by
  have hz := Tryd.zeroDig
  have hlt : f < ls.length := by omega
  have hd := dig_leaf ls f t h
  rw [show ls.getD f [] = ls[f]'hlt by rw [List.getD_eq_getElem?_getD, List.getElem?_eq_getElem hlt]; rfl] at hd
  have b1 : (t : Int) - f = 1 := by omega
  have b2 : 0 ≤ (f : Int) := by omega
  have b3 : (f : Int) < ls.length := by omega
  obtain ⟨ad, u, hA, hbl, hx, hc⟩ := hW.sees.at_ hlt
  obtain ⟨A1, c1, h1, h2, h3, h4⟩ := hW.lists.at_ hlt
  rw [h1] at hx
  injection hx with hx
  subst hx
  subst hA
  have hsm := hW.small f _ (List.getElem?_eq_getElem hlt)
  have hcl : ∀ o1 o2 : Obj, ((w.alloc o1).alloc o2).cell? ⟨gl, 0, none⟩ = some (.slice (some ad) ls.length c) := fun o1 o2 => ((hW.l.alloc o1).alloc o2).cell 0
  have hca : ∀ o1 o2 : Obj, ((w.alloc o1).alloc o2).cell? (ad.add f) = some (.slice A1 (ls[f]'hlt).length c1) := fun o1 o2 => by
    rw [World.cell?_alloc_lt _ _ _ (by rw [add_block]; simp; omega), World.cell?_alloc_lt _ _ _ (by rw [add_block]; omega)]; exact hc
  have Hd := Lib.hid hd
  have hk := hW.consts
  clear hd hc hW h1
  generalize ls[f]'hlt = el at *
  go_enter Tryd.func59, Tryd.ntmps59
  go_wp2_with fail
  have hb1 := below_alloc1 w (.cells #[.int .i64 (f : Int), .int .i64 (t : Int)] 75)
  have hd1 := HB.new (w.alloc (.cells #[.int .i64 (f : Int), .int .i64 (t : Int)] 75)) 28 zdig
  have hb2 := hb1.alloc hb1.size (.cells zdig.toArray 28)
  have hN : (w.alloc (.cells #[.int .i64 (f : Int), .int .i64 (t : Int)] 75)).heap.size = w.heap.size + 1 := by simp
  rw [hN] at hd1
  generalize (w.alloc (.cells #[.int .i64 (f : Int), .int .i64 (t : Int)] 75)).alloc (.cells zdig.toArray 28) = w2 at *
  have hlf := Lib.hid (leaf_any w.heap.size A1 c1 el w2 (h4.below hb2) hb2.size h2 h3 hsm)
  have hk2 := hk.below hb2 hk.2.2
  clear hcl hca hb1 hN h4 hk hz
  refine hlf.out.mono ?_
  rintro e w3 ⟨v3, rfl, ho, hB3⟩
  have hk3 := hk2.below hB3 hk2.2.2
  have hb3 := hb2.trans (hB3.mono hb2.size)
  have hd3 := hd1.below hB3 hd1.lt
  have hsu := Lib.hid (sum_wrote ho hk3 (by rw [leafB_len]; omega))
  clear hlf hd1 hB3 hb2 hk2 ho
  go_wp2_with fail
  refine hsu.out.mono ?_
  rintro e w4 ⟨rfl, hB4⟩
  have hd4 := hd3.below hB4 hd3.lt
  have hb4 := hb3.trans (hB4.mono hb3.size)
  have HI := dig_info (shaF_len (leafB el))
  have HS := dig_size (shaF_len (leafB el))
  have HA := dig_one (shaF (leafB el))
  have hr := hd4.row (bys (shaF (leafB el))).toArray
  have hB6 := Below.setRow_ hb4 (show w.heap.size ≤ w.heap.size + 1 by omega) (bys (shaF (leafB el))).toArray
  clear hsu hd3 hb3 hB4 hb4
  generalize shaF (leafB el) = l at *
  go_wp2_with (refine wpList_store_row rfl 28 _ _ rfl (w.heap.size + 1) (bys l).toArray rfl rfl 28 _ hd4 HI.out HS.out HA.out ?_)
  refine bodyPost_ret (v := .agg (bys l).toArray) (results_cell_row rfl _ _ (w.heap.size + 1) 28 (bys l).toArray (0, 0) _ rfl hr Tryd.underlying28 rfl HI.out) rfl ?_
  exact ⟨by rw [Hd.out], hB6⟩

/-- sha.Of of one literal of four bytes. -/
theorem of_lit (wk : World) (vs : List Value) (ls : List (List UInt8)) (G n : Nat) (hG : wk.heap.size = G) (hn : ls.length = n) (h : Lists wk wk.heap.size vs ls) (hT : (joinF ls).length ≤ 140737488355328) (hk : Consts wk) :
    Calls Tryd.prog 35 #[.slice (some ⟨G, 0, none⟩) n n] (wk.alloc (.cells vs.toArray 33)) (Digs (wk.alloc (.cells vs.toArray 33)) (shaF (joinF ls))) := by
  subst hG; subst hn
  have hb := below_alloc1 wk (.cells vs.toArray 33)
  have hs : Sees (wk.alloc (.cells vs.toArray 33)) (wk.heap.size + 1) 1 (some ⟨wk.heap.size, 0, none⟩) ls.length vs := by
    refine ⟨by rw [h.1, Nat.mul_one], .inr ⟨_, rfl, Nat.lt_succ_self _, fun j u hu => ?_⟩⟩
    rw [add_at, boxed]
    simpa using hu
  exact of_any (wk.heap.size + 1) _ _ _ ls _ hs ((h.below hb).wide (by omega)) (by simp) hT (hk.below hb hk.2.2)
set_option maxRecDepth 20000 in
set_option maxHeartbeats 1600000 in
theorem dig_rec0 (f : Nat) (w : World) (gl go : Nat) (A : Option Addr) (c : Nat) (vs : List Value) (ls : List (List UInt8)) (hW : DigW w gl go A c vs ls) :
    Calls Tryd.prog 59 #[.agg #[.int .i64 (f : Int), .int .i64 (f : Int)], .pointer (some ⟨gl, 0, none⟩), .pointer (some ⟨go, 0, none⟩)] w (Digs w (dig ls f f)) := by
  have hz := Tryd.zeroDig
  have hd := dig_none ls f f (by omega)
  have b1 : (f : Int) - f = 0 := by omega
  have b2 : 0 ≤ (f : Int) := by omega
  have Hd := Lib.hid hd
  have hk := hW.consts
  clear hd hW
  have hb4 := build_b4
  have hb1 := build_1
  have kc := conv_lit0
  have kc2 : ∀ (w : World) (C : Array Value) (n c G : Nat), w.heap.size = G → (convert 33 33 (.slice (some ⟨G, 0, none⟩) n c)).run Tryd.prog (w.alloc (.cells C 5)) = .ok (.slice (some ⟨G, 0, none⟩) n c) (w.alloc (.cells C 5 (C.size, C.size + 1))) := fun w C n c G hG => by subst hG; exact conv_lit0 w C n c
  go_enter Tryd.func59, Tryd.ntmps59
  go_wp2_with fail
  have hb1 := below_alloc1 w (.cells #[.int .i64 (f : Int), .int .i64 (f : Int)] 75)
  have hd1 := HB.new (w.alloc (.cells #[.int .i64 (f : Int), .int .i64 (f : Int)] 75)) 28 zdig
  have hb2 := hb1.alloc hb1.size (.cells zdig.toArray 28)
  have hN : (w.alloc (.cells #[.int .i64 (f : Int), .int .i64 (f : Int)] 75)).heap.size = w.heap.size + 1 := by simp
  have hM : ((w.alloc (.cells #[.int .i64 (f : Int), .int .i64 (f : Int)] 75)).alloc (.cells zdig.toArray 28)).heap.size = w.heap.size + 2 := by simp
  rw [hN] at hd1
  generalize (w.alloc (.cells #[.int .i64 (f : Int), .int .i64 (f : Int)] 75)).alloc (.cells zdig.toArray 28) = w2 at *
  have hl := slot_lit w2 5 (4, 5) 110 111 110 101
  have hk2 := hk.below hb2 hk.2.2
  have hb3 := below_alloc1 w2 (.cells #[.int .u8 110, .int .u8 111, .int .u8 110, .int .u8 101] 5 (4, 5))
  have hk3 := hk2.below hb3 hk2.2.2
  rw [hM] at hl
  have hof := Lib.hid (of_lit (w2.alloc (.cells #[.int .u8 110, .int .u8 111, .int .u8 110, .int .u8 101] 5 (4, 5))) _ _ (w.heap.size + 3) 1 (by simp [hM]) rfl (Lists.cons (hl.wide (by simp [hM])) (Lists.nothing _ _)) (by decide) hk3)
  have hb4' := (hb2.trans (hb3.mono hb2.size))
  have hb5 := hb4'.alloc hb4'.size (.cells #[.slice (some ⟨w.heap.size + 2, 0, none⟩) 4 4] 33)
  have hd5 := (hd1.below hb3 hd1.lt).alloc (.cells #[.slice (some ⟨w.heap.size + 2, 0, none⟩) 4 4] 33)
  clear hl hk2 hb3 hk3 hb4' hb2 hd1 hb1 hM hN hk hz kc kc2
  refine hof.out.mono ?_
  rintro e w4 ⟨rfl, hB4⟩
  have hd4 := hd5.below hB4 hd5.lt
  have hb4 := hb5.trans (hB4.mono hb5.size)
  have HI := dig_info (shaF_len noneB)
  have HS := dig_size (shaF_len noneB)
  have HA := dig_one (shaF noneB)
  have hr := hd4.row (bys (shaF noneB)).toArray
  have hB6 := Below.setRow_ hb4 (show w.heap.size ≤ w.heap.size + 1 by omega) (bys (shaF noneB)).toArray
  have hnb : joinF [[110, 111, 110, 101]] = noneB := rfl
  rw [hnb]
  clear hof hd5 hb5 hB4 hb4 hnb
  generalize shaF noneB = l at *
  go_wp2_with (refine wpList_store_row rfl 28 _ _ rfl (w.heap.size + 1) (bys l).toArray rfl rfl 28 _ hd4 HI.out HS.out HA.out ?_)
  refine bodyPost_ret (v := .agg (bys l).toArray) (results_cell_row rfl _ _ (w.heap.size + 1) 28 (bys l).toArray (0, 0) _ rfl hr Tryd.underlying28 rfl HI.out) rfl ?_
  exact ⟨by rw [Hd.out], hB6⟩
end Go.Proofs.YthmkdlnocdbhjaaDoor
