/- sha.Of: the digest of joined parts. -/
import Derived.Test.YtapbaonlboefeaaDoorJb
import Derived.Test.YtapbaonlboefeaaDoorShaV
namespace Go.Proofs.YtapbaonlboefeaaDoor
open Go.RowKit

/-- Called so it hands back these 32 bytes as an array, and all that lay before lies. -/
def Digs (w : World) (d : List UInt8) (e : Ending) (w' : World) : Prop := e = .returned (.agg (bys d).toArray) ∧ Below w.heap.size w w'
/-- sha.Sum of what a call wrote. -/
theorem sum_wrote {w w1 : World} {v : Value} {b : List UInt8} (ho : w1.ownsRow w.heap.size 5 1 v b.length (bys b)) (hk : Consts w1) (hb : b.length ≤ 1152921504606846974) :
    Calls Tryd.prog 34 #[v] w1 (Digs w1 (shaF b)) := by
  obtain ⟨A, c, rfl, hc, hm, _, hs⟩ := own_slice ho
  exact sum_any w1.heap.size A c b w1 hs (Nat.le_refl _) hc hm hb hk

/-- A digest's zero. -/
def zdig : List Value := bys (zeros 32)
theorem zdig_len : zdig.length = 32 := by simp [zdig, bys_len, zeros_len]
theorem Tryd.zeroDig (W : World) : (zeroValue 24).run Tryd.prog W = .ok (.agg zdig.toArray) W := by kernel_rfl
theorem dig_info {d : List UInt8} (h : d.length = 32) : Hid ((Tryd.prog.info? 24).map (·.size) = some (bys d).toArray.size) := Lib.hid (by rw [List.size_toArray, bys_len, h]; exact Tryd.infoD)
theorem dig_size {d : List UInt8} (h : d.length = 32) : Hid (zdig.toArray.size = (bys d).toArray.size) := Lib.hid (by rw [List.size_toArray, List.size_toArray, bys_len, h, zdig_len])
theorem dig_size2 {d d' : List UInt8} (h : d.length = 32) (h' : d'.length = 32) : Hid ((bys d).toArray.size = (bys d').toArray.size) := Lib.hid (by rw [List.size_toArray, List.size_toArray, bys_len, h, bys_len, h'])
theorem dig_one (d : List UInt8) : Hid ((bys d).toArray.all (·.oneCell') = true) := Lib.hid (bys_all d)

set_option maxRecDepth 20000 in
set_option maxHeartbeats 1600000 in
theorem of_any (B : Nat) (A : Option Addr) (c : Nat) (vs : List Value) (ls : List (List UInt8)) (w : World) (hs : Sees w B 1 A ls.length vs) (hl : Lists w B vs ls) (hB : B ≤ w.heap.size) (hT : (joinF ls).length ≤ 140737488355328) (hk : Consts w) :
    Calls Tryd.prog 23 #[.slice A ls.length c] w (Digs w (shaF (joinF ls))) := by
  have h2w := hk.2.2
  have hb1 := (Below.refl w.heap.size w).alloc (Nat.le_refl _) (.cells zdig.toArray 24)
  have hj := Lib.hid (join_any B A c vs ls (w.alloc (.cells zdig.toArray 24)) (hs.alloc hB _) (hl.below (hb1.mono hB)) (by simp; omega) hT)
  have hd1 := HB.new w 24 zdig
  have hk1 := hk.below hb1 h2w
  have hN := hd1.lt
  have hz := Tryd.zeroDig
  have hlen := Lib.hid (show (joinF ls).length ≤ 1152921504606846974 by omega)
  clear hs hl hT
  go_enter Tryd.func23, Tryd.ntmps23
  go_wp2_with fail
  refine hj.out.mono ?_
  generalize w.alloc (.cells zdig.toArray 24) = w1 at *
  rintro e w2 ⟨v2, rfl, ho, hB2⟩
  have hk2 := hk1.below hB2 (by omega)
  have hsm := Lib.hid (sum_wrote ho hk2 hlen.out)
  have hd2 := hd1.below hB2 hN
  have hB12 := hb1.trans (hB2.mono hb1.size)
  clear ho hk1 hk2 hj hB2 hd1 hb1
  go_wp2_with fail
  refine hsm.out.mono ?_
  rintro e w3 ⟨rfl, hB3⟩
  have hd3 := hd2.below hB3 hd2.lt
  have hB13 := hB12.trans (hB3.mono hB12.size)
  have HI := dig_info (shaF_len (joinF ls))
  have HS := dig_size (shaF_len (joinF ls))
  have HA := dig_one (shaF (joinF ls))
  have hr := hd3.row (bys (shaF (joinF ls))).toArray
  have hB6 := Below.setRow_ hB13 (Nat.le_refl _) (bys (shaF (joinF ls))).toArray
  clear hsm hd2 hB12 hB3 hlen hB13
  generalize shaF (joinF ls) = l at *
  go_wp2_with (refine wpList_store_row rfl 24 _ _ rfl w.heap.size (bys l).toArray rfl rfl 24 _ hd3 HI.out HS.out HA.out ?_)
  refine bodyPost_ret (v := .agg (bys l).toArray) (results_cell_row rfl _ _ w.heap.size 24 (bys l).toArray (0, 0) _ rfl hr Tryd.underlying24 rfl HI.out) rfl ?_
  exact ⟨rfl, hB6⟩
end Go.Proofs.YtapbaonlboefeaaDoor
