/- wapentakeref01.Of; wapentakeref05.Tag. -/
import Derived.Test.YtkhbogccmngmmaaDoorSdH
import Derived.Test.YtkhbogccmngmmaaDoorRj
import Derived.Test.YtkhbogccmngmmaaDoorRsG
namespace Go.Proofs.YtkhbogccmngmmaaDoor
open Go.RowKit

/-- The sum of what a call wrote. -/
theorem rsumw {w w1 : World} {v : Value} {b : List UInt8} (ho : w1.ownsRow w.heap.size 5 1 v b.length (bys b)) (hb : b.length ≤ 140737488353000) :
    Calls Tryd.prog 23 #[v] w1 (Digs w1 (shaF b)) := by
  obtain ⟨A, c, rfl, hc, hm, _, hs⟩ := own_slice ho
  exact rsum_any w1.heap.size A c b w1 hs (Nat.le_refl _) hb
theorem info32 {d : List UInt8} (h : d.length = 32) : Hid ((Tryd.prog.info? 23).map (·.size) = some (bys d).toArray.size) := Lib.hid (by rw [List.size_toArray, bys_len, h]; kernel_rfl)

set_option maxRecDepth 20000 in
set_option maxHeartbeats 1600000 in
theorem rof_any (B : Nat) (A : Option Addr) (c : Nat) (vs : List Value) (ls : List (List UInt8)) (w : World) (hs : Sees w B 1 A ls.length vs) (hl : Lists w B vs ls) (hB : B ≤ w.heap.size) (hT : (joinF ls).length ≤ 140737488353000) :
    Calls Tryd.prog 84 #[.slice A ls.length c] w (Digs w (shaF (joinF ls))) := by
  have hb1 := (Below.refl w.heap.size w).alloc (Nat.le_refl _) (.cells zdig.toArray 23)
  have hj := Lib.hid (rjoinB_any B A c vs ls (w.alloc (.cells zdig.toArray 23)) (hs.alloc hB _) (hl.below (hb1.mono hB)) (by simp; omega) hT)
  have hd1 := HB.new w 23 zdig
  have hN := hd1.lt
  have hz : ∀ W, (zeroValue 23).run Tryd.prog W = .ok (.agg zdig.toArray) W := fun W => by kernel_rfl
  have hlen := Lib.hid hT
  clear hs hl hT
  go_enter Tryd.func84, Tryd.ntmps84
  go_wp2_with fail
  refine hj.out.mono ?_
  generalize w.alloc (.cells zdig.toArray 23) = w1 at *
  rintro e w2 ⟨v2, rfl, ho, hB2⟩
  have hsm := Lib.hid (rsumw ho hlen.out)
  have hd2 := hd1.below hB2 hN
  have hB12 := hb1.trans (hB2.mono hb1.size)
  clear ho hj hB2 hd1 hb1
  go_wp2_with fail
  refine hsm.out.mono ?_
  rintro e w3 ⟨rfl, hB3⟩
  have hd3 := hd2.below hB3 hd2.lt
  have hB13 := hB12.trans (hB3.mono hB12.size)
  have HI := info32 (shaF_len (joinF ls))
  have HS := dig_size (shaF_len (joinF ls))
  have HA := dig_one (shaF (joinF ls))
  have hr := hd3.row (bys (shaF (joinF ls))).toArray
  have hB6 := Below.setRow_ hB13 (Nat.le_refl _) (bys (shaF (joinF ls))).toArray
  clear hsm hd2 hB12 hB3 hlen hB13
  generalize shaF (joinF ls) = l at *
  go_wp2_with (refine wpList_store_row rfl 23 _ _ rfl w.heap.size (bys l).toArray rfl rfl 23 _ hd3 HI.out HS.out HA.out ?_)
  refine bodyPost_ret (v := .agg (bys l).toArray) (results_cell_row rfl _ _ w.heap.size 23 (bys l).toArray (0, 0) _ rfl hr Tryd.underlying23 rfl HI.out) rfl ?_
  exact ⟨rfl, hB6⟩

/-- A list without signings. -/
theorem ring5_new (w : World) (nk bud : Int) (r : Nat) (hr : HB w r 118 [.int .i64 nk, .int .i64 bud, .slice none 0 0]) : Ring5 w w.heap.size r nk bud (.slice none 0 0) [] := ⟨hr, World.ownsRow_nil _ _ _ _⟩

set_option maxRecDepth 20000 in
set_option maxHeartbeats 1600000 in
theorem new5_no (nk bud : Int) (h : ¬ (1 ≤ nk ∧ nk ≤ 12 ∧ 1 ≤ bud ∧ bud ≤ 65536)) (w : World) :
    Calls Tryd.prog 26 #[.int .i64 nk, .int .i64 bud] w fun e w' => e = .returned (.pointer none) ∧ Below w.heap.size w w' := by
  by_cases h1 : nk < 1
  · clear h
    go_enter Tryd.func26, Tryd.ntmps26
    go_wp2
    go_ret
    exact ⟨rfl, Below.refl _ _⟩
  · by_cases h2 : 12 < nk
    · clear h
      go_enter Tryd.func26, Tryd.ntmps26
      go_wp2
      go_ret
      exact ⟨rfl, Below.refl _ _⟩
    · by_cases h3 : bud < 1
      · clear h
        go_enter Tryd.func26, Tryd.ntmps26
        go_wp2
        go_ret
        exact ⟨rfl, Below.refl _ _⟩
      · have h4 : 65536 < bud := by omega
        clear h
        go_enter Tryd.func26, Tryd.ntmps26
        go_wp2
        go_ret
        exact ⟨rfl, Below.refl _ _⟩

set_option maxRecDepth 20000 in
set_option maxHeartbeats 1600000 in
theorem new5_yes (nk bud : Int) (h1 : 1 ≤ nk) (h2 : nk ≤ 12) (h3 : 1 ≤ bud) (h4 : bud ≤ 65536) (w : World) :
    Calls Tryd.prog 26 #[.int .i64 nk, .int .i64 bud] w fun e w' => e = .returned (.pointer (some ⟨w.heap.size, 0, none⟩)) ∧ HB w' w.heap.size 118 [.int .i64 nk, .int .i64 bud, .slice none 0 0] ∧ Below w.heap.size w w' := by
  go_enter Tryd.func26, Tryd.ntmps26
  go_wp2_with fail
  go_ret
  exact ⟨rfl, HB.new w _ _, below_alloc1 w _⟩
end Go.Proofs.YtkhbogccmngmmaaDoor
