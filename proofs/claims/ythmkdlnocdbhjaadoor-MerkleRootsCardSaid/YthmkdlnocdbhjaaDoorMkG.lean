/- merkle.digest, merkle.Root. -/
import Derived.Test.YthmkdlnocdbhjaaDoorMkQ
import Derived.Laws.EntriesVeiled
namespace Go.Proofs.YthmkdlnocdbhjaaDoor
open Go.RowKit

set_option maxRecDepth 20000 in
set_option maxHeartbeats 3200000 in
theorem digest_any (B : Nat) (A : Option Addr) (c : Nat) (vs : List Value) (ls : List (List UInt8)) (w : World) (hs : Sees w B 1 A ls.length vs) (hl : Lists w B vs ls) (hB : B ≤ w.heap.size) (hsm : ∀ (i : Nat) (l : List UInt8), ls[i]? = some l → l.length ≤ 140737488351232) (h63 : ls.length < 9223372036854775808) (hk : Consts w) :
    Calls Tryd.prog 38 #[.slice A ls.length c] w (Digs w (dig ls 0 ls.length)) := by
  have hz := Tryd.zeroDig
  have hmf : ∀ (fn : Fn) (first cap : Array Value) (w : World), (Instr.makeFunc fn first cap).run Tryd.prog w = .ok (.func fn first cap) w := fun _ _ _ _ => rfl
  have hcl : (w.alloc (.cells #[.slice A ls.length c] 22)).heap.size = w.heap.size + 1 := by simp
  go_enter Tryd.func38, Tryd.ntmps38
  go_wp2_with fail
  obtain ⟨W1, hW1⟩ : ∃ W1 : World, W1 = w.alloc (.cells #[.slice A ls.length c] 22) := ⟨_, rfl⟩
  obtain ⟨W2, hW2⟩ : ∃ W2 : World, W2 = W1.alloc (.cells zdig.toArray 28) := ⟨_, rfl⟩
  obtain ⟨W3, hW3⟩ : ∃ W3 : World, W3 = W2.alloc (.cells #[.func (.func 59) #[] #[.pointer (some ⟨w.heap.size, 0, none⟩), .pointer (some ⟨w.heap.size + 2, 0, none⟩)]] 117) := ⟨_, rfl⟩
  have z1 : W1.heap.size = w.heap.size + 1 := by rw [hW1]; simp
  have z2 : W2.heap.size = w.heap.size + 2 := by rw [hW2]; simp; omega
  have z3 : W3.heap.size = w.heap.size + 3 := by rw [hW3]; simp; omega
  have B1 : Below w.heap.size w W1 := by rw [hW1]; exact below_alloc1 _ _
  have B2 : Below w.heap.size w W2 := by rw [hW2]; exact B1.alloc B1.size _
  have B3 : Below w.heap.size w W3 := by rw [hW3]; exact B2.alloc B2.size _
  have g1 : HB W1 w.heap.size 22 [.slice A ls.length c] := by rw [hW1]; exact HB.new w _ _
  have g3 : HB W3 w.heap.size 22 [.slice A ls.length c] := by rw [hW3]; refine HB.alloc ?_ _; rw [hW2]; exact g1.alloc _
  have d2 : HB W2 (w.heap.size + 1) 28 zdig := by rw [hW2, ← z1]; exact HB.new W1 _ _
  have d3 : HB W3 (w.heap.size + 1) 28 zdig := by rw [hW3]; exact d2.alloc _
  have o3 : HB W3 (w.heap.size + 2) 117 [.func (.func 59) #[] #[.pointer (some ⟨w.heap.size, 0, none⟩), .pointer (some ⟨w.heap.size + 2, 0, none⟩)]] := by
    have h := HB.new W2 117 [.func (.func 59) #[] #[.pointer (some ⟨w.heap.size, 0, none⟩), .pointer (some ⟨w.heap.size + 2, 0, none⟩)]]
    rw [z2] at h
    rw [hW3]; exact h
  have hD : DigW W3 w.heap.size (w.heap.size + 2) A c vs ls := ⟨g3, o3, (hs.below (B3.mono hB)).wide (Nat.le_trans hB B3.size), (hl.below (B3.mono hB)).wide (Nat.le_trans hB B3.size), hsm, h63, hk.below B3 hk.2.2⟩
  have hrec := Lib.hid (dig_rec w.heap.size (w.heap.size + 2) A c vs ls ls.length 0 ls.length (by omega) (by omega) (Nat.le_refl _) W3 hD)
  refine (show Calls Tryd.prog 59 #[.agg #[.int .i64 0, .int .i64 (ls.length : Int)], .pointer (some ⟨w.heap.size, 0, none⟩), .pointer (some ⟨w.heap.size + 2, 0, none⟩)] _ (Digs _ _) by (have h := hrec.out; rw [hW3, hW2, hW1] at h; exact h)).mono ?_
  rw [← hW1, ← hW2, ← hW3]
  rintro e w4 ⟨rfl, hB4⟩
  have hd4 := d3.below hB4 d3.lt
  have hb4 := B3.trans (hB4.mono B3.size)
  have HI := dig_info (dig_len ls 0 ls.length)
  have HS := dig_size (dig_len ls 0 ls.length)
  have HA := dig_one (dig ls 0 ls.length)
  have hr := hd4.row (bys (dig ls 0 ls.length)).toArray
  have hB6 := Below.setRow_ hb4 (show w.heap.size ≤ w.heap.size + 1 by omega) (bys (dig ls 0 ls.length)).toArray
  clear hrec hD o3 d3 d2 g3 g1 B1 B2 B3 z1 z2 z3 hB4 hb4 hs hl hsm hk
  clear hW3 hW2 hW1
  generalize dig ls 0 ls.length = l at *
  go_wp2_with (refine wpList_store_row rfl 28 _ _ rfl (w.heap.size + 1) (bys l).toArray rfl rfl 28 _ hd4 HI.out HS.out HA.out ?_)
  refine bodyPost_ret (v := .agg (bys l).toArray) (results_cell_row rfl _ _ (w.heap.size + 1) 28 (bys l).toArray (0, 0) _ rfl hr Tryd.underlying28 rfl HI.out) rfl ?_
  exact ⟨rfl, hB6⟩

/-- The root of a list. -/
def rootF (ls : List (List UInt8)) : List UInt8 := shaF (rootB ls.length (dig ls 0 ls.length))
set_option maxRecDepth 20000 in
set_option maxHeartbeats 3200000 in
theorem rootOf_any (B : Nat) (A : Option Addr) (c : Nat) (vs : List Value) (ls : List (List UInt8)) (w : World) (hs : Sees w B 1 A ls.length vs) (hl : Lists w B vs ls) (hB : B ≤ w.heap.size) (hsm : ∀ (i : Nat) (l : List UInt8), ls[i]? = some l → l.length ≤ 140737488351232) (h63 : ls.length < 9223372036854775808) (hk : Consts w) :
    Calls Tryd.prog 13 #[.slice A ls.length c] w (Digs w (rootF ls)) := by
  have hz := Tryd.zeroDig
  have hb1 := below_alloc1 w (.cells zdig.toArray 28)
  have hd1 := HB.new w 28 zdig
  have hk1 := hk.below hb1 hk.2.2
  have hdg := Lib.hid (digest_any B A c vs ls (w.alloc (.cells zdig.toArray 28)) (hs.alloc hB _) (hl.below (hb1.mono hB)) (by simp; omega) hsm h63 hk1)
  have hrf : rootF ls = shaF (rootB ls.length (dig ls 0 ls.length)) := rfl
  have Hrf := Lib.hid hrf
  have h63' : ((ls.length : Nat) : Int) < 9223372036854775808 := by omega
  clear hs hl hsm hrf hk
  go_enter Tryd.func13, Tryd.ntmps13
  go_wp2_with fail
  refine hdg.out.mono ?_
  generalize w.alloc (.cells zdig.toArray 28) = w1 at *
  rintro e w2 ⟨rfl, hB2⟩
  have hd2 := hd1.below hB2 hd1.lt
  have hb2 := hb1.trans (hB2.mono hb1.size)
  have hk2 := hk1.below hB2 hk1.2.2
  have hrt := Lib.hid (root_any ls.length h63 (dig ls 0 ls.length) w2 (dig_len _ _ _))
  have hlb : (rootB ls.length (dig ls 0 ls.length)).length ≤ 1152921504606846974 := by rw [rootB_len, dig_len]; omega
  clear hdg hd1 hb1 hk1 hB2
  have Hlb := Lib.hid hlb
  clear hlb
  generalize dig ls 0 ls.length = d at *
  go_wp2_with fail
  refine hrt.out.mono ?_
  rintro e w3 ⟨v3, rfl, ho, hB3⟩
  have hd3 := hd2.below hB3 hd2.lt
  have hb3 := hb2.trans (hB3.mono hb2.size)
  have hk3 := hk2.below hB3 hk2.2.2
  have hsu := Lib.hid (sum_wrote ho hk3 Hlb.out)
  clear hrt hd2 hB3 hb2 hk2 ho
  go_wp2_with fail
  refine hsu.out.mono ?_
  rintro e w4 ⟨rfl, hB4⟩
  have hd4 := hd3.below hB4 hd3.lt
  have hb4 := hb3.trans (hB4.mono hb3.size)
  have HI := dig_info (shaF_len (rootB ls.length d))
  have HS := dig_size (shaF_len (rootB ls.length d))
  have HA := dig_one (shaF (rootB ls.length d))
  have hr := hd4.row (bys (shaF (rootB ls.length d))).toArray
  have hB6 := Below.setRow_ hb4 (Nat.le_refl _) (bys (shaF (rootB ls.length d))).toArray
  clear hsu hd3 hb3 hB4 hb4
  generalize shaF (rootB ls.length d) = l at *
  go_wp2_with (refine wpList_store_row rfl 28 _ _ rfl w.heap.size (bys l).toArray rfl rfl 28 _ hd4 HI.out HS.out HA.out ?_)
  refine bodyPost_ret (v := .agg (bys l).toArray) (results_cell_row rfl _ _ w.heap.size 28 (bys l).toArray (0, 0) _ rfl hr Tryd.underlying28 rfl HI.out) rfl ?_
  exact ⟨by rw [Hrf.out], hB6⟩
end Go.Proofs.YthmkdlnocdbhjaaDoor
