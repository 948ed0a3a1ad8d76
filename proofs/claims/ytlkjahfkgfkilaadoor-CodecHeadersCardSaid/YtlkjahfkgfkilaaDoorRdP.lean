/- Decoding: the reader is opened. -/
import Derived.Test.YtlkjahfkgfkilaaDoorRd
namespace Go.Proofs.YtlkjahfkgfkilaaDoor
open Go.RowKit

set_option maxRecDepth 20000 in
set_option maxHeartbeats 1600000 in
theorem open_any (w : World) (p : Nat → Prop) (A : Option Addr) (c : Nat) (b : List UInt8) (ps : List (List UInt8)) (ha : Arg w p A c b) (hsp : splitF b = some ps) :
    Calls Tryd.prog 29 #[.slice A b.length c] w fun e w' => ∃ G, e = .returned (.pointer (some ⟨G, 0, none⟩)) ∧ Rdr w w' G ps 0 := by
  have hs := (split_any w.heap.size A c b w ha.sees (Nat.le_refl _) ha.cap ha.max ha.len)
  rw [hsp] at hs
  have Hs := Lib.hid hs
  have hsmall : ∀ q ∈ ps, q.length ≤ 1099511627776 := fun q hq => by
    have h1 := join_split b ps hsp
    obtain ⟨i, hi⟩ := List.mem_iff_getElem?.1 hq
    obtain ⟨hi1, hi2⟩ := List.getElem?_eq_some_iff.1 hi
    have h2 := part_le hi1
    have h3 := ha.len
    rw [h1, hi2] at h2
    omega
  clear hs ha
  go_enter Tryd.func29, Tryd.ntmps29
  go_wp2_with fail
  refine Hs.out.mono ?_
  rintro e w1 ⟨hB, v, vs, rfl, hown, hls, hmi⟩
  obtain ⟨A1, c1, rfl, hc1, hcm1, hmine1, hsee1⟩ := own_slice hown
  have hbl := hB.alloc (a := w) hB.size (.cells #[Value.slice A1 ps.length c1, Value.int IntKind.i64 ((0 : Nat) : Int), Value.nilIface] 103)
  have hst : ∀ A n xs, Sees w1 w1.heap.size 1 A n xs → Sees (w1.alloc (.cells #[Value.slice A1 ps.length c1, Value.int IntKind.i64 ((0 : Nat) : Int), Value.nilIface] 103)) w1.heap.size 1 A n xs := fun A n xs h => h.alloc (Nat.le_refl _) _
  have hrow : (w1.alloc (.cells #[Value.slice A1 ps.length c1, Value.int IntKind.i64 ((0 : Nat) : Int), Value.nilIface] 103)).heap[w1.heap.size]? = some (.cells #[Value.slice A1 ps.length c1, Value.int IntKind.i64 ((0 : Nat) : Int), Value.nilIface] 103) := heap_alloc_new w1 _
  have hR : Rdr w (w1.alloc (.cells #[Value.slice A1 ps.length c1, Value.int IntKind.i64 ((0 : Nat) : Int), Value.nilIface] 103)) w1.heap.size ps 0 :=
    ⟨hbl, hB.size, ⟨A1, c1, vs, hrow, hc1, hcm1, hst _ _ _ hsee1, hls.imp hst, fun A n c hm ad e => ⟨(hmi A n c hm ad e).1, by obtain ⟨_, _, h⟩ := (hmi A n c hm ad e).2; exact lt_of_heap h⟩⟩, hsmall⟩
  clear hbl hst hrow hls hmi hmine1 hsee1 hown hB hsmall
  go_wp2
  go_ret
  exact ⟨_, rfl, hR⟩
end Go.Proofs.YtlkjahfkgfkilaaDoor
