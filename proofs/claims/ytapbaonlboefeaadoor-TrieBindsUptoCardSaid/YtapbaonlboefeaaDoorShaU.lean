/- sha.New. -/
import Derived.Test.YtapbaonlboefeaaDoorShaI
namespace Go.Proofs.YtapbaonlboefeaaDoor
open Go.RowKit

theorem write_any (B g : Nat) (A : Option Addr) (c : Nat) (m b : List UInt8) (w : World) (hh : HashAt w g m) (hs : Sees w B 1 A b.length (bys b)) (hap : Apart g A b.length) (hB : B ≤ w.heap.size) (hc : b.length ≤ c) (hcm : c ≤ 9223372036854775807) (hm : m.length + b.length ≤ 1152921504606846975) (hk : Consts w) (hg2 : max 2 1 + 1 ≤ g) :
    Calls Tryd.prog 56 #[.pointer (some ⟨g, 0, none⟩), .slice A b.length c] w fun e w' => e = .returned (.tuple #[]) ∧ HashAt w' g (m ++ b) ∧ w.grownBy w' (some g) := by
  rcases Nat.eq_zero_or_pos (m.length % 64) with h0 | h0
  · exact write_none B g A c m b _ w rfl hh hs hap hB hc hcm hm hk hg2 h0
  · exact write_some B g A c m b _ w rfl hh hs hap hB hc hcm hm hk hg2 h0

theorem Tryd.zeroHash (W : World) : (zeroValue 121).run Tryd.prog W = .ok (.agg #[Value.int .u32 0, Value.int .u32 0, Value.int .u32 0, Value.int .u32 0, Value.int .u32 0, Value.int .u32 0, Value.int .u32 0, Value.int .u32 0, Value.int .u8 0, Value.int .u8 0, Value.int .u8 0, Value.int .u8 0, Value.int .u8 0, Value.int .u8 0, Value.int .u8 0, Value.int .u8 0, Value.int .u8 0, Value.int .u8 0, Value.int .u8 0, Value.int .u8 0, Value.int .u8 0, Value.int .u8 0, Value.int .u8 0, Value.int .u8 0, Value.int .u8 0, Value.int .u8 0, Value.int .u8 0, Value.int .u8 0, Value.int .u8 0, Value.int .u8 0, Value.int .u8 0, Value.int .u8 0, Value.int .u8 0, Value.int .u8 0, Value.int .u8 0, Value.int .u8 0, Value.int .u8 0, Value.int .u8 0, Value.int .u8 0, Value.int .u8 0, Value.int .u8 0, Value.int .u8 0, Value.int .u8 0, Value.int .u8 0, Value.int .u8 0, Value.int .u8 0, Value.int .u8 0, Value.int .u8 0, Value.int .u8 0, Value.int .u8 0, Value.int .u8 0, Value.int .u8 0, Value.int .u8 0, Value.int .u8 0, Value.int .u8 0, Value.int .u8 0, Value.int .u8 0, Value.int .u8 0, Value.int .u8 0, Value.int .u8 0, Value.int .u8 0, Value.int .u8 0, Value.int .u8 0, Value.int .u8 0, Value.int .u8 0, Value.int .u8 0, Value.int .u8 0, Value.int .u8 0, Value.int .u8 0, Value.int .u8 0, Value.int .u8 0, Value.int .u8 0, Value.int .u64 0]) W := by kernel_rfl

set_option maxHeartbeats 1600000 in
set_option maxRecDepth 100000 in
theorem new_any (w : World) (hk : Consts w) :
    Calls Tryd.prog 55 #[] w fun e w' => e = .returned (.pointer (some ⟨w.heap.size, 0, none⟩)) ∧ HashAt w' w.heap.size [] ∧ Below w.heap.size w w' ∧ w.heap.size < w'.heap.size := by
  have c0 := hk.2.1 0 (by omega)
  have c1 := hk.2.1 1 (by omega)
  have c2 := hk.2.1 2 (by omega)
  have c3 := hk.2.1 3 (by omega)
  have c4 := hk.2.1 4 (by omega)
  have c5 := hk.2.1 5 (by omega)
  have c6 := hk.2.1 6 (by omega)
  have c7 := hk.2.1 7 (by omega)
  have hnew : HashAt (w.alloc (.cells (hashCells init0 (List.replicate 64 0) 0).toArray 121)) w.heap.size [] :=
    ⟨List.replicate 64 0, by simp, by simp [left_], HB.new w _ _⟩
  have hzv := Tryd.zeroHash
  go_enter Tryd.func55, Tryd.ntmps55
  go_wp2
  go_ret
  refine ⟨rfl, hnew, (Below.refl _ _).alloc (Nat.le_refl _) _, by simp⟩
end Go.Proofs.YtapbaonlboefeaaDoor
