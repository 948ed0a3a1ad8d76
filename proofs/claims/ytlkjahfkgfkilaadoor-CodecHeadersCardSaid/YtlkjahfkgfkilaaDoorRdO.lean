/- Decoding: numbers, digests. -/
import Derived.Test.YtlkjahfkgfkilaaDoorRd
namespace Go.Proofs.YtlkjahfkgfkilaaDoor
open Go.RowKit

theorem un8_step (l : List UInt8) (k : Nat) (hl : k < l.length) (hk : k < 8) :
    Value.int .u64 (bits .or .u64 (IntKind.u64.wrap ((un8 (l.take k) : Int) * 256)) (IntKind.u64.wrap ((l[k]'hl).toNat : Int))) = .int .u64 (un8 (l.take (k + 1)) : Int) := by
  have hb := UInt8.toNat_lt (l[k]'hl)
  rw [u64_wrap_id ((l[k]'hl).toNat : Int) (by omega) (by omega)]
  exact un8_take l k hl hk
theorem take_all8 {l : List UInt8} (h : l.length = 8) : l.take 8 = l := by rw [← h]; exact List.take_length
theorem un8_wrap (n : Nat) (hn : n < 18446744073709551616) : IntKind.u64.wrap (wrap64 (n : Int)) = (n : Int) := by
  rw [← IntWalk.i64_left]; exact wrap_back .i64 (.inl rfl) n hn

set_option maxRecDepth 20000 in
set_option maxHeartbeats 1600000 in
theorem numberOf_int_any (w0 : World) : Reads1 Tryd.prog w0 32 #[] (numR .i64) numF := by
  intro w _ p A c b ha hF
  have hl8 : b.length = 8 := hF
  have hs := ha.sees
  have hc := ha.cap
  have hm := ha.max
  have hcs := un8_lt b
  rw [hl8] at hs hc hcs
  show Calls _ _ #[.slice A b.length c] _ _
  rw [hl8]
  have hwb := Lib.hid (un8_wrap (un8 b) hcs)
  have ht8 := Lib.hid (take_all8 hl8)
  have hL := Lib.hid hl8
  have hN := Lib.hid hcs
  clear ha hF hl8 hcs
  go_enter Tryd.func32, Tryd.ntmps32
  go_wp2
  go_loop [4, 6, 14] (fun u _ i => ∃ k : Nat, k ≤ 8 ∧ i = .int .i64 (k : Int) ∧ u = .int .u64 (un8 (b.take k) : Int)) (fun _ _ i => (8 - intOf i).toNat)
  case atStart => exact ⟨0, by omega, rfl, by simp [un8]⟩
  case round =>
    obtain ⟨k, hk, rfl, rfl⟩ := hrel
    rcases Nat.lt_or_ge k 8 with hlt | hge
    · obtain ⟨ad, hlb, rfl, hab, hcell⟩ := hs.byte hlt
      have hk8 : (k : Int) < 8 := by omega
      have hst := Lib.hid (un8_step b k hlb hlt)
      go_wp2
      go_round
      case rel => exact ⟨k + 1, by omega, by go_num, hst.out⟩
      case measure => simp [intOf]; omega
    · obtain rfl : k = 8 := by omega
      rw [ht8.out]
      have hwb' := hwb.out
      go_wp2
      go_ret2
      exact ⟨_, rfl, ⟨un8 b, hN.out, (b8_un8 b hL.out).symm, by rw [IntWalk.i64_left]; rfl⟩, Below.refl _ _⟩

set_option maxRecDepth 20000 in
set_option maxHeartbeats 1600000 in
theorem numberOf_i64_any (w0 : World) : Reads1 Tryd.prog w0 40 #[] (numR .i64) numF := by
  intro w _ p A c b ha hF
  have hl8 : b.length = 8 := hF
  have hs := ha.sees
  have hc := ha.cap
  have hm := ha.max
  have hcs := un8_lt b
  rw [hl8] at hs hc hcs
  show Calls _ _ #[.slice A b.length c] _ _
  rw [hl8]
  have hwb := Lib.hid (un8_wrap (un8 b) hcs)
  have ht8 := Lib.hid (take_all8 hl8)
  have hL := Lib.hid hl8
  have hN := Lib.hid hcs
  clear ha hF hl8 hcs
  go_enter Tryd.func40, Tryd.ntmps40
  go_wp2
  go_loop [4, 6, 14] (fun u _ i => ∃ k : Nat, k ≤ 8 ∧ i = .int .i64 (k : Int) ∧ u = .int .u64 (un8 (b.take k) : Int)) (fun _ _ i => (8 - intOf i).toNat)
  case atStart => exact ⟨0, by omega, rfl, by simp [un8]⟩
  case round =>
    obtain ⟨k, hk, rfl, rfl⟩ := hrel
    rcases Nat.lt_or_ge k 8 with hlt | hge
    · obtain ⟨ad, hlb, rfl, hab, hcell⟩ := hs.byte hlt
      have hk8 : (k : Int) < 8 := by omega
      have hst := Lib.hid (un8_step b k hlb hlt)
      go_wp2
      go_round
      case rel => exact ⟨k + 1, by omega, by go_num, hst.out⟩
      case measure => simp [intOf]; omega
    · obtain rfl : k = 8 := by omega
      rw [ht8.out]
      have hwb' := hwb.out
      go_wp2
      go_ret2
      exact ⟨_, rfl, ⟨un8 b, hN.out, (b8_un8 b hL.out).symm, by rw [IntWalk.i64_left]; rfl⟩, Below.refl _ _⟩
end Go.Proofs.YtlkjahfkgfkilaaDoor
