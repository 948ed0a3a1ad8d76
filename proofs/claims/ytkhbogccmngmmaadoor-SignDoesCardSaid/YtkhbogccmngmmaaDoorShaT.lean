/- sha.takeNumber: a number off the front of bytes. -/
import Derived.Test.YtkhbogccmngmmaaDoorShaJ
import Derived.Deep.QuietTactic
import Derived.BigQuiet
import Derived.RegionTactic
namespace Go.Proofs.YtkhbogccmngmmaaDoor
open Go.RowKit

theorem takeNumber_no (A : Option Addr) (n c : Nat) (w : World) (hn : n < 8) :
    Calls Tryd.prog 98 #[.slice A n c] w fun e w' => e = .returned (.tuple #[.int .u64 0, .slice none 0 0, .bool false]) ∧ w' = w := by
  go_enter Tryd.func98, Tryd.ntmps98
  go_wp2
  go_ret3
  exact ⟨rfl, rfl⟩

set_option maxRecDepth 20000 in
set_option maxHeartbeats 800000 in
theorem takeNumber_yes (B : Nat) (A : Option Addr) (n c : Nat) (l : List UInt8) (w : World) (hs : Sees w B 1 A n (bys l)) (hn : 8 ≤ n) (hc : n ≤ c) (hm : c ≤ 9223372036854775807) :
    Calls Tryd.prog 98 #[.slice A n c] w fun e w' => e = .returned (.tuple #[.int .u64 (un8 (l.take 8)), .slice (if c = 8 then A else A.map (·.add 8)) (n - 8) (c - 8), .bool true]) ∧ ∃ d, w' = w.drewN d := by
  go_enter Tryd.func98, Tryd.ntmps98
  go_wp2
  go_loop [5, 14] (fun u i => ∃ k : Nat, k ≤ 8 ∧ i = .int .i64 (k : Int) ∧ u = .int .u64 (un8 (l.take k) : Int))
    (fun _ i => 8 - (intOf i).toNat)
  case atStart => exact ⟨0, by omega, rfl, by simp [un8]⟩
  case round =>
    obtain ⟨k, hk, rfl, rfl⟩ := hrel
    rcases Nat.lt_or_ge k 8 with hlt | hge
    · obtain ⟨ad, hl, rfl, -, hcell⟩ := hs.byte (k := k) (by omega)
      have hu := Lib.hid (un8_take l k hl hlt)
      have hb : (l[k]'hl).toNat < 256 := UInt8.toNat_lt _
      clear hs
      go_wp2
      go_round
      case rel => exact ⟨k + 1, by omega, by go_num, hu.out⟩
      case measure => simp [intOf]; omega
    · obtain rfl : k = 8 := by omega
      go_wp2
      go_quiet (fail)
      go_wp2
      all_goals go_ret3
      all_goals exact ⟨by simp, _, rfl⟩

theorem takeNumber_any (B : Nat) (A : Option Addr) (n c : Nat) (l : List UInt8) (w : World) (hs : Sees w B 1 A n (bys l)) (hn : 8 ≤ n) (hc : n ≤ c) (hm : c ≤ 9223372036854775807) :
    Calls Tryd.prog 98 #[.slice A n c] w fun e w' => ∃ A' d, e = .returned (.tuple #[.int .u64 (un8 (l.take 8)), .slice A' (n - 8) (c - 8), .bool true]) ∧ Sees w B 1 A' (n - 8) (bys (l.drop 8)) ∧ w' = w.drewN d :=
  (takeNumber_yes B A n c l w hs hn hc hm).mono fun _ _ ⟨he, d, hd⟩ => ⟨_, d, he, by have h := hs.drop hn hc; simpa [bys] using h, hd⟩
end Go.Proofs.YtkhbogccmngmmaaDoor
