/- sha.appendNumber and sha.takeNumber: a number's 8 bytes. -/
import Derived.Test.YthmkdlnocdbhjaaDoorMem
import Derived.Outline
namespace Go.Proofs.YthmkdlnocdbhjaaDoor
open Go.RowKit

theorem Tryd.infoByte : (Tryd.prog.info? 5).map (fun i => (i.zero, i.size, i.bytes)) = some (some (.int .u8 0), 1, 1) := by kernel_rfl

set_option maxRecDepth 20000 in
set_option maxHeartbeats 800000 in
theorem appendNumber_any (base : Nat) (v : Value) (m : Nat) (l : List UInt8) (n : Nat) (w : World) (hown : w.ownsRow base 5 1 v m (bys l)) (hbase : base ≤ w.heap.size) (hm : m + 8 ≤ 140737488355328) (hn : n < 9223372036854775808) :
    Calls Tryd.prog 70 #[v, .int .i64 n] w fun e w' => ∃ v', e = .returned v' ∧ w'.ownsRow base 5 1 v' (m + 8) (bys (l ++ b8 n)) ∧ w.grownBy w' v.ownBlock ∧ Moved w v.ownBlock v'.ownBlock := by
  obtain ⟨i0, hi, hz0, hz1, hz2⟩ := info_parts Tryd.infoByte
  go_enter Tryd.func70, Tryd.ntmps70
  go_wp2
  go_loopw [0, 5] (fun u i wr => ∃ k : Nat, k ≤ 8 ∧ i = .int .i64 (56 - 8 * (k : Int)) ∧ wr.ownsRow base 5 1 u (m + k) (bys (l ++ top8 n k)) ∧ w.grownBy wr v.ownBlock ∧ Moved w v.ownBlock u.ownBlock)
    (fun _ i _ => (intOf i + 8).toNat)
  case atStart => exact ⟨0, by omega, rfl, by simpa [top8] using hown, World.grownBy.refl w _, .inl rfl⟩
  case round =>
    obtain ⟨k, hk, rfl, hown1, hg, hat⟩ := hrel
    have hb : base ≤ wr.heap.size := Nat.le_trans hbase hg.size
    rcases Nat.lt_or_ge k 8 with hlt | hge
    · have h1 : 8 * (k:Int) ≤ 56 := by omega
      go_wp2_with (at_builtin; refine wpList_append_own_at _ rfl _ _ 33 rfl base 5 i0 (.int .u8 0) 1 1 Tryd.underlying33 hi hz0 hz1 hz2 rfl (by decide) _ _ _ rfl (hown1.alloc _) ⟨wr.heap.size, 0, none⟩ 1 1 [.int .u8 ((n : Int) / 2 ^ (56 - 8 * k) % 256)] rfl rfl (cell_one_new _ _ _) ?c2 ?c3 ?c4 ?c5 ?_)
      case c2 => intro u hu; simp at hu; subst hu; rfl
      case c3 => unfold maxLen; omega
      case c4 => omega
      case c5 => simp; omega
      intro v' w1 hown' hgrow _ hat'
      have hO : w1.ownsRow base 5 1 v' (m + (k + 1)) (bys (l ++ top8 n (k + 1))) := by
        have e : bys (l ++ top8 n (k + 1)) = bys (l ++ top8 n k) ++ [.int .u8 ((n : Int) / 2 ^ (56 - 8 * k) % 256)] := by
          rw [top8_snoc, ← List.append_assoc, bys_append, byte_of]; rfl
        rw [e]; exact hown'
      have hG : wr.grownBy w1 u0.ownBlock := (World.grownBy_alloc wr _ _).trans hgrow
      have hG' := hat.then_ hg hG
      have hM := hat.trans hg.size (Moved.of_at (w := wr) hat' (by omega))
      clear hown' hgrow hat' hown1 hg hat hG
      go_wp2
      go_roundw
      case rel => exact ⟨k + 1, by omega, by go_num, hO, hG', hM⟩
      case measure => simp [intOf]; omega
    · have h1 : 56 < 8 * (k:Int) := by omega
      go_wp2
      go_ret
      obtain rfl : k = 8 := by omega
      exact ⟨_, rfl, hown1, hg, hat⟩
end Go.Proofs.YthmkdlnocdbhjaaDoor
