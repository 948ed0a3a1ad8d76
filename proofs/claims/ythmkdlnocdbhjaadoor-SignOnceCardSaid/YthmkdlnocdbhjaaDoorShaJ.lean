/- sha.Join: the joined encoding. -/
import Derived.Test.YthmkdlnocdbhjaaDoorLists
import Derived.Test.YthmkdlnocdbhjaaDoorShaN
namespace Go.Proofs.YthmkdlnocdbhjaaDoor
open Go.RowKit

set_option maxRecDepth 20000 in
set_option maxHeartbeats 1600000 in
theorem join_any (B : Nat) (A : Option Addr) (c : Nat) (vs : List Value) (ls : List (List UInt8)) (w : World) (hs : Sees w B 1 A ls.length vs) (hl : Lists w B vs ls) (hB : B ≤ w.heap.size) (hT : (joinF ls).length ≤ 140737488355328) :
    Calls Tryd.prog 56 #[.slice A ls.length c] w fun e w' => ∃ v', e = .returned v' ∧ w'.ownsRow w.heap.size 5 1 v' (joinF ls).length (bys (joinF ls)) ∧ Below w.heap.size w w' := by
  obtain ⟨i0, hi, hz0, hz1, hz2⟩ := info_parts Tryd.infoByte
  have hn : ls.length ≤ 140737488355328 := by have := partsOf_ge ls; rw [joinF_len] at hT; omega
  have hTs : sizeTo ls ls.length ≤ 140737488355328 := by rw [sizeTo_all]; exact hT
  have hmk := fun W => run_make_cap (P := Tryd.prog) W 33 5 i0 (.int .u8 0) Tryd.underlying33 hi hz0 .i64 .i64 (sizeTo ls ls.length) (by rw [hz2]; omega) (by omega)
  rw [hz1, Nat.mul_one] at hmk
  go_enter Tryd.func56, Tryd.ntmps56
  go_wp2
  go_loop [3, 5, 11] (fun s _ i => ∃ k : Nat, k ≤ ls.length ∧ i = .int .i64 (k : Int) ∧ s = .int .i64 (sizeTo ls k : Int)) (fun _ _ i => ls.length - (intOf i).toNat)
  case atStart => exact ⟨0, by omega, rfl, rfl⟩
  case round =>
    obtain ⟨k, hk, rfl, rfl⟩ := hrel
    rcases Nat.lt_or_ge k ls.length with hlt | hge
    · obtain ⟨ad, u, hA, -, hx, hc⟩ := hs.at_ hlt
      obtain ⟨A1, c1, h1, h2, h3, -⟩ := hl.at_ hlt
      rw [h1] at hx
      injection hx with hx
      subst hx
      have hst := Lib.hid (sizeTo_step ls k hlt)
      have hle := sizeTo_le ls (k + 1)
      rw [hst.out] at hle
      subst hA
      clear hs hl h1
      go_wp2
      go_round
      case rel => exact ⟨k + 1, by omega, by go_num, by rw [hst.out]; go_num⟩
      case measure => simp [intOf]; omega
    · obtain rfl : k = ls.length := by omega
      have hown0 : (w.alloc (Obj.cells (madeCells #[Value.int IntKind.u8 0] (sizeTo ls ls.length)) 5)).ownsRow w.heap.size 5 1 (Value.slice (some { block := w.heap.size, off := 0 }) 0 (sizeTo ls ls.length)) 0 (bys []) :=
        World.ownsRow_made w _ _ (Nat.le_refl _) (by unfold maxLen; omega) (by rw [size_madeCells]; omega)
      go_wp2_with (go_at_call 70; refine (appendNumber_any w.heap.size _ 0 [] ls.length _ hown0 (by simp) (by omega) (by omega)).mono ?_; rintro e w1 ⟨v1, rfl, hown1, hg1, hm1⟩)
      have hB1 : Below w.heap.size w w1 := ((Below.refl _ _).alloc (Nat.le_refl _) _).grown hg1 (by simp) (by simp [Value.ownBlock])
      have hO1 : w1.ownsRow w.heap.size 5 1 v1 (sizeTo ls 0) (bys (joinTo ls 0)) := by simpa [sizeTo, joinTo, partsOf] using hown1
      clear hown0 hown1 hg1 hm1 hmk
      go_wp2_with fail
      go_loopw [6, 8, 28] (fun u _ i wr => ∃ k : Nat, k ≤ ls.length ∧ i = .int .i64 (k : Int) ∧ wr.ownsRow w.heap.size 5 1 u (sizeTo ls k) (bys (joinTo ls k)) ∧ Below w.heap.size w wr) (fun _ _ i _ => ls.length - (intOf i).toNat)
      case atStart => exact ⟨0, by omega, rfl, hO1, hB1⟩
      case round =>
        obtain ⟨k, hk, rfl, hO, hBw⟩ := hrel
        rcases Nat.lt_or_ge k ls.length with hlt | hge
        · obtain ⟨ad, u, hA, hb, hx, hc⟩ := hs.at_ hlt
          obtain ⟨A1, c1, h1, h2, h3, h4⟩ := hl.at_ hlt
          rw [h1] at hx
          injection hx with hx
          subst hx
          subst hA
          have hcr := (hBw.cell (p := ad.add k) (by rw [add_block]; omega)).trans hc
          have hst := Lib.hid (sizeTo_step ls k hlt)
          have hjt := Lib.hid (joinTo_step ls k hlt)
          have hle := sizeTo_le ls (k + 1)
          rw [hst.out] at hle
          have hH := Lib.hid hs
          have hL := Lib.hid hl
          clear hs hl h1 hc
          go_wp2_with fail
          refine (appendNumber_any w.heap.size _ _ _ _ _ hO hBw.size (by omega) (by omega)).mono ?_
          rintro e w2 ⟨v2, rfl, hown2, hg2, hm2⟩
          have hB2 : Below w.heap.size w w2 := hBw.grown hg2 hBw.size (fun g hg => (hO.lt g hg).1)
          have h42 := h4.below (hB2.mono hB)
          go_wp2_with (at_builtin; refine wpList_append_sees _ rfl (.tmp 36) (.tmp 37) 33 rfl w.heap.size 5 i0 (.int .u8 0) 1 1 Tryd.underlying33 hi hz0 hz1 hz2 rfl (by decide) v2 _ _ rfl hown2 B A1 _ c1 _ rfl h42 (bys_one _) ?c1 ?c2 hB2.size ?_)
          case c1 => unfold maxLen; omega
          case c2 => omega
          intro v3 w3 hown3 hg3 hm3
          have hB3 : Below w.heap.size w w3 := hB2.grown hg3 hB2.size (fun g hg => (hown2.lt g hg).1)
          have hO3 : w3.ownsRow w.heap.size 5 1 v3 (sizeTo ls (k + 1)) (bys (joinTo ls (k + 1))) := by
            rw [hst.out, hjt.out, bys_append, ← Nat.add_assoc]; exact hown3
          have hs := hH.out
          have hl := hL.out
          clear hown2 hown3 hg2 hg3 hm2 hm3 hO hBw hB2 h42 h4
          go_wp2
          go_roundw
          case rel => exact ⟨k + 1, by omega, by go_num, hO3, hB3⟩
          case measure => simp [intOf]; omega
        · obtain rfl : k = ls.length := by omega
          go_wp2
          go_ret
          exact ⟨_, rfl, by rw [← sizeTo_all, ← joinTo_all]; exact hO, hBw⟩
end Go.Proofs.YthmkdlnocdbhjaaDoor
