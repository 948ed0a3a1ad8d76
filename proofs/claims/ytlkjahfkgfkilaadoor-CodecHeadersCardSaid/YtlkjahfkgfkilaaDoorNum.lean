/- codec.number at its types, wapentakeref02.Num: a number's 8 bytes. -/
import Derived.Test.YtlkjahfkgfkilaaDoorIs
import Derived.Test.YtlkjahfkgfkilaaDoorShaN
namespace Go.Proofs.YtlkjahfkgfkilaaDoor
open Go.RowKit

/-- Called so it hands back a new slice of such bytes, and all that lay before lies. -/
def Wrote (w : World) (b : List UInt8) (e : Ending) (w' : World) : Prop := ∃ v', e = .returned v' ∧ w'.ownsRow w.heap.size 5 1 v' b.length (bys b) ∧ Below w.heap.size w w'
theorem wrap_back (k : IntKind) (hk : k = .i64 ∨ k = .u64) (n : Nat) (hn : n < 2 ^ 64) : IntKind.u64.wrap (k.wrap n) = (n : Int) := by
  rcases hk with rfl | rfl
  · simp only [IntKind.wrap, IntKind.bits, IntKind.signed]
    simp
    omega
  · have h := u64_wrap_id (n : Int) (by omega) (by omega)
    rw [h, h]

set_option maxRecDepth 20000 in
set_option maxHeartbeats 800000 in
theorem number_int_any (n : Nat) (x : Int) (hx : Hid (IntKind.u64.wrap x = (n : Int))) (w : World) :
    Calls Tryd.prog 12 #[.int .i64 x] w (Wrote w (b8 n)) := by
  obtain ⟨i0, hi, hz0, hz1, hz2⟩ := info_parts Tryd.infoByte
  have hmk : ∀ W : World, (Instr.makeSlice 28 (.int .i64 0) (.int .i64 8)).run Tryd.prog W = .ok (.slice (some ⟨W.heap.size, 0, none⟩) 0 8) (W.alloc (.cells (madeCells #[.int .u8 0] 8) 5)) := fun W => by
    have h := run_make_cap (P := Tryd.prog) W 28 5 i0 (.int .u8 0) Tryd.underlying28 hi hz0 .i64 .i64 8 (by rw [hz2]; omega) (by omega)
    rw [hz1] at h
    exact h
  go_enter Tryd.func12, Tryd.ntmps12
  go_wp2
  go_loopw [3, 4] (fun u i wr => ∃ k : Nat, k ≤ 8 ∧ i = .int .i64 (56 - 8 * (k : Int)) ∧ wr.ownsRow w.heap.size 5 1 u k (bys (top8 n k)) ∧ Below w.heap.size w wr)
    (fun _ i _ => (intOf i + 8).toNat)
  case atStart => exact ⟨0, by omega, rfl, World.ownsRow_made w _ _ (Nat.le_refl _) (by unfold maxLen; omega) (by simp [madeCells]), (Below.refl _ _).alloc (Nat.le_refl _) _⟩
  case round =>
    obtain ⟨k, hk, rfl, hown1, hB⟩ := hrel
    rcases Nat.lt_or_ge k 8 with hlt | hge
    · have h1 : 8 * (k:Int) ≤ 56 := by omega
      go_wp2_with (at_builtin; refine wpList_append_own_at _ rfl _ _ 28 rfl w.heap.size 5 i0 (.int .u8 0) 1 1 Tryd.underlying28 hi hz0 hz1 hz2 rfl (by decide) _ _ _ rfl (hown1.alloc _) ⟨wr.heap.size, 0, none⟩ 1 1 [.int .u8 (IntKind.u64.wrap x / 2 ^ (56 - 8 * k) % 256)] rfl rfl (cell_one_new _ _ _) ?c2 ?c3 ?c4 ?c5 ?_)
      case c2 => intro u hu; simp at hu; subst hu; rfl
      case c3 => unfold maxLen; omega
      case c4 => omega
      case c5 => have := hB.size; simp; omega
      intro v' w1 hown' hgrow _ hat'
      have hO : w1.ownsRow w.heap.size 5 1 v' (k + 1) (bys (top8 n (k + 1))) := by
        have e : bys (top8 n (k + 1)) = bys (top8 n k) ++ [.int .u8 (IntKind.u64.wrap x / 2 ^ (56 - 8 * k) % 256)] := by
          rw [top8_snoc, bys_append, hx.out, byte_of]; rfl
        rw [e]; exact hown'
      have hG : wr.grownBy w1 u3.ownBlock := (World.grownBy_alloc wr _ _).trans hgrow
      have hB' := hB.grown hG hB.size (fun g hg => (hown1.lt g hg).1)
      clear hown' hgrow hat' hown1 hG hB
      go_wp2
      go_roundw
      case rel => exact ⟨k + 1, by omega, by go_num, hO, hB'⟩
      case measure => simp [intOf]; omega
    · have h1 : 56 < 8 * (k:Int) := by omega
      go_wp2
      go_ret
      obtain rfl : k = 8 := by omega
      exact ⟨_, rfl, by rw [b8_len]; exact hown1, hB⟩

set_option maxRecDepth 20000 in
set_option maxHeartbeats 800000 in
theorem number_i64_any (n : Nat) (x : Int) (hx : Hid (IntKind.u64.wrap x = (n : Int))) (w : World) :
    Calls Tryd.prog 13 #[.int .i64 x] w (Wrote w (b8 n)) := by
  obtain ⟨i0, hi, hz0, hz1, hz2⟩ := info_parts Tryd.infoByte
  have hmk : ∀ W : World, (Instr.makeSlice 28 (.int .i64 0) (.int .i64 8)).run Tryd.prog W = .ok (.slice (some ⟨W.heap.size, 0, none⟩) 0 8) (W.alloc (.cells (madeCells #[.int .u8 0] 8) 5)) := fun W => by
    have h := run_make_cap (P := Tryd.prog) W 28 5 i0 (.int .u8 0) Tryd.underlying28 hi hz0 .i64 .i64 8 (by rw [hz2]; omega) (by omega)
    rw [hz1] at h
    exact h
  go_enter Tryd.func13, Tryd.ntmps13
  go_wp2
  go_loopw [3, 4] (fun u i wr => ∃ k : Nat, k ≤ 8 ∧ i = .int .i64 (56 - 8 * (k : Int)) ∧ wr.ownsRow w.heap.size 5 1 u k (bys (top8 n k)) ∧ Below w.heap.size w wr)
    (fun _ i _ => (intOf i + 8).toNat)
  case atStart => exact ⟨0, by omega, rfl, World.ownsRow_made w _ _ (Nat.le_refl _) (by unfold maxLen; omega) (by simp [madeCells]), (Below.refl _ _).alloc (Nat.le_refl _) _⟩
  case round =>
    obtain ⟨k, hk, rfl, hown1, hB⟩ := hrel
    rcases Nat.lt_or_ge k 8 with hlt | hge
    · have h1 : 8 * (k:Int) ≤ 56 := by omega
      go_wp2_with (at_builtin; refine wpList_append_own_at _ rfl _ _ 28 rfl w.heap.size 5 i0 (.int .u8 0) 1 1 Tryd.underlying28 hi hz0 hz1 hz2 rfl (by decide) _ _ _ rfl (hown1.alloc _) ⟨wr.heap.size, 0, none⟩ 1 1 [.int .u8 (IntKind.u64.wrap x / 2 ^ (56 - 8 * k) % 256)] rfl rfl (cell_one_new _ _ _) ?c2 ?c3 ?c4 ?c5 ?_)
      case c2 => intro u hu; simp at hu; subst hu; rfl
      case c3 => unfold maxLen; omega
      case c4 => omega
      case c5 => have := hB.size; simp; omega
      intro v' w1 hown' hgrow _ hat'
      have hO : w1.ownsRow w.heap.size 5 1 v' (k + 1) (bys (top8 n (k + 1))) := by
        have e : bys (top8 n (k + 1)) = bys (top8 n k) ++ [.int .u8 (IntKind.u64.wrap x / 2 ^ (56 - 8 * k) % 256)] := by
          rw [top8_snoc, bys_append, hx.out, byte_of]; rfl
        rw [e]; exact hown'
      have hG : wr.grownBy w1 u3.ownBlock := (World.grownBy_alloc wr _ _).trans hgrow
      have hB' := hB.grown hG hB.size (fun g hg => (hown1.lt g hg).1)
      clear hown' hgrow hat' hown1 hG hB
      go_wp2
      go_roundw
      case rel => exact ⟨k + 1, by omega, by go_num, hO, hB'⟩
      case measure => simp [intOf]; omega
    · have h1 : 56 < 8 * (k:Int) := by omega
      go_wp2
      go_ret
      obtain rfl : k = 8 := by omega
      exact ⟨_, rfl, by rw [b8_len]; exact hown1, hB⟩

set_option maxRecDepth 20000 in
set_option maxHeartbeats 800000 in
theorem rnum_any (n : Nat) (w : World) :
    Calls Tryd.prog 20 #[.int .u64 n] w (Wrote w (b8 n)) := by
  obtain ⟨i0, hi, hz0, hz1, hz2⟩ := info_parts Tryd.infoByte
  go_enter Tryd.func20, Tryd.ntmps20
  go_wp2
  go_loopw [3, 4] (fun u i wr => ∃ k : Nat, k ≤ 8 ∧ i = .int .i64 (k : Int) ∧ wr.ownsRow w.heap.size 5 1 u k (bys (top8 n k)) ∧ Below w.heap.size w wr)
    (fun _ i _ => (8 - intOf i).toNat)
  case atStart => exact ⟨0, by omega, rfl, World.ownsRow_made w _ _ (Nat.le_refl _) (by unfold maxLen; omega) (by simp), (Below.refl _ _).alloc (Nat.le_refl _) _⟩
  case round =>
    obtain ⟨k, hk, rfl, hown1, hB⟩ := hrel
    rcases Nat.lt_or_ge k 8 with hlt | hge
    · have h1 : 8 * (k:Int) ≤ 56 := by omega
      have h2 : (k:Int) < 8 := by omega
      go_wp2_with (at_builtin; refine wpList_append_own_at _ rfl _ _ 28 rfl w.heap.size 5 i0 (.int .u8 0) 1 1 Tryd.underlying28 hi hz0 hz1 hz2 rfl (by decide) _ _ _ rfl (hown1.alloc _) ⟨wr.heap.size, 0, none⟩ 1 1 [.int .u8 ((n : Int) / 2 ^ (56 - 8 * k) % 256)] rfl rfl (cell_one_new _ _ _) ?c2 ?c3 ?c4 ?c5 ?_)
      case c2 => intro u hu; simp at hu; subst hu; rfl
      case c3 => unfold maxLen; omega
      case c4 => omega
      case c5 => have := hB.size; simp; omega
      intro v' w1 hown' hgrow _ hat'
      have hO : w1.ownsRow w.heap.size 5 1 v' (k + 1) (bys (top8 n (k + 1))) := by
        have e : bys (top8 n (k + 1)) = bys (top8 n k) ++ [.int .u8 ((n : Int) / 2 ^ (56 - 8 * k) % 256)] := by
          rw [top8_snoc, bys_append, byte_of]; rfl
        rw [e]; exact hown'
      have hG : wr.grownBy w1 u3.ownBlock := (World.grownBy_alloc wr _ _).trans hgrow
      have hB' := hB.grown hG hB.size (fun g hg => (hown1.lt g hg).1)
      clear hown' hgrow hat' hown1 hG hB
      go_wp2
      go_roundw
      case rel => exact ⟨k + 1, by omega, by go_num, hO, hB'⟩
      case measure => simp [intOf]; omega
    · have h1 : 8 ≤ (k:Int) := by omega
      go_wp2
      go_ret
      obtain rfl : k = 8 := by omega
      exact ⟨_, rfl, by rw [b8_len]; exact hown1, hB⟩
end Go.Proofs.YtlkjahfkgfkilaaDoor
