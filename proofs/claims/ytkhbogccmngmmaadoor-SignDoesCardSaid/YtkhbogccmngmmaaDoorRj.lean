/- The document's own number, Join (wapentakeref01). | wapentakeref01.Join over lists of bytes; wapentakeref02.Num. -/
import Derived.Test.YtkhbogccmngmmaaDoorShaJ
import Derived.Test.YtkhbogccmngmmaaDoorLt
namespace Go.Proofs.YtkhbogccmngmmaaDoor
open Go.RowKit

set_option maxRecDepth 20000 in
set_option maxHeartbeats 800000 in
theorem rnumber_any (n : Nat) (w : World) :
    Calls Tryd.prog 56 #[.int .u64 n, .int .i64 8] w fun e w' => ∃ v', e = .returned v' ∧ w'.ownsRow w.heap.size 5 1 v' 8 (bys (b8 n)) ∧ Below w.heap.size w w' := by
  obtain ⟨i0, hi, hz0, hz1, hz2⟩ := info_parts Tryd.infoByte
  go_enter Tryd.func56, Tryd.ntmps56
  go_wp2
  go_loopw [5, 6] (fun u i wr => ∃ k : Nat, k ≤ 8 ∧ i = .int .i64 (7 - (k : Int)) ∧ wr.ownsRow w.heap.size 5 1 u k (bys (top8 n k)) ∧ Below w.heap.size w wr)
    (fun _ i _ => (intOf i + 1).toNat)
  case atStart => exact ⟨0, by omega, rfl, World.ownsRow_made w _ _ (Nat.le_refl _) (by unfold maxLen; omega) (by simp), (Below.refl _ _).alloc (Nat.le_refl _) _⟩
  case round =>
    obtain ⟨k, hk, rfl, hown1, hB⟩ := hrel
    rcases Nat.lt_or_ge k 8 with hlt | hge
    · have h1 : (k:Int) ≤ 7 := by omega
      go_wp2_with (at_builtin; refine wpList_append_own_at _ rfl _ _ 31 rfl w.heap.size 5 i0 (.int .u8 0) 1 1 Tryd.underlying31 hi hz0 hz1 hz2 rfl (by decide) _ _ _ rfl (hown1.alloc _) ⟨wr.heap.size, 0, none⟩ 1 1 [.int .u8 ((n : Int) / 2 ^ (8 * (7 - k)) % 256)] rfl rfl (cell_one_new _ _ _) ?c2 ?c3 ?c4 ?c5 ?_)
      case c2 => intro u hu; simp at hu; subst hu; rfl
      case c3 => unfold maxLen; omega
      case c4 => omega
      case c5 => have := hB.size; simp; omega
      intro v' w1 hown' hgrow _ hat'
      have hO : w1.ownsRow w.heap.size 5 1 v' (k + 1) (bys (top8 n (k + 1))) := by
        have e : bys (top8 n (k + 1)) = bys (top8 n k) ++ [.int .u8 ((n : Int) / 2 ^ (8 * (7 - k)) % 256)] := by
          rw [top8_snoc, bys_append, show 8 * (7 - k) = 56 - 8 * k from by omega, byte_of]; rfl
        rw [e]; exact hown'
      have hG : wr.grownBy w1 u5.ownBlock := (World.grownBy_alloc wr _ _).trans hgrow
      have hB' := hB.grown hG hB.size (fun g hg => (hown1.lt g hg).1)
      clear hown' hgrow hat' hown1 hG hB
      go_wp2
      go_roundw
      case rel => exact ⟨k + 1, by omega, by go_num, hO, hB'⟩
      case measure => simp [intOf]; omega
    · have h1 : 7 < (k:Int) := by omega
      go_wp2
      go_ret
      obtain rfl : k = 8 := by omega
      exact ⟨_, rfl, hown1, hB⟩

set_option maxRecDepth 20000 in
set_option maxHeartbeats 1600000 in
theorem rjoin_any (B : Nat) (A : Option Addr) (c : Nat) (vs : List Value) (ls : List (List UInt8)) (w : World) (hs : Sees w B 1 A ls.length vs) (hl : Lists w B vs ls) (hB : B ≤ w.heap.size) (hT : (joinF ls).length ≤ 70368744177664) :
    Calls Tryd.prog 47 #[.slice A ls.length c] w fun e w' => ∃ v', e = .returned v' ∧ w'.ownsRow w.heap.size 5 1 v' (joinF ls).length (bys (joinF ls)) ∧ Below w.heap.size w w' := by
  obtain ⟨i0, hi, hz0, hz1, hz2⟩ := info_parts Tryd.infoByte
  have hn : ls.length ≤ 70368744177664 := by have := partsOf_ge ls; rw [joinF_len] at hT; omega
  have hTs : sizeTo ls ls.length ≤ 70368744177664 := by rw [sizeTo_all]; exact hT
  go_enter Tryd.func47, Tryd.ntmps47
  go_wp2_with fail
  refine (rnumber_any ls.length _).mono ?_
  rintro e w1 ⟨v1, rfl, hown1, hB1⟩
  have hO1 : w1.ownsRow w.heap.size 5 1 v1 (sizeTo ls 0) (bys (joinTo ls 0)) := by simpa [sizeTo, joinTo, partsOf] using hown1
  clear hown1
  go_wp2_with fail
  go_loopw [3, 4] (fun u i wr => ∃ k : Nat, k ≤ ls.length ∧ i = .int .i64 (k : Int) ∧ wr.ownsRow w.heap.size 5 1 u (sizeTo ls k) (bys (joinTo ls k)) ∧ Below w.heap.size w wr) (fun _ i _ => ls.length - (intOf i).toNat)
  case atStart => exact ⟨0, by omega, rfl, hO1, hB1⟩
  case round =>
    obtain ⟨k, hk, rfl, hO, hBw⟩ := hrel
    rcases Nat.lt_or_ge k ls.length with hlt | hge
    · obtain ⟨ad, u, hA, hb, hx, hc⟩ := hs.at_ hlt
      obtain ⟨A1, c1, h1, h2, h3, h4⟩ := hl.at_ hlt
      rw [h1] at hx
      injection hx with hx
      subst hx
      subst hA
      have hbb : (ad.add k).block < w.heap.size := by rw [add_block]; omega
      have hcr := (hBw.cell hbb).trans hc
      have hst := Lib.hid (sizeTo_step ls k hlt)
      have hjt := Lib.hid (joinTo_step ls k hlt)
      have hle := sizeTo_le ls (k + 1)
      rw [hst.out] at hle
      have hH := Lib.hid hs
      have hL := Lib.hid hl
      clear hs hl h1 hc
      go_wp2_with fail
      refine (rnumber_any _ _).mono ?_
      rintro e w2 ⟨v2, rfl, hown2, hB2⟩
      obtain ⟨A2, c2, rfl, hc2, hcm2, -, hse2⟩ := own_slice hown2
      have hBw2 : Below w.heap.size w w2 := hBw.trans (hB2.mono hBw.size)
      have hO2 := own_below hO hB2
      have hcr2 := (hBw2.cell hbb).trans ((hBw.cell hbb).symm.trans hcr)
      clear hown2
      go_wp2_with (at_builtin; refine wpList_append_sees _ rfl (.tmp 15) (.tmp 22) 31 rfl w.heap.size 5 i0 (.int .u8 0) 1 1 Tryd.underlying31 hi hz0 hz1 hz2 rfl (by decide) u3 _ _ rfl hO2 w2.heap.size A2 8 c2 _ rfl hse2 (bys_one _) ?c1 ?c2 hBw2.size ?_)
      case c1 => unfold maxLen; omega
      case c2 => omega
      intro v3 w3 hown3 hg3 hm3
      have hB3 : Below w.heap.size w w3 := hBw2.grown hg3 hBw2.size (fun g hg => (hO2.lt g hg).1)
      have hcr3 := (hB3.cell hbb).trans ((hBw.cell hbb).symm.trans hcr)
      have h43 := h4.below (hB3.mono hB)
      clear hcr2 hO hO2 hg3 hm3 hse2 hcr
      go_wp2_with (at_builtin; refine wpList_append_sees _ rfl (.tmp 24) (.tmp 28) 31 rfl w.heap.size 5 i0 (.int .u8 0) 1 1 Tryd.underlying31 hi hz0 hz1 hz2 rfl (by decide) v3 _ _ rfl hown3 B A1 _ c1 _ rfl h43 (bys_one _) ?c1 ?c2 hB3.size ?_)
      case c1 => unfold maxLen; omega
      case c2 => omega
      intro v4 w4 hown4 hg4 hm4
      have hB4 : Below w.heap.size w w4 := hB3.grown hg4 hB3.size (fun g hg => (hown3.lt g hg).1)
      have hO4 : w4.ownsRow w.heap.size 5 1 v4 (sizeTo ls (k + 1)) (bys (joinTo ls (k + 1))) := by
        rw [hst.out, hjt.out, bys_append, bys_append, ← Nat.add_assoc, List.append_assoc]; simpa only [List.append_assoc] using hown4
      have hs := hH.out
      have hl := hL.out
      clear hown3 hown4 hg4 hm4 hBw hBw2 hB3 h43 h4 hcr3
      go_wp2
      go_roundw
      case rel => exact ⟨k + 1, by omega, by go_num, hO4, hB4⟩
      case measure => simp [intOf]; omega
    · obtain rfl : k = ls.length := by omega
      go_wp2
      go_ret
      exact ⟨_, rfl, by rw [← sizeTo_all, ← joinTo_all]; exact hO, hBw⟩
end Go.Proofs.YtkhbogccmngmmaaDoor
namespace Go.Proofs.YtkhbogccmngmmaaDoor
open Go.RowKit

set_option maxRecDepth 20000 in
set_option maxHeartbeats 1600000 in
theorem rjoinB_any (B : Nat) (A : Option Addr) (c : Nat) (vs : List Value) (ls : List (List UInt8)) (w : World) (hs : Sees w B 1 A ls.length vs) (hl : Lists w B vs ls) (hB : B ≤ w.heap.size) (hT : (joinF ls).length ≤ 140737488353000) :
    Calls Tryd.prog 47 #[.slice A ls.length c] w fun e w' => ∃ v', e = .returned v' ∧ w'.ownsRow w.heap.size 5 1 v' (joinF ls).length (bys (joinF ls)) ∧ Below w.heap.size w w' := by
  obtain ⟨i0, hi, hz0, hz1, hz2⟩ := info_parts Tryd.infoByte
  have hn : ls.length ≤ 140737488353000 := by have := partsOf_ge ls; rw [joinF_len] at hT; omega
  have hTs : sizeTo ls ls.length ≤ 140737488353000 := by rw [sizeTo_all]; exact hT
  go_enter Tryd.func47, Tryd.ntmps47
  go_wp2_with fail
  refine (rnumber_any ls.length _).mono ?_
  rintro e w1 ⟨v1, rfl, hown1, hB1⟩
  have hO1 : w1.ownsRow w.heap.size 5 1 v1 (sizeTo ls 0) (bys (joinTo ls 0)) := by simpa [sizeTo, joinTo, partsOf] using hown1
  clear hown1
  go_wp2_with fail
  go_loopw [3, 4] (fun u i wr => ∃ k : Nat, k ≤ ls.length ∧ i = .int .i64 (k : Int) ∧ wr.ownsRow w.heap.size 5 1 u (sizeTo ls k) (bys (joinTo ls k)) ∧ Below w.heap.size w wr) (fun _ i _ => ls.length - (intOf i).toNat)
  case atStart => exact ⟨0, by omega, rfl, hO1, hB1⟩
  case round =>
    obtain ⟨k, hk, rfl, hO, hBw⟩ := hrel
    rcases Nat.lt_or_ge k ls.length with hlt | hge
    · obtain ⟨ad, u, hA, hb, hx, hc⟩ := hs.at_ hlt
      obtain ⟨A1, c1, h1, h2, h3, h4⟩ := hl.at_ hlt
      rw [h1] at hx
      injection hx with hx
      subst hx
      subst hA
      have hbb : (ad.add k).block < w.heap.size := by rw [add_block]; omega
      have hcr := (hBw.cell hbb).trans hc
      have hst := Lib.hid (sizeTo_step ls k hlt)
      have hjt := Lib.hid (joinTo_step ls k hlt)
      have hle := sizeTo_le ls (k + 1)
      rw [hst.out] at hle
      have hH := Lib.hid hs
      have hL := Lib.hid hl
      clear hs hl h1 hc
      go_wp2_with fail
      refine (rnumber_any _ _).mono ?_
      rintro e w2 ⟨v2, rfl, hown2, hB2⟩
      obtain ⟨A2, c2, rfl, hc2, hcm2, -, hse2⟩ := own_slice hown2
      have hBw2 : Below w.heap.size w w2 := hBw.trans (hB2.mono hBw.size)
      have hO2 := own_below hO hB2
      have hcr2 := (hBw2.cell hbb).trans ((hBw.cell hbb).symm.trans hcr)
      clear hown2
      go_wp2_with (at_builtin; refine wpList_append_sees _ rfl (.tmp 15) (.tmp 22) 31 rfl w.heap.size 5 i0 (.int .u8 0) 1 1 Tryd.underlying31 hi hz0 hz1 hz2 rfl (by decide) u3 _ _ rfl hO2 w2.heap.size A2 8 c2 _ rfl hse2 (bys_one _) ?c1 ?c2 hBw2.size ?_)
      case c1 => unfold maxLen; omega
      case c2 => omega
      intro v3 w3 hown3 hg3 hm3
      have hB3 : Below w.heap.size w w3 := hBw2.grown hg3 hBw2.size (fun g hg => (hO2.lt g hg).1)
      have hcr3 := (hB3.cell hbb).trans ((hBw.cell hbb).symm.trans hcr)
      have h43 := h4.below (hB3.mono hB)
      clear hcr2 hO hO2 hg3 hm3 hse2 hcr
      go_wp2_with (at_builtin; refine wpList_append_sees _ rfl (.tmp 24) (.tmp 28) 31 rfl w.heap.size 5 i0 (.int .u8 0) 1 1 Tryd.underlying31 hi hz0 hz1 hz2 rfl (by decide) v3 _ _ rfl hown3 B A1 _ c1 _ rfl h43 (bys_one _) ?c1 ?c2 hB3.size ?_)
      case c1 => unfold maxLen; omega
      case c2 => omega
      intro v4 w4 hown4 hg4 hm4
      have hB4 : Below w.heap.size w w4 := hB3.grown hg4 hB3.size (fun g hg => (hown3.lt g hg).1)
      have hO4 : w4.ownsRow w.heap.size 5 1 v4 (sizeTo ls (k + 1)) (bys (joinTo ls (k + 1))) := by
        rw [hst.out, hjt.out, bys_append, bys_append, ← Nat.add_assoc, List.append_assoc]; simpa only [List.append_assoc] using hown4
      have hs := hH.out
      have hl := hL.out
      clear hown3 hown4 hg4 hm4 hBw hBw2 hB3 h43 h4 hcr3
      go_wp2
      go_roundw
      case rel => exact ⟨k + 1, by omega, by go_num, hO4, hB4⟩
      case measure => simp [intOf]; omega
    · obtain rfl : k = ls.length := by omega
      go_wp2
      go_ret
      exact ⟨_, rfl, by rw [← sizeTo_all, ← joinTo_all]; exact hO, hBw⟩
theorem rjoin_built (wk : World) (t : TypeId) (vs : List Value) (ls : List (List UInt8)) (h : Lists wk wk.heap.size vs ls) (hT : (joinF ls).length ≤ 140737488353000) :
    Calls Tryd.prog 47 #[.slice (some ⟨wk.heap.size, 0, none⟩) ls.length ls.length] (wk.alloc (.cells vs.toArray t)) (Wrote (wk.alloc (.cells vs.toArray t)) (joinF ls)) := by
  have hs : Sees (wk.alloc (.cells vs.toArray t)) (wk.heap.size + 1) 1 (some ⟨wk.heap.size, 0, none⟩) ls.length vs := by
    refine ⟨by rw [h.1, Nat.mul_one], .inr ⟨_, rfl, Nat.lt_succ_self _, fun j u hu => ?_⟩⟩
    rw [add_at, boxed]
    simpa using hu
  have hb : Below wk.heap.size wk (wk.alloc (.cells vs.toArray t)) := (Below.refl _ _).alloc (Nat.le_refl _) _
  exact rjoinB_any (wk.heap.size + 1) _ _ _ ls _ hs ((h.below hb).wide (by omega)) (by simp) (by omega)
theorem rjoin_lit (wk : World) (t : TypeId) (vs : List Value) (ls : List (List UInt8)) (G n : Nat) (hG : wk.heap.size = G) (hn : ls.length = n) (h : Lists wk wk.heap.size vs ls) (hT : (joinF ls).length ≤ 140737488353000) :
    Calls Tryd.prog 47 #[.slice (some ⟨G, 0, none⟩) n n] (wk.alloc (.cells vs.toArray t)) (Wrote (wk.alloc (.cells vs.toArray t)) (joinF ls)) := by
  subst hG; subst hn; exact rjoin_built wk t vs ls h hT

/-- The literal of slices joined, where the order was drawn. -/
theorem rjoin_drew (wk : World) (t : TypeId) (vs : List Value) (ls : List (List UInt8)) (G n : Nat) (hG : wk.heap.size = G) (hn : ls.length = n) (h : Lists wk wk.heap.size vs ls) (hT : (joinF ls).length ≤ 140737488353000) :
    Calls Tryd.prog 47 #[.slice (some ⟨G, 0, none⟩) n n] (wk.alloc (.cells vs.toArray t)).drew (Wrote (wk.alloc (.cells vs.toArray t)).drew (joinF ls)) :=
  rjoin_lit wk.drew t vs ls G n hG hn (h.below (Below.drew (Below.refl _ _))) hT

set_option maxRecDepth 20000 in
set_option maxHeartbeats 800000 in
theorem rnum_any (n : Nat) (w : World) :
    Calls Tryd.prog 85 #[.int .u64 n] w (Wrote w (b8 n)) := by
  obtain ⟨i0, hi, hz0, hz1, hz2⟩ := info_parts Tryd.infoByte
  go_enter Tryd.func85, Tryd.ntmps85
  go_wp2
  go_loopw [3, 4] (fun u i wr => ∃ k : Nat, k ≤ 8 ∧ i = .int .i64 (k : Int) ∧ wr.ownsRow w.heap.size 5 1 u k (bys (top8 n k)) ∧ Below w.heap.size w wr)
    (fun _ i _ => (8 - intOf i).toNat)
  case atStart => exact ⟨0, by omega, rfl, World.ownsRow_made w _ _ (Nat.le_refl _) (by unfold maxLen; omega) (by simp), (Below.refl _ _).alloc (Nat.le_refl _) _⟩
  case round =>
    obtain ⟨k, hk, rfl, hown1, hB⟩ := hrel
    rcases Nat.lt_or_ge k 8 with hlt | hge
    · have h1 : 8 * (k:Int) ≤ 56 := by omega
      have h2 : (k:Int) < 8 := by omega
      go_wp2_with (at_builtin; refine wpList_append_own_at _ rfl _ _ 31 rfl w.heap.size 5 i0 (.int .u8 0) 1 1 Tryd.underlying31 hi hz0 hz1 hz2 rfl (by decide) _ _ _ rfl (hown1.alloc _) ⟨wr.heap.size, 0, none⟩ 1 1 [.int .u8 ((n : Int) / 2 ^ (56 - 8 * k) % 256)] rfl rfl (cell_one_new _ _ _) ?c2 ?c3 ?c4 ?c5 ?_)
      case c2 => intro u hu; simp at hu; subst hu; rfl
      case c3 => unfold maxLen; omega
      case c4 => omega
      case c5 => have := hB.size; simp; omega
      intro v' w1 hown' hgrow _ hat'
      have hO : w1.ownsRow w.heap.size 5 1 v' (k + 1) (bys (top8 n (k + 1))) := by
        have e : bys (top8 n (k + 1)) = bys (top8 n k) ++ [.int .u8 ((n : Int) / 2 ^ (56 - 8 * k) % 256)] := by
          rw [top8_snoc, bys_append, byte_of]; rfl
        rw [e]; exact hown'
      have hG : wr.grownBy w1 u3.ownBlock := (World.grownBy_alloc wr _ _).trans hgrow
      have hB' := hB.grown hG hB.size (fun g hg => (hown1.lt g hg).1)
      clear hown' hgrow hat' hown1 hG hB
      go_wp2
      go_roundw
      case rel => exact ⟨k + 1, by omega, by go_num, hO, hB'⟩
      case measure => simp [intOf]; omega
    · have h1 : 8 ≤ (k:Int) := by omega
      go_wp2
      go_ret
      obtain rfl : k = 8 := by omega
      exact ⟨_, rfl, by rw [b8_len]; exact hown1, hB⟩
end Go.Proofs.YtkhbogccmngmmaaDoor
