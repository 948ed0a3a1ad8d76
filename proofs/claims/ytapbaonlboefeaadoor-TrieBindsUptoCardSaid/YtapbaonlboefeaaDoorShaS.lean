/- bytes.Clone. | sha.Split: the parts that bytes are joined of, if any. -/
import Derived.Test.YtapbaonlboefeaaDoorShaJ
import Derived.WalkSpells
import Derived.Laws.AppendOwnNone
namespace Go.Proofs.YtapbaonlboefeaaDoor
open Go.RowKit

set_option maxRecDepth 20000 in
set_option maxHeartbeats 800000 in
theorem clone_any (B : Nat) (A : Option Addr) (n c : Nat) (l : List UInt8) (w : World) (hs : Sees w B 1 A n (bys l)) (hB : B ≤ w.heap.size) (hm : n ≤ 140737488355328) :
    Calls Tryd.prog 76 #[.slice A n c] w fun e w' => ∃ v', e = .returned v' ∧ w'.ownsRow w.heap.size 5 1 v' n (bys l) ∧ Below w.heap.size w w' := by
  obtain rfl : n = l.length := by have h := hs.len; rw [bys_len] at h; omega
  obtain ⟨i0, hi, hz0, hz1, hz2⟩ := info_parts Tryd.infoByte
  have hq := fun (W : World) (a : Option Addr) (n c : Nat) => Lib.run_eql_slice_nil (P := Tryd.prog) W 31 5 a n c 0 0 Tryd.underlying31
  cases A with
  | none =>
    have hl : l = [] := by
      rcases hs.2 with h | ⟨ad, h, _⟩
      · exact List.eq_nil_of_length_eq_zero h
      · cases h
    subst hl
    go_enter Tryd.func76, Tryd.ntmps76
    go_wp2
    go_ret
    exact ⟨_, rfl, World.ownsRow_nil _ _ _ _, Below.refl _ _⟩
  | some ad =>
    have hown0 : (w.alloc (Obj.cells #[] 5)).ownsRow w.heap.size 5 1 (Value.slice (some { block := w.heap.size, off := 0 }) 0 0) 0 [] :=
      World.ownsRow_made w _ _ (Nat.le_refl _) (by unfold maxLen; omega) (by simp)
    have hB0 : Below w.heap.size w (w.alloc (Obj.cells #[] 5)) := (Below.refl _ _).alloc (Nat.le_refl _) _
    go_enter Tryd.func76, Tryd.ntmps76
    go_wp2_with (at_builtin; refine wpList_append_sees _ rfl (.tmp 5) (.tmp 6) 31 rfl w.heap.size 5 i0 (.int .u8 0) 1 1 Tryd.underlying31 hi hz0 hz1 hz2 rfl (by decide) _ 0 [] rfl hown0 w.heap.size (some ad) l.length c (bys l) rfl ?c0 (bys_one l) ?c1 ?c2 hB0.size ?_)
    case c0 => exact (hs.wide hB).below hB0
    case c1 => unfold maxLen; omega
    case c2 => omega
    intro v3 w3 hown3 hg3 hm3
    have hB3 : Below w.heap.size w w3 := hB0.grown hg3 hB0.size (fun g hg => (hown0.lt g hg).1)
    go_wp2
    go_ret
    exact ⟨_, rfl, by simpa using hown3, hB3⟩
end Go.Proofs.YtapbaonlboefeaaDoor
namespace Go.Proofs.YtapbaonlboefeaaDoor
open Go.RowKit

theorem Tryd.infoBytes : (Tryd.prog.info? 31).map (fun i => (i.zero, i.size, i.bytes)) = some (some (.slice none 0 0), 1, 24) := by kernel_rfl

/-- What a call that splits hands back: nothing and false, or new lists and true. -/
def SplitPost (w : World) (r : Option (List (List UInt8))) (e : Ending) (w' : World) : Prop :=
  Below w.heap.size w w' ∧
  match r with
  | none => e = .returned (.tuple #[.slice none 0 0, .bool false])
  | some ls => ∃ v vs, e = .returned (.tuple #[v, .bool true]) ∧ w'.ownsRow w.heap.size 31 1 v ls.length vs ∧ Lists w' w'.heap.size vs ls ∧ Mine w' w.heap.size 5 vs

/-- Where the loop stands behind j parts: these, and what is left. -/
def SplitAt (l0 : List UInt8) (count j : Nat) (ls : List (List UInt8)) (rest : List UInt8) : Prop :=
  ls.length = j ∧ j ≤ count ∧ splitGo count l0 = (splitGo (count - j) rest).map (ls ++ ·) ∧ rest.length + 8 * j ≤ l0.length
theorem splitAt_start (l0 : List UInt8) (count : Nat) : SplitAt l0 count 0 [] l0 := by
  refine ⟨rfl, Nat.zero_le _, ?_, by simp⟩
  simp
theorem splitAt_end {l0 rest : List UInt8} {count : Nat} {ls : List (List UInt8)} (h : SplitAt l0 count count ls rest) : splitGo count l0 = if rest = [] then some ls else none := by
  rw [h.2.2.1, Nat.sub_self, splitGo]
  split <;> simp
theorem splitAt_short {l0 rest : List UInt8} {count j : Nat} {ls : List (List UInt8)} (h : SplitAt l0 count j ls rest) (hj : j < count) (h8 : rest.length < 8) : splitGo count l0 = none := by
  rw [h.2.2.1, show count - j = (count - j - 1) + 1 from by omega, splitGo, if_pos h8]; rfl
theorem splitAt_long {l0 rest : List UInt8} {count j : Nat} {ls : List (List UInt8)} (h : SplitAt l0 count j ls rest) (hj : j < count) (h8 : 8 ≤ rest.length) (hl : (rest.drop 8).length < un8 (rest.take 8)) : splitGo count l0 = none := by
  rw [h.2.2.1, show count - j = (count - j - 1) + 1 from by omega, splitGo, if_neg (by omega), if_pos hl]; rfl
theorem splitAt_step {l0 rest : List UInt8} {count j : Nat} {ls : List (List UInt8)} (h : SplitAt l0 count j ls rest) (hj : j < count) (h8 : 8 ≤ rest.length) (hl : un8 (rest.take 8) ≤ (rest.drop 8).length) :
    SplitAt l0 count (j + 1) (ls ++ [(rest.drop 8).take (un8 (rest.take 8))]) ((rest.drop 8).drop (un8 (rest.take 8))) := by
  refine ⟨by simp [h.1], by omega, ?_, by have := h.2.2.2; simp only [List.length_drop] at *; omega⟩
  rw [h.2.2.1, show count - j = (count - (j + 1)) + 1 from by omega, splitGo, if_neg (by omega), if_neg (by omega), Option.map_map]
  congr 1
  funext r
  simp

def SplitRel (w : World) (B : Nat) (l0 : List UInt8) (count : Nat) (r u i : Value) (wr : World) : Prop :=
  ∃ (j : Nat) (ls : List (List UInt8)) (vs : List Value) (rest : List UInt8) (A1 : Option Addr) (n1 c1 : Nat), i = .int .u64 (j : Int) ∧ r = .slice A1 n1 c1 ∧ n1 = rest.length ∧ n1 ≤ c1 ∧ c1 ≤ 9223372036854775807 ∧
    SplitAt l0 count j ls rest ∧ wr.ownsRow w.heap.size 31 1 u j vs ∧ Sees wr B 1 A1 n1 (bys rest) ∧ Lists wr wr.heap.size vs ls ∧ Mine wr w.heap.size 5 vs ∧ Below w.heap.size w wr

set_option maxRecDepth 20000 in
set_option maxHeartbeats 1600000 in
theorem split_any (B : Nat) (A : Option Addr) (c : Nat) (l : List UInt8) (w : World) (hs : Sees w B 1 A l.length (bys l)) (hB : B ≤ w.heap.size) (hc : l.length ≤ c) (hcm : c ≤ 9223372036854775807) (hm : l.length ≤ 1099511627776) :
    Calls Tryd.prog 66 #[.slice A l.length c] w fun e w' => SplitPost w (splitF l) e w' := by
  obtain ⟨i0, hi, hz0, hz1, hz2⟩ := info_parts Tryd.infoBytes
  rcases Nat.lt_or_ge l.length 8 with h8 | h8
  · have hsp : Hid (splitF l = none) := if_pos h8
    go_enter Tryd.func66, Tryd.ntmps66
    go_wp2_with (go_at_call 75; refine (takeNumber_no A _ c _ h8).mono ?_; rintro e w' ⟨rfl, rfl⟩)
    go_ret2
    rw [hsp.out]
    exact ⟨Below.refl _ _, rfl⟩
  · have hT := takeNumber_any B A _ c l w hs h8 hc hcm
    have hlen : (l.drop 8).length = l.length - 8 := List.length_drop ..
    have hlt := un8_lt (l.take 8)
    have h88 : (l.take 8).length = 8 := by rw [List.length_take]; omega
    rw [h88] at hlt
    have hsg : Hid (splitF l = splitGo (un8 (l.take 8)) (l.drop 8)) := if_neg (by omega)
    generalize un8 (l.take 8) = count at *
    generalize hl0 : l.drop 8 = l0 at *
    clear h88 hl0
    have hlen' : l0.length ≤ l.length - 8 := by omega
    have hlen2 : l.length - 8 ≤ l0.length := by omega
    have HL := Lib.hid hlen
    clear hlen
    rcases Nat.lt_or_ge ((l.length - 8) / 8) count with hbig | hok
    · have hsp : Hid (splitF l = none) := by rw [hsg.out]; exact splitGo_short _ _ (by omega)
      go_enter Tryd.func66, Tryd.ntmps66
      go_wp2_with fail
      refine hT.mono ?_
      rintro e w' ⟨A', d, rfl, hs', rfl⟩
      go_wp2
      go_ret2
      rw [hsp.out]
      exact ⟨⟨rfl, rfl, rfl, Nat.le_refl _, fun _ _ => rfl⟩, rfl⟩
    · have hmk := fun W => run_make_cap (P := Tryd.prog) W 69 31 i0 (.slice none 0 0) Tryd.underlying69 hi hz0 .i64 .u64 count (by rw [hz2]; omega) (by omega)
      rw [hz1, Nat.mul_one] at hmk
      have hT := Lib.hid hT
      go_enter Tryd.func66, Tryd.ntmps66
      go_wp2_with fail
      refine hT.out.mono ?_
      rintro e w' ⟨A', d, rfl, hs', rfl⟩
      go_wp2
      have hown0 : ((w.drewN d).alloc (Obj.cells (madeCells #[Value.slice none 0 0] count) 31)).ownsRow w.heap.size 31 1 (Value.slice (some { block := w.heap.size, off := 0 }) 0 count) 0 [] :=
        World.ownsRow_made (w.drewN d) _ _ (Nat.le_refl _) (by unfold maxLen; omega) (by rw [size_madeCells]; omega)
      have hB0 : Below w.heap.size w ((w.drewN d).alloc (Obj.cells (madeCells #[Value.slice none 0 0] count) 31)) := (below_drewN_ (Below.refl _ _) d).alloc (Nat.le_refl _) _
      have hst : SplitRel w B l0 count (Value.slice A' (l.length - 8) (c - 8)) (Value.slice (some { block := w.heap.size, off := 0 }) 0 count) (.int .u64 ((0 : Nat) : Int)) ((w.drewN d).alloc (Obj.cells (madeCells #[Value.slice none 0 0] count) 31)) :=
        ⟨0, [], [], l0, A', _, _, rfl, rfl, by omega, by omega, by omega, splitAt_start l0 count, hown0, (Sees.below (w := w.drewN d) hs' (Below.alloc (w := w.drewN d) (Below.refl _ _) (by exact hB) _)), Lists.nothing _ _, Mine.nothing _ _ _, hB0⟩
      have Hs := Lib.hid hst
      clear hown0 hB0 hst hs' hmk
      go_loopw [5, 7, 30] (fun r u i wr => SplitRel w B l0 count r u i wr) (fun _ _ i _ => count - (intOf i).toNat)
      case atStart => exact Hs.out
      case round =>
        obtain ⟨j, ls, vs, rest, A1, n1, c1, rfl, rfl, hn1, hc1, hcm1, hat, hown, hse, hls, hnew, hBw⟩ := hrel
        have hj : j ≤ count := hat.2.1
        have Hn := Lib.hid hn1
        have hn1' : rest.length ≤ n1 := by omega
        have hn1'' : n1 ≤ rest.length := by omega
        have Ha := Lib.hid hat
        have hnl : n1 ≤ l0.length := by have := hat.2.2.2; omega
        clear hn1 hat Hs
        rcases Nat.lt_or_ge j count with hlt | hge
        · rcases Nat.lt_or_ge n1 8 with h18 | h18
          · have hsp : Hid (splitF l = none) := by rw [hsg.out]; exact splitAt_short Ha.out hlt (by omega)
            go_wp2_with (go_at_call 75; refine (takeNumber_no A1 _ c1 _ h18).mono ?_; rintro e w' ⟨rfl, rfl⟩)
            go_ret2
            rw [hsp.out]
            exact ⟨hBw, rfl⟩
          · have hT1 := Lib.hid (takeNumber_any B A1 _ c1 rest wr hse h18 hc1 hcm1)
            have hu := un8_lt (rest.take 8)
            have h88 : (rest.take 8).length = 8 := by rw [List.length_take]; omega
            rw [h88] at hu
            have hl8 : (rest.drop 8).length = n1 - 8 := by rw [List.length_drop]; omega
            have hl8' : n1 - 8 ≤ (rest.drop 8).length := by omega
            have hl8'' : (rest.drop 8).length ≤ n1 - 8 := by omega
            have hno : n1 - 8 < un8 (rest.take 8) → Hid (splitF l = none) := fun hb => by rw [hsg.out]; exact splitAt_long Ha.out hlt (by omega) (by omega)
            have hyes : un8 (rest.take 8) ≤ n1 - 8 → Hid (SplitAt l0 count (j + 1) (ls ++ [(rest.drop 8).take (un8 (rest.take 8))]) ((rest.drop 8).drop (un8 (rest.take 8)))) := fun hb => splitAt_step Ha.out hlt (by omega) (by omega)
            clear h88 hl8
            generalize un8 (rest.take 8) = m at *
            generalize rest.drop 8 = more at *
            rcases Nat.lt_or_ge (n1 - 8) m with hbig | hfit
            · have hsp := hno hbig
              clear hno hyes
              go_wp2_with fail
              refine hT1.out.mono ?_
              rintro e w2 ⟨A2, d2, rfl, hs2, rfl⟩
              go_wp2
              go_ret2
              rw [hsp.out]
              exact ⟨below_drewN_ hBw _, rfl⟩
            · have hst := hyes hfit
              clear hno hyes
              go_wp2_with fail
              refine hT1.out.mono ?_
              rintro e w2 ⟨A2, d2, rfl, hs2, rfl⟩
              go_wp2_with fail
              have hs3 : Sees (wr.drewN d2) B 1 A2 m (bys (more.take m)) := by
                have h := hs2.take hfit
                rw [Nat.mul_one] at h
                unfold bys at h ⊢
                rw [List.map_take]
                exact h
              refine (clone_any B A2 m _ (more.take m) _ hs3 (Nat.le_trans hB hBw.size) (by omega)).mono ?_
              rintro e w3 ⟨v3, rfl, hown3, hB3⟩
              have hB3' : Below wr.heap.size wr w3 := (below_drewN_ (Below.refl _ _) d2).trans hB3
              have hl3 : (more.take m).length = m := by rw [List.length_take]; omega
              obtain ⟨A3, c3, rfl, hc3, hcm3, hmine3, hsee3⟩ := own_slice hown3
              have hown' := own_below hown hB3'
              have hls3 : Lists w3 w3.heap.size (vs ++ [.slice A3 m c3]) (ls ++ [more.take m]) := by
                have h := ((hls.below hB3').wide hB3'.size).snoc (l := more.take m) (A := A3) (c := c3) (by omega) hcm3 (by rw [hl3]; exact hsee3)
                rw [hl3] at h
                exact h
              have hmi3 : Mine w3 w.heap.size 5 (vs ++ [.slice A3 m c3]) := (hnew.below hB3').snoc fun ad e => ⟨Nat.le_trans hBw.size (hmine3 ad e).1, (hmine3 ad e).2⟩
              have hat3 := hs2.drop (k := m) (cap := c1 - 8) hfit (by omega)
              have hBw3 : Below w.heap.size w w3 := hBw.trans (hB3'.mono hBw.size)
              clear hs3 hown3 hB3 hmine3 hsee3 hl3 hown hls hnew hs2 hse hT1
              go_wp2_with (at_builtin; refine wpList_append_own_at _ rfl (.tmp 47) (.tmp 52) 69 rfl w.heap.size 31 i0 (.slice none 0 0) 1 24 Tryd.underlying69 hi hz0 hz1 hz2 rfl (by decide) u7 j vs rfl (hown'.alloc _) ⟨w3.heap.size, 0, none⟩ 1 1 [Value.slice A3 m c3] rfl rfl (cell_one_new _ _ _) ?c2 ?c3 ?c4 ?c5 ?_)
              case c2 => intro u hu; simp at hu; subst hu; rfl
              case c3 => unfold maxLen; omega
              case c4 => omega
              case c5 => have := hBw3.size; simp; omega
              intro v4 w4 hown4 hg4 _ hat4
              have hG : w3.grownBy w4 u7.ownBlock := (World.grownBy_alloc w3 _ _).trans hg4
              have hr4 : ∀ g, u7.ownBlock = some g → w.heap.size ≤ g := fun g hg => (hown'.lt g hg).1
              have hls4 := (hls3.grown hmi3 hG (own_type hown') (by decide)).wide hG.size
              have hmi4 := hmi3.grown hG (own_type hown') (by decide)
              have hB4 := hBw3.grown hG hBw3.size hr4
              have hse4 := (hat3.below (hB3'.mono (Nat.le_trans hB hBw.size))).grown hG (Nat.le_trans hB hBw3.size) (fun g hg => Nat.le_trans hB (hr4 g hg))
              clear hls3 hmi3 hG hg4 hat4 hat3 hB3' hBw3 hown' hr4
              go_wp2
              go_roundw
              case rel =>
                rw [Nat.mul_one] at hse4
                exact ⟨j + 1, _, _, more.drop m, _, _, _, by go_num, rfl, by rw [List.length_drop]; omega, by omega, by omega, hst.out, hown4, by unfold bys at hse4 ⊢; rw [List.map_drop]; exact hse4, hls4, hmi4, hB4⟩
              case measure => simp [intOf]; omega
        · obtain rfl : j = count := by omega
          have hend := splitAt_end Ha.out
          cases rest with
          | nil =>
            have hsp : Hid (splitF l = some ls) := by rw [hsg.out, hend]; rfl
            clear hend
            obtain rfl : n1 = 0 := by simp at hn1''; omega
            go_wp2
            go_ret2
            rw [hsp.out]
            exact ⟨hBw, _, vs, rfl, by rw [Ha.out.1]; exact hown, hls, hnew⟩
          | cons x r =>
            have hsp : Hid (splitF l = none) := by rw [hsg.out, hend]; rfl
            clear hend
            have hpos : 0 < n1 := by simp at hn1'; omega
            go_wp2
            go_ret2
            rw [hsp.out]
            exact ⟨hBw, rfl⟩
end Go.Proofs.YtapbaonlboefeaaDoor
