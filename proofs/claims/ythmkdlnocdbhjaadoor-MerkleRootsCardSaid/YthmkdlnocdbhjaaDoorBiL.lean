/- wapentakelaw03.MerkleBinds: the law returns true. -/
import Derived.Test.YthmkdlnocdbhjaaDoorRuU
import Derived.Test.YthmkdlnocdbhjaaDoorMsP
import Derived.Test.YthmkdlnocdbhjaaDoorRsG
import Derived.Stop.BytesEq
import Derived.StillTactics
namespace Go.Proofs.YthmkdlnocdbhjaaDoor
open Go.RowKit

theorem neq_dg (W : World) (a b : List UInt8) (ha : a.length = 32) (hb : b.length = 32) : (binOp .neq 28 (.agg (bys a).toArray) (.agg (bys b).toArray)).run Tryd.prog W = .ok (.bool (!(a == b))) W := by
  have h : (Op.equalIn 10000 28 (.agg (bys a).toArray) (.agg (bys b).toArray)).run Tryd.prog W = .ok (a == b) W := run_equalIn_bytes W 9998 28 5 32 Tryd.underlying28 Tryd.underlying5 (fun _ => by kernel_rfl) a b ha hb
  rw [run_neq_struct, h]; simp [Result.andThen]
theorem eql_b32 (W : World) (a : List UInt8) (ha : a.length = 32) : (binOp .eql 27 (.agg (bys a).toArray) (.agg (bys a).toArray)).run Tryd.prog W = .ok (.bool true) W := by
  have h : (binOp .eql 27 (.agg (bys a).toArray) (.agg (bys a).toArray)).run Tryd.prog W = .ok (.bool (a == a)) W := run_eql_bytes (P := Tryd.prog) W 27 5 32 Tryd.underlying27 Tryd.underlying5 (fun _ => by kernel_rfl) a a ha ha
  rw [h]; simp
/-- The text of a list tells how many elements it has. -/
theorem rootB_num {n m : Nat} {d e : List UInt8} (hn : n < 2 ^ 64) (hm : m < 2 ^ 64) (h : rootB n d = rootB m e) : n = m := by
  have hl : d.length = e.length := by have h2 := congrArg List.length h; rw [rootB_len, rootB_len] at h2; omega
  simp only [rootB, joinF, partsOf, part, hl, List.append_nil, List.length_cons, List.length_nil, b8_len] at h
  simp only [List.append_assoc] at h
  have h3 := List.append_cancel_left (List.append_cancel_left (List.append_cancel_left (List.append_cancel_left h)))
  have h4 := (List.append_inj h3 (by rw [b8_len, b8_len])).1
  have h5 := congrArg un8 h4
  rwa [un8_b8 n hn, un8_b8 m hm] at h5
/-- Two lists of one root that are unlike at i: two unlike texts of one digest are met. -/
theorem binds_clash (ls ms : List (List UInt8)) (i : Nat) (hi : i < ls.length) (hl : ls.length = ms.length) (h63 : ls.length < 9223372036854775808) (hr : rootF ls = rootF ms) (hne : ls.getD i [] ≠ ms.getD i []) :
    ∃ a b, clashAt (climbF ls.length i (ls.getD i []) (pathF ls i)) (climbF ls.length i (ms.getD i []) (pathF ms i)) (climbF ls.length i (ls.getD i []) (pathF ls i)).length = some (a, b) ∧ a ≠ b ∧ shaF a = shaF b := by
  have hlen : (climbF ls.length i (ls.getD i []) (pathF ls i)).length = (sibs 0 ls.length i).length + 2 := by rw [climbF_eq, List.length_append, cP_len]; rfl
  have h1 := top_path ls i hi h63
  have h2 := top_path ms i (by omega) (by omega)
  rw [← hl] at h2
  have hr2 : shaF (rootB ls.length (dig ls 0 ls.length)) = shaF (rootB ls.length (dig ms 0 ls.length)) := by
    have h := hr
    unfold rootF at h
    rw [← hl] at h
    exact h
  rw [hlen]
  cases hc : clashAt (climbF ls.length i (ls.getD i []) (pathF ls i)) (climbF ls.length i (ms.getD i []) (pathF ms i)) ((sibs 0 ls.length i).length + 2) with
  | none => exact absurd (climb_same ls.length i _ _ _ _ (pathF_len ls i) (by rw [pathF_len, hl]) (pathF_32 ls i) (pathF_32 ms i) (by rw [h1, h2]; exact hr2) hc) hne
  | some p =>
    obtain ⟨a, b⟩ := p
    exact ⟨a, b, rfl, clashAt_some _ _ _ _ _ hc⟩
def BindR (W : World) (e : Ending) (w' : World) : Prop := e = .returned (.bool true) ∧ Below W.heap.size W w'

/-- The first arguments' facts. -/
structure Two (w : World) (B : Nat) (A : Option Addr) (c : Nat) (vs : List Value) (ls : List (List UInt8)) (A' : Option Addr) (c' : Nat) (us : List Value) (ms : List (List UInt8)) : Prop where
  l : LsW w B A c vs ls
  m : LsW w B A' c' us ms
theorem Two.below {w w' : World} {B : Nat} {A : Option Addr} {c : Nat} {vs : List Value} {ls : List (List UInt8)} {A' : Option Addr} {c' : Nat} {us : List Value} {ms : List (List UInt8)} (h : Two w B A c vs ls A' c' us ms) (hb : Below w.heap.size w w') : Two w' B A c vs ls A' c' us ms := ⟨h.l.below hb, h.m.below hb⟩
theorem root_call {w : World} {B : Nat} {A : Option Addr} {c : Nat} {vs : List Value} {ls : List (List UInt8)} (h : LsW w B A c vs ls) : Calls Tryd.prog 13 #[.slice A ls.length c] w (Digs w (rootF ls)) :=
  rootOf_any B A c vs ls w h.sees h.lists h.hB h.small (by have := h.cap; omega) h.consts
theorem top_call {w : World} {B : Nat} {A : Option Addr} {c : Nat} {vs : List Value} {ls : List (List UInt8)} (h : LsW w B A c vs ls) : Calls Tryd.prog 18 #[.slice A ls.length c] w (Digs w (dig ls 0 ls.length)) := rtop_any _ B A c vs ls w rfl h

set_option maxRecDepth 20000 in
set_option maxHeartbeats 6400000 in
theorem binds_big (haw : ∀ W : World, Consts W → Calls Tryd.prog 11 #[] W fun e w' => e = .returned (.bool true) ∧ Below W.heap.size W w') (w : World) (B : Nat) (A : Option Addr) (c : Nat) (vs : List Value) (ls : List (List UInt8)) (A' : Option Addr) (c' : Nat) (us : List Value) (ms : List (List UInt8)) (hT : Two w B A c vs ls A' c' us ms)
    (hbig : 64 < ls.length ∨ 64 < ms.length ∨ rootF ls ≠ rootF ms) :
    Calls Tryd.prog 4 #[.slice A ls.length c, .slice A' ms.length c'] w (BindR w) := by
  have hcap := hT.l.cap
  have hcap2 := hT.m.cap
  have hAW := Lib.hid (haw w hT.l.consts)
  have HT := Lib.hid hT
  clear haw hT
  go_enter Tryd.func4, Tryd.ntmps4
  go_wp2_with fail
  refine hAW.out.mono ?_
  rintro en w1 ⟨rfl, hB1⟩
  have HT1 := Lib.hid (HT.out.below hB1)
  have HB1 := Lib.hid hB1
  clear hB1 hAW
  by_cases h1 : 64 < ls.length
  · have h1' : (64 : Int) < (ls.length : Int) := by omega
    clear hbig
    go_wp2
    go_ret
    exact ⟨rfl, HB1.out⟩
  · have h1' : decide ((64 : Int) < (ls.length : Int)) = false := by simp; omega
    have h1n : decide (64 < ls.length) = false := by simp; omega
    by_cases h2 : 64 < ms.length
    · have h2' : (64 : Int) < (ms.length : Int) := by omega
      clear hbig
      go_wp2
      go_ret
      exact ⟨rfl, HB1.out⟩
    · have h2' : decide ((64 : Int) < (ms.length : Int)) = false := by simp; omega
      have h2n : decide (64 < ms.length) = false := by simp; omega
      have hne : rootF ls ≠ rootF ms := by rcases hbig with h | h | h <;> first | exact absurd h (by omega) | exact h
      have HR1 := Lib.hid (root_call HT1.out.l)
      have hbe : (!(rootF ls == rootF ms)) = true := by simpa using hne
      have hq := fun W => neq_dg W (rootF ls) (rootF ms) (shaF_len _) (shaF_len _)
      have HQ := Lib.hid hq
      have HBE := Lib.hid hbe
      clear hbig hne hq hbe
      go_wp2_with fail
      refine HR1.out.mono ?_
      rintro en w2 ⟨rfl, hB2⟩
      have HT2 := Lib.hid (HT1.out.below hB2)
      have HB2 := Lib.hid (HB1.out.trans (hB2.mono HB1.out.size))
      have HR2 := Lib.hid (root_call HT2.out.m)
      clear hB2 HR1
      have hq := HQ.out
      have hbe := HBE.out
      generalize rootF ls = rl at *
      generalize rootF ms = rm at *
      go_wp2_with fail
      refine HR2.out.mono ?_
      rintro en w3 ⟨rfl, hB3⟩
      have HB3 := Lib.hid (HB2.out.trans (hB3.mono HB2.out.size))
      clear hB3 HR2
      go_wp2
      go_ret
      exact ⟨rfl, HB3.out⟩

set_option maxRecDepth 20000 in
set_option maxHeartbeats 6400000 in
theorem binds_unlike (haw : ∀ W : World, Consts W → Calls Tryd.prog 11 #[] W fun e w' => e = .returned (.bool true) ∧ Below W.heap.size W w') (w : World) (B : Nat) (A : Option Addr) (c : Nat) (vs : List Value) (ls : List (List UInt8)) (A' : Option Addr) (c' : Nat) (us : List Value) (ms : List (List UInt8)) (hT : Two w B A c vs ls A' c' us ms)
    (h1 : ls.length ≤ 64) (h2 : ms.length ≤ 64) (hr : rootF ls = rootF ms) (hne : ls.length ≠ ms.length) :
    Calls Tryd.prog 4 #[.slice A ls.length c, .slice A' ms.length c'] w (BindR w) := by
  have hcap := hT.l.cap
  have hcap2 := hT.m.cap
  have hAW := Lib.hid (haw w hT.l.consts)
  have HT := Lib.hid hT
  clear haw hT
  have h1' : decide ((64 : Int) < (ls.length : Int)) = false := by simp; omega
  have h1n : decide (64 < ls.length) = false := by simp; omega
  have h2' : decide ((64 : Int) < (ms.length : Int)) = false := by simp; omega
  have h2n : decide (64 < ms.length) = false := by simp; omega
  have hln : ((ls.length : Int) == (ms.length : Int)) = false := by simp; omega
  have hln2 : ((ls.length : Int) != (ms.length : Int)) = true := by simp; omega
  have hln3 : (ls.length == ms.length) = false := by simp; omega
  have HNE := Lib.hid (show rootB ls.length (dig ls 0 ls.length) ≠ rootB ms.length (dig ms 0 ms.length) from fun h => hne (rootB_num (by omega) (by omega) h))
  have HSH := Lib.hid (show shaF (rootB ls.length (dig ls 0 ls.length)) = shaF (rootB ms.length (dig ms 0 ms.length)) from hr)
  have hq : ∀ W : World, (binOp .neq 28 (.agg (bys (rootF ls)).toArray) (.agg (bys (rootF ls)).toArray)).run Tryd.prog W = .ok (.bool false) W := fun W => by
    have h := neq_dg W (rootF ls) (rootF ls) (shaF_len _) (shaF_len _)
    simpa using h
  have HQ := Lib.hid hq
  have HR := Lib.hid hr
  clear hr hne hq
  go_enter Tryd.func4, Tryd.ntmps4
  go_wp2_with fail
  refine hAW.out.mono ?_
  rintro en w1 ⟨rfl, hB1⟩
  have HT1 := Lib.hid (HT.out.below hB1)
  have HB1 := Lib.hid hB1
  clear hB1 hAW
  have HR1 := Lib.hid (root_call HT1.out.l)
  go_wp2_with fail
  refine HR1.out.mono ?_
  rintro en w2 ⟨rfl, hB2⟩
  have HT2 := Lib.hid (HT1.out.below hB2)
  have HB2 := Lib.hid (HB1.out.trans (hB2.mono HB1.out.size))
  have hr2 := root_call HT2.out.m
  rw [← HR.out] at hr2
  have HR2 := Lib.hid hr2
  clear hB2 HR1 hr2
  have hq := HQ.out
  generalize rootF ls = rl at *
  go_wp2_with fail
  refine HR2.out.mono ?_
  rintro en w3 ⟨rfl, hB3⟩
  have HT3 := Lib.hid (HT2.out.below hB3)
  have HB3 := Lib.hid (HB2.out.trans (hB3.mono HB2.out.size))
  clear hB3 HR2
  have HP3 := Lib.hid (top_call HT3.out.l)
  go_wp2_with fail
  refine HP3.out.mono ?_
  rintro en w4 ⟨rfl, hB4⟩
  have HT4 := Lib.hid (HT3.out.below hB4)
  have HB4 := Lib.hid (HB3.out.trans (hB4.mono HB3.out.size))
  have hli := rroot_any ls.length (by omega) (dig ls 0 ls.length) w4 (dig_len _ _ _)
  have HLI := Lib.hid hli
  have HDL := Lib.hid (dig_len ls 0 ls.length)
  clear hB4 HP3 hli hq
  generalize dig ls 0 ls.length = dl at *
  go_wp2_with fail
  refine HLI.out.mono ?_
  rintro en w5 ⟨va, rfl, hoa, hB5⟩
  obtain ⟨Aa, ca, rfl, hca1, hca2, -, hsa⟩ := own_slice hoa
  have HT5 := Lib.hid (HT4.out.below hB5)
  have HB5 := Lib.hid (HB4.out.trans (hB5.mono HB4.out.size))
  have HSA := Lib.hid hsa
  have HP5 := Lib.hid (top_call HT5.out.m)
  clear hB5 HLI hoa hsa
  go_wp2_with fail
  refine HP5.out.mono ?_
  rintro en w6 ⟨rfl, hB6⟩
  have HT6 := Lib.hid (HT5.out.below hB6)
  have HB6 := Lib.hid (HB5.out.trans (hB6.mono HB5.out.size))
  have HSA6 := Lib.hid ((HSA.out.below hB6).wide hB6.size)
  have hli := rroot_any ms.length (by omega) (dig ms 0 ms.length) w6 (dig_len _ _ _)
  have HLI := Lib.hid hli
  have HDM := Lib.hid (dig_len ms 0 ms.length)
  clear hB6 HP5 hli
  generalize dig ms 0 ms.length = dm at *
  go_wp2_with fail
  refine HLI.out.mono ?_
  rintro en w7 ⟨vb, rfl, hob, hB7⟩
  obtain ⟨Ab, cb, rfl, hcb1, hcb2, -, hsb⟩ := own_slice hob
  have HB7 := Lib.hid (HB6.out.trans (hB7.mono HB6.out.size))
  have hsa7 := (HSA6.out.below hB7).wide hB7.size
  have hla : (rootB ls.length dl).length ≤ 140737488353000 := by rw [rootB_len, HDL.out]; omega
  have hlb : (rootB ms.length dm).length ≤ 140737488353000 := by rw [rootB_len, HDM.out]; omega
  clear hB7 HLI hob
  generalize rootB ls.length dl = ra at *
  generalize rootB ms.length dm = rb at *
  have HSA7 := Lib.hid hsa7
  have HSB7 := Lib.hid hsb
  have hcA := conv_sees ca hsa7
  have hcB := conv_sees cb hsb
  have hneS : ((strB ra).toList == (strB rb).toList) = false := by rw [strB_beq]; simpa using HNE.out
  have hneT : strB ra ≠ strB rb := fun e => HNE.out (strB_inj e)
  have HSMA := Lib.hid (rsum_any w7.heap.size Aa ca ra w7 hsa7 (Nat.le_refl _) hla)
  have HLB := Lib.hid hlb
  clear hsa7 hsb hla hlb
  go_wp2_with fail
  refine HSMA.out.mono ?_
  rintro en w8 ⟨rfl, hB8⟩
  have HSMB := Lib.hid (rsum_any w7.heap.size Ab cb rb w8 (HSB7.out.below hB8) hB8.size HLB.out)
  have HB8 := Lib.hid (HB7.out.trans (hB8.mono HB7.out.size))
  have hq := fun W => eql_b32 W (shaF rb) (shaF_len _)
  rw [HSH.out]
  clear hB8 HSMA hcA hcB
  generalize shaF rb = db at *
  go_wp2_with fail
  refine HSMB.out.mono ?_
  rintro en w9 ⟨rfl, hB9⟩
  have HB9 := Lib.hid (HB8.out.trans (hB9.mono HB8.out.size))
  clear hB9 HSMB
  go_wp2
  go_ret
  exact ⟨rfl, HB9.out⟩
end Go.Proofs.YthmkdlnocdbhjaaDoor
