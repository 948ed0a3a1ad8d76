/- What the laws on rings need: bytes of a string and of a literal, Sign whatever it is called with. -/
import Derived.Test.YtkhbogccmngmmaaDoorSgK
import Derived.Test.YtkhbogccmngmmaaDoorSgY
import Derived.Lib.ConvBytes
import Derived.Laws.AppendOwn
namespace Go.Proofs.YtkhbogccmngmmaaDoor
open Go.RowKit

/-- Bytes that lie in a world made since. -/
structure Txt (W w : World) (A : Option Addr) (c : Nat) (t : List UInt8) : Prop where
  sees : Sees w w.heap.size 1 A t.length (bys t)
  below : Below W.heap.size W w
  cap : t.length ≤ c
  max : c ≤ 9223372036854775807
theorem below_bytes (W : World) (e : TypeId) (s : ByteArray) : Below W.heap.size W (Lib.bytesWorld W e s) :=
  ⟨rfl, rfl, rfl, by rw [Lib.bytesWorld_size]; omega, fun k hk => Lib.bytesWorld_at_old W e s k hk⟩
theorem conv_str (W : World) (t : List UInt8) : (convert 9 31 (.string (strB t))).run Tryd.prog W = .ok (.slice (some ⟨W.heap.size, 0, none⟩) t.length (grownCap W t.length 0 5)) (Lib.bytesWorld W 5 (strB t)) :=
  Lib.run_convert_string_bytes W 9 31 5 (strB t) Tryd.underlying9 Tryd.underlying31 Tryd.underlying5
theorem txt_str (W : World) (t : List UInt8) (ht : t.length ≤ 140737488351232) : Txt W (Lib.bytesWorld W 5 (strB t)) (some ⟨W.heap.size, 0, none⟩) (grownCap W t.length 0 5) t := by
  refine ⟨⟨by rw [bys_len]; omega, .inr ⟨_, rfl, by rw [Lib.bytesWorld_size]; exact Nat.lt_succ_self _, fun j u hu => ?_⟩⟩, below_bytes _ _ _, grownCap_ge _ _ _ _, by have := grownCap_le_maxLen W t.length 0 5 (by unfold maxLen; omega); unfold maxLen at this; omega⟩
  have hj : j < t.length := by
    rcases Nat.lt_or_ge j t.length with h | h
    · exact h
    · rw [List.getElem?_eq_none (by rw [bys_len]; exact h)] at hu; cases hu
  rw [add_at, Lib.bytesWorld_cell W 5 (strB t) j hj, ← hu, bys_get, List.getElem?_eq_getElem hj]
  simp [strB, by_, List.getElem?_eq_getElem hj]
set_option maxRecDepth 20000 in
/-- A literal of one byte. -/
theorem build_b1 (W : World) (a : Int) : (Instr.buildSlice 31 1 #[(0, .int .u8 a)]).run Tryd.prog W = .ok (.slice (some ⟨W.heap.size, 0, none⟩) 1 1) (W.alloc (.cells #[.int .u8 a] 5)) := by
  obtain ⟨i0, hi, hz0, hz1, hz2⟩ := info_parts Tryd.infoByte
  exact run_buildSlice (P := Tryd.prog) W 31 5 1 _ _ i0 (.int .u8 0) Tryd.underlying31 hi hz0 (by rw [hz1]; decide) (by rw [hz1]; decide) (by rw [hz1]; exact Great.fill_flat [.int .u8 a] _ (by simp [Value.cells]) (by simp))
theorem txt_one (W : World) (b : UInt8) (z : Nat × Nat) : Txt W (W.alloc (.cells #[by_ b] 5 z)) (some ⟨W.heap.size, 0, none⟩) 1 [b] := by
  refine ⟨⟨rfl, .inr ⟨_, rfl, by simp, fun j u hu => ?_⟩⟩, below_alloc1 _ _, Nat.le_refl _, by omega⟩
  rw [add_at, cell_of_row _ W.heap.size j _ 5 z (heap_alloc_new W _)]
  simpa [bys] using hu

/-- What is wrong with a place. -/
def sErr (nk : Nat) (bud : Int) (p : Int × Int) : Int := if p.1 < 0 ∨ (nk : Int) ≤ p.1 then 2 else if p.2 < 0 ∨ bud ≤ p.2 then 17 else 0
def sL (nk : Nat) (bud : Int) (L : List Sg) (s : Sg) : List Sg := if sErr nk bud s.1 = 0 then signL L s else L
def sU (nk : Nat) (bud : Int) (L : List Sg) (U : List (Int × Int)) (s : Sg) : List (Int × Int) := if sErr nk bud s.1 = 0 then signU L U s else U
def sC (nk : Nat) (bud : Int) (s : Sg) : List Value := if sErr nk bud s.1 = 0 then sigL s.1.2 (tagF s) else sigZ
theorem sErr_zero {nk : Nat} {bud : Int} {p : Int × Int} : sErr nk bud p = 0 ↔ (0 ≤ p.1 ∧ p.1 < nk) ∧ 0 ≤ p.2 ∧ p.2 < bud := by
  unfold sErr
  split
  · constructor
    · intro h; cases h
    · omega
  · split
    · constructor
      · intro h; cases h
      · omega
    · constructor
      · omega
      · intro _; rfl
theorem sC_len (nk : Nat) (bud : Int) (s : Sg) : (sC nk bud s).length = 33 := by unfold sC; split; exact sigL_len _ _ (tagF_len _); exact sigZ_len
theorem sC_one (nk : Nat) (bud : Int) (s : Sg) : (sC nk bud s).toArray.all (·.oneCell') = true := by unfold sC; split; exact (sigL_one _ _).out; exact (sigL_one _ _).out
theorem sL_len (nk : Nat) (bud : Int) (L : List Sg) (s : Sg) : (sL nk bud L s).length ≤ L.length + 1 := by
  unfold sL signL; split <;> (try split) <;> simp
/-- Sign, whatever it is called with. -/
theorem sign_all {f : Foot} {nk : Nat} {bud : Int} {L : List Sg} {U : List (Int × Int)} (w : World) (h : RingW w f nk bud L U) (k i : Int) (B : Nat) (A : Option Addr) (c : Nat) (t : List UInt8) (hs : Sees w B 1 A t.length (bys t)) (hBw : B ≤ w.heap.size) (hc : t.length ≤ c) (hcm : c ≤ 9223372036854775807) (ht : t.length ≤ 140737488351232) (hk2 : Consts w) (hfew : L.length < 4611686018427387904) :
    Calls Tryd.prog 27 #[.pointer (some ⟨f.r, 0, none⟩), .int .i64 k, .int .i64 i, .slice A t.length c] w (SPost f nk bud (sL nk bud L ((k, i), t)) (sU nk bud L U ((k, i), t)) (sC nk bud ((k, i), t)) (sErr nk bud (k, i)) w) := by
  by_cases h1 : k < 0 ∨ (nk : Int) ≤ k
  · have e : sErr nk bud (k, i) = 2 := by unfold sErr; rw [if_pos h1]
    refine (sign_range w h k h1 i _).mono fun e' w' ⟨he, hB⟩ => ?_
    unfold SPost sL sU sC
    rw [e]
    exact ⟨he, h.below hB, Turn.of_below hB⟩
  · obtain ⟨k', rfl⟩ : ∃ k' : Nat, k = (k' : Int) := ⟨k.toNat, by omega⟩
    by_cases h2 : i < 0 ∨ bud ≤ i
    · have e : sErr nk bud ((k' : Int), i) = 17 := by unfold sErr; rw [if_neg h1, if_pos h2]
      refine (sign_budget w h k' (by omega) i h2 _).mono fun e' w' ⟨he, hB⟩ => ?_
      unfold SPost sL sU sC
      rw [e]
      exact ⟨he, h.below hB, Turn.of_below hB⟩
    · obtain ⟨i', rfl⟩ : ∃ i' : Nat, i = (i' : Int) := ⟨i.toNat, by omega⟩
      have e : sErr nk bud ((k' : Int), (i' : Int)) = 0 := by unfold sErr; rw [if_neg h1, if_neg h2]
      refine (sign_ok w h k' (by omega) i' (by omega) B A c t hs hBw hc hcm ht hk2 hfew).mono fun e' w' hh => ?_
      unfold SPost sL sU sC
      rw [e]
      exact hh
/-- A signer's, likewise. -/
theorem ssign_all {f : Foot} {nk : Nat} {bud : Int} {L : List Sg} {U : List (Int × Int)} (w : World) (h : RingW w f nk bud L U) (k : Nat) (hk : k < nk) (n : Int) (hn0 : 0 ≤ n) (g : Nat) (hg : SigW w g f k n) (A : Option Addr) (c : Nat) (t : List UInt8) (hT : Txt w w A c t) (ht : t.length ≤ 140737488351232) (hk2 : Consts w) (hfew : L.length < 4611686018427387904) :
    Calls Tryd.prog 32 #[.pointer (some ⟨g, 0, none⟩), .slice A t.length c] w (fun e w' => e = .returned (.tuple #[.agg (sC nk bud (((k : Int), n), t)).toArray, .int .i64 (if n < bud then 0 else 17)]) ∧ RingW w' f nk bud (if n < bud then signL L (((k : Int), n), t) else L) (if n < bud then signU L U (((k : Int), n), t) else U) ∧ SigW w' g f k (if n < bud then n + 1 else n) ∧ Turn (fun b => f.mine b ∨ b = g) w w') := by
  obtain ⟨n', rfl⟩ : ∃ n' : Nat, n = (n' : Int) := ⟨n.toNat, by omega⟩
  have hcall : ∀ W : World, Below w.heap.size w W → Calls Tryd.prog 27 #[.pointer (some ⟨f.r, 0, none⟩), .int .i64 (k : Int), .int .i64 (n' : Int), .slice A t.length c] W (SPost f nk bud (sL nk bud L (((k : Int), (n' : Int)), t)) (sU nk bud L U (((k : Int), (n' : Int)), t)) (sC nk bud (((k : Int), (n' : Int)), t)) (sErr nk bud ((k : Int), (n' : Int))) W) := fun W hB =>
    sign_all W (h.below hB) k n' w.heap.size A c t (hT.sees.below hB) hB.size hT.cap hT.max ht (hk2.below hB hk2.2.2) hfew
  by_cases hb : (n' : Int) < bud
  · have e : sErr nk bud ((k : Int), (n' : Int)) = 0 := sErr_zero.2 ⟨⟨by simp, by simp; omega⟩, by simp, hb⟩
    rw [e] at hcall
    unfold sL sU at hcall
    simp only [e, if_true] at hcall
    refine (ssign_yes w h k n' g hg _ _ _ _ (sC_len _ _ _) (sC_one _ _ _) hcall hb).mono fun e' w' hh => ?_
    rw [if_pos hb, if_pos hb, if_pos hb, if_pos hb]
    exact hh
  · have e : sErr nk bud ((k : Int), (n' : Int)) = 17 := by unfold sErr; rw [if_neg (by simp; omega), if_pos (by simp; omega)]
    rw [e] at hcall
    unfold sL sU at hcall
    simp only [e] at hcall
    refine (ssign_not w h k n' g hg _ _ _ _ (sC_len _ _ _) (sC_one _ _ _) hcall).mono fun e' w' ⟨h1, h2, h3, h4⟩ => ?_
    rw [if_neg hb, if_neg hb, if_neg hb, if_neg hb]
    exact ⟨h1, h2, h3, h4.mono fun b _ hb => .inl hb⟩
end Go.Proofs.YtkhbogccmngmmaaDoor
