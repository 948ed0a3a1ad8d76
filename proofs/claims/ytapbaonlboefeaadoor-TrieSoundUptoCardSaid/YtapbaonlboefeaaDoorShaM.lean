/- sha.mix: one block into a state. -/
import Derived.Test.YtapbaonlboefeaaDoorShaG
namespace Go.Proofs.YtapbaonlboefeaaDoor
open Go.RowKit

/-- The sixty-four constants, as FIPS 180-4 has them. -/
def kTab : List UInt32 := [
  0x428a2f98, 0x71374491, 0xb5c0fbcf, 0xe9b5dba5, 0x3956c25b, 0x59f111f1, 0x923f82a4, 0xab1c5ed5, 0xd807aa98, 0x12835b01, 0x243185be, 0x550c7dc3, 0x72be5d74, 0x80deb1fe, 0x9bdc06a7, 0xc19bf174,
  0xe49b69c1, 0xefbe4786, 0x0fc19dc6, 0x240ca1cc, 0x2de92c6f, 0x4a7484aa, 0x5cb0a9dc, 0x76f988da, 0x983e5152, 0xa831c66d, 0xb00327c8, 0xbf597fc7, 0xc6e00bf3, 0xd5a79147, 0x06ca6351, 0x14292967,
  0x27b70a85, 0x2e1b2138, 0x4d2c6dfc, 0x53380d13, 0x650a7354, 0x766a0abb, 0x81c2c92e, 0x92722c85, 0xa2bfe8a1, 0xa81a664b, 0xc24b8b70, 0xc76c51a3, 0xd192e819, 0xd6990624, 0xf40e3585, 0x106aa070,
  0x19a4c116, 0x1e376c08, 0x2748774c, 0x34b0bcb5, 0x391c0cb3, 0x4ed8aa4a, 0x5b9cca4f, 0x682e6ff3, 0x748f82ee, 0x78a5636f, 0x84c87814, 0x8cc70208, 0x90befffa, 0xa4506ceb, 0xbef9a3f7, 0xc67178f2]
def hTab : List UInt32 := [0x6a09e667, 0xbb67ae85, 0x3c6ef372, 0xa54ff53a, 0x510e527f, 0x9b05688c, 0x1f83d9ab, 0x5be0cd19]
/-- What the two tables of the package hold. -/
def Consts (w : World) : Prop :=
  (∀ i, i < 64 → w.cell? ⟨2, i, none⟩ = some (.int .u32 ((kTab.getD i 0).toNat : Int))) ∧
  (∀ i, i < 8 → w.cell? ⟨1, i, none⟩ = some (.int .u32 ((hTab.getD i 0).toNat : Int))) ∧ max 2 1 + 1 ≤ w.heap.size
theorem Consts.below {w w' : World} {B : Nat} (h : Consts w) (hb : Below B w w') (hB : max 2 1 + 1 ≤ B) : Consts w' :=
  ⟨fun i hi => (hb.cell (p := ⟨2, i, none⟩) (by show 2 < B; omega)).trans (h.1 i hi), fun i hi => (hb.cell (p := ⟨1, i, none⟩) (by show 1 < B; omega)).trans (h.2.1 i hi), Nat.le_trans h.2.2 hb.size⟩

structure St where
  a : UInt32
  b : UInt32
  c : UInt32
  d : UInt32
  e : UInt32
  f : UInt32
  g : UInt32
  h : UInt32
def St.list (s : St) : List UInt32 := [s.a, s.b, s.c, s.d, s.e, s.f, s.g, s.h]
def t1F (e f g h k w : UInt32) : UInt32 := wa (wa (wa (wa h (big1 e)) (wx (wn e f) (wn (wc e) g))) k) w
def t2F (a b c : UInt32) : UInt32 := wa (big0 a) (wx (wx (wn a b) (wn a c)) (wn b c))
def St.step (s : St) (k w : UInt32) : St := ⟨wa (t1F s.e s.f s.g s.h k w) (t2F s.a s.b s.c), s.a, s.b, s.c, wa s.d (t1F s.e s.f s.g s.h k w), s.e, s.f, s.g⟩
def St.run (ws : List UInt32) : Nat → St → St
  | 0, s => s
  | n + 1, s => (St.run ws n s).step (kTab.getD n 0) (ws.getD n 0)
def St.plus (s t : St) : St := ⟨wa s.a t.a, wa s.b t.b, wa s.c t.c, wa s.d t.d, wa s.e t.e, wa s.f t.f, wa s.g t.g, wa s.h t.h⟩
def St.get (s : St) : Nat → UInt32
  | 0 => s.a
  | 1 => s.b
  | 2 => s.c
  | 3 => s.d
  | 4 => s.e
  | 5 => s.f
  | 6 => s.g
  | _ => s.h
def plusTo (s t : St) (j : Nat) : List UInt32 := (s.plus t).list.take j ++ s.list.drop j
theorem below8 {p : Nat → Prop} (h0 : p 0) (h1 : p 1) (h2 : p 2) (h3 : p 3) (h4 : p 4) (h5 : p 5) (h6 : p 6) (h7 : p 7) : ∀ j, j < 8 → p j := by
  intro j hj
  have : j = 0 ∨ j = 1 ∨ j = 2 ∨ j = 3 ∨ j = 4 ∨ j = 5 ∨ j = 6 ∨ j = 7 := by omega
  rcases this with rfl | rfl | rfl | rfl | rfl | rfl | rfl | rfl <;> assumption
theorem plus_set (s t : St) (rest : List Value) : ∀ j, j < 8 → (us (plusTo s t j) ++ rest).set j (.int .u32 ((wa (s.get j) (t.get j)).toNat : Int)) = us (plusTo s t (j + 1)) ++ rest :=
  below8 rfl rfl rfl rfl rfl rfl rfl rfl
theorem plus_get (s t : St) (rest : List Value) : ∀ j, j < 8 → (us (plusTo s t j) ++ rest)[j]? = some (.int .u32 ((s.get j).toNat : Int)) :=
  below8 rfl rfl rfl rfl rfl rfl rfl rfl
theorem index_get (t : St) : ∀ j, j < 8 → ∀ w : World, (Instr.index 118 (.agg #[u32_ t.a, u32_ t.b, u32_ t.c, u32_ t.d, u32_ t.e, u32_ t.f, u32_ t.g, u32_ t.h]) (.int .i64 ((j : Nat) : Int))).run Tryd.prog w = .ok (.int .u32 ((t.get j).toNat : Int)) w :=
  below8 (fun _ => by kernel_rfl) (fun _ => by kernel_rfl) (fun _ => by kernel_rfl) (fun _ => by kernel_rfl) (fun _ => by kernel_rfl) (fun _ => by kernel_rfl) (fun _ => by kernel_rfl) (fun _ => by kernel_rfl)
/-- A block of 64 bytes into a state. -/
def compress (s : St) (l : List UInt8) : St := s.plus (St.run (scheduleF l) 64 s)

/-- The rounds' invariant: the eight variables, the round, and what lies in memory. -/
def MixAt (w : World) (g N : Nat) (T : TypeId) (s : St) (rest : List Value) (ws : List UInt32) (a b c d e f g' h i : Value) (wr : World) : Prop :=
  ∃ k : Nat, ∃ S : St, k ≤ 64 ∧ S = St.run ws k s ∧ i = .int .i64 (k : Int) ∧ a = u32_ S.a ∧ b = u32_ S.b ∧ c = u32_ S.c ∧ d = u32_ S.d ∧ e = u32_ S.e ∧ f = u32_ S.f ∧ g' = u32_ S.g ∧ h = u32_ S.h ∧
    HB wr g T (us s.list ++ rest) ∧ HB wr N 130 (us ws) ∧ Consts wr ∧ Below w.heap.size w wr

theorem u_not' (x : UInt32) : bits .xor .u32 (if IntKind.u32.signed = true then -1 else IntKind.u32.max) (x.toNat : Int) = ((wc x).toNat : Int) := by
  have e : (if IntKind.u32.signed = true then (-1 : Int) else IntKind.u32.max) = 4294967295 := by decide
  rw [e]; exact u_not x
section
attribute [local go_sem] u_add u_and u_xor u_not'
set_option maxHeartbeats 3200000 in
set_option maxRecDepth 100000 in
theorem mix_any (B : Nat) (A : Option Addr) (c : Nat) (l : List UInt8) (g : Nat) (T : TypeId) (s : St) (rest : List Value) (w : World) (hs : Sees w B 1 A 64 (bys l)) (hB : B ≤ w.heap.size) (hc : 64 ≤ c) (hcm : c ≤ 9223372036854775807)
    (hg : HB w g T (us s.list ++ rest)) (hk : Consts w) :
    Calls Tryd.prog 68 #[.pointer (some ⟨g, 0, none⟩), .slice A 64 c] w fun e w' => e = .returned (.tuple #[]) ∧ HB w' g T (us (compress s l).list ++ rest) ∧ w.grownBy w' (some g) := by
  have hlt := hg.lt
  have hlen := scheduleF_len l
  go_enter Tryd.func68, Tryd.ntmps68
  go_wp2_with fail
  refine (schedule_any B A c l w hs hB hc hcm).mono ?_
  rintro e w1 ⟨rfl, hB1⟩
  have hg1 := hg.below hB1 hlt
  have hk1 := hk.below hB1 hk.2.2
  have hcomp : compress s l = s.plus (St.run (scheduleF l) 64 s) := rfl
  generalize scheduleF l = ws at *
  have hcomp := Lib.hid hcomp
  clear hs
  have hz : HB (w1.alloc (Obj.cells (upTo 64 []).toArray 130)) w1.heap.size 130 (upTo 64 []) := HB.new _ _ _
  have hsz : (us ws).toArray.size = 64 := by rw [List.size_toArray, us_len, hlen]
  have H1 := Lib.hid (show (Tryd.prog.info? 130).map (·.size) = some (us ws).toArray.size by rw [hsz]; exact Tryd.infoW64)
  have H2 := Lib.hid (show (upTo 64 []).toArray.size = (us ws).toArray.size by rw [hsz, List.size_toArray, upTo_len 64 [] (by simp)])
  have H3 := Lib.hid (us_one ws)
  have HL := Lib.hid hlen
  clear hsz hlen
  have hzr := hz.row (us ws).toArray
  go_wp2_with (refine wpList_store_row rfl 130 _ _ rfl w1.heap.size (us ws).toArray rfl rfl 130 (upTo 64 []).toArray hz H1.out H2.out H3.out ?_)
  generalize hw2 : World.setRow _ w1.heap.size (us ws).toArray = w2
  have hB2 : Below w1.heap.size w1 w2 := by rw [← hw2]; exact Below.setRow_ ((Below.refl _ _).alloc (Nat.le_refl _) _) (Nat.le_refl _) _
  have hW : HB w2 w1.heap.size 130 (us ws) := by rw [← hw2]; exact hzr
  clear hw2 hz hzr H1 H2 H3
  have hg2' := hg1.below hB2 (Nat.lt_of_lt_of_le hlt hB1.size)
  have hk2 := hk1.below hB2 hk1.2.2
  have hB3 := hB1.trans (hB2.mono hB1.size)
  have hN := hB1.size
  generalize w1.heap.size = N at *
  clear hB1 hB2 hk1 hg1 hk
  have c0 : w2.cell? ⟨g, 0, none⟩ = some (.int .u32 (s.a.toNat : Int)) := hg2'.cell 0
  have c1 : w2.cell? ⟨g, 1, none⟩ = some (.int .u32 (s.b.toNat : Int)) := hg2'.cell 1
  have c2 : w2.cell? ⟨g, 2, none⟩ = some (.int .u32 (s.c.toNat : Int)) := hg2'.cell 2
  have c3 : w2.cell? ⟨g, 3, none⟩ = some (.int .u32 (s.d.toNat : Int)) := hg2'.cell 3
  have c4 : w2.cell? ⟨g, 4, none⟩ = some (.int .u32 (s.e.toNat : Int)) := hg2'.cell 4
  have c5 : w2.cell? ⟨g, 5, none⟩ = some (.int .u32 (s.f.toNat : Int)) := hg2'.cell 5
  have c6 : w2.cell? ⟨g, 6, none⟩ = some (.int .u32 (s.g.toNat : Int)) := hg2'.cell 6
  have c7 : w2.cell? ⟨g, 7, none⟩ = some (.int .u32 (s.h.toNat : Int)) := hg2'.cell 7
  go_simp
  go_quiet (fail)
  go_wp2
  go_quiet (fail)
  go_wp2
  have hst : ∀ n m : Nat, MixAt w g N T s rest ws (u32_ s.a) (u32_ s.b) (u32_ s.c) (u32_ s.d) (u32_ s.e) (u32_ s.f) (u32_ s.g) (u32_ s.h) (.int .i64 ((0 : Nat) : Int)) ((w2.drewN n).drewN m) := fun n m =>
    ⟨0, s, by omega, rfl, rfl, rfl, rfl, rfl, rfl, rfl, rfl, rfl, rfl, (hg2'.drewN n).drewN m, (hW.drewN n).drewN m, hk2, below_drewN_ (below_drewN_ hB3 n) m⟩
  have Hst := Lib.hid hst
  clear hst hg2' hW hk2 hB3 c0 c1 c2 c3 c4 c5 c6 c7
  go_loopw [5, 6, 7, 8, 9, 10, 11, 12, 52] (fun a b c d e f g' h i wr => MixAt w g N T s rest ws a b c d e f g' h i wr) (fun _ _ _ _ _ _ _ _ i _ => 64 - (intOf i).toNat)
  case atStart => exact Hst.out _ _
  case round =>
    obtain ⟨k, S, hk64, hS, rfl, rfl, rfl, rfl, rfl, rfl, rfl, rfl, rfl, hgr, hWr, hkr, hBr⟩ := hrel
    have HS := Lib.hid hS
    clear hS Hst
    rcases Nat.lt_or_ge k 64 with hlt64 | hge64
    · have ck := hkr.1 k hlt64
      have cw : wr.cell? ⟨N, k, none⟩ = some (.int .u32 ((ws.getD k 0).toNat : Int)) := (hWr.cell k).trans (us_get ws k (by rw [HL.out]; exact hlt64))
      have hki : (k : Int) < 64 := by omega
      go_wp2
      go_quiet ((go_at_call 78; exact Calls.quiet_of_same ((sum1_any _ _).mono fun _ _ ⟨a, b⟩ => ⟨a, b.symm⟩)))
      go_wp2_with (go_at_call 79; refine (sum0_any _ _).mono ?_; rintro e w' ⟨rfl, rfl⟩)
      go_roundw
      case rel =>
        refine ⟨k + 1, S.step (kTab.getD k 0) (ws.getD k 0), by omega, by have h := HS.out; subst h; rfl, by go_num, ?_, rfl, rfl, rfl, ?_, rfl, rfl, rfl, hgr, hWr, hkr, below_drewN_ hBr _⟩
        · simp only [St.step, t1F, t2F, List.getD_eq_getElem?_getD]
        · simp only [St.step, t1F, List.getD_eq_getElem?_getD]
      case measure => simp [intOf]; omega
    · have HR := Lib.hid (show compress s l = s.plus S by rw [hcomp.out, HS.out, show k = 64 from by omega])
      have hki : (64 : Int) ≤ k := by omega
      clear hWr HS hcomp HL
      go_wp2_with fail
      have hg8 : HB wr g T (us (plusTo s S 0) ++ rest) := hgr
      have hG0 : w.grownBy wr (some g) := ⟨hBr.os, hBr.tape, hBr.output, hBr.size, fun i hi _ => hBr.block i hi⟩
      clear hgr hkr hBr hki
      go_loopw [112] (fun i wr => ∃ j : Nat, j ≤ 8 ∧ i = .int .i64 (j : Int) ∧ HB wr g T (us (plusTo s S j) ++ rest) ∧ w.grownBy wr (some g)) (fun i _ => 8 - (intOf i).toNat)
      case atStart => exact ⟨0, by omega, rfl, hg8, hG0⟩
      case round =>
        obtain ⟨j, hj, rfl, hgj, hGj⟩ := hrel
        clear hg8 hG0
        rcases Nat.lt_or_ge j 8 with hlt8 | hge8
        · have hset := Lib.hid (plus_set s S rest j hlt8)
          have cj := (hgj.cell j).trans (plus_get s S rest j hlt8)
          have hf := hgj.frozen j
          have hix := index_get S j hlt8
          have hj8 : (j : Int) < 8 := by omega
          have hg' := hgj.set_ j (.int .u32 ((wa (s.get j) (S.get j)).toNat : Int))
          rw [hset.out] at hg'
          have hG' : w.grownBy (wr.setCell ⟨g, j, none⟩ (.int .u32 ((wa (s.get j) (S.get j)).toNat : Int))).drew (some g) :=
            hGj.trans ⟨rfl, rfl, rfl, by simp [World.setCell], fun i _ hne => heap_setCell_other _ _ _ _ (fun e => hne (by rw [e]))⟩
          go_wp2
          go_still_tail 9, (by kernel_rfl)
          change wpList _ _ _ _ _ wr.drew
          go_wp2
          go_roundw
          case rel => exact ⟨j + 1, by omega, by go_num, hg'.drew, hG'⟩
          case measure => simp [intOf]; omega
        · have hj8 : (8 : Int) ≤ j := by omega
          have hfin : Hid (us (plusTo s S j) ++ rest = us (compress s l).list ++ rest) := by rw [HR.out, show j = 8 from by omega]; rfl
          go_wp2
          go_end0
          exact ⟨rfl, by rw [← hfin.out]; exact hgj, hGj⟩
end
end Go.Proofs.YtapbaonlboefeaaDoor
