/- sha.word, sha.putWord. -/
import Derived.Test.YthmkdlnocdbhjaaDoorShaW
namespace Go.Proofs.YthmkdlnocdbhjaaDoor
open Go.RowKit

def wb (b : UInt8) : UInt32 := UInt32.ofNat b.toNat
def wl (x : UInt32) (n : Nat) : UInt32 := UInt32.ofNat (x.toNat * 2 ^ n)
theorem wb_wrap (b : UInt8) : IntKind.u32.wrap (b.toNat : Int) = ((wb b).toNat : Int) := by
  have := b.toNat_lt
  rw [IntKind.wrap_u32, wb, UInt32.toNat_ofNat']; omega
theorem wb_bare (b : UInt8) : (b.toNat : Int) = ((wb b).toNat : Int) := by
  have := b.toNat_lt
  rw [wb, UInt32.toNat_ofNat']; omega
theorem wl_wrap (x : UInt32) (n : Nat) (m : Int) (hm : m = 2 ^ n) : IntKind.u32.wrap ((x.toNat : Int) * m) = ((wl x n).toNat : Int) := by
  subst hm
  have e0 : (x.toNat : Int) * 2 ^ n = ((x.toNat * 2 ^ n : Nat) : Int) := by push_cast; rfl
  rw [e0, IntKind.wrap_u32, wl, UInt32.toNat_ofNat']
  generalize x.toNat * 2 ^ n = q
  omega
theorem wl24 (x : UInt32) : IntKind.u32.wrap ((x.toNat : Int) * 16777216) = ((wl x 24).toNat : Int) := wl_wrap x 24 _ rfl
theorem wl16 (x : UInt32) : IntKind.u32.wrap ((x.toNat : Int) * 65536) = ((wl x 16).toNat : Int) := wl_wrap x 16 _ rfl
theorem wl8 (x : UInt32) : IntKind.u32.wrap ((x.toNat : Int) * 256) = ((wl x 8).toNat : Int) := wl_wrap x 8 _ rfl
/-- Four bytes as a word. -/
def word4 (b0 b1 b2 b3 : UInt8) : UInt32 := wo (wo (wo (wl (wb b0) 24) (wl (wb b1) 16)) (wl (wb b2) 8)) (wb b3)
section
attribute [local go_sem] wb_wrap wl24 wl16 wl8 u_or

set_option maxHeartbeats 800000 in
theorem word_any (b0 b1 b2 b3 : UInt8) (ad : Addr) (n c : Nat) (w : World) (hn : 4 ≤ n) (h0 : w.cell? (ad.add 0) = some (by_ b0)) (h1 : w.cell? (ad.add 1) = some (by_ b1)) (h2 : w.cell? (ad.add 2) = some (by_ b2)) (h3 : w.cell? (ad.add 3) = some (by_ b3)) :
    Calls Tryd.prog 82 #[.slice (some ad) n c] w fun e w' => e = .returned (u32_ (word4 b0 b1 b2 b3)) ∧ ∃ d, w' = w.drewN d := by
  have r0 : 0 < n := by omega
  have q1 : (1 : Int) < n := by omega
  have q2 : (2 : Int) < n := by omega
  have q3 : (3 : Int) < n := by omega
  rw [add_zero] at h0
  rw [add_pos _ 1 (by omega)] at h1
  rw [add_pos _ 2 (by omega)] at h2
  rw [add_pos _ 3 (by omega)] at h3
  go_enter Tryd.func82, Tryd.ntmps82
  go_wp2
  go_quiet (fail)
  go_wp2
  go_ret
  exact ⟨rfl, _, rfl⟩
end

/-- The word at byte i. -/
def wordAt (l : List UInt8) (i : Nat) : UInt32 := word4 (l.getD i 0) (l.getD (i + 1) 0) (l.getD (i + 2) 0) (l.getD (i + 3) 0)
theorem wordAt_drop (l : List UInt8) (k : Nat) : wordAt (l.drop k) 0 = wordAt l k := by
  simp only [wordAt, List.getD_eq_getElem?_getD, List.getElem?_drop, Nat.add_zero, Nat.zero_add]
theorem word_see (B : Nat) (A : Option Addr) (n c : Nat) (l : List UInt8) (w : World) (hs : Sees w B 1 A n (bys l)) (hn : 4 ≤ n) :
    Calls Tryd.prog 82 #[.slice A n c] w fun e w' => e = .returned (u32_ (wordAt l 0)) ∧ ∃ d, w' = w.drewN d := by
  obtain ⟨ad, rfl, hb, hx⟩ := hs.some_ (by omega)
  have hl : l.length = n := by have h := hs.len; rw [bys_len] at h; omega
  have get : ∀ i, i < 4 → w.cell? (ad.add i) = some (by_ (l.getD i 0)) := fun i hi => hx i _ (by
    rw [bys_get, List.getElem?_eq_getElem (by omega), List.getD_eq_getElem?_getD, List.getElem?_eq_getElem (by omega)]; rfl)
  exact word_any _ _ _ _ ad n c w hn (get 0 (by omega)) (get 1 (by omega)) (get 2 (by omega)) (get 3 (by omega))
end Go.Proofs.YthmkdlnocdbhjaaDoor
