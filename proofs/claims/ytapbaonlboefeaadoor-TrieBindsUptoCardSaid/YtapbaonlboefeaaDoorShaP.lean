/- Writing into a block that is known whole: sha.putWord. -/
import Derived.Test.YtapbaonlboefeaaDoorShaM
import Derived.Test.YtapbaonlboefeaaDoorSet
namespace Go.Proofs.YtapbaonlboefeaaDoor
open Go.RowKit


/-- A word's four bytes. -/
def bytesOf (x : UInt32) : List UInt8 := [UInt8.ofNat (x.toNat / 16777216), UInt8.ofNat (x.toNat / 65536), UInt8.ofNat (x.toNat / 256), UInt8.ofNat x.toNat]
theorem bytesOf_len (x : UInt32) : (bytesOf x).length = 4 := rfl

set_option maxHeartbeats 800000 in
theorem putWord_any (g o n c : Nat) (T : TypeId) (cs : List Value) (x : UInt32) (w : World) (hg : HB w g T cs) (hn : 4 ≤ n) (ho : o + 4 ≤ cs.length) :
    Calls Tryd.prog 70 #[.slice (some ⟨g, o, none⟩) n c, u32_ x] w fun e w' => e = .returned (.tuple #[]) ∧ HB w' g T (splice cs o (bys (bytesOf x))) ∧ w.grownBy w' (some g) := by
  obtain ⟨v0, hv0⟩ : ∃ v, w.cell? ⟨g, o, none⟩ = some v := ⟨_, (hg.cell o).trans (List.getElem?_eq_getElem (by omega))⟩
  obtain ⟨v1, hv1⟩ : ∃ v, w.cell? ⟨g, o + 1, none⟩ = some v := ⟨_, (hg.cell (o + 1)).trans (List.getElem?_eq_getElem (by omega))⟩
  obtain ⟨v2, hv2⟩ : ∃ v, w.cell? ⟨g, o + 2, none⟩ = some v := ⟨_, (hg.cell (o + 2)).trans (List.getElem?_eq_getElem (by omega))⟩
  obtain ⟨v3, hv3⟩ : ∃ v, w.cell? ⟨g, o + 3, none⟩ = some v := ⟨_, (hg.cell (o + 3)).trans (List.getElem?_eq_getElem (by omega))⟩
  have f0 := hg.frozen o
  have f1 := hg.frozen (o + 1)
  have f2 := hg.frozen (o + 2)
  have f3 := hg.frozen (o + 3)
  have r0 : 0 < n := by omega
  have r1 : 1 < n := by omega
  have r2 : 2 < n := by omega
  have r3 : 3 < n := by omega
  have hfin := Lib.hid (HB.setCells (bys (bytesOf x)) o w cs hg (by rw [bys_len, bytesOf_len]; exact ho))
  clear hg
  go_enter Tryd.func70, Tryd.ntmps70
  go_wp2
  go_end0
  have e0 : Value.int .u8 ((x.toNat : Int) / 16777216 % 256) = by_ (UInt8.ofNat (x.toNat / 16777216)) := by simp [by_]
  have e1 : Value.int .u8 ((x.toNat : Int) / 65536 % 256) = by_ (UInt8.ofNat (x.toNat / 65536)) := by simp [by_]
  have e2 : Value.int .u8 ((x.toNat : Int) / 256 % 256) = by_ (UInt8.ofNat (x.toNat / 256)) := by simp [by_]
  have e3 : Value.int .u8 ((x.toNat : Int) % 256) = by_ (UInt8.ofNat x.toNat) := by simp [by_]
  rw [e0, e1, e2, e3]
  exact ⟨rfl, hfin.out⟩
end Go.Proofs.YtapbaonlboefeaaDoor
