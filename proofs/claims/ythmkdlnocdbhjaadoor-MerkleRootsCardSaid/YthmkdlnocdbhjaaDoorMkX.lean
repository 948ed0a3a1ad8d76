/- merkle.climb: plain part. -/
import Derived.Test.YthmkdlnocdbhjaaDoorMkW
namespace Go.Proofs.YthmkdlnocdbhjaaDoor
open Go.RowKit

/-- One step up: the digest d beside the path's p. -/
def stepP (i : Nat) (s : Nat × Nat) (p d : List UInt8) : List UInt8 := if s.1 < i then nodeB p d else nodeB d p
/-- The digest behind the first k steps. -/
def cD (i : Nat) (S : List (Nat × Nat)) (ps : List (List UInt8)) (d0 : List UInt8) : Nat → List UInt8
  | 0 => d0
  | k + 1 => shaF (stepP i (S.getD k (0, 0)) (ps.getD k []) (cD i S ps d0 k))
/-- The preimages behind the first k steps. -/
def cP (i : Nat) (S : List (Nat × Nat)) (ps : List (List UInt8)) (e : List UInt8) (k : Nat) : List (List UInt8) :=
  leafB e :: (List.range k).map fun j => stepP i (S.getD j (0, 0)) (ps.getD j []) (cD i S ps (shaF (leafB e)) j)
theorem cP_succ (i : Nat) (S : List (Nat × Nat)) (ps : List (List UInt8)) (e : List UInt8) (k : Nat) : cP i S ps e (k + 1) = cP i S ps e k ++ [stepP i (S.getD k (0, 0)) (ps.getD k []) (cD i S ps (shaF (leafB e)) k)] := by
  simp [cP, List.range_succ]
theorem cP_len (i : Nat) (S : List (Nat × Nat)) (ps : List (List UInt8)) (e : List UInt8) (k : Nat) : (cP i S ps e k).length = k + 1 := by simp [cP]
/-- All preimages: from the element's own to the root's. -/
def climbF (n i : Nat) (e : List UInt8) (ps : List (List UInt8)) : List (List UInt8) := cP i (sibs 0 n i) ps e (sibs 0 n i).length ++ [rootB n (cD i (sibs 0 n i) ps (shaF (leafB e)) (sibs 0 n i).length)]
theorem cD_len (i : Nat) (S : List (Nat × Nat)) (ps : List (List UInt8)) (d0 : List UInt8) (h : d0.length = 32) : ∀ k, (cD i S ps d0 k).length = 32
  | 0 => h
  | _ + 1 => shaF_len _
theorem stepP_len (i : Nat) (s : Nat × Nat) (p d : List UInt8) (hp : p.length = 32) (hd : d.length = 32) : (stepP i s p d).length = 100 := by
  unfold stepP
  split <;> rw [nodeB_len] <;> omega
/-- A path that lies at a world: digests, 32 cells each. -/
structure PathW (w : World) (B : Nat) (A : Option Addr) (c : Nat) (ps : List (List UInt8)) : Prop where
  sees : Sees w B 32 A ps.length (digCells ps)
  len : ∀ p ∈ ps, p.length = 32
  cap : ps.length ≤ c ∧ c < 9223372036854775808
  hB : B ≤ w.heap.size
theorem PathW.below {w w' : World} {B : Nat} {A : Option Addr} {c : Nat} {ps : List (List UInt8)} (h : PathW w B A c ps) (hb : Below w.heap.size w w') : PathW w' B A c ps :=
  ⟨h.sees.below (hb.mono h.hB), h.len, h.cap, Nat.le_trans h.hB hb.size⟩
theorem digCells_at : ∀ (ps : List (List UInt8)) (k : Nat) (h : k < ps.length), (∀ p ∈ ps, p.length = 32) → ∀ j u, (bys (ps[k]'h))[j]? = some u → (digCells ps)[k * 32 + j]? = some u
  | [], k, h, _, j, u, _ => by simp at h
  | p :: ps, 0, _, hl, j, u, hu => by
    have hp := hl p (by simp)
    have hj : j < 32 := by
      rcases Nat.lt_or_ge j 32 with h | h
      · exact h
      · simp only [List.getElem_cons_zero] at hu
        rw [List.getElem?_eq_none (by rw [bys_len]; omega)] at hu; cases hu
    simp only [digCells, List.flatMap_cons, Nat.zero_mul, Nat.zero_add]
    rw [List.getElem?_append_left (by rw [bys_len]; omega)]
    exact hu
  | p :: ps, k + 1, h, hl, j, u, hu => by
    have hp := hl p (by simp)
    have ih := digCells_at ps k (by simpa using h) (fun q hq => hl q (by simp [hq])) j u (by simpa using hu)
    have e : (k + 1) * 32 + j = (bys p).length + (k * 32 + j) := by rw [bys_len, hp]; omega
    simp only [digCells, List.flatMap_cons]
    rw [e, List.getElem?_append_right (by omega), Nat.add_sub_cancel_left]
    exact ih
end Go.Proofs.YthmkdlnocdbhjaaDoor
