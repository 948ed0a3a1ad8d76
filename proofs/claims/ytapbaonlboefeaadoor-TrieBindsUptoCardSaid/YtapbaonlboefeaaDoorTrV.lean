/- trie: toDigest: the first 32 of some bytes; Prove of a map that is not valid. -/
import Derived.Test.YtapbaonlboefeaaDoorTrN
namespace Go.Proofs.YtapbaonlboefeaaDoor
open Go.RowKit

theorem splice_whole (cur new : List Value) (h : new.length = cur.length) : splice cur 0 new = new := by
  simp [splice, h]
theorem sees_first {w : World} {B k : Nat} {l : List UInt8} {A : Option Addr} (h : Sees w B 1 A l.length (bys l)) (hk : k ≤ l.length) : Sees w B 1 A k (bys (l.take k)) := by
  have := h.take hk
  rw [Nat.mul_one, show (bys l).take k = bys (l.take k) by simp [bys]] at this
  exact this
set_option maxRecDepth 20000 in
set_option maxHeartbeats 1600000 in
theorem toDigest_any (w : World) (A : Option Addr) (c : Nat) (l : List UInt8) (h : Sees w w.heap.size 1 A l.length (bys l)) (h32 : 32 ≤ l.length) (hc : l.length ≤ 9223372036854775807) :
    Calls Tryd.prog 72 #[.slice A l.length c] w (Digs w (l.take 32)) := by
  have hz := Tryd.zeroDig
  have hlen : (l.take 32).length = 32 := by rw [List.length_take]; omega
  have hs := sees_first h h32
  have HI := dig_info hlen
  have HS := dig_size hlen
  have HA := dig_one (l.take 32)
  have HL := Lib.hid hlen
  obtain ⟨n, hn⟩ : ∃ n, n = l.length := ⟨_, rfl⟩
  rw [← hn] at h32 hc ⊢
  have HMIN : Hid (32 = Nat.min n 32) := Lib.hid (Nat.min_eq_right h32).symm
  generalize l.take 32 = b at *
  clear h hlen hn
  have hcur : HB ((w.alloc (.cells zdig.toArray 24)).alloc (.cells zdig.toArray 24)) (w.heap.size + 1) 24 zdig := by
    have h := HB.new (w.alloc (.cells zdig.toArray 24)) 24 zdig
    simpa only [World.size_alloc] using h
  have hres : HB ((w.alloc (.cells zdig.toArray 24)).alloc (.cells zdig.toArray 24)) w.heap.size 24 zdig := (HB.new w _ _).alloc _
  have hs' := (hs.alloc (Nat.le_refl _) (.cells zdig.toArray 24)).alloc (by simp) (.cells zdig.toArray 24)
  have hB2 : Below w.heap.size w ((w.alloc (.cells zdig.toArray 24)).alloc (.cells zdig.toArray 24)) := ((Below.refl _ _).alloc (Nat.le_refl _) _).alloc (by simp) _
  go_enter Tryd.func72, Tryd.ntmps72
  go_wp2_with (refine wpList_copy_hb rfl (.tmp 4) (.tmp 5) 31 31 rfl 5 Tryd.underlying31 Tryd.sizeByte (w.heap.size + 1) 0 32 32 A n c rfl rfl zdig 24 hcur w.heap.size 32 (bys b) HMIN.out hs' (by rw [zdig_len]; exact Nat.le_refl _) (bys_one b) ?_)
  intro w3 hb3 hg3
  rw [splice_whole zdig (bys b) (by rw [bys_len, HL.out, zdig_len])] at hb3
  have hr3 : HB w3 w.heap.size 24 zdig := hres.grown hg3 (by intro e; injection e; omega)
  have hB3 := hB2.grown hg3 (by simp; omega) (fun g e => by injection e; omega)
  clear hcur hres hs' hB2 hg3 hs
  go_wp2_with (first
    | (refine wpList_load_row rfl 24 _ rfl (w.heap.size + 1) rfl 24 (bys b).toArray (0, 0) _ hb3 Tryd.underlying24 rfl HI.out ?_)
    | (refine wpList_store_row rfl 24 _ _ rfl w.heap.size (bys b).toArray rfl rfl 24 _ hr3 HI.out HS.out HA.out ?_))
  refine bodyPost_ret (v := .agg (bys b).toArray) (results_cell_row rfl _ _ w.heap.size 24 (bys b).toArray (0, 0) _ rfl (hr3.row _) Tryd.underlying24 rfl HI.out) rfl ?_
  exact ⟨rfl, Below.setRow_ hB3 (Nat.le_refl _) _⟩
set_option maxRecDepth 20000 in
set_option maxHeartbeats 1600000 in
theorem prove_bad (w : World) (B c : Nat) (hBw : B ≤ w.heap.size) (A : Option Addr) (vs : List Value) (L : List Ent) (h : EntsW w B A vs L) (hm : ¬ MayP L) (hn : L.length ≤ 4611686018427387904) (key : List UInt8) :
    Calls Tryd.prog 15 #[.slice A L.length c, .agg (bys key).toArray] w fun e w' => e = .returned (.slice none 0 0) ∧ Below w.heap.size w w' := by
  have hB0 := below_alloc1 w (.cells (bys key).toArray 24)
  generalize hw0 : w.alloc (.cells (bys key).toArray 24) = w0 at *
  have HM := Lib.hid (may_any w0 B c (Nat.le_trans hBw hB0.size) A vs L (h.below (hB0.mono hBw)) hn)
  have HB0 := Lib.hid hB0
  have HDD : Hid (decide (MayP L) = false) := Lib.hid (by simpa using hm)
  obtain ⟨n, hnn⟩ : ∃ n, n = L.length := ⟨_, rfl⟩
  rw [← hnn] at HM ⊢
  clear h hm hn hB0 hBw hnn
  go_enter Tryd.func15, Tryd.ntmps15
  go_wp2_with fail
  clear hw0
  refine HM.out.mono ?_
  rintro e w2 ⟨rfl, hB2⟩
  rw [HDD.out]
  have hB := HB0.out.trans (hB2.mono HB0.out.size)
  clear HM hB2
  go_wp2
  go_ret
  exact ⟨rfl, hB⟩
end Go.Proofs.YtapbaonlboefeaaDoor
