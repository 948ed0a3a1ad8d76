/- sign.New. -/
import Derived.Test.YtkhbogccmngmmaaDoorSgH
import Derived.Test.YtkhbogccmngmmaaDoorBuild
import Derived.Test.YtkhbogccmngmmaaDoorLt
namespace Go.Proofs.YtkhbogccmngmmaaDoor
open Go.RowKit

theorem new_no (k b : Int) (h : k < 1 ∨ 12 < k ∨ b < 1 ∨ 65536 < b) (w : World) :
    Calls Tryd.prog 25 #[.int .i64 k, .int .i64 b] w fun e w' => e = .returned (.pointer none) ∧ w = w' := by
  by_cases h1 : k < 1
  · clear h
    go_enter Tryd.func25, Tryd.ntmps25
    go_wp2
    go_ret
    exact ⟨rfl, rfl⟩
  · by_cases h2 : 12 < k
    · clear h
      go_enter Tryd.func25, Tryd.ntmps25
      go_wp2
      go_ret
      exact ⟨rfl, rfl⟩
    · by_cases h3 : b < 1
      · clear h
        go_enter Tryd.func25, Tryd.ntmps25
        go_wp2
        go_ret
        exact ⟨rfl, rfl⟩
      · have h4 : 65536 < b := by omega
        clear h
        go_enter Tryd.func25, Tryd.ntmps25
        go_wp2
        go_ret
        exact ⟨rfl, rfl⟩
/-- A new ring, and all that lay before lies. -/
def NewR (w : World) (nk : Nat) (b : Int) (e : Ending) (w' : World) : Prop :=
  ∃ f : Foot, e = .returned (.pointer (some ⟨f.r, 0, none⟩)) ∧ RingW w' f nk b [] [] ∧ Below w.heap.size w w' ∧ w.heap.size ≤ f.r ∧ w.heap.size ≤ f.K ∧ w.heap.size ≤ f.T ∧ w.heap.size ≤ f.U
theorem Tryd.infoTally : (Tryd.prog.info? 133).map (fun i => (i.zero, i.size, i.bytes)) = some (some (.agg #[.int .i64 0, .int .i64 0]), 2, 16) := by kernel_rfl
theorem made_tal (nk : Nat) (h1 : 1 ≤ nk) (h2 : nk ≤ 12) : madeCells #[.int .i64 0, .int .i64 0] (nk * 2) = (talV nk [] []).toArray := by
  obtain rfl | rfl | rfl | rfl | rfl | rfl | rfl | rfl | rfl | rfl | rfl | rfl : nk = 1 ∨ nk = 2 ∨ nk = 3 ∨ nk = 4 ∨ nk = 5 ∨ nk = 6 ∨ nk = 7 ∨ nk = 8 ∨ nk = 9 ∨ nk = 10 ∨ nk = 11 ∨ nk = 12 := by omega
  all_goals kernel_rfl

theorem MapL.alloc {P : Program} {k : TypeId} {w : World} {b : Nat} {l : List (Value × Value)} (h : MapL w P k b l) (o : Obj) : MapL (w.alloc o) P k b l := h.of_heap (heap_alloc_old w o h.lt)
theorem ring_new (w : World) (nk : Nat) (b : Int) (h2 : nk ≤ 12) (h3 : 1 ≤ b) (h4 : b ≤ 65536) :
    RingW ((((w.alloc (.cells (talV nk [] []).toArray 133)).alloc (.map #[] 0)).alloc (.map #[] 0)).alloc (.cells #[.int .i64 b, .slice (some ⟨w.heap.size, 0, none⟩) nk nk, .map (some (w.heap.size + 1)), .map (some (w.heap.size + 1 + 1))] 115)) ⟨w.heap.size + 1 + 1 + 1, w.heap.size, w.heap.size + 1, w.heap.size + 1 + 1⟩ nk b [] [] := by
  have hK := ((HB.new w 133 (talV nk [] [])).alloc (.map #[] 0)).alloc (.map #[] 0)
  have hT := (MapL.made (w.alloc (.cells (talV nk [] []).toArray 133)) Tryd.prog 122).alloc (.map #[] 0)
  have hU := MapL.made ((w.alloc (.cells (talV nk [] []).toArray 133)).alloc (.map #[] 0)) Tryd.prog 120
  have hr := HB.new (((w.alloc (.cells (talV nk [] []).toArray 133)).alloc (.map #[] 0)).alloc (.map #[] 0)) 115 [.int .i64 b, .slice (some ⟨w.heap.size, 0, none⟩) nk nk, .map (some (w.heap.size + 1)), .map (some (w.heap.size + 1 + 1))]
  have e1 : (w.alloc (.cells (talV nk [] []).toArray 133)).heap.size = w.heap.size + 1 := by simp
  have e2 : ((w.alloc (.cells (talV nk [] []).toArray 133)).alloc (.map #[] 0)).heap.size = w.heap.size + 1 + 1 := by simp
  have e3 : (((w.alloc (.cells (talV nk [] []).toArray 133)).alloc (.map #[] 0)).alloc (.map #[] 0)).heap.size = w.heap.size + 1 + 1 + 1 := by simp
  rw [e1] at hT
  rw [e2] at hU
  rw [e3] at hr
  exact ⟨hr, hK.alloc _, hT.alloc _, hU.alloc _, by simp; omega, by simp, h2, ⟨h3, h4⟩, by simp⟩

set_option maxRecDepth 20000 in
set_option maxHeartbeats 1600000 in
theorem new_ok (nk : Nat) (b : Int) (h1 : 1 ≤ nk) (h2 : nk ≤ 12) (h3 : 1 ≤ b) (h4 : b ≤ 65536) (w : World) :
    Calls Tryd.prog 25 #[.int .i64 (nk : Int), .int .i64 b] w (NewR w nk b) := by
  obtain ⟨i0, hi, hz0, hz1, hz2⟩ := info_parts Tryd.infoTally
  have hmk : ∀ W : World, (Instr.makeSlice 111 (.int .i64 (nk : Int)) (.int .i64 (nk : Int))).run Tryd.prog W = .ok (.slice (some ⟨W.heap.size, 0, none⟩) nk nk) (W.alloc (.cells (talV nk [] []).toArray 133)) := fun W => by
    have hb : (i0.bytes : Int) * (nk : Int) ≤ 281474976710656 := by rw [hz2]; omega
    have h := run_make (P := Tryd.prog) W 111 133 i0 _ Tryd.underlying111 hi hz0 .i64 .i64 nk nk (by omega) (by omega) hb (by omega)
    rw [hz1] at h
    simp only [Int.toNat_natCast] at h
    rw [h]
    simp only [Value.cells]
    rw [made_tal nk h1 h2]
  clear hi hz0 hz1 hz2
  have hmm := @run_makeMap Tryd.prog
  have hb12 : (nk : Int) ≤ 12 := by omega
  have hb1 : (1 : Int) ≤ nk := by omega
  have H2 := Lib.hid h2
  clear h1 h2
  go_enter Tryd.func25, Tryd.ntmps25
  go_wp2
  go_ret
  have hB := (((below_alloc1 w (.cells (talV nk [] []).toArray 133)).alloc (by simp) (.map #[] 0)).alloc (by simp; omega) (.map #[] 0)).alloc (by simp; omega) (.cells #[.int .i64 b, .slice (some ⟨w.heap.size, 0, none⟩) nk nk, .map (some (w.heap.size + 1)), .map (some (w.heap.size + 1 + 1))] 115)
  exact ⟨⟨w.heap.size + 1 + 1 + 1, w.heap.size, w.heap.size + 1, w.heap.size + 1 + 1⟩, rfl, ring_new w nk b H2.out h3 h4, hB, by simp; omega, by simp, by simp, by simp; omega⟩
end Go.Proofs.YtkhbogccmngmmaaDoor
