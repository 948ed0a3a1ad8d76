/- merkle.nodePreimage. -/
import Derived.Test.YtdghklgfdhbkpaaDoorMkE
namespace Go.Proofs.YtdghklgfdhbkpaaDoor
open Go.RowKit

/-- '[]byte("..")' where the order was drawn. -/
theorem conv_lit (w : World) (C : Array Value) (n c G : Nat) (hG : w.heap.size = G) : (convert 33 33 (.slice (some ⟨G, 0, none⟩) n c)).run Tryd.prog (w.alloc (.cells C 5)).drew = .ok (.slice (some ⟨G, 0, none⟩) n c) (w.alloc (.cells C 5 (C.size, C.size + 1))).drew := by
  subst hG
  exact Lib.run_convert_bytes_const (P := Tryd.prog) w.drew 33 5 C n c Tryd.underlying33 Tryd.underlying5
theorem drew_size (w : World) : w.drew.heap.size = w.heap.size := rfl
/-- A boxed array of bytes, as a slice of all of it. -/
theorem slot_box (w : World) (l : List UInt8) (n : Nat) (hn : l.length = n) (h : n ≤ 9223372036854775807) (t : TypeId) : Slot (w.alloc (.cells (bys l).toArray t)) (w.heap.size + 1) (.slice (some ⟨w.heap.size, 0, none⟩) n n) l :=
  slot_boxed (cs := bys l) hn h (Nat.lt_succ_self _) (fun j => by rw [boxed]; simp) (fun j _ => by rw [Nat.zero_add])
theorem Slot.alloc {w : World} {B : Nat} {v : Value} {l : List UInt8} (h : Slot w B v l) (hB : B ≤ w.heap.size) (o : Obj) : Slot (w.alloc o) B v l := h.below ((Below.refl _ _).alloc hB o)

/-- The literal of slices joined, where the order was drawn. -/
theorem join_drew (wk : World) (t : TypeId) (vs : List Value) (ls : List (List UInt8)) (G n : Nat) (hG : wk.heap.size = G) (hn : ls.length = n) (h : Lists wk wk.heap.size vs ls) (hT : (joinF ls).length ≤ 140737488355328) :
    Calls Tryd.prog 37 #[.slice (some ⟨G, 0, none⟩) n n] (wk.alloc (.cells vs.toArray t)).drew (Wrote (wk.alloc (.cells vs.toArray t)).drew (joinF ls)) :=
  join_lit wk.drew t vs ls G n hG hn (h.below (Below.drew (Below.refl _ _))) hT

set_option maxRecDepth 20000 in
set_option maxHeartbeats 1600000 in
theorem node_any (a b : List UInt8) (w : World) (ha : a.length = 32) (hb : b.length = 32) :
    Calls Tryd.prog 42 #[.agg (bys a).toArray, .agg (bys b).toArray] w (Wrote w (nodeB a b)) := by
  have hb4 := build_b4
  have hb3 := build_3
  have kc := conv_lit
  have h1 := slot_box w a 32 ha (by omega) 28
  have s1 := below_alloc1 w (.cells (bys a).toArray 28)
  generalize hw1 : w.alloc (.cells (bys a).toArray 28) = w1
  rw [hw1] at h1 s1
  have e1 : w1.heap.size = w.heap.size + 1 := by rw [← hw1]; simp
  have h2 := slot_box w1 b 32 hb (by omega) 28
  have s2 := below_alloc1 w1 (.cells (bys b).toArray 28)
  have h12 := h1.alloc (by omega) (.cells (bys b).toArray 28)
  generalize hw2 : w1.alloc (.cells (bys b).toArray 28) = w2
  rw [hw2] at h2 s2 h12
  have e2 : w2.heap.size = w.heap.size + 2 := by rw [← hw2]; simp; omega
  have h3 := slot_lit w2 5 (4, 5) 110 111 100 101
  have s3 := below_alloc1 w2 (.cells #[.int .u8 110, .int .u8 111, .int .u8 100, .int .u8 101] 5 (4, 5))
  have h23 := h2.alloc (by omega) (.cells #[.int .u8 110, .int .u8 111, .int .u8 100, .int .u8 101] 5 (4, 5))
  have h123 := h12.alloc (by omega) (.cells #[.int .u8 110, .int .u8 111, .int .u8 100, .int .u8 101] 5 (4, 5))
  rw [e1] at h2 h23
  rw [e2] at h3
  have hl : Lists (w2.alloc (.cells #[.int .u8 110, .int .u8 111, .int .u8 100, .int .u8 101] 5 (4, 5))) (w2.alloc (.cells #[.int .u8 110, .int .u8 111, .int .u8 100, .int .u8 101] 5 (4, 5))).heap.size [.slice (some ⟨w.heap.size + 2, 0, none⟩) 4 4, .slice (some ⟨w.heap.size, 0, none⟩) 32 32, .slice (some ⟨w.heap.size + 1, 0, none⟩) 32 32] [tagNode, a, b] :=
    Lists.cons (h3.wide (by simp; omega)) (Lists.cons (h123.wide (by simp; omega)) (Lists.cons (h23.wide (by simp; omega)) (Lists.nothing _ _)))
  have hj := Lib.hid (join_drew _ 33 _ _ (w.heap.size + 3) 3 (by simp; omega) rfl hl (by have := nodeB_len a b; unfold nodeB at this; omega))
  have hst : Below w.heap.size w ((w2.alloc (.cells #[.int .u8 110, .int .u8 111, .int .u8 100, .int .u8 101] 5 (4, 5))).alloc (.cells #[.slice (some ⟨w.heap.size + 2, 0, none⟩) 4 4, .slice (some ⟨w.heap.size, 0, none⟩) 32 32, .slice (some ⟨w.heap.size + 1, 0, none⟩) 32 32] 33)).drew := by
    have := (s1.trans ((s2.trans (s3.mono s2.size)).mono s1.size))
    exact (this.alloc this.size _).drew
  clear h1 s1 h2 s2 h3 s3 h12 h23 h123 e1 e2 hl ha hb
  subst hw2
  subst hw1
  have hsz := hst.size
  have HST := Lib.hid hst
  clear hst
  go_enter Tryd.func42, Tryd.ntmps42
  go_wp2_with fail
  go_region_with (go_at_call 37; refine hj.out.mono ?_; rintro e2 w3 ⟨v2, rfl, ho, hB2⟩)
  all_goals (go_wp2; go_ret; exact ⟨_, rfl, own_wide ho hsz, HST.out.trans (hB2.mono hsz)⟩)
end Go.Proofs.YtdghklgfdhbkpaaDoor
