/- Decoding where fields are missing: the first failure is kept, what is read behind it is zero. -/
import Derived.Test.YtlkjahfkgfkilaaDoorRd
import Derived.Test.YtlkjahfkgfkilaaDoorRdP
import Derived.Test.YtlkjahfkgfkilaaDoorErr
namespace Go.Proofs.YtlkjahfkgfkilaaDoor
open Go.RowKit

/-- The reader in block G: no parts, a failure kept. -/
def Few (w0 w : World) (G : Nat) (a : Addr) : Prop := Below w0.heap.size w0 w ∧ w0.heap.size ≤ G ∧ ∃ A c, w.heap[G]? = some (.cells #[.slice A 0 c, .int .i64 0, errV a] 103)
theorem Few.lt {w0 w : World} {G : Nat} {a : Addr} (h : Few w0 w G a) : G < w.heap.size := by
  obtain ⟨_, _, _, _, h⟩ := h
  exact lt_of_heap h
theorem Few.later {w0 w w' : World} {G : Nat} {a : Addr} (h : Few w0 w G a) (hb : Below w.heap.size w w') : Few w0 w' G a := by
  obtain ⟨h1, h2, A, c, h3⟩ := h
  exact ⟨h1.trans (hb.mono h1.size), h2, A, c, (hb.block G (lt_of_heap h3)).trans h3⟩
set_option maxRecDepth 20000 in
set_option maxHeartbeats 4000000 in
theorem next_int_few (fv : Value) (a : Addr) (w0 w : World) (G : Nat) (h : Rdr w0 w G [] 0) (hg : w.cell? ⟨4, 0, none⟩ = some (errV a)) :
    Calls Tryd.prog 31 #[.pointer (some ⟨G, 0, none⟩), fv] w fun e w' => e = .returned (.int .i64 0) ∧ Few w0 w' G a := by
  have hlt := h.lt
  obtain ⟨A, c, vs, h1, h2, h3, h4, h5, h6⟩ := h.row
  have c0 := row_cell h1 0 _ rfl
  have c1 : w.cell? ⟨G, 1, none⟩ = some (.int .i64 0) := row_cell h1 1 _ rfl
  have c2 := row_cell h1 2 _ rfl
  have hf : w.frozen? ⟨G, 2, none⟩ = false := by simp [World.frozen?, h1]
  have hF : ∀ d : Nat, Few w0 ((w.drewN d).setCell ⟨G, 2, none⟩ (errV a)) G a := fun d => by
    refine ⟨(below_drewN_ h.below d).setCell h.lo _, h.lo, A, c, ?_⟩
    have hb : HB (w.drewN d) G 103 [.slice A 0 c, .int .i64 0, .nilIface] := h1
    exact hb.set_ 2 (errV a)
  have HF := Lib.hid hF
  clear h h1 h4 h5 h6 hF
  go_enter Tryd.func31, Tryd.ntmps31
  go_wp2
  go_quiet (fail)
  have q0 : (w.drewN nq).cell? ⟨G, 0, none⟩ = _ := c0
  have q1 : (w.drewN nq).cell? ⟨G, 1, none⟩ = _ := c1
  have q2 : (w.drewN nq).cell? ⟨G, 2, none⟩ = _ := c2
  have qg : (w.drewN nq).cell? ⟨4, 0, none⟩ = _ := hg
  have qf : (w.drewN nq).frozen? ⟨G, 2, none⟩ = _ := hf
  go_wp2
  go_ret
  exact ⟨rfl, HF.out _⟩

set_option maxRecDepth 20000 in
set_option maxHeartbeats 4000000 in
theorem next_ints_fail (fv : Value) (a : Addr) (w0 w : World) (G : Nat) (h : Few w0 w G a) :
    Calls Tryd.prog 33 #[.pointer (some ⟨G, 0, none⟩), fv] w fun e w' => e = .returned (.slice none 0 0) ∧ Few w0 w' G a := by
  obtain ⟨g1, g2, A, c, h1⟩ := h
  have c0 := row_cell h1 0 _ rfl
  have c1 : w.cell? ⟨G, 1, none⟩ = some (.int .i64 0) := row_cell h1 1 _ rfl
  have c2 : w.cell? ⟨G, 2, none⟩ = some (errV a) := row_cell h1 2 _ rfl
  have hF : ∀ d : Nat, Few w0 (w.drewN d) G a := fun d => ⟨below_drewN_ g1 d, g2, A, c, h1⟩
  have HF := Lib.hid hF
  clear g1 g2 h1 hF
  go_enter Tryd.func33, Tryd.ntmps33
  go_wp2
  go_quiet (fail)
  have q2 : (w.drewN nq).cell? ⟨G, 2, none⟩ = some (errV a) := c2
  go_wp2
  go_ret
  exact ⟨rfl, HF.out _⟩

set_option maxRecDepth 20000 in
set_option maxHeartbeats 4000000 in
theorem next_intss_fail (fv : Value) (a : Addr) (w0 w : World) (G : Nat) (h : Few w0 w G a) :
    Calls Tryd.prog 35 #[.pointer (some ⟨G, 0, none⟩), fv] w fun e w' => e = .returned (.slice none 0 0) ∧ Few w0 w' G a := by
  obtain ⟨g1, g2, A, c, h1⟩ := h
  have c0 := row_cell h1 0 _ rfl
  have c1 : w.cell? ⟨G, 1, none⟩ = some (.int .i64 0) := row_cell h1 1 _ rfl
  have c2 : w.cell? ⟨G, 2, none⟩ = some (errV a) := row_cell h1 2 _ rfl
  have hF : ∀ d : Nat, Few w0 (w.drewN d) G a := fun d => ⟨below_drewN_ g1 d, g2, A, c, h1⟩
  have HF := Lib.hid hF
  clear g1 g2 h1 hF
  go_enter Tryd.func35, Tryd.ntmps35
  go_wp2
  go_quiet (fail)
  have q2 : (w.drewN nq).cell? ⟨G, 2, none⟩ = some (errV a) := c2
  go_wp2
  go_ret
  exact ⟨rfl, HF.out _⟩
end Go.Proofs.YtlkjahfkgfkilaaDoor
