/- merkle.digest's closure: more elements. -/
import Derived.Test.YthmkdlnocdbhjaaDoorMkC
import Derived.Test.YthmkdlnocdbhjaaDoorSet
namespace Go.Proofs.YthmkdlnocdbhjaaDoor
open Go.RowKit

/-- A result's block. -/
def RowAt (w : World) (g : Nat) : Prop := ∃ Z : List Value, Z.length = 32 ∧ HB w g 28 Z
theorem RowAt.below {w w' : World} {g B : Nat} (h : RowAt w g) (hb : Below B w w') (hg : g < B) : RowAt w' g := by
  obtain ⟨Z, h1, h2⟩ := h
  exact ⟨Z, h1, h2.below hb hg⟩
theorem RowAt.lt {w : World} {g : Nat} (h : RowAt w g) : g < w.heap.size := by obtain ⟨Z, _, h2⟩ := h; exact h2.lt
theorem RowAt.set_ {w : World} {g : Nat} (h : RowAt w g) (l : List Value) (hl : l.length = 32) : HB (w.setCells g 0 l) g 28 l := by
  obtain ⟨Z, h1, h2⟩ := h
  have h3 := hb_setCells l 0 w Z h2 (by omega)
  simpa using h3
theorem RowAt.there {w : World} {g : Nat} (h : RowAt w g) (n : Nat) (hn : n = 32) : w.there g 0 n := by
  obtain ⟨Z, h1, h2⟩ := h
  exact there_hb h2 (by omega)
theorem dig_sizeL {d : List UInt8} (h : d.length = 32) : (Tryd.prog.info? 28).map (·.size) = some (bys d).toArray.size := by rw [List.size_toArray, bys_len, h]; exact Tryd.infoD

set_option maxRecDepth 20000 in
set_option maxHeartbeats 8000000 in
theorem dig_recN (f t : Nat) (h : f + 2 ≤ t) (w : World) (gl go : Nat) (A : Option Addr) (c : Nat) (vs : List Value) (ls : List (List UInt8)) (hW : DigW w gl go A c vs ls) (ht : t ≤ ls.length)
    (ih1 : ∀ W : World, DigW W gl go A c vs ls → Calls Tryd.prog 59 #[.agg #[.int .i64 (f : Int), .int .i64 ((f + half (t - f) : Nat) : Int)], .pointer (some ⟨gl, 0, none⟩), .pointer (some ⟨go, 0, none⟩)] W (Digs W (dig ls f (f + half (t - f)))))
    (ih2 : ∀ W : World, DigW W gl go A c vs ls → Calls Tryd.prog 59 #[.agg #[.int .i64 ((f + half (t - f) : Nat) : Int), .int .i64 (t : Int)], .pointer (some ⟨gl, 0, none⟩), .pointer (some ⟨go, 0, none⟩)] W (Digs W (dig ls (f + half (t - f)) t))) :
    Calls Tryd.prog 59 #[.agg #[.int .i64 (f : Int), .int .i64 (t : Int)], .pointer (some ⟨gl, 0, none⟩), .pointer (some ⟨go, 0, none⟩)] w (Digs w (dig ls f t)) := by
  have hlen := hW.len
  have hz := Tryd.zeroDig
  have hd := Lib.hid (dig_node ls f t h (by omega))
  have IH1 := Lib.hid ih1
  have IH2 := Lib.hid ih2
  have hhv := Lib.hid (fun W : World => halves_any f t W h (by omega))
  have b1 : 2 ≤ (t : Int) - f := by omega
  have b2 : (t : Int) ≤ 9223372036854775807 := by omega
  have b3 : 0 ≤ (f : Int) := by omega
  clear ih1 ih2 h ht hlen
  have l1 := dig_len ls f (f + half (t - f))
  have l2 := dig_len ls (f + half (t - f)) t
  generalize f + half (t - f) = m at *
  generalize dig ls f m = d1 at *
  generalize dig ls m t = d2 at *
  have hb1 := below_alloc1 w (.cells #[.int .i64 (f : Int), .int .i64 (t : Int)] 75)
  have hd1 := HB.new (w.alloc (.cells #[.int .i64 (f : Int), .int .i64 (t : Int)] 75)) 28 zdig
  have hb2 := hb1.alloc hb1.size (.cells zdig.toArray 28)
  have hN : (w.alloc (.cells #[.int .i64 (f : Int), .int .i64 (t : Int)] 75)).heap.size = w.heap.size + 1 := by simp
  rw [hN] at hd1
  go_enter Tryd.func59, Tryd.ntmps59
  go_wp2_with fail
  refine (hhv.out _).mono ?_
  generalize (w.alloc (.cells #[.int .i64 (f : Int), .int .i64 (t : Int)] 75)).alloc (.cells zdig.toArray 28) = w2 at *
  rintro e w3 ⟨rfl, hB3⟩
  have hd3 := hd1.below hB3 hd1.lt
  have hb3 := hb2.trans (hB3.mono hb2.size)
  clear hb1 hb2 hN hd1 hB3 hhv
  have hgo := hW.of.lt
  have hlt1 := hd3.lt
  have HD3 := Lib.hid hd3
  have HB3 := Lib.hid hb3
  have HW := Lib.hid hW
  clear hd3 hb3 hW
  go_wp2_with fail
  obtain ⟨W5, hW5⟩ : ∃ W5 : World, W5 = (w3.alloc (.cells #[.int .i64 (f : Int), .int .i64 (m : Int)] 75)).alloc (.cells #[.int .i64 (m : Int), .int .i64 (t : Int)] 75) := ⟨_, rfl⟩
  rw [← hW5]
  have hz5 : W5.heap.size = w3.heap.size + 2 := by rw [hW5]; simp
  have hB35 : Below w3.heap.size w3 W5 := by rw [hW5]; exact ((Below.refl _ _).alloc (Nat.le_refl _) _).alloc (by simp) _
  have hw3 := HB3.out.size
  have hS5 : (Below w.heap.size w W5.drew ∧ w3.heap.size + 2 ≤ W5.drew.heap.size ∧ RowAt W5.drew (w.heap.size + 1) ∧ W5.drew.cell? ⟨go, 0, none⟩ = some (.func (.func 59) #[] #[.pointer (some ⟨gl, 0, none⟩), .pointer (some ⟨go, 0, none⟩)]) ∧ W5.drew.cell? ⟨w3.heap.size, 0, none⟩ = some (.int .i64 (f : Int)) ∧ W5.drew.cell? ⟨w3.heap.size, 1, none⟩ = some (.int .i64 (m : Int)) ∧ W5.drew.cell? ⟨w3.heap.size + 1, 0, none⟩ = some (.int .i64 (m : Int)) ∧ W5.drew.cell? ⟨w3.heap.size + 1, 1, none⟩ = some (.int .i64 (t : Int))) := by
    refine ⟨(HB3.out.trans (hB35.mono hw3)).drew, by show w3.heap.size + 2 ≤ W5.heap.size; omega, ⟨zdig, zdig_len, (HD3.out.below hB35 hlt1).drew⟩, ?_, ?_, ?_, ?_, ?_⟩
    · exact ((HB3.out.trans (hB35.mono hw3)).cell (p := ⟨go, 0, none⟩) hgo).trans (HW.out.of.cell 0)
    · show W5.cell? _ = _
      rw [hW5]; exact ((HB.new w3 75 [.int .i64 (f : Int), .int .i64 (m : Int)]).alloc _).cell 0
    · show W5.cell? _ = _
      rw [hW5]; exact ((HB.new w3 75 [.int .i64 (f : Int), .int .i64 (m : Int)]).alloc _).cell 1
    · show W5.cell? _ = _
      have e : (w3.alloc (.cells #[.int .i64 (f : Int), .int .i64 (m : Int)] 75)).heap.size = w3.heap.size + 1 := by simp
      rw [hW5, ← e]; exact (HB.new (w3.alloc (.cells #[.int .i64 (f : Int), .int .i64 (m : Int)] 75)) 75 [.int .i64 (m : Int), .int .i64 (t : Int)]).cell 0
    · show W5.cell? _ = _
      have e : (w3.alloc (.cells #[.int .i64 (f : Int), .int .i64 (m : Int)] 75)).heap.size = w3.heap.size + 1 := by simp
      rw [hW5, ← e]; exact (HB.new (w3.alloc (.cells #[.int .i64 (f : Int), .int .i64 (m : Int)] 75)) 75 [.int .i64 (m : Int), .int .i64 (t : Int)]).cell 1
  have hKL : ∀ a b : World, (Below w.heap.size w a ∧ w3.heap.size + 2 ≤ a.heap.size ∧ RowAt a (w.heap.size + 1) ∧ a.cell? ⟨go, 0, none⟩ = some (.func (.func 59) #[] #[.pointer (some ⟨gl, 0, none⟩), .pointer (some ⟨go, 0, none⟩)]) ∧ a.cell? ⟨w3.heap.size, 0, none⟩ = some (.int .i64 (f : Int)) ∧ a.cell? ⟨w3.heap.size, 1, none⟩ = some (.int .i64 (m : Int)) ∧ a.cell? ⟨w3.heap.size + 1, 0, none⟩ = some (.int .i64 (m : Int)) ∧ a.cell? ⟨w3.heap.size + 1, 1, none⟩ = some (.int .i64 (t : Int))) → Below a.heap.size a b → (Below w.heap.size w b ∧ w3.heap.size + 2 ≤ b.heap.size ∧ RowAt b (w.heap.size + 1) ∧ b.cell? ⟨go, 0, none⟩ = some (.func (.func 59) #[] #[.pointer (some ⟨gl, 0, none⟩), .pointer (some ⟨go, 0, none⟩)]) ∧ b.cell? ⟨w3.heap.size, 0, none⟩ = some (.int .i64 (f : Int)) ∧ b.cell? ⟨w3.heap.size, 1, none⟩ = some (.int .i64 (m : Int)) ∧ b.cell? ⟨w3.heap.size + 1, 0, none⟩ = some (.int .i64 (m : Int)) ∧ b.cell? ⟨w3.heap.size + 1, 1, none⟩ = some (.int .i64 (t : Int))) := fun a b ⟨k1, k2, k3, k4, k5, k6, k7, k8⟩ hb =>
    ⟨k1.trans (hb.mono k1.size), Nat.le_trans k2 hb.size, k3.below hb k3.lt, (hb.cell (p := ⟨go, 0, none⟩) (by have := k1.size; show go < a.heap.size; omega)).trans k4, (hb.cell (p := ⟨w3.heap.size, 0, none⟩) (by show w3.heap.size < a.heap.size; omega)).trans k5, (hb.cell (p := ⟨w3.heap.size, 1, none⟩) (by show w3.heap.size < a.heap.size; omega)).trans k6, (hb.cell (p := ⟨w3.heap.size + 1, 0, none⟩) (by show w3.heap.size + 1 < a.heap.size; omega)).trans k7, (hb.cell (p := ⟨w3.heap.size + 1, 1, none⟩) (by show w3.heap.size + 1 < a.heap.size; omega)).trans k8⟩
  have hKS : ∀ (a : World) (l : List Value), l.length = 32 → (Below w.heap.size w a ∧ w3.heap.size + 2 ≤ a.heap.size ∧ RowAt a (w.heap.size + 1) ∧ a.cell? ⟨go, 0, none⟩ = some (.func (.func 59) #[] #[.pointer (some ⟨gl, 0, none⟩), .pointer (some ⟨go, 0, none⟩)]) ∧ a.cell? ⟨w3.heap.size, 0, none⟩ = some (.int .i64 (f : Int)) ∧ a.cell? ⟨w3.heap.size, 1, none⟩ = some (.int .i64 (m : Int)) ∧ a.cell? ⟨w3.heap.size + 1, 0, none⟩ = some (.int .i64 (m : Int)) ∧ a.cell? ⟨w3.heap.size + 1, 1, none⟩ = some (.int .i64 (t : Int))) → (Below w.heap.size w (a.setCells (w.heap.size + 1) 0 l) ∧ w3.heap.size + 2 ≤ (a.setCells (w.heap.size + 1) 0 l).heap.size ∧ RowAt (a.setCells (w.heap.size + 1) 0 l) (w.heap.size + 1) ∧ (a.setCells (w.heap.size + 1) 0 l).cell? ⟨go, 0, none⟩ = some (.func (.func 59) #[] #[.pointer (some ⟨gl, 0, none⟩), .pointer (some ⟨go, 0, none⟩)]) ∧ (a.setCells (w.heap.size + 1) 0 l).cell? ⟨w3.heap.size, 0, none⟩ = some (.int .i64 (f : Int)) ∧ (a.setCells (w.heap.size + 1) 0 l).cell? ⟨w3.heap.size, 1, none⟩ = some (.int .i64 (m : Int)) ∧ (a.setCells (w.heap.size + 1) 0 l).cell? ⟨w3.heap.size + 1, 0, none⟩ = some (.int .i64 (m : Int)) ∧ (a.setCells (w.heap.size + 1) 0 l).cell? ⟨w3.heap.size + 1, 1, none⟩ = some (.int .i64 (t : Int))) := fun a l hl ⟨k1, k2, k3, k4, k5, k6, k7, k8⟩ =>
    ⟨below_setCells (Nat.le_succ _) l 0 _ k1, by rw [setCells_size]; exact k2, ⟨l, hl, k3.set_ l hl⟩, (World.cell?_setCells_out _ l 0 a _ (fun e _ => by have : go = w.heap.size + 1 := e; omega)).trans k4, (World.cell?_setCells_out _ l 0 a _ (fun e _ => by have : w3.heap.size = w.heap.size + 1 := e; omega)).trans k5, (World.cell?_setCells_out _ l 0 a _ (fun e _ => by have : w3.heap.size = w.heap.size + 1 := e; omega)).trans k6, (World.cell?_setCells_out _ l 0 a _ (fun e _ => by have : w3.heap.size + 1 = w.heap.size + 1 := e; omega)).trans k7, (World.cell?_setCells_out _ l 0 a _ (fun e _ => by have : w3.heap.size + 1 = w.heap.size + 1 := e; omega)).trans k8⟩
  have hdw : ∀ a : World, (Below w.heap.size w a ∧ w3.heap.size + 2 ≤ a.heap.size ∧ RowAt a (w.heap.size + 1) ∧ a.cell? ⟨go, 0, none⟩ = some (.func (.func 59) #[] #[.pointer (some ⟨gl, 0, none⟩), .pointer (some ⟨go, 0, none⟩)]) ∧ a.cell? ⟨w3.heap.size, 0, none⟩ = some (.int .i64 (f : Int)) ∧ a.cell? ⟨w3.heap.size, 1, none⟩ = some (.int .i64 (m : Int)) ∧ a.cell? ⟨w3.heap.size + 1, 0, none⟩ = some (.int .i64 (m : Int)) ∧ a.cell? ⟨w3.heap.size + 1, 1, none⟩ = some (.int .i64 (t : Int))) → DigW a gl go A c vs ls := fun a h => HW.out.below h.1
  have lD : (bys (shaF (nodeB d1 d2))).length = 32 := by rw [bys_len, shaF_len]
  have hFin : ∀ a b : World, (Below w.heap.size w a ∧ w3.heap.size + 2 ≤ a.heap.size ∧ RowAt a (w.heap.size + 1) ∧ a.cell? ⟨go, 0, none⟩ = some (.func (.func 59) #[] #[.pointer (some ⟨gl, 0, none⟩), .pointer (some ⟨go, 0, none⟩)]) ∧ a.cell? ⟨w3.heap.size, 0, none⟩ = some (.int .i64 (f : Int)) ∧ a.cell? ⟨w3.heap.size, 1, none⟩ = some (.int .i64 (m : Int)) ∧ a.cell? ⟨w3.heap.size + 1, 0, none⟩ = some (.int .i64 (m : Int)) ∧ a.cell? ⟨w3.heap.size + 1, 1, none⟩ = some (.int .i64 (t : Int))) → Below a.heap.size a b → Hid (HB (b.setCells (w.heap.size + 1) 0 (bys (shaF (nodeB d1 d2)))) (w.heap.size + 1) 28 (bys (shaF (nodeB d1 d2))) ∧ Below w.heap.size w (b.setCells (w.heap.size + 1) 0 (bys (shaF (nodeB d1 d2))))) ∧ b.there (w.heap.size + 1) 0 (bys (shaF (nodeB d1 d2))).toArray.size ∧ (Tryd.prog.info? 28).map (·.size) = some (bys (shaF (nodeB d1 d2))).toArray.size ∧ ∀ v ∈ bys (shaF (nodeB d1 d2)), v.oneCell' = true := fun a b h hb => by
    have k := hKL a b h hb
    exact ⟨⟨k.2.2.1.set_ _ lD, (hKS b _ lD k).1⟩, k.2.2.1.there _ (by rw [List.size_toArray, lD]), dig_sizeL (shaF_len _), bys_one _⟩
  have hsw : ∀ (a b : World) (v : Value), (Below w.heap.size w a ∧ w3.heap.size + 2 ≤ a.heap.size ∧ RowAt a (w.heap.size + 1) ∧ a.cell? ⟨go, 0, none⟩ = some (.func (.func 59) #[] #[.pointer (some ⟨gl, 0, none⟩), .pointer (some ⟨go, 0, none⟩)]) ∧ a.cell? ⟨w3.heap.size, 0, none⟩ = some (.int .i64 (f : Int)) ∧ a.cell? ⟨w3.heap.size, 1, none⟩ = some (.int .i64 (m : Int)) ∧ a.cell? ⟨w3.heap.size + 1, 0, none⟩ = some (.int .i64 (m : Int)) ∧ a.cell? ⟨w3.heap.size + 1, 1, none⟩ = some (.int .i64 (t : Int))) → b.ownsRow a.heap.size 5 1 v (nodeB d1 d2).length (bys (nodeB d1 d2)) → Below a.heap.size a b → Hid (Calls Tryd.prog 39 #[v] b (Digs b (shaF (nodeB d1 d2)))) := fun a b v h ho hb =>
    sum_wrote ho ((hdw a h).below hb).consts (by rw [nodeB_len, l1, l2]; omega)
  clear hW5 hz5 hB35 hw3 HB3 HD3 HW hgo hlt1 hz
  have hd := hd.out
  generalize shaF (nodeB d1 d2) = D at *
  have hd := Lib.hid hd
  have L1 := Lib.hid l1
  have L2 := Lib.hid l2
  have LD := Lib.hid lD
  clear l1 l2 lD
  have HKL := Lib.hid hKL
  have HKS := Lib.hid hKS
  have HDW := Lib.hid hdw
  have HFN := Lib.hid hFin
  have HSW := Lib.hid hsw
  clear hKL hKS hdw hFin hsw
  go_region_held3 (fun w' => (Below w.heap.size w w' ∧ w3.heap.size + 2 ≤ w'.heap.size ∧ RowAt w' (w.heap.size + 1) ∧ w'.cell? ⟨go, 0, none⟩ = some (.func (.func 59) #[] #[.pointer (some ⟨gl, 0, none⟩), .pointer (some ⟨go, 0, none⟩)]) ∧ w'.cell? ⟨w3.heap.size, 0, none⟩ = some (.int .i64 (f : Int)) ∧ w'.cell? ⟨w3.heap.size, 1, none⟩ = some (.int .i64 (m : Int)) ∧ w'.cell? ⟨w3.heap.size + 1, 0, none⟩ = some (.int .i64 (m : Int)) ∧ w'.cell? ⟨w3.heap.size + 1, 1, none⟩ = some (.int .i64 (t : Int))))
    (first | exact hS5 | exact HKL.out _ _ (by assumption) hB | exact HKS.out _ _ LD.out (by assumption))
    (first
      | (go_at_call_of 59 (Value.agg #[Value.int IntKind.i64 (f : Int), Value.int IntKind.i64 (m : Int)]); (with_reducible refine (IH1.out _ (HDW.out _ (by assumption))).mono ?_); rintro e w' ⟨rfl, hB⟩)
      | (go_at_call_of 59 (Value.agg #[Value.int IntKind.i64 (m : Int), Value.int IntKind.i64 (t : Int)]); refine (IH2.out _ (HDW.out _ (by assumption))).mono ?_; rintro e w' ⟨rfl, hB⟩)
      | (go_at_call 61; refine (node_any d1 d2 _ L1.out L2.out).mono ?_; rintro e w' ⟨v', rfl, ho, hB⟩; have hsm := HSW.out _ _ _ (by assumption) ho hB; clear ho)
      | (go_at_call 39; refine hsm.out.mono ?_; rintro e w' ⟨rfl, hB⟩; obtain ⟨hfin, hth, hi', hone⟩ := HFN.out _ _ (by assumption) hB))
  have HI := Lib.hid hi'
  clear hth hi' hone hS5
  go_wp2
  refine bodyPost_ret (v := .agg (bys D).toArray) (results_cell_row rfl _ _ (w.heap.size + 1) 28 (bys D).toArray (0, 0) _ rfl hfin.out.1 Tryd.underlying28 rfl HI.out) rfl ?_
  exact ⟨by rw [hd.out], hfin.out.2⟩

theorem dig_rec (gl go : Nat) (A : Option Addr) (c : Nat) (vs : List Value) (ls : List (List UInt8)) : ∀ (m f t : Nat), t - f = m → f ≤ t → t ≤ ls.length → ∀ w : World, DigW w gl go A c vs ls →
    Calls Tryd.prog 59 #[.agg #[.int .i64 (f : Int), .int .i64 (t : Int)], .pointer (some ⟨gl, 0, none⟩), .pointer (some ⟨go, 0, none⟩)] w (Digs w (dig ls f t)) := by
  intro m
  induction m using Nat.strongRecOn with
  | ind m ih =>
    intro f t hm hf ht w hW
    rcases Nat.lt_or_ge m 2 with h2 | h2
    · rcases Nat.eq_zero_or_pos m with h0 | h0
      · obtain rfl : t = f := by omega
        exact dig_rec0 t w gl go A c vs ls hW
      · exact dig_rec1 f t (by omega) w gl go A c vs ls hW ht
    · have hl := hW.len
      obtain ⟨k1, k2, -⟩ := half_spec (t - f) (by omega) (by omega)
      exact dig_recN f t (by omega) w gl go A c vs ls hW ht (ih (f + half (t - f) - f) (by omega) f (f + half (t - f)) rfl (by omega) (by omega)) (ih (t - (f + half (t - f))) (by omega) (f + half (t - f)) t rfl (by omega) ht)
end Go.Proofs.YthmkdlnocdbhjaaDoor
