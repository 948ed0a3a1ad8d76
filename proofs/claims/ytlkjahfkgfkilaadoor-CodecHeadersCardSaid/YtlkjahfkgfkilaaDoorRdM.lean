/- Decoding: the next part, type by type. -/
import Derived.Test.YtlkjahfkgfkilaaDoorRd
namespace Go.Proofs.YtlkjahfkgfkilaaDoor
open Go.RowKit

set_option maxRecDepth 20000 in
set_option maxHeartbeats 4000000 in
theorem next_ints_any (R : Rel) (hR : Kept R) (F : Form) (g : Nat) (lb : Array Value) (eg : ∀ args w, (callFunc g args).run Tryd.prog w = .ok (.enter g args) w) (w0 w : World) (hof : Reads1 Tryd.prog w g lb R F) (G k : Nat) (ps : List (List UInt8)) (h : Rdr w0 w G ps k) (hk : k < ps.length) (hF : F (ps[k]'hk)) (h63 : ps.length ≤ 1099511627776) :
    Calls Tryd.prog 33 #[.pointer (some ⟨G, 0, none⟩), .func (.func g) #[] lb] w fun e w' => ∃ v, e = .returned v ∧ R w' (Within w0 G w') [v] (ps[k]'hk) ∧ Rdr w0 w' G ps (k + 1) ∧ Turn w w' G := by
  obtain ⟨ad, c, A', c', c0, hc, c1, c2, hfr, hab, ce, harg⟩ := h.part hk
  have hlt := h.lt
  have hcall : ∀ W : World, Below w.heap.size w W → Hid (Calls Tryd.prog g (#[.slice A' (ps[k]'hk).length c'] ++ lb) W (Read1 W (fun i => w0.heap.size ≤ i ∧ i < G) R (ps[k]'hk))) := fun W hW =>
    hof W hW _ A' c' _ (harg.later hW) hF
  have hS : ∀ a : World, Below w.heap.size w a → Below w.heap.size w a ∧ a.cell? ⟨G, 0, none⟩ = some (.slice (some ad) ps.length c) ∧ a.cell? ⟨G, 1, none⟩ = some (.int .i64 (k : Int)) ∧ a.cell? (ad.add k) = some (.slice A' (ps[k]'hk).length c') := fun a hb =>
    ⟨hb, (hb.cell hlt).trans c0, (hb.cell hlt).trans c1, (hb.cell (by rw [add_block]; omega)).trans ce⟩
  have hf1 : ∀ a : World, Below w.heap.size w a → a.frozen? ⟨G, 1, none⟩ = false := fun a hb => (hb.frozen hlt).trans hfr
  have hKL : ∀ a b : World, (Below w.heap.size w a ∧ a.cell? ⟨G, 0, none⟩ = some (.slice (some ad) ps.length c) ∧ a.cell? ⟨G, 1, none⟩ = some (.int .i64 (k : Int)) ∧ a.cell? (ad.add k) = some (.slice A' (ps[k]'hk).length c')) → Below a.heap.size a b →
      Below w.heap.size w b ∧ b.cell? ⟨G, 0, none⟩ = some (.slice (some ad) ps.length c) ∧ b.cell? ⟨G, 1, none⟩ = some (.int .i64 (k : Int)) ∧ b.cell? (ad.add k) = some (.slice A' (ps[k]'hk).length c') := fun a b h hb => hS b (h.1.trans (hb.mono h.1.size))
  have hkn : (k : Int) < (ps.length : Int) := by omega
  have hk0 : (0 : Int) ≤ (k : Int) := by omega
  have hkb : ((k : Int) == (ps.length : Int)) = false := by simp; omega
  have hend : ∀ (W w1 : World) (v : Value), Below w.heap.size w W → Below W.heap.size W w1 → W.heap.size = w.heap.size → R w1 (Since W (fun i => w0.heap.size ≤ i ∧ i < G) w1) [v] (ps[k]'hk) →
      R (w1.setCell ⟨G, 1, none⟩ (.int .i64 ((k + 1 : Nat) : Int))) (Within w0 G (w1.setCell ⟨G, 1, none⟩ (.int .i64 ((k + 1 : Nat) : Int)))) [v] (ps[k]'hk) ∧ Rdr w0 (w1.setCell ⟨G, 1, none⟩ (.int .i64 ((k + 1 : Nat) : Int))) G ps (k + 1) ∧ Turn w (w1.setCell ⟨G, 1, none⟩ (.int .i64 ((k + 1 : Nat) : Int))) G := fun W w1 v h1 h2 h3 h4 =>
    ⟨next_kept hR h hlt h3 h4, h.step (h1.trans (h2.mono h1.size))⟩
  clear hof hF harg h hfr hR
  go_enter Tryd.func33, Tryd.ntmps33
  go_wp2
  go_quiet (fail)
  have hBq := below_drewN_ (Below.refl w.heap.size w) nq
  have hBd := hBq.drew
  obtain ⟨_, q0, q1, qe⟩ := hS _ hBq
  have q2 : (w.drewN nq).cell? ⟨G, 2, none⟩ = some .nilIface := c2
  go_wp2
  go_region_held3 (fun w' => Below w.heap.size w w' ∧ w'.cell? ⟨G, 0, none⟩ = some (.slice (some ad) ps.length c) ∧ w'.cell? ⟨G, 1, none⟩ = some (.int .i64 (k : Int)) ∧ w'.cell? (ad.add k) = some (.slice A' (ps[k]'hk).length c'))
    (first | exact hS _ hBd | exact hKL _ _ (by assumption) hB)
    (first
      | (go_at_fn g; refine (hcall _ hBd).out.mono ?_; rintro e w1 ⟨v, rfl, hRv, hB⟩))
  have hBw : Below w.heap.size w w1 := hBd.trans (hB.mono (Nat.le_refl _))
  obtain ⟨_, d0, d1, de⟩ := hS _ hBw
  have df := hf1 _ hBw
  have hE := hend _ _ v hBd hB rfl hRv
  clear hS hKL hf1 hcall hend
  go_wp2
  go_ret
  exact ⟨v, rfl, hE⟩

set_option maxRecDepth 20000 in
set_option maxHeartbeats 4000000 in
theorem next_intss_any (R : Rel) (hR : Kept R) (F : Form) (g : Nat) (lb : Array Value) (eg : ∀ args w, (callFunc g args).run Tryd.prog w = .ok (.enter g args) w) (w0 w : World) (hof : Reads1 Tryd.prog w g lb R F) (G k : Nat) (ps : List (List UInt8)) (h : Rdr w0 w G ps k) (hk : k < ps.length) (hF : F (ps[k]'hk)) (h63 : ps.length ≤ 1099511627776) :
    Calls Tryd.prog 35 #[.pointer (some ⟨G, 0, none⟩), .func (.func g) #[] lb] w fun e w' => ∃ v, e = .returned v ∧ R w' (Within w0 G w') [v] (ps[k]'hk) ∧ Rdr w0 w' G ps (k + 1) ∧ Turn w w' G := by
  obtain ⟨ad, c, A', c', c0, hc, c1, c2, hfr, hab, ce, harg⟩ := h.part hk
  have hlt := h.lt
  have hcall : ∀ W : World, Below w.heap.size w W → Hid (Calls Tryd.prog g (#[.slice A' (ps[k]'hk).length c'] ++ lb) W (Read1 W (fun i => w0.heap.size ≤ i ∧ i < G) R (ps[k]'hk))) := fun W hW =>
    hof W hW _ A' c' _ (harg.later hW) hF
  have hS : ∀ a : World, Below w.heap.size w a → Below w.heap.size w a ∧ a.cell? ⟨G, 0, none⟩ = some (.slice (some ad) ps.length c) ∧ a.cell? ⟨G, 1, none⟩ = some (.int .i64 (k : Int)) ∧ a.cell? (ad.add k) = some (.slice A' (ps[k]'hk).length c') := fun a hb =>
    ⟨hb, (hb.cell hlt).trans c0, (hb.cell hlt).trans c1, (hb.cell (by rw [add_block]; omega)).trans ce⟩
  have hf1 : ∀ a : World, Below w.heap.size w a → a.frozen? ⟨G, 1, none⟩ = false := fun a hb => (hb.frozen hlt).trans hfr
  have hKL : ∀ a b : World, (Below w.heap.size w a ∧ a.cell? ⟨G, 0, none⟩ = some (.slice (some ad) ps.length c) ∧ a.cell? ⟨G, 1, none⟩ = some (.int .i64 (k : Int)) ∧ a.cell? (ad.add k) = some (.slice A' (ps[k]'hk).length c')) → Below a.heap.size a b →
      Below w.heap.size w b ∧ b.cell? ⟨G, 0, none⟩ = some (.slice (some ad) ps.length c) ∧ b.cell? ⟨G, 1, none⟩ = some (.int .i64 (k : Int)) ∧ b.cell? (ad.add k) = some (.slice A' (ps[k]'hk).length c') := fun a b h hb => hS b (h.1.trans (hb.mono h.1.size))
  have hkn : (k : Int) < (ps.length : Int) := by omega
  have hk0 : (0 : Int) ≤ (k : Int) := by omega
  have hkb : ((k : Int) == (ps.length : Int)) = false := by simp; omega
  have hend : ∀ (W w1 : World) (v : Value), Below w.heap.size w W → Below W.heap.size W w1 → W.heap.size = w.heap.size → R w1 (Since W (fun i => w0.heap.size ≤ i ∧ i < G) w1) [v] (ps[k]'hk) →
      R (w1.setCell ⟨G, 1, none⟩ (.int .i64 ((k + 1 : Nat) : Int))) (Within w0 G (w1.setCell ⟨G, 1, none⟩ (.int .i64 ((k + 1 : Nat) : Int)))) [v] (ps[k]'hk) ∧ Rdr w0 (w1.setCell ⟨G, 1, none⟩ (.int .i64 ((k + 1 : Nat) : Int))) G ps (k + 1) ∧ Turn w (w1.setCell ⟨G, 1, none⟩ (.int .i64 ((k + 1 : Nat) : Int))) G := fun W w1 v h1 h2 h3 h4 =>
    ⟨next_kept hR h hlt h3 h4, h.step (h1.trans (h2.mono h1.size))⟩
  clear hof hF harg h hfr hR
  go_enter Tryd.func35, Tryd.ntmps35
  go_wp2
  go_quiet (fail)
  have hBq := below_drewN_ (Below.refl w.heap.size w) nq
  have hBd := hBq.drew
  obtain ⟨_, q0, q1, qe⟩ := hS _ hBq
  have q2 : (w.drewN nq).cell? ⟨G, 2, none⟩ = some .nilIface := c2
  go_wp2
  go_region_held3 (fun w' => Below w.heap.size w w' ∧ w'.cell? ⟨G, 0, none⟩ = some (.slice (some ad) ps.length c) ∧ w'.cell? ⟨G, 1, none⟩ = some (.int .i64 (k : Int)) ∧ w'.cell? (ad.add k) = some (.slice A' (ps[k]'hk).length c'))
    (first | exact hS _ hBd | exact hKL _ _ (by assumption) hB)
    (first
      | (go_at_fn g; refine (hcall _ hBd).out.mono ?_; rintro e w1 ⟨v, rfl, hRv, hB⟩))
  have hBw : Below w.heap.size w w1 := hBd.trans (hB.mono (Nat.le_refl _))
  obtain ⟨_, d0, d1, de⟩ := hS _ hBw
  have df := hf1 _ hBw
  have hE := hend _ _ v hBd hB rfl hRv
  clear hS hKL hf1 hcall hend
  go_wp2
  go_ret
  exact ⟨v, rfl, hE⟩
end Go.Proofs.YtlkjahfkgfkilaaDoor
