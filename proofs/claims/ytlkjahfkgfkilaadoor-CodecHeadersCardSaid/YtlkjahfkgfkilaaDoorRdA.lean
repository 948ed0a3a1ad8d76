/- Decoding: the next part, type by type. -/
import Derived.Test.YtlkjahfkgfkilaaDoorRdD
import Derived.Deep.RegionHeld3
import Derived.Deep.MidRow
namespace Go.Proofs.YtlkjahfkgfkilaaDoor
open Go.RowKit

set_option maxRecDepth 20000 in
set_option maxHeartbeats 8000000 in
theorem next_dig_any (R : Rel) (hR : Kept R) (hlen : ∀ w p cs b, R w p cs b → cs.length = 32 ∧ ∀ v ∈ cs, v.oneCell' = true) (F : Form) (g : Nat) (lb : Array Value) (eg : ∀ args w, (callFunc g args).run Tryd.prog w = .ok (.enter g args) w) (w0 w : World) (hof : ReadsS Tryd.prog w g lb R F) (G k : Nat) (ps : List (List UInt8)) (h : Rdr w0 w G ps k) (hk : k < ps.length) (hF : F (ps[k]'hk)) (h63 : ps.length ≤ 1099511627776) :
    Calls Tryd.prog 41 #[.pointer (some ⟨G, 0, none⟩), .func (.func g) #[] lb] w fun e w' => ∃ cs, e = .returned (.agg cs.toArray) ∧ R w' (Within w0 G w') cs (ps[k]'hk) ∧ Rdr w0 w' G ps (k + 1) ∧ Turn w w' G := by
  obtain ⟨ad, c, A', c', c0, hc, c1, c2, hfr, hab, ce, harg⟩ := h.part hk
  have hlt := h.lt
  have hz := Tryd.zeroDigest
  have hsz : (Tryd.prog.info? 23).map (·.size) = some 32 := by kernel_rfl
  have hZl : (zb 32).length = 32 := by simp [zb]
  obtain ⟨W2, hW2⟩ : ∃ W2 : World, W2 = (w.alloc (.cells (zb 32).toArray 23)).alloc (.cells (zb 32).toArray 23) := ⟨_, rfl⟩
  have hB2 : Below w.heap.size w W2 := by rw [hW2]; exact ((Below.refl _ _).alloc (Nat.le_refl _) _).alloc (by simp) _
  have hsz2 : W2.heap.size = w.heap.size + 2 := by rw [hW2]; simp
  have hres2 : HB W2 w.heap.size 23 (zb 32) := by rw [hW2]; exact (HB.new w _ _).alloc _
  have hlow : ∀ a : World, Below (w.heap.size + 2) W2 a → Below w.heap.size w a := fun a h => hB2.trans (h.mono (by omega))
  have hS : ∀ a : World, Below (w.heap.size + 2) W2 a → Below (w.heap.size + 2) W2 a ∧ a.cell? ⟨G, 0, none⟩ = some (.slice (some ad) ps.length c) ∧ a.cell? ⟨G, 1, none⟩ = some (.int .i64 (k : Int)) ∧ a.cell? (ad.add k) = some (.slice A' (ps[k]'hk).length c') := fun a hb =>
    ⟨hb, ((hlow a hb).cell hlt).trans c0, ((hlow a hb).cell hlt).trans c1, ((hlow a hb).cell (by rw [add_block]; omega)).trans ce⟩
  have hf1 : ∀ a : World, Below w.heap.size w a → a.frozen? ⟨G, 1, none⟩ = false := fun a hb => (hb.frozen hlt).trans hfr
  have hge : ∀ a : World, Below (w.heap.size + 2) W2 a → w.heap.size + 2 ≤ a.heap.size := fun a hb => by have := hb.size; omega
  have hKL : ∀ a b : World, (Below (w.heap.size + 2) W2 a ∧ a.cell? ⟨G, 0, none⟩ = some (.slice (some ad) ps.length c) ∧ a.cell? ⟨G, 1, none⟩ = some (.int .i64 (k : Int)) ∧ a.cell? (ad.add k) = some (.slice A' (ps[k]'hk).length c')) → Below a.heap.size a b → Below (w.heap.size + 2) W2 b ∧ b.cell? ⟨G, 0, none⟩ = some (.slice (some ad) ps.length c) ∧ b.cell? ⟨G, 1, none⟩ = some (.int .i64 (k : Int)) ∧ b.cell? (ad.add k) = some (.slice A' (ps[k]'hk).length c') := fun a b h hb => hS b (h.1.trans (hb.mono (hge a h.1)))
  have hKA : ∀ (a : World) (o : Obj), (Below (w.heap.size + 2) W2 a ∧ a.cell? ⟨G, 0, none⟩ = some (.slice (some ad) ps.length c) ∧ a.cell? ⟨G, 1, none⟩ = some (.int .i64 (k : Int)) ∧ a.cell? (ad.add k) = some (.slice A' (ps[k]'hk).length c')) → Below (w.heap.size + 2) W2 (a.alloc o) ∧ (a.alloc o).cell? ⟨G, 0, none⟩ = some (.slice (some ad) ps.length c) ∧ (a.alloc o).cell? ⟨G, 1, none⟩ = some (.int .i64 (k : Int)) ∧ (a.alloc o).cell? (ad.add k) = some (.slice A' (ps[k]'hk).length c') := fun a o h => hS _ (h.1.alloc (hge a h.1) o)
  have hKS : ∀ (a : World) (b : Nat) (l : List Value), w.heap.size + 2 ≤ b → (Below (w.heap.size + 2) W2 a ∧ a.cell? ⟨G, 0, none⟩ = some (.slice (some ad) ps.length c) ∧ a.cell? ⟨G, 1, none⟩ = some (.int .i64 (k : Int)) ∧ a.cell? (ad.add k) = some (.slice A' (ps[k]'hk).length c')) → Below (w.heap.size + 2) W2 (a.setCells b 0 l) ∧ (a.setCells b 0 l).cell? ⟨G, 0, none⟩ = some (.slice (some ad) ps.length c) ∧ (a.setCells b 0 l).cell? ⟨G, 1, none⟩ = some (.int .i64 (k : Int)) ∧ (a.setCells b 0 l).cell? (ad.add k) = some (.slice A' (ps[k]'hk).length c') := fun a b l hb h => hS _ (below_setCells hb l 0 _ h.1)
  have hcall : ∀ W : World, (Below (w.heap.size + 2) W2 W ∧ W.cell? ⟨G, 0, none⟩ = some (.slice (some ad) ps.length c) ∧ W.cell? ⟨G, 1, none⟩ = some (.int .i64 (k : Int)) ∧ W.cell? (ad.add k) = some (.slice A' (ps[k]'hk).length c')) → Hid (Calls Tryd.prog g (#[.slice A' (ps[k]'hk).length c'] ++ lb) W (ReadS W (fun i => w0.heap.size ≤ i ∧ i < G) R (ps[k]'hk))) := fun W hW =>
    hof W (hlow W hW.1) _ A' c' _ (harg.later (hlow W hW.1)) hF
  have hkn : (k : Int) < (ps.length : Int) := by omega
  have hk0 : (0 : Int) ≤ (k : Int) := by omega
  have hkb : ((k : Int) == (ps.length : Int)) = false := by simp; omega
  have hFin : ∀ (V : World) (X : Nat) (cs : List Value) (q : Nat → Prop), Below (w.heap.size + 2) W2 V → w.heap.size + 2 ≤ X → HB V X 23 (zb 32) → R V q cs (ps[k]'hk) → (∀ i, q i → (Within w0 G V i ∧ i ≠ w.heap.size) ∧ i ≠ X) →
      Hid (Fin 23 (zb 32) R w0 w G (ps[k]'hk) X cs (V.setCells X 0 cs)) := fun V X cs q h1 h2 h3 h4 h5 =>
    fin_of hR (hlow V h1) (hres2.below h1 (by omega)) h2 h3 (by rw [hZl]; exact ((hlen _ _ _ _ h4).1).symm) h4 h5
  have hFA : ∀ (W w1 : World) (cs : List Value), (Below (w.heap.size + 2) W2 W ∧ W.cell? ⟨G, 0, none⟩ = some (.slice (some ad) ps.length c) ∧ W.cell? ⟨G, 1, none⟩ = some (.int .i64 (k : Int)) ∧ W.cell? (ad.add k) = some (.slice A' (ps[k]'hk).length c')) → Below W.heap.size W w1 → R w1 (Since W (fun i => w0.heap.size ≤ i ∧ i < G) w1) cs (ps[k]'hk) → Hid (Fin 23 (zb 32) R w0 w G (ps[k]'hk) w1.heap.size cs ((w1.alloc (.cells (zb 32).toArray 23)).setCells w1.heap.size 0 cs)) ∧
      w.heap.size + 2 ≤ w1.heap.size ∧ (w1.alloc (.cells (zb 32).toArray 23)).there w1.heap.size 0 cs.toArray.size ∧ (Tryd.prog.info? 23).map (·.size) = some cs.toArray.size ∧ ∀ v ∈ cs, v.oneCell' = true := fun W w1 cs h1 h2 h3 => by
    obtain ⟨l1, l2⟩ := hlen _ _ _ _ h3
    have g1 := hge _ h1.1
    have g2 := h2.size
    have g3 := h.below.size
    have g4 := h.lo
    have hb1 := h1.1.trans (h2.mono g1)
    exact ⟨hFin (w1.alloc (.cells (zb 32).toArray 23)) w1.heap.size cs (Since W (fun i => w0.heap.size ≤ i ∧ i < G) w1) (hb1.alloc (hge _ hb1) _) (by omega) (HB.new w1 _ _) (hR _ _ _ _ _ _ h3 (fun a ha => World.cell?_alloc_lt _ _ _ ha.2) (fun _ h => h)) (fun i hi => by
      have h5 : i < w1.heap.size := hi.2
      rcases hi.1 with h6 | h6
      · exact ⟨⟨⟨h6.1, by have := h6.2; omega, by simp; omega⟩, by have := h6.2; omega⟩, by omega⟩
      · exact ⟨⟨⟨by omega, by omega, by simp; omega⟩, by omega⟩, by omega⟩), by omega, there_new w1 _ _ _ (by rw [List.size_toArray, l1, hZl]; exact Nat.le_refl _), by rw [List.size_toArray, l1]; exact hsz, l2⟩
  have hFB : ∀ (W w1 : World) (cs : List Value), (Below (w.heap.size + 2) W2 (W.alloc (.cells (zb 32).toArray 23)) ∧ (W.alloc (.cells (zb 32).toArray 23)).cell? ⟨G, 0, none⟩ = some (.slice (some ad) ps.length c) ∧ (W.alloc (.cells (zb 32).toArray 23)).cell? ⟨G, 1, none⟩ = some (.int .i64 (k : Int)) ∧ (W.alloc (.cells (zb 32).toArray 23)).cell? (ad.add k) = some (.slice A' (ps[k]'hk).length c')) → Below (W.alloc (.cells (zb 32).toArray 23)).heap.size (W.alloc (.cells (zb 32).toArray 23)) w1 → R w1 (Since (W.alloc (.cells (zb 32).toArray 23)) (fun i => w0.heap.size ≤ i ∧ i < G) w1) cs (ps[k]'hk) → (Below (w.heap.size + 2) W2 W ∧ W.cell? ⟨G, 0, none⟩ = some (.slice (some ad) ps.length c) ∧ W.cell? ⟨G, 1, none⟩ = some (.int .i64 (k : Int)) ∧ W.cell? (ad.add k) = some (.slice A' (ps[k]'hk).length c')) → Hid (Fin 23 (zb 32) R w0 w G (ps[k]'hk) W.heap.size cs (w1.setCells W.heap.size 0 cs)) ∧
      w.heap.size + 2 ≤ W.heap.size ∧ w1.there W.heap.size 0 cs.toArray.size ∧ (Tryd.prog.info? 23).map (·.size) = some cs.toArray.size ∧ ∀ v ∈ cs, v.oneCell' = true := fun W w1 cs h1 h2 h3 h7 => by
    obtain ⟨l1, l2⟩ := hlen _ _ _ _ h3
    have g1 := hge _ h7.1
    have g2 := h2.size
    have g3 := h.below.size
    have g4 := h.lo
    have g5 : (W.alloc (.cells (zb 32).toArray 23)).heap.size = W.heap.size + 1 := by simp
    have hb1 := h1.1.trans (h2.mono (hge _ h1.1))
    have hX : HB w1 W.heap.size 23 (zb 32) := (HB.new W _ _).below h2 (by omega)
    exact ⟨hFin w1 W.heap.size cs (Since (W.alloc (.cells (zb 32).toArray 23)) (fun i => w0.heap.size ≤ i ∧ i < G) w1) hb1 g1 hX h3 (fun i hi => by
      have h5 : i < w1.heap.size := hi.2
      rcases hi.1 with h6 | h6
      · exact ⟨⟨⟨h6.1, by have := h6.2; omega, by omega⟩, by have := h6.2; omega⟩, by have := h6.2; omega⟩
      · exact ⟨⟨⟨by omega, by omega, by omega⟩, by omega⟩, by omega⟩), g1, there_hb hX (by rw [List.size_toArray, l1, hZl]; exact Nat.le_refl _), by rw [List.size_toArray, l1]; exact hsz, l2⟩
  have hend : ∀ (w1 : World) (cs : List Value) (X : Nat) (l : Array Value), Fin 23 (zb 32) R w0 w G (ps[k]'hk) X cs w1 →
      R ((w1.setCell ⟨G, 1, none⟩ (.int .i64 ((k + 1 : Nat) : Int))).setRow w.heap.size l) (Within w0 G ((w1.setCell ⟨G, 1, none⟩ (.int .i64 ((k + 1 : Nat) : Int))).setRow w.heap.size l)) cs (ps[k]'hk) ∧ Rdr w0 ((w1.setCell ⟨G, 1, none⟩ (.int .i64 ((k + 1 : Nat) : Int))).setRow w.heap.size l) G ps (k + 1) ∧ Turn w ((w1.setCell ⟨G, 1, none⟩ (.int .i64 ((k + 1 : Nat) : Int))).setRow w.heap.size l) G := fun w1 cs X l h1 =>
    ⟨fin_rel hR h1.rel, (h.step h1.below).1.later (Below.setRow_ (Below.refl _ _) (by omega) _), (h.step h1.below).2.later (Below.setRow_ (Below.refl _ _) (Nat.le_refl _) _)⟩
  have HZl := Lib.hid hZl
  have Hsz2 := Lib.hid hsz2
  obtain ⟨_, z0, z1, ze⟩ := hS _ (Below.refl _ _)
  have z2 : W2.cell? ⟨G, 2, none⟩ = some .nilIface := (hB2.cell hlt).trans c2
  have hnew := HB.lt hres2
  clear hof hF harg h hZl hsz2 hFin hres2
  go_enter Tryd.func41, Tryd.ntmps41
  go_wp2
  rw [← hW2]
  clear hW2
  go_quiet (fail)
  have hBq := below_drewN_ (Below.refl (w.heap.size + 2) W2) nq
  have hBd := hBq.drew
  obtain ⟨_, q0, q1, qe⟩ := hS _ hBq
  have q2 : (W2.drewN nq).cell? ⟨G, 2, none⟩ = some .nilIface := z2
  go_wp2
  go_region_held3 (fun w' => Below (w.heap.size + 2) W2 w' ∧ w'.cell? ⟨G, 0, none⟩ = some (.slice (some ad) ps.length c) ∧ w'.cell? ⟨G, 1, none⟩ = some (.int .i64 (k : Int)) ∧ w'.cell? (ad.add k) = some (.slice A' (ps[k]'hk).length c'))
    (first | exact hS _ hBd | exact hKA _ _ (by assumption) | exact hKS _ _ _ hxb (by assumption) | exact hKL _ _ (by assumption) hB)
    (first
      | (go_at_fn g; refine (hcall (World.alloc _ (.cells (zb 32).toArray 23)) (by assumption)).out.mono ?_; rintro e w1 ⟨cs, rfl, hRv, hB⟩; obtain ⟨hfin, hxb, hth, hi', hone⟩ := hFB _ _ _ (by assumption) hB hRv (hS _ (below_drewN_ (Below.refl _ _) _)))
      | (go_at_fn g; refine (hcall _ (by assumption)).out.mono ?_; rintro e w1 ⟨cs, rfl, hRv, hB⟩; obtain ⟨hfin, hxb, hth, hi', hone⟩ := hFA _ _ _ (by assumption) hB hRv))
  all_goals (
    have hf := hfin.out
    have d1 := (hf.below.cell hlt).trans c1
    have df := hf1 _ hf.below
    have hE := fun l => hend _ _ _ l hf
    have hXX := hf.far
    have hrow := fun v => hf.row.far (p := ⟨G, 1, none⟩) (by simp; omega) v
    have hres := fun v => hf.res.far (p := ⟨G, 1, none⟩) (by simp; omega) v
    have HI := Lib.hid hi'
    have HS : (zb 32).toArray.size = cs.toArray.size := by (rw [List.size_toArray, List.size_toArray, HZl.out]; rw [hsz, List.size_toArray] at hi'; injection hi')
    have HS := Lib.hid HS
    have HA := Lib.hid (all_oneCell_toArray hone)
    clear hth hS hKL hKA hKS hcall hFA hFB hend hfin hi' hone hf
    go_wp2_with (first
      | (refine wpList_load_row rfl 23 _ rfl _ rfl 23 cs.toArray (0, 0) _ (hrow _) Tryd.underlying23 rfl HI.out ?_)
      | (refine wpList_store_row rfl 23 _ _ rfl w.heap.size cs.toArray rfl rfl 23 _ (hres _) HI.out HS.out HA.out ?_))
    refine bodyPost_ret (results_cell_row rfl _ _ w.heap.size 23 cs.toArray (0, 0) _ rfl ((hres _).row _) Tryd.underlying23 rfl HI.out) rfl ?_
    exact ⟨cs, rfl, hE _⟩)
end Go.Proofs.YtlkjahfkgfkilaaDoor
