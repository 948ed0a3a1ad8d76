/- What comes in: bytes, and paths of digests. -/
import Derived.Test.YthmkdlnocdbhjaaDoorMlO
import Derived.Test.YthmkdlnocdbhjaaDoorMkX
import Derived.ChangeArms
import Derived.ChangeSlices
import Derived.Deep.Slices
namespace Go.Proofs.YthmkdlnocdbhjaaDoor
open Go.RowKit Go.ChangeShapes Go.WideShapes Go.Deep

theorem list_of {α : Type} {p : Nat → α → Prop} : ∀ n : Nat, (∀ i, i < n → ∃ x, p i x) → ∃ l : List α, l.length = n ∧ ∀ i (h : i < l.length), p i (l[i]'h)
  | 0, _ => ⟨[], rfl, fun i h => absurd h (Nat.not_lt_zero i)⟩
  | n + 1, h => by
    obtain ⟨l, hl, hp⟩ := list_of n fun i hi => h i (by omega)
    obtain ⟨x, hx⟩ := h n (by omega)
    refine ⟨l ++ [x], by simp [hl], fun i hi => ?_⟩
    rw [List.length_append, List.length_singleton] at hi
    rcases Nat.lt_or_ge i l.length with h1 | h1
    · rw [List.getElem_append_left h1]; exact hp i h1
    · obtain rfl : i = l.length := by omega
      simp only [List.getElem_concat_length]
      rw [hl]; exact hx
section
variable {H : Type} {enc : TypeId × Value → H} {W : World}
/-- Bytes that came in. -/
theorem open_bytes {v : Value} {d : DataW H} {p : List MemPlace} (hv : ∃ a n c, v = Value.slice a n c) (h : DataW.Trod enc Tryd.prog W 0 (fun _ => true) true 33 v d p) {ts : List TypeId} {ds : List (DataW H)} {j : Nat} (hts : ts[j]? = some 33) (hds : ds[j]? = some d) (hz : (DataW.weightsEach Tryd.prog ts ds).all (· ≤ reachBytes) = true) :
    ∃ (A : Option Addr) (c : Nat) (b : List UInt8), v = .slice A b.length c ∧ b.length ≤ c ∧ c ≤ 9223372036854775807 ∧ Sees W W.heap.size 1 A b.length (bys b) ∧ b.length ≤ 140737488351232 := by
  obtain ⟨a0, n0, c0, rfl⟩ := hv
  obtain ⟨fuel, hf⟩ := h
  rcases open_ints Tryd.underlying33 Tryd.underlying5 Tryd.cellsByte hf with ⟨hcs, -⟩ | ⟨a, len, cap, zs, hcs, -, hl, hm, hzl, hx, hc, hw⟩
  · simp [Value.cells] at hcs
    obtain ⟨rfl, rfl, rfl⟩ := hcs
    exact ⟨none, 0, [], rfl, Nat.le_refl _, by decide, Sees.nothing _ _ _ _, by decide⟩
  · simp [Value.cells] at hcs
    obtain ⟨rfl, rfl, rfl⟩ := hcs
    simp only [Prod.mk.injEq] at hx
    obtain ⟨rfl, rfl⟩ := hx
    simp only [if_pos] at hzl
    have hb : (toBytes (zs.take n0)).length = n0 := by simp [toBytes, hzl]; omega
    have hs : Sees W W.heap.size 1 (some a) n0 (bys (toBytes (zs.take n0))) := row_sees (C := c0) hl hzl hw (fun h => by cases h) (fun a' ha c hc' => by injection ha with ha; subst ha; exact hc c (by omega))
    refine ⟨some a, c0, toBytes (zs.take n0), by rw [hb], by rw [hb]; exact hl, by unfold maxLen at hm; omega, by rw [hb]; exact hs, ?_⟩
    have hr := List.all_eq_true.1 hz (((lits (H := H) .u8 (zs.take n0)).length + (lits (H := H) .u8 (zs.drop n0)).length) * Tryd.prog.bytesOf 5) (DataW.weights_mem_each hts hds _ (by simp [DataW.weights, Tryd.underlying33]))
    have hr := of_decide_eq_true hr
    rw [lits_len, lits_len, Tryd.bytesByte, List.length_take, List.length_drop, hzl] at hr
    have e : reachBytes = 140737488351232 := rfl
    rw [hb]
    omega
theorem dig_cells {base : Nat} {spare : Nat → Bool} {held : Bool} {fuel : Nat} {cs : List Value} {x : DataW H × List MemPlace} (h : DataW.trod enc Tryd.prog W base spare held fuel 28 cs = some x) : ∃ b : List UInt8, b.length = 32 ∧ cs = bys b := by
  obtain ⟨xs, m, -, -, hcl, hxl, hi⟩ := DataW.trod_array Tryd.underlying28 h
  have hc : Tryd.prog.cellsOf 28 = 32 := by kernel_rfl
  have hc1 : Tryd.prog.cellsOf 5 = 1 := by kernel_rfl
  rw [hc] at hcl
  simp only [hc1] at hi
  obtain ⟨b, hb, hp⟩ := list_of (p := fun i (u : UInt8) => cs[i]? = some (by_ u)) 32 fun i hi' => by
    have hl : i < cs.length := by omega
    have h1 := hi i (by omega)
    have e : (cs.drop (i * 1)).take 1 = [cs[i]'hl] := by
      rw [Nat.mul_one, List.drop_eq_getElem_cons hl]; rfl
    rw [e, List.getElem?_eq_getElem (by omega)] at h1
    obtain ⟨z, hz, -, hw⟩ := DataW.trod_int Tryd.underlying5 h1
    injection hz with hz
    refine ⟨UInt8.ofNat z.toNat, ?_⟩
    rw [List.getElem?_eq_getElem hl, hz, byte_wf _ hw]
  refine ⟨b, hb, List.ext_getElem? fun i => ?_⟩
  rcases Nat.lt_or_ge i 32 with h32 | h32
  · rw [hp i (by omega), bys_get, List.getElem?_eq_getElem (by omega)]; rfl
  · rw [List.getElem?_eq_none (by omega), List.getElem?_eq_none (by rw [bys_len]; omega)]
theorem digCells_cell : ∀ (ps : List (List UInt8)) (_ : ∀ p ∈ ps, p.length = 32) (j : Nat) (u : Value), (digCells ps)[j]? = some u → ∃ (h : j / 32 < ps.length), (bys (ps[j / 32]'h))[j % 32]? = some u
  | [], _, j, u, h => by simp [digCells] at h
  | p :: ps, hl, j, u, h => by
    have hp := hl p (by simp)
    simp only [digCells, List.flatMap_cons] at h
    rcases Nat.lt_or_ge j 32 with h32 | h32
    · rw [List.getElem?_append_left (by rw [bys_len]; omega)] at h
      have e : j / 32 = 0 := by omega
      refine ⟨by rw [e]; simp, ?_⟩
      simp only [e, List.getElem_cons_zero]
      rw [show j % 32 = j from by omega]; exact h
    · rw [List.getElem?_append_right (by rw [bys_len]; omega), bys_len, hp] at h
      obtain ⟨h1, h2⟩ := digCells_cell ps (fun q hq => hl q (by simp [hq])) (j - 32) u h
      have e : j / 32 = (j - 32) / 32 + 1 := by omega
      refine ⟨by rw [e]; simpa using h1, ?_⟩
      simp only [e, List.getElem_cons_succ]
      rw [show j % 32 = (j - 32) % 32 from by omega]; exact h2
/-- A path that came in. -/
theorem open_path {v : Value} {d : DataW H} {p : List MemPlace} (hv : ∃ a n c, v = Value.slice a n c) (h : DataW.Trod enc Tryd.prog W 0 (fun _ => true) true 24 v d p) :
    ∃ (A : Option Addr) (c : Nat) (ps : List (List UInt8)), v = .slice A ps.length c ∧ PathW W W.heap.size A c ps := by
  obtain ⟨a0, n0, c0, rfl⟩ := hv
  obtain ⟨fuel, hf⟩ := h
  have hc : Tryd.prog.cellsOf 28 = 32 := by kernel_rfl
  rcases open_slice Tryd.underlying24 hf with ⟨hcs, -⟩ | ⟨a, len, cap, m, n, D, Pl, hcs, -, hl, hm, hmm, -, hx⟩
  · simp [Value.cells] at hcs
    obtain ⟨rfl, rfl, rfl⟩ := hcs
    exact ⟨none, 0, [], rfl, ⟨by simpa [digCells] using Sees.nothing _ _ _ _, by simp, ⟨Nat.le_refl _, by decide⟩, Nat.le_refl _⟩⟩
  · simp [Value.cells] at hcs
    obtain ⟨rfl, rfl, rfl⟩ := hcs
    simp only [if_pos] at hmm
    subst hmm
    rw [hc] at hx
    obtain ⟨ps, hps, hp⟩ := list_of (p := fun i (b : List UInt8) => b.length = 32 ∧ ∀ j, j < 32 → W.cell? (a.add (i * 32 + j)) = (bys b)[j]?) n0 fun i hi' => by
      obtain ⟨cs', h1, h2⟩ := hx i (by omega)
      obtain ⟨b, hb, rfl⟩ := dig_cells h2
      obtain ⟨-, -, h3⟩ := World.cells?_some h1
      exact ⟨b, hb, fun j hj => by rw [← add_add]; exact h3 j hj⟩
    have h32 : ∀ q ∈ ps, q.length = 32 := fun q hq => by
      obtain ⟨i, hi', rfl⟩ := List.getElem_of_mem hq
      exact (hp i hi').1
    refine ⟨some a, m, ps, by rw [hps], ⟨?_, h32, ⟨by omega, by unfold maxLen at hm; omega⟩, Nat.le_refl _⟩⟩
    have hlen : ∀ qs : List (List UInt8), (∀ q ∈ qs, q.length = 32) → (digCells qs).length = qs.length * 32 := by
      intro qs
      induction qs with
      | nil => intro _; rfl
      | cons q qs ih =>
        intro hq
        have h1 := ih fun x hx => hq x (by simp [hx])
        have h2 := hq q (by simp)
        simp only [digCells, List.flatMap_cons, List.length_append, bys_len] at h1 ⊢
        rw [h1, h2, List.length_cons]; omega
    refine ⟨hlen ps h32, ?_⟩
    rcases Nat.eq_zero_or_pos ps.length with h0 | h0
    · exact .inl h0
    · refine .inr ⟨a, rfl, ?_, fun j u hu => ?_⟩
      · have h1 := (hp 0 h0).2 0 (by omega)
        rw [bys_get, List.getElem?_eq_getElem (by have := (hp 0 h0).1; omega)] at h1
        have h2 := cell_lt h1
        rw [add_block] at h2; exact h2
      · obtain ⟨h1, h2⟩ := digCells_cell ps h32 j u hu
        have h3 := (hp (j / 32) h1).2 (j % 32) (Nat.mod_lt _ (by omega))
        rw [show j / 32 * 32 + j % 32 = j from by omega] at h3
        rw [h3]; exact h2
end
end Go.Proofs.YthmkdlnocdbhjaaDoor
