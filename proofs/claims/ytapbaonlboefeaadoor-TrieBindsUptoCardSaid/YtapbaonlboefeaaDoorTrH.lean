/- trie: halves. WRITTEN BY wip/gen/trc.py. -/
import Derived.Test.YtapbaonlboefeaaDoorTrC
import Derived.Test.YtapbaonlboefeaaDoorKp
namespace Go.Proofs.YtapbaonlboefeaaDoor
open Go.RowKit

theorem Tryd.zeroPart (W : World) : (zeroValue 58).run Tryd.prog W = .ok (.agg #[.slice none 0 0, .int .i64 0]) W := by kernel_rfl
/-- All but the first z entries: where they lie. -/
def tailA (A : Option Addr) (c z : Nat) : Option Addr := if c = z then A else A.map (·.add (z * 33))
/-- What halves' operations yield. -/
def HalR (gp g2 g3 : Nat) (A : Option Addr) (n c z d : Nat) : Nat → Value → World → Prop
  | 0, v, _ => v = .pointer (some ⟨gp, 0, none⟩)
  | 1, v, _ => v = .slice A n c
  | 2, v, _ => v = .int .i64 (z : Int)
  | 3, v, _ => v = .slice A z c
  | 4, v, _ => v = .pointer (some ⟨gp, 1, none⟩)
  | 5, v, _ => v = .int .i64 (d : Int)
  | 6, v, _ => v = .int .i64 ((d + 1 : Nat) : Int)
  | 7, v, _ => v = .agg #[.slice A z c, .int .i64 ((d + 1 : Nat) : Int)]
  | 8, v, _ => v = .pointer (some ⟨gp, 0, none⟩)
  | 9, v, _ => v = .slice A n c
  | 10, v, _ => v = .int .i64 (z : Int)
  | 11, v, _ => v = .slice (tailA A c z) (n - z) (c - z)
  | 12, v, _ => v = .pointer (some ⟨gp, 1, none⟩)
  | 13, v, _ => v = .int .i64 (d : Int)
  | 14, v, _ => v = .int .i64 ((d + 1 : Nat) : Int)
  | 15, v, _ => v = .agg #[.slice (tailA A c z) (n - z) (c - z), .int .i64 ((d + 1 : Nat) : Int)]
  | 16, _, w => HB w g2 58 [.slice A z c, .int .i64 ((d + 1 : Nat) : Int)]
  | 17, _, w => HB w g3 58 [.slice (tailA A c z) (n - z) (c - z), .int .i64 ((d + 1 : Nat) : Int)]
  | _, _, _ => True
/-- What an operation does to the world. -/
def HalT (g2 g3 i : Nat) (w w' : World) : Prop :=
  if i = 16 then ∃ l : List Value, l.length = 2 ∧ w' = w.setCells g2 0 l else if i = 17 then ∃ l : List Value, l.length = 2 ∧ w' = w.setCells g3 0 l else w = w'
theorem HalT.keep {g2 g3 i : Nat} {w w' : World} (h : HalT g2 g3 i w w') (hg : g2 ≤ g3) : Keep g2 (fun b => b = g2 ∨ b = g3) w w' := by
  unfold HalT at h
  split at h
  · obtain ⟨l, -, rfl⟩ := h
    exact Keep.setCells (.inl rfl) (Nat.le_refl _) l 0 w
  · split at h
    · obtain ⟨l, -, rfl⟩ := h
      exact Keep.setCells (.inr rfl) hg l 0 w
    · rw [h]; exact Keep.refl _ _ _
/-- What was yielded stays, unless a store is still to come. -/
theorem HalR.keep {gp g2 g3 n c z d : Nat} {A : Option Addr} : ∀ (j : Nat) {v : Value} {w w' : World} {i : Nat}, g2 ≠ g3 → i ≠ j → HalT g2 g3 i w w' → HalR gp g2 g3 A n c z d j v w → HalR gp g2 g3 A n c z d j v w'
  | 0, _, _, _, _, _, _, _, h => h
  | 1, _, _, _, _, _, _, _, h => h
  | 2, _, _, _, _, _, _, _, h => h
  | 3, _, _, _, _, _, _, _, h => h
  | 4, _, _, _, _, _, _, _, h => h
  | 5, _, _, _, _, _, _, _, h => h
  | 6, _, _, _, _, _, _, _, h => h
  | 7, _, _, _, _, _, _, _, h => h
  | 8, _, _, _, _, _, _, _, h => h
  | 9, _, _, _, _, _, _, _, h => h
  | 10, _, _, _, _, _, _, _, h => h
  | 11, _, _, _, _, _, _, _, h => h
  | 12, _, _, _, _, _, _, _, h => h
  | 13, _, _, _, _, _, _, _, h => h
  | 14, _, _, _, _, _, _, _, h => h
  | 15, _, _, _, _, _, _, _, h => h
  | 16, _, w, w', i, hne, hij, hT, h => by
    unfold HalT at hT
    rw [if_neg hij] at hT
    split at hT
    · obtain ⟨l, -, rfl⟩ := hT
      exact HB.keep h (heap_setCells_other hne l 0 w)
    · rw [← hT]; exact h
  | 17, _, w, w', i, hne, hij, hT, h => by
    unfold HalT at hT
    split at hT
    · obtain ⟨l, -, rfl⟩ := hT
      exact HB.keep h (heap_setCells_other hne.symm l 0 w)
    · rw [← hT]; exact h
  | _ + 18, _, _, _, _, _, _, _, _ => trivial
/-- A slice expression by its own run. -/
theorem wp_slice {P : Program} {o : Oper} {a : Act} {w : World} {K : Act → World → Prop} {Q : Exit → Act → World → Prop} (t : TypeId) (x : Operand) (lo hi mx : Option Operand) (ho : o.op = .slice t x lo hi mx) (v : Value)
    (hr : (Instr.sliceAt t (a.eval x) (lo.map a.eval) (hi.map a.eval) (mx.map a.eval)).run P w = .ok v w) (h : K (a.put o.dst v) w) : o.wp P a w K Q := by
  unfold Oper.wp execOp
  simp only [ho, Sem.run_bind, hr, Result.andThen_ok, Sem.run_pure]
  exact h
theorem Tryd.elemEnt : Tryd.prog.underlying 26 = some (.slice (Tryd.prog.elem 26)) := by kernel_rfl
theorem Tryd.sizeEnt (W : World) : (sizeOf (Tryd.prog.elem 26)).run Tryd.prog W = .ok 33 W := by kernel_rfl
theorem slice_head (W : World) (A : Option Addr) (n c z : Nat) (hz : z ≤ c) : (Instr.sliceAt 26 (.slice A n c) none (some (.int .i64 (z : Int))) none).run Tryd.prog W = .ok (.slice A z c) W := by
  rw [run_sliceAt_slice (h := Tryd.elemEnt), run_slice_h (ht := Tryd.elemEnt) (h0 := by omega) (h2 := by omega), Tryd.sizeEnt, Result.andThen_ok]
  simp only [sliced, Nat.zero_mul, Int.toNat_natCast, Nat.sub_zero]
  congr 2
  split
  · rfl
  · cases A with
    | none => rfl
    | some a => simp [add_zero]
theorem slice_tail (W : World) (A : Option Addr) (n c z : Nat) (hz : z ≤ n) : (Instr.sliceAt 26 (.slice A n c) (some (.int .i64 (z : Int))) none none).run Tryd.prog W = .ok (.slice (tailA A c z) (n - z) (c - z)) W := by
  rw [run_sliceAt_slice (h := Tryd.elemEnt), run_slice_l (ht := Tryd.elemEnt) (h0 := by omega) (h1 := by omega), Tryd.sizeEnt, Result.andThen_ok]
  simp only [sliced, Int.toNat_natCast, tailA]
theorem Tryd.builtPart : ∀ parts, Tryd.prog.built 58 parts = Instr.fill ([(0, 1), (1, 1)].toArray[·]?) #[.slice none 0 0, .int .i64 0] parts := by intro parts; kernel_rfl
theorem built_part (A : Option Addr) (n c d : Nat) : Tryd.prog.built 58 [(0, .slice A n c), (1, .int .i64 ((d + 1 : Nat) : Int))] = some #[.slice A n c, .int .i64 ((d + 1 : Nat) : Int)] := by
  rw [Tryd.builtPart]
  have h2 := fill_fields ([(0, 1), (1, 1)].toArray[·]?) [.slice A n c, .int .i64 ((d + 1 : Nat) : Int)] 0 0 #[.slice none 0 0, .int .i64 0] ⟨rfl, rfl, trivial⟩ rfl
  simpa [cellsAll, Value.cells] using h2
/-- Two results, each a row of its own. -/
theorem results_two {P : Program} {fn : Func} {p q : Tmp} {ty : TypeId} (h : fn.results = #[.cell p ty, .cell q ty]) (tmps : Array Value) (w : World) (g g' : Nat) (t : TypeId) (cs cs' : List Value) (d : TypeDesc) (hp : tmps.getD p undef = .pointer (some ⟨g, 0, none⟩)) (hq : tmps.getD q undef = .pointer (some ⟨g', 0, none⟩)) (hb : HB w g t cs) (hb' : HB w g' t cs')
    (hu : P.underlying ty = some d) (hd : d.isRow = true) (hi : (P.info? ty).map (·.size) = some cs.length) (hi' : (P.info? ty).map (·.size) = some cs'.length) : (results fn tmps).run P w = .ok (.tuple #[.agg cs.toArray, .agg cs'.toArray]) w := by
  have hl := run_loadVar_mid (P := P) w g 0 ty cs d hb.rngT hu hd hi
  have hl' := run_loadVar_mid (P := P) w g' 0 ty cs' d hb'.rngT hu hd hi'
  rw [Array.getD_eq_getD_getElem?] at hp hq
  simp only [results, h]
  simp [hp, hq, asAddr, hl, hl']
set_option maxRecDepth 20000 in
set_option maxHeartbeats 3200000 in
theorem halves_any (w : World) (B d c : Nat) (hBw : B ≤ w.heap.size) (A : Option Addr) (vs : List Value) (L : List Ent) (h : EntsW w B A vs L) (hd : d < 256) (hm : MayP L) (hg : Grp L d) (hc : L.length ≤ c) (hn : L.length ≤ 4611686018427387904) :
    Calls Tryd.prog 46 #[.agg #[.slice A L.length c, .int .i64 (d : Int)]] w fun e w' => e = .returned (.tuple #[.agg #[.slice A (side L d 0).length c, .int .i64 ((d + 1 : Nat) : Int)], .agg #[.slice (tailA A c (side L d 0).length) (side L d 1).length (c - (side L d 0).length), .int .i64 ((d + 1 : Nat) : Int)]]) ∧ Below w.heap.size w w' := by
  have hz := Tryd.zeroPart
  obtain ⟨s1, s2, s3⟩ := halves_at hm h.keys hg hd
  have hzn : (side L d 0).length ≤ L.length := List.length_filter_le _ _
  have e1 : (side L d 1).length = L.length - (side L d 0).length := by rw [← s2, List.length_drop]
  rw [e1]
  have hp1 := HB.new w 58 [.slice A L.length c, .int .i64 (d : Int)]
  have hB1 := below_alloc1 w (.cells #[.slice A L.length c, .int .i64 (d : Int)] 58)
  have hE1 := h.below (hB1.mono hBw)
  have hq1 : (w.alloc (.cells #[.slice A L.length c, .int .i64 (d : Int)] 58)).heap.size = w.heap.size + 1 := by simp
  have hp1' : HB (w.alloc (.cells #[.slice A L.length c, .int .i64 (d : Int)] 58)) w.heap.size 58 [.slice A L.length c, .int .i64 (d : Int)] := hp1
  clear hp1
  generalize hw1 : w.alloc (.cells #[.slice A L.length c, .int .i64 (d : Int)] 58) = w1 at *
  have hB2 := below_alloc1 w1 (.cells #[.slice none 0 0, .int .i64 0] 58)
  have hz2 : HB (w1.alloc (.cells #[.slice none 0 0, .int .i64 0] 58)) w1.heap.size 58 [.slice none 0 0, .int .i64 0] := HB.new w1 58 _
  have hq2 : (w1.alloc (.cells #[.slice none 0 0, .int .i64 0] 58)).heap.size = w.heap.size + 2 := by simp; omega
  rw [hq1] at hz2
  generalize hw2 : w1.alloc (.cells #[.slice none 0 0, .int .i64 0] 58) = w2 at *
  have hB3 := below_alloc1 w2 (.cells #[.slice none 0 0, .int .i64 0] 58)
  have hz3 : HB (w2.alloc (.cells #[.slice none 0 0, .int .i64 0] 58)) w2.heap.size 58 [.slice none 0 0, .int .i64 0] := HB.new w2 58 _
  have hq3 : (w2.alloc (.cells #[.slice none 0 0, .int .i64 0] 58)).heap.size = w.heap.size + 3 := by simp; omega
  rw [hq2] at hz3
  generalize hw3 : w2.alloc (.cells #[.slice none 0 0, .int .i64 0] 58) = w3 at *
  have hB13 := hB2.trans (hB3.mono hB2.size)
  have HB3 := Lib.hid (hB1.trans (hB13.mono hB1.size))
  have HP := Lib.hid (HB.below hp1' hB13 (by omega))
  have HZ2 := Lib.hid (HB.below hz2 hB3 (by omega))
  have HZ3 := Lib.hid hz3
  have HE := Lib.hid ((hE1.below (hB13.mono (by omega))))
  have HQ3 := Lib.hid hq3
  have HS := Lib.hid (search_any w3 L.length (side L d 0).length w.heap.size hzn (by omega) (fun W hW i hi => by
    have hP : PartB W w.heap.size A L.length c d := HB.below HP.out hW (by omega)
    have := half_at W B w.heap.size d c (by have := hW.size; omega) A vs L (HE.out.below (hW.mono (by omega))) hP (by have := hW.size; omega) hd i hi
    rw [s3 i hi] at this
    exact this))
  have hc0 : w3.cell? ⟨w.heap.size, 0, none⟩ = some (.slice A L.length c) := by rw [HP.out.cell]; rfl
  clear hB1 hB2 hB3 hB13 hz2 hz3 hE1 hp1' h s1 s2 s3 e1 hm hg
  generalize (side L d 0).length = z at *
  generalize hnn : L.length = n at *
  clear hnn
  have HZN := Lib.hid hzn
  have HZC := Lib.hid (show z ≤ c by omega)
  have HDW : Hid (IntKind.i64.wrap ((d : Int) + 1) = ((d + 1 : Nat) : Int)) := Lib.hid (by rw [IntWalk.i64_in _ ⟨by omega, by omega⟩]; push_cast; rfl)
  go_enter Tryd.func46, Tryd.ntmps46
  go_wp2_with fail
  clear hw1 hw2 hw3
  clear hc0 hz hq1 hq2 hq3
  refine HS.out.mono ?_
  rintro e w4 ⟨rfl, hB4⟩
  have HP4 := Lib.hid (HB.below HP.out hB4 (by have := HQ3.out; omega))
  have HZ24 := Lib.hid (HB.below HZ2.out hB4 (by have := HQ3.out; omega))
  have HZ34 := Lib.hid (HB.below HZ3.out hB4 (by have := HQ3.out; omega))
  have HB4 := Lib.hid (HB3.out.trans (hB4.mono HB3.out.size))
  have HQ4 := Lib.hid (show w.heap.size + 3 ≤ w4.heap.size by have := HQ3.out; have := hB4.size; omega)
  clear hB4 HS HP HZ2 HZ3 HB3 HE HQ3
  have HZ2 := HZ24; have HZ3 := HZ34
  have HC0 : Hid (∀ W, Keep (w.heap.size + 1) (fun b => b = w.heap.size + 1 ∨ b = w.heap.size + 2) w4 W → W.cell? ⟨w.heap.size, 0, none⟩ = some (.slice A n c)) := Lib.hid (fun W hW => by rw [(HB.below HP4.out hW.low (by omega)).cell]; rfl)
  have HC1 : Hid (∀ W, Keep (w.heap.size + 1) (fun b => b = w.heap.size + 1 ∨ b = w.heap.size + 2) w4 W → W.cell? ⟨w.heap.size, 1, none⟩ = some (.int .i64 (d : Int))) := Lib.hid (fun W hW => by rw [(HB.below HP4.out hW.low (by omega)).cell]; rfl)
  go_wp2_with fail
  refine wp_region_inv 26 (HalR w.heap.size (w.heap.size + 1) (w.heap.size + 2) A n c z d) (Keep (w.heap.size + 1) (fun b => b = w.heap.size + 1 ∨ b = w.heap.size + 2) w4) (HalT (w.heap.size + 1) (w.heap.size + 2)) (by kernel_rfl) (by rfl) (by kernel_rfl) (fun i j v W W' hi hij hw hT hR => ?_) (fun i W W' hT hI => hI.trans (hT.keep (by omega))) (Keep.drew (by have := HQ4.out; omega)) (fun jx ho1 ho vs W hI hdep => ?_) (fun vs W hI hR => ?_)
  · exact HalR.keep j (by omega) hij hT hR
  · rcases jx with _ | jx
    · simp only [List.getElem?_toArray, List.getElem?_cons_zero, Option.some.injEq] at ho
      subst ho
      refine .inl ⟨rfl, fun K Q hK => ?_⟩
      simp only [putFrom, Act.put, List.setIfInBounds_toArray, List.set_cons_succ, List.set_cons_zero, Nat.reduceAdd] at hK ⊢
      have HOUT := Lib.hid hK
      clear hK hdep
      go_simp
      exact HOUT.out _ _ _ rfl ⟨rfl, rfl⟩
    rcases jx with _ | jx
    · simp only [List.getElem?_toArray, List.getElem?_cons_succ, List.getElem?_cons_zero, Option.some.injEq, Nat.zero_add] at ho
      subst ho
      have e0 : vs 0 = _ := hdep 0 rfl
      have hc := HC0.out W hI
      refine .inl ⟨rfl, fun K Q hK => ?_⟩
      simp only [putFrom, Act.put, List.setIfInBounds_toArray, List.set_cons_succ, List.set_cons_zero, Nat.reduceAdd, e0] at hK ⊢
      have HOUT := Lib.hid hK
      clear hK hdep e0
      go_simp
      exact HOUT.out _ _ _ rfl ⟨rfl, rfl⟩
    rcases jx with _ | jx
    · simp only [List.getElem?_toArray, List.getElem?_cons_succ, List.getElem?_cons_zero, Option.some.injEq, Nat.zero_add] at ho
      subst ho
      refine .inl ⟨rfl, fun K Q hK => ?_⟩
      simp only [putFrom, Act.put, List.setIfInBounds_toArray, List.set_cons_succ, List.set_cons_zero, Nat.reduceAdd] at hK ⊢
      have HOUT := Lib.hid hK
      clear hK hdep
      go_simp
      exact HOUT.out _ _ _ rfl ⟨rfl, rfl⟩
    rcases jx with _ | jx
    · simp only [List.getElem?_toArray, List.getElem?_cons_succ, List.getElem?_cons_zero, Option.some.injEq, Nat.zero_add] at ho
      subst ho
      have e1 : vs 1 = _ := hdep 1 rfl
      have e2 : vs 2 = _ := hdep 2 rfl
      refine .inl ⟨rfl, fun K Q hK => ?_⟩
      simp only [putFrom, Act.put, List.setIfInBounds_toArray, List.set_cons_succ, List.set_cons_zero, Nat.reduceAdd, e1, e2] at hK ⊢
      have HOUT := Lib.hid hK
      clear hK hdep e1 e2
      refine wp_slice 26 _ _ _ _ rfl (.slice A z c) (slice_head W A n c z HZC.out) ?_
      simp only [Act.put, List.setIfInBounds_toArray, List.set_cons_succ, List.set_cons_zero]
      exact HOUT.out _ _ _ rfl ⟨rfl, rfl⟩
    rcases jx with _ | jx
    · simp only [List.getElem?_toArray, List.getElem?_cons_succ, List.getElem?_cons_zero, Option.some.injEq, Nat.zero_add] at ho
      subst ho
      refine .inl ⟨rfl, fun K Q hK => ?_⟩
      simp only [putFrom, Act.put, List.setIfInBounds_toArray, List.set_cons_succ, List.set_cons_zero, Nat.reduceAdd] at hK ⊢
      have HOUT := Lib.hid hK
      clear hK hdep
      go_simp
      exact HOUT.out _ _ _ rfl ⟨rfl, rfl⟩
    rcases jx with _ | jx
    · simp only [List.getElem?_toArray, List.getElem?_cons_succ, List.getElem?_cons_zero, Option.some.injEq, Nat.zero_add] at ho
      subst ho
      have e4 : vs 4 = _ := hdep 4 rfl
      have hc := HC1.out W hI
      refine .inl ⟨rfl, fun K Q hK => ?_⟩
      simp only [putFrom, Act.put, List.setIfInBounds_toArray, List.set_cons_succ, List.set_cons_zero, Nat.reduceAdd, e4] at hK ⊢
      have HOUT := Lib.hid hK
      clear hK hdep e4
      go_simp
      exact HOUT.out _ _ _ rfl ⟨rfl, rfl⟩
    rcases jx with _ | jx
    · simp only [List.getElem?_toArray, List.getElem?_cons_succ, List.getElem?_cons_zero, Option.some.injEq, Nat.zero_add] at ho
      subst ho
      have e5 : vs 5 = _ := hdep 5 rfl
      have hw := HDW.out
      refine .inl ⟨rfl, fun K Q hK => ?_⟩
      simp only [putFrom, Act.put, List.setIfInBounds_toArray, List.set_cons_succ, List.set_cons_zero, Nat.reduceAdd, e5] at hK ⊢
      have HOUT := Lib.hid hK
      clear hK hdep e5
      go_simp
      exact HOUT.out _ _ _ rfl ⟨rfl, rfl⟩
    rcases jx with _ | jx
    · simp only [List.getElem?_toArray, List.getElem?_cons_succ, List.getElem?_cons_zero, Option.some.injEq, Nat.zero_add] at ho
      subst ho
      have e3 : vs 3 = _ := hdep 3 rfl
      have e6 : vs 6 = _ := hdep 6 rfl
      refine .inl ⟨rfl, fun K Q hK => ?_⟩
      simp only [putFrom, Act.put, List.setIfInBounds_toArray, List.set_cons_succ, List.set_cons_zero, Nat.reduceAdd, e3, e6] at hK ⊢
      have HOUT := Lib.hid hK
      clear hK hdep e3 e6
      refine wp_buildTo 58 _ rfl #[.slice A z c, .int .i64 ((d + 1 : Nat) : Int)] (by (simp only [List.map_toArray, List.map_cons, List.map_nil]; exact built_part _ _ _ _)) ?_
      simp only [Act.put, List.setIfInBounds_toArray, List.set_cons_succ, List.set_cons_zero]
      exact HOUT.out _ _ _ rfl ⟨rfl, rfl⟩
    rcases jx with _ | jx
    · simp only [List.getElem?_toArray, List.getElem?_cons_succ, List.getElem?_cons_zero, Option.some.injEq, Nat.zero_add] at ho
      subst ho
      refine .inl ⟨rfl, fun K Q hK => ?_⟩
      simp only [putFrom, Act.put, List.setIfInBounds_toArray, List.set_cons_succ, List.set_cons_zero, Nat.reduceAdd] at hK ⊢
      have HOUT := Lib.hid hK
      clear hK hdep
      go_simp
      exact HOUT.out _ _ _ rfl ⟨rfl, rfl⟩
    rcases jx with _ | jx
    · simp only [List.getElem?_toArray, List.getElem?_cons_succ, List.getElem?_cons_zero, Option.some.injEq, Nat.zero_add] at ho
      subst ho
      have e8 : vs 8 = _ := hdep 8 rfl
      have hc := HC0.out W hI
      refine .inl ⟨rfl, fun K Q hK => ?_⟩
      simp only [putFrom, Act.put, List.setIfInBounds_toArray, List.set_cons_succ, List.set_cons_zero, Nat.reduceAdd, e8] at hK ⊢
      have HOUT := Lib.hid hK
      clear hK hdep e8
      go_simp
      exact HOUT.out _ _ _ rfl ⟨rfl, rfl⟩
    rcases jx with _ | jx
    · simp only [List.getElem?_toArray, List.getElem?_cons_succ, List.getElem?_cons_zero, Option.some.injEq, Nat.zero_add] at ho
      subst ho
      refine .inl ⟨rfl, fun K Q hK => ?_⟩
      simp only [putFrom, Act.put, List.setIfInBounds_toArray, List.set_cons_succ, List.set_cons_zero, Nat.reduceAdd] at hK ⊢
      have HOUT := Lib.hid hK
      clear hK hdep
      go_simp
      exact HOUT.out _ _ _ rfl ⟨rfl, rfl⟩
    rcases jx with _ | jx
    · simp only [List.getElem?_toArray, List.getElem?_cons_succ, List.getElem?_cons_zero, Option.some.injEq, Nat.zero_add] at ho
      subst ho
      have e9 : vs 9 = _ := hdep 9 rfl
      have e10 : vs 10 = _ := hdep 10 rfl
      refine .inl ⟨rfl, fun K Q hK => ?_⟩
      simp only [putFrom, Act.put, List.setIfInBounds_toArray, List.set_cons_succ, List.set_cons_zero, Nat.reduceAdd, e9, e10] at hK ⊢
      have HOUT := Lib.hid hK
      clear hK hdep e9 e10
      refine wp_slice 26 _ _ _ _ rfl (.slice (tailA A c z) (n - z) (c - z)) (slice_tail W A n c z HZN.out) ?_
      simp only [Act.put, List.setIfInBounds_toArray, List.set_cons_succ, List.set_cons_zero]
      exact HOUT.out _ _ _ rfl ⟨rfl, rfl⟩
    rcases jx with _ | jx
    · simp only [List.getElem?_toArray, List.getElem?_cons_succ, List.getElem?_cons_zero, Option.some.injEq, Nat.zero_add] at ho
      subst ho
      refine .inl ⟨rfl, fun K Q hK => ?_⟩
      simp only [putFrom, Act.put, List.setIfInBounds_toArray, List.set_cons_succ, List.set_cons_zero, Nat.reduceAdd] at hK ⊢
      have HOUT := Lib.hid hK
      clear hK hdep
      go_simp
      exact HOUT.out _ _ _ rfl ⟨rfl, rfl⟩
    rcases jx with _ | jx
    · simp only [List.getElem?_toArray, List.getElem?_cons_succ, List.getElem?_cons_zero, Option.some.injEq, Nat.zero_add] at ho
      subst ho
      have e12 : vs 12 = _ := hdep 12 rfl
      have hc := HC1.out W hI
      refine .inl ⟨rfl, fun K Q hK => ?_⟩
      simp only [putFrom, Act.put, List.setIfInBounds_toArray, List.set_cons_succ, List.set_cons_zero, Nat.reduceAdd, e12] at hK ⊢
      have HOUT := Lib.hid hK
      clear hK hdep e12
      go_simp
      exact HOUT.out _ _ _ rfl ⟨rfl, rfl⟩
    rcases jx with _ | jx
    · simp only [List.getElem?_toArray, List.getElem?_cons_succ, List.getElem?_cons_zero, Option.some.injEq, Nat.zero_add] at ho
      subst ho
      have e13 : vs 13 = _ := hdep 13 rfl
      have hw := HDW.out
      refine .inl ⟨rfl, fun K Q hK => ?_⟩
      simp only [putFrom, Act.put, List.setIfInBounds_toArray, List.set_cons_succ, List.set_cons_zero, Nat.reduceAdd, e13] at hK ⊢
      have HOUT := Lib.hid hK
      clear hK hdep e13
      go_simp
      exact HOUT.out _ _ _ rfl ⟨rfl, rfl⟩
    rcases jx with _ | jx
    · simp only [List.getElem?_toArray, List.getElem?_cons_succ, List.getElem?_cons_zero, Option.some.injEq, Nat.zero_add] at ho
      subst ho
      have e11 : vs 11 = _ := hdep 11 rfl
      have e14 : vs 14 = _ := hdep 14 rfl
      refine .inl ⟨rfl, fun K Q hK => ?_⟩
      simp only [putFrom, Act.put, List.setIfInBounds_toArray, List.set_cons_succ, List.set_cons_zero, Nat.reduceAdd, e11, e14] at hK ⊢
      have HOUT := Lib.hid hK
      clear hK hdep e11 e14
      refine wp_buildTo 58 _ rfl #[.slice (tailA A c z) (n - z) (c - z), .int .i64 ((d + 1 : Nat) : Int)] (by (simp only [List.map_toArray, List.map_cons, List.map_nil]; exact built_part _ _ _ _)) ?_
      simp only [Act.put, List.setIfInBounds_toArray, List.set_cons_succ, List.set_cons_zero]
      exact HOUT.out _ _ _ rfl ⟨rfl, rfl⟩
    rcases jx with _ | jx
    · simp only [List.getElem?_toArray, List.getElem?_cons_succ, List.getElem?_cons_zero, Option.some.injEq, Nat.zero_add] at ho
      subst ho
      have e7 : vs 7 = _ := hdep 7 rfl
      obtain ⟨cs, hcs, hcl⟩ := hI.hb (.inl rfl) HZ2.out
      replace hcl : cs.length = 2 := hcl
      refine .inl ⟨rfl, fun K Q hK => ?_⟩
      simp only [putFrom, Act.put, List.setIfInBounds_toArray, List.set_cons_succ, List.set_cons_zero, Nat.reduceAdd, e7] at hK ⊢
      have HOUT := Lib.hid hK
      clear hK hdep e7
      refine wp_store_mid 58 _ _ rfl (w.heap.size + 1) 0 #[.slice A z c, .int .i64 ((d + 1 : Nat) : Int)] rfl rfl (there_hb hcs (by rw [hcl]; exact Nat.le_refl 2)) (by kernel_rfl) (by simp [Value.oneCell']) ?_
      simp only [Act.put]
      refine HOUT.out _ undef _ rfl ⟨?_, ?_⟩
      · unfold HalT; rw [if_pos rfl]; exact ⟨_, rfl, rfl⟩
      · exact hb_setAll hcs [.slice A z c, .int .i64 ((d + 1 : Nat) : Int)] (by rw [hcl]; rfl)
    rcases jx with _ | jx
    · simp only [List.getElem?_toArray, List.getElem?_cons_succ, List.getElem?_cons_zero, Option.some.injEq, Nat.zero_add] at ho
      subst ho
      have e15 : vs 15 = _ := hdep 15 rfl
      obtain ⟨cs, hcs, hcl⟩ := hI.hb (.inr rfl) HZ3.out
      replace hcl : cs.length = 2 := hcl
      refine .inl ⟨rfl, fun K Q hK => ?_⟩
      simp only [putFrom, Act.put, List.setIfInBounds_toArray, List.set_cons_succ, List.set_cons_zero, Nat.reduceAdd, e15] at hK ⊢
      have HOUT := Lib.hid hK
      clear hK hdep e15
      refine wp_store_mid 58 _ _ rfl (w.heap.size + 2) 0 #[.slice (tailA A c z) (n - z) (c - z), .int .i64 ((d + 1 : Nat) : Int)] rfl rfl (there_hb hcs (by rw [hcl]; exact Nat.le_refl 2)) (by kernel_rfl) (by simp [Value.oneCell']) ?_
      simp only [Act.put]
      refine HOUT.out _ undef _ rfl ⟨?_, ?_⟩
      · unfold HalT; rw [if_neg (by omega), if_pos rfl]; exact ⟨_, rfl, rfl⟩
      · exact hb_setAll hcs [.slice (tailA A c z) (n - z) (c - z), .int .i64 ((d + 1 : Nat) : Int)] (by rw [hcl]; rfl)
    exact absurd ho (by simp)
  · have hr2 : HB W (w.heap.size + 1) 58 _ := hR 16 (by decide)
    have hr3 : HB W (w.heap.size + 2) 58 _ := hR 17 (by decide)
    have hB := HB4.out.trans (hI.low.mono (by omega))
    simp only [putFrom, Act.put, List.setIfInBounds_toArray, List.set_cons_succ, List.set_cons_zero, Nat.reduceAdd]
    clear hR hI
    go_wp2_with fail
    refine bodyPost_ret (v := .tuple #[.agg #[.slice A z c, .int .i64 ((d + 1 : Nat) : Int)], .agg #[.slice (tailA A c z) (n - z) (c - z), .int .i64 ((d + 1 : Nat) : Int)]]) (results_two rfl _ _ (w.heap.size + 1) (w.heap.size + 2) 58 _ _ _ rfl rfl hr2 hr3 Tryd.underlying58 rfl (by kernel_rfl) (by kernel_rfl)) rfl ?_
    exact ⟨rfl, hB⟩
end Go.Proofs.YtapbaonlboefeaaDoor
