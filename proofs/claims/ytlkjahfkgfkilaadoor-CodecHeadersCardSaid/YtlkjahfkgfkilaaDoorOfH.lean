/- Decoding: a header. -/
import Derived.Test.YtlkjahfkgfkilaaDoorRdA
import Derived.Test.YtlkjahfkgfkilaaDoorRdN
import Derived.Test.YtlkjahfkgfkilaaDoorRdO
import Derived.Test.YtlkjahfkgfkilaaDoorRdP
import Derived.Test.YtlkjahfkgfkilaaDoorRdE
import Derived.Test.YtlkjahfkgfkilaaDoorBuild
import Derived.Test.YtlkjahfkgfkilaaDoorEncH
namespace Go.Proofs.YtlkjahfkgfkilaaDoor
open Go.RowKit

def headerF : Form := strF [numF, numF, numF, numF, digF, digF, digF, numF]
theorem of_end {R : Rel} (hR : Kept R) {w W1 w8 w9 : World} {G : Nat} {p : Nat → Prop} {cs : List Value} {b : List UInt8} (l : Array Value) (hs1 : W1.heap.size = w.heap.size + 1) (h : R w8 (Within W1 G w8) cs b) (hB : Below w8.heap.size w8 w9) :
    R (w9.setRow w.heap.size l) (Since w p (w9.setRow w.heap.size l)) cs b := by
  refine hR _ _ _ _ _ _ h (fun a ha => ?_) (fun i hi => ⟨.inr (by have := hi.1; omega), by have h1 := hi.2.2; have h2 := hB.size; simp [World.setRow]; omega⟩)
  have h1 : (w9.setRow w.heap.size l).heap[a.block]? = w9.heap[a.block]? := by
    simp only [World.setRow, Array.getElem?_modify]
    rw [if_neg (fun e => by have := ha.1; omega)]
  rw [World.cell?_of_block h1, hB.cell ha.2.2]
/-- What has been read since w0. -/
def Got (w0 w : World) (G : Nat) (Rs : List Rel) (cs : List Value) (qs : List (List UInt8)) : Prop := Fields w (Within w0 G w) Rs cs qs
theorem Fields.snoc {w : World} {p : Nat → Prop} {R : Rel} {c : List Value} {q : List UInt8} (hR : R w p c q) : ∀ {Rs : List Rel} {cs : List Value} {qs : List (List UInt8)}, Fields w p Rs cs qs → Fields w p (Rs ++ [R]) (cs ++ c) (qs ++ [q])
  | [], cs, qs, h => by
    obtain ⟨rfl, rfl⟩ := h
    exact ⟨c, [], q, [], by simp, rfl, hR, rfl, rfl⟩
  | R' :: Rs, cs, qs, h => by
    obtain ⟨c1, c2, q1, qs1, rfl, rfl, h3, h4⟩ := h
    exact ⟨c1, c2 ++ c, q1, qs1 ++ [q], by rw [List.append_assoc], rfl, h3, Fields.snoc hR h4⟩
theorem Got.start (w0 w : World) (G : Nat) : Got w0 w G [] [] [] := ⟨rfl, rfl⟩
theorem Got.step {w0 w w' : World} {G : Nat} {Rs : List Rel} {cs : List Value} {qs : List (List UInt8)} {R : Rel} {c : List Value} {q : List UInt8} (h : Got w0 w G Rs cs qs) (hk : ∀ R ∈ Rs, Kept R) (ht : Turn w w' G) (hR : R w' (Within w0 G w') c q) : Got w0 w' G (Rs ++ [R]) (cs ++ c) (qs ++ [q]) :=
  (Fields.kept hk (Turn.same ht) (Within.more ht.1) h).snoc hR
/-- All fields. -/
theorem Got.all {w0 w : World} {G : Nat} {Rs : List Rel} {cs : List Value} {qs : List (List UInt8)} (h : Got w0 w G Rs cs qs) (b : List UInt8) (hb : joinF qs = b) : strR Rs w (Within w0 G w) cs b := ⟨qs, h, hb.symm⟩
theorem headerRs_kept : ∀ R ∈ [numR .i64, numR .i64, numR .i64, numR .i64, digR, digR, digR, numR .i64], Kept R := by
  intro R hR
  simp only [List.mem_cons, List.not_mem_nil, or_false] at hR
  rcases hR with rfl | rfl | rfl | rfl | rfl | rfl | rfl | rfl
  · exact numR_kept _
  · exact numR_kept _
  · exact numR_kept _
  · exact numR_kept _
  · exact digR_kept
  · exact digR_kept
  · exact digR_kept
  · exact numR_kept _
theorem headerR_kept : Kept headerR := strR_kept headerRs_kept
theorem digR_len : ∀ w p cs b, digR w p cs b → cs.length = 32 ∧ ∀ v ∈ cs, v.oneCell' = true := fun _ _ cs b h => by
  obtain ⟨h1, rfl⟩ := h
  exact ⟨by rw [bys_len, h1], bys_one b⟩
theorem Tryd.builtHeader : ∀ parts, Tryd.prog.built 25 parts = Instr.fill ([(0, 1), (1, 1), (2, 1), (3, 1), (4, 32), (36, 32), (68, 32), (100, 1)].toArray[·]?) zhead.toArray parts := by intro parts; kernel_rfl
theorem built_header (x0 x1 x2 x3 x7 : Int) (b4 b5 b6 : List UInt8) (h4 : b4.length = 32) (h5 : b5.length = 32) (h6 : b6.length = 32) :
    Tryd.prog.built 25 [(0, .int .i64 x0), (1, .int .i64 x1), (2, .int .i64 x2), (3, .int .i64 x3), (4, .agg (bys b4).toArray), (5, .agg (bys b5).toArray), (6, .agg (bys b6).toArray), (7, .int .i64 x7)] =
      some ([Value.int .i64 x0] ++ ([Value.int .i64 x1] ++ ([Value.int .i64 x2] ++ ([Value.int .i64 x3] ++ (bys b4 ++ (bys b5 ++ (bys b6 ++ ([Value.int .i64 x7] ++ []))))))) ).toArray := by
  rw [Tryd.builtHeader]
  exact fill_fields _ [.int .i64 x0, .int .i64 x1, .int .i64 x2, .int .i64 x3, .agg (bys b4).toArray, .agg (bys b5).toArray, .agg (bys b6).toArray, .int .i64 x7] 0 0 zhead.toArray
    (by refine ⟨rfl, rfl, rfl, rfl, ?_, ?_, ?_, ?_, trivial⟩ <;> simp [Value.cells, bys_len, h4, h5, h6]) (by simp [cellsAll, Value.cells, bys_len, h4, h5, h6, zhead, zb])

set_option maxRecDepth 20000 in
set_option maxHeartbeats 8000000 in
theorem headerOf_any (w0 : World) : ReadsS Tryd.prog w0 23 #[] headerR headerF := by
  intro w _ p A c b ha hF
  obtain ⟨ps, hsp, q0, _, rfl, f0, q1, _, rfl, f1, q2, _, rfl, f2, q3, _, rfl, f3, q4, _, rfl, f4, q5, _, rfl, f5, q6, _, rfl, f6, q7, _, rfl, f7, rfl⟩ := hF
  have hj := join_split b _ hsp
  show Calls _ _ #[.slice A b.length c] _ _
  have hz := Tryd.zeroHeader
  have eI := Go.Proofs.enters_of Tryd.func32 (by kernel_rfl) rfl
  have eJ := Go.Proofs.enters_of Tryd.func40 (by kernel_rfl) rfl
  have eD := Go.Proofs.enters_of Tryd.func42 (by kernel_rfl) rfl
  obtain ⟨W1, hW1⟩ : ∃ W1 : World, W1 = w.alloc (.cells zhead.toArray 25) := ⟨_, rfl⟩
  have hB1 : Below w.heap.size w W1 := by rw [hW1]; exact (Below.refl _ _).alloc (Nat.le_refl _) _
  have hr1 : HB W1 w.heap.size 25 zhead := by rw [hW1]; exact HB.new w _ _
  have hs1 : W1.heap.size = w.heap.size + 1 := by rw [hW1]; simp
  have hop := open_any W1 p A c b _ (ha.later hB1) hsp
  have keptH : ∀ (n : Nat), ∀ R ∈ [numR .i64, numR .i64, numR .i64, numR .i64, digR, digR, digR, numR .i64].take n, Kept R := fun n R hR => headerRs_kept R (List.mem_of_mem_take hR)
  have Hop := Lib.hid hop
  have Hs1 := Lib.hid hs1
  clear hop ha hsp hs1
  go_enter Tryd.func23, Tryd.ntmps23
  go_wp2_with fail
  rw [← hW1]
  clear hW1
  refine Hop.out.mono ?_
  rintro e w2 ⟨G, rfl, r0⟩
  go_wp2_with fail
  have g0 := Got.start W1 w2 G
  refine (next_int_any (numR .i64) (numR_kept _) numF 32 #[] eI W1 w2 (numberOf_int_any w2) G 0 _ r0 (by simp) f0 (by simp)).mono ?_
  rintro e w3 ⟨v, rfl, hv, r1, t1⟩
  have hv : numR .i64 w3 (Within W1 G w3) [v] q0 := hv
  obtain ⟨n0, x0, e1, -, -⟩ := numR_open (.inl rfl) hv
  injection e1 with e1
  subst e1
  have g1 := g0.step (keptH 0) t1 hv
  clear g0 hv t1 f0
  go_wp2_with fail
  refine (next_int_any (numR .i64) (numR_kept _) numF 32 #[] eI W1 w3 (numberOf_int_any w3) G 1 _ r1 (by simp) f1 (by simp)).mono ?_
  rintro e w4 ⟨v, rfl, hv, r2, t2⟩
  have hv : numR .i64 w4 (Within W1 G w4) [v] q1 := hv
  obtain ⟨n1, x1, e1, -, -⟩ := numR_open (.inl rfl) hv
  injection e1 with e1
  subst e1
  have g2 := g1.step (keptH 1) t2 hv
  clear g1 hv t2 f1
  go_wp2_with fail
  refine (next_i64_any (numR .i64) (numR_kept _) numF 40 #[] eJ W1 w4 (numberOf_i64_any w4) G 2 _ r2 (by simp) f2 (by simp)).mono ?_
  rintro e w5 ⟨v, rfl, hv, r3, t3⟩
  have hv : numR .i64 w5 (Within W1 G w5) [v] q2 := hv
  obtain ⟨n2, x2, e1, -, -⟩ := numR_open (.inl rfl) hv
  injection e1 with e1
  subst e1
  have g3 := g2.step (keptH 2) t3 hv
  clear g2 hv t3 f2
  go_wp2_with fail
  refine (next_i64_any (numR .i64) (numR_kept _) numF 40 #[] eJ W1 w5 (numberOf_i64_any w5) G 3 _ r3 (by simp) f3 (by simp)).mono ?_
  rintro e w6 ⟨v, rfl, hv, r4, t4⟩
  have hv : numR .i64 w6 (Within W1 G w6) [v] q3 := hv
  obtain ⟨n3, x3, e1, -, -⟩ := numR_open (.inl rfl) hv
  injection e1 with e1
  subst e1
  have g4 := g3.step (keptH 3) t4 hv
  clear g3 hv t4 f3
  go_wp2_with fail
  refine (next_dig_any digR digR_kept digR_len digF 42 #[] eD W1 w6 (digestOf_any w6) G 4 _ r4 (by simp) f4 (by simp)).mono ?_
  rintro e w7 ⟨cs, rfl, hv, r5, t5⟩
  have hv : digR w7 (Within W1 G w7) cs q4 := hv
  have hl4 : q4.length = 32 := hv.1
  obtain rfl : cs = bys q4 := hv.2
  have g5 := g4.step (keptH 4) t5 hv
  clear g4 hv t5 f4
  go_wp2_with fail
  refine (next_dig_any digR digR_kept digR_len digF 42 #[] eD W1 w7 (digestOf_any w7) G 5 _ r5 (by simp) f5 (by simp)).mono ?_
  rintro e w8 ⟨cs, rfl, hv, r6, t6⟩
  have hv : digR w8 (Within W1 G w8) cs q5 := hv
  have hl5 : q5.length = 32 := hv.1
  obtain rfl : cs = bys q5 := hv.2
  have g6 := g5.step (keptH 5) t6 hv
  clear g5 hv t6 f5
  go_wp2_with fail
  refine (next_dig_any digR digR_kept digR_len digF 42 #[] eD W1 w8 (digestOf_any w8) G 6 _ r6 (by simp) f6 (by simp)).mono ?_
  rintro e w9 ⟨cs, rfl, hv, r7, t7⟩
  have hv : digR w9 (Within W1 G w9) cs q6 := hv
  have hl6 : q6.length = 32 := hv.1
  obtain rfl : cs = bys q6 := hv.2
  have g7 := g6.step (keptH 6) t7 hv
  clear g6 hv t7 f6
  go_wp2_with fail
  refine (next_int_any (numR .i64) (numR_kept _) numF 32 #[] eI W1 w9 (numberOf_int_any w9) G 7 _ r7 (by simp) f7 (by simp)).mono ?_
  rintro e w10 ⟨v, rfl, hv, r8, t8⟩
  have hv : numR .i64 w10 (Within W1 G w10) [v] q7 := hv
  obtain ⟨n7, x7, e1, -, -⟩ := numR_open (.inl rfl) hv
  injection e1 with e1
  subst e1
  have g8 := g7.step (keptH 7) t8 hv
  clear g7 hv t8 f7
  have hbd := built_header x0 x1 x2 x3 x7 q4 q5 q6 hl4 hl5 hl6
  generalize hcs : ([Value.int IntKind.i64 x0] ++ ([Value.int IntKind.i64 x1] ++ ([Value.int IntKind.i64 x2] ++ ([Value.int IntKind.i64 x3] ++ (bys q4 ++ (bys q5 ++ (bys q6 ++ ([Value.int IntKind.i64 x7] ++ [])))))))) = cs at hbd
  have gall := g8.all b hj
  simp only [List.nil_append, List.append_assoc] at gall
  have hcs' : [Value.int IntKind.i64 x0] ++ ([Value.int IntKind.i64 x1] ++ ([Value.int IntKind.i64 x2] ++ ([Value.int IntKind.i64 x3] ++ (bys q4 ++ (bys q5 ++ (bys q6 ++ [Value.int IntKind.i64 x7])))))) = cs := by rw [← hcs, List.append_nil]
  rw [hcs'] at gall
  have hcl : cs.length = 101 := by rw [← hcs]; simp [bys_len, hl4, hl5, hl6]
  have hone : ∀ v ∈ cs, v.oneCell' = true := by
    intro v hv
    rw [← hcs] at hv
    simp only [List.mem_append, List.mem_singleton, List.not_mem_nil, or_false] at hv
    rcases hv with rfl | rfl | rfl | rfl | h | h | h | rfl
    · rfl
    · rfl
    · rfl
    · rfl
    · exact bys_one _ _ h
    · exact bys_one _ _ h
    · exact bys_one _ _ h
    · rfl
  have r9 : Rdr W1 w10 G [q0, q1, q2, q3, q4, q5, q6, q7] [q0, q1, q2, q3, q4, q5, q6, q7].length := r8
  have Hcs := Lib.hid hcs
  have Hbd := Lib.hid hbd
  clear hcs hcs' g8 hbd
  go_wp2_with (refine wpList_buildTo rfl 25 _ rfl _ rfl cs.toArray (by (simp only [List.map_toArray, List.map_cons, List.map_nil]; exact Hbd.out)) ?_)
  refine (done_header_any W1 w10 G _ cs r9 hcl hone).mono ?_
  rintro e w11 ⟨rfl, hB11⟩
  have hBk := r9.below
  have hr11 : HB w11 w.heap.size 25 zhead := (hr1.below hBk (HB.lt hr1)).below hB11 (Nat.lt_of_lt_of_le (HB.lt hr1) hBk.size)
  have hBw : Below w.heap.size w w11 := hB1.trans ((hBk.mono hB1.size).trans (hB11.mono (Nat.le_trans hB1.size hBk.size)))
  have HI : (Tryd.prog.info? 25).map (·.size) = some cs.toArray.size := by rw [List.size_toArray, hcl]; kernel_rfl
  have HS : zhead.toArray.size = cs.toArray.size := by rw [List.size_toArray, List.size_toArray, hcl]; simp [zhead, zb]
  have HA := all_oneCell_toArray hone
  have HI := Lib.hid HI
  have HS := Lib.hid HS
  have HA := Lib.hid HA
  have hE := fun l => of_end (p := p) headerR_kept l Hs1.out gall hB11
  clear gall hone hcl
  go_wp2_with (refine wpList_store_row rfl 25 _ _ rfl w.heap.size cs.toArray rfl rfl 25 _ hr11 HI.out HS.out HA.out ?_)
  refine bodyPost_ret (results_row_tmp rfl _ _ w.heap.size 25 cs.toArray (0, 0) _ rfl (hr11.row _) Tryd.underlying25 rfl HI.out) rfl ?_
  exact ⟨cs, rfl, hE _, Below.setRow_ hBw (Nat.le_refl _) _⟩
end Go.Proofs.YtlkjahfkgfkilaaDoor
