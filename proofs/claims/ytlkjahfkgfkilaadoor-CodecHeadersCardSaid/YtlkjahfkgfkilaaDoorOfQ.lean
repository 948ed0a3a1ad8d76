/- Decoding: a record. -/
import Derived.Test.YtlkjahfkgfkilaaDoorOfR
namespace Go.Proofs.YtlkjahfkgfkilaaDoor
open Go.RowKit

def recordF : Form := strF [numF, lstF numF, lstF (lstF numF)]
theorem recordRs_kept : ∀ R ∈ [numR .i64, numsR, lstR 1 numsR], Kept R := by
  intro R hR
  simp only [List.mem_cons, List.not_mem_nil, or_false] at hR
  rcases hR with rfl | rfl | rfl
  · exact numR_kept _
  · exact lstR_kept (numR_kept _)
  · exact lstR_kept (lstR_kept (numR_kept _))
theorem recordR_kept : Kept recordR := strR_kept recordRs_kept
theorem Tryd.builtRecord : ∀ parts, Tryd.prog.built 35 parts = Instr.fill ([(0, 1), (1, 1), (2, 1)].toArray[·]?) zrec.toArray parts := by intro parts; kernel_rfl
theorem built_record (x0 : Int) (A1 A2 : Option Addr) (n1 c1 n2 c2 : Nat) :
    Tryd.prog.built 35 [(0, .int .i64 x0), (1, .slice A1 n1 c1), (2, .slice A2 n2 c2)] = some [Value.int .i64 x0, .slice A1 n1 c1, .slice A2 n2 c2].toArray := by
  rw [Tryd.builtRecord]
  exact fill_fields _ [.int .i64 x0, .slice A1 n1 c1, .slice A2 n2 c2] 0 0 zrec.toArray ⟨rfl, rfl, rfl, trivial⟩ rfl

set_option maxRecDepth 20000 in
set_option maxHeartbeats 8000000 in
theorem recordOf_any (w0 : World) : ReadsS Tryd.prog w0 18 #[] recordR recordF := by
  intro w _ p A c b ha hF
  obtain ⟨ps, hsp, q0, _, rfl, f0, q1, _, rfl, f1, q2, _, rfl, f2, rfl⟩ := hF
  have hj := join_split b _ hsp
  show Calls _ _ #[.slice A b.length c] _ _
  have hz := Tryd.zeroRecord
  have eI := Go.Proofs.enters_of Tryd.func32 (by kernel_rfl) rfl
  have eN := Go.Proofs.enters_of Tryd.func34 (by kernel_rfl) rfl
  have eC := Go.Proofs.enters_of Tryd.func52 (by kernel_rfl) rfl
  obtain ⟨W1, hW1⟩ : ∃ W1 : World, W1 = w.alloc (.cells zrec.toArray 35) := ⟨_, rfl⟩
  have hB1 : Below w.heap.size w W1 := by rw [hW1]; exact (Below.refl _ _).alloc (Nat.le_refl _) _
  have hr1 : HB W1 w.heap.size 35 zrec := by rw [hW1]; exact HB.new w _ _
  have hs1 : W1.heap.size = w.heap.size + 1 := by rw [hW1]; simp
  have hop := open_any W1 p A c b _ (ha.later hB1) hsp
  have keptR : ∀ (n : Nat), ∀ R ∈ [numR .i64, numsR, lstR 1 numsR].take n, Kept R := fun n R hR => recordRs_kept R (List.mem_of_mem_take hR)
  have Hop := Lib.hid hop
  have Hs1 := Lib.hid hs1
  clear hop ha hsp hs1
  go_enter Tryd.func18, Tryd.ntmps18
  go_wp2_with fail
  rw [← hW1]
  clear hW1
  refine Hop.out.mono ?_
  rintro e w2 ⟨G, rfl, r0⟩
  go_wp2_with fail
  have g0 := Got.start W1 w2 G
  refine (next_int_any (numR .i64) (numR_kept _) numF 32 #[] eI W1 w2 (numberOf_int_any w2) G 0 _ r0 (by simp) f0 (by simp)).mono ?_
  rintro e w3 ⟨v, rfl, hv, r1, t1⟩
  have hv : numR .i64 w3 (Within W1 G w3) [v] q0 := hv
  obtain ⟨n0, x0, e1, -, -⟩ := numR_open (.inl rfl) hv
  injection e1 with e1
  subst e1
  have g1 := g0.step (keptR 0) t1 hv
  clear g0 hv t1 f0
  go_wp2_with fail
  refine (next_ints_any numsR (lstR_kept (numR_kept _)) (lstF numF) 34 #[] eN W1 w3 (numbersOf_any w3) G 1 _ r1 (by simp) f1 (by simp)).mono ?_
  rintro e w4 ⟨v, rfl, hv, r2, t2⟩
  have hv : numsR w4 (Within W1 G w4) [v] q1 := hv
  obtain ⟨A1, m1, c1, rfl⟩ := lstR_shape _ _ _ _ hv
  have g2 := g1.step (keptR 1) t2 hv
  clear g1 hv t2 f1
  go_wp2_with fail
  refine (listOf_ints_any _ rfl w4).mono ?_
  rintro e w5 ⟨rfl, hw5⟩
  have hB5 : Below w4.heap.size w4 w5 := by rw [hw5]; exact (Below.refl _ _).alloc (Nat.le_refl _) _
  have hc5 : w5.cell? ⟨w4.heap.size, 0, none⟩ = some (.func (.func 34) #[] #[]) := by rw [hw5, boxed]; rfl
  have hl5 : w4.heap.size < w5.heap.size := by rw [hw5]; simp
  have r2' := r2.later (hB5.mono r2.lt)
  have g2' : Got W1 w5 G ([numR .i64, numsR, lstR 1 numsR].take 2) _ _ := Fields.kept (keptR 2) (Same.of_below hB5 (fun t ht => ht.2.2)) (Within.more hB5.size) g2
  clear r2 g2 hw5
  go_wp2_with fail
  refine (next_intss_any (lstR 1 numsR) (lstR_kept (lstR_kept (numR_kept _))) (lstF (lstF numF)) 52 #[.pointer (some ⟨w4.heap.size, 0, none⟩)] eC W1 w5 (listOf_ints_clo w5 w4.heap.size hl5 hc5) G 2 _ r2' (by simp) f2 (by simp)).mono ?_
  rintro e w6 ⟨v, rfl, hv, r3, t3⟩
  have hv : lstR 1 numsR w6 (Within W1 G w6) [v] q2 := hv
  obtain ⟨A2, m2, c2, rfl⟩ := lstR_shape _ _ _ _ hv
  have g3 := g2'.step (keptR 2) t3 hv
  clear g2' hv t3 f2 hB5 hc5
  have gall : recordR w6 (Within W1 G w6) [.int .i64 x0, .slice A1 m1 c1, .slice A2 m2 c2] b := g3.all b hj
  have hbd := built_record x0 A1 A2 m1 c1 m2 c2
  generalize hcs : [Value.int IntKind.i64 x0, Value.slice A1 m1 c1, Value.slice A2 m2 c2] = cs at hbd gall
  have hcl : cs.length = 3 := by rw [← hcs]; rfl
  have hone : ∀ v ∈ cs, v.oneCell' = true := by
    intro v hv
    rw [← hcs] at hv
    simp only [List.mem_cons, List.not_mem_nil, or_false] at hv
    rcases hv with rfl | rfl | rfl <;> rfl
  have r9 : Rdr W1 w6 G [q0, q1, q2] [q0, q1, q2].length := r3
  have Hbd := Lib.hid hbd
  clear hcs g3 hbd
  go_wp2_with (refine wpList_buildTo rfl 35 _ rfl _ rfl cs.toArray (by (simp only [List.map_toArray, List.map_cons, List.map_nil]; exact Hbd.out)) ?_)
  refine (done_record_any W1 w6 G _ cs r9 hcl hone).mono ?_
  rintro e w11 ⟨rfl, hB11⟩
  have hBk := r9.below
  have hr11 : HB w11 w.heap.size 35 zrec := (hr1.below hBk (HB.lt hr1)).below hB11 (Nat.lt_of_lt_of_le (HB.lt hr1) hBk.size)
  have hBw : Below w.heap.size w w11 := hB1.trans ((hBk.mono hB1.size).trans (hB11.mono (Nat.le_trans hB1.size hBk.size)))
  have HI : (Tryd.prog.info? 35).map (·.size) = some cs.toArray.size := by rw [List.size_toArray, hcl]; kernel_rfl
  have HS : zrec.toArray.size = cs.toArray.size := by rw [List.size_toArray, List.size_toArray, hcl]; rfl
  have HA := all_oneCell_toArray hone
  have HI := Lib.hid HI
  have HS := Lib.hid HS
  have HA := Lib.hid HA
  have hE := fun l => of_end (p := p) recordR_kept l Hs1.out gall hB11
  clear gall hone hcl
  go_wp2_with (refine wpList_store_row rfl 35 _ _ rfl w.heap.size cs.toArray rfl rfl 35 _ hr11 HI.out HS.out HA.out ?_)
  refine bodyPost_ret (results_row_tmp rfl _ _ w.heap.size 35 cs.toArray (0, 0) _ rfl (hr11.row _) Tryd.underlying35 rfl HI.out) rfl ?_
  exact ⟨cs, rfl, hE _, Below.setRow_ hBw (Nat.le_refl _) _⟩
end Go.Proofs.YtlkjahfkgfkilaaDoor
