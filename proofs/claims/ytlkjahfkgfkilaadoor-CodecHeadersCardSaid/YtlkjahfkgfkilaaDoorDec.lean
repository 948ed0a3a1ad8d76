/- Decoding: decode, where all is well. -/
import Derived.Test.YtlkjahfkgfkilaaDoorOfH
import Derived.Test.YtlkjahfkgfkilaaDoorOfQ
namespace Go.Proofs.YtlkjahfkgfkilaaDoor
open Go.RowKit

theorem dec_end {R : Rel} (hR : Kept R) {w W2 w3 w5 : World} {p : Nat → Prop} {cs : List Value} {b : List UInt8} (l : Array Value) (hold : ∀ k, p k → k < w.heap.size) (hs2 : W2.heap.size = w.heap.size + 2) (h : R w3 (Since W2 p w3) cs b) (hB : Below w3.heap.size w3 w5) :
    R (w5.setRow w.heap.size l) (Since w p (w5.setRow w.heap.size l)) cs b := by
  have hne : ∀ t, Since W2 p w3 t → t ≠ w.heap.size := fun t ht => by
    rcases ht.1 with h1 | h1
    · have := hold t h1; omega
    · omega
  refine hR _ _ _ _ _ _ h (fun a ha => ?_) (fun i hi => ⟨hi.1.imp id (fun h => by omega), by have h1 := hi.2; have h2 := hB.size; simp [World.setRow]; omega⟩)
  have h1 : (w5.setRow w.heap.size l).heap[a.block]? = w5.heap[a.block]? := by
    simp only [World.setRow, Array.getElem?_modify]
    rw [if_neg (fun e => hne _ ha e.symm)]
  rw [World.cell?_of_block h1, hB.cell ha.2]

set_option maxRecDepth 20000 in
set_option maxHeartbeats 4000000 in
theorem decode_header_ok (s : ByteArray) (R : Rel) (hR : Kept R) (hlen : ∀ w p cs b, R w p cs b → cs.length = 101 ∧ ∀ v ∈ cs, v.oneCell' = true) (F : Form) (g : Nat) (eg : ∀ args w, (callFunc g args).run Tryd.prog w = .ok (.enter g args) w) (w : World) (hof : ReadsS Tryd.prog w g #[] R F)
    (p : Nat → Prop) (A : Option Addr) (c : Nat) (b : List UInt8) (ha : Arg w p A c b) (hF : F b) (hmax : b.length ≤ 262144) :
    Calls Tryd.prog 22 #[.string s, .slice A b.length c, .func (.func g) #[] #[]] w (ReadS w p R b) := by
  have hz := Tryd.zeroHeader
  obtain ⟨W2, hW2⟩ : ∃ W2 : World, W2 = (w.alloc (.cells zhead.toArray 25)).alloc (.cells zhead.toArray 25) := ⟨_, rfl⟩
  have hB2 : Below w.heap.size w W2 := by rw [hW2]; exact ((Below.refl _ _).alloc (Nat.le_refl _) _).alloc (by simp) _
  have hr2 : HB W2 w.heap.size 25 zhead := by rw [hW2]; exact (HB.new w _ _).alloc _
  have hs2 : W2.heap.size = w.heap.size + 2 := by rw [hW2]; simp
  have hcall : Calls Tryd.prog g #[.slice A b.length c] W2 (ReadS W2 p R b) := hof W2 hB2 p A c b (ha.later hB2) hF
  have hcall := Lib.hid hcall
  have hmax' : ¬ (262144 : Int) < (b.length : Int) := by omega
  have hold := ha.old
  have Hs2 := Lib.hid hs2
  clear hof hF ha hs2
  go_enter Tryd.func22, Tryd.ntmps22
  go_wp2_with fail
  rw [← hW2]
  clear hW2
  refine hcall.out.mono ?_
  rintro e w3 ⟨cs, rfl, hv, hB3⟩
  obtain ⟨hcl, hone⟩ := hlen _ _ _ _ hv
  have hs2 := Hs2.out
  have hs3 := hB3.size
  have HI : (Tryd.prog.info? 25).map (·.size) = some cs.toArray.size := by rw [List.size_toArray, hcl]; kernel_rfl
  have HS : zhead.toArray.size = cs.toArray.size := by rw [List.size_toArray, List.size_toArray, hcl]; simp [zhead, zb]
  have HA := Lib.hid (all_oneCell_toArray hone)
  have HI := Lib.hid HI
  have HS := Lib.hid HS
  have hr3 : HB w3 w.heap.size 25 zhead := hr2.below hB3 (HB.lt hr2)
  have hr4 : HB (w3.alloc (.cells zhead.toArray 25)) w.heap.size 25 zhead := hr3.alloc _
  have hn4 : HB (w3.alloc (.cells zhead.toArray 25)) w3.heap.size 25 zhead := HB.new w3 _ _
  have hn5 : HB ((w3.alloc (.cells zhead.toArray 25)).setRow w3.heap.size cs.toArray) w3.heap.size 25 cs := hn4.row _
  have hr5 : HB ((w3.alloc (.cells zhead.toArray 25)).setRow w3.heap.size cs.toArray) w.heap.size 25 zhead := hr4.below (Below.setRow_ (B := w3.heap.size) (Below.refl _ _) (Nat.le_refl _) _) (by omega)
  have hB5 : Below w3.heap.size w3 ((w3.alloc (.cells zhead.toArray 25)).setRow w3.heap.size cs.toArray) := Below.setRow_ ((Below.refl _ _).alloc (Nat.le_refl _) _) (Nat.le_refl _) _
  have hBw : Below w.heap.size w ((w3.alloc (.cells zhead.toArray 25)).setRow w3.heap.size cs.toArray) := hB2.trans ((hB3.mono hB2.size).trans (hB5.mono (by omega)))
  have hE := fun l => dec_end hR (p := p) (b := b) (cs := cs) l hold hs2 hv hB5
  clear hone hcl hv hr2 hr3 hs2 hs3
  go_wp2_with (first
    | (refine wpList_store_row rfl 25 _ _ rfl w3.heap.size cs.toArray rfl rfl 25 _ hn4 HI.out HS.out HA.out ?_)
    | (refine wpList_load_row rfl 25 _ rfl w3.heap.size rfl 25 cs.toArray (0, 0) _ hn5 Tryd.underlying25 rfl HI.out ?_)
    | (refine wpList_store_row rfl 25 _ _ rfl w.heap.size cs.toArray rfl rfl 25 _ hr5 HI.out HS.out HA.out ?_))
  refine bodyPost_ret (results_row_tmp rfl _ _ w.heap.size 25 cs.toArray (0, 0) _ rfl (hr5.row _) Tryd.underlying25 rfl HI.out) rfl ?_
  exact ⟨cs, rfl, hE _, Below.setRow_ hBw (Nat.le_refl _) _⟩

set_option maxRecDepth 20000 in
set_option maxHeartbeats 4000000 in
theorem decode_record_ok (s : ByteArray) (R : Rel) (hR : Kept R) (hlen : ∀ w p cs b, R w p cs b → cs.length = 3 ∧ ∀ v ∈ cs, v.oneCell' = true) (F : Form) (g : Nat) (eg : ∀ args w, (callFunc g args).run Tryd.prog w = .ok (.enter g args) w) (w : World) (hof : ReadsS Tryd.prog w g #[] R F)
    (p : Nat → Prop) (A : Option Addr) (c : Nat) (b : List UInt8) (ha : Arg w p A c b) (hF : F b) (hmax : b.length ≤ 262144) :
    Calls Tryd.prog 17 #[.string s, .slice A b.length c, .func (.func g) #[] #[]] w (ReadS w p R b) := by
  have hz := Tryd.zeroRecord
  obtain ⟨W2, hW2⟩ : ∃ W2 : World, W2 = (w.alloc (.cells zrec.toArray 35)).alloc (.cells zrec.toArray 35) := ⟨_, rfl⟩
  have hB2 : Below w.heap.size w W2 := by rw [hW2]; exact ((Below.refl _ _).alloc (Nat.le_refl _) _).alloc (by simp) _
  have hr2 : HB W2 w.heap.size 35 zrec := by rw [hW2]; exact (HB.new w _ _).alloc _
  have hs2 : W2.heap.size = w.heap.size + 2 := by rw [hW2]; simp
  have hcall : Calls Tryd.prog g #[.slice A b.length c] W2 (ReadS W2 p R b) := hof W2 hB2 p A c b (ha.later hB2) hF
  have hcall := Lib.hid hcall
  have hmax' : ¬ (262144 : Int) < (b.length : Int) := by omega
  have hold := ha.old
  have Hs2 := Lib.hid hs2
  clear hof hF ha hs2
  go_enter Tryd.func17, Tryd.ntmps17
  go_wp2_with fail
  rw [← hW2]
  clear hW2
  refine hcall.out.mono ?_
  rintro e w3 ⟨cs, rfl, hv, hB3⟩
  obtain ⟨hcl, hone⟩ := hlen _ _ _ _ hv
  have hs2 := Hs2.out
  have hs3 := hB3.size
  have HI : (Tryd.prog.info? 35).map (·.size) = some cs.toArray.size := by rw [List.size_toArray, hcl]; kernel_rfl
  have HS : zrec.toArray.size = cs.toArray.size := by rw [List.size_toArray, List.size_toArray, hcl]; rfl
  have HA := Lib.hid (all_oneCell_toArray hone)
  have HI := Lib.hid HI
  have HS := Lib.hid HS
  have hr3 : HB w3 w.heap.size 35 zrec := hr2.below hB3 (HB.lt hr2)
  have hr4 : HB (w3.alloc (.cells zrec.toArray 35)) w.heap.size 35 zrec := hr3.alloc _
  have hn4 : HB (w3.alloc (.cells zrec.toArray 35)) w3.heap.size 35 zrec := HB.new w3 _ _
  have hn5 : HB ((w3.alloc (.cells zrec.toArray 35)).setRow w3.heap.size cs.toArray) w3.heap.size 35 cs := hn4.row _
  have hr5 : HB ((w3.alloc (.cells zrec.toArray 35)).setRow w3.heap.size cs.toArray) w.heap.size 35 zrec := hr4.below (Below.setRow_ (B := w3.heap.size) (Below.refl _ _) (Nat.le_refl _) _) (by omega)
  have hB5 : Below w3.heap.size w3 ((w3.alloc (.cells zrec.toArray 35)).setRow w3.heap.size cs.toArray) := Below.setRow_ ((Below.refl _ _).alloc (Nat.le_refl _) _) (Nat.le_refl _) _
  have hBw : Below w.heap.size w ((w3.alloc (.cells zrec.toArray 35)).setRow w3.heap.size cs.toArray) := hB2.trans ((hB3.mono hB2.size).trans (hB5.mono (by omega)))
  have hE := fun l => dec_end hR (p := p) (b := b) (cs := cs) l hold hs2 hv hB5
  clear hone hcl hv hr2 hr3 hs2 hs3
  go_wp2_with (first
    | (refine wpList_store_row rfl 35 _ _ rfl w3.heap.size cs.toArray rfl rfl 35 _ hn4 HI.out HS.out HA.out ?_)
    | (refine wpList_load_row rfl 35 _ rfl w3.heap.size rfl 35 cs.toArray (0, 0) _ hn5 Tryd.underlying35 rfl HI.out ?_)
    | (refine wpList_store_row rfl 35 _ _ rfl w.heap.size cs.toArray rfl rfl 35 _ hr5 HI.out HS.out HA.out ?_))
  refine bodyPost_ret (results_row_tmp rfl _ _ w.heap.size 35 cs.toArray (0, 0) _ rfl (hr5.row _) Tryd.underlying35 rfl HI.out) rfl ?_
  exact ⟨cs, rfl, hE _, Below.setRow_ hBw (Nat.le_refl _) _⟩
end Go.Proofs.YtlkjahfkgfkilaaDoor
