/- wapentakelaw03.MerkleComplete: the law returns true. -/
import Derived.Test.YtdghklgfdhbkpaaDoorMvB
import Derived.Deep.LoopGhost
namespace Go.Proofs.YtdghklgfdhbkpaaDoor
open Go.RowKit

set_option maxRecDepth 20000 in
set_option maxHeartbeats 6400000 in
theorem complete_any (haw : ∀ W : World, Consts W → Calls Tryd.prog 9 #[] W fun e w' => e = .returned (.bool true) ∧ Below W.heap.size W w') (B : Nat) (A : Option Addr) (c : Nat) (vs : List Value) (ls : List (List UInt8)) (w : World) (hW : LsW w B A c vs ls) :
    Calls Tryd.prog 5 #[.slice A ls.length c] w fun e w' => e = .returned (.bool true) ∧ Below w.heap.size w w' := by
  have hz := Tryd.zeroDig
  have hcap := hW.cap
  have hAW := Lib.hid (haw w hW.consts)
  clear haw
  go_enter Tryd.func5, Tryd.ntmps5
  go_wp2_with fail
  refine hAW.out.mono ?_
  rintro e w1 ⟨rfl, hB1⟩
  have hW1 := hW.below hB1
  have hRT := Lib.hid (rootOf_any B A c vs ls w1 hW1.sees hW1.lists hW1.hB hW1.small (by omega) hW1.consts)
  have HW := Lib.hid hW
  have HB1 := Lib.hid hB1
  clear hAW hW hB1 hW1
  go_wp2_with fail
  refine hRT.out.mono ?_
  rintro e w2 ⟨rfl, hB2⟩
  have hd2 := HB.new w2 28 zdig
  have lRT : (rootF ls).length = 32 := shaF_len _
  have HI := dig_info lRT
  have HS := dig_size lRT
  have HA := dig_one (rootF ls)
  have hr := hd2.row (bys (rootF ls)).toArray
  have hb2 : Below w.heap.size w ((w2.alloc (.cells zdig.toArray 28)).setRow w2.heap.size (bys (rootF ls)).toArray) := HB1.out.trans ((hB2.trans ((Below.setRow_ (below_alloc1 w2 _) (Nat.le_refl _) _).mono hB2.size)).mono HB1.out.size)
  have HR := Lib.hid hr
  have HB2 := Lib.hid hb2
  clear hr hb2 hB2 hRT
  generalize hrt : rootF ls = RT at *
  have HRT := Lib.hid hrt
  clear hrt
  go_wp2_with (refine wpList_store_row rfl 28 _ _ rfl w2.heap.size (bys RT).toArray rfl rfl 28 _ hd2 HI.out HS.out HA.out ?_)
  clear hd2 HI HS HA
  generalize (w2.alloc (.cells zdig.toArray 28)).setRow w2.heap.size (bys RT).toArray = w3 at *
  generalize w2.heap.size = gr at *
  go_loopg [4, 5, 6] ls.length (fun g i _ _ wr => ∃ k : Nat, k ≤ ls.length ∧ g + k = ls.length ∧ i = .int .i64 (k : Int) ∧ Below w3.heap.size w3 wr)
  case atStart => exact ⟨0, by omega, by omega, rfl, Below.refl _ _⟩
  case round =>
    obtain ⟨k, hk, hg, rfl, hBr⟩ := hrel
    by_cases hlt : k < ls.length
    · by_cases h200 : k < 200
      · have hkk : (k : Int) < ls.length := by omega
        have hk2 : (k : Int) < 200 := by omega
        have hb3r : Below w.heap.size w wr := HB2.out.trans (hBr.mono HB2.out.size)
        have hWr := HW.out.below hb3r
        have hpy := Lib.hid (prove_yes k B A c vs ls wr hWr hlt)
        have HWR := Lib.hid hWr
        have HBR := Lib.hid hBr
        clear hWr hBr hb3r
        go_wp2_with fail
        refine hpy.out.mono ?_
        rintro e W1 ⟨v1, rfl, ho1, hB1⟩
        obtain ⟨A4, c4, rfl, hc4, hcm4, -, -⟩ := own_slice ho1
        have hP := path_own ho1 (pathF_32 ls k) (by have := pathF_len ls k; omega)
        have hWv := HWR.out.below hB1
        obtain ⟨ad, rfl, had, hx⟩ := hWv.sees.some_ (by omega)
        obtain ⟨Ae, ce, h1, -⟩ := hWv.lists.at_ hlt
        have hxk := hx k _ h1
        have hrW : HB W1 gr 28 (bys RT) := HR.out.below (HBR.out.trans (hB1.mono HBR.out.size)) HR.out.lt
        have hBW1 := HBR.out.trans (hB1.mono HBR.out.size)
        have hS : ∀ a : World, Below W1.heap.size W1 a → (Below W1.heap.size W1 a ∧ a.cell? (ad.add k) = some (.slice Ae (ls[k]'hlt).length ce) ∧ a.rangeAt gr 0 (bys RT)) := fun a h => ⟨h, (h.cell (by rw [add_block]; exact Nat.lt_of_lt_of_le had hWv.hB)).trans hxk, fun j u hu => (h.cell (p := ⟨gr, 0 + j, none⟩) hrW.lt).trans (by rw [Nat.zero_add, hrW.cell]; exact hu)⟩
        have hK0 := hS _ (Below.drew (Below.refl _ _))
        have hvf : ∀ a : World, (Below W1.heap.size W1 a ∧ a.cell? (ad.add k) = some (.slice Ae (ls[k]'hlt).length ce) ∧ a.rangeAt gr 0 (bys RT)) → Hid (Calls Tryd.prog 15 #[.agg (bys RT).toArray, .int .i64 (ls.length : Int), .int .i64 (k : Int), .slice Ae (ls[k]'hlt).length ce, .slice A4 (pathF ls k).length c4] a fun en w' => en = .returned (.bool true) ∧ Below a.heap.size a w') := fun a h => by
          have hp := hP.below h.1
          have hv := verify_proved k B (some ad) c vs ls a (hWv.below h.1) hlt A4 c4 ⟨hp.sees.wide h.1.size, hp.len, hp.cap, Nat.le_refl _⟩ Ae ce h1
          rw [HRT.out] at hv
          exact hv
        have HVF := Lib.hid hvf
        have hKL : ∀ a b : World, (Below W1.heap.size W1 a ∧ a.cell? (ad.add k) = some (.slice Ae (ls[k]'hlt).length ce) ∧ a.rangeAt gr 0 (bys RT)) → Below a.heap.size a b → (Below W1.heap.size W1 b ∧ b.cell? (ad.add k) = some (.slice Ae (ls[k]'hlt).length ce) ∧ b.rangeAt gr 0 (bys RT)) := fun a b h k => hS b (h.1.trans (k.mono h.1.size))
        have HKL := Lib.hid hKL
        have HBW1 := Lib.hid hBW1
        have hu28 := Tryd.underlying28
        have hi1 : (Tryd.prog.info? 28).map (·.size) = some (bys RT).length := by rw [bys_len, lRT]; exact Tryd.infoD
        clear hvf hS hKL hpy ho1 hP hWv hx hxk hrW hB1 hBW1 h1
        generalize (pathF ls k).length = np at *
        go_wp2_with fail
        go_region_held3 (fun w' => (Below W1.heap.size W1 w' ∧ w'.cell? (ad.add k) = some (.slice Ae (ls[k]'hlt).length ce) ∧ w'.rangeAt gr 0 (bys RT)))
          (first | exact hK0 | exact HKL.out _ _ (by assumption) hB)
          (first
            | (go_at_call 15; refine (HVF.out _ (by assumption)).out.mono ?_; rintro en w' ⟨rfl, hB⟩))
        have hfin : Below w3.heap.size w3 _ := HBW1.out.trans (((Below.drew (Below.refl W1.heap.size W1)).trans hB).mono HBW1.out.size)
        have HF := Lib.hid hfin
        clear hfin hB hK0
        go_wp2
        go_roundg (ls.length - (k + 1))
        case measure => omega
        case rel => exact ⟨k + 1, by omega, by omega, by go_num, HF.out⟩
      · have hkk : (k : Int) < ls.length := by omega
        have hk2 : (200 : Int) ≤ (k : Int) := by omega
        have hfin := HB2.out.trans (hBr.mono HB2.out.size)
        go_wp2
        go_ret
        exact ⟨rfl, hfin⟩
    · have hkk : (ls.length : Int) ≤ (k : Int) := by omega
      have hfin := HB2.out.trans (hBr.mono HB2.out.size)
      go_wp2
      go_ret
      exact ⟨rfl, hfin⟩
end Go.Proofs.YtdghklgfdhbkpaaDoor
