/- sha.schedule: the sixty-four words of a block. -/
import Derived.Test.YtapbaonlboefeaaDoorShaX
import Derived.Test.YtapbaonlboefeaaDoorSet
import Derived.StillTailTactics
import Derived.IntWalk
namespace Go.Proofs.YtapbaonlboefeaaDoor
open Go.RowKit

def us (l : List UInt32) : List Value := l.map u32_
theorem us_get (l : List UInt32) (i : Nat) (h : i < l.length) : (us l)[i]? = some (.int .u32 ((l.getD i 0).toNat : Int)) := by
  simp [us, List.getElem?_eq_getElem h]
/-- The next word of a schedule. -/
def nextW (l : List UInt32) : UInt32 :=
  wa (wa (wa (little1 (l.getD (l.length - 2) 0)) (l.getD (l.length - 7) 0)) (little0 (l.getD (l.length - 15) 0))) (l.getD (l.length - 16) 0)
theorem nextW_at (l : List UInt32) (t : Nat) (h : l.length = t) : nextW l = wa (wa (wa (little1 (l.getD (t - 2) 0)) (l.getD (t - 7) 0)) (little0 (l.getD (t - 15) 0))) (l.getD (t - 16) 0) := by subst h; rfl
theorem us_one (l : List UInt32) : ((us l).toArray).all (·.oneCell') = true := by
  rw [Array.all_eq_true_iff_forall_mem]
  intro v hv
  simp only [us, List.mem_toArray, List.mem_map] at hv
  obtain ⟨x, _, rfl⟩ := hv
  rfl
theorem us_len (l : List UInt32) : (us l).length = l.length := by simp [us]
theorem Tryd.infoW64 : (Tryd.prog.info? 130).map (·.size) = some 64 := by kernel_rfl
def moreW : Nat → List UInt32 → List UInt32
  | 0, l => l
  | n + 1, l => moreW n l ++ [nextW (moreW n l)]
theorem moreW_len (n : Nat) (l : List UInt32) : (moreW n l).length = l.length + n := by
  induction n with
  | zero => rfl
  | succ n ih => simp [moreW, ih]; omega
def firstW (l : List UInt8) (k : Nat) : List UInt32 := (List.range k).map fun i => wordAt l (4 * i)
theorem firstW_len (l : List UInt8) (k : Nat) : (firstW l k).length = k := by simp [firstW]
theorem firstW_succ (l : List UInt8) (k : Nat) : firstW l (k + 1) = firstW l k ++ [wordAt l (4 * k)] := by simp [firstW, List.range_succ]
def scheduleF (l : List UInt8) : List UInt32 := moreW 48 (firstW l 16)
theorem scheduleF_len (l : List UInt8) : (scheduleF l).length = 64 := by rw [scheduleF, moreW_len, firstW_len]
/-- Words, and noughts up to so many. -/
def upTo (n : Nat) (l : List UInt32) : List Value := us (l ++ List.replicate (n - l.length) 0)
theorem upTo_len (n : Nat) (l : List UInt32) (h : l.length ≤ n) : (upTo n l).length = n := by simp [upTo, us]; omega
theorem upTo_get (n : Nat) (l : List UInt32) (i : Nat) (h : i < l.length) : (upTo n l)[i]? = some (.int .u32 ((l.getD i 0).toNat : Int)) := by
  unfold upTo
  rw [us_get _ _ (by simp; omega)]
  simp [List.getElem?_append_left h]
theorem upTo_in (n : Nat) (l : List UInt32) (i : Nat) (h : i < n) (hl : l.length ≤ n) : ∃ v, (upTo n l)[i]? = some v := ⟨_, List.getElem?_eq_getElem (by rw [upTo_len n l hl]; exact h)⟩
theorem upTo_set (n : Nat) (l : List UInt32) (x : UInt32) (h : l.length < n) : (upTo n l).set l.length (.int .u32 (x.toNat : Int)) = upTo n (l ++ [x]) := by
  unfold upTo us
  have e : n - l.length = (n - (l ++ [x]).length) + 1 := by simp; omega
  rw [e, List.replicate_succ]
  simp
theorem upTo_full (n : Nat) (l : List UInt32) (h : l.length = n) : upTo n l = us l := by simp [upTo, h]
theorem upTo_nil (n : Nat) : upTo n [] = List.replicate n (.int .u32 0) := by simp [upTo, us]

section
attribute [local go_sem] u_add
set_option maxRecDepth 100000 in
set_option maxHeartbeats 1600000 in
theorem schedule_any (B : Nat) (A : Option Addr) (c : Nat) (l : List UInt8) (w : World) (hs : Sees w B 1 A 64 (bys l)) (hB : B ≤ w.heap.size) (hc : 64 ≤ c) (hcm : c ≤ 9223372036854775807) :
    Calls Tryd.prog 77 #[.slice A 64 c] w fun e w' => e = .returned (.agg (us (scheduleF l)).toArray) ∧ Below w.heap.size w w' := by
  go_enter Tryd.func77, Tryd.ntmps77
  go_wp2
  go_loopw [4, 6] (fun _ i wr => ∃ k : Nat, k ≤ 16 ∧ i = .int .i64 (k : Int) ∧ HB wr w.heap.size 130 (upTo 64 []) ∧ HB wr (w.heap.size + 1) 130 (upTo 64 (firstW l k)) ∧ Below w.heap.size w wr) (fun _ i _ => 16 - (intOf i).toNat)
  case atStart =>
    refine ⟨0, by omega, rfl, ?_, ?_, ((Below.refl _ _).alloc (Nat.le_refl _) _).alloc (by simp) _⟩
    · exact heap_alloc2_old _ _ _
    · exact heap_alloc2_new _ _ _
  case round =>
    obtain ⟨k, hk, rfl, hz, hw, hBw⟩ := hrel
    rcases Nat.lt_or_ge k 16 with hlt | hge
    · have hd := (hs.below (hBw.mono hB)).drop (k := 4 * k) (cap := c) (by omega) (by omega)
      have hd' : Sees wr B 1 (A.map (·.add (4 * k))) (64 - 4 * k) (bys (l.drop (4 * k))) := by
        rw [if_neg (by omega), Nat.mul_one] at hd; unfold bys at hd ⊢; rw [List.map_drop]; exact hd
      have hcell : ∃ v, wr.cell? ⟨w.heap.size + 1, k, none⟩ = some v := by
        rw [hw.cell]; exact upTo_in _ _ _ (by omega) (by rw [firstW_len]; omega)
      obtain ⟨v0, hv0⟩ := hcell
      have hf := hw.frozen k
      clear hd
      go_wp2_with fail
      refine (word_see B _ _ _ (l.drop (4 * k)) wr hd' (by omega)).mono ?_
      rintro e w2 ⟨rfl, d, rfl⟩
      have hw2 := (hw.drewN d).set_ k (.int .u32 ((wordAt l (4 * k)).toNat : Int))
      have hz2 := ((hz.drewN d).far (p := ⟨w.heap.size + 1, k, none⟩) (by simp) (.int .u32 ((wordAt l (4 * k)).toNat : Int)))
      have hB2 := (below_drewN_ hBw d).setCell (p := ⟨w.heap.size + 1, k, none⟩) (by simp) (.int .u32 ((wordAt l (4 * k)).toNat : Int))
      have hup := upTo_set 64 (firstW l k) (wordAt l (4 * k)) (by rw [firstW_len]; omega)
      rw [firstW_len, ← firstW_succ] at hup
      rw [hup] at hw2
      have hwd := Lib.hid (wordAt_drop l (4 * k))
      clear hup hd'
      go_wp2
      go_roundw
      case rel => rw [hwd.out]; exact ⟨k + 1, by omega, by go_num, hz2, hw2, hB2⟩
      case measure => simp [intOf]; omega
    · have hk16 : firstW l k = firstW l 16 := by rw [show k = 16 from by omega]
      rw [hk16] at hw
      clear hk16
      have hk1 : (16 : Int) ≤ k := by omega
      go_wp2
      go_loopw [5] (fun i wr => ∃ t : Nat, 16 ≤ t ∧ t ≤ 64 ∧ i = .int .i64 (t : Int) ∧ HB wr w.heap.size 130 (upTo 64 []) ∧ HB wr (w.heap.size + 1) 130 (upTo 64 (moreW (t - 16) (firstW l 16))) ∧ Below w.heap.size w wr) (fun i _ => 64 - (intOf i).toNat)
      case atStart => exact ⟨16, by omega, by omega, rfl, hz, hw, hBw⟩
      case round =>
        obtain ⟨t, ht0, ht, rfl, hz, hw, hBw⟩ := hrel
        have hlen : (moreW (t - 16) (firstW l 16)).length = t := by rw [moreW_len, firstW_len]; omega
        rcases Nat.lt_or_ge t 64 with hlt | hge
        · have hsucc : moreW (t + 1 - 16) (firstW l 16) = moreW (t - 16) (firstW l 16) ++ [nextW (moreW (t - 16) (firstW l 16))] := by
            rw [show t + 1 - 16 = (t - 16) + 1 from by omega]; rfl
          have hset := upTo_set 64 (moreW (t - 16) (firstW l 16)) (nextW (moreW (t - 16) (firstW l 16))) (by omega)
          rw [← hsucc, hlen] at hset
          have hset := Lib.hid hset
          have hnx := Lib.hid (nextW_at _ t hlen)
          clear hsucc
          generalize hws : moreW (t - 16) (firstW l 16) = ws at *
          have hws := Lib.hid hws
          have c2 := (hw.cell (t - 2)).trans (upTo_get 64 ws (t - 2) (by omega))
          have c7 := (hw.cell (t - 7)).trans (upTo_get 64 ws (t - 7) (by omega))
          have c15 := (hw.cell (t - 15)).trans (upTo_get 64 ws (t - 15) (by omega))
          have c16 := (hw.cell (t - 16)).trans (upTo_get 64 ws (t - 16) (by omega))
          have hcell : ∃ v, wr.cell? ⟨w.heap.size + 1, t, none⟩ = some v := by
            rw [hw.cell]; exact upTo_in _ _ _ (by omega) (by omega)
          obtain ⟨v0, hv0⟩ := hcell
          have hf := hw.frozen t
          clear hlen
          go_wp2
          have s2 : IntKind.i64.wrap ((t : Int) - 2) = (t : Int) - 2 := IntWalk.i64_in _ (by omega)
          have z2 : (2 : Int) ≤ t := by omega
          have l2 : (t : Int) - 2 < 64 := by omega
          have n2 : ((t : Int) - 2).toNat = t - 2 := by omega
          have s7 : IntKind.i64.wrap ((t : Int) - 7) = (t : Int) - 7 := IntWalk.i64_in _ (by omega)
          have z7 : (7 : Int) ≤ t := by omega
          have l7 : (t : Int) - 7 < 64 := by omega
          have n7 : ((t : Int) - 7).toNat = t - 7 := by omega
          have s15 : IntKind.i64.wrap ((t : Int) - 15) = (t : Int) - 15 := IntWalk.i64_in _ (by omega)
          have z15 : (15 : Int) ≤ t := by omega
          have l15 : (t : Int) - 15 < 64 := by omega
          have n15 : ((t : Int) - 15).toNat = t - 15 := by omega
          have s16 : IntKind.i64.wrap ((t : Int) - 16) = (t : Int) - 16 := IntWalk.i64_in _ (by omega)
          have z16 : (16 : Int) ≤ t := by omega
          have l16 : (t : Int) - 16 < 64 := by omega
          have n16 : ((t : Int) - 16).toNat = t - 16 := by omega
          go_still_tail 22, (by kernel_rfl)
          still_call ((small1_any _ _).mono fun _ _ ⟨a, b⟩ => ⟨a, b.symm⟩)
          repeat still_step
          still_call ((small0_any _ _).mono fun _ _ ⟨a, b⟩ => ⟨a, b.symm⟩)
          repeat still_step
          refine wpStill_nil ?_
          change wpList _ _ _ _ _ wr.drew
          clear s2 z2 l2 n2 s7 z7 l7 n7 s15 z15 l15 n15 s16 z16 l16 n16
          have key : ∀ x : UInt32, x = nextW ws → HB (wr.setCell ⟨w.heap.size + 1, t, none⟩ (.int .u32 (x.toNat : Int))).drew w.heap.size 130 (upTo 64 []) ∧ HB (wr.setCell ⟨w.heap.size + 1, t, none⟩ (.int .u32 (x.toNat : Int))).drew (w.heap.size + 1) 130 (upTo 64 (moreW (t + 1 - 16) (firstW l 16))) ∧ Below w.heap.size w (wr.setCell ⟨w.heap.size + 1, t, none⟩ (.int .u32 (x.toNat : Int))).drew := by
            intro x hx
            subst hx
            refine ⟨(hz.far (by simp) _).drew, HB.drew ?_, (hBw.setCell (by simp) _).drew⟩
            have h := hw.set_ t (.int .u32 ((nextW ws).toNat : Int))
            rw [hset.out] at h
            exact h
          have hkey := Lib.hid (key _ hnx.out.symm)
          clear key c2 c7 c15 c16 hz hw hBw
          go_wp2
          go_roundw
          case rel => exact ⟨t + 1, by omega, by omega, by go_num, by simpa only [List.getD_eq_getElem?_getD] using hkey.out⟩
          case measure => simp [intOf]; omega
        · obtain rfl : t = 64 := by omega
          rw [upTo_full _ _ hlen] at hw
          have hws : moreW (64 - 16) (firstW l 16) = scheduleF l := rfl
          rw [hws] at hw hlen
          clear hws
          have hsz : (us (scheduleF l)).toArray.size = 64 := by rw [List.size_toArray, us_len, hlen]
          have hi : (Tryd.prog.info? 130).map (·.size) = some (us (scheduleF l)).toArray.size := by rw [hsz]; exact Tryd.infoW64
          have hold : (upTo 64 []).toArray.size = (us (scheduleF l)).toArray.size := by rw [hsz, List.size_toArray, upTo_len 64 [] (by simp)]
          have hB2 := Below.setRow_ hBw (g := w.heap.size) (Nat.le_refl _) (us (scheduleF l)).toArray
          have hr := hz.row (us (scheduleF l)).toArray
          have h1 := us_one (scheduleF l)
          have H1 := Lib.hid hi
          have H2 := Lib.hid hold
          have H3 := Lib.hid h1
          clear h1
          clear hsz hi hold hlen
          generalize hcs : us (scheduleF l) = cs at *
          have hcs := Lib.hid hcs
          go_wp2_with (first
            | (refine wpList_load_row rfl 130 _ rfl (w.heap.size + 1) rfl 130 cs.toArray (0, 0) _ hw Tryd.underlying130 rfl H1.out ?_)
            | (refine wpList_store_row rfl 130 _ _ rfl w.heap.size cs.toArray rfl rfl 130 _ hz H1.out H2.out H3.out ?_))
          refine bodyPost_ret (v := .agg cs.toArray) (results_cell_row rfl _ _ w.heap.size 130 cs.toArray (0, 0) _ rfl hr Tryd.underlying130 rfl H1.out) rfl ?_
          exact ⟨rfl, hB2⟩
end
end Go.Proofs.YtapbaonlboefeaaDoor
