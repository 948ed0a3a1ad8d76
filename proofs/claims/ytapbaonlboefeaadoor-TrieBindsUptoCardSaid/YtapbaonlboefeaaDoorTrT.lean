/- trie: trailOf. WRITTEN BY wip/gen/trt.py. -/
import Derived.Test.YtapbaonlboefeaaDoorTrM
import Derived.Test.YtapbaonlboefeaaDoorInx
namespace Go.Proofs.YtapbaonlboefeaaDoor
open Go.RowKit

theorem Tryd.zeroTrail (W : World) : (zeroValue 62).run Tryd.prog W = .ok (.agg #[.slice none 0 0, .slice none 0 0]) W := by kernel_rfl
/-- A variable of its own, somewhere from G on. -/
def VarAt (G : Nat) (w : World) (v : Value) (t : TypeId) (cs : List Value) : Prop := ∃ g, v = .pointer (some ⟨g, 0, none⟩) ∧ G ≤ g ∧ HB w g t cs
/-- What trailOf's first operations yield. -/
def TraR (G : Nat) (key : List UInt8) (A : Option Addr) (n c : Nat) (vs : Nat → Value) : Nat → World → Prop
  | 0, _ => vs 0 = .agg (bys key).toArray
  | 1, _ => vs 1 = .agg (bys key).toArray
  | 2, _ => vs 2 = .slice A n c
  | 3, _ => vs 3 = .agg #[.slice A n c, .int .i64 0]
  | 4, w => ∃ cs, cs.length = 32 ∧ VarAt G w (vs 4) 95 cs
  | 5, w => ∃ cs, cs.length = 2 ∧ VarAt G w (vs 5) 58 cs
  | 6, w => VarAt G w (vs 4) 95 (bys key)
  | 7, w => VarAt G w (vs 5) 58 [.slice A n c, .int .i64 0]
  | _, _ => True
/-- What they do to the world. -/
def TraT (G i : Nat) (w w' : World) : Prop :=
  if i = 6 then ∃ g cs l, G ≤ g ∧ HB w g 95 cs ∧ l.length = 32 ∧ l.length = cs.length ∧ w' = w.setCells g 0 l
  else if i = 7 then ∃ g cs l, G ≤ g ∧ HB w g 58 cs ∧ l.length = 2 ∧ l.length = cs.length ∧ w' = w.setCells g 0 l
  else Below w.heap.size w w'
theorem VarAt.below {G : Nat} {w w' : World} {v : Value} {t : TypeId} {cs : List Value} (h : VarAt G w v t cs) (hb : Below w.heap.size w w') : VarAt G w' v t cs := by
  obtain ⟨g, h1, h2, h3⟩ := h
  exact ⟨g, h1, h2, h3.below hb h3.lt⟩
theorem VarAt.other {G g' : Nat} {w : World} {v : Value} {t t' : TypeId} {cs cs' l : List Value} (h : VarAt G w v t cs) (h' : HB w g' t' cs') (hne : t ≠ t') : VarAt G (w.setCells g' 0 l) v t cs := by
  obtain ⟨g, h1, h2, h3⟩ := h
  exact ⟨g, h1, h2, HB.keep h3 (heap_setCells_other (hb_ne h3 h' hne) l 0 w)⟩
theorem VarAt.any {G g' : Nat} {w : World} {v : Value} {t : TypeId} {cs cs' l : List Value} (h : VarAt G w v t cs) (h' : HB w g' t cs') (hl : l.length = cs'.length) : ∃ cs2, (cs2 = cs ∨ cs2 = l) ∧ VarAt G (w.setCells g' 0 l) v t cs2 := by
  obtain ⟨g, h1, h2, h3⟩ := h
  by_cases e : g = g'
  · subst e
    exact ⟨l, .inr rfl, g, h1, h2, hb_setAll h' l hl⟩
  · exact ⟨cs, .inl rfl, g, h1, h2, HB.keep h3 (heap_setCells_other e l 0 w)⟩
theorem HB.len_eq {w : World} {g : Nat} {t : TypeId} {cs cs' : List Value} (h : HB w g t cs) (h' : HB w g t cs') : cs = cs' := by
  unfold HB at h h'
  rw [h] at h'
  simpa using h'
theorem TraR.keep {G : Nat} {key : List UInt8} {A : Option Addr} {n c : Nat} : ∀ (j : Nat) {vs vs' : Nat → Value} {w w' : World} {i : Nat}, i ≠ j → vs' j = vs j → (j = 6 → vs' 4 = vs 4) → (j = 7 → vs' 5 = vs 5) → TraT G i w w' → TraR G key A n c vs j w → TraR G key A n c vs' j w'
  | 0, _, _, _, _, _, _, e, _, _, _, h => e.trans h
  | 1, _, _, _, _, _, _, e, _, _, _, h => e.trans h
  | 2, _, _, _, _, _, _, e, _, _, _, h => e.trans h
  | 3, _, _, _, _, _, _, e, _, _, _, h => e.trans h
  | 4, vs, vs', w, w', i, hij, e, _, _, hT, h => by
    obtain ⟨cs, hl, h⟩ := h
    show ∃ cs, cs.length = 32 ∧ VarAt G w' (vs' 4) 95 cs
    rw [e]
    unfold TraT at hT
    split at hT
    · obtain ⟨g, cs2, l, _, hb, hl3, hl2, rfl⟩ := hT
      obtain ⟨cs3, h3, h4⟩ := h.any hb hl2
      exact ⟨cs3, by rcases h3 with rfl | rfl <;> assumption, h4⟩
    · split at hT
      · obtain ⟨g, cs2, l, _, hb, hl3, hl2, rfl⟩ := hT
        exact ⟨cs, hl, h.other hb (by decide)⟩
      · exact ⟨cs, hl, h.below hT⟩
  | 5, vs, vs', w, w', i, hij, e, _, _, hT, h => by
    obtain ⟨cs, hl, h⟩ := h
    show ∃ cs, cs.length = 2 ∧ VarAt G w' (vs' 5) 58 cs
    rw [e]
    unfold TraT at hT
    split at hT
    · obtain ⟨g, cs2, l, _, hb, hl3, hl2, rfl⟩ := hT
      exact ⟨cs, hl, h.other hb (by decide)⟩
    · split at hT
      · obtain ⟨g, cs2, l, _, hb, hl3, hl2, rfl⟩ := hT
        obtain ⟨cs3, h3, h4⟩ := h.any hb hl2
        exact ⟨cs3, by rcases h3 with rfl | rfl <;> assumption, h4⟩
      · exact ⟨cs, hl, h.below hT⟩
  | 6, vs, vs', w, w', i, hij, _, e, _, hT, h => by
    show VarAt G w' (vs' 4) 95 (bys key)
    rw [e rfl]
    unfold TraT at hT
    rw [if_neg hij] at hT
    split at hT
    · obtain ⟨g, cs2, l, _, hb, hl3, hl2, rfl⟩ := hT
      exact VarAt.other h hb (by decide)
    · exact VarAt.below h hT
  | 7, vs, vs', w, w', i, hij, _, _, e, hT, h => by
    show VarAt G w' (vs' 5) 58 [.slice A n c, .int .i64 0]
    rw [e rfl]
    unfold TraT at hT
    split at hT
    · obtain ⟨g, cs2, l, _, hb, hl3, hl2, rfl⟩ := hT
      exact VarAt.other h hb (by decide)
    · exact VarAt.below h hT
  | _ + 8, _, _, _, _, _, _, _, _, _, _, _ => trivial
theorem TraT.low {G i : Nat} {w w' : World} (h : TraT G i w w') (hG : G ≤ w.heap.size) : Below G w w' := by
  unfold TraT at h
  split at h
  · obtain ⟨g, cs, l, hg, _, _, _, rfl⟩ := h
    exact (Keep.setCells (S := fun _ => True) (B := G) trivial hg l 0 w).low
  · split at h
    · obtain ⟨g, cs, l, hg, _, _, _, rfl⟩ := h
      exact (Keep.setCells (S := fun _ => True) (B := G) trivial hg l 0 w).low
    · exact h.mono hG
theorem TraT.plain {G i : Nat} {w w' : World} (h6 : i ≠ 6) (h7 : i ≠ 7) (h : Below w.heap.size w w') : TraT G i w w' := by
  unfold TraT
  rw [if_neg h6, if_neg h7]
  exact h
/-- What the loop has told so far: the siblings S, and the part (A', L', c') at depth 256 - r. -/
structure TrailP (w : World) (B : Nat) (L : List Ent) (key : List UInt8) (S : List (List UInt8)) (r : Nat) (A' : Option Addr) (n' c' : Nat) (vs' : List Value) (L' : List Ent) : Prop where
  r_ : r ≤ 256
  len : n' = L'.length
  ents : EntsW w B A' vs' L'
  may : MayP L'
  on : On L' key (256 - r)
  cap : L'.length ≤ c'
  cap63 : c' ≤ 9223372036854775807
  few : L'.length ≤ 4611686018427387904
  sib : sibT key 256 L = S ++ sibT key r L'
  end_ : endT key 256 L = endT key r L'
  s32 : ∀ s ∈ S, s.length = 32
  slen : S.length = 256 - r
theorem TrailP.start {w : World} {B c : Nat} {A : Option Addr} {vs : List Value} {L : List Ent} (h : EntsW w B A vs L) (hm : MayP L) (hc : L.length ≤ c) (hcm : c ≤ 9223372036854775807) (hn : L.length ≤ 4611686018427387904) (key : List UInt8) (hkey : key.length = 32) :
    TrailP w B L key [] 256 A L.length c vs L := ⟨Nat.le_refl _, rfl, h, hm, on_0 h.keys hkey, hc, hcm, hn, rfl, rfl, fun s hs => (by cases hs), rfl⟩
theorem flat_len : ∀ (S : List (List UInt8)), (∀ s ∈ S, s.length = 32) → S.flatten.length = S.length * 32
  | [], _ => rfl
  | s :: S, h => by
    have := flat_len S (fun x hx => h x (by simp [hx]))
    have := h s (by simp)
    simp only [List.flatten_cons, List.length_append, List.length_cons]
    omega
theorem sibT_few (key : List UInt8) (r : Nat) {L : List Ent} (h : L.length < 2) : sibT key r L = [] := by
  cases r with
  | zero => rfl
  | succ r => rw [sibT, if_pos h]
theorem endT_few1 (key : List UInt8) (r : Nat) {L : List Ent} (h : L.length < 2) : endT key r L = L := by
  cases r with
  | zero => rfl
  | succ r => rw [endT, if_pos h]
theorem Tryd.builtTrail : ∀ parts, Tryd.prog.built 62 parts = Instr.fill ([(0, 1), (1, 1)].toArray[·]?) #[.slice none 0 0, .slice none 0 0] parts := by intro parts; kernel_rfl
theorem built_trail (A : Option Addr) (n c : Nat) (A' : Option Addr) (n' c' : Nat) : Tryd.prog.built 62 [(0, .slice A n c), (1, .slice A' n' c')] = some #[.slice A n c, .slice A' n' c'] := by
  rw [Tryd.builtTrail]
  have h2 := fill_fields ([(0, 1), (1, 1)].toArray[·]?) [.slice A n c, .slice A' n' c'] 0 0 #[.slice none 0 0, .slice none 0 0] ⟨rfl, rfl, trivial⟩ rfl
  simpa [cellsAll, Value.cells] using h2
/-- trailOf's answer. -/
def Trailed (w : World) (B : Nat) (L : List Ent) (key : List UInt8) (e : Ending) (w' : World) : Prop :=
  ∃ v A' c' vs', e = .returned (.agg #[v, .slice A' (endT key 256 L).length c']) ∧ SlotK (· < w.heap.size) w' v (sibT key 256 L).flatten ∧ EntsW w B A' vs' (endT key 256 L) ∧ (endT key 256 L).length ≤ c' ∧ c' ≤ 9223372036854775807 ∧ Below w.heap.size w w'
/-- The loop's world. -/
structure TrailW (w : World) (key : List UInt8) (G g6 g7 : Nat) (v : Value) (T : List UInt8) (r : Nat) (A' : Option Addr) (n' c' : Nat) (wr : World) : Prop where
  own : wr.ownsRow G 5 1 v T.length (bys T)
  res : HB wr (w.heap.size + 1) 62 [.slice none 0 0, .slice none 0 0]
  bit : HB wr g6 95 (bys key)
  part : HB wr g7 58 [.slice A' n' c', .int .i64 ((256 - r : Nat) : Int)]
  low : Below w.heap.size w wr
  G_ : G ≤ wr.heap.size
theorem TrailW.keep {w : World} {key : List UInt8} {G g6 g7 : Nat} {v : Value} {T : List UInt8} {r : Nat} {A' : Option Addr} {n' c' : Nat} {wr W : World} (h : TrailW w key G g6 g7 v T r A' n' c' wr) (hB : Below wr.heap.size wr W) : TrailW w key G g6 g7 v T r A' n' c' W :=
  ⟨own_below h.own hB, h.res.below hB h.res.lt, h.bit.below hB h.bit.lt, h.part.below hB h.part.lt, h.low.trans (hB.mono h.low.size), Nat.le_trans h.G_ hB.size⟩
/-- Behind the append and the store. -/
theorem TrailW.next {w : World} {key : List UInt8} {G g6 g7 : Nat} {v v' : Value} {T X : List UInt8} {r r' : Nat} {A' A2 : Option Addr} {n' c' n2 c2 : Nat} {W W' : World} (h : TrailW w key G g6 g7 v T r A' n' c' W) (hg6 : w.heap.size + 2 ≤ g6 ∧ g6 < G) (hg7 : w.heap.size + 2 ≤ g7 ∧ g7 < G) (hne : g6 ≠ g7)
    (ho : W'.ownsRow G 5 1 v' (T ++ X).length (bys (T ++ X))) (hg : W.grownBy W' v.ownBlock) : TrailW w key G g6 g7 v' (T ++ X) r' A2 n2 c2 (W'.setRow g7 #[.slice A2 n2 c2, .int .i64 ((256 - r' : Nat) : Int)]) := by
  have hl := h.own.lt
  have hs := hg.size
  have q := grownBy_setRow W' g7 #[.slice A2 n2 c2, .int .i64 ((256 - r' : Nat) : Int)]
  refine ⟨ho.kept q (.inr (fun e => by have := ho.lt _ e; omega)), (h.res.grown hg (fun e => by have := hl _ e.symm; omega)).grown q (fun e => by injection e; omega), (h.bit.grown hg (fun e => by have := hl _ e.symm; omega)).grown q (fun e => by injection e; omega),
    (h.part.grown hg (fun e => by have := hl _ e.symm; omega)).row _, Below.setRow_ (h.low.grown hg h.low.size (fun g hg => by have := hl g hg; omega)) (by omega) _, ?_⟩
  have := q.size
  have := h.G_
  omega
theorem TrailP.step {w : World} {B : Nat} {L : List Ent} {key : List UInt8} {S : List (List UInt8)} {r : Nat} {A : Option Addr} {n c : Nat} {vs : List Value} {L' : List Ent} (h : TrailP w B L key S (r + 1) A n c vs L') (h2 : 2 ≤ n) (hkey : key.length = 32) (b : Nat) (hb : kbit key (255 - r) = b)
    {A2 : Option Addr} {n2 c2 : Nat} {vs2 : List Value} (he : EntsW w B A2 vs2 (side L' (255 - r) b)) (hn2 : n2 = (side L' (255 - r) b).length) (hc2 : (side L' (255 - r) b).length ≤ c2) (hcc : c2 ≤ c) :
    TrailP w B L key (S ++ [digT r (side L' (255 - r) (1 - b))]) r A2 n2 c2 vs2 (side L' (255 - r) b) := by
  have hr := h.r_
  have hl : ¬ L'.length < 2 := by have := h.len; omega
  have e1 := h.sib
  have e2 := h.end_
  have ho := h.on
  have f1 : sibT key (r + 1) L' = digT r (side L' (255 - r) (1 - b)) :: sibT key r (side L' (255 - r) b) := by rw [sibT, if_neg hl, hb]
  have f2 : endT key (r + 1) L' = endT key r (side L' (255 - r) b) := by rw [endT, if_neg hl, hb]
  rw [f1] at e1
  rw [f2] at e2
  rw [show 256 - (r + 1) = 255 - r from by omega] at ho
  have hon := ho.side h.ents.keys hkey (by omega)
  rw [hb, show 255 - r + 1 = 256 - r from by omega] at hon
  have hle : (side L' (255 - r) b).length ≤ L'.length := List.length_filter_le _ _
  have hsl := h.slen
  refine ⟨by omega, hn2, he, h.may.side _ _, hon, hc2, Nat.le_trans hcc h.cap63, Nat.le_trans hle h.few, by rw [e1]; simp, e2, fun s hs => ?_, by rw [List.length_append, List.length_singleton]; omega⟩
  rcases List.mem_append.1 hs with q | q
  · exact h.s32 s q
  · rw [List.mem_singleton.1 q]; exact digT_len _ _

set_option maxRecDepth 20000 in
set_option maxHeartbeats 3200000 in
/-- The first operations: the variables of the loop. -/
theorem trail_any (w : World) (B c0 : Nat) (hBw : B ≤ w.heap.size) (A0 : Option Addr) (vs0 : List Value) (L : List Ent) (h : EntsW w B A0 vs0 L) (hm : MayP L) (hc : L.length ≤ c0) (hcm : c0 ≤ 9223372036854775807) (hn : L.length ≤ 4611686018427387904) (hk : Consts w) (key : List UInt8) (hkey : key.length = 32) :
    Calls Tryd.prog 27 #[.slice A0 L.length c0, .agg (bys key).toArray] w (Trailed w B L key) := by
  have HI0 := Lib.hid (TrailP.start h hm hc hcm hn key hkey)
  have HBw := Lib.hid hBw; have HK := Lib.hid hk
  obtain ⟨n, hnn⟩ : ∃ n, n = L.length := ⟨_, rfl⟩
  rw [← hnn] at HI0 ⊢
  generalize A0 = A at *
  generalize c0 = c at *
  clear h hm hc hcm hn hk hBw hnn
  have hz := Tryd.zeroTrail
  have hb0 := HB.new w 24 (bys key)
  have hB0 := below_alloc1 w (.cells (bys key).toArray 24)
  have hq0 : (w.alloc (.cells (bys key).toArray 24)).heap.size = w.heap.size + 1 := by simp
  generalize hw0 : w.alloc (.cells (bys key).toArray 24) = w0 at *
  have hb1 := HB.new w0 62 [.slice none 0 0, .slice none 0 0]
  have hB1 := below_alloc1 w0 (.cells #[.slice none 0 0, .slice none 0 0] 62)
  have hq1 : (w0.alloc (.cells #[.slice none 0 0, .slice none 0 0] 62)).heap.size = w.heap.size + 2 := by simp; omega
  rw [hq0] at hb1
  generalize hw1 : w0.alloc (.cells #[.slice none 0 0, .slice none 0 0] 62) = w1 at *
  have HK0 := Lib.hid (hb0.below hB1 (by omega))
  have HR0 := Lib.hid hb1
  have HB1 := Lib.hid (hB0.trans (hB1.mono hB0.size))
  have HQ1 := Lib.hid hq1
  have HBU := Lib.hid (built_bits key hkey)
  have HKL : Hid ((Tryd.prog.info? 24).map (·.size) = some (bys key).length) := Lib.hid (by rw [bys_len, hkey]; kernel_rfl)
  clear hb0 hB0 hb1 hB1 hq1
  go_enter Tryd.func27, Tryd.ntmps27
  go_upto_region 2 with (fail)
  clear hw0 hw1 hz
  have HZB := Lib.hid Tryd.zeroBits; have HZP := Lib.hid Tryd.zeroPart
  have HBI : Hid ((Tryd.prog.info? 95).map (·.size) = some (bys key).toArray.size) := Lib.hid (by rw [List.size_toArray, bys_len, hkey]; kernel_rfl)
  have HBO := dig_one key
  have HKY := Lib.hid hkey
  refine wp_region_inx 41 (TraR w1.heap.size key A n c) (Below w1.heap.size w1) (fun _ => TraT w1.heap.size) (by kernel_rfl) (by rfl) (by kernel_rfl) (fun i j vs v W W' hi hij hw hT hR => ?_) (fun i vs W W' hT hI => hI.trans (hT.low hI.size)) (Below.drew (Below.refl _ _)) (fun jx o ho vs W hI hdep => ?_) (fun vs W hI hR => ?_)
  · refine TraR.keep j hij (if_neg (fun e => hij e.symm)) (fun e => if_neg (fun e4 => ?_)) (fun e => if_neg (fun e5 => ?_)) hT hR
    · subst e; subst e4; exact absurd (hw _ rfl) (by decide)
    · subst e; subst e5; exact absurd (hw _ rfl) (by decide)
  · rcases jx with _ | jx
    · simp only [List.getElem?_toArray, List.getElem?_cons_zero, Option.some.injEq] at ho
      subst ho
      refine .inl ⟨rfl, fun K Q hK => ?_⟩
      simp only [putFrom, Act.put, List.setIfInBounds_toArray, List.set_cons_succ, List.set_cons_zero, Nat.reduceAdd] at hK ⊢
      have HOUT := Lib.hid hK
      clear hK hdep
      refine wp_load_mid 24 _ rfl w.heap.size 0 rfl (bys key) _ (HK0.out.below hI HK0.out.lt).rngT Tryd.underlying24 rfl HKL.out ?_
      simp only [Act.put, List.setIfInBounds_toArray, List.set_cons_succ, List.set_cons_zero]
      exact HOUT.out _ _ _ rfl ⟨(TraT.plain (by decide) (by decide) (Below.refl _ _)), rfl⟩
    rcases jx with _ | jx
    · simp only [List.getElem?_toArray, List.getElem?_cons_succ, List.getElem?_cons_zero, Option.some.injEq, Nat.zero_add] at ho
      subst ho
      have e0 : vs 0 = .agg (bys key).toArray := hdep 0 rfl
      refine .inl ⟨rfl, fun K Q hK => ?_⟩
      simp only [putFrom, Act.put, List.setIfInBounds_toArray, List.set_cons_succ, List.set_cons_zero, Nat.reduceAdd, e0] at hK ⊢
      have HOUT := Lib.hid hK
      clear hK hdep e0
      have hb := HBU.out
      refine wp_buildTo 95 _ rfl (bys key).toArray (by (simp only [List.map_toArray, List.map_cons, List.map_nil]; exact hb)) ?_
      simp only [Act.put, List.setIfInBounds_toArray, List.set_cons_succ, List.set_cons_zero]
      exact HOUT.out _ _ _ rfl ⟨(TraT.plain (by decide) (by decide) (Below.refl _ _)), rfl⟩
    rcases jx with _ | jx
    · simp only [List.getElem?_toArray, List.getElem?_cons_succ, List.getElem?_cons_zero, Option.some.injEq, Nat.zero_add] at ho
      subst ho
      refine .inl ⟨rfl, fun K Q hK => ?_⟩
      simp only [putFrom, Act.put, List.setIfInBounds_toArray, List.set_cons_succ, List.set_cons_zero, Nat.reduceAdd] at hK ⊢
      have HOUT := Lib.hid hK
      clear hK hdep
      go_simp
      exact HOUT.out _ _ _ rfl ⟨(TraT.plain (by decide) (by decide) (Below.refl _ _)), rfl⟩
    rcases jx with _ | jx
    · simp only [List.getElem?_toArray, List.getElem?_cons_succ, List.getElem?_cons_zero, Option.some.injEq, Nat.zero_add] at ho
      subst ho
      have e2 : vs 2 = .slice A n c := hdep 2 rfl
      refine .inl ⟨rfl, fun K Q hK => ?_⟩
      simp only [putFrom, Act.put, List.setIfInBounds_toArray, List.set_cons_succ, List.set_cons_zero, Nat.reduceAdd, e2] at hK ⊢
      have HOUT := Lib.hid hK
      clear hK hdep e2
      go_simp
      refine (whole_any W A n c).mono ?_
      rintro e w8 ⟨rfl, hB8⟩
      go_simp
      exact HOUT.out _ _ _ rfl ⟨(TraT.plain (by decide) (by decide) hB8), rfl⟩
    rcases jx with _ | jx
    · simp only [List.getElem?_toArray, List.getElem?_cons_succ, List.getElem?_cons_zero, Option.some.injEq, Nat.zero_add] at ho
      subst ho
      have hzb := HZB.out
      refine .inl ⟨rfl, fun K Q hK => ?_⟩
      simp only [putFrom, Act.put, List.setIfInBounds_toArray, List.set_cons_succ, List.set_cons_zero, Nat.reduceAdd] at hK ⊢
      have HOUT := Lib.hid hK
      clear hK hdep
      go_simp
      exact HOUT.out _ _ _ rfl ⟨(TraT.plain (by decide) (by decide) (below_alloc1 W _)), zdig, zdig_len, W.heap.size, rfl, hI.size, HB.new W 95 zdig⟩
    rcases jx with _ | jx
    · simp only [List.getElem?_toArray, List.getElem?_cons_succ, List.getElem?_cons_zero, Option.some.injEq, Nat.zero_add] at ho
      subst ho
      have hzp := HZP.out
      refine .inl ⟨rfl, fun K Q hK => ?_⟩
      simp only [putFrom, Act.put, List.setIfInBounds_toArray, List.set_cons_succ, List.set_cons_zero, Nat.reduceAdd] at hK ⊢
      have HOUT := Lib.hid hK
      clear hK hdep
      go_simp
      exact HOUT.out _ _ _ rfl ⟨(TraT.plain (by decide) (by decide) (below_alloc1 W _)), _, rfl, W.heap.size, rfl, hI.size, HB.new W 58 [.slice none 0 0, .int .i64 0]⟩
    rcases jx with _ | jx
    · simp only [List.getElem?_toArray, List.getElem?_cons_succ, List.getElem?_cons_zero, Option.some.injEq, Nat.zero_add] at ho
      subst ho
      have e1 : vs 1 = .agg (bys key).toArray := hdep 1 rfl
      obtain ⟨cs, hl, g, e4, hg, hb⟩ := hdep 4 rfl
      refine .inl ⟨rfl, fun K Q hK => ?_⟩
      simp only [putFrom, Act.put, List.setIfInBounds_toArray, List.set_cons_succ, List.set_cons_zero, Nat.reduceAdd, e1, e4] at hK ⊢
      have HOUT := Lib.hid hK
      clear hK hdep e1
      refine wp_store_mid 95 _ _ rfl g 0 (bys key).toArray rfl rfl (there_hb hb (by rw [hl]; simp [bys_len, HKY.out])) HBI.out HBO.out ?_
      simp only [Act.put]
      refine HOUT.out _ undef _ rfl ⟨?_, ?_⟩
      · unfold TraT; rw [if_pos rfl]; exact ⟨g, cs, bys key, hg, hb, by simp [bys_len, HKY.out], by rw [hl]; simp [bys_len, HKY.out], rfl⟩
      · exact ⟨g, e4, hg, hb_setAll hb _ (by rw [hl]; simp [bys_len, HKY.out])⟩
    rcases jx with _ | jx
    · simp only [List.getElem?_toArray, List.getElem?_cons_succ, List.getElem?_cons_zero, Option.some.injEq, Nat.zero_add] at ho
      subst ho
      have e3 : vs 3 = .agg #[.slice A n c, .int .i64 0] := hdep 3 rfl
      obtain ⟨cs, hl, g, e5, hg, hb⟩ := hdep 5 rfl
      refine .inl ⟨rfl, fun K Q hK => ?_⟩
      simp only [putFrom, Act.put, List.setIfInBounds_toArray, List.set_cons_succ, List.set_cons_zero, Nat.reduceAdd, e3, e5] at hK ⊢
      have HOUT := Lib.hid hK
      clear hK hdep e3
      refine wp_store_mid 58 _ _ rfl g 0 #[.slice A n c, .int .i64 0] rfl rfl (there_hb hb (by rw [hl]; exact Nat.le_refl 2)) (by kernel_rfl) (by simp [Value.oneCell']) ?_
      simp only [Act.put]
      refine HOUT.out _ undef _ rfl ⟨?_, ?_⟩
      · unfold TraT; rw [if_neg (by decide), if_pos rfl]; exact ⟨g, cs, [.slice A n c, .int .i64 0], hg, hb, rfl, by rw [hl]; rfl, rfl⟩
      · exact ⟨g, e5, hg, hb_setAll hb [.slice A n c, .int .i64 0] (by rw [hl]; rfl)⟩
    exact absurd ho (by simp)
  · have h6 := hR 6 (by decide)
    have h7 := hR 7 (by decide)
    obtain ⟨g6, e4, hg6, hb6⟩ : VarAt _ _ (vs 4) 95 _ := h6
    obtain ⟨g7, e5, hg7, hb7⟩ : VarAt _ _ (vs 5) 58 _ := h7
    simp only [putFrom, Act.put, List.setIfInBounds_toArray, List.set_cons_succ, List.set_cons_zero, Nat.reduceAdd, e4, e5]
    have HW0 : Hid (TrailW w key W.heap.size g6 g7 (.slice none 0 0) [] 256 A n c W) := Lib.hid ⟨World.ownsRow_nil _ _ _ _, HR0.out.below hI HR0.out.lt, hb6, hb7, HB1.out.trans (hI.mono HB1.out.size), Nat.le_refl _⟩
    have HG6 : Hid (w.heap.size + 2 ≤ g6 ∧ g6 < W.heap.size) := Lib.hid ⟨by have := HQ1.out; omega, hb6.lt⟩
    have HG7 : Hid (w.heap.size + 2 ≤ g7 ∧ g7 < W.heap.size) := Lib.hid ⟨by have := HQ1.out; omega, hb7.lt⟩
    have HNE : Hid (g6 ≠ g7) := Lib.hid (hb_ne hb6 hb7 (by decide))
    clear hR hI e4 e5 hb6 hb7 hg6 hg7 HR0 HB1 HK0 HQ1
    generalize W.heap.size = G at *
    generalize vs 0 = q0 at *; generalize vs 1 = q1 at *; generalize vs 2 = q2 at *; generalize vs 3 = q3 at *
    go_wp2_with fail
    go_loopw [5] (fun v wr => ∃ S T r A' n' c' vs' L', T = S.flatten ∧ TrailP w B L key S r A' n' c' vs' L' ∧ TrailW w key G g6 g7 v T r A' n' c' wr) (fun _ wr => 256 - (intOf ((wr.cell? ⟨g7, 1, none⟩).getD undef)).toNat)
    case atStart => exact ⟨[], [], 256, A, n, c, vs0, L, rfl, HI0.out, HW0.out⟩
    case round =>
      obtain ⟨S, T, r, A', n', c', vs', L', hTS, hP, hWr⟩ := hrel
      have HTS := Lib.hid hTS
      have HP := Lib.hid hP; have HWr := Lib.hid hWr
      have hc0 : wr.cell? ⟨g7, 0, none⟩ = some (.slice A' n' c') := by rw [hWr.part.cell]; rfl
      clear hP hWr HI0 HW0 hTS
      rcases Nat.lt_or_ge n' 2 with hlt | hge
      · have hlt' : (n' : Int) ≤ 1 := by omega
        obtain ⟨A5, c5, rfl, -⟩ := own_slice HWr.out.own
        have HBT := Lib.hid (built_trail A5 T.length c5 A' n' c')
        have hr := HWr.out.res.row #[.slice A5 T.length c5, .slice A' n' c']
        have hfin := Below.setRow_ HWr.out.low (show w.heap.size ≤ w.heap.size + 1 by omega) #[.slice A5 T.length c5, .slice A' n' c']
        have HO := Lib.hid (HWr.out.own.kept (grownBy_setRow wr (w.heap.size + 1) #[.slice A5 T.length c5, .slice A' n' c']) (.inr (fun e => by have := HWr.out.own.lt _ e; have := HG6.out; omega)))
        have hzT : (Tryd.prog.info? 62).map (·.size) = some 2 := by kernel_rfl
        have HSS := Lib.hid (sibT_few key r (show L'.length < 2 by have := HP.out.len; omega))
        have HEE := Lib.hid (endT_few1 key r (show L'.length < 2 by have := HP.out.len; omega))
        have hres := HWr.out.res
        go_wp2_with first
          | (refine wpList_buildTo rfl 62 _ rfl _ rfl #[.slice A5 T.length c5, .slice A' n' c'] (by (simp only [List.map_toArray, List.map_cons, List.map_nil]; exact HBT.out)) ?_)
          | (refine wpList_store_row rfl 62 _ _ rfl (w.heap.size + 1) #[.slice A5 T.length c5, .slice A' n' c'] rfl rfl 62 _ hres hzT rfl (by simp [Value.oneCell']) ?_)
        refine bodyPost_ret (v := .agg #[.slice A5 T.length c5, .slice A' n' c']) (results_cell_row rfl _ _ (w.heap.size + 1) 62 #[.slice A5 T.length c5, .slice A' n' c'] (0, 0) _ rfl hr Tryd.underlying62 rfl hzT) rfl ?_
        have hlen := HP.out.len
        refine ⟨.slice A5 T.length c5, A', c', vs', by rw [HP.out.end_, HEE.out, ← hlen], ?_, by rw [HP.out.end_, HEE.out]; exact HP.out.ents, by rw [HP.out.end_, HEE.out]; exact HP.out.cap, HP.out.cap63, hfin⟩
        rw [HP.out.sib, HSS.out, List.append_nil, ← HTS.out]
        exact SlotK.wrote (own_wide HO.out (by have := HG6.out; omega)) (fun b h => h)
      · have hge' : (1 : Int) < (n' : Int) := by omega
        obtain ⟨r, rfl⟩ : ∃ k, r = k + 1 := ⟨r - 1, by
          rcases Nat.eq_zero_or_pos r with q | q
          · subst q
            have := grp_few HP.out.may HP.out.on.grp
            have := HP.out.len
            omega
          · omega⟩
        have hr256 := HP.out.r_
        obtain ⟨d, hd⟩ : ∃ d, d = 255 - r := ⟨_, rfl⟩
        have hdr : d + 1 + r = 256 := by omega
        have hpart := HWr.out.part
        rw [show 256 - (r + 1) = d from by omega] at hpart
        have hon := HP.out.on
        rw [show 256 - (r + 1) = d from by omega] at hon
        have hents := HP.out.ents
        have hlen := HP.out.len
        have hBwr : B ≤ wr.heap.size := Nat.le_trans HBw.out HWr.out.low.size
        have HH := Lib.hid (halves_any wr B d c' hBwr A' vs' L' (hents.below (HWr.out.low.mono HBw.out)) (by omega) HP.out.may hon.grp HP.out.cap HP.out.few)
        rw [← hlen] at HH
        obtain ⟨s1, s2, -⟩ := halves_at HP.out.may hents.keys hon.grp (show d < 256 by omega)
        have hzn : (side L' d 0).length ≤ L'.length := List.length_filter_le _ _
        have hon1 : (side L' d 1).length ≤ L'.length := List.length_filter_le _ _
        have t0 := hents.take hzn
        have t1 := hents.drop hzn HP.out.cap
        rw [s1] at t0
        rw [s2] at t1
        have e1 : (side L' d 1).length = L'.length - (side L' d 0).length := by rw [← s2, List.length_drop]
        have hcap := HP.out.cap
        have h63 := HP.out.cap63
        have hfew := HP.out.few
        have HKD : Hid (∀ W, Below w.heap.size w W → Consts W) := Lib.hid (fun W hW => HK.out.below hW HK.out.2.2)
        have HD0 : Hid (∀ W, Below w.heap.size w W → Calls Tryd.prog 26 #[.agg #[.slice A' (side L' d 0).length c', .int .i64 ((d + 1 : Nat) : Int)]] W (Digs W (digT r (side L' d 0)))) := Lib.hid (fun W hW => dig_any r (d + 1) hdr W B c' (Nat.le_trans HBw.out hW.size) A' _ _ (t0.below (hW.mono HBw.out)) (HP.out.may.side _ _) (hon.grp.side hents.keys (by omega) 0) (by omega) h63 (by omega) (HKD.out W hW))
        have HD1 : Hid (∀ W, Below w.heap.size w W → Calls Tryd.prog 26 #[.agg #[.slice (tailA A' c' (side L' d 0).length) (side L' d 1).length (c' - (side L' d 0).length), .int .i64 ((d + 1 : Nat) : Int)]] W (Digs W (digT r (side L' d 1)))) := Lib.hid (fun W hW => dig_any r (d + 1) hdr W B (c' - (side L' d 0).length) (Nat.le_trans HBw.out hW.size) (tailA A' c' (side L' d 0).length) _ _ (t1.below (hW.mono HBw.out)) (HP.out.may.side _ _) (hon.grp.side hents.keys (by omega) 1) (by omega) (by omega) (by omega) (HKD.out W hW))
        have HP0 : Hid (kbit key d = 0 → TrailP w B L key (S ++ [digT r (side L' d 1)]) r A' (side L' d 0).length c' (vs'.take (side L' d 0).length) (side L' d 0)) := Lib.hid (fun hb => by
          rw [hd] at hb t0 ⊢
          exact HP.out.step hge HKY.out 0 hb t0 rfl (by rw [← hd]; omega) (Nat.le_refl _))
        have HP1 : Hid (kbit key d = 1 → TrailP w B L key (S ++ [digT r (side L' d 0)]) r (tailA A' c' (side L' d 0).length) (side L' d 1).length (c' - (side L' d 0).length) (vs'.drop (side L' d 0).length) (side L' d 1)) := Lib.hid (fun hb => by
          rw [hd] at hb t1 ⊢
          exact HP.out.step hge HKY.out 1 hb t1 rfl (by rw [← hd]; omega) (by omega))
        have hl0 := digT_len r (side L' d 0)
        have hl1 := digT_len r (side L' d 1)
        have hTl := flat_len S HP.out.s32
        have hsl := HP.out.slen
        rw [← HTS.out] at hTl
        clear t0 t1 s1 s2 hzn hon1 e1 hents hlen hcap h63 hfew hon
        generalize side L' d 0 = L0 at *
        generalize side L' d 1 = L1 at *
        generalize digT r L0 = D0 at *
        generalize digT r L1 = D1 at *
        obtain ⟨dd, hdd⟩ : ∃ dd, dd = d + 1 := ⟨_, rfl⟩
        rw [← hdd] at HH HD0 HD1
        have HDD : Hid (dd = 256 - r) := Lib.hid (by omega)
        have HPT := Lib.hid hpart
        have HTL : Hid (T.length + 32 ≤ 8192) := Lib.hid (by omega)
        have HBWR := Lib.hid hBwr
        have HRR := Lib.hid hr256
        have HLL0 := Lib.hid hl0; have HLL1 := Lib.hid hl1
        have HDR := Lib.hid hdr
        have hzp := Tryd.zeroPart
        have hzd := Tryd.zeroDig
        have hps : (Tryd.prog.info? 58).map (·.size) = some 2 := by kernel_rfl
        generalize hA1 : tailA A' c' L0.length = A1 at *
        generalize hc1 : c' - L0.length = c1 at *
        generalize L0.length = z at *
        generalize hz1 : L1.length = z1 at *
        clear hd hdd hTl hsl hBwr hr256 hpart hl0 hl1 hdr hA1 hc1 hz1
        have hc1 : wr.cell? ⟨g7, 1, none⟩ = some (.int .i64 (d : Int)) := by rw [HPT.out.cell]; rfl
        go_wp2_with fail
        refine HH.out.mono ?_
        rintro e w2 ⟨rfl, hB2⟩
        clear hc0 hc1
        have hb8 : HB ((w2.alloc (.cells #[.slice none 0 0, .int .i64 0] 58)).alloc (.cells #[.slice none 0 0, .int .i64 0] 58)) w2.heap.size 58 [.slice none 0 0, .int .i64 0] := (HB.new w2 58 _).alloc _
        have hb9 : HB (((w2.alloc (.cells #[.slice none 0 0, .int .i64 0] 58)).alloc (.cells #[.slice none 0 0, .int .i64 0] 58)).setRow w2.heap.size #[.slice A' z c', .int .i64 (dd : Int)]) (w2.heap.size + 1) 58 [.slice none 0 0, .int .i64 0] := by
          have := HB.new (w2.alloc (.cells #[.slice none 0 0, .int .i64 0] 58)) 58 [.slice none 0 0, .int .i64 0]
          rw [show (w2.alloc (.cells #[.slice none 0 0, .int .i64 0] 58)).heap.size = w2.heap.size + 1 by simp] at this
          exact this.grown (grownBy_setRow _ _ _) (fun e => by injection e; omega)
        have hB5 := Below.setRow_ (Below.setRow_ ((hB2.alloc hB2.size (.cells #[.slice none 0 0, .int .i64 0] 58)).alloc (by have := hB2.size; simp; omega) (.cells #[.slice none 0 0, .int .i64 0] 58)) hB2.size #[.slice A' z c', .int .i64 (dd : Int)]) (show wr.heap.size ≤ w2.heap.size + 1 by have := hB2.size; omega) #[.slice A1 z1 c1, .int .i64 (dd : Int)]
        have hb8' := (hb8.row #[.slice A' z c', .int .i64 (dd : Int)]).grown (grownBy_setRow _ (w2.heap.size + 1) #[.slice A1 z1 c1, .int .i64 (dd : Int)]) (fun e => by injection e; omega)
        have hb9' := hb9.row #[.slice A1 z1 c1, .int .i64 (dd : Int)]
        have h89 : wr.heap.size ≤ w2.heap.size := hB2.size
        clear hB2
        go_upto_region 5 with (first
          | (refine wpList_store_row rfl 58 _ _ rfl w2.heap.size #[.slice A' z c', .int .i64 (dd : Int)] rfl rfl 58 _ hb8 hps rfl (by simp [Value.oneCell']) ?_)
          | (refine wpList_store_row rfl 58 _ _ rfl (w2.heap.size + 1) #[.slice A1 z1 c1, .int .i64 (dd : Int)] rfl rfl 58 _ hb9 hps rfl (by simp [Value.oneCell']) ?_))
        clear hb8 hb9
        generalize (((w2.alloc (.cells #[.slice none 0 0, .int .i64 0] 58)).alloc (.cells #[.slice none 0 0, .int .i64 0] 58)).setRow w2.heap.size #[.slice A' z c', .int .i64 (dd : Int)]).setRow (w2.heap.size + 1) #[.slice A1 z1 c1, .int .i64 (dd : Int)] = w5 at *
        obtain ⟨g8, hg8⟩ : ∃ g, g = w2.heap.size := ⟨_, rfl⟩
        obtain ⟨g9, hg9⟩ : ∃ g, g = w2.heap.size + 1 := ⟨_, rfl⟩
        rw [← hg8] at hb8' h89
        rw [← hg9] at hb9'
        rw [← hg9, ← hg8]
        have HB5 := Lib.hid hB5; have HB8 := Lib.hid hb8'; have HB9 := Lib.hid hb9'
        have H8 := Lib.hid h89
        have H9 : Hid (wr.heap.size ≤ g9) := Lib.hid (by omega)
        have H89 : Hid (g8 ≠ g9) := Lib.hid (by omega)
        have HW5 := Lib.hid (HWr.out.keep hB5)
        clear hB5 hb8' hb9' h89 hg8 hg9 HH
        have hbit := HW5.out.bit
        have hc1 : w5.cell? ⟨g7, 1, none⟩ = some (.int .i64 (d : Int)) := by
          rw [HW5.out.part.cell]
          show some (Value.int .i64 ((256 - (r + 1) : Nat) : Int)) = _
          rw [show 256 - (r + 1) = d from by have := HDR.out; omega]
        have HBTL : Hid ((Tryd.prog.info? 95).map (·.size) = some (bys key).length) := Lib.hid (by rw [bys_len, HKY.out]; kernel_rfl)
        go_wp2_with (refine wpList_load_mid rfl 95 _ rfl g6 0 rfl (bys key) _ hbit.rngT Tryd.underlying95 rfl HBTL.out ?_)
        refine (at_any key HKY.out d (by have := HDR.out; omega) w5).mono ?_
        rintro e w6 ⟨rfl, hB6⟩
        clear hbit hc1
        have HW6 := Lib.hid (HW5.out.keep hB6)
        have HB6 := Lib.hid (HB5.out.trans (hB6.mono HB5.out.size))
        have hb8 := HB8.out.below hB6 HB8.out.lt
        have hb9 := HB9.out.below hB6 HB9.out.lt
        clear hB6 HB8 HB9 HB5 HW5
        rcases (by have := kbit_lt key d; omega : kbit key d = 0 ∨ kbit key d = 1) with hkb | hkb
        · have HPN := Lib.hid (HP0.out hkb)
          rw [hkb]
          have hc90 : w6.cell? ⟨g9, 0, none⟩ = some (.slice A1 z1 c1) := by rw [hb9.cell]; rfl
          have hc91 : w6.cell? ⟨g9, 1, none⟩ = some (.int .i64 (dd : Int)) := by rw [hb9.cell]; rfl
          have H8X := Lib.hid hb8
          clear hkb HP0 HP1 hb8 hb9
          go_wp2_with fail
          refine (HD1.out w6 (HWr.out.low.trans (HB6.out.mono HWr.out.low.size))).mono ?_
          rintro e w7 ⟨rfl, hB7⟩
          have HB7 := Lib.hid (HB6.out.trans (hB7.mono HB6.out.size))
          have hb87 := H8X.out.below hB7 H8X.out.lt
          have hd10 := HB.new w7 24 zdig
          have hb88 := (hb87.alloc (.cells zdig.toArray 24)).grown (grownBy_setRow _ w7.heap.size (bys D1).toArray) (fun e => by injection e; have := hb87.lt; omega)
          have hB8 := Below.setRow_ (HB7.out.alloc HB7.out.size (.cells zdig.toArray 24)) HB7.out.size (bys D1).toArray
          have hs10 := hd10.row (bys D1).toArray
          have HI := dig_info HLL1.out
          have HZ := dig_size HLL1.out
          have HA := dig_one D1
          clear hB7 hb87 hc90 hc91 H8X
          go_upto_region 8 with (refine wpList_store_row rfl 24 _ _ rfl w7.heap.size (bys D1).toArray rfl rfl 24 _ hd10 HI.out HZ.out HA.out ?_)
          clear hd10 HI HZ HA
          generalize (w7.alloc (.cells zdig.toArray 24)).setRow w7.heap.size (bys D1).toArray = w8 at *
          clear HB7
          generalize w7.heap.size = g10 at *
          have hW8 := HWr.out.keep hB8
          have hown := hW8.own
          have hgs := hW8.G_
          obtain ⟨i0, hi, hz0, hz1, hz2⟩ := info_parts Tryd.infoByte
          have hsee : Sees w8 w8.heap.size 1 (some ⟨g10, 0, none⟩) 32 (bys D1) := HB.sees hs10 _ hs10.lt (by rw [bys_len]; exact HLL1.out) (fun j u hu => by simpa using hu)
          have HW8 := Lib.hid hW8; have H88 := Lib.hid hb88
          clear hW8 hB8 hb88 hs10
          go_wp2_with (at_builtin; refine wpList_append_sees _ rfl (.tmp 33) (.tmp 34) 31 rfl G 5 i0 (.int .u8 0) 1 1 Tryd.underlying31 hi hz0 hz1 hz2 rfl (by decide) u5 T.length (bys T) rfl hown w8.heap.size (some ⟨g10, 0, none⟩) 32 32 (bys D1) rfl hsee (bys_one _) ?c1 ?c2 hgs ?_)
          case c1 => have := HTL.out; unfold maxLen; omega
          case c2 => have := HTL.out; omega
          intro v9 w9 hown9 hg9 hm9
          have ho9 : w9.ownsRow G 5 1 v9 (T ++ D1).length (bys (T ++ D1)) := by rw [List.length_append, HLL1.out, bys_append]; exact hown9
          have hb89 := H88.out.grown hg9 (fun e => by have := HWr.out.own.lt _ e.symm; have := H8.out; omega)
          have hb79 := HW8.out.part.grown hg9 (fun e => by have := HWr.out.own.lt _ e.symm; have := HG7.out; omega)
          have hnx := HW8.out.next HG6.out HG7.out HNE.out (r' := r) (A2 := A') (n2 := z) (c2 := c') ho9 hg9
          rw [← HDD.out] at hnx
          have hc80 : w9.cell? ⟨g8, 0, none⟩ = some (.slice A' z c') := by rw [hb89.cell]; rfl
          have hc81 : w9.cell? ⟨g8, 1, none⟩ = some (.int .i64 (dd : Int)) := by rw [hb89.cell]; rfl
          have HFC := Lib.hid (show (w9.setRow g7 #[.slice A' z c', .int .i64 (dd : Int)]).cell? ⟨g7, 1, none⟩ = some (.int .i64 (dd : Int)) by rw [(hb79.row #[.slice A' z c', .int .i64 (dd : Int)]).cell]; rfl)
          have HIC := Lib.hid (show wr.cell? ⟨g7, 1, none⟩ = some (.int .i64 (d : Int)) by rw [HPT.out.cell]; rfl)
          have HNX := Lib.hid hnx
          clear hown hown9 hg9 hm9 ho9 hnx hb89 hsee hgs
          go_wp2_with (refine wpList_store_row rfl 58 _ _ rfl g7 #[.slice A' z c', .int .i64 (dd : Int)] rfl rfl 58 _ hb79 hps rfl (by simp [Value.oneCell']) ?_)
          go_roundw
          case rel =>
            refine ⟨_, _, _, _, _, _, _, _, _, _, _, _, _, _, _, _, _, _, _, _, _, _, _, _, _, _, ?_, rfl⟩
            exact ⟨S ++ [D1], T ++ D1, r, A', z, c', _, L0, by rw [HTS.out]; simp, HPN.out, HNX.out⟩
          case measure =>
            rw [HFC.out, HIC.out]
            have := HDR.out; have := HDD.out
            simp [intOf]
            omega
        · have HPN := Lib.hid (HP1.out hkb)
          rw [hkb]
          have hc80 : w6.cell? ⟨g8, 0, none⟩ = some (.slice A' z c') := by rw [hb8.cell]; rfl
          have hc81 : w6.cell? ⟨g8, 1, none⟩ = some (.int .i64 (dd : Int)) := by rw [hb8.cell]; rfl
          have hc90 : w6.cell? ⟨g9, 0, none⟩ = some (.slice A1 z1 c1) := by rw [hb9.cell]; rfl
          have hc91 : w6.cell? ⟨g9, 1, none⟩ = some (.int .i64 (dd : Int)) := by rw [hb9.cell]; rfl
          have hb9s := hb9.grown (grownBy_setRow w6 g8 #[.slice A1 z1 c1, .int .i64 (dd : Int)]) (fun e => by injection e; have := H89.out; omega)
          have hb8n := (hb8.row #[.slice A1 z1 c1, .int .i64 (dd : Int)]).grown (grownBy_setRow _ g9 #[.slice A' z c', .int .i64 (dd : Int)]) (fun e => by injection e; have := H89.out; omega)
          have hb9n := hb9s.row #[.slice A' z c', .int .i64 (dd : Int)]
          have hBn := Below.setRow_ (Below.setRow_ HB6.out H8.out #[.slice A1 z1 c1, .int .i64 (dd : Int)]) H9.out #[.slice A' z c', .int .i64 (dd : Int)]
          go_upto_region 7 with (first
            | (refine wpList_store_row rfl 58 _ _ rfl g8 #[.slice A1 z1 c1, .int .i64 (dd : Int)] rfl rfl 58 _ hb8 hps rfl (by simp [Value.oneCell']) ?_)
            | (refine wpList_store_row rfl 58 _ _ rfl g9 #[.slice A' z c', .int .i64 (dd : Int)] rfl rfl 58 _ hb9s hps rfl (by simp [Value.oneCell']) ?_))
          clear hb8 hb9 hb9s hc80 hc81 hc90 hc91 HW6 HB6
          generalize (w6.setRow g8 #[.slice A1 z1 c1, .int .i64 (dd : Int)]).setRow g9 #[.slice A' z c', .int .i64 (dd : Int)] = w6b at *
          have HB6 := Lib.hid hBn
          have hb8 := hb8n; have hb9 := hb9n
          clear hBn hb8n hb9n
          have hc90 : w6b.cell? ⟨g9, 0, none⟩ = some (.slice A' z c') := by rw [hb9.cell]; rfl
          have hc91 : w6b.cell? ⟨g9, 1, none⟩ = some (.int .i64 (dd : Int)) := by rw [hb9.cell]; rfl
          have H8X := Lib.hid hb8
          clear hkb HP0 HP1 hb8 hb9
          go_wp2_with fail
          refine (HD0.out w6b (HWr.out.low.trans (HB6.out.mono HWr.out.low.size))).mono ?_
          rintro e w7 ⟨rfl, hB7⟩
          have HB7 := Lib.hid (HB6.out.trans (hB7.mono HB6.out.size))
          have hb87 := H8X.out.below hB7 H8X.out.lt
          have hd10 := HB.new w7 24 zdig
          have hb88 := (hb87.alloc (.cells zdig.toArray 24)).grown (grownBy_setRow _ w7.heap.size (bys D0).toArray) (fun e => by injection e; have := hb87.lt; omega)
          have hB8 := Below.setRow_ (HB7.out.alloc HB7.out.size (.cells zdig.toArray 24)) HB7.out.size (bys D0).toArray
          have hs10 := hd10.row (bys D0).toArray
          have HI := dig_info HLL0.out
          have HZ := dig_size HLL0.out
          have HA := dig_one D0
          clear hB7 hb87 hc90 hc91 H8X
          go_upto_region 8 with (refine wpList_store_row rfl 24 _ _ rfl w7.heap.size (bys D0).toArray rfl rfl 24 _ hd10 HI.out HZ.out HA.out ?_)
          clear hd10 HI HZ HA
          generalize (w7.alloc (.cells zdig.toArray 24)).setRow w7.heap.size (bys D0).toArray = w8 at *
          clear HB7
          generalize w7.heap.size = g10 at *
          have hW8 := HWr.out.keep hB8
          have hown := hW8.own
          have hgs := hW8.G_
          obtain ⟨i0, hi, hz0, hz1, hz2⟩ := info_parts Tryd.infoByte
          have hsee : Sees w8 w8.heap.size 1 (some ⟨g10, 0, none⟩) 32 (bys D0) := HB.sees hs10 _ hs10.lt (by rw [bys_len]; exact HLL0.out) (fun j u hu => by simpa using hu)
          have HW8 := Lib.hid hW8; have H88 := Lib.hid hb88
          clear hW8 hB8 hb88 hs10
          go_wp2_with (at_builtin; refine wpList_append_sees _ rfl (.tmp 33) (.tmp 34) 31 rfl G 5 i0 (.int .u8 0) 1 1 Tryd.underlying31 hi hz0 hz1 hz2 rfl (by decide) u5 T.length (bys T) rfl hown w8.heap.size (some ⟨g10, 0, none⟩) 32 32 (bys D0) rfl hsee (bys_one _) ?c1 ?c2 hgs ?_)
          case c1 => have := HTL.out; unfold maxLen; omega
          case c2 => have := HTL.out; omega
          intro v9 w9 hown9 hg9 hm9
          have ho9 : w9.ownsRow G 5 1 v9 (T ++ D0).length (bys (T ++ D0)) := by rw [List.length_append, HLL0.out, bys_append]; exact hown9
          have hb89 := H88.out.grown hg9 (fun e => by have := HWr.out.own.lt _ e.symm; have := H8.out; omega)
          have hb79 := HW8.out.part.grown hg9 (fun e => by have := HWr.out.own.lt _ e.symm; have := HG7.out; omega)
          have hnx := HW8.out.next HG6.out HG7.out HNE.out (r' := r) (A2 := A1) (n2 := z1) (c2 := c1) ho9 hg9
          rw [← HDD.out] at hnx
          have hc80 : w9.cell? ⟨g8, 0, none⟩ = some (.slice A1 z1 c1) := by rw [hb89.cell]; rfl
          have hc81 : w9.cell? ⟨g8, 1, none⟩ = some (.int .i64 (dd : Int)) := by rw [hb89.cell]; rfl
          have HFC := Lib.hid (show (w9.setRow g7 #[.slice A1 z1 c1, .int .i64 (dd : Int)]).cell? ⟨g7, 1, none⟩ = some (.int .i64 (dd : Int)) by rw [(hb79.row #[.slice A1 z1 c1, .int .i64 (dd : Int)]).cell]; rfl)
          have HIC := Lib.hid (show wr.cell? ⟨g7, 1, none⟩ = some (.int .i64 (d : Int)) by rw [HPT.out.cell]; rfl)
          have HNX := Lib.hid hnx
          clear hown hown9 hg9 hm9 ho9 hnx hb89 hsee hgs
          go_wp2_with (refine wpList_store_row rfl 58 _ _ rfl g7 #[.slice A1 z1 c1, .int .i64 (dd : Int)] rfl rfl 58 _ hb79 hps rfl (by simp [Value.oneCell']) ?_)
          go_roundw
          case rel =>
            refine ⟨_, _, _, _, _, _, _, _, _, _, _, _, _, _, _, _, _, _, _, _, _, _, _, _, _, _, ?_, rfl⟩
            exact ⟨S ++ [D0], T ++ D0, r, A1, z1, c1, _, L1, by rw [HTS.out]; simp, HPN.out, HNX.out⟩
          case measure =>
            rw [HFC.out, HIC.out]
            have := HDR.out; have := HDD.out
            simp [intOf]
            omega
end Go.Proofs.YtapbaonlboefeaaDoor
