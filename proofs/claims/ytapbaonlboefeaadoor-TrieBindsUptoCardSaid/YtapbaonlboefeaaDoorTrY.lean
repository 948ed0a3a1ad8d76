/- trie: decodeEnd. | trie: decodeEnd where it describes one entry. | trie: decodeEnd, whatever the bytes. -/
import Derived.Test.YtapbaonlboefeaaDoorTrV
import Derived.Test.YtapbaonlboefeaaDoorShaS
namespace Go.Proofs.YtapbaonlboefeaaDoor
open Go.RowKit

/-- The end that some bytes describe. -/
def endOf (b : List UInt8) : Option (List Ent) :=
  match splitF b with
  | some [] => some []
  | some [k, v] => if k.length = 32 then some [(k, v)] else none
  | _ => none
set_option maxRecDepth 20000 in
set_option maxHeartbeats 1600000 in
theorem dend_none (w : World) (A : Option Addr) (c : Nat) (b : List UInt8) (hs : Sees w w.heap.size 1 A b.length (bys b)) (hc : b.length ≤ c) (hcm : c ≤ 9223372036854775807) (hm : b.length ≤ 1099511627776) (h : splitF b = none) :
    Calls Tryd.prog 67 #[.slice A b.length c] w fun e w' => e = .returned (.tuple #[.slice none 0 0, .bool false]) ∧ Below w.heap.size w w' := by
  have HS := Lib.hid (split_any w.heap.size A c b w hs (Nat.le_refl _) hc hcm hm)
  rw [h] at HS
  clear hs hc hcm hm h
  go_enter Tryd.func67, Tryd.ntmps67
  go_wp2_with fail
  refine HS.out.mono ?_
  rintro e w2 ⟨hB, rfl⟩
  clear HS
  go_wp2
  go_ret2
  exact ⟨rfl, hB⟩
set_option maxRecDepth 20000 in
set_option maxHeartbeats 1600000 in
theorem dend_nil (w : World) (A : Option Addr) (c : Nat) (b : List UInt8) (hs : Sees w w.heap.size 1 A b.length (bys b)) (hc : b.length ≤ c) (hcm : c ≤ 9223372036854775807) (hm : b.length ≤ 1099511627776) (h : splitF b = some []) :
    Calls Tryd.prog 67 #[.slice A b.length c] w fun e w' => e = .returned (.tuple #[.slice none 0 0, .bool true]) ∧ Below w.heap.size w w' := by
  have HS := Lib.hid (split_any w.heap.size A c b w hs (Nat.le_refl _) hc hcm hm)
  rw [h] at HS
  clear hs hc hcm hm h
  go_enter Tryd.func67, Tryd.ntmps67
  go_wp2_with fail
  refine HS.out.mono ?_
  rintro e w2 ⟨hB, v, vs, rfl, ho, -, -⟩
  obtain ⟨A2, c2, rfl, -⟩ := own_slice ho
  clear HS ho
  go_wp2
  go_ret2
  exact ⟨rfl, hB⟩
/-- Another number of parts. -/
theorem dend_more (w : World) (A : Option Addr) (c : Nat) (b : List UInt8) (hs : Sees w w.heap.size 1 A b.length (bys b)) (hc : b.length ≤ c) (hcm : c ≤ 9223372036854775807) (hm : b.length ≤ 1099511627776) (ls : List (List UInt8)) (h : splitF b = some ls) (h0 : ls.length ≠ 0) (h2 : ls.length ≠ 2) :
    Calls Tryd.prog 67 #[.slice A b.length c] w fun e w' => e = .returned (.tuple #[.slice none 0 0, .bool false]) ∧ Below w.heap.size w w' := by
  have HS := Lib.hid (split_any w.heap.size A c b w hs (Nat.le_refl _) hc hcm hm)
  rw [h] at HS
  clear hs hc hcm hm h
  obtain ⟨n, hn⟩ : ∃ n, n = ls.length := ⟨_, rfl⟩
  have g0 : ((n : Int) == 0) = false := by simp; omega
  have g2 : ((n : Int) == 2) = false := by simp; omega
  have HN := Lib.hid hn
  clear h0 h2 hn
  go_enter Tryd.func67, Tryd.ntmps67
  go_wp2_with fail
  refine HS.out.mono ?_
  rintro e w2 ⟨hB, v, vs, rfl, ho, -, -⟩
  rw [← HN.out] at ho
  obtain ⟨A2, c2, rfl, -⟩ := own_slice ho
  clear HS ho
  go_wp2
  go_ret2
  exact ⟨rfl, hB⟩
set_option maxRecDepth 20000 in
set_option maxHeartbeats 1600000 in
/-- A key of another length. -/
theorem dend_key (w : World) (A : Option Addr) (c : Nat) (b : List UInt8) (hs : Sees w w.heap.size 1 A b.length (bys b)) (hc : b.length ≤ c) (hcm : c ≤ 9223372036854775807) (hm : b.length ≤ 1099511627776) (k v : List UInt8) (h : splitF b = some [k, v]) (h32 : k.length ≠ 32) :
    Calls Tryd.prog 67 #[.slice A b.length c] w fun e w' => e = .returned (.tuple #[.slice none 0 0, .bool false]) ∧ Below w.heap.size w w' := by
  have HS := Lib.hid (split_any w.heap.size A c b w hs (Nat.le_refl _) hc hcm hm)
  rw [h] at HS
  clear hs hc hcm hm h
  obtain ⟨n, hn⟩ : ∃ n, n = k.length := ⟨_, rfl⟩
  have g2 : ((n : Int) == 32) = false := by simp; omega
  have HN := Lib.hid hn
  clear h32 hn
  go_enter Tryd.func67, Tryd.ntmps67
  go_wp2_with fail
  refine HS.out.mono ?_
  rintro e w2 ⟨hB, vv, vs, rfl, ho, hl, -⟩
  obtain ⟨A2, c2, rfl, -⟩ := own_slice ho
  have hse := Sees.of_own ho
  obtain ⟨ad, u, rfl, -, hx, hc0⟩ := hse.at_ (k := 0) (by simp)
  obtain ⟨A1, c1, h1, -, -, -⟩ := hl.at_ (k := 0) (by simp)
  rw [h1] at hx
  injection hx with hx
  subst hx
  simp only [List.getElem_cons_zero, ← HN.out, add_zero] at hc0
  clear HS ho hl hse h1
  simp only [List.length_cons, List.length_nil, Nat.reduceAdd]
  go_wp2
  go_ret2
  exact ⟨rfl, hB⟩
end Go.Proofs.YtapbaonlboefeaaDoor
namespace Go.Proofs.YtapbaonlboefeaaDoor
open Go.RowKit

def zent : List Value := zdig ++ [.slice none 0 0]
theorem zent_len : zent.length = 33 := by simp [zent, zdig_len]
theorem Tryd.infoEnt : (Tryd.prog.info? 34).map (fun i => (i.zero, i.size, i.bytes)) = some (some (.agg zent.toArray), 33, 56) := by kernel_rfl
theorem Tryd.builtEnt : ∀ parts, Tryd.prog.built 34 parts = Instr.fill ([(0, 32), (32, 1)].toArray[·]?) zent.toArray parts := by intro parts; kernel_rfl
theorem built_ent (k : List UInt8) (hk : k.length = 32) (A : Option Addr) (n c : Nat) : Tryd.prog.built 34 [(0, .agg (bys k).toArray), (1, .slice A n c)] = some (bys k ++ [Value.slice A n c]).toArray := by
  rw [Tryd.builtEnt]
  have h2 := fill_fields ([(0, 32), (32, 1)].toArray[·]?) [.agg (bys k).toArray, .slice A n c] 0 0 zent.toArray ⟨by simp [Value.cells, bys_len, hk], by simp [Value.cells, bys_len, hk], trivial⟩ (by simp [cellsAll, Value.cells, bys_len, hk, zent_len])
  simpa [cellsAll, Value.cells] using h2
theorem fill_ent (cs : List Value) (hcs : cs.length = 33) (s : Nat) (hs : s = 33) : Instr.fill (fun i => some (i * s, s)) ((Array.range (1 * s)).map ((Value.agg zent.toArray).cells[· % (Value.agg zent.toArray).cells.size]!)) [(0, .agg cs.toArray)] = some cs.toArray := by
  subst hs
  have h2 := fill_fields (fun i => some (i * 33, 33)) [.agg cs.toArray] 0 0 ((Array.range (1 * 33)).map ((Value.agg zent.toArray).cells[· % (Value.agg zent.toArray).cells.size]!)) ⟨by simp [Value.cells, hcs], trivial⟩ (by simp [cellsAll, Value.cells, hcs])
  simpa [cellsAll, Value.cells] using h2
-- WHAT FOLLOWS IS WRITTEN BY wip/gen/trx.py
def DenR (G : Nat) (ad : Addr) (ps ks vv : Value) (k : List UInt8) (cs : List Value) : Nat → Value → World → Prop
  | 0, v, _ => v = ps
  | 1, v, _ => v = .pointer (some ad)
  | 2, v, _ => v = ks
  | 3, v, _ => v = .agg (bys k).toArray
  | 4, v, _ => v = ps
  | 5, v, _ => v = .pointer (some (ad.add 1))
  | 6, v, _ => v = vv
  | 7, v, _ => v = .agg cs.toArray
  | 8, v, w => ∃ b', v = .slice (some ⟨b', 0, none⟩) 1 1 ∧ G ≤ b' ∧ RowK w b' 34 cs
  | 9, v, w => ∃ b', v = .slice (some ⟨b', 0, none⟩) 1 1 ∧ G ≤ b' ∧ RowK w b' 34 cs
  | 10, v, _ => v = .bool true
  | _, _, _ => True
theorem DenR.keep {G : Nat} {ad : Addr} {ps ks vv : Value} {k : List UInt8} {cs : List Value} : ∀ (j : Nat) {v : Value} {w w' : World}, Keep G (· < G) w w' → DenR G ad ps ks vv k cs j v w → DenR G ad ps ks vv k cs j v w'
  | 0, _, _, _, _, h => h
  | 1, _, _, _, _, h => h
  | 2, _, _, _, _, h => h
  | 3, _, _, _, _, h => h
  | 4, _, _, _, _, h => h
  | 5, _, _, _, _, h => h
  | 6, _, _, _, _, h => h
  | 7, _, _, _, _, h => h
  | 8, v, w, _, hk, h => (by obtain ⟨b', h1, h2, h3⟩ := h; exact ⟨b', h1, h2, h3.keep hk (by omega)⟩)
  | 9, v, w, _, hk, h => (by obtain ⟨b', h1, h2, h3⟩ := h; exact ⟨b', h1, h2, h3.keep hk (by omega)⟩)
  | 10, _, _, _, _, h => h
  | _ + 11, _, _, _, _, _ => trivial

set_option maxRecDepth 20000 in
set_option maxHeartbeats 1600000 in
/-- A key of 32 bytes, and a value. -/
theorem dend_one (w : World) (A : Option Addr) (c : Nat) (b : List UInt8) (hs : Sees w w.heap.size 1 A b.length (bys b)) (hc : b.length ≤ c) (hcm : c ≤ 9223372036854775807) (hm : b.length ≤ 1099511627776) (k v : List UInt8) (h : splitF b = some [k, v]) (h32 : k.length = 32) :
    Calls Tryd.prog 67 #[.slice A b.length c] w fun e w' => Below w.heap.size w w' ∧ ∃ b' Av cv, e = .returned (.tuple #[.slice (some ⟨b', 0, none⟩) 1 1, .bool true]) ∧ w.heap.size ≤ b' ∧ b' < w'.heap.size ∧ RowK w' b' 34 (bys k ++ [Value.slice Av v.length cv]) ∧ Slot w' w'.heap.size (.slice Av v.length cv) v ∧ (∀ ad : Addr, Av = some ad → w.heap.size ≤ ad.block) := by
  have HS := Lib.hid (split_any w.heap.size A c b w hs (Nat.le_refl _) hc hcm hm)
  rw [h] at HS
  clear hs hc hcm hm h
  obtain ⟨n, hn⟩ : ∃ n, n = k.length := ⟨_, rfl⟩
  have g2 : ((n : Int) == 32) = true := by simp; omega
  have HN := Lib.hid hn
  have HK := Lib.hid h32
  clear h32 hn
  go_enter Tryd.func67, Tryd.ntmps67
  go_wp2_with fail
  refine HS.out.mono ?_
  rintro e w2 ⟨hB, vw, vs, rfl, ho, hl, hmine⟩
  obtain ⟨A2, c2, rfl, -⟩ := own_slice ho
  have hse := Sees.of_own ho
  obtain ⟨ad, u, rfl, hbd, hx, hc0⟩ := hse.at_ (k := 0) (by simp)
  obtain ⟨Ak, ck, h1, hk1, hk2, hk3⟩ := hl.at_ (k := 0) (by simp)
  rw [h1] at hx
  injection hx with hx
  subst hx
  obtain ⟨ad', u, ha', -, hx, hc1⟩ := hse.at_ (k := 1) (by simp)
  injection ha' with ha'
  subst ha'
  obtain ⟨Av, cv, h1', hv1, hv2, hv3⟩ := hl.at_ (k := 1) (by simp)
  rw [h1'] at hx
  injection hx with hx
  subst hx
  have HAV := Lib.hid (fun (ad : Addr) (e : Av = some ad) => (hmine _ _ _ (List.mem_of_getElem? h1') ad e).1)
  clear hmine
  simp only [List.getElem_cons_zero, List.getElem_cons_succ] at hc0 hc1 hk1 hk2 hk3 hv1 hv2 hv3
  rw [add_zero] at hc0
  rw [← HN.out] at hc0
  have HSL : Hid (Slot w2 w2.heap.size (.slice Av v.length cv) v) := Lib.hid ⟨Av, cv, rfl, hv1, hv2, hv3⟩
  have hks : Sees w2 w2.heap.size 1 Ak k.length (bys k) := hk3
  have HBW := Lib.hid hB
  have HC0 := Lib.hid hc0; have HC1 := Lib.hid hc1; have HAD := Lib.hid hbd
  have HSK : Hid (∀ W, Below w2.heap.size w2 W → Hid (Calls Tryd.prog 72 #[.slice Ak n ck] W (Digs W k))) := Lib.hid (fun W hW => Lib.hid (by
    have := toDigest_any W Ak ck k ((hks.below hW).wide hW.size) (by rw [HK.out]; exact Nat.le_refl _) (by have := HK.out; omega)
    rw [List.take_of_length_le (by rw [HK.out]; exact Nat.le_refl _), ← HN.out] at this
    exact this))
  have HBU := Lib.hid (built_ent k HK.out Av v.length cv)
  have HCL : Hid ((bys k ++ [Value.slice Av v.length cv]).length = 33) := Lib.hid (by simp [bys_len, HK.out])
  obtain ⟨cs, hcs⟩ : ∃ cs, (bys k ++ [Value.slice Av v.length cv]) = cs := ⟨_, rfl⟩
  rw [hcs] at HBU HCL
  have HCS := Lib.hid hcs
  clear hcs
  clear HS ho hl hse h1 h1' hk1 hk2 hk3 hv1 hv2 hv3 hc1 hbd hks hB
  simp only [List.length_cons, List.length_nil, Nat.reduceAdd]
  go_wp2_with fail
  obtain ⟨G, hG⟩ : ∃ G : Nat, w2.heap.size = G := ⟨_, rfl⟩
  rw [hG] at HAD HSK
  have HGW : Hid (w.heap.size ≤ G) := Lib.hid (by have := HBW.out.size; omega)
  refine wp_region_inv 41 (DenR G ad (.slice (some ad) 2 c2) (.slice Ak n ck) (.slice Av v.length cv) k cs) (Below G w2) (fun _ => Keep G (· < G)) (by kernel_rfl) (by rfl) (by kernel_rfl) (fun i j v W W' _ _ _ hT hR => DenR.keep j hT hR) (fun _ W W' hT hI => hI.trans hT.low) (Below.drew (Below.refl _ _)) (fun j ho1 ho vs W hI hdep => ?_) (fun vs W hI hR => ?_)
  · have hsz : G ≤ W.heap.size := by have := hI.size; omega
    clear hG hc0
    rcases j with _ | j
    · simp only [List.getElem?_toArray, List.getElem?_cons_zero, Option.some.injEq] at ho
      subst ho
      refine .inl ⟨rfl, fun K Q hK => ?_⟩
      simp only [putFrom, Act.put, List.setIfInBounds_toArray, List.set_cons_succ, List.set_cons_zero, Nat.reduceAdd] at hK ⊢
      have HOUT := Lib.hid hK
      clear hK hdep
      go_simp
      refine HOUT.out _ _ _ rfl ⟨Keep.refl _ _ _, ?_⟩
      exact rfl
    rcases j with _ | j
    · simp only [List.getElem?_toArray, List.getElem?_cons_succ, List.getElem?_cons_zero, Option.some.injEq, Nat.zero_add] at ho
      subst ho
      have e0 : vs 0 = _ := hdep 0 rfl
      refine .inl ⟨rfl, fun K Q hK => ?_⟩
      simp only [putFrom, Act.put, List.setIfInBounds_toArray, List.set_cons_succ, List.set_cons_zero, Nat.reduceAdd, e0] at hK ⊢
      have HOUT := Lib.hid hK
      clear hK hdep e0
      go_simp
      refine HOUT.out _ _ _ rfl ⟨Keep.refl _ _ _, ?_⟩
      exact rfl
    rcases j with _ | j
    · simp only [List.getElem?_toArray, List.getElem?_cons_succ, List.getElem?_cons_zero, Option.some.injEq, Nat.zero_add] at ho
      subst ho
      have e1 : vs 1 = _ := hdep 1 rfl
      have hc0 : W.cell? ad = some (.slice Ak n ck) := (hI.cell HAD.out).trans HC0.out
      refine .inl ⟨rfl, fun K Q hK => ?_⟩
      simp only [putFrom, Act.put, List.setIfInBounds_toArray, List.set_cons_succ, List.set_cons_zero, Nat.reduceAdd, e1] at hK ⊢
      have HOUT := Lib.hid hK
      clear hK hdep e1
      go_simp
      refine HOUT.out _ _ _ rfl ⟨Keep.refl _ _ _, ?_⟩
      exact rfl
    rcases j with _ | j
    · simp only [List.getElem?_toArray, List.getElem?_cons_succ, List.getElem?_cons_zero, Option.some.injEq, Nat.zero_add] at ho
      subst ho
      have e2 : vs 2 = _ := hdep 2 rfl
      have hk := HSK.out W hI
      refine .inl ⟨rfl, fun K Q hK => ?_⟩
      simp only [putFrom, Act.put, List.setIfInBounds_toArray, List.set_cons_succ, List.set_cons_zero, Nat.reduceAdd, e2] at hK ⊢
      have HOUT := Lib.hid hK
      clear hK hdep e2
      go_simp
      refine hk.out.mono ?_
      rintro e w8 ⟨rfl, hB8⟩
      go_simp
      refine HOUT.out _ _ _ rfl ⟨Keep.of_below hB8 hsz, ?_⟩
      exact rfl
    rcases j with _ | j
    · simp only [List.getElem?_toArray, List.getElem?_cons_succ, List.getElem?_cons_zero, Option.some.injEq, Nat.zero_add] at ho
      subst ho
      refine .inl ⟨rfl, fun K Q hK => ?_⟩
      simp only [putFrom, Act.put, List.setIfInBounds_toArray, List.set_cons_succ, List.set_cons_zero, Nat.reduceAdd] at hK ⊢
      have HOUT := Lib.hid hK
      clear hK hdep
      go_simp
      refine HOUT.out _ _ _ rfl ⟨Keep.refl _ _ _, ?_⟩
      exact rfl
    rcases j with _ | j
    · simp only [List.getElem?_toArray, List.getElem?_cons_succ, List.getElem?_cons_zero, Option.some.injEq, Nat.zero_add] at ho
      subst ho
      have e4 : vs 4 = _ := hdep 4 rfl
      refine .inl ⟨rfl, fun K Q hK => ?_⟩
      simp only [putFrom, Act.put, List.setIfInBounds_toArray, List.set_cons_succ, List.set_cons_zero, Nat.reduceAdd, e4] at hK ⊢
      have HOUT := Lib.hid hK
      clear hK hdep e4
      go_simp
      refine HOUT.out _ _ _ rfl ⟨Keep.refl _ _ _, ?_⟩
      exact rfl
    rcases j with _ | j
    · simp only [List.getElem?_toArray, List.getElem?_cons_succ, List.getElem?_cons_zero, Option.some.injEq, Nat.zero_add] at ho
      subst ho
      have e5 : vs 5 = _ := hdep 5 rfl
      have hc1 : W.cell? ⟨ad.block, ad.off + 1, none⟩ = some (.slice Av v.length cv) := by
        have q := (hI.cell (p := ad.add 1) (by rw [add_block]; exact HAD.out)).trans HC1.out
        exact q
      refine .inl ⟨rfl, fun K Q hK => ?_⟩
      simp only [putFrom, Act.put, List.setIfInBounds_toArray, List.set_cons_succ, List.set_cons_zero, Nat.reduceAdd, e5] at hK ⊢
      have HOUT := Lib.hid hK
      clear hK hdep e5
      go_simp
      refine HOUT.out _ _ _ rfl ⟨Keep.refl _ _ _, ?_⟩
      exact rfl
    rcases j with _ | j
    · simp only [List.getElem?_toArray, List.getElem?_cons_succ, List.getElem?_cons_zero, Option.some.injEq, Nat.zero_add] at ho
      subst ho
      have e3 : vs 3 = _ := hdep 3 rfl
      have e6 : vs 6 = _ := hdep 6 rfl
      have hb := HBU.out
      refine .inl ⟨rfl, fun K Q hK => ?_⟩
      simp only [putFrom, Act.put, List.setIfInBounds_toArray, List.set_cons_succ, List.set_cons_zero, Nat.reduceAdd, e3, e6] at hK ⊢
      have HOUT := Lib.hid hK
      clear hK hdep e3 e6
      refine wp_buildTo 34 _ rfl cs.toArray (by (simp only [List.map_toArray, List.map_cons, List.map_nil]; exact hb)) ?_
      simp only [Act.put, List.setIfInBounds_toArray, List.set_cons_succ, List.set_cons_zero]
      exact HOUT.out _ _ _ rfl ⟨Keep.refl _ _ _, rfl⟩
    rcases j with _ | j
    · simp only [List.getElem?_toArray, List.getElem?_cons_succ, List.getElem?_cons_zero, Option.some.injEq, Nat.zero_add] at ho
      subst ho
      have e7 : vs 7 = _ := hdep 7 rfl
      obtain ⟨i0, hi, hz0, hz1, hz2⟩ := info_parts Tryd.infoEnt
      have hfe := fill_ent cs HCL.out i0.size hz1
      refine .inl ⟨rfl, fun K Q hK => ?_⟩
      simp only [putFrom, Act.put, List.setIfInBounds_toArray, List.set_cons_succ, List.set_cons_zero, Nat.reduceAdd, e7] at hK ⊢
      have HOUT := Lib.hid hK
      clear hK hdep e7
      refine wp_buildSlice 26 34 1 _ rfl cs.toArray i0 (.agg zent.toArray) Tryd.underlying26 hi hz0 (by rw [hz1]; decide) (by rw [hz1]; decide) (by (simp only [List.map_toArray, List.map_cons, List.map_nil]; exact hfe)) ?_
      simp only [Act.put, List.setIfInBounds_toArray, List.set_cons_succ, List.set_cons_zero]
      refine HOUT.out _ _ _ rfl ⟨Keep.alloc hsz _, ?_⟩
      exact ⟨_, rfl, hsz, RowK.new W _ cs _⟩
    rcases j with _ | j
    · simp only [List.getElem?_toArray, List.getElem?_cons_succ, List.getElem?_cons_zero, Option.some.injEq, Nat.zero_add] at ho
      subst ho
      obtain ⟨b9, e8, g9, r9⟩ := hdep 8 rfl
      refine .inl ⟨rfl, fun K Q hK => ?_⟩
      simp only [putFrom, Act.put, List.setIfInBounds_toArray, List.set_cons_succ, List.set_cons_zero, Nat.reduceAdd, e8] at hK ⊢
      have HOUT := Lib.hid hK
      clear hK hdep e8
      go_simp
      refine HOUT.out _ _ _ rfl ⟨Keep.refl _ _ _, ?_⟩
      exact ⟨b9, rfl, g9, r9⟩
    rcases j with _ | j
    · simp only [List.getElem?_toArray, List.getElem?_cons_succ, List.getElem?_cons_zero, Option.some.injEq, Nat.zero_add] at ho
      subst ho
      refine .inl ⟨rfl, fun K Q hK => ?_⟩
      simp only [putFrom, Act.put, List.setIfInBounds_toArray, List.set_cons_succ, List.set_cons_zero, Nat.reduceAdd] at hK ⊢
      have HOUT := Lib.hid hK
      clear hK hdep
      go_simp
      refine HOUT.out _ _ _ rfl ⟨Keep.refl _ _ _, ?_⟩
      exact rfl
    exact absurd ho (by simp)
  · obtain ⟨b9, e9, g9, r9⟩ := hR 9 (by decide)
    have e10 : vs 10 = _ := hR 10 (by decide)
    have hB := HBW.out.trans (hI.mono HGW.out)
    simp only [putFrom, Act.put, List.setIfInBounds_toArray, List.set_cons_succ, List.set_cons_zero, Nat.reduceAdd, e9, e10]
    have hsl : Slot W W.heap.size (.slice Av v.length cv) v := by
      have := HSL.out
      rw [hG] at this
      exact (this.below hI).wide (by have := hI.size; omega)
    have hlt : b9 < W.heap.size := by obtain ⟨z, hz⟩ := r9; exact (Array.getElem?_eq_some_iff.1 hz).1
    have hge := Nat.le_trans HGW.out g9
    clear hR hI
    go_wp2
    go_ret2
    exact ⟨hB, b9, Av, cv, rfl, hge, hlt, by rw [HCS.out]; exact r9, hsl, HAV.out⟩
end Go.Proofs.YtapbaonlboefeaaDoor
namespace Go.Proofs.YtapbaonlboefeaaDoor
open Go.RowKit

/-- They lie in blocks from G on. -/
def NewE (G : Nat) (A : Option Addr) (vs : List Value) : Prop := (∀ ad : Addr, A = some ad → G ≤ ad.block) ∧ ∀ A' n c, Value.slice A' n c ∈ vs → ∀ ad : Addr, A' = some ad → G ≤ ad.block
theorem Sees.turn {w w' : World} {size n G : Nat} {A : Option Addr} {xs : List Value} (h : Sees w w.heap.size size A n xs) (hA : ∀ ad : Addr, A = some ad → G ≤ ad.block) (hc : ∀ p : Addr, G ≤ p.block → p.block < w.heap.size → w'.cell? p = w.cell? p) (hs : w.heap.size ≤ w'.heap.size) : Sees w' w'.heap.size size A n xs := by
  obtain ⟨h1, h2⟩ := h
  refine ⟨h1, ?_⟩
  rcases h2 with rfl | ⟨ad, rfl, hb, hx⟩
  · exact .inl rfl
  · exact .inr ⟨ad, rfl, Nat.lt_of_lt_of_le hb hs, fun j u hu => (hc _ (by rw [add_block]; exact hA ad rfl) (by rw [add_block]; exact hb)).trans (hx j u hu)⟩
theorem Slot.turn {w w' : World} {G n c : Nat} {A : Option Addr} {l : List UInt8} (h : Slot w w.heap.size (.slice A n c) l) (hA : ∀ ad : Addr, A = some ad → G ≤ ad.block) (hc : ∀ p : Addr, G ≤ p.block → p.block < w.heap.size → w'.cell? p = w.cell? p) (hs : w.heap.size ≤ w'.heap.size) : Slot w' w'.heap.size (.slice A n c) l := by
  obtain ⟨A', c', h1, h2, h3, h4⟩ := h
  cases h1
  exact ⟨A, c, rfl, h2, h3, h4.turn hA hc hs⟩
theorem EntsW.turn {w w' : World} {G : Nat} {A : Option Addr} {vs : List Value} {L : List Ent} (h : EntsW w w.heap.size A vs L) (hn : NewE G A vs) (hc : ∀ p : Addr, G ≤ p.block → p.block < w.heap.size → w'.cell? p = w.cell? p) (hs : w.heap.size ≤ w'.heap.size) : EntsW w' w'.heap.size A vs L :=
  ⟨h.len, h.sees.turn hn.1 hc hs, ⟨h.vals.1, fun i l hl => by
    obtain ⟨A', c, h1, h2, h3, h4⟩ := h.vals.2 i l hl
    exact ⟨A', c, h1, h2, h3, h4.turn (fun ad e => hn.2 A' _ c (List.mem_of_getElem? h1) ad e) hc hs⟩⟩, h.keys, h.short⟩
theorem NewE.low {G G' : Nat} {A : Option Addr} {vs : List Value} (h : NewE G A vs) (hG : G' ≤ G) : NewE G' A vs := ⟨fun ad e => Nat.le_trans hG (h.1 ad e), fun A' n c hm ad e => Nat.le_trans hG (h.2 A' n c hm ad e)⟩
/-- What decodeEnd answers. -/
def DecE (w : World) (r : Option (List Ent)) (e : Ending) (w' : World) : Prop :=
  Below w.heap.size w w' ∧ match r with
  | none => e = .returned (.tuple #[.slice none 0 0, .bool false])
  | some E => ∃ A c vs, e = .returned (.tuple #[.slice A E.length c, .bool true]) ∧ E.length ≤ c ∧ c ≤ 9223372036854775807 ∧ EntsW w' w'.heap.size A vs E ∧ NewE w.heap.size A vs
theorem ents_nil (w : World) : EntsW w w.heap.size none [] [] := ⟨rfl, ⟨rfl, .inl rfl⟩, Lists.nothing _ _, fun e he => (by cases he), fun e he => (by cases he)⟩
theorem ents_one {w : World} {b' : Nat} {v : Value} {k x : List UInt8} (hk : k.length = 32) (hx : x.length ≤ 140737488340000) (hr : RowK w b' 34 (bys k ++ [v])) (hb : b' < w.heap.size) (hs : Slot w w.heap.size v x) : EntsW w w.heap.size (some ⟨b', 0, none⟩) [v] [(k, x)] := by
  have e1 : entC [v] [(k, x)] = bys k ++ [v] := by simp [entC]
  refine ⟨rfl, ⟨by rw [e1, one_len hk]; rfl, .inr ⟨_, rfl, hb, fun j u hu => ?_⟩⟩, Lists.cons hs (Lists.nothing _ _), fun e he => ?_, fun e he => ?_⟩
  · rw [e1] at hu
    have := hr.rng j u hu
    rw [add_at]
    rw [Nat.zero_add] at this
    exact this
  · rw [List.mem_singleton.1 he]; exact hk
  · rw [List.mem_singleton.1 he]; exact hx
theorem dend_any (w : World) (A : Option Addr) (c : Nat) (b : List UInt8) (hs : Sees w w.heap.size 1 A b.length (bys b)) (hc : b.length ≤ c) (hcm : c ≤ 9223372036854775807) (hm : b.length ≤ 1099511627776) :
    Calls Tryd.prog 67 #[.slice A b.length c] w (DecE w (endOf b)) := by
  unfold endOf
  match h : splitF b with
  | none => exact (dend_none w A c b hs hc hcm hm h).mono fun e w' q => ⟨q.2, q.1⟩
  | some [] => exact (dend_nil w A c b hs hc hcm hm h).mono fun e w' q => ⟨q.2, none, 0, [], q.1, Nat.le_refl _, by omega, ents_nil w', (fun _ e => by cases e), (fun _ _ _ hm => by cases hm)⟩
  | some [x] => exact (dend_more w A c b hs hc hcm hm [x] h (by simp) (by simp)).mono fun e w' q => ⟨q.2, q.1⟩
  | some [k, v] =>
    by_cases hk : k.length = 32
    · have hv : v.length ≤ 140737488340000 := by
        have hj := congrArg List.length (join_split b _ h)
        simp [joinF_len, partsOf, part_len] at hj
        omega
      show Calls Tryd.prog 67 _ w (DecE w (if k.length = 32 then some [(k, v)] else none))
      rw [if_pos hk]
      exact (dend_one w A c b hs hc hcm hm k v h hk).mono fun e w' q => by
        obtain ⟨hB, b', Av, cv, he, h1, h2, hr, hsl, hav⟩ := q
        exact ⟨hB, some ⟨b', 0, none⟩, 1, _, he, Nat.le_refl _, by omega, ents_one hk hv hr h2 hsl, (fun ad e => by cases e; exact h1), (fun A' n c hm ad e => by cases List.mem_singleton.1 hm; exact hav ad e)⟩
    · show Calls Tryd.prog 67 _ w (DecE w (if k.length = 32 then some [(k, v)] else none))
      rw [if_neg hk]
      exact (dend_key w A c b hs hc hcm hm k v h hk).mono fun e w' q => ⟨q.2, q.1⟩
  | some (x :: y :: z :: r) => exact (dend_more w A c b hs hc hcm hm _ h (by simp) (by simp)).mono fun e w' q => ⟨q.2, q.1⟩
end Go.Proofs.YtapbaonlboefeaaDoor
