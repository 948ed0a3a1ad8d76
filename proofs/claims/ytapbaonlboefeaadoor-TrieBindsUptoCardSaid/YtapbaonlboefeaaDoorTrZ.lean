/- trie: decode. -/
import Derived.Test.YtapbaonlboefeaaDoorTrY
import Derived.Laws.ResultCell
namespace Go.Proofs.YtapbaonlboefeaaDoor
open Go.RowKit

/-- What some bytes tell as a proof. -/
def decF (b : List UInt8) : Option (List UInt8 × List Ent) :=
  match splitF b with
  | some [s, e] => if s.length % 32 = 0 ∧ s.length ≤ 8192 then (endOf e).map fun E => (s, E) else none
  | _ => none
def zTr : List Value := [.slice none 0 0, .slice none 0 0]
/-- What decode answers. -/
def DecW (w : World) (r : Option (List UInt8 × List Ent)) (e : Ending) (w' : World) : Prop :=
  Below w.heap.size w w' ∧ match r with
  | none => ∃ A n c A' n' c', e = .returned (.tuple #[.agg #[.slice A n c, .slice A' n' c'], .bool false])
  | some (T, E) => ∃ As cs A c vs, e = .returned (.tuple #[.agg #[.slice As T.length cs, .slice A E.length c], .bool true]) ∧ Slot w' w'.heap.size (.slice As T.length cs) T ∧ E.length ≤ c ∧ c ≤ 9223372036854775807 ∧ EntsW w' w'.heap.size A vs E ∧ (∀ ad : Addr, As = some ad → w.heap.size ≤ ad.block) ∧ NewE w.heap.size A vs
theorem results_rowT {P : Program} {fn : Func} {p u : Tmp} {ty : TypeId} (h : fn.results = #[.cell p ty, .tmp u]) (tmps : Array Value) (w : World) (g : Nat) (t : TypeId) (cs : List Value) (d : TypeDesc) (x : Value) (hp : tmps.getD p undef = .pointer (some ⟨g, 0, none⟩)) (hx : tmps.getD u undef = x) (hb : HB w g t cs)
    (hu : P.underlying ty = some d) (hd : d.isRow = true) (hi : (P.info? ty).map (·.size) = some cs.length) : (results fn tmps).run P w = .ok (.tuple #[.agg cs.toArray, x]) w := by
  rw [results_cell_tmp h, hp, hx]
  have hl := run_loadVar_mid (P := P) w g 0 ty cs d (fun j u hu => by rw [Nat.zero_add, hb.cell]; exact hu) hu hd hi
  simp only [asAddr, Sem.run_pure, Result.andThen_ok, hl]
/-- What a split into two hands back. -/
theorem two_parts {w w' : World} {s e : List UInt8} {en : Ending} (h : SplitPost w (some [s, e]) en w') : Below w.heap.size w w' ∧ ∃ ad c As cs Ae ce, en = .returned (.tuple #[.slice (some ad) 2 c, .bool true]) ∧ w'.cell? ad = some (.slice As s.length cs) ∧ w'.cell? (ad.add 1) = some (.slice Ae e.length ce) ∧ Slot w' w'.heap.size (.slice As s.length cs) s ∧ Slot w' w'.heap.size (.slice Ae e.length ce) e ∧ ad.block < w'.heap.size ∧ (∀ a : Addr, As = some a → w.heap.size ≤ a.block) := by
  obtain ⟨hB, v, vs, rfl, ho, hl, hmine⟩ := h
  obtain ⟨A2, c2, rfl, -⟩ := own_slice ho
  have hse := Sees.of_own ho
  obtain ⟨ad, u, rfl, hbd, hx, hc0⟩ := hse.at_ (k := 0) (by simp)
  obtain ⟨Ak, ck, h1, hk1, hk2, hk3⟩ := hl.at_ (k := 0) (by simp)
  rw [h1] at hx
  injection hx with hx
  subst hx
  obtain ⟨ad', u, ha', -, hx, hc1⟩ := hse.at_ (k := 1) (by simp)
  injection ha' with ha'
  subst ha'
  obtain ⟨Av, cv, h1', hv1, hv2, hv3⟩ := hl.at_ (k := 1) (by simp)
  rw [h1'] at hx
  injection hx with hx
  subst hx
  simp only [List.getElem_cons_zero, List.getElem_cons_succ] at hc0 hc1 hk1 hk2 hk3 hv1 hv2 hv3
  rw [add_zero] at hc0
  exact ⟨hB, ad, c2, Ak, ck, Av, cv, rfl, hc0, hc1, ⟨_, _, rfl, hk1, hk2, hk3⟩, ⟨_, _, rfl, hv1, hv2, hv3⟩, hbd, fun a e => (hmine _ _ _ (List.mem_of_getElem? h1) a e).1⟩
/-- A row that is written anew: what is no cell of it lies. -/
theorem EntsW.setRow {w : World} {g : Nat} {_t : TypeId} {_Z : List Value} {cs : Array Value} {A : Option Addr} {vs : List Value} {L : List Ent} (h : EntsW w g A vs L) : EntsW (w.setRow g cs) g A vs L := h.below (Below.setRow_ (Below.refl _ _) (Nat.le_refl _) cs)
set_option maxRecDepth 20000 in
set_option maxHeartbeats 1600000 in
theorem dec_none (w : World) (A : Option Addr) (c : Nat) (b : List UInt8) (hs : Sees w w.heap.size 1 A b.length (bys b)) (hc : b.length ≤ c) (hcm : c ≤ 9223372036854775807) (hm : b.length ≤ 1099511627776) (h : splitF b = none) :
    Calls Tryd.prog 52 #[.slice A b.length c] w (DecW w none) := by
  have hz := Tryd.zeroTrail
  have hB1 := below_alloc1 w (.cells zTr.toArray 62)
  have hb1 := HB.new w 62 zTr
  have hlt1 := hb1.lt
  have HS := Lib.hid (split_any w.heap.size A c b (w.alloc (.cells zTr.toArray 62)) (hs.below hB1) hB1.size hc hcm hm)
  rw [h] at HS
  clear hs hc hcm hm h
  go_enter Tryd.func52, Tryd.ntmps52
  go_wp2_with fail
  refine HS.out.mono ?_
  rintro e w2 ⟨hB, rfl⟩
  have hb2 := hb1.below hB hlt1
  have hBw := hB1.trans (hB.mono hB1.size)
  clear HS hb1 hB1 hB hlt1
  have hc5 : w2.cell? ⟨w.heap.size, 0, none⟩ = some (.slice none 0 0) := by rw [hb2.cell]; rfl
  have hc6 : w2.cell? ⟨w.heap.size, 1, none⟩ = some (.slice none 0 0) := by rw [hb2.cell]; rfl
  have hf5 := hb2.frozen 0
  have hf6 := hb2.frozen 1
  go_wp2_with fail
  refine bodyPost_ret (results_rowT rfl _ _ w.heap.size 62 [.slice none 0 0, .slice none 0 0] _ _ rfl rfl ((hb2.set_ 0 _).set_ 1 _) Tryd.underlying62 rfl (by kernel_rfl)) rfl ?_
  exact ⟨(hBw.setCell (Nat.le_refl _) _).setCell (Nat.le_refl _) _, _, _, _, _, _, _, rfl⟩
set_option maxRecDepth 20000 in
set_option maxHeartbeats 1600000 in
theorem dec_more (w : World) (A : Option Addr) (c : Nat) (b : List UInt8) (hs : Sees w w.heap.size 1 A b.length (bys b)) (hc : b.length ≤ c) (hcm : c ≤ 9223372036854775807) (hm : b.length ≤ 1099511627776) (ls : List (List UInt8)) (h : splitF b = some ls) (h2 : ls.length ≠ 2) :
    Calls Tryd.prog 52 #[.slice A b.length c] w (DecW w none) := by
  have hz := Tryd.zeroTrail
  have hB1 := below_alloc1 w (.cells zTr.toArray 62)
  have hb1 := HB.new w 62 zTr
  have hlt1 := hb1.lt
  have HS := Lib.hid (split_any w.heap.size A c b (w.alloc (.cells zTr.toArray 62)) (hs.below hB1) hB1.size hc hcm hm)
  rw [h] at HS
  clear hs hc hcm hm h
  obtain ⟨n, hn⟩ : ∃ n, n = ls.length := ⟨_, rfl⟩
  have g2 : ((n : Int) != 2) = true := by simp; omega
  have HN := Lib.hid hn
  clear h2 hn
  go_enter Tryd.func52, Tryd.ntmps52
  go_wp2_with fail
  refine HS.out.mono ?_
  rintro e w2 ⟨hB, v, vs, rfl, ho, -, -⟩
  rw [← HN.out] at ho
  obtain ⟨A2, c2, rfl, -⟩ := own_slice ho
  have hb2 := hb1.below hB hlt1
  have hBw := hB1.trans (hB.mono hB1.size)
  clear HS hb1 hB1 hB hlt1 ho
  have hc5 : w2.cell? ⟨w.heap.size, 0, none⟩ = some (.slice none 0 0) := by rw [hb2.cell]; rfl
  have hc6 : w2.cell? ⟨w.heap.size, 1, none⟩ = some (.slice none 0 0) := by rw [hb2.cell]; rfl
  have hf5 := hb2.frozen 0
  have hf6 := hb2.frozen 1
  go_wp2_with fail
  refine bodyPost_ret (results_rowT rfl _ _ w.heap.size 62 [.slice none 0 0, .slice none 0 0] _ _ rfl rfl ((hb2.set_ 0 _).set_ 1 _) Tryd.underlying62 rfl (by kernel_rfl)) rfl ?_
  exact ⟨(hBw.setCell (Nat.le_refl _) _).setCell (Nat.le_refl _) _, _, _, _, _, _, _, rfl⟩
set_option maxRecDepth 20000 in
set_option maxHeartbeats 1600000 in
/-- Siblings of a wrong length. -/
theorem dec_len (w : World) (A : Option Addr) (c : Nat) (b : List UInt8) (hs : Sees w w.heap.size 1 A b.length (bys b)) (hc : b.length ≤ c) (hcm : c ≤ 9223372036854775807) (hm : b.length ≤ 1099511627776) (s e : List UInt8) (h : splitF b = some [s, e]) (h32 : s.length % 32 ≠ 0) :
    Calls Tryd.prog 52 #[.slice A b.length c] w (DecW w none) := by
  have hz := Tryd.zeroTrail
  have hB1 := below_alloc1 w (.cells zTr.toArray 62)
  have hb1 := HB.new w 62 zTr
  have hlt1 := hb1.lt
  have HS := Lib.hid (split_any w.heap.size A c b (w.alloc (.cells zTr.toArray 62)) (hs.below hB1) hB1.size hc hcm hm)
  rw [h] at HS
  clear hs hc hcm hm h
  obtain ⟨n, hn⟩ : ∃ n, n = s.length := ⟨_, rfl⟩
  have g2 : ((n : Int) % 32 != 0) = true := by simp; omega
  have HN := Lib.hid hn
  clear h32 hn
  go_enter Tryd.func52, Tryd.ntmps52
  go_wp2_with fail
  refine HS.out.mono ?_
  rintro en w2 hsp
  obtain ⟨hB, ad, c2, As, cs, Ae, ce, rfl, hc0, hc1, hS0, hS1, hbd, hAs⟩ := two_parts hsp
  rw [← HN.out] at hc0
  have hb2 := hb1.below hB hlt1
  have hlt2 := hb2.lt
  have hBw := hB1.trans (hB.mono hB1.size)
  clear HS hb1 hB1 hB hlt1 hsp hc1 hS0 hS1 hbd hAs
  have hc5 : w2.cell? ⟨w.heap.size, 0, none⟩ = some (.slice none 0 0) := by rw [hb2.cell]; rfl
  have hc6 : w2.cell? ⟨w.heap.size, 1, none⟩ = some (.slice none 0 0) := by rw [hb2.cell]; rfl
  have hf5 := hb2.frozen 0
  have hf6 := hb2.frozen 1
  go_wp2_with fail
  refine bodyPost_ret (results_rowT rfl _ _ w.heap.size 62 [.slice none 0 0, .slice none 0 0] _ _ rfl rfl ((hb2.set_ 0 _).set_ 1 _) Tryd.underlying62 rfl (by kernel_rfl)) rfl ?_
  exact ⟨(hBw.setCell (Nat.le_refl _) _).setCell (Nat.le_refl _) _, _, _, _, _, _, _, rfl⟩
set_option maxRecDepth 20000 in
set_option maxHeartbeats 1600000 in
theorem dec_far (w : World) (A : Option Addr) (c : Nat) (b : List UInt8) (hs : Sees w w.heap.size 1 A b.length (bys b)) (hc : b.length ≤ c) (hcm : c ≤ 9223372036854775807) (hm : b.length ≤ 1099511627776) (s e : List UInt8) (h : splitF b = some [s, e]) (h32 : s.length % 32 = 0) (hfar : 8192 < s.length) :
    Calls Tryd.prog 52 #[.slice A b.length c] w (DecW w none) := by
  have hz := Tryd.zeroTrail
  have hB1 := below_alloc1 w (.cells zTr.toArray 62)
  have hb1 := HB.new w 62 zTr
  have hlt1 := hb1.lt
  have HS := Lib.hid (split_any w.heap.size A c b (w.alloc (.cells zTr.toArray 62)) (hs.below hB1) hB1.size hc hcm hm)
  rw [h] at HS
  clear hs hc hcm hm h
  obtain ⟨n, hn⟩ : ∃ n, n = s.length := ⟨_, rfl⟩
  have g2 : ((n : Int) % 32 != 0) = false := by simp; omega
  have g3 : (8192 : Int) < (n : Int) := by omega
  have HN := Lib.hid hn
  clear h32 hfar hn
  go_enter Tryd.func52, Tryd.ntmps52
  go_wp2_with fail
  refine HS.out.mono ?_
  rintro en w2 hsp
  obtain ⟨hB, ad, c2, As, cs, Ae, ce, rfl, hc0, hc1, hS0, hS1, hbd, hAs⟩ := two_parts hsp
  rw [← HN.out] at hc0
  have hb2 := hb1.below hB hlt1
  have hlt2 := hb2.lt
  have hBw := hB1.trans (hB.mono hB1.size)
  clear HS hb1 hB1 hB hlt1 hsp hc1 hS0 hS1 hbd hAs
  have hc5 : w2.cell? ⟨w.heap.size, 0, none⟩ = some (.slice none 0 0) := by rw [hb2.cell]; rfl
  have hc6 : w2.cell? ⟨w.heap.size, 1, none⟩ = some (.slice none 0 0) := by rw [hb2.cell]; rfl
  have hf5 := hb2.frozen 0
  have hf6 := hb2.frozen 1
  go_wp2_with fail
  refine bodyPost_ret (results_rowT rfl _ _ w.heap.size 62 [.slice none 0 0, .slice none 0 0] _ _ rfl rfl ((hb2.set_ 0 _).set_ 1 _) Tryd.underlying62 rfl (by kernel_rfl)) rfl ?_
  exact ⟨(hBw.setCell (Nat.le_refl _) _).setCell (Nat.le_refl _) _, _, _, _, _, _, _, rfl⟩
set_option maxRecDepth 20000 in
set_option maxHeartbeats 1600000 in
theorem dec_two (w : World) (A : Option Addr) (c : Nat) (b : List UInt8) (hs : Sees w w.heap.size 1 A b.length (bys b)) (hc : b.length ≤ c) (hcm : c ≤ 9223372036854775807) (hm : b.length ≤ 1099511627776) (s e : List UInt8) (h : splitF b = some [s, e]) (h32 : s.length % 32 = 0) (hfar : s.length ≤ 8192) (hel : e.length ≤ 1099511627776) (r : Option (List Ent)) (hr : endOf e = r) :
    Calls Tryd.prog 52 #[.slice A b.length c] w (DecW w (r.map fun E => (s, E))) := by
  have hz := Tryd.zeroTrail
  have hB1 := below_alloc1 w (.cells zTr.toArray 62)
  have hb1 := HB.new w 62 zTr
  have hlt1 := hb1.lt
  have HS := Lib.hid (split_any w.heap.size A c b (w.alloc (.cells zTr.toArray 62)) (hs.below hB1) hB1.size hc hcm hm)
  rw [h] at HS
  clear hs hc hcm hm h
  have HRR := Lib.hid hr
  obtain ⟨n, hn⟩ : ∃ n, n = s.length := ⟨_, rfl⟩
  have g2 : ((n : Int) % 32 != 0) = false := by simp; omega
  have g3 : (n : Int) ≤ 8192 := by omega
  have HN := Lib.hid hn
  clear h32 hfar hr hn
  go_enter Tryd.func52, Tryd.ntmps52
  go_wp2_with fail
  refine HS.out.mono ?_
  rintro en w2 hsp
  obtain ⟨hB, ad, c2, As, cs, Ae, ce, rfl, hc0, hc1, hS0, hS1, hbd, hAs⟩ := two_parts hsp
  rw [← HN.out] at hc0
  have hb2 := hb1.below hB hlt1
  have hlt2 := hb2.lt
  have hBw := hB1.trans (hB.mono hB1.size)
  obtain ⟨Ae', ce', he1, he2, he3, he4⟩ := hS1
  cases he1
  have HD := Lib.hid (dend_any w2 Ae ce e he4 he2 he3 hel)
  rw [HRR.out] at HD
  have HS0 := Lib.hid hS0
  have HAS := Lib.hid hAs
  have HZ1 := Lib.hid (show w.heap.size + 1 = (w.alloc (.cells zTr.toArray 62)).heap.size by simp)
  have HZ2 := Lib.hid hB.size
  have hbd1 : (ad.add 1).block < w2.heap.size := by rw [add_block]; exact hbd
  clear HS hb1 hB1 hB hlt1 hsp hS0 hbd hbd1 he4 hAs
  have hc1' : w2.cell? ⟨ad.block, ad.off + 1, none⟩ = some (.slice Ae e.length ce) := hc1
  go_wp2_with fail
  refine HD.out.mono ?_
  rintro en w3 ⟨hB3, hres⟩
  have hb3 := hb2.below hB3 hlt2
  have hBw3 := hBw.trans (hB3.mono hBw.size)
  have HS3 : Hid (Slot w3 w3.heap.size (.slice As s.length cs) s) := Lib.hid ((HS0.out.below hB3).wide hB3.size)
  clear HD hB3 hBw hb2 hlt2 hc0 hc1 hc1'
  cases r with
  | none =>
    subst hres
    have hc5 : w3.cell? ⟨w.heap.size, 0, none⟩ = some (.slice none 0 0) := by rw [hb3.cell]; rfl
    have hc6 : w3.cell? ⟨w.heap.size, 1, none⟩ = some (.slice none 0 0) := by rw [hb3.cell]; rfl
    have hf5 := hb3.frozen 0
    have hf6 := hb3.frozen 1
    go_wp2
    refine bodyPost_ret (results_rowT rfl _ _ w.heap.size 62 [.slice As n cs, .slice none 0 0] _ _ rfl rfl ((hb3.set_ 0 _).set_ 1 _) Tryd.underlying62 rfl (by kernel_rfl)) rfl ?_
    exact ⟨(hBw3.setCell (Nat.le_refl _) _).setCell (Nat.le_refl _) _, _, _, _, _, _, _, rfl⟩
  | some E =>
    obtain ⟨A3, c3, vs, rfl, hc3, hcm3, hents, hnew⟩ := hres
    have HNW := Lib.hid hnew
    have HEN := Lib.hid hents
    obtain ⟨m, hmm⟩ : ∃ m, m = E.length := ⟨_, rfl⟩
    have HM := Lib.hid hmm
    rw [← hmm] at hc3 ⊢
    clear hents hmm hnew
    have hc5 : w3.cell? ⟨w.heap.size, 0, none⟩ = some (.slice none 0 0) := by rw [hb3.cell]; rfl
    have hc6 : w3.cell? ⟨w.heap.size, 1, none⟩ = some (.slice none 0 0) := by rw [hb3.cell]; rfl
    have hf5 := hb3.frozen 0
    have hf6 := hb3.frozen 1
    go_wp2
    refine bodyPost_ret (results_rowT rfl _ _ w.heap.size 62 [.slice As n cs, .slice A3 m c3] _ _ rfl rfl ((hb3.set_ 0 _).set_ 1 _) Tryd.underlying62 rfl (by kernel_rfl)) rfl ?_
    have hcell : ∀ p : Addr, w.heap.size + 1 ≤ p.block → ((w3.setCell ⟨w.heap.size, 0, none⟩ (.slice As n cs)).setCell ⟨w.heap.size, 1, none⟩ (.slice A3 m c3)).cell? p = w3.cell? p := fun p hp => (World.cell?_setCell_other _ _ p _ (fun e => by subst e; simp at hp; omega)).trans (World.cell?_setCell_other _ _ p _ (fun e => by subst e; simp at hp; omega))
    have hsz : ((w3.setCell ⟨w.heap.size, 0, none⟩ (.slice As n cs)).setCell ⟨w.heap.size, 1, none⟩ (.slice A3 m c3)).heap.size = w3.heap.size := by simp [World.setCell]
    refine ⟨(hBw3.setCell (Nat.le_refl _) _).setCell (Nat.le_refl _) _, As, cs, A3, c3, vs, by rw [← HN.out, ← HM.out]; rfl, ?_, by rw [← HM.out]; exact hc3, hcm3, ?_, ?_, ?_⟩
    · exact HS3.out.turn HAS.out (fun p h1 _ => hcell p (by have := HZ1.out; omega)) (Nat.le_of_eq hsz.symm)
    · exact HEN.out.turn HNW.out (fun p h1 _ => hcell p (by have := HZ1.out; have := HZ2.out; omega)) (Nat.le_of_eq hsz.symm)
    · intro ad e
      have := HAS.out ad e
      have := HZ1.out
      omega
    · exact HNW.out.low (by have := HZ1.out; have := HZ2.out; omega)
theorem dec_any (w : World) (A : Option Addr) (c : Nat) (b : List UInt8) (hs : Sees w w.heap.size 1 A b.length (bys b)) (hc : b.length ≤ c) (hcm : c ≤ 9223372036854775807) (hm : b.length ≤ 1099511627776) :
    Calls Tryd.prog 52 #[.slice A b.length c] w (DecW w (decF b)) := by
  unfold decF
  match h : splitF b with
  | none => exact dec_none w A c b hs hc hcm hm h
  | some [] => exact dec_more w A c b hs hc hcm hm [] h (by simp)
  | some [x] => exact dec_more w A c b hs hc hcm hm [x] h (by simp)
  | some (x :: y :: z :: r) => exact dec_more w A c b hs hc hcm hm _ h (by simp)
  | some [s, e] =>
    have hj := congrArg List.length (join_split b _ h)
    simp [joinF_len, partsOf, part_len] at hj
    by_cases h1 : s.length % 32 = 0
    · by_cases h2 : s.length ≤ 8192
      · show Calls Tryd.prog 52 _ w (DecW w (if s.length % 32 = 0 ∧ s.length ≤ 8192 then (endOf e).map fun E => (s, E) else none))
        rw [if_pos ⟨h1, h2⟩]
        exact dec_two w A c b hs hc hcm hm s e h h1 h2 (by omega) _ rfl
      · show Calls Tryd.prog 52 _ w (DecW w (if s.length % 32 = 0 ∧ s.length ≤ 8192 then (endOf e).map fun E => (s, E) else none))
        rw [if_neg (fun q => h2 q.2)]
        exact dec_far w A c b hs hc hcm hm s e h h1 (by omega)
    · show Calls Tryd.prog 52 _ w (DecW w (if s.length % 32 = 0 ∧ s.length ≤ 8192 then (endOf e).map fun E => (s, E) else none))
      rw [if_neg (fun q => h1 q.1)]
      exact dec_len w A c b hs hc hcm hm s e h h1
end Go.Proofs.YtapbaonlboefeaaDoor
