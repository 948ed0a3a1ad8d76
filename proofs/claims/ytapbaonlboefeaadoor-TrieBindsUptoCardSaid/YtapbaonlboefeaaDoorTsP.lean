/- trie: wapentakelaw04.awake. WRITTEN BY wip/gen/tsp.py. -/
import Derived.Test.YtapbaonlboefeaaDoorTsO
namespace Go.Proofs.YtapbaonlboefeaaDoor
open Go.RowKit

def kOf (a : UInt8) : List UInt8 := a :: List.replicate 31 0
theorem fill_ent2 (cs cs' : List Value) (hcs : cs.length = 33) (hcs' : cs'.length = 33) (s : Nat) (hs : s = 33) : Instr.fill (fun i => some (i * s, s)) ((Array.range (2 * s)).map ((Value.agg zent.toArray).cells[· % (Value.agg zent.toArray).cells.size]!)) [(0, .agg cs.toArray), (1, .agg cs'.toArray)] = some (cs ++ cs').toArray := by
  subst hs
  have h2 := fill_fields (fun i => some (i * 33, 33)) [.agg cs.toArray, .agg cs'.toArray] 0 0 ((Array.range (2 * 33)).map ((Value.agg zent.toArray).cells[· % (Value.agg zent.toArray).cells.size]!)) ⟨by simp [Value.cells, hcs], by simp [Value.cells, hcs, hcs'], trivial⟩ (by simp [cellsAll, Value.cells, hcs, hcs'])
  simpa [cellsAll, Value.cells] using h2
theorem kOf_len (a : UInt8) : (kOf a).length = 32 := rfl
theorem built_k1 : Tryd.prog.built 24 [(0, .int .u8 1)] = some (bys (kOf 1)).toArray := by kernel_rfl
theorem built_k2 : Tryd.prog.built 24 [(0, .int .u8 200)] = some (bys (kOf 200)).toArray := by kernel_rfl
set_option maxRecDepth 20000 in
theorem build_b1 (W : World) (a : Int) : (Instr.buildSlice 31 1 #[(0, .int .u8 a)]).run Tryd.prog W = .ok (.slice (some ⟨W.heap.size, 0, none⟩) 1 1) (W.alloc (.cells #[.int .u8 a] 5)) := by
  obtain ⟨i0, hi, hz0, hz1, hz2⟩ := info_parts Tryd.infoByte
  exact run_buildSlice (P := Tryd.prog) W 31 5 1 _ _ i0 (.int .u8 0) Tryd.underlying31 hi hz0 (by rw [hz1]; decide) (by rw [hz1]; decide) (by rw [hz1]; exact Great.fill_flat [.int .u8 a] _ (by simp [Value.cells]) (by simp))
theorem built_k3 : Tryd.prog.built 24 [(0, .int .u8 2)] = some (bys (kOf 2)).toArray := by kernel_rfl
/-- Verify, where what it tells is known. -/
theorem ver_said (W : World) (hk : Consts W) (rt k : List UInt8) (hrt : rt.length = 32) (hkl : k.length = 32) (A : Option Addr) (c : Nat) (pf : List UInt8) (hs : Slot W W.heap.size (.slice A pf.length c) pf) (hm : pf.length ≤ 1099511627776) (l : List UInt8) (bo : Bool) (ec : Nat) (he : verF rt k pf = (l, bo, ec)) (z : Int) (hz : (ec : Int) = z) :
    Calls Tryd.prog 18 #[.agg (bys rt).toArray, .agg (bys k).toArray, .slice A pf.length c] W fun e w' => Below W.heap.size W w' ∧ ∃ A c, e = .returned (.tuple #[.slice A l.length c, .bool bo, .int .i64 z]) ∧ SlotK (· < W.heap.size) w' (.slice A l.length c) l := by
  obtain ⟨A', c', e', h1, h2, h3⟩ := hs
  obtain ⟨rfl, -, rfl⟩ := Value.slice.inj e'
  have h := ver_any W hk rt k hrt hkl A c pf h3 h1 h2 hm
  rw [he] at h
  refine h.mono fun e w' ⟨hB, A2, c2, e2, ⟨A3, c3, e3, q1, q2, q3⟩, hn⟩ => ⟨hB, A2, c2, by rw [e2, ← hz], A3, c3, e3, q1, q2, q3, fun ad ha => ?_⟩
  obtain ⟨rfl, -, -⟩ := Value.slice.inj e3
  have := hn ad ha
  omega
theorem encF_len (T : List UInt8) (E : List Ent) (hT : T.length ≤ 8192) (hf : E.length < 2) (hk : Keys E) (hs : ∀ e ∈ E, e.2.length ≤ 1073741824) : (encF T E).length ≤ 1099511627776 := by
  match E with
  | [] => unfold encF; rw [pair_len, nil_len]; omega
  | [(k, v)] =>
    have h1 := hk (k, v) (by simp)
    have h2 := hs (k, v) (by simp)
    simp only at h1 h2
    unfold encF
    rw [pair_len, pair_len]
    simp only
    omega
  | _ :: _ :: _ => simp at hf; omega
theorem proofT_len (L : List Ent) (key : List UInt8) (hm : MayP L) (hk : Keys L) (hkey : key.length = 32) (hs : ∀ e ∈ L, e.2.length ≤ 1073741824) : (proofT L key).length ≤ 1099511627776 := by
  have hsl := sibT_len key 256 L
  have hfl := flat_len (sibT key 256 L) hsl.2
  exact encF_len _ _ (by omega) (endT_few key hkey 256 L (Nat.le_refl _) hm hk (on_0 hk hkey)).1 (fun e he => hk e (endT_sub key 256 L e he)) (fun e he => hs e (endT_sub key 256 L e he))
theorem rootT_len (L : List Ent) : (rootT L).length = 32 := by
  unfold rootT
  split
  · exact digT_len _ _
  · exact List.length_replicate ..
/-- Two entries in a literal. -/
theorem ents_two {w : World} {b' : Nat} {v1 v2 : Value} {k1 x1 k2 x2 : List UInt8} (hk1 : k1.length = 32) (hk2 : k2.length = 32) (hx1 : x1.length ≤ 140737488340000) (hx2 : x2.length ≤ 140737488340000) (hr : RowK w b' 34 ((bys k1 ++ [v1]) ++ (bys k2 ++ [v2]))) (hb : b' < w.heap.size) (hs1 : Slot w w.heap.size v1 x1) (hs2 : Slot w w.heap.size v2 x2) : EntsW w w.heap.size (some ⟨b', 0, none⟩) [v1, v2] [(k1, x1), (k2, x2)] := by
  have e1 : entC [v1, v2] [(k1, x1), (k2, x2)] = (bys k1 ++ [v1]) ++ (bys k2 ++ [v2]) := by simp [entC]
  refine ⟨rfl, ⟨by rw [e1, List.length_append, one_len hk1, one_len hk2]; rfl, .inr ⟨_, rfl, hb, fun j u hu => ?_⟩⟩, Lists.cons hs1 (Lists.cons hs2 (Lists.nothing _ _)), fun e he => ?_, fun e he => ?_⟩
  · rw [e1] at hu
    have := hr.rng j u hu
    rw [add_at]
    rw [Nat.zero_add] at this
    exact this
  · rcases List.mem_cons.1 he with rfl | he
    · exact hk1
    · rw [List.mem_singleton.1 he]; exact hk2
  · rcases List.mem_cons.1 he with rfl | he
    · exact hx1
    · rw [List.mem_singleton.1 he]; exact hx2
theorem of_row {W : World} {b n : Nat} {vs : List Value} {ls : List (List UInt8)} (h : RowK W b 31 vs) (hv : vs.length = ls.length) (hn : ls.length = n) (hl : Lists W W.heap.size vs ls) (hT : (joinF ls).length ≤ 140737488355328) (hk : Consts W) :
    Calls Tryd.prog 23 #[.slice (some ⟨b, 0, none⟩) n n] W (Digs W (shaF (joinF ls))) := by
  subst hn
  exact of_any W.heap.size (some ⟨b, 0, none⟩) ls.length vs ls W (h.sees hv) hl (Nat.le_refl _) hT hk
theorem wp_append_full {P : Program} {w : World} {o : Oper} {a : Act} {K : Act → World → Prop} {Q : Exit → Act → World → Prop} (s x : Operand) (t : TypeId)
    (ho : o.op = .call { callee := .builtin .append, args := #[s, x], argTypes := #[t, t] })
    (e : TypeId) (i : TypeInfo) (z : Value) (ht : P.underlying t = some (.slice e)) (hi : P.info? e = some i) (hz : i.zero = some z)
    (b : Addr) (sLen sCap : Nat) (olds : List Value) (hs : a.eval s = .slice (some b) sLen sCap) (hlo : olds.length = sLen * i.size) (holds : ∀ j v, olds[j]? = some v → w.cell? (b.add j) = some v)
    (ad : Addr) (n c : Nat) (news : List Value) (hx : a.eval x = .slice (some ad) n c) (hl : news.length = n * i.size) (hnews : ∀ j v, news[j]? = some v → w.cell? (ad.add j) = some v)
    (hg : sCap < sLen + n) (h63 : ((sLen + n : Nat) : Int) ≤ 9223372036854775807) (hfit : Builtin.nextslicecap (sLen + n) sCap * i.bytes ≤ 281474976710656)
    (h : ∀ c' w', Below w.heap.size w w' → (∃ tl, RowK w' w.heap.size e (olds ++ news ++ tl)) → K (a.put o.dst (.slice (some ⟨w.heap.size, 0, none⟩) (sLen + n) c')) w') : o.wp P a w K Q := by
  have hr := run_append_grow (P := P) w t o.type e i z ht hi hz b sLen sCap olds hlo holds ad n c news hl hnews hg h63 hfit
  unfold Oper.wp execOp
  simp only [ho, resolve, invoke, builtin, Sem.run_bind, Sem.run_pure, Result.andThen_ok, List.map_toArray, List.map_cons, List.map_nil, hs, hx, hr]
  refine h _ _ ((Below.drew (Below.refl _ _)).alloc (Nat.le_refl _) _) ⟨(Builtin.zeroCells z.cells (grownCap w (sLen + n) sCap e - (sLen + n))).toList, ?_⟩
  have hq := RowK.new w.drew e (olds ++ news ++ (Builtin.zeroCells z.cells (grownCap w (sLen + n) sCap e - (sLen + n))).toList) (0, 0)
  have he : (olds ++ news ++ (Builtin.zeroCells z.cells (grownCap w (sLen + n) sCap e - (sLen + n))).toList).toArray = olds.toArray ++ news.toArray ++ Builtin.zeroCells z.cells (grownCap w (sLen + n) sCap e - (sLen + n)) := by
    apply Array.ext'
    simp
  rw [he] at hq
  exact hq
theorem ents_of_row {w : World} {b' : Nat} {vs : List Value} {L : List Ent} {tl : List Value} (hv : vs.length = L.length) (hk : Keys L) (hs : ∀ e ∈ L, e.2.length ≤ 140737488340000) (hl : Lists w w.heap.size vs (L.map (·.2))) (hr : RowK w b' 34 (entC vs L ++ tl)) : EntsW w w.heap.size (some ⟨b', 0, none⟩) vs L := by
  refine ⟨hv, ⟨entC_len vs L hv hk, .inr ⟨_, rfl, hr.lt, fun j u hu => ?_⟩⟩, hl, hk, hs⟩
  have := hr.rng j u (by
    obtain ⟨h1, h2⟩ := List.getElem?_eq_some_iff.1 hu
    rw [List.getElem?_append_left h1]; exact hu)
  rw [add_at]
  rw [Nat.zero_add] at this
  exact this
def AwR (G b gk : Nat) (V3 v1 v2 : Value) (k1 x1 k2 x2 d0 d1 : List UInt8) : Nat → Value → World → Prop
  | 0, v, _ => v = .agg (bys d0).toArray
  | 1, v, w => ∃ b', v = .slice (some ⟨b', 0, none⟩) 5 5 ∧ G ≤ b' ∧ RowK w b' 5 (bys tgEmpty)
  | 2, v, w => SlotK (· < G) w v tgEmpty
  | 3, v, w => ∃ b' u, v = .slice (some ⟨b', 0, none⟩) 1 1 ∧ G ≤ b' ∧ RowK w b' 31 [u] ∧ SlotK (· < G) w u tgEmpty
  | 4, v, _ => v = .agg (bys d0).toArray
  | 5, v, _ => v = .bool true
  | 6, v, _ => v = .bool true
  | 7, v, _ => v = (.slice (some ⟨b, 0, none⟩) 2 2)
  | 8, v, _ => v = .slice (some ⟨b, 0, none⟩) 1 2
  | 9, v, _ => v = .agg (bys d1).toArray
  | 10, v, w => ∃ b', v = .slice (some ⟨b', 0, none⟩) 4 4 ∧ G ≤ b' ∧ RowK w b' 5 (bys tgLeaf)
  | 11, v, w => SlotK (· < G) w v tgLeaf
  | 12, v, _ => v = .slice (some ⟨gk, 0, none⟩) 32 32
  | 13, v, w => ∃ b', v = .slice (some ⟨b', 0, none⟩) 1 1 ∧ G ≤ b' ∧ RowK w b' 5 (bys x1)
  | 14, v, w => SlotK (· < G) w v x1
  | 15, v, w => ∃ b' u u', v = .slice (some ⟨b', 0, none⟩) 3 3 ∧ G ≤ b' ∧ RowK w b' 31 [u, .slice (some ⟨gk, 0, none⟩) 32 32, u'] ∧ SlotK (· < G) w u tgLeaf ∧ SlotK (· < G) w u' x1
  | 16, v, _ => v = .agg (bys d1).toArray
  | 17, v, _ => v = .bool true
  | 18, v, _ => v = .bool true
  | 19, v, _ => v = .bool true
  | 20, v, _ => v = V3
  | 21, v, _ => v = .string { data := #[118] }
  | 22, v, _ => v = .bool true
  | 23, v, _ => v = .bool true
  | 24, v, _ => v = .bool true
  | 25, v, _ => v = .bool true
  | 26, v, _ => v = .bool true
  | 27, v, _ => v = .bool true
  | 28, v, _ => v = .int .i64 0
  | 29, v, _ => v = .bool true
  | 30, v, _ => v = .bool true
  | 31, v, _ => v = .bool true
  | 32, v, _ => v = .bool false
  | 33, v, _ => v = .bool true
  | 34, v, _ => v = .bool true
  | 35, v, _ => v = .bool true
  | 36, v, _ => v = .int .i64 0
  | 37, v, _ => v = .bool true
  | 38, v, _ => v = .bool true
  | 39, v, _ => v = .bool true
  | 40, v, _ => v = .int .i64 5
  | 41, v, _ => v = .bool true
  | 42, v, _ => v = .bool true
  | 43, v, _ => v = .bool true
  | 44, v, _ => v = (.slice (some ⟨b, 0, none⟩) 2 2)
  | 45, v, _ => v = .bool true
  | 46, v, _ => v = .bool true
  | 47, v, _ => v = .bool true
  | 48, v, _ => v = (.slice (some ⟨b, 0, none⟩) 2 2)
  | 49, v, _ => v = (.slice (some ⟨b, 0, none⟩) 2 2)
  | 50, v, _ => v = .pointer (some ⟨b, 0, none⟩)
  | 51, v, _ => v = .agg (bys k1 ++ [v1]).toArray
  | 52, v, w => ∃ b', v = .slice (some ⟨b', 0, none⟩) 1 1 ∧ G ≤ b' ∧ RowK w b' 34 (bys k1 ++ [v1])
  | 53, v, w => ∃ b' c tl, v = .slice (some ⟨b', 0, none⟩) 3 c ∧ G ≤ b' ∧ RowK w b' 34 (entC [v1, v2] [(k1, x1), (k2, x2)] ++ (bys k1 ++ [v1]) ++ tl)
  | 54, v, _ => v = .bool false
  | 55, v, _ => v = .bool true
  | 56, v, _ => v = .bool true
  | 57, v, _ => v = .bool true
  | _, _, _ => True
theorem AwR.keep {G b gk : Nat} {V3 v1 v2 : Value} {k1 x1 k2 x2 d0 d1 : List UInt8} : ∀ (j : Nat) {v : Value} {w w' : World}, Keep G (· < G) w w' → AwR G b gk V3 v1 v2 k1 x1 k2 x2 d0 d1 j v w → AwR G b gk V3 v1 v2 k1 x1 k2 x2 d0 d1 j v w'
  | 0, _, _, _, _, h => h
  | 1, v, w, _, hk, h => (by obtain ⟨b', h1, h2, h3⟩ := h; exact ⟨b', h1, h2, h3.keep hk (by omega)⟩)
  | 2, v, w, _, hk, h => SlotK.keep (show SlotK (· < G) w v tgEmpty from h) hk
  | 3, v, w, _, hk, h => (by obtain ⟨b', u, h1, h2, h3, h4⟩ := h; exact ⟨b', u, h1, h2, h3.keep hk (by omega), h4.keep hk⟩)
  | 4, _, _, _, _, h => h
  | 5, _, _, _, _, h => h
  | 6, _, _, _, _, h => h
  | 7, _, _, _, _, h => h
  | 8, _, _, _, _, h => h
  | 9, _, _, _, _, h => h
  | 10, v, w, _, hk, h => (by obtain ⟨b', h1, h2, h3⟩ := h; exact ⟨b', h1, h2, h3.keep hk (by omega)⟩)
  | 11, v, w, _, hk, h => SlotK.keep (show SlotK (· < G) w v tgLeaf from h) hk
  | 12, _, _, _, _, h => h
  | 13, v, w, _, hk, h => (by obtain ⟨b', h1, h2, h3⟩ := h; exact ⟨b', h1, h2, h3.keep hk (by omega)⟩)
  | 14, v, w, _, hk, h => SlotK.keep (show SlotK (· < G) w v x1 from h) hk
  | 15, v, w, _, hk, h => (by obtain ⟨b', u, u', h1, h2, h3, h4, h5⟩ := h; exact ⟨b', u, u', h1, h2, h3.keep hk (by omega), h4.keep hk, h5.keep hk⟩)
  | 16, _, _, _, _, h => h
  | 17, _, _, _, _, h => h
  | 18, _, _, _, _, h => h
  | 19, _, _, _, _, h => h
  | 20, _, _, _, _, h => h
  | 21, _, _, _, _, h => h
  | 22, _, _, _, _, h => h
  | 23, _, _, _, _, h => h
  | 24, _, _, _, _, h => h
  | 25, _, _, _, _, h => h
  | 26, _, _, _, _, h => h
  | 27, _, _, _, _, h => h
  | 28, _, _, _, _, h => h
  | 29, _, _, _, _, h => h
  | 30, _, _, _, _, h => h
  | 31, _, _, _, _, h => h
  | 32, _, _, _, _, h => h
  | 33, _, _, _, _, h => h
  | 34, _, _, _, _, h => h
  | 35, _, _, _, _, h => h
  | 36, _, _, _, _, h => h
  | 37, _, _, _, _, h => h
  | 38, _, _, _, _, h => h
  | 39, _, _, _, _, h => h
  | 40, _, _, _, _, h => h
  | 41, _, _, _, _, h => h
  | 42, _, _, _, _, h => h
  | 43, _, _, _, _, h => h
  | 44, _, _, _, _, h => h
  | 45, _, _, _, _, h => h
  | 46, _, _, _, _, h => h
  | 47, _, _, _, _, h => h
  | 48, _, _, _, _, h => h
  | 49, _, _, _, _, h => h
  | 50, _, _, _, _, h => h
  | 51, _, _, _, _, h => h
  | 52, v, w, _, hk, h => (by obtain ⟨b', h1, h2, h3⟩ := h; exact ⟨b', h1, h2, h3.keep hk (by omega)⟩)
  | 53, v, w, _, hk, h => (by obtain ⟨b', c, tl, h1, h2, h3⟩ := h; exact ⟨b', c, tl, h1, h2, h3.keep hk (by omega)⟩)
  | 54, _, _, _, _, h => h
  | 55, _, _, _, _, h => h
  | 56, _, _, _, _, h => h
  | 57, _, _, _, _, h => h
  | _ + 58, _, _, _, _, _ => trivial
def VeR (G : Nat) (SL : Value) (rt k pf l : List UInt8) (bo : Bool) (z : Int) : Nat → Value → World → Prop
  | 0, v, _ => v = SL
  | 1, v, _ => v = .agg (bys rt).toArray
  | 2, v, _ => v = .agg (bys k).toArray
  | 3, v, _ => v = SL
  | 4, v, _ => v = .agg (bys k).toArray
  | 5, v, w => SlotK (· < G) w v pf
  | 6, v, w => ∃ A c, v = .tuple #[.slice A l.length c, .bool bo, .int .i64 z] ∧ SlotK (· < G) w (.slice A l.length c) l
  | 7, v, w => ∃ A c, v = .tuple #[.slice A l.length c, .bool bo, .int .i64 z] ∧ SlotK (· < G) w (.slice A l.length c) l
  | 8, v, w => SlotK (· < G) w v l
  | 9, v, _ => v = .bool bo
  | 10, v, _ => v = .int .i64 z
  | 11, v, w => SlotK (· < G) w v l
  | 12, v, _ => v = .bool bo
  | 13, v, _ => v = .int .i64 z
  | _, _, _ => True
theorem VeR.keep {G : Nat} {SL : Value} {rt k pf l : List UInt8} {bo : Bool} {z : Int} : ∀ (j : Nat) {v : Value} {w w' : World}, Keep G (· < G) w w' → VeR G SL rt k pf l bo z j v w → VeR G SL rt k pf l bo z j v w'
  | 0, _, _, _, _, h => h
  | 1, _, _, _, _, h => h
  | 2, _, _, _, _, h => h
  | 3, _, _, _, _, h => h
  | 4, _, _, _, _, h => h
  | 5, v, w, _, hk, h => SlotK.keep (show SlotK (· < G) w v pf from h) hk
  | 6, v, w, _, hk, h => (by obtain ⟨A, c, h1, h2⟩ := h; exact ⟨A, c, h1, h2.keep hk⟩)
  | 7, v, w, _, hk, h => (by obtain ⟨A, c, h1, h2⟩ := h; exact ⟨A, c, h1, h2.keep hk⟩)
  | 8, v, w, _, hk, h => SlotK.keep (show SlotK (· < G) w v l from h) hk
  | 9, _, _, _, _, h => h
  | 10, _, _, _, _, h => h
  | 11, v, w, _, hk, h => SlotK.keep (show SlotK (· < G) w v l from h) hk
  | 12, _, _, _, _, h => h
  | 13, _, _, _, _, h => h
  | _ + 14, _, _, _, _, _ => trivial
def VwR (G : Nat) (SL : Value) (rt k l : List UInt8) (bo : Bool) (z : Int) : Nat → Value → World → Prop
  | 0, v, _ => v = SL
  | 1, v, _ => v = .agg (bys rt).toArray
  | 2, v, _ => v = .agg (bys k).toArray
  | 3, v, w => ∃ A c, v = .tuple #[.slice A l.length c, .bool bo, .int .i64 z] ∧ SlotK (· < G) w (.slice A l.length c) l
  | 4, v, w => ∃ A c, v = .tuple #[.slice A l.length c, .bool bo, .int .i64 z] ∧ SlotK (· < G) w (.slice A l.length c) l
  | 5, v, w => SlotK (· < G) w v l
  | 6, v, _ => v = .bool bo
  | 7, v, _ => v = .int .i64 z
  | 8, v, w => SlotK (· < G) w v l
  | 9, v, _ => v = .bool bo
  | 10, v, _ => v = .int .i64 z
  | _, _, _ => True
theorem VwR.keep {G : Nat} {SL : Value} {rt k l : List UInt8} {bo : Bool} {z : Int} : ∀ (j : Nat) {v : Value} {w w' : World}, Keep G (· < G) w w' → VwR G SL rt k l bo z j v w → VwR G SL rt k l bo z j v w'
  | 0, _, _, _, _, h => h
  | 1, _, _, _, _, h => h
  | 2, _, _, _, _, h => h
  | 3, v, w, _, hk, h => (by obtain ⟨A, c, h1, h2⟩ := h; exact ⟨A, c, h1, h2.keep hk⟩)
  | 4, v, w, _, hk, h => (by obtain ⟨A, c, h1, h2⟩ := h; exact ⟨A, c, h1, h2.keep hk⟩)
  | 5, v, w, _, hk, h => SlotK.keep (show SlotK (· < G) w v l from h) hk
  | 6, _, _, _, _, h => h
  | 7, _, _, _, _, h => h
  | 8, v, w, _, hk, h => SlotK.keep (show SlotK (· < G) w v l from h) hk
  | 9, _, _, _, _, h => h
  | 10, _, _, _, _, h => h
  | _ + 11, _, _, _, _, _ => trivial
set_option maxRecDepth 20000 in
set_option maxHeartbeats 3200000 in
theorem awake_any (w : World) (hk : Consts w) :
    Calls Tryd.prog 10 #[] w fun e w' => e = .returned (.bool true) ∧ Below w.heap.size w w' := by
  have hb1 := build_b1
  have kc := fun (w : World) (C : Array Value) (n c : Nat) => Lib.run_convert_bytes_const (P := Tryd.prog) w 31 5 C n c Tryd.underlying31 Tryd.underlying5
  have HK := Lib.hid hk
  have HZ1 := Lib.hid built_k1; have HZ2 := Lib.hid built_k2; have HZ3 := Lib.hid built_k3
  have hkl1 := kOf_len 1; have hkl2 := kOf_len 200; have hkl3 := kOf_len 2
  have hn13 : kOf 1 ≠ kOf 2 := by decide
  have hn23 : kOf 200 ≠ kOf 2 := by decide
  have hn12 : kOf 1 ≠ kOf 200 := by decide
  have hlt : un8 (kOf 1) < un8 (kOf 200) := by decide
  generalize kOf 1 = k1 at *
  generalize kOf 200 = k2 at *
  generalize kOf 2 = k3 at *
  have HKL1 := Lib.hid hkl1; have HKL2 := Lib.hid hkl2; have HLT := Lib.hid hlt; have HKL3 := Lib.hid hkl3; have HN13 := Lib.hid hn13; have HN23 := Lib.hid hn23; have HN12 := Lib.hid hn12
  clear hkl2 hkl3 hlt hn13 hn23 hn12
  have hz := Tryd.zeroDig
  have hd1 := HB.new w 24 zdig
  have HI := dig_info hkl1
  have HZ := dig_size hkl1
  have HA := dig_one k1
  have hB1 := below_alloc1 w (.cells zdig.toArray 24)
  generalize hw1 : w.alloc (.cells zdig.toArray 24) = w1 at *
  have hd2 := hd1.row (bys k1).toArray
  have hB2 := Below.setRow_ hB1 (show w.heap.size ≤ w.heap.size from Nat.le_refl _) (bys k1).toArray
  generalize hw2 : w1.setRow w.heap.size (bys k1).toArray = w2 at *
  have hr3 : RowK (w2.alloc (.cells #[.int .u8 118] 5 (1, 2))) w2.heap.size 5 (bys [118]) := RowK.new w2 _ (bys [118]) _
  have hB3 := below_alloc1 w2 (.cells #[.int .u8 118] 5 (1, 2))
  have hd3 := hd2.alloc (.cells #[.int .u8 118] 5 (1, 2))
  generalize hw3 : w2.alloc (.cells #[.int .u8 118] 5 (1, 2)) = w3 at *
  have hr4 : RowK (w3.alloc (.cells #[.int .u8 119] 5 (1, 2))) w3.heap.size 5 (bys [119]) := RowK.new w3 _ (bys [119]) _
  have hB4 := below_alloc1 w3 (.cells #[.int .u8 119] 5 (1, 2))
  have hd4 := hd3.alloc (.cells #[.int .u8 119] 5 (1, 2))
  generalize hw4 : w3.alloc (.cells #[.int .u8 119] 5 (1, 2)) = w4 at *
  have HD1 := Lib.hid hd1; have HD2 := Lib.hid hd2; have HD4 := Lib.hid hd4
  have HR3 := Lib.hid hr3; have HR4 := Lib.hid hr4
  have HBL := Lib.hid (And.intro hB2 (And.intro hB3 hB4))
  obtain ⟨i0, hi, hz0, hz1, hz2⟩ := info_parts Tryd.infoEnt
  have hz33 : ¬ 2 * i0.size > 2 ^ 24 := by rw [hz1]; decide
  have hz34 : ¬ 2 * i0.size = 0 := by rw [hz1]; decide
  have HIE := Lib.hid hi; have HZE := Lib.hid hz0; have H33 := Lib.hid hz33; have H34 := Lib.hid hz34; have HFE := Lib.hid hz1
  clear hk hkl1 hi hz0 hz33 hz34 hz1 hz2 hd1 hd2 hd3 hd4 hr3 hr4 hB1 hB2 hB3 hB4
  go_enter Tryd.func10, Tryd.ntmps10
  go_wp2_with first
    | (refine wpList_buildTo rfl 24 #[(0, .const (.int .u8 1))] rfl _ rfl (bys k1).toArray (by (simp only [List.map_toArray, List.map_cons, List.map_nil]; exact HZ1.out)) ?_)
    | (refine wpList_store_row rfl 24 _ _ rfl w.heap.size (bys k1).toArray rfl rfl 24 _ HD1.out HI.out HZ.out HA.out ?_; rw [hw2])
    | (refine wpList_load_row rfl 24 _ rfl w.heap.size rfl 24 (bys k1).toArray (0, 0) _ HD2.out Tryd.underlying24 rfl HI.out ?_)
    | (refine wpList_buildTo rfl 24 #[(0, .const (.int .u8 200))] rfl _ rfl (bys k2).toArray (by (simp only [List.map_toArray, List.map_cons, List.map_nil]; exact HZ2.out)) ?_)
    | (refine wpList_buildTo rfl 34 _ rfl _ rfl (bys _ ++ [Value.slice _ _ _]).toArray (by (simp only [List.map_toArray, List.map_cons, List.map_nil]; exact built_ent _ (by first | exact HKL1.out | exact HKL2.out) _ _ _)) ?_)
    | (refine wpList_buildSlice rfl 26 34 2 _ rfl ((_ : List Value) ++ (_ : List Value)).toArray i0 (.agg zent.toArray) Tryd.underlying26 HIE.out HZE.out H33.out H34.out (by (simp only [List.map_toArray, List.map_cons, List.map_nil]; exact fill_ent2 _ _ (one_len HKL1.out _) (one_len HKL2.out _) _ HFE.out)) ?_)
  clear hb1 kc
  obtain ⟨x1, hx1⟩ : ∃ x : List UInt8, x = [118] := ⟨_, rfl⟩
  obtain ⟨x2, hx2⟩ : ∃ x : List UInt8, x = [119] := ⟨_, rfl⟩
  obtain ⟨x0, hx0⟩ : ∃ x : List UInt8, x = [] := ⟨_, rfl⟩
  have HX1 := Lib.hid hx1; have HX0 := Lib.hid hx0
  rw [← hx1] at HR3
  rw [← hx2] at HR4
  have hl1 : x1.length = 1 := by rw [hx1]; rfl
  have hl2 : x2.length = 1 := by rw [hx2]; rfl
  have hB12 := HBL.out.1
  have hB23 := HBL.out.2.1
  have hB34 := HBL.out.2.2
  have hr5 := RowK.new w4 34 ((bys k1 ++ [Value.slice (some ⟨w2.heap.size, 0, none⟩) 1 1]) ++ (bys k2 ++ [Value.slice (some ⟨w3.heap.size, 0, none⟩) 1 1])) (0, 0)
  have hB45 := below_alloc1 w4 (.cells ((bys k1 ++ [Value.slice (some ⟨w2.heap.size, 0, none⟩) 1 1]) ++ (bys k2 ++ [Value.slice (some ⟨w3.heap.size, 0, none⟩) 1 1])).toArray 34)
  have hz5 : (w4.alloc (.cells ((bys k1 ++ [Value.slice (some ⟨w2.heap.size, 0, none⟩) 1 1]) ++ (bys k2 ++ [Value.slice (some ⟨w3.heap.size, 0, none⟩) 1 1])).toArray 34)).heap.size = w4.heap.size + 1 := by simp
  simp only [List.append_assoc, List.singleton_append] at hr5 hB45 hz5
  generalize hw5 : w4.alloc (.cells (bys k1 ++ Value.slice (some ⟨w2.heap.size, 0, none⟩) 1 1 :: (bys k2 ++ [Value.slice (some ⟨w3.heap.size, 0, none⟩) 1 1])).toArray 34) = w5 at *
  have h23 := hB23.size
  have h34 := hB34.size
  have hlt3 := HR3.out.lt
  have hlt4 := HR4.out.lt
  have hs1 : Slot w5 w5.heap.size (.slice (some ⟨w2.heap.size, 0, none⟩) 1 1) x1 := (((HR3.out.slot (S := fun _ => False) (fun h => h) (by omega) (n := 1) hl1).slot.below (hB34.trans (hB45.mono h34))).wide (by omega))
  have hs2 : Slot w5 w5.heap.size (.slice (some ⟨w3.heap.size, 0, none⟩) 1 1) x2 := (((HR4.out.slot (S := fun _ => False) (fun h => h) (by omega) (n := 1) hl2).slot.below hB45).wide (by omega))
  generalize Value.slice (some ⟨w2.heap.size, 0, none⟩) 1 1 = v1 at *
  generalize Value.slice (some ⟨w3.heap.size, 0, none⟩) 1 1 = v2 at *
  have he5 := ents_two HKL1.out HKL2.out (by omega) (by omega) (by simpa only [List.append_assoc, List.singleton_append] using hr5) (by omega) hs1 hs2
  have h12 := hB12.size
  have hB05 : Below w.heap.size w w5 := hB12.trans ((hB23.trans (hB34.trans (hB45.mono h34) |>.mono h23)).mono h12)
  have hdd5 : HB w5 w.heap.size 24 (bys k1) := HD4.out.below hB45 HD4.out.lt
  have hk5 : Consts w5 := HK.out.below hB05 HK.out.2.2
  obtain ⟨b, hb⟩ : ∃ b : Nat, w4.heap.size = b := ⟨_, rfl⟩
  obtain ⟨gk, hgk⟩ : ∃ g : Nat, w.heap.size = g := ⟨_, rfl⟩
  obtain ⟨G, hG⟩ : ∃ G : Nat, w5.heap.size = G := ⟨_, rfl⟩
  have hgb : gk < G := by rw [← hgk, ← hG]; exact hdd5.lt
  have hbb : b < G := by omega
  rw [hb] at hr5 he5 ⊢
  rw [hgk] at hdd5 ⊢
  rw [hG] at he5 hs1 hs2
  have HD := Lib.hid hdd5; have HK5 := Lib.hid hk5; have HE := Lib.hid he5; have HGB := Lib.hid hgb; have HBB := Lib.hid hbb; have HB5 := Lib.hid hB05; have HR5 := Lib.hid hr5; have HG := Lib.hid hG; have HGK := Lib.hid hgk
  have HL1 := Lib.hid hl1; have HL2 := Lib.hid hl2; have HS1 := Lib.hid hs1; have HS2 := Lib.hid hs2
  have HKI : Hid ((Tryd.prog.info? 24).map (·.size) = some (bys k1).length) := Lib.hid (by rw [bys_len, HKL1.out]; kernel_rfl)
  clear hx1 hx2 hx0 HR3 HR4 HBL HD1 HD2 HD4 HK hB12 hB23 hB34 hB45 hz5 hw5 h23 h34 hlt3 hlt4 hs1 hs2 he5 h12 hB05 hdd5 hk5 hgb hbb hr5 hw1 hw2 hw3 hw4 HIE HZE H33 H34 HFE hl1 hl2 hb hgk
  have hkeys := HE.out.keys
  have hmay : MayP [(k1, x1), (k2, x2)] := by
    unfold MayP
    simp [HLT.out]
  have hshort : ∀ e ∈ [(k1, x1), (k2, x2)], e.2.length ≤ 1073741824 := fun e he => by
    have h1 := HL1.out; have h2 := HL2.out
    rcases List.mem_cons.1 he with rfl | he
    · simp only; omega
    · rw [List.mem_singleton.1 he]; simp only; omega
  have hg1 : getT [(k1, x1), (k2, x2)] k1 = some x1 := by simp [getT]
  have hg3 : getT [(k1, x1), (k2, x2)] k3 = none := by simp [getT, HN13.out, HN23.out]
  have hv1 : verF (rootT [(k1, x1), (k2, x2)]) k1 (proofT [(k1, x1), (k2, x2)] k1) = (x1, true, 0) := by
    rw [ver_complete _ _ hmay hkeys HKL1.out (fun e he => by have := hshort e he; omega), hg1]; rfl
  have hv3 : verF (rootT [(k1, x1), (k2, x2)]) k3 (proofT [(k1, x1), (k2, x2)] k3) = (x0, false, 0) := by
    rw [ver_complete _ _ hmay hkeys HKL3.out (fun e he => by have := hshort e he; omega), hg3, HX0.out]; rfl
  have hv0 : verF (rootT [(k1, x1), (k2, x2)]) k1 [] = (x0, false, 5) := by rw [ver_short, HX0.out]
  have hp1l := proofT_len _ k1 hmay hkeys HKL1.out hshort
  have hp3l := proofT_len _ k3 hmay hkeys HKL3.out hshort
  have hrtl := rootT_len [(k1, x1), (k2, x2)]
  have HR0 : Hid (∀ W, Below G w5 W → Calls Tryd.prog 14 #[.slice (some ⟨b, 0, none⟩) 2 2] W (Digs W (rootT [(k1, x1), (k2, x2)]))) := Lib.hid (fun W hW => root_any W G 2 (by have := hW.size; omega) _ _ _ (HE.out.below hW) (Nat.le_refl _) (by decide) (by simp) (HK5.out.below (hG ▸ hW) HK5.out.2.2))
  have HP1 : Hid (∀ W, Below G w5 W → Calls Tryd.prog 15 #[.slice (some ⟨b, 0, none⟩) 2 2, .agg (bys k1).toArray] W (WroteF W (proofT [(k1, x1), (k2, x2)] k1))) := Lib.hid (fun W hW => prove_any W G 2 (by have := hW.size; omega) _ _ _ (HE.out.below hW) hmay (Nat.le_refl _) (by decide) (by simp) (HK5.out.below (hG ▸ hW) HK5.out.2.2) k1 HKL1.out)
  have HP3 : Hid (∀ W, Below G w5 W → Calls Tryd.prog 15 #[.slice (some ⟨b, 0, none⟩) 2 2, .agg (bys k3).toArray] W (WroteF W (proofT [(k1, x1), (k2, x2)] k3))) := Lib.hid (fun W hW => prove_any W G 2 (by have := hW.size; omega) _ _ _ (HE.out.below hW) hmay (Nat.le_refl _) (by decide) (by simp) (HK5.out.below (hG ▸ hW) HK5.out.2.2) k3 HKL3.out)
  have HMA : Hid (∀ W, Below G w5 W → Calls Tryd.prog 13 #[.slice (some ⟨b, 0, none⟩) 2 2] W fun e w' => e = .returned (.bool true) ∧ Below W.heap.size W w') := Lib.hid (fun W hW => by
    have h := may_any W G 2 (by have := hW.size; omega) _ _ _ (HE.out.below hW) (by simp)
    rw [decide_eq_true hmay] at h
    exact h)
  have HM := Lib.hid hmay; have HSH := Lib.hid hshort
  have HKW : Hid (∀ W, Below G w5 W → Consts W) := Lib.hid (fun W hW => HK5.out.below (hG ▸ hW) HK5.out.2.2)
  have hrt0 : rootT [] = shaF tEmpty := by simp [rootT, MayP, digT, endF]
  have hrt1 : rootT [(k1, x1)] = shaF (tLeaf k1 x1) := by simp [rootT, MayP, digT, endF]
  have HQ0 : Hid (shaF (joinF [tgEmpty]) = shaF tEmpty) := Lib.hid rfl
  have HQ1 : Hid (shaF (joinF [tgLeaf, k1, x1]) = shaF (tLeaf k1 x1)) := Lib.hid rfl
  have HQL : Hid ((joinF [tgLeaf, k1, x1]).length ≤ 140737488355328) := Lib.hid (by
    have h := tLeaf_len k1 x1 HKL1.out
    have h1 := HL1.out
    show (tLeaf k1 x1).length ≤ _
    omega)
  have HDd0 : Hid ((shaF tEmpty).length = 32) := Lib.hid (shaF_len _)
  have HDd1 : Hid ((shaF (tLeaf k1 x1)).length = 32) := Lib.hid (shaF_len _)
  have HR00 : Hid (∀ W, Below G w5 W → Calls Tryd.prog 14 #[.slice none 0 0] W (Digs W (shaF tEmpty))) := Lib.hid (fun W hW => by
    have h := root_any W W.heap.size 0 (Nat.le_refl _) none [] [] (ents_nil W) (Nat.le_refl _) (by decide) (by simp) (HKW.out W hW)
    rw [hrt0] at h
    exact h)
  have HR1 : Hid (∀ W, Below G w5 W → Calls Tryd.prog 14 #[.slice (some ⟨b, 0, none⟩) 1 2] W (Digs W (shaF (tLeaf k1 x1)))) := Lib.hid (fun W hW => by
    have h := root_any W G 2 (by have := hW.size; omega) _ _ _ ((HE.out.below hW).take (k := 1) (by simp)) (by simp) (by decide) (by simp) (HKW.out W hW)
    rw [show ([(k1, x1), (k2, x2)] : List Ent).take 1 = [(k1, x1)] from rfl, hrt1] at h
    exact h)
  have HRE : Hid (∀ W, Below G w5 W → W.rangeAt b 0 (bys k1 ++ [v1])) := Lib.hid (fun W hW => by
    have h := HR5.out.rng
    intro j u hu
    refine (hW.cell (p := ⟨b, 0 + j, none⟩) HBB.out).trans (h j u ?_)
    have hj := (List.getElem?_eq_some_iff.1 hu).1
    rw [show bys k1 ++ v1 :: (bys k2 ++ [v2]) = (bys k1 ++ [v1]) ++ (bys k2 ++ [v2]) from by simp, List.getElem?_append_left hj]
    exact hu)
  have HSZ : Hid ((Tryd.prog.info? 34).map (·.size) = some (bys k1 ++ [v1]).length) := Lib.hid (by rw [one_len HKL1.out]; kernel_rfl)
  have HOLL : Hid ((entC [v1, v2] [(k1, x1), (k2, x2)]).length = 2 * 33) := Lib.hid (entC_len [v1, v2] [(k1, x1), (k2, x2)] rfl HE.out.keys)
  have HOLD : Hid (∀ W, Below G w5 W → ∀ j u, (entC [v1, v2] [(k1, x1), (k2, x2)])[j]? = some u → W.cell? ((⟨b, 0, none⟩ : Addr).add j) = some u) := Lib.hid (fun W hW => by
    obtain ⟨ad, hA, -, hx⟩ := (HE.out.below hW).sees.some_ (by simp)
    cases hA
    exact hx)
  have hnm : ¬ MayP [(k1, x1), (k2, x2), (k1, x1)] := by
    unfold MayP
    have := HLT.out
    simp
  have HM3 : Hid (∀ W, Below G w5 W → ∀ b1 c1 tl, RowK W b1 34 (entC [v1, v2] [(k1, x1), (k2, x2)] ++ (bys k1 ++ [v1]) ++ tl) → Calls Tryd.prog 13 #[.slice (some ⟨b1, 0, none⟩) 3 c1] W fun e w' => e = .returned (.bool false) ∧ Below W.heap.size W w') := Lib.hid (fun W hW b1 c1 tl hr => by
    have hGW : G ≤ W.heap.size := by have := hW.size; omega
    have hw1 := (HS1.out.below hW).wide hGW
    have hw2 := (HS2.out.below hW).wide hGW
    have he := ents_of_row (w := W) (vs := [v1, v2] ++ [v1]) (L := [(k1, x1), (k2, x2)] ++ [(k1, x1)]) (tl := tl) rfl (fun e he => by
      rcases List.mem_append.1 he with he | he
      · exact HE.out.keys e he
      · rw [List.mem_singleton.1 he]; exact HKL1.out) (fun e he => by
      rcases List.mem_append.1 he with he | he
      · exact HE.out.short e he
      · rw [List.mem_singleton.1 he]; have := HL1.out; simp only; omega) (Lists.cons hw1 (Lists.cons hw2 (Lists.cons hw1 (Lists.nothing _ _)))) (by rw [entC_snoc _ _ _ _ rfl]; exact hr)
    have h := may_any W W.heap.size c1 (Nat.le_refl _) _ _ _ he (by simp)
    rw [decide_eq_false (by exact hnm)] at h
    exact h)
  generalize hd0 : shaF tEmpty = d0 at *
  generalize hd1 : shaF (tLeaf k1 x1) = d1 at *
  clear hd0 hd1 hrt0 hrt1 hnm
  generalize hrt : rootT [(k1, x1), (k2, x2)] = rt at *
  generalize hp1 : proofT [(k1, x1), (k2, x2)] k1 = p1 at *
  generalize hp3 : proofT [(k1, x1), (k2, x2)] k3 = p3 at *
  have HV1 : Hid (∀ W, Below G w5 W → ∀ A c, SlotK (· < G) W (.slice A p1.length c) p1 → Calls Tryd.prog 18 #[.agg (bys rt).toArray, .agg (bys k1).toArray, .slice A p1.length c] W fun e w' => Below W.heap.size W w' ∧ ∃ A c, e = .returned (.tuple #[.slice A x1.length c, .bool true, .int .i64 0]) ∧ SlotK (· < W.heap.size) w' (.slice A x1.length c) x1) := Lib.hid (fun W hW A c hs => ver_said W (HK5.out.below (hG ▸ hW) HK5.out.2.2) rt k1 hrtl HKL1.out A c p1 hs.slot hp1l x1 true 0 hv1 0 rfl)
  have HV3 : Hid (∀ W, Below G w5 W → ∀ A c, SlotK (· < G) W (.slice A p3.length c) p3 → Calls Tryd.prog 18 #[.agg (bys rt).toArray, .agg (bys k3).toArray, .slice A p3.length c] W fun e w' => Below W.heap.size W w' ∧ ∃ A c, e = .returned (.tuple #[.slice A x0.length c, .bool false, .int .i64 0]) ∧ SlotK (· < W.heap.size) w' (.slice A x0.length c) x0) := Lib.hid (fun W hW A c hs => ver_said W (HK5.out.below (hG ▸ hW) HK5.out.2.2) rt k3 hrtl HKL3.out A c p3 hs.slot hp3l x0 false 0 hv3 0 rfl)
  have HV0 : Hid (∀ W, Below G w5 W → Calls Tryd.prog 18 #[.agg (bys rt).toArray, .agg (bys k1).toArray, .slice none 0 0] W fun e w' => Below W.heap.size W w' ∧ ∃ A c, e = .returned (.tuple #[.slice A x0.length c, .bool false, .int .i64 5]) ∧ SlotK (· < W.heap.size) w' (.slice A x0.length c) x0) := Lib.hid (fun W hW => ver_said W (HK5.out.below (hG ▸ hW) HK5.out.2.2) rt k1 hrtl HKL1.out none 0 [] (slot_nil W) (by decide) x0 false 5 hv0 5 rfl)
  have HR := HR0
  clear hkeys hmay hshort hg1 hg3 hv1 hv3 hv0 hp1l hp3l hrtl HR0 hrt hp1 hp3 HI HZ HA hz hG
  refine wp_region_inv 109 (VeR G (.slice (some ⟨b, 0, none⟩) 2 2) rt k1 p1 x1 true 0) (Below G w5) (fun _ => Keep G (· < G)) (by kernel_rfl) (by rfl) (by kernel_rfl) (fun i j v W W' _ _ _ hT hR => VeR.keep j hT hR) (fun _ W W' hT hI => hI.trans hT.low) (Below.drew (Below.refl _ _)) (fun j ho1 ho vs W hI hdep => ?_) (fun vs W hI hR => ?_)
  · have hsz : G ≤ W.heap.size := by have := hI.size; have := HG.out; omega
    rcases j with _ | j
    · simp only [List.getElem?_toArray, List.getElem?_cons_zero, Option.some.injEq] at ho
      subst ho
      refine .inl ⟨rfl, fun K Q hK => ?_⟩
      simp only [putFrom, Act.put, List.setIfInBounds_toArray, List.set_cons_succ, List.set_cons_zero, Nat.reduceAdd] at hK ⊢
      have HOUT := Lib.hid hK
      clear hK hdep
      go_simp
      refine HOUT.out _ _ _ rfl ⟨Keep.refl _ _ _, ?_⟩
      exact rfl
    rcases j with _ | j
    · simp only [List.getElem?_toArray, List.getElem?_cons_succ, List.getElem?_cons_zero, Option.some.injEq, Nat.zero_add] at ho
      subst ho
      have e0 : vs 0 = _ := hdep 0 rfl
      refine .inl ⟨rfl, fun K Q hK => ?_⟩
      simp only [putFrom, Act.put, List.setIfInBounds_toArray, List.set_cons_succ, List.set_cons_zero, Nat.reduceAdd, e0] at hK ⊢
      have HOUT := Lib.hid hK
      clear hK hdep e0
      go_simp
      refine (HR.out W hI).mono ?_
      rintro e w3 ⟨rfl, hB3⟩
      go_simp
      refine HOUT.out _ _ _ rfl ⟨Keep.of_below hB3 hsz, ?_⟩
      exact rfl
    rcases j with _ | j
    · simp only [List.getElem?_toArray, List.getElem?_cons_succ, List.getElem?_cons_zero, Option.some.injEq, Nat.zero_add] at ho
      subst ho
      have hrw := HD.out.below hI HGB.out
      refine .inl ⟨rfl, fun K Q hK => ?_⟩
      simp only [putFrom, Act.put, List.setIfInBounds_toArray, List.set_cons_succ, List.set_cons_zero, Nat.reduceAdd] at hK ⊢
      have HOUT := Lib.hid hK
      clear hK hdep
      refine wp_load_mid 24 _ rfl gk 0 rfl (bys k1) _ hrw.rngT Tryd.underlying24 rfl HKI.out ?_
      simp only [Act.put, List.setIfInBounds_toArray, List.set_cons_succ, List.set_cons_zero]
      refine HOUT.out _ _ _ rfl ⟨Keep.refl _ _ _, ?_⟩
      exact rfl
    rcases j with _ | j
    · simp only [List.getElem?_toArray, List.getElem?_cons_succ, List.getElem?_cons_zero, Option.some.injEq, Nat.zero_add] at ho
      subst ho
      refine .inl ⟨rfl, fun K Q hK => ?_⟩
      simp only [putFrom, Act.put, List.setIfInBounds_toArray, List.set_cons_succ, List.set_cons_zero, Nat.reduceAdd] at hK ⊢
      have HOUT := Lib.hid hK
      clear hK hdep
      go_simp
      refine HOUT.out _ _ _ rfl ⟨Keep.refl _ _ _, ?_⟩
      exact rfl
    rcases j with _ | j
    · simp only [List.getElem?_toArray, List.getElem?_cons_succ, List.getElem?_cons_zero, Option.some.injEq, Nat.zero_add] at ho
      subst ho
      have hrw := HD.out.below hI HGB.out
      refine .inl ⟨rfl, fun K Q hK => ?_⟩
      simp only [putFrom, Act.put, List.setIfInBounds_toArray, List.set_cons_succ, List.set_cons_zero, Nat.reduceAdd] at hK ⊢
      have HOUT := Lib.hid hK
      clear hK hdep
      refine wp_load_mid 24 _ rfl gk 0 rfl (bys k1) _ hrw.rngT Tryd.underlying24 rfl HKI.out ?_
      simp only [Act.put, List.setIfInBounds_toArray, List.set_cons_succ, List.set_cons_zero]
      refine HOUT.out _ _ _ rfl ⟨Keep.refl _ _ _, ?_⟩
      exact rfl
    rcases j with _ | j
    · simp only [List.getElem?_toArray, List.getElem?_cons_succ, List.getElem?_cons_zero, Option.some.injEq, Nat.zero_add] at ho
      subst ho
      have e3 : vs 3 = _ := hdep 3 rfl
      have e4 : vs 4 = _ := hdep 4 rfl
      refine .inl ⟨rfl, fun K Q hK => ?_⟩
      simp only [putFrom, Act.put, List.setIfInBounds_toArray, List.set_cons_succ, List.set_cons_zero, Nat.reduceAdd, e3, e4] at hK ⊢
      have HOUT := Lib.hid hK
      clear hK hdep e3 e4
      go_simp
      refine (HP1.out W hI).mono ?_
      rintro e w3 ⟨v3, rfl, hs3, hB3⟩
      go_simp
      refine HOUT.out _ _ _ rfl ⟨Keep.of_below hB3 hsz, ?_⟩
      exact hs3.wider hsz
    rcases j with _ | j
    · simp only [List.getElem?_toArray, List.getElem?_cons_succ, List.getElem?_cons_zero, Option.some.injEq, Nat.zero_add] at ho
      subst ho
      have e1 : vs 1 = _ := hdep 1 rfl
      have e2 : vs 2 = _ := hdep 2 rfl
      obtain ⟨A5, c5, e5, a5, b5, s5, d5⟩ := hdep 5 rfl
      have hv := Lib.hid (HV1.out W hI A5 c5 ⟨A5, c5, rfl, a5, b5, s5, d5⟩)
      refine .inl ⟨rfl, fun K Q hK => ?_⟩
      simp only [putFrom, Act.put, List.setIfInBounds_toArray, List.set_cons_succ, List.set_cons_zero, Nat.reduceAdd, e1, e2, e5] at hK ⊢
      have HOUT := Lib.hid hK
      clear hK hdep e1 e2 e5
      go_simp
      refine hv.out.mono ?_
      rintro e w3 ⟨hB3, A3, c3, rfl, hs3⟩
      go_simp
      refine HOUT.out _ _ _ rfl ⟨Keep.of_below hB3 hsz, ?_⟩
      exact ⟨A3, c3, rfl, hs3.wider hsz⟩
    rcases j with _ | j
    · simp only [List.getElem?_toArray, List.getElem?_cons_succ, List.getElem?_cons_zero, Option.some.injEq, Nat.zero_add] at ho
      subst ho
      obtain ⟨A6, c6, e6, s6⟩ := hdep 6 rfl
      refine .inl ⟨rfl, fun K Q hK => ?_⟩
      simp only [putFrom, Act.put, List.setIfInBounds_toArray, List.set_cons_succ, List.set_cons_zero, Nat.reduceAdd, e6] at hK ⊢
      have HOUT := Lib.hid hK
      clear hK hdep e6
      go_simp
      refine HOUT.out _ _ _ rfl ⟨Keep.refl _ _ _, ?_⟩
      exact ⟨A6, c6, rfl, s6⟩
    rcases j with _ | j
    · simp only [List.getElem?_toArray, List.getElem?_cons_succ, List.getElem?_cons_zero, Option.some.injEq, Nat.zero_add] at ho
      subst ho
      obtain ⟨A7, c7, e7, s7⟩ := hdep 7 rfl
      refine .inl ⟨rfl, fun K Q hK => ?_⟩
      simp only [putFrom, Act.put, List.setIfInBounds_toArray, List.set_cons_succ, List.set_cons_zero, Nat.reduceAdd, e7] at hK ⊢
      have HOUT := Lib.hid hK
      clear hK hdep e7
      go_simp
      refine HOUT.out _ _ _ rfl ⟨Keep.refl _ _ _, ?_⟩
      exact s7
    rcases j with _ | j
    · simp only [List.getElem?_toArray, List.getElem?_cons_succ, List.getElem?_cons_zero, Option.some.injEq, Nat.zero_add] at ho
      subst ho
      obtain ⟨A7, c7, e7, s7⟩ := hdep 7 rfl
      refine .inl ⟨rfl, fun K Q hK => ?_⟩
      simp only [putFrom, Act.put, List.setIfInBounds_toArray, List.set_cons_succ, List.set_cons_zero, Nat.reduceAdd, e7] at hK ⊢
      have HOUT := Lib.hid hK
      clear hK hdep e7
      go_simp
      refine HOUT.out _ _ _ rfl ⟨Keep.refl _ _ _, ?_⟩
      exact rfl
    rcases j with _ | j
    · simp only [List.getElem?_toArray, List.getElem?_cons_succ, List.getElem?_cons_zero, Option.some.injEq, Nat.zero_add] at ho
      subst ho
      obtain ⟨A7, c7, e7, s7⟩ := hdep 7 rfl
      refine .inl ⟨rfl, fun K Q hK => ?_⟩
      simp only [putFrom, Act.put, List.setIfInBounds_toArray, List.set_cons_succ, List.set_cons_zero, Nat.reduceAdd, e7] at hK ⊢
      have HOUT := Lib.hid hK
      clear hK hdep e7
      go_simp
      refine HOUT.out _ _ _ rfl ⟨Keep.refl _ _ _, ?_⟩
      exact rfl
    rcases j with _ | j
    · simp only [List.getElem?_toArray, List.getElem?_cons_succ, List.getElem?_cons_zero, Option.some.injEq, Nat.zero_add] at ho
      subst ho
      obtain ⟨A8, c8, e8, a8, b8, s8, d8⟩ := hdep 8 rfl
      refine .inl ⟨rfl, fun K Q hK => ?_⟩
      simp only [putFrom, Act.put, List.setIfInBounds_toArray, List.set_cons_succ, List.set_cons_zero, Nat.reduceAdd, e8] at hK ⊢
      have HOUT := Lib.hid hK
      clear hK hdep e8
      go_simp
      refine HOUT.out _ _ _ rfl ⟨Keep.refl _ _ _, ?_⟩
      exact ⟨A8, c8, rfl, a8, b8, s8, d8⟩
    rcases j with _ | j
    · simp only [List.getElem?_toArray, List.getElem?_cons_succ, List.getElem?_cons_zero, Option.some.injEq, Nat.zero_add] at ho
      subst ho
      have e9 : vs 9 = _ := hdep 9 rfl
      refine .inl ⟨rfl, fun K Q hK => ?_⟩
      simp only [putFrom, Act.put, List.setIfInBounds_toArray, List.set_cons_succ, List.set_cons_zero, Nat.reduceAdd, e9] at hK ⊢
      have HOUT := Lib.hid hK
      clear hK hdep e9
      go_simp
      refine HOUT.out _ _ _ rfl ⟨Keep.refl _ _ _, ?_⟩
      exact rfl
    rcases j with _ | j
    · simp only [List.getElem?_toArray, List.getElem?_cons_succ, List.getElem?_cons_zero, Option.some.injEq, Nat.zero_add] at ho
      subst ho
      have e10 : vs 10 = _ := hdep 10 rfl
      refine .inl ⟨rfl, fun K Q hK => ?_⟩
      simp only [putFrom, Act.put, List.setIfInBounds_toArray, List.set_cons_succ, List.set_cons_zero, Nat.reduceAdd, e10] at hK ⊢
      have HOUT := Lib.hid hK
      clear hK hdep e10
      go_simp
      refine HOUT.out _ _ _ rfl ⟨Keep.refl _ _ _, ?_⟩
      exact rfl
    exact absurd ho (by simp)
  · obtain ⟨A3, c3, e11, a3, b3, s3, d3⟩ := (show SlotK (· < G) W (vs 11) x1 from hR 11 (by decide))
    have e12 : vs 12 = .bool true := hR 12 (by decide)
    have e13 : vs 13 = .int .i64 0 := hR 13 (by decide)
    have HS3 : Hid (SlotK (· < G) W (.slice A3 x1.length c3) x1) := Lib.hid ⟨A3, c3, rfl, a3, b3, s3, d3⟩
    have HI3 := Lib.hid hI
    clear hR hI a3 b3 s3 d3
    simp only [putFrom, Act.put, List.setIfInBounds_toArray, List.set_cons_succ, List.set_cons_zero, Nat.reduceAdd, e11, e12, e13]
    clear e11 e12 e13
    generalize vs 0 = q0 at *; generalize vs 1 = q1 at *; generalize vs 2 = q2 at *; generalize vs 3 = q3 at *; generalize vs 4 = q4 at *; generalize vs 5 = q5 at *; generalize vs 6 = q6 at *; generalize vs 7 = q7 at *; generalize vs 8 = q8 at *; generalize vs 9 = q9 at *; generalize vs 10 = q10 at *
    go_wp2_with fail
    refine (HR.out W HI3.out).mono ?_
    rintro e w6 ⟨rfl, hB6⟩
    have hsz : G ≤ W.heap.size := by have := HI3.out.size; have := HG.out; omega
    have HS6 := Lib.hid (HS3.out.keep (Keep.of_below hB6 hsz))
    have HI6 := Lib.hid (HI3.out.trans (hB6.mono hsz))
    clear hB6 hsz HS3 HI3
    go_wp2_with (refine wpList_buildTo rfl 24 #[(0, .const (.int .u8 2))] rfl _ rfl (bys k3).toArray (by (simp only [List.map_toArray, List.map_cons, List.map_nil]; exact HZ3.out)) ?_)
    refine (HP3.out w6 HI6.out).mono ?_
    rintro e w7 ⟨v7, rfl, hs7, hB7⟩
    have hsz : G ≤ w6.heap.size := by have := HI6.out.size; have := HG.out; omega
    have HS7 := Lib.hid (HS6.out.keep (Keep.of_below hB7 hsz))
    have HI7 := Lib.hid (HI6.out.trans (hB7.mono hsz))
    obtain ⟨A7, c7, rfl, a7, b7, s7, d7⟩ := hs7.wider hsz
    have HV7 := Lib.hid (HV3.out w7 HI7.out A7 c7 ⟨A7, c7, rfl, a7, b7, s7, d7⟩)
    clear hB7 hsz HS6 HI6 a7 b7 s7 d7 hs7
    go_wp2_with fail
    refine HV7.out.mono ?_
    rintro e w8 ⟨hB8, A8, c8, rfl, hs8⟩
    have hsz : G ≤ w7.heap.size := by have := HI7.out.size; have := HG.out; omega
    have HS8 := Lib.hid (HS7.out.keep (Keep.of_below hB8 hsz))
    have HI8 := Lib.hid (HI7.out.trans (hB8.mono hsz))
    clear hB8 hsz HS7 HI7 HV7 hs8
    go_wp2_with fail
    have hsz8 : G ≤ w8.heap.size := by have := HI8.out.size; have := HG.out; omega
    refine wp_region_inv 109 (VwR G (.slice (some ⟨b, 0, none⟩) 2 2) rt k1 x0 false 5) (fun W => Below G w5 W ∧ SlotK (· < G) W (.slice A3 x1.length c3) x1) (fun _ => Keep G (· < G)) (by kernel_rfl) (by rfl) (by kernel_rfl) (fun i j v W W' _ _ _ hT hR => VwR.keep j hT hR) (fun _ W W' hT hI => ⟨hI.1.trans hT.low, hI.2.keep hT⟩) ⟨Below.drew HI8.out, HS8.out.keep (Keep.drew hsz8)⟩ (fun j ho1 ho vs W hI hdep => ?_) (fun vs W hI hR => ?_)
    · obtain ⟨hI, hS3⟩ := hI
      have hsz : G ≤ W.heap.size := by have := hI.size; have := HG.out; omega
      rcases j with _ | j
      · simp only [List.getElem?_toArray, List.getElem?_cons_zero, Option.some.injEq] at ho
        subst ho
        refine .inl ⟨rfl, fun K Q hK => ?_⟩
        simp only [putFrom, Act.put, List.setIfInBounds_toArray, List.set_cons_succ, List.set_cons_zero, Nat.reduceAdd] at hK ⊢
        have HOUT := Lib.hid hK
        clear hK hdep
        go_simp
        refine HOUT.out _ _ _ rfl ⟨Keep.refl _ _ _, ?_⟩
        exact rfl
      rcases j with _ | j
      · simp only [List.getElem?_toArray, List.getElem?_cons_succ, List.getElem?_cons_zero, Option.some.injEq, Nat.zero_add] at ho
        subst ho
        have e0 : vs 0 = _ := hdep 0 rfl
        refine .inl ⟨rfl, fun K Q hK => ?_⟩
        simp only [putFrom, Act.put, List.setIfInBounds_toArray, List.set_cons_succ, List.set_cons_zero, Nat.reduceAdd, e0] at hK ⊢
        have HOUT := Lib.hid hK
        clear hK hdep e0
        go_simp
        refine (HR.out W hI).mono ?_
        rintro e w3 ⟨rfl, hB3⟩
        go_simp
        refine HOUT.out _ _ _ rfl ⟨Keep.of_below hB3 hsz, ?_⟩
        exact rfl
      rcases j with _ | j
      · simp only [List.getElem?_toArray, List.getElem?_cons_succ, List.getElem?_cons_zero, Option.some.injEq, Nat.zero_add] at ho
        subst ho
        have hrw := HD.out.below hI HGB.out
        refine .inl ⟨rfl, fun K Q hK => ?_⟩
        simp only [putFrom, Act.put, List.setIfInBounds_toArray, List.set_cons_succ, List.set_cons_zero, Nat.reduceAdd] at hK ⊢
        have HOUT := Lib.hid hK
        clear hK hdep
        refine wp_load_mid 24 _ rfl gk 0 rfl (bys k1) _ hrw.rngT Tryd.underlying24 rfl HKI.out ?_
        simp only [Act.put, List.setIfInBounds_toArray, List.set_cons_succ, List.set_cons_zero]
        refine HOUT.out _ _ _ rfl ⟨Keep.refl _ _ _, ?_⟩
        exact rfl
      rcases j with _ | j
      · simp only [List.getElem?_toArray, List.getElem?_cons_succ, List.getElem?_cons_zero, Option.some.injEq, Nat.zero_add] at ho
        subst ho
        have e1 : vs 1 = _ := hdep 1 rfl
        have e2 : vs 2 = _ := hdep 2 rfl
        have hv := Lib.hid (HV0.out W hI)
        refine .inl ⟨rfl, fun K Q hK => ?_⟩
        simp only [putFrom, Act.put, List.setIfInBounds_toArray, List.set_cons_succ, List.set_cons_zero, Nat.reduceAdd, e1, e2] at hK ⊢
        have HOUT := Lib.hid hK
        clear hK hdep e1 e2
        go_simp
        refine hv.out.mono ?_
        rintro e w3 ⟨hB3, A3, c3, rfl, hs3⟩
        go_simp
        refine HOUT.out _ _ _ rfl ⟨Keep.of_below hB3 hsz, ?_⟩
        exact ⟨A3, c3, rfl, hs3.wider hsz⟩
      rcases j with _ | j
      · simp only [List.getElem?_toArray, List.getElem?_cons_succ, List.getElem?_cons_zero, Option.some.injEq, Nat.zero_add] at ho
        subst ho
        obtain ⟨A3, c3, e3, s3⟩ := hdep 3 rfl
        refine .inl ⟨rfl, fun K Q hK => ?_⟩
        simp only [putFrom, Act.put, List.setIfInBounds_toArray, List.set_cons_succ, List.set_cons_zero, Nat.reduceAdd, e3] at hK ⊢
        have HOUT := Lib.hid hK
        clear hK hdep e3
        go_simp
        refine HOUT.out _ _ _ rfl ⟨Keep.refl _ _ _, ?_⟩
        exact ⟨A3, c3, rfl, s3⟩
      rcases j with _ | j
      · simp only [List.getElem?_toArray, List.getElem?_cons_succ, List.getElem?_cons_zero, Option.some.injEq, Nat.zero_add] at ho
        subst ho
        obtain ⟨A4, c4, e4, s4⟩ := hdep 4 rfl
        refine .inl ⟨rfl, fun K Q hK => ?_⟩
        simp only [putFrom, Act.put, List.setIfInBounds_toArray, List.set_cons_succ, List.set_cons_zero, Nat.reduceAdd, e4] at hK ⊢
        have HOUT := Lib.hid hK
        clear hK hdep e4
        go_simp
        refine HOUT.out _ _ _ rfl ⟨Keep.refl _ _ _, ?_⟩
        exact s4
      rcases j with _ | j
      · simp only [List.getElem?_toArray, List.getElem?_cons_succ, List.getElem?_cons_zero, Option.some.injEq, Nat.zero_add] at ho
        subst ho
        obtain ⟨A4, c4, e4, s4⟩ := hdep 4 rfl
        refine .inl ⟨rfl, fun K Q hK => ?_⟩
        simp only [putFrom, Act.put, List.setIfInBounds_toArray, List.set_cons_succ, List.set_cons_zero, Nat.reduceAdd, e4] at hK ⊢
        have HOUT := Lib.hid hK
        clear hK hdep e4
        go_simp
        refine HOUT.out _ _ _ rfl ⟨Keep.refl _ _ _, ?_⟩
        exact rfl
      rcases j with _ | j
      · simp only [List.getElem?_toArray, List.getElem?_cons_succ, List.getElem?_cons_zero, Option.some.injEq, Nat.zero_add] at ho
        subst ho
        obtain ⟨A4, c4, e4, s4⟩ := hdep 4 rfl
        refine .inl ⟨rfl, fun K Q hK => ?_⟩
        simp only [putFrom, Act.put, List.setIfInBounds_toArray, List.set_cons_succ, List.set_cons_zero, Nat.reduceAdd, e4] at hK ⊢
        have HOUT := Lib.hid hK
        clear hK hdep e4
        go_simp
        refine HOUT.out _ _ _ rfl ⟨Keep.refl _ _ _, ?_⟩
        exact rfl
      rcases j with _ | j
      · simp only [List.getElem?_toArray, List.getElem?_cons_succ, List.getElem?_cons_zero, Option.some.injEq, Nat.zero_add] at ho
        subst ho
        obtain ⟨A5, c5, e5, a5, b5, s5, d5⟩ := hdep 5 rfl
        refine .inl ⟨rfl, fun K Q hK => ?_⟩
        simp only [putFrom, Act.put, List.setIfInBounds_toArray, List.set_cons_succ, List.set_cons_zero, Nat.reduceAdd, e5] at hK ⊢
        have HOUT := Lib.hid hK
        clear hK hdep e5
        go_simp
        refine HOUT.out _ _ _ rfl ⟨Keep.refl _ _ _, ?_⟩
        exact ⟨A5, c5, rfl, a5, b5, s5, d5⟩
      rcases j with _ | j
      · simp only [List.getElem?_toArray, List.getElem?_cons_succ, List.getElem?_cons_zero, Option.some.injEq, Nat.zero_add] at ho
        subst ho
        have e6 : vs 6 = _ := hdep 6 rfl
        refine .inl ⟨rfl, fun K Q hK => ?_⟩
        simp only [putFrom, Act.put, List.setIfInBounds_toArray, List.set_cons_succ, List.set_cons_zero, Nat.reduceAdd, e6] at hK ⊢
        have HOUT := Lib.hid hK
        clear hK hdep e6
        go_simp
        refine HOUT.out _ _ _ rfl ⟨Keep.refl _ _ _, ?_⟩
        exact rfl
      rcases j with _ | j
      · simp only [List.getElem?_toArray, List.getElem?_cons_succ, List.getElem?_cons_zero, Option.some.injEq, Nat.zero_add] at ho
        subst ho
        have e7 : vs 7 = _ := hdep 7 rfl
        refine .inl ⟨rfl, fun K Q hK => ?_⟩
        simp only [putFrom, Act.put, List.setIfInBounds_toArray, List.set_cons_succ, List.set_cons_zero, Nat.reduceAdd, e7] at hK ⊢
        have HOUT := Lib.hid hK
        clear hK hdep e7
        go_simp
        refine HOUT.out _ _ _ rfl ⟨Keep.refl _ _ _, ?_⟩
        exact rfl
      exact absurd ho (by simp)
    · obtain ⟨A9, c9, e8, -, -, -, -⟩ := (show SlotK (· < G) W (vs 8) x0 from hR 8 (by decide))
      have e9 : vs 9 = .bool false := hR 9 (by decide)
      have e10 : vs 10 = .int .i64 5 := hR 10 (by decide)
      have HI9 := Lib.hid hI
      clear hR hI hsz8 HI8 HS8
      simp only [putFrom, Act.put, List.setIfInBounds_toArray, List.set_cons_succ, List.set_cons_zero, Nat.reduceAdd, e8, e9, e10]
      clear e8 e9 e10
      generalize vs 0 = q0 at *; generalize vs 1 = q1 at *; generalize vs 2 = q2 at *; generalize vs 3 = q3 at *; generalize vs 4 = q4 at *; generalize vs 5 = q5 at *; generalize vs 6 = q6 at *; generalize vs 7 = q7 at *
      go_wp2_with fail
      have hsz9 : G ≤ W.heap.size := by have := HI9.out.1.size; have := HG.out; omega
      refine wp_region_inv 109 (AwR G b gk (.slice A3 x1.length c3) v1 v2 k1 x1 k2 x2 d0 d1) (fun W => Below G w5 W ∧ SlotK (· < G) W (.slice A3 x1.length c3) x1) (fun _ => Keep G (· < G)) (by kernel_rfl) (by rfl) (by kernel_rfl) (fun i j v W W' _ _ _ hT hR => AwR.keep j hT hR) (fun _ W W' hT hI => ⟨hI.1.trans hT.low, hI.2.keep hT⟩) ⟨Below.drew HI9.out.1, HI9.out.2.keep (Keep.drew hsz9)⟩ (fun j ho1 ho vs W hI hdep => ?_) (fun vs W hI hR => ?_)
      · obtain ⟨hI, hS3⟩ := hI
        have hsz : G ≤ W.heap.size := by have := hI.size; have := HG.out; omega
        rcases j with _ | j
        · simp only [List.getElem?_toArray, List.getElem?_cons_zero, Option.some.injEq] at ho
          subst ho
          refine .inl ⟨rfl, fun K Q hK => ?_⟩
          simp only [putFrom, Act.put, List.setIfInBounds_toArray, List.set_cons_succ, List.set_cons_zero, Nat.reduceAdd] at hK ⊢
          have HOUT := Lib.hid hK
          clear hK hdep
          go_simp
          refine (HR00.out W hI).mono ?_
          rintro e w3 ⟨rfl, hB3⟩
          go_simp
          refine HOUT.out _ _ _ rfl ⟨Keep.of_below hB3 hsz, ?_⟩
          exact rfl
        rcases j with _ | j
        · simp only [List.getElem?_toArray, List.getElem?_cons_succ, List.getElem?_cons_zero, Option.some.injEq, Nat.zero_add] at ho
          subst ho
          have hb5 := build_b5
          refine .inl ⟨rfl, fun K Q hK => ?_⟩
          simp only [putFrom, Act.put, List.setIfInBounds_toArray, List.set_cons_succ, List.set_cons_zero, Nat.reduceAdd] at hK ⊢
          have HOUT := Lib.hid hK
          clear hK hdep
          go_simp
          refine HOUT.out _ _ _ rfl ⟨Keep.alloc hsz _, ?_⟩
          exact ⟨_, rfl, hsz, RowK.new W _ (bys tgEmpty) _⟩
        rcases j with _ | j
        · simp only [List.getElem?_toArray, List.getElem?_cons_succ, List.getElem?_cons_zero, Option.some.injEq, Nat.zero_add] at ho
          subst ho
          obtain ⟨b1, e1, hb1, hr1⟩ := hdep 1 rfl
          have hcv := hr1.conv 5 5
          refine .inl ⟨rfl, fun K Q hK => ?_⟩
          simp only [putFrom, Act.put, List.setIfInBounds_toArray, List.set_cons_succ, List.set_cons_zero, Nat.reduceAdd, e1] at hK ⊢
          have HOUT := Lib.hid hK
          clear hK hdep e1
          go_simp
          refine HOUT.out _ _ _ rfl ⟨Keep.freeze (a := ⟨b1, _, none⟩) (show G ≤ b1 from hb1) (show ¬ (b1 < G) by omega) _, ?_⟩
          exact (hr1.freeze _ _).slot (S := (· < G)) (show ¬ (b1 < G) by omega) (by decide) rfl
        rcases j with _ | j
        · simp only [List.getElem?_toArray, List.getElem?_cons_succ, List.getElem?_cons_zero, Option.some.injEq, Nat.zero_add] at ho
          subst ho
          obtain ⟨A1, c1, e2, a1, b1, s1, d1⟩ := hdep 2 rfl
          have hb3 := build_1
          refine .inl ⟨rfl, fun K Q hK => ?_⟩
          simp only [putFrom, Act.put, List.setIfInBounds_toArray, List.set_cons_succ, List.set_cons_zero, Nat.reduceAdd, e2] at hK ⊢
          have HOUT := Lib.hid hK
          clear hK hdep e2
          go_simp
          refine HOUT.out _ _ _ rfl ⟨Keep.alloc hsz _, ?_⟩
          exact ⟨_, _, rfl, hsz, RowK.new W _ [_] _, SlotK.keep ⟨A1, c1, rfl, a1, b1, s1, d1⟩ (Keep.alloc hsz _)⟩
        rcases j with _ | j
        · simp only [List.getElem?_toArray, List.getElem?_cons_succ, List.getElem?_cons_zero, Option.some.injEq, Nat.zero_add] at ho
          subst ho
          obtain ⟨b2, u, e3, hb2, hr2, hs2⟩ := hdep 3 rfl
          have hl := Lists.cons hs2.slot (Lists.nothing _ _)
          have hj := Lib.hid (of_row (n := 1) hr2 rfl rfl hl (by decide) (HKW.out W hI))
          rw [HQ0.out] at hj
          clear hl hs2 hr2
          refine .inl ⟨rfl, fun K Q hK => ?_⟩
          simp only [putFrom, Act.put, List.setIfInBounds_toArray, List.set_cons_succ, List.set_cons_zero, Nat.reduceAdd, e3] at hK ⊢
          have HOUT := Lib.hid hK
          clear hK hdep e3
          go_simp
          refine (hj.out).mono ?_
          rintro e w3 ⟨rfl, hB3⟩
          go_simp
          refine HOUT.out _ _ _ rfl ⟨Keep.of_below hB3 hsz, ?_⟩
          exact rfl
        rcases j with _ | j
        · simp only [List.getElem?_toArray, List.getElem?_cons_succ, List.getElem?_cons_zero, Option.some.injEq, Nat.zero_add] at ho
          subst ho
          have e0 : vs 0 = _ := hdep 0 rfl
          have e4 : vs 4 = _ := hdep 4 rfl
          refine .inl ⟨rfl, fun K Q hK => ?_⟩
          simp only [putFrom, Act.put, List.setIfInBounds_toArray, List.set_cons_succ, List.set_cons_zero, Nat.reduceAdd, e0, e4] at hK ⊢
          have HOUT := Lib.hid hK
          clear hK hdep e0 e4
          refine wp_cmp .eql 24 _ _ _ rfl (.agg (bys d0).toArray) (.agg (bys d0).toArray) (.bool (d0 == d0)) rfl rfl (run_eqGuard_agg _ _ _ _ _ _ _ (by kernel_rfl)) (eql_d W _ _ HDd0.out HDd0.out) ?_
          simp only [Act.put, List.setIfInBounds_toArray, List.set_cons_succ, List.set_cons_zero]
          refine HOUT.out _ _ _ rfl ⟨Keep.refl _ _ _, ?_⟩
          exact (by simp; rfl)
        rcases j with _ | j
        · simp only [List.getElem?_toArray, List.getElem?_cons_succ, List.getElem?_cons_zero, Option.some.injEq, Nat.zero_add] at ho
          subst ho
          have e5 : vs 5 = _ := hdep 5 rfl
          refine .inl ⟨rfl, fun K Q hK => ?_⟩
          simp only [putFrom, Act.put, List.setIfInBounds_toArray, List.set_cons_succ, List.set_cons_zero, Nat.reduceAdd, e5] at hK ⊢
          have HOUT := Lib.hid hK
          clear hK hdep e5
          go_simp
          refine HOUT.out _ _ _ rfl ⟨Keep.refl _ _ _, ?_⟩
          exact rfl
        rcases j with _ | j
        · simp only [List.getElem?_toArray, List.getElem?_cons_succ, List.getElem?_cons_zero, Option.some.injEq, Nat.zero_add] at ho
          subst ho
          have e6 : vs 6 = _ := hdep 6 rfl
          refine .inl ⟨(by simp only [putFrom, Act.put, List.setIfInBounds_toArray, List.set_cons_succ, List.set_cons_zero, Nat.reduceAdd, e6]; rfl), fun K Q hK => ?_⟩
          simp only [putFrom, Act.put, List.setIfInBounds_toArray, List.set_cons_succ, List.set_cons_zero, Nat.reduceAdd] at hK ⊢
          have HOUT := Lib.hid hK
          clear hK hdep e6
          go_simp
          refine HOUT.out _ _ _ rfl ⟨Keep.refl _ _ _, ?_⟩
          exact rfl
        rcases j with _ | j
        · simp only [List.getElem?_toArray, List.getElem?_cons_succ, List.getElem?_cons_zero, Option.some.injEq, Nat.zero_add] at ho
          subst ho
          have e7 : vs 7 = _ := hdep 7 rfl
          have e6 : vs 6 = _ := hdep 6 rfl
          refine .inl ⟨(by simp only [putFrom, Act.put, List.setIfInBounds_toArray, List.set_cons_succ, List.set_cons_zero, Nat.reduceAdd, e6]; rfl), fun K Q hK => ?_⟩
          simp only [putFrom, Act.put, List.setIfInBounds_toArray, List.set_cons_succ, List.set_cons_zero, Nat.reduceAdd, e7] at hK ⊢
          have HOUT := Lib.hid hK
          clear hK hdep e7 e6
          go_simp
          refine HOUT.out _ _ _ rfl ⟨Keep.refl _ _ _, ?_⟩
          exact rfl
        rcases j with _ | j
        · simp only [List.getElem?_toArray, List.getElem?_cons_succ, List.getElem?_cons_zero, Option.some.injEq, Nat.zero_add] at ho
          subst ho
          have e8 : vs 8 = _ := hdep 8 rfl
          have e6 : vs 6 = _ := hdep 6 rfl
          refine .inl ⟨(by simp only [putFrom, Act.put, List.setIfInBounds_toArray, List.set_cons_succ, List.set_cons_zero, Nat.reduceAdd, e6]; rfl), fun K Q hK => ?_⟩
          simp only [putFrom, Act.put, List.setIfInBounds_toArray, List.set_cons_succ, List.set_cons_zero, Nat.reduceAdd, e8] at hK ⊢
          have HOUT := Lib.hid hK
          clear hK hdep e8 e6
          go_simp
          refine (HR1.out W hI).mono ?_
          rintro e w3 ⟨rfl, hB3⟩
          go_simp
          refine HOUT.out _ _ _ rfl ⟨Keep.of_below hB3 hsz, ?_⟩
          exact rfl
        rcases j with _ | j
        · simp only [List.getElem?_toArray, List.getElem?_cons_succ, List.getElem?_cons_zero, Option.some.injEq, Nat.zero_add] at ho
          subst ho
          have e6 : vs 6 = _ := hdep 6 rfl
          have hb5 := build_b4
          refine .inl ⟨(by simp only [putFrom, Act.put, List.setIfInBounds_toArray, List.set_cons_succ, List.set_cons_zero, Nat.reduceAdd, e6]; rfl), fun K Q hK => ?_⟩
          simp only [putFrom, Act.put, List.setIfInBounds_toArray, List.set_cons_succ, List.set_cons_zero, Nat.reduceAdd] at hK ⊢
          have HOUT := Lib.hid hK
          clear hK hdep e6
          go_simp
          refine HOUT.out _ _ _ rfl ⟨Keep.alloc hsz _, ?_⟩
          exact ⟨_, rfl, hsz, RowK.new W _ (bys tgLeaf) _⟩
        rcases j with _ | j
        · simp only [List.getElem?_toArray, List.getElem?_cons_succ, List.getElem?_cons_zero, Option.some.injEq, Nat.zero_add] at ho
          subst ho
          have e6 : vs 6 = _ := hdep 6 rfl
          obtain ⟨b1, e10, hb1, hr1⟩ := hdep 10 rfl
          have hcv := hr1.conv 4 4
          refine .inl ⟨(by simp only [putFrom, Act.put, List.setIfInBounds_toArray, List.set_cons_succ, List.set_cons_zero, Nat.reduceAdd, e6]; rfl), fun K Q hK => ?_⟩
          simp only [putFrom, Act.put, List.setIfInBounds_toArray, List.set_cons_succ, List.set_cons_zero, Nat.reduceAdd, e10] at hK ⊢
          have HOUT := Lib.hid hK
          clear hK hdep e10 e6
          go_simp
          refine HOUT.out _ _ _ rfl ⟨Keep.freeze (a := ⟨b1, _, none⟩) (show G ≤ b1 from hb1) (show ¬ (b1 < G) by omega) _, ?_⟩
          exact (hr1.freeze _ _).slot (S := (· < G)) (show ¬ (b1 < G) by omega) (by decide) rfl
        rcases j with _ | j
        · simp only [List.getElem?_toArray, List.getElem?_cons_succ, List.getElem?_cons_zero, Option.some.injEq, Nat.zero_add] at ho
          subst ho
          have e6 : vs 6 = _ := hdep 6 rfl
          refine .inl ⟨(by simp only [putFrom, Act.put, List.setIfInBounds_toArray, List.set_cons_succ, List.set_cons_zero, Nat.reduceAdd, e6]; rfl), fun K Q hK => ?_⟩
          simp only [putFrom, Act.put, List.setIfInBounds_toArray, List.set_cons_succ, List.set_cons_zero, Nat.reduceAdd] at hK ⊢
          have HOUT := Lib.hid hK
          clear hK hdep e6
          go_simp
          refine HOUT.out _ _ _ rfl ⟨Keep.refl _ _ _, ?_⟩
          exact rfl
        rcases j with _ | j
        · simp only [List.getElem?_toArray, List.getElem?_cons_succ, List.getElem?_cons_zero, Option.some.injEq, Nat.zero_add] at ho
          subst ho
          have e6 : vs 6 = _ := hdep 6 rfl
          have hb5 := build_b1
          refine .inl ⟨(by simp only [putFrom, Act.put, List.setIfInBounds_toArray, List.set_cons_succ, List.set_cons_zero, Nat.reduceAdd, e6]; rfl), fun K Q hK => ?_⟩
          simp only [putFrom, Act.put, List.setIfInBounds_toArray, List.set_cons_succ, List.set_cons_zero, Nat.reduceAdd] at hK ⊢
          have HOUT := Lib.hid hK
          clear hK hdep e6
          go_simp
          refine HOUT.out _ _ _ rfl ⟨Keep.alloc hsz _, ?_⟩
          exact ⟨_, rfl, hsz, by rw [HX1.out]; exact RowK.new W _ (bys [118]) _⟩
        rcases j with _ | j
        · simp only [List.getElem?_toArray, List.getElem?_cons_succ, List.getElem?_cons_zero, Option.some.injEq, Nat.zero_add] at ho
          subst ho
          have e6 : vs 6 = _ := hdep 6 rfl
          obtain ⟨b1, e13, hb1, hr1⟩ := hdep 13 rfl
          have hcv := hr1.conv 1 1
          refine .inl ⟨(by simp only [putFrom, Act.put, List.setIfInBounds_toArray, List.set_cons_succ, List.set_cons_zero, Nat.reduceAdd, e6]; rfl), fun K Q hK => ?_⟩
          simp only [putFrom, Act.put, List.setIfInBounds_toArray, List.set_cons_succ, List.set_cons_zero, Nat.reduceAdd, e13] at hK ⊢
          have HOUT := Lib.hid hK
          clear hK hdep e13 e6
          go_simp
          refine HOUT.out _ _ _ rfl ⟨Keep.freeze (a := ⟨b1, _, none⟩) (show G ≤ b1 from hb1) (show ¬ (b1 < G) by omega) _, ?_⟩
          exact (hr1.freeze _ _).slot (S := (· < G)) (show ¬ (b1 < G) by omega) (by have := HL1.out; omega) HL1.out
        rcases j with _ | j
        · simp only [List.getElem?_toArray, List.getElem?_cons_succ, List.getElem?_cons_zero, Option.some.injEq, Nat.zero_add] at ho
          subst ho
          have e12 : vs 12 = _ := hdep 12 rfl
          have e6 : vs 6 = _ := hdep 6 rfl
          obtain ⟨A1, c1, e11, a1, b1, s1, d1⟩ := hdep 11 rfl
          obtain ⟨A4, c4, e14, a4, b4, s4, d4⟩ := hdep 14 rfl
          have hb3 := build_3
          refine .inl ⟨(by simp only [putFrom, Act.put, List.setIfInBounds_toArray, List.set_cons_succ, List.set_cons_zero, Nat.reduceAdd, e6]; rfl), fun K Q hK => ?_⟩
          simp only [putFrom, Act.put, List.setIfInBounds_toArray, List.set_cons_succ, List.set_cons_zero, Nat.reduceAdd, e11, e12, e14] at hK ⊢
          have HOUT := Lib.hid hK
          clear hK hdep e11 e12 e14 e6
          go_simp
          refine HOUT.out _ _ _ rfl ⟨Keep.alloc hsz _, ?_⟩
          exact ⟨_, _, _, rfl, hsz, RowK.new W _ [_, _, _] _, SlotK.keep ⟨A1, c1, rfl, a1, b1, s1, d1⟩ (Keep.alloc hsz _), SlotK.keep ⟨A4, c4, rfl, a4, b4, s4, d4⟩ (Keep.alloc hsz _)⟩
        rcases j with _ | j
        · simp only [List.getElem?_toArray, List.getElem?_cons_succ, List.getElem?_cons_zero, Option.some.injEq, Nat.zero_add] at ho
          subst ho
          have e6 : vs 6 = _ := hdep 6 rfl
          obtain ⟨b2, u, u', e15, hb2, hr2, hs2, hs3⟩ := hdep 15 rfl
          have hl := Lists.cons hs2.slot (Lists.cons (rangeSlot (HD.out.below hI HGB.out).rngT (Nat.lt_of_lt_of_le HGB.out hsz) HKL1.out (by decide)) (Lists.cons hs3.slot (Lists.nothing _ _)))
          have hj := Lib.hid (of_row (n := 3) hr2 rfl rfl hl HQL.out (HKW.out W hI))
          rw [HQ1.out] at hj
          clear hl hs2 hs3 hr2
          refine .inl ⟨(by simp only [putFrom, Act.put, List.setIfInBounds_toArray, List.set_cons_succ, List.set_cons_zero, Nat.reduceAdd, e6]; rfl), fun K Q hK => ?_⟩
          simp only [putFrom, Act.put, List.setIfInBounds_toArray, List.set_cons_succ, List.set_cons_zero, Nat.reduceAdd, e15] at hK ⊢
          have HOUT := Lib.hid hK
          clear hK hdep e15 e6
          go_simp
          refine (hj.out).mono ?_
          rintro e w3 ⟨rfl, hB3⟩
          go_simp
          refine HOUT.out _ _ _ rfl ⟨Keep.of_below hB3 hsz, ?_⟩
          exact rfl
        rcases j with _ | j
        · simp only [List.getElem?_toArray, List.getElem?_cons_succ, List.getElem?_cons_zero, Option.some.injEq, Nat.zero_add] at ho
          subst ho
          have e9 : vs 9 = _ := hdep 9 rfl
          have e16 : vs 16 = _ := hdep 16 rfl
          have e6 : vs 6 = _ := hdep 6 rfl
          refine .inl ⟨(by simp only [putFrom, Act.put, List.setIfInBounds_toArray, List.set_cons_succ, List.set_cons_zero, Nat.reduceAdd, e6]; rfl), fun K Q hK => ?_⟩
          simp only [putFrom, Act.put, List.setIfInBounds_toArray, List.set_cons_succ, List.set_cons_zero, Nat.reduceAdd, e9, e16] at hK ⊢
          have HOUT := Lib.hid hK
          clear hK hdep e9 e16 e6
          refine wp_cmp .eql 24 _ _ _ rfl (.agg (bys d1).toArray) (.agg (bys d1).toArray) (.bool (d1 == d1)) rfl rfl (run_eqGuard_agg _ _ _ _ _ _ _ (by kernel_rfl)) (eql_d W _ _ HDd1.out HDd1.out) ?_
          simp only [Act.put, List.setIfInBounds_toArray, List.set_cons_succ, List.set_cons_zero]
          refine HOUT.out _ _ _ rfl ⟨Keep.refl _ _ _, ?_⟩
          exact (by simp; rfl)
        rcases j with _ | j
        · simp only [List.getElem?_toArray, List.getElem?_cons_succ, List.getElem?_cons_zero, Option.some.injEq, Nat.zero_add] at ho
          subst ho
          have e6 : vs 6 = _ := hdep 6 rfl
          have e17 : vs 17 = _ := hdep 17 rfl
          refine .inl ⟨rfl, fun K Q hK => ?_⟩
          simp only [putFrom, Act.put, List.setIfInBounds_toArray, List.set_cons_succ, List.set_cons_zero, Nat.reduceAdd, e6, e17] at hK ⊢
          have HOUT := Lib.hid hK
          clear hK hdep e6 e17
          go_simp
          refine HOUT.out _ _ _ rfl ⟨Keep.refl _ _ _, ?_⟩
          exact rfl
        rcases j with _ | j
        · simp only [List.getElem?_toArray, List.getElem?_cons_succ, List.getElem?_cons_zero, Option.some.injEq, Nat.zero_add] at ho
          subst ho
          have e18 : vs 18 = _ := hdep 18 rfl
          refine .inl ⟨rfl, fun K Q hK => ?_⟩
          simp only [putFrom, Act.put, List.setIfInBounds_toArray, List.set_cons_succ, List.set_cons_zero, Nat.reduceAdd, e18] at hK ⊢
          have HOUT := Lib.hid hK
          clear hK hdep e18
          go_simp
          refine HOUT.out _ _ _ rfl ⟨Keep.refl _ _ _, ?_⟩
          exact rfl
        rcases j with _ | j
        · simp only [List.getElem?_toArray, List.getElem?_cons_succ, List.getElem?_cons_zero, Option.some.injEq, Nat.zero_add] at ho
          subst ho
          have e19 : vs 19 = _ := hdep 19 rfl
          refine .inl ⟨(by simp only [putFrom, Act.put, List.setIfInBounds_toArray, List.set_cons_succ, List.set_cons_zero, Nat.reduceAdd, e19]; rfl), fun K Q hK => ?_⟩
          simp only [putFrom, Act.put, List.setIfInBounds_toArray, List.set_cons_succ, List.set_cons_zero, Nat.reduceAdd] at hK ⊢
          have HOUT := Lib.hid hK
          clear hK hdep e19
          go_simp
          refine HOUT.out _ _ _ rfl ⟨Keep.refl _ _ _, ?_⟩
          exact rfl
        rcases j with _ | j
        · simp only [List.getElem?_toArray, List.getElem?_cons_succ, List.getElem?_cons_zero, Option.some.injEq, Nat.zero_add] at ho
          subst ho
          have e20 : vs 20 = _ := hdep 20 rfl
          have e19 : vs 19 = _ := hdep 19 rfl
          obtain ⟨A9, c9, e9, h91, h92, h93, -⟩ := hS3
          obtain ⟨rfl, -, rfl⟩ := Value.slice.inj e9
          have hcv : (convert 31 9 (.slice A3 x1.length c3)).run Tryd.prog W = .ok (.string { data := #[118] }) W := by have h := conv_sees c3 h93; rw [HX1.out] at h ⊢; exact h
          clear e9 h91 h92 h93
          refine .inl ⟨(by simp only [putFrom, Act.put, List.setIfInBounds_toArray, List.set_cons_succ, List.set_cons_zero, Nat.reduceAdd, e19]; rfl), fun K Q hK => ?_⟩
          simp only [putFrom, Act.put, List.setIfInBounds_toArray, List.set_cons_succ, List.set_cons_zero, Nat.reduceAdd, e20] at hK ⊢
          have HOUT := Lib.hid hK
          clear hK hdep e20 e19
          go_simp
          refine HOUT.out _ _ _ rfl ⟨Keep.refl _ _ _, ?_⟩
          exact rfl
        rcases j with _ | j
        · simp only [List.getElem?_toArray, List.getElem?_cons_succ, List.getElem?_cons_zero, Option.some.injEq, Nat.zero_add] at ho
          subst ho
          have e21 : vs 21 = _ := hdep 21 rfl
          have e19 : vs 19 = _ := hdep 19 rfl
          refine .inl ⟨(by simp only [putFrom, Act.put, List.setIfInBounds_toArray, List.set_cons_succ, List.set_cons_zero, Nat.reduceAdd, e19]; rfl), fun K Q hK => ?_⟩
          simp only [putFrom, Act.put, List.setIfInBounds_toArray, List.set_cons_succ, List.set_cons_zero, Nat.reduceAdd, e21] at hK ⊢
          have HOUT := Lib.hid hK
          clear hK hdep e21 e19
          go_simp
          refine HOUT.out _ _ _ rfl ⟨Keep.refl _ _ _, ?_⟩
          exact rfl
        rcases j with _ | j
        · simp only [List.getElem?_toArray, List.getElem?_cons_succ, List.getElem?_cons_zero, Option.some.injEq, Nat.zero_add] at ho
          subst ho
          have e19 : vs 19 = _ := hdep 19 rfl
          have e22 : vs 22 = _ := hdep 22 rfl
          refine .inl ⟨rfl, fun K Q hK => ?_⟩
          simp only [putFrom, Act.put, List.setIfInBounds_toArray, List.set_cons_succ, List.set_cons_zero, Nat.reduceAdd, e19, e22] at hK ⊢
          have HOUT := Lib.hid hK
          clear hK hdep e19 e22
          go_simp
          refine HOUT.out _ _ _ rfl ⟨Keep.refl _ _ _, ?_⟩
          exact rfl
        rcases j with _ | j
        · simp only [List.getElem?_toArray, List.getElem?_cons_succ, List.getElem?_cons_zero, Option.some.injEq, Nat.zero_add] at ho
          subst ho
          have e23 : vs 23 = _ := hdep 23 rfl
          refine .inl ⟨rfl, fun K Q hK => ?_⟩
          simp only [putFrom, Act.put, List.setIfInBounds_toArray, List.set_cons_succ, List.set_cons_zero, Nat.reduceAdd, e23] at hK ⊢
          have HOUT := Lib.hid hK
          clear hK hdep e23
          go_simp
          refine HOUT.out _ _ _ rfl ⟨Keep.refl _ _ _, ?_⟩
          exact rfl
        rcases j with _ | j
        · simp only [List.getElem?_toArray, List.getElem?_cons_succ, List.getElem?_cons_zero, Option.some.injEq, Nat.zero_add] at ho
          subst ho
          have e24 : vs 24 = _ := hdep 24 rfl
          refine .inl ⟨(by simp only [putFrom, Act.put, List.setIfInBounds_toArray, List.set_cons_succ, List.set_cons_zero, Nat.reduceAdd, e24]; rfl), fun K Q hK => ?_⟩
          simp only [putFrom, Act.put, List.setIfInBounds_toArray, List.set_cons_succ, List.set_cons_zero, Nat.reduceAdd] at hK ⊢
          have HOUT := Lib.hid hK
          clear hK hdep e24
          go_simp
          refine HOUT.out _ _ _ rfl ⟨Keep.refl _ _ _, ?_⟩
          exact rfl
        rcases j with _ | j
        · simp only [List.getElem?_toArray, List.getElem?_cons_succ, List.getElem?_cons_zero, Option.some.injEq, Nat.zero_add] at ho
          subst ho
          have e24 : vs 24 = _ := hdep 24 rfl
          have e25 : vs 25 = _ := hdep 25 rfl
          refine .inl ⟨rfl, fun K Q hK => ?_⟩
          simp only [putFrom, Act.put, List.setIfInBounds_toArray, List.set_cons_succ, List.set_cons_zero, Nat.reduceAdd, e24, e25] at hK ⊢
          have HOUT := Lib.hid hK
          clear hK hdep e24 e25
          go_simp
          refine HOUT.out _ _ _ rfl ⟨Keep.refl _ _ _, ?_⟩
          exact rfl
        rcases j with _ | j
        · simp only [List.getElem?_toArray, List.getElem?_cons_succ, List.getElem?_cons_zero, Option.some.injEq, Nat.zero_add] at ho
          subst ho
          have e26 : vs 26 = _ := hdep 26 rfl
          refine .inl ⟨rfl, fun K Q hK => ?_⟩
          simp only [putFrom, Act.put, List.setIfInBounds_toArray, List.set_cons_succ, List.set_cons_zero, Nat.reduceAdd, e26] at hK ⊢
          have HOUT := Lib.hid hK
          clear hK hdep e26
          go_simp
          refine HOUT.out _ _ _ rfl ⟨Keep.refl _ _ _, ?_⟩
          exact rfl
        rcases j with _ | j
        · simp only [List.getElem?_toArray, List.getElem?_cons_succ, List.getElem?_cons_zero, Option.some.injEq, Nat.zero_add] at ho
          subst ho
          have e27 : vs 27 = _ := hdep 27 rfl
          refine .inl ⟨(by simp only [putFrom, Act.put, List.setIfInBounds_toArray, List.set_cons_succ, List.set_cons_zero, Nat.reduceAdd, e27]; rfl), fun K Q hK => ?_⟩
          simp only [putFrom, Act.put, List.setIfInBounds_toArray, List.set_cons_succ, List.set_cons_zero, Nat.reduceAdd] at hK ⊢
          have HOUT := Lib.hid hK
          clear hK hdep e27
          go_simp
          refine HOUT.out _ _ _ rfl ⟨Keep.refl _ _ _, ?_⟩
          exact rfl
        rcases j with _ | j
        · simp only [List.getElem?_toArray, List.getElem?_cons_succ, List.getElem?_cons_zero, Option.some.injEq, Nat.zero_add] at ho
          subst ho
          have e28 : vs 28 = _ := hdep 28 rfl
          have e27 : vs 27 = _ := hdep 27 rfl
          refine .inl ⟨(by simp only [putFrom, Act.put, List.setIfInBounds_toArray, List.set_cons_succ, List.set_cons_zero, Nat.reduceAdd, e27]; rfl), fun K Q hK => ?_⟩
          simp only [putFrom, Act.put, List.setIfInBounds_toArray, List.set_cons_succ, List.set_cons_zero, Nat.reduceAdd, e28] at hK ⊢
          have HOUT := Lib.hid hK
          clear hK hdep e28 e27
          go_simp
          refine HOUT.out _ _ _ rfl ⟨Keep.refl _ _ _, ?_⟩
          exact rfl
        rcases j with _ | j
        · simp only [List.getElem?_toArray, List.getElem?_cons_succ, List.getElem?_cons_zero, Option.some.injEq, Nat.zero_add] at ho
          subst ho
          have e27 : vs 27 = _ := hdep 27 rfl
          have e29 : vs 29 = _ := hdep 29 rfl
          refine .inl ⟨rfl, fun K Q hK => ?_⟩
          simp only [putFrom, Act.put, List.setIfInBounds_toArray, List.set_cons_succ, List.set_cons_zero, Nat.reduceAdd, e27, e29] at hK ⊢
          have HOUT := Lib.hid hK
          clear hK hdep e27 e29
          go_simp
          refine HOUT.out _ _ _ rfl ⟨Keep.refl _ _ _, ?_⟩
          exact rfl
        rcases j with _ | j
        · simp only [List.getElem?_toArray, List.getElem?_cons_succ, List.getElem?_cons_zero, Option.some.injEq, Nat.zero_add] at ho
          subst ho
          have e30 : vs 30 = _ := hdep 30 rfl
          refine .inl ⟨rfl, fun K Q hK => ?_⟩
          simp only [putFrom, Act.put, List.setIfInBounds_toArray, List.set_cons_succ, List.set_cons_zero, Nat.reduceAdd, e30] at hK ⊢
          have HOUT := Lib.hid hK
          clear hK hdep e30
          go_simp
          refine HOUT.out _ _ _ rfl ⟨Keep.refl _ _ _, ?_⟩
          exact rfl
        rcases j with _ | j
        · simp only [List.getElem?_toArray, List.getElem?_cons_succ, List.getElem?_cons_zero, Option.some.injEq, Nat.zero_add] at ho
          subst ho
          have e31 : vs 31 = _ := hdep 31 rfl
          refine .inl ⟨(by simp only [putFrom, Act.put, List.setIfInBounds_toArray, List.set_cons_succ, List.set_cons_zero, Nat.reduceAdd, e31]; rfl), fun K Q hK => ?_⟩
          simp only [putFrom, Act.put, List.setIfInBounds_toArray, List.set_cons_succ, List.set_cons_zero, Nat.reduceAdd] at hK ⊢
          have HOUT := Lib.hid hK
          clear hK hdep e31
          go_simp
          refine HOUT.out _ _ _ rfl ⟨Keep.refl _ _ _, ?_⟩
          exact rfl
        rcases j with _ | j
        · simp only [List.getElem?_toArray, List.getElem?_cons_succ, List.getElem?_cons_zero, Option.some.injEq, Nat.zero_add] at ho
          subst ho
          have e32 : vs 32 = _ := hdep 32 rfl
          have e31 : vs 31 = _ := hdep 31 rfl
          refine .inl ⟨(by simp only [putFrom, Act.put, List.setIfInBounds_toArray, List.set_cons_succ, List.set_cons_zero, Nat.reduceAdd, e31]; rfl), fun K Q hK => ?_⟩
          simp only [putFrom, Act.put, List.setIfInBounds_toArray, List.set_cons_succ, List.set_cons_zero, Nat.reduceAdd, e32] at hK ⊢
          have HOUT := Lib.hid hK
          clear hK hdep e32 e31
          go_simp
          refine HOUT.out _ _ _ rfl ⟨Keep.refl _ _ _, ?_⟩
          exact rfl
        rcases j with _ | j
        · simp only [List.getElem?_toArray, List.getElem?_cons_succ, List.getElem?_cons_zero, Option.some.injEq, Nat.zero_add] at ho
          subst ho
          have e31 : vs 31 = _ := hdep 31 rfl
          have e33 : vs 33 = _ := hdep 33 rfl
          refine .inl ⟨rfl, fun K Q hK => ?_⟩
          simp only [putFrom, Act.put, List.setIfInBounds_toArray, List.set_cons_succ, List.set_cons_zero, Nat.reduceAdd, e31, e33] at hK ⊢
          have HOUT := Lib.hid hK
          clear hK hdep e31 e33
          go_simp
          refine HOUT.out _ _ _ rfl ⟨Keep.refl _ _ _, ?_⟩
          exact rfl
        rcases j with _ | j
        · simp only [List.getElem?_toArray, List.getElem?_cons_succ, List.getElem?_cons_zero, Option.some.injEq, Nat.zero_add] at ho
          subst ho
          have e34 : vs 34 = _ := hdep 34 rfl
          refine .inl ⟨rfl, fun K Q hK => ?_⟩
          simp only [putFrom, Act.put, List.setIfInBounds_toArray, List.set_cons_succ, List.set_cons_zero, Nat.reduceAdd, e34] at hK ⊢
          have HOUT := Lib.hid hK
          clear hK hdep e34
          go_simp
          refine HOUT.out _ _ _ rfl ⟨Keep.refl _ _ _, ?_⟩
          exact rfl
        rcases j with _ | j
        · simp only [List.getElem?_toArray, List.getElem?_cons_succ, List.getElem?_cons_zero, Option.some.injEq, Nat.zero_add] at ho
          subst ho
          have e35 : vs 35 = _ := hdep 35 rfl
          refine .inl ⟨(by simp only [putFrom, Act.put, List.setIfInBounds_toArray, List.set_cons_succ, List.set_cons_zero, Nat.reduceAdd, e35]; rfl), fun K Q hK => ?_⟩
          simp only [putFrom, Act.put, List.setIfInBounds_toArray, List.set_cons_succ, List.set_cons_zero, Nat.reduceAdd] at hK ⊢
          have HOUT := Lib.hid hK
          clear hK hdep e35
          go_simp
          refine HOUT.out _ _ _ rfl ⟨Keep.refl _ _ _, ?_⟩
          exact rfl
        rcases j with _ | j
        · simp only [List.getElem?_toArray, List.getElem?_cons_succ, List.getElem?_cons_zero, Option.some.injEq, Nat.zero_add] at ho
          subst ho
          have e36 : vs 36 = _ := hdep 36 rfl
          have e35 : vs 35 = _ := hdep 35 rfl
          refine .inl ⟨(by simp only [putFrom, Act.put, List.setIfInBounds_toArray, List.set_cons_succ, List.set_cons_zero, Nat.reduceAdd, e35]; rfl), fun K Q hK => ?_⟩
          simp only [putFrom, Act.put, List.setIfInBounds_toArray, List.set_cons_succ, List.set_cons_zero, Nat.reduceAdd, e36] at hK ⊢
          have HOUT := Lib.hid hK
          clear hK hdep e36 e35
          go_simp
          refine HOUT.out _ _ _ rfl ⟨Keep.refl _ _ _, ?_⟩
          exact rfl
        rcases j with _ | j
        · simp only [List.getElem?_toArray, List.getElem?_cons_succ, List.getElem?_cons_zero, Option.some.injEq, Nat.zero_add] at ho
          subst ho
          have e35 : vs 35 = _ := hdep 35 rfl
          have e37 : vs 37 = _ := hdep 37 rfl
          refine .inl ⟨rfl, fun K Q hK => ?_⟩
          simp only [putFrom, Act.put, List.setIfInBounds_toArray, List.set_cons_succ, List.set_cons_zero, Nat.reduceAdd, e35, e37] at hK ⊢
          have HOUT := Lib.hid hK
          clear hK hdep e35 e37
          go_simp
          refine HOUT.out _ _ _ rfl ⟨Keep.refl _ _ _, ?_⟩
          exact rfl
        rcases j with _ | j
        · simp only [List.getElem?_toArray, List.getElem?_cons_succ, List.getElem?_cons_zero, Option.some.injEq, Nat.zero_add] at ho
          subst ho
          have e38 : vs 38 = _ := hdep 38 rfl
          refine .inl ⟨rfl, fun K Q hK => ?_⟩
          simp only [putFrom, Act.put, List.setIfInBounds_toArray, List.set_cons_succ, List.set_cons_zero, Nat.reduceAdd, e38] at hK ⊢
          have HOUT := Lib.hid hK
          clear hK hdep e38
          go_simp
          refine HOUT.out _ _ _ rfl ⟨Keep.refl _ _ _, ?_⟩
          exact rfl
        rcases j with _ | j
        · simp only [List.getElem?_toArray, List.getElem?_cons_succ, List.getElem?_cons_zero, Option.some.injEq, Nat.zero_add] at ho
          subst ho
          have e39 : vs 39 = _ := hdep 39 rfl
          refine .inl ⟨(by simp only [putFrom, Act.put, List.setIfInBounds_toArray, List.set_cons_succ, List.set_cons_zero, Nat.reduceAdd, e39]; rfl), fun K Q hK => ?_⟩
          simp only [putFrom, Act.put, List.setIfInBounds_toArray, List.set_cons_succ, List.set_cons_zero, Nat.reduceAdd] at hK ⊢
          have HOUT := Lib.hid hK
          clear hK hdep e39
          go_simp
          refine HOUT.out _ _ _ rfl ⟨Keep.refl _ _ _, ?_⟩
          exact rfl
        rcases j with _ | j
        · simp only [List.getElem?_toArray, List.getElem?_cons_succ, List.getElem?_cons_zero, Option.some.injEq, Nat.zero_add] at ho
          subst ho
          have e40 : vs 40 = _ := hdep 40 rfl
          have e39 : vs 39 = _ := hdep 39 rfl
          refine .inl ⟨(by simp only [putFrom, Act.put, List.setIfInBounds_toArray, List.set_cons_succ, List.set_cons_zero, Nat.reduceAdd, e39]; rfl), fun K Q hK => ?_⟩
          simp only [putFrom, Act.put, List.setIfInBounds_toArray, List.set_cons_succ, List.set_cons_zero, Nat.reduceAdd, e40] at hK ⊢
          have HOUT := Lib.hid hK
          clear hK hdep e40 e39
          go_simp
          refine HOUT.out _ _ _ rfl ⟨Keep.refl _ _ _, ?_⟩
          exact rfl
        rcases j with _ | j
        · simp only [List.getElem?_toArray, List.getElem?_cons_succ, List.getElem?_cons_zero, Option.some.injEq, Nat.zero_add] at ho
          subst ho
          have e39 : vs 39 = _ := hdep 39 rfl
          have e41 : vs 41 = _ := hdep 41 rfl
          refine .inl ⟨rfl, fun K Q hK => ?_⟩
          simp only [putFrom, Act.put, List.setIfInBounds_toArray, List.set_cons_succ, List.set_cons_zero, Nat.reduceAdd, e39, e41] at hK ⊢
          have HOUT := Lib.hid hK
          clear hK hdep e39 e41
          go_simp
          refine HOUT.out _ _ _ rfl ⟨Keep.refl _ _ _, ?_⟩
          exact rfl
        rcases j with _ | j
        · simp only [List.getElem?_toArray, List.getElem?_cons_succ, List.getElem?_cons_zero, Option.some.injEq, Nat.zero_add] at ho
          subst ho
          have e42 : vs 42 = _ := hdep 42 rfl
          refine .inl ⟨rfl, fun K Q hK => ?_⟩
          simp only [putFrom, Act.put, List.setIfInBounds_toArray, List.set_cons_succ, List.set_cons_zero, Nat.reduceAdd, e42] at hK ⊢
          have HOUT := Lib.hid hK
          clear hK hdep e42
          go_simp
          refine HOUT.out _ _ _ rfl ⟨Keep.refl _ _ _, ?_⟩
          exact rfl
        rcases j with _ | j
        · simp only [List.getElem?_toArray, List.getElem?_cons_succ, List.getElem?_cons_zero, Option.some.injEq, Nat.zero_add] at ho
          subst ho
          have e43 : vs 43 = _ := hdep 43 rfl
          refine .inl ⟨(by simp only [putFrom, Act.put, List.setIfInBounds_toArray, List.set_cons_succ, List.set_cons_zero, Nat.reduceAdd, e43]; rfl), fun K Q hK => ?_⟩
          simp only [putFrom, Act.put, List.setIfInBounds_toArray, List.set_cons_succ, List.set_cons_zero, Nat.reduceAdd] at hK ⊢
          have HOUT := Lib.hid hK
          clear hK hdep e43
          go_simp
          refine HOUT.out _ _ _ rfl ⟨Keep.refl _ _ _, ?_⟩
          exact rfl
        rcases j with _ | j
        · simp only [List.getElem?_toArray, List.getElem?_cons_succ, List.getElem?_cons_zero, Option.some.injEq, Nat.zero_add] at ho
          subst ho
          have e44 : vs 44 = _ := hdep 44 rfl
          have e43 : vs 43 = _ := hdep 43 rfl
          refine .inl ⟨(by simp only [putFrom, Act.put, List.setIfInBounds_toArray, List.set_cons_succ, List.set_cons_zero, Nat.reduceAdd, e43]; rfl), fun K Q hK => ?_⟩
          simp only [putFrom, Act.put, List.setIfInBounds_toArray, List.set_cons_succ, List.set_cons_zero, Nat.reduceAdd, e44] at hK ⊢
          have HOUT := Lib.hid hK
          clear hK hdep e44 e43
          go_simp
          refine (HMA.out W hI).mono ?_
          rintro e w3 ⟨rfl, hB3⟩
          go_simp
          refine HOUT.out _ _ _ rfl ⟨Keep.of_below hB3 hsz, ?_⟩
          exact rfl
        rcases j with _ | j
        · simp only [List.getElem?_toArray, List.getElem?_cons_succ, List.getElem?_cons_zero, Option.some.injEq, Nat.zero_add] at ho
          subst ho
          have e43 : vs 43 = _ := hdep 43 rfl
          have e45 : vs 45 = _ := hdep 45 rfl
          refine .inl ⟨rfl, fun K Q hK => ?_⟩
          simp only [putFrom, Act.put, List.setIfInBounds_toArray, List.set_cons_succ, List.set_cons_zero, Nat.reduceAdd, e43, e45] at hK ⊢
          have HOUT := Lib.hid hK
          clear hK hdep e43 e45
          go_simp
          refine HOUT.out _ _ _ rfl ⟨Keep.refl _ _ _, ?_⟩
          exact rfl
        rcases j with _ | j
        · simp only [List.getElem?_toArray, List.getElem?_cons_succ, List.getElem?_cons_zero, Option.some.injEq, Nat.zero_add] at ho
          subst ho
          have e46 : vs 46 = _ := hdep 46 rfl
          refine .inl ⟨rfl, fun K Q hK => ?_⟩
          simp only [putFrom, Act.put, List.setIfInBounds_toArray, List.set_cons_succ, List.set_cons_zero, Nat.reduceAdd, e46] at hK ⊢
          have HOUT := Lib.hid hK
          clear hK hdep e46
          go_simp
          refine HOUT.out _ _ _ rfl ⟨Keep.refl _ _ _, ?_⟩
          exact rfl
        rcases j with _ | j
        · simp only [List.getElem?_toArray, List.getElem?_cons_succ, List.getElem?_cons_zero, Option.some.injEq, Nat.zero_add] at ho
          subst ho
          have e47 : vs 47 = _ := hdep 47 rfl
          refine .inl ⟨(by simp only [putFrom, Act.put, List.setIfInBounds_toArray, List.set_cons_succ, List.set_cons_zero, Nat.reduceAdd, e47]; rfl), fun K Q hK => ?_⟩
          simp only [putFrom, Act.put, List.setIfInBounds_toArray, List.set_cons_succ, List.set_cons_zero, Nat.reduceAdd] at hK ⊢
          have HOUT := Lib.hid hK
          clear hK hdep e47
          go_simp
          refine HOUT.out _ _ _ rfl ⟨Keep.refl _ _ _, ?_⟩
          exact rfl
        rcases j with _ | j
        · simp only [List.getElem?_toArray, List.getElem?_cons_succ, List.getElem?_cons_zero, Option.some.injEq, Nat.zero_add] at ho
          subst ho
          have e47 : vs 47 = _ := hdep 47 rfl
          refine .inl ⟨(by simp only [putFrom, Act.put, List.setIfInBounds_toArray, List.set_cons_succ, List.set_cons_zero, Nat.reduceAdd, e47]; rfl), fun K Q hK => ?_⟩
          simp only [putFrom, Act.put, List.setIfInBounds_toArray, List.set_cons_succ, List.set_cons_zero, Nat.reduceAdd] at hK ⊢
          have HOUT := Lib.hid hK
          clear hK hdep e47
          go_simp
          refine HOUT.out _ _ _ rfl ⟨Keep.refl _ _ _, ?_⟩
          exact rfl
        rcases j with _ | j
        · simp only [List.getElem?_toArray, List.getElem?_cons_succ, List.getElem?_cons_zero, Option.some.injEq, Nat.zero_add] at ho
          subst ho
          have e49 : vs 49 = _ := hdep 49 rfl
          have e47 : vs 47 = _ := hdep 47 rfl
          refine .inl ⟨(by simp only [putFrom, Act.put, List.setIfInBounds_toArray, List.set_cons_succ, List.set_cons_zero, Nat.reduceAdd, e47]; rfl), fun K Q hK => ?_⟩
          simp only [putFrom, Act.put, List.setIfInBounds_toArray, List.set_cons_succ, List.set_cons_zero, Nat.reduceAdd, e49] at hK ⊢
          have HOUT := Lib.hid hK
          clear hK hdep e49 e47
          go_simp
          refine HOUT.out _ _ _ rfl ⟨Keep.refl _ _ _, ?_⟩
          exact rfl
        rcases j with _ | j
        · simp only [List.getElem?_toArray, List.getElem?_cons_succ, List.getElem?_cons_zero, Option.some.injEq, Nat.zero_add] at ho
          subst ho
          have e50 : vs 50 = _ := hdep 50 rfl
          have e47 : vs 47 = _ := hdep 47 rfl
          have hrw := HRE.out W hI
          refine .inl ⟨(by simp only [putFrom, Act.put, List.setIfInBounds_toArray, List.set_cons_succ, List.set_cons_zero, Nat.reduceAdd, e47]; rfl), fun K Q hK => ?_⟩
          simp only [putFrom, Act.put, List.setIfInBounds_toArray, List.set_cons_succ, List.set_cons_zero, Nat.reduceAdd, e50] at hK ⊢
          have HOUT := Lib.hid hK
          clear hK hdep e50 e47
          refine wp_load_mid 34 _ rfl b 0 rfl (bys k1 ++ [v1]) _ hrw Tryd.underlying34 rfl HSZ.out ?_
          simp only [Act.put, List.setIfInBounds_toArray, List.set_cons_succ, List.set_cons_zero]
          refine HOUT.out _ _ _ rfl ⟨Keep.refl _ _ _, ?_⟩
          exact rfl
        rcases j with _ | j
        · simp only [List.getElem?_toArray, List.getElem?_cons_succ, List.getElem?_cons_zero, Option.some.injEq, Nat.zero_add] at ho
          subst ho
          have e51 : vs 51 = _ := hdep 51 rfl
          have e47 : vs 47 = _ := hdep 47 rfl
          obtain ⟨i0, hi, hz0, hz1, hz2⟩ := info_parts Tryd.infoEnt
          have hfe := fill_ent (bys k1 ++ [v1]) (one_len HKL1.out v1) i0.size hz1
          refine .inl ⟨(by simp only [putFrom, Act.put, List.setIfInBounds_toArray, List.set_cons_succ, List.set_cons_zero, Nat.reduceAdd, e47]; rfl), fun K Q hK => ?_⟩
          simp only [putFrom, Act.put, List.setIfInBounds_toArray, List.set_cons_succ, List.set_cons_zero, Nat.reduceAdd, e51] at hK ⊢
          have HOUT := Lib.hid hK
          clear hK hdep e51 e47
          refine wp_buildSlice 26 34 1 _ rfl (bys k1 ++ [v1]).toArray i0 (.agg zent.toArray) Tryd.underlying26 hi hz0 (by rw [hz1]; decide) (by rw [hz1]; decide) (by simp only [List.map_toArray, List.map_cons, List.map_nil]; exact hfe) ?_
          simp only [Act.put, List.setIfInBounds_toArray, List.set_cons_succ, List.set_cons_zero]
          refine HOUT.out _ _ _ rfl ⟨Keep.alloc hsz _, ?_⟩
          exact ⟨_, rfl, hsz, RowK.new W _ (bys k1 ++ [v1]) _⟩
        rcases j with _ | j
        · simp only [List.getElem?_toArray, List.getElem?_cons_succ, List.getElem?_cons_zero, Option.some.injEq, Nat.zero_add] at ho
          subst ho
          have e48 : vs 48 = _ := hdep 48 rfl
          have e47 : vs 47 = _ := hdep 47 rfl
          obtain ⟨b1, e52, hb1, hr1⟩ := hdep 52 rfl
          obtain ⟨i0, hi, hz0, hz1, hz2⟩ := info_parts Tryd.infoEnt
          have hold := HOLD.out W hI
          have holl := HOLL.out
          have hnl : (bys k1 ++ [v1]).length = 33 := one_len HKL1.out v1
          refine .inl ⟨(by simp only [putFrom, Act.put, List.setIfInBounds_toArray, List.set_cons_succ, List.set_cons_zero, Nat.reduceAdd, e47]; rfl), fun K Q hK => ?_⟩
          simp only [putFrom, Act.put, List.setIfInBounds_toArray, List.set_cons_succ, List.set_cons_zero, Nat.reduceAdd, e48, e52] at hK ⊢
          have HOUT := Lib.hid hK
          clear hK hdep e48 e47 e52
          refine wp_append_full _ _ 26 rfl 34 i0 (.agg zent.toArray) Tryd.underlying26 hi hz0 ⟨b, 0, none⟩ 2 2 (entC [v1, v2] [(k1, x1), (k2, x2)]) rfl (by rw [holl, hz1]) hold ⟨b1, 0, none⟩ 1 1 (bys k1 ++ [v1]) rfl (by rw [hnl, hz1]) (fun j u hu => by rw [add_at]; obtain ⟨z, hz⟩ := hr1; simp [World.cell?, hz, hu]) (by decide) (by decide) (by rw [hz2]; decide) ?_
          intro c' w' hB ⟨tl, hrr⟩
          refine HOUT.out _ _ _ rfl ⟨Keep.of_below hB hsz, ?_⟩
          exact ⟨_, _, tl, rfl, hsz, hrr⟩
        rcases j with _ | j
        · simp only [List.getElem?_toArray, List.getElem?_cons_succ, List.getElem?_cons_zero, Option.some.injEq, Nat.zero_add] at ho
          subst ho
          have e47 : vs 47 = _ := hdep 47 rfl
          obtain ⟨b1, c1, tl, e53, hb1, hr1⟩ := hdep 53 rfl
          have hm := Lib.hid (HM3.out W hI b1 c1 tl hr1)
          refine .inl ⟨(by simp only [putFrom, Act.put, List.setIfInBounds_toArray, List.set_cons_succ, List.set_cons_zero, Nat.reduceAdd, e47]; rfl), fun K Q hK => ?_⟩
          simp only [putFrom, Act.put, List.setIfInBounds_toArray, List.set_cons_succ, List.set_cons_zero, Nat.reduceAdd, e53] at hK ⊢
          have HOUT := Lib.hid hK
          clear hK hdep e53 e47
          go_simp
          refine (hm.out).mono ?_
          rintro e w3 ⟨rfl, hB3⟩
          go_simp
          refine HOUT.out _ _ _ rfl ⟨Keep.of_below hB3 hsz, ?_⟩
          exact rfl
        rcases j with _ | j
        · simp only [List.getElem?_toArray, List.getElem?_cons_succ, List.getElem?_cons_zero, Option.some.injEq, Nat.zero_add] at ho
          subst ho
          have e54 : vs 54 = _ := hdep 54 rfl
          have e47 : vs 47 = _ := hdep 47 rfl
          refine .inl ⟨(by simp only [putFrom, Act.put, List.setIfInBounds_toArray, List.set_cons_succ, List.set_cons_zero, Nat.reduceAdd, e47]; rfl), fun K Q hK => ?_⟩
          simp only [putFrom, Act.put, List.setIfInBounds_toArray, List.set_cons_succ, List.set_cons_zero, Nat.reduceAdd, e54] at hK ⊢
          have HOUT := Lib.hid hK
          clear hK hdep e54 e47
          go_simp
          refine HOUT.out _ _ _ rfl ⟨Keep.refl _ _ _, ?_⟩
          exact rfl
        rcases j with _ | j
        · simp only [List.getElem?_toArray, List.getElem?_cons_succ, List.getElem?_cons_zero, Option.some.injEq, Nat.zero_add] at ho
          subst ho
          have e47 : vs 47 = _ := hdep 47 rfl
          have e55 : vs 55 = _ := hdep 55 rfl
          refine .inl ⟨rfl, fun K Q hK => ?_⟩
          simp only [putFrom, Act.put, List.setIfInBounds_toArray, List.set_cons_succ, List.set_cons_zero, Nat.reduceAdd, e47, e55] at hK ⊢
          have HOUT := Lib.hid hK
          clear hK hdep e47 e55
          go_simp
          refine HOUT.out _ _ _ rfl ⟨Keep.refl _ _ _, ?_⟩
          exact rfl
        rcases j with _ | j
        · simp only [List.getElem?_toArray, List.getElem?_cons_succ, List.getElem?_cons_zero, Option.some.injEq, Nat.zero_add] at ho
          subst ho
          have e56 : vs 56 = _ := hdep 56 rfl
          refine .inl ⟨rfl, fun K Q hK => ?_⟩
          simp only [putFrom, Act.put, List.setIfInBounds_toArray, List.set_cons_succ, List.set_cons_zero, Nat.reduceAdd, e56] at hK ⊢
          have HOUT := Lib.hid hK
          clear hK hdep e56
          go_simp
          refine HOUT.out _ _ _ rfl ⟨Keep.refl _ _ _, ?_⟩
          exact rfl
        exact absurd ho (by simp)
      · have e57 : vs 57 = .bool true := hR 57 (by decide)
        have hfin := HB5.out.trans (hI.1.mono (by have := HG.out; have := HB5.out.size; omega))
        clear hR hI hsz9 HI9
        simp only [putFrom, Act.put, List.setIfInBounds_toArray, List.set_cons_succ, List.set_cons_zero, Nat.reduceAdd, e57]
        clear e57
        generalize vs 0 = q0 at *; generalize vs 1 = q1 at *; generalize vs 2 = q2 at *; generalize vs 3 = q3 at *; generalize vs 4 = q4 at *; generalize vs 5 = q5 at *; generalize vs 6 = q6 at *; generalize vs 7 = q7 at *; generalize vs 8 = q8 at *; generalize vs 9 = q9 at *; generalize vs 10 = q10 at *; generalize vs 11 = q11 at *; generalize vs 12 = q12 at *; generalize vs 13 = q13 at *; generalize vs 14 = q14 at *; generalize vs 15 = q15 at *; generalize vs 16 = q16 at *; generalize vs 17 = q17 at *; generalize vs 18 = q18 at *; generalize vs 19 = q19 at *; generalize vs 20 = q20 at *; generalize vs 21 = q21 at *; generalize vs 22 = q22 at *; generalize vs 23 = q23 at *; generalize vs 24 = q24 at *; generalize vs 25 = q25 at *; generalize vs 26 = q26 at *; generalize vs 27 = q27 at *; generalize vs 28 = q28 at *; generalize vs 29 = q29 at *; generalize vs 30 = q30 at *; generalize vs 31 = q31 at *; generalize vs 32 = q32 at *; generalize vs 33 = q33 at *; generalize vs 34 = q34 at *; generalize vs 35 = q35 at *; generalize vs 36 = q36 at *; generalize vs 37 = q37 at *; generalize vs 38 = q38 at *; generalize vs 39 = q39 at *; generalize vs 40 = q40 at *; generalize vs 41 = q41 at *; generalize vs 42 = q42 at *; generalize vs 43 = q43 at *; generalize vs 44 = q44 at *; generalize vs 45 = q45 at *; generalize vs 46 = q46 at *; generalize vs 47 = q47 at *; generalize vs 48 = q48 at *; generalize vs 49 = q49 at *; generalize vs 50 = q50 at *; generalize vs 51 = q51 at *; generalize vs 52 = q52 at *; generalize vs 53 = q53 at *; generalize vs 54 = q54 at *; generalize vs 55 = q55 at *; generalize vs 56 = q56 at *
        go_wp2_with fail
        go_ret
        exact ⟨rfl, hfin⟩
end Go.Proofs.YtapbaonlboefeaaDoor
