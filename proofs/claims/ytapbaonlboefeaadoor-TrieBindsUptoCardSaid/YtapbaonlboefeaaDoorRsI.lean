/- The document's own number, Join (wapentakeref01). | The document's own SHA-256: plain facts for wapentakeref01.Sum. | The document's own SHA-256: the region that makes a round's new words (wapentakeref01.Sum). -/
import Derived.Test.YtapbaonlboefeaaDoorShaJ
import Derived.Test.YtapbaonlboefeaaDoorRsF
import Derived.Test.YtapbaonlboefeaaDoorOf
import Derived.StillTailTactics
namespace Go.Proofs.YtapbaonlboefeaaDoor
open Go.RowKit

set_option maxRecDepth 20000 in
set_option maxHeartbeats 800000 in
theorem rnumber_any (n : Nat) (w : World) :
    Calls Tryd.prog 41 #[.int .u64 n, .int .i64 8] w fun e w' => ∃ v', e = .returned v' ∧ w'.ownsRow w.heap.size 5 1 v' 8 (bys (b8 n)) ∧ Below w.heap.size w w' := by
  obtain ⟨i0, hi, hz0, hz1, hz2⟩ := info_parts Tryd.infoByte
  go_enter Tryd.func41, Tryd.ntmps41
  go_wp2
  go_loopw [5, 6] (fun u i wr => ∃ k : Nat, k ≤ 8 ∧ i = .int .i64 (7 - (k : Int)) ∧ wr.ownsRow w.heap.size 5 1 u k (bys (top8 n k)) ∧ Below w.heap.size w wr)
    (fun _ i _ => (intOf i + 1).toNat)
  case atStart => exact ⟨0, by omega, rfl, World.ownsRow_made w _ _ (Nat.le_refl _) (by unfold maxLen; omega) (by simp), (Below.refl _ _).alloc (Nat.le_refl _) _⟩
  case round =>
    obtain ⟨k, hk, rfl, hown1, hB⟩ := hrel
    rcases Nat.lt_or_ge k 8 with hlt | hge
    · have h1 : (k:Int) ≤ 7 := by omega
      go_wp2_with (at_builtin; refine wpList_append_own_at _ rfl _ _ 31 rfl w.heap.size 5 i0 (.int .u8 0) 1 1 Tryd.underlying31 hi hz0 hz1 hz2 rfl (by decide) _ _ _ rfl (hown1.alloc _) ⟨wr.heap.size, 0, none⟩ 1 1 [.int .u8 ((n : Int) / 2 ^ (8 * (7 - k)) % 256)] rfl rfl (cell_one_new _ _ _) ?c2 ?c3 ?c4 ?c5 ?_)
      case c2 => intro u hu; simp at hu; subst hu; rfl
      case c3 => unfold maxLen; omega
      case c4 => omega
      case c5 => have := hB.size; simp; omega
      intro v' w1 hown' hgrow _ hat'
      have hO : w1.ownsRow w.heap.size 5 1 v' (k + 1) (bys (top8 n (k + 1))) := by
        have e : bys (top8 n (k + 1)) = bys (top8 n k) ++ [.int .u8 ((n : Int) / 2 ^ (8 * (7 - k)) % 256)] := by
          rw [top8_snoc, bys_append, show 8 * (7 - k) = 56 - 8 * k from by omega, byte_of]; rfl
        rw [e]; exact hown'
      have hG : wr.grownBy w1 u5.ownBlock := (World.grownBy_alloc wr _ _).trans hgrow
      have hB' := hB.grown hG hB.size (fun g hg => (hown1.lt g hg).1)
      clear hown' hgrow hat' hown1 hG hB
      go_wp2
      go_roundw
      case rel => exact ⟨k + 1, by omega, by go_num, hO, hB'⟩
      case measure => simp [intOf]; omega
    · have h1 : 7 < (k:Int) := by omega
      go_wp2
      go_ret
      obtain rfl : k = 8 := by omega
      exact ⟨_, rfl, hown1, hB⟩

set_option maxRecDepth 20000 in
set_option maxHeartbeats 1600000 in
theorem rjoin_any (B : Nat) (A : Option Addr) (c : Nat) (vs : List Value) (ls : List (List UInt8)) (w : World) (hs : Sees w B 1 A ls.length vs) (hl : Lists w B vs ls) (hB : B ≤ w.heap.size) (hT : (joinF ls).length ≤ 70368744177664) :
    Calls Tryd.prog 32 #[.slice A ls.length c] w fun e w' => ∃ v', e = .returned v' ∧ w'.ownsRow w.heap.size 5 1 v' (joinF ls).length (bys (joinF ls)) ∧ Below w.heap.size w w' := by
  obtain ⟨i0, hi, hz0, hz1, hz2⟩ := info_parts Tryd.infoByte
  have hn : ls.length ≤ 70368744177664 := by have := partsOf_ge ls; rw [joinF_len] at hT; omega
  have hTs : sizeTo ls ls.length ≤ 70368744177664 := by rw [sizeTo_all]; exact hT
  go_enter Tryd.func32, Tryd.ntmps32
  go_wp2_with fail
  refine (rnumber_any ls.length _).mono ?_
  rintro e w1 ⟨v1, rfl, hown1, hB1⟩
  have hO1 : w1.ownsRow w.heap.size 5 1 v1 (sizeTo ls 0) (bys (joinTo ls 0)) := by simpa [sizeTo, joinTo, partsOf] using hown1
  clear hown1
  go_wp2_with fail
  go_loopw [3, 4] (fun u i wr => ∃ k : Nat, k ≤ ls.length ∧ i = .int .i64 (k : Int) ∧ wr.ownsRow w.heap.size 5 1 u (sizeTo ls k) (bys (joinTo ls k)) ∧ Below w.heap.size w wr) (fun _ i _ => ls.length - (intOf i).toNat)
  case atStart => exact ⟨0, by omega, rfl, hO1, hB1⟩
  case round =>
    obtain ⟨k, hk, rfl, hO, hBw⟩ := hrel
    rcases Nat.lt_or_ge k ls.length with hlt | hge
    · obtain ⟨ad, u, hA, hb, hx, hc⟩ := hs.at_ hlt
      obtain ⟨A1, c1, h1, h2, h3, h4⟩ := hl.at_ hlt
      rw [h1] at hx
      injection hx with hx
      subst hx
      subst hA
      have hbb : (ad.add k).block < w.heap.size := by rw [add_block]; omega
      have hcr := (hBw.cell hbb).trans hc
      have hst := Lib.hid (sizeTo_step ls k hlt)
      have hjt := Lib.hid (joinTo_step ls k hlt)
      have hle := sizeTo_le ls (k + 1)
      rw [hst.out] at hle
      have hH := Lib.hid hs
      have hL := Lib.hid hl
      clear hs hl h1 hc
      go_wp2_with fail
      refine (rnumber_any _ _).mono ?_
      rintro e w2 ⟨v2, rfl, hown2, hB2⟩
      obtain ⟨A2, c2, rfl, hc2, hcm2, -, hse2⟩ := own_slice hown2
      have hBw2 : Below w.heap.size w w2 := hBw.trans (hB2.mono hBw.size)
      have hO2 := own_below hO hB2
      have hcr2 := (hBw2.cell hbb).trans ((hBw.cell hbb).symm.trans hcr)
      clear hown2
      go_wp2_with (at_builtin; refine wpList_append_sees _ rfl (.tmp 15) (.tmp 22) 31 rfl w.heap.size 5 i0 (.int .u8 0) 1 1 Tryd.underlying31 hi hz0 hz1 hz2 rfl (by decide) u3 _ _ rfl hO2 w2.heap.size A2 8 c2 _ rfl hse2 (bys_one _) ?c1 ?c2 hBw2.size ?_)
      case c1 => unfold maxLen; omega
      case c2 => omega
      intro v3 w3 hown3 hg3 hm3
      have hB3 : Below w.heap.size w w3 := hBw2.grown hg3 hBw2.size (fun g hg => (hO2.lt g hg).1)
      have hcr3 := (hB3.cell hbb).trans ((hBw.cell hbb).symm.trans hcr)
      have h43 := h4.below (hB3.mono hB)
      clear hcr2 hO hO2 hg3 hm3 hse2 hcr
      go_wp2_with (at_builtin; refine wpList_append_sees _ rfl (.tmp 24) (.tmp 28) 31 rfl w.heap.size 5 i0 (.int .u8 0) 1 1 Tryd.underlying31 hi hz0 hz1 hz2 rfl (by decide) v3 _ _ rfl hown3 B A1 _ c1 _ rfl h43 (bys_one _) ?c1 ?c2 hB3.size ?_)
      case c1 => unfold maxLen; omega
      case c2 => omega
      intro v4 w4 hown4 hg4 hm4
      have hB4 : Below w.heap.size w w4 := hB3.grown hg4 hB3.size (fun g hg => (hown3.lt g hg).1)
      have hO4 : w4.ownsRow w.heap.size 5 1 v4 (sizeTo ls (k + 1)) (bys (joinTo ls (k + 1))) := by
        rw [hst.out, hjt.out, bys_append, bys_append, ← Nat.add_assoc, List.append_assoc]; simpa only [List.append_assoc] using hown4
      have hs := hH.out
      have hl := hL.out
      clear hown3 hown4 hg4 hm4 hBw hBw2 hB3 h43 h4 hcr3
      go_wp2
      go_roundw
      case rel => exact ⟨k + 1, by omega, by go_num, hO4, hB4⟩
      case measure => simp [intOf]; omega
    · obtain rfl : k = ls.length := by omega
      go_wp2
      go_ret
      exact ⟨_, rfl, by rw [← sizeTo_all, ← joinTo_all]; exact hO, hBw⟩
end Go.Proofs.YtapbaonlboefeaaDoor
namespace Go.Proofs.YtapbaonlboefeaaDoor
open Go.RowKit

theorem own_hb {w : World} {base n : Nat} {e : TypeId} {v : Value} {xs : List Value} (h : w.ownsRow base e 1 v n xs) (hn : 0 < n) :
    ∃ g c rest, v = .slice (some ⟨g, 0, none⟩) n c ∧ base ≤ g ∧ n ≤ c ∧ c ≤ 9223372036854775807 ∧ HB w g e (xs ++ rest) := by
  obtain ⟨_, h2⟩ := h
  rcases h2 with ⟨_, h0⟩ | ⟨g, cap, cur, hv, hb, hh, hnc, hm, _, hx⟩
  · omega
  · refine ⟨g, cap, cur.toList.drop (n * 1), hv, hb, hnc, (by unfold maxLen at hm; omega), ?_⟩
    unfold HB
    rw [← hx, List.take_append_drop, Array.toArray_toList]
    exact hh
theorem hb_ne_h {w : World} {g g' : Nat} {e e' : TypeId} {xs ys : List Value} (h : HB w g e xs) (h' : HB w g' e' ys) (hne : e ≠ e') : g ≠ g' := types_ne ⟨_, _, h⟩ ⟨_, _, h'⟩ hne
/-- The first t words of a block's schedule. -/
def wTo (b : List UInt8) (t : Nat) : List UInt32 := if t ≤ 16 then firstW b t else moreW (t - 16) (firstW b 16)
theorem wTo_len (b : List UInt8) (t : Nat) : (wTo b t).length = t := by
  unfold wTo
  split
  · exact firstW_len b t
  · rw [moreW_len, firstW_len]; omega
theorem wTo_first (b : List UInt8) (t : Nat) (h : t < 16) : wTo b (t + 1) = wTo b t ++ [wordAt b (4 * t)] := by
  unfold wTo
  rw [if_pos (by omega), if_pos (by omega), firstW_succ]
theorem wTo_more (b : List UInt8) (t : Nat) (h : 16 ≤ t) : wTo b (t + 1) = wTo b t ++ [nextW (wTo b t)] := by
  have e : wTo b t = moreW (t - 16) (firstW b 16) := by
    unfold wTo
    rcases Nat.eq_or_lt_of_le h with h1 | h1
    · subst h1; rw [if_pos (by omega)]; rfl
    · rw [if_neg (by omega)]
  rw [e]
  unfold wTo
  rw [if_neg (by omega), show t + 1 - 16 = (t - 16) + 1 from by omega]
  rfl
theorem wTo_all (b : List UInt8) : wTo b 64 = scheduleF b := by unfold wTo; rw [if_neg (by omega)]; rfl
theorem wTo_nil (b : List UInt8) : wTo b 0 = [] := rfl
theorem absorb_succ (j : Nat) (s : St) (l : List UInt8) : absorb (j + 1) s l = compress (absorb j s l) ((l.drop (64 * j)).take 64) := by
  rw [absorb_add]; rfl
theorem padZeros_not (n z : Nat) (h : z < padZeros n) : (n + 1 + z) % 64 ≠ 56 := by unfold padZeros at h; omega
theorem padZeros_yes (n : Nat) : (n + 1 + padZeros n) % 64 = 56 := by unfold padZeros; omega
theorem padZeros_le (n : Nat) : padZeros n < 64 := Nat.mod_lt _ (by decide)
/-- Bytes, the mark, and so many noughts. -/
def padTo (m : List UInt8) (z : Nat) : List UInt8 := m ++ ([0x80] ++ List.replicate z 0)
theorem padTo_len (m : List UInt8) (z : Nat) : (padTo m z).length = m.length + 1 + z := by simp [padTo]; omega
theorem padTo_succ (m : List UInt8) (z : Nat) : padTo m (z + 1) = padTo m z ++ [0] := by simp [padTo, List.replicate_succ']
theorem padF_eq (m : List UInt8) : padF m = padTo m (padZeros m.length) ++ b8 (8 * m.length) := by simp [padF, padTo]
theorem padF_len (m : List UInt8) : (padF m).length = m.length + 9 + padZeros m.length := by rw [padF_eq, List.length_append, padTo_len, top8_len]; omega
theorem padF_mod (m : List UInt8) : (padF m).length = 64 * ((padF m).length / 64) := by
  have h := padF_len m
  have h2 := padZeros_yes m.length
  omega
theorem st_get (s : St) (rest : List Value) : ∀ j, j < 8 → (us s.list ++ rest)[j]? = some (.int .u32 ((s.get j).toNat : Int)) :=
  below8 rfl rfl rfl rfl rfl rfl rfl rfl
theorem outByte (s : St) : ∀ i, i < 32 → Value.int .u8 (((s.get (i / 4)).toNat : Int) / 2 ^ (24 - 8 * (i % 4)) % 256) = by_ ((digestOf s).getD i 0) := by
  have key : ∀ (x : UInt32) (r : Nat), r < 4 → Value.int .u8 ((x.toNat : Int) / 2 ^ (24 - 8 * r) % 256) = by_ ((bytesOf x).getD r 0) := by
    intro x r hr
    have : r = 0 ∨ r = 1 ∨ r = 2 ∨ r = 3 := by omega
    rcases this with rfl | rfl | rfl | rfl <;> simp [by_, bytesOf]
  intro i hi
  have h1 := key (s.get (i / 4)) (i % 4) (Nat.mod_lt _ (by decide))
  rw [h1]
  have hall : ∀ q, q < 8 → ∀ r, r < 4 → (bytesOf (s.get q)).getD r 0 = (digestOf s).getD (4 * q + r) 0 := by
    have r4 : ∀ (p : Nat → Prop), p 0 → p 1 → p 2 → p 3 → ∀ r, r < 4 → p r := by
      intro p h0 h1 h2 h3 r hr
      have : r = 0 ∨ r = 1 ∨ r = 2 ∨ r = 3 := by omega
      rcases this with rfl | rfl | rfl | rfl <;> assumption
    exact below8 (r4 _ rfl rfl rfl rfl) (r4 _ rfl rfl rfl rfl) (r4 _ rfl rfl rfl rfl) (r4 _ rfl rfl rfl rfl) (r4 _ rfl rfl rfl rfl) (r4 _ rfl rfl rfl rfl) (r4 _ rfl rfl rfl rfl) (r4 _ rfl rfl rfl rfl)
  rw [hall (i / 4) (by omega) (i % 4) (Nat.mod_lt _ (by decide)), Nat.div_add_mod]
def outTo (l : List UInt8) (i : Nat) : List Value := bys (l.take i ++ zeros (32 - i))
theorem outTo_len (l : List UInt8) (hl : l.length = 32) (i : Nat) (hi : i ≤ 32) : (outTo l i).length = 32 := by
  rw [outTo, bys_len, List.length_append, List.length_take, zeros_len, hl]; omega
theorem outTo_set (l : List UInt8) (hl : l.length = 32) (i : Nat) (hi : i < 32) : (outTo l i).set i (by_ (l.getD i 0)) = outTo l (i + 1) := by
  have e : l.getD i 0 = l[i] := by rw [List.getD_eq_getElem?_getD, List.getElem?_eq_getElem (by omega)]; rfl
  have hz : zeros (32 - i) = 0 :: zeros (32 - (i + 1)) := by unfold zeros; rw [show 32 - i = (32 - (i + 1)) + 1 from by omega, List.replicate_succ]
  rw [outTo, outTo, e, List.take_succ_eq_append_getElem (by omega), hz]
  unfold bys
  rw [List.map_append, List.map_append, List.map_append, List.set_append_right _ _ (by rw [List.length_map, List.length_take]; omega), List.length_map, List.length_take, show i - min i l.length = 0 from by omega]
  simp
theorem outTo_all (l : List UInt8) (hl : l.length = 32) : outTo l 32 = bys l := by rw [outTo, List.take_of_length_le (by omega)]; simp [zeros]
theorem outTo_nil (l : List UInt8) : outTo l 0 = zdig := rfl
/-- A slice's length. -/
def lenV : Value → Nat
  | .slice _ n _ => n
  | _ => 0
end Go.Proofs.YtapbaonlboefeaaDoor
namespace Go.Proofs.YtapbaonlboefeaaDoor
open Go.RowKit

theorem build_u8 (W : World) (a b c d e f g h : UInt32) : (Instr.buildSlice 82 8 #[(0, u32_ a), (1, u32_ b), (2, u32_ c), (3, u32_ d), (4, u32_ e), (5, u32_ f), (6, u32_ g), (7, u32_ h)]).run Tryd.prog W = .ok (.slice (some ⟨W.heap.size, 0, none⟩) 8 8) (W.alloc (.cells (us [a, b, c, d, e, f, g, h]).toArray 87)) := by
  obtain ⟨i0, hi, hz0, hz1, hz2⟩ := info_parts Tryd.infoU32
  exact run_buildSlice (P := Tryd.prog) W 82 87 8 _ _ i0 (.int .u32 0) Tryd.underlying82 hi hz0 (by rw [hz1]; decide) (by rw [hz1]; decide) (by rw [hz1]; exact Great.fill_flat [u32_ a, u32_ b, u32_ c, u32_ d, u32_ e, u32_ f, u32_ g, u32_ h] _ (by simp [Value.cells]) (by simp))
/-- A region of a function's code, by its number. -/
def regionOf (n : Nat) : Code → Option Code
  | .region k ops d => if k = n then some (.region k ops d) else none
  | .seq a b => match regionOf n a with
    | some c => some c
    | none => regionOf n b
  | .cond _ a b => match regionOf n a with
    | some c => some c
    | none => regionOf n b
  | .block _ c => regionOf n c
  | .loop c => regionOf n c
  | .scope c => regionOf n c
  | _ => none
noncomputable def roundTail : Code := (Tryd.f22.body.bind (regionOf 28)).getD .skip
section
attribute [local go_sem] u_add
set_option maxRecDepth 100000 in
set_option maxHeartbeats 1600000 in
theorem roundTail_any (c0 c1 c2 c3 c4 c5 c6 c7 c8 c9 c10 c11 c13 c14 c15 c17 c19 c20 c21 c22 c23 c24 c25 c26 c27 c28 c29 c30 c31 c32 c33 c34 c35 c36 c37 c38 c39 c40 c41 c42 c43 c44 c45 c46 c47 c48 c49 c50 c51 c52 c53 c54 c55 c56 c57 c58 c59 c60 c61 c62 c63 c64 c65 c66 c67 c68 c69 c70 c71 c72 c73 c74 c75 c76 c77 c78 c79 c80 c81 c82 c83 c84 c85 c86 c87 c88 c89 c90 c91 c92 c93 c94 c95 c96 c97 c98 c99 c100 c101 c102 c103 c104 c105 c106 c107 c108 c109 c110 c111 c112 c113 c114 c115 c116 c117 c118 c119 c120 c121 c122 c123 c124 c125 c126 c127 c128 c129 c130 c131 c132 c133 c134 c135 c136 c137 c138 c139 c140 c141 c142 c143 c144 c145 c146 c147 c148 c149 c150 c151 c152 c153 c154 c155 c156 c157 c158 c159 c160 c161 c162 c163 c164 c165 c166 c167 c168 c169 c170 c171 c172 c173 c174 c175 c176 c177 c178 c179 c180 c181 c182 c183 c184 c185 c186 c187 c188 c189 c190 c191 c192 c193 c194 c195 c196 c197 c198 c199 c200 c201 c202 c203 c204 c205 c206 c207 c208 c209 c210 c211 c212 c213 c214 c215 c216 c217 c218 c219 c220 c221 c222 c223 c224 c225 c226 c227 c228 c229 c230 c231 c232 c233 c234 c235 c236 c237 c238 c239 c240 c241 c242 c243 c244 c245 c246 c247 c248 c249 c250 c251 c252 c253 c254 c255 c256 c257 c258 c259 c260 c261 c262 c263 c264 c265 c266 c267 c268 c269 c270 c271 c272 c273 c274 c275 c276 c277 c278 c279 c280 c281 c282 c283 c284 c285 c286 c287 c288 c289 c290 c291 c292 c293 c294 c295 c296 c297 c298 c299 c300 c301 c302 c303 c304 : Value) (g1 cap1 : Nat) (x16 x18 : UInt32) (T : St) (w : World) (d0 : w.cell? ⟨g1, 0, none⟩ = some (u32_ T.a)) (d1 : w.cell? ⟨g1, 1, none⟩ = some (u32_ T.b)) (d2 : w.cell? ⟨g1, 2, none⟩ = some (u32_ T.c)) (d3 : w.cell? ⟨g1, 3, none⟩ = some (u32_ T.d)) (d4 : w.cell? ⟨g1, 4, none⟩ = some (u32_ T.e)) (d5 : w.cell? ⟨g1, 5, none⟩ = some (u32_ T.f)) (d6 : w.cell? ⟨g1, 6, none⟩ = some (u32_ T.g)) (Q : Exit → Act → World → Prop)
    (hQ : ∀ u245 u246 u247 u248 u249 u250 u251 u252 u253 u254 u255 u256 u257 u258 u259 u260 u261 u262 u263 u264 u265 u266 u267 u268 u269 u270 u271 : Value, Q .normal ⟨List.toArray (c0 :: c1 :: c2 :: c3 :: c4 :: c5 :: c6 :: c7 :: c8 :: c9 :: c10 :: c11 :: (.slice (some ⟨w.heap.size, 0, none⟩) 8 8) :: c13 :: c14 :: c15 :: (u32_ x16) :: c17 :: (u32_ x18) :: c19 :: c20 :: c21 :: c22 :: c23 :: c24 :: c25 :: c26 :: c27 :: c28 :: c29 :: c30 :: c31 :: c32 :: c33 :: c34 :: c35 :: c36 :: c37 :: c38 :: c39 :: c40 :: c41 :: c42 :: c43 :: c44 :: c45 :: c46 :: c47 :: c48 :: c49 :: c50 :: c51 :: c52 :: c53 :: c54 :: c55 :: c56 :: c57 :: c58 :: c59 :: c60 :: c61 :: c62 :: c63 :: c64 :: c65 :: c66 :: c67 :: c68 :: c69 :: c70 :: c71 :: c72 :: c73 :: c74 :: c75 :: c76 :: c77 :: c78 :: c79 :: c80 :: c81 :: c82 :: c83 :: c84 :: c85 :: c86 :: c87 :: c88 :: c89 :: c90 :: c91 :: c92 :: c93 :: c94 :: c95 :: c96 :: c97 :: c98 :: c99 :: c100 :: c101 :: c102 :: c103 :: c104 :: c105 :: c106 :: c107 :: c108 :: c109 :: c110 :: c111 :: c112 :: c113 :: c114 :: c115 :: c116 :: c117 :: c118 :: c119 :: c120 :: c121 :: c122 :: c123 :: c124 :: c125 :: c126 :: c127 :: c128 :: c129 :: c130 :: c131 :: c132 :: c133 :: c134 :: c135 :: c136 :: c137 :: c138 :: c139 :: c140 :: c141 :: c142 :: c143 :: c144 :: c145 :: c146 :: c147 :: c148 :: c149 :: c150 :: c151 :: c152 :: c153 :: c154 :: c155 :: c156 :: c157 :: c158 :: c159 :: c160 :: c161 :: c162 :: c163 :: c164 :: c165 :: c166 :: c167 :: c168 :: c169 :: c170 :: c171 :: c172 :: c173 :: c174 :: c175 :: c176 :: c177 :: c178 :: c179 :: c180 :: c181 :: c182 :: c183 :: c184 :: c185 :: c186 :: c187 :: c188 :: c189 :: c190 :: c191 :: c192 :: c193 :: c194 :: c195 :: c196 :: c197 :: c198 :: c199 :: c200 :: c201 :: c202 :: c203 :: c204 :: c205 :: c206 :: c207 :: c208 :: c209 :: c210 :: c211 :: c212 :: c213 :: c214 :: c215 :: c216 :: c217 :: c218 :: c219 :: c220 :: c221 :: c222 :: c223 :: c224 :: c225 :: c226 :: c227 :: c228 :: c229 :: c230 :: c231 :: c232 :: c233 :: c234 :: c235 :: c236 :: c237 :: c238 :: c239 :: c240 :: c241 :: c242 :: c243 :: c244 :: u245 :: u246 :: u247 :: u248 :: u249 :: u250 :: u251 :: u252 :: u253 :: u254 :: u255 :: u256 :: u257 :: u258 :: u259 :: u260 :: u261 :: u262 :: u263 :: u264 :: u265 :: u266 :: u267 :: u268 :: u269 :: u270 :: u271 :: c272 :: c273 :: c274 :: c275 :: c276 :: c277 :: c278 :: c279 :: c280 :: c281 :: c282 :: c283 :: c284 :: c285 :: c286 :: c287 :: c288 :: c289 :: c290 :: c291 :: c292 :: c293 :: c294 :: c295 :: c296 :: c297 :: c298 :: c299 :: c300 :: c301 :: c302 :: c303 :: c304 :: []), []⟩ (w.alloc (.cells (us [wa x16 x18, T.a, T.b, T.c, wa T.d x16, T.e, T.f, T.g]).toArray 87)).drew) :
    Code.wp Tryd.prog roundTail Q ⟨List.toArray (c0 :: c1 :: c2 :: c3 :: c4 :: c5 :: c6 :: c7 :: c8 :: c9 :: c10 :: c11 :: (.slice (some ⟨g1, 0, none⟩) 8 cap1) :: c13 :: c14 :: c15 :: (u32_ x16) :: c17 :: (u32_ x18) :: c19 :: c20 :: c21 :: c22 :: c23 :: c24 :: c25 :: c26 :: c27 :: c28 :: c29 :: c30 :: c31 :: c32 :: c33 :: c34 :: c35 :: c36 :: c37 :: c38 :: c39 :: c40 :: c41 :: c42 :: c43 :: c44 :: c45 :: c46 :: c47 :: c48 :: c49 :: c50 :: c51 :: c52 :: c53 :: c54 :: c55 :: c56 :: c57 :: c58 :: c59 :: c60 :: c61 :: c62 :: c63 :: c64 :: c65 :: c66 :: c67 :: c68 :: c69 :: c70 :: c71 :: c72 :: c73 :: c74 :: c75 :: c76 :: c77 :: c78 :: c79 :: c80 :: c81 :: c82 :: c83 :: c84 :: c85 :: c86 :: c87 :: c88 :: c89 :: c90 :: c91 :: c92 :: c93 :: c94 :: c95 :: c96 :: c97 :: c98 :: c99 :: c100 :: c101 :: c102 :: c103 :: c104 :: c105 :: c106 :: c107 :: c108 :: c109 :: c110 :: c111 :: c112 :: c113 :: c114 :: c115 :: c116 :: c117 :: c118 :: c119 :: c120 :: c121 :: c122 :: c123 :: c124 :: c125 :: c126 :: c127 :: c128 :: c129 :: c130 :: c131 :: c132 :: c133 :: c134 :: c135 :: c136 :: c137 :: c138 :: c139 :: c140 :: c141 :: c142 :: c143 :: c144 :: c145 :: c146 :: c147 :: c148 :: c149 :: c150 :: c151 :: c152 :: c153 :: c154 :: c155 :: c156 :: c157 :: c158 :: c159 :: c160 :: c161 :: c162 :: c163 :: c164 :: c165 :: c166 :: c167 :: c168 :: c169 :: c170 :: c171 :: c172 :: c173 :: c174 :: c175 :: c176 :: c177 :: c178 :: c179 :: c180 :: c181 :: c182 :: c183 :: c184 :: c185 :: c186 :: c187 :: c188 :: c189 :: c190 :: c191 :: c192 :: c193 :: c194 :: c195 :: c196 :: c197 :: c198 :: c199 :: c200 :: c201 :: c202 :: c203 :: c204 :: c205 :: c206 :: c207 :: c208 :: c209 :: c210 :: c211 :: c212 :: c213 :: c214 :: c215 :: c216 :: c217 :: c218 :: c219 :: c220 :: c221 :: c222 :: c223 :: c224 :: c225 :: c226 :: c227 :: c228 :: c229 :: c230 :: c231 :: c232 :: c233 :: c234 :: c235 :: c236 :: c237 :: c238 :: c239 :: c240 :: c241 :: c242 :: c243 :: c244 :: c245 :: c246 :: c247 :: c248 :: c249 :: c250 :: c251 :: c252 :: c253 :: c254 :: c255 :: c256 :: c257 :: c258 :: c259 :: c260 :: c261 :: c262 :: c263 :: c264 :: c265 :: c266 :: c267 :: c268 :: c269 :: c270 :: c271 :: c272 :: c273 :: c274 :: c275 :: c276 :: c277 :: c278 :: c279 :: c280 :: c281 :: c282 :: c283 :: c284 :: c285 :: c286 :: c287 :: c288 :: c289 :: c290 :: c291 :: c292 :: c293 :: c294 :: c295 :: c296 :: c297 :: c298 :: c299 :: c300 :: c301 :: c302 :: c303 :: c304 :: []), []⟩ w := by
  have HQ := Lib.hid hQ
  clear hQ
  conv => arg 2; whnf
  have hbu := build_u8
  go_still_tail 26, (by kernel_rfl)
  change wpList _ _ _ _ _ w.drew
  go_wp2

  exact HQ.out _ _ _ _ _ _ _ _ _ _ _ _ _ _ _ _ _ _ _ _ _ _ _ _ _ _ _
end
end Go.Proofs.YtapbaonlboefeaaDoor
