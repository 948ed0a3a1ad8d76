/- merkle.Prove. -/
import Derived.Test.YthmkdlnocdbhjaaDoorMkV
namespace Go.Proofs.YthmkdlnocdbhjaaDoor
open Go.RowKit

/-- A list of byte strings that lies at a world. -/
structure LsW (w : World) (B : Nat) (A : Option Addr) (c : Nat) (vs : List Value) (ls : List (List UInt8)) : Prop where
  sees : Sees w B 1 A ls.length vs
  lists : Lists w B vs ls
  hB : B ≤ w.heap.size
  cap : ls.length ≤ c ∧ c < 9223372036854775808
  small : ∀ (i : Nat) (l : List UInt8), ls[i]? = some l → l.length ≤ 140737488351232
  consts : Consts w
theorem LsW.below {w w' : World} {B : Nat} {A : Option Addr} {c : Nat} {vs : List Value} {ls : List (List UInt8)} (h : LsW w B A c vs ls) (hb : Below w.heap.size w w') : LsW w' B A c vs ls :=
  ⟨h.sees.below (hb.mono h.hB), h.lists.below (hb.mono h.hB), Nat.le_trans h.hB hb.size, h.cap, h.small, h.consts.below hb h.consts.2.2⟩

theorem spanCells_fst : ∀ (S : List (Nat × Nat)) (k : Nat) (h : k < S.length), (spanCells S)[k * 2]? = some (.int .i64 ((S[k]'h).1 : Int))
  | [], k, h => by simp at h
  | p :: S, 0, _ => rfl
  | p :: S, k + 1, h => by
    have e : (k + 1) * 2 = k * 2 + 1 + 1 := by omega
    have ih := spanCells_fst S k (by simpa using h)
    simp only [spanCells, List.flatMap_cons, spanV, List.cons_append, List.nil_append, e, List.getElem?_cons_succ, List.getElem_cons_succ] at ih ⊢
    exact ih
theorem spanCells_snd : ∀ (S : List (Nat × Nat)) (k : Nat) (h : k < S.length), (spanCells S)[k * 2 + 1]? = some (.int .i64 ((S[k]'h).2 : Int))
  | [], k, h => by simp at h
  | p :: S, 0, _ => rfl
  | p :: S, k + 1, h => by
    have e : (k + 1) * 2 = k * 2 + 1 + 1 := by omega
    have ih := spanCells_snd S k (by simpa using h)
    simp only [spanCells, List.flatMap_cons, spanV, List.cons_append, List.nil_append, e, List.getElem?_cons_succ, List.getElem_cons_succ] at ih ⊢
    exact ih
theorem take_sub (ls : List (List UInt8)) (a b : Nat) (hb : b ≤ ls.length) : ((ls.drop a).take (b - a)).length = b - a := by simp; omega
/-- merkle.digest of a part. -/
theorem digest_part {W : World} {B : Nat} {ad : Addr} {c : Nat} {vs : List Value} {ls : List (List UInt8)} (h : LsW W B (some ad) c vs ls) (a b : Nat) (hab : a < b) (hb : b ≤ ls.length) :
    Calls Tryd.prog 38 #[.slice (some (ad.add a)) (b - a) (c - a)] W (Digs W (dig ls a b)) := by
  have hl := take_sub ls a b hb
  have hs := h.sees.part a b hab hb
  have hcap := h.cap
  have hd := digest_any B (some (ad.add a)) (c - a) ((vs.drop a).take (b - a)) ((ls.drop a).take (b - a)) W (by rw [hl]; exact hs) (h.lists.part a (b - a)) h.hB (fun i l hi => by
    rw [List.getElem?_take] at hi
    split at hi
    · rw [List.getElem?_drop] at hi; exact h.small _ l hi
    · cases hi) (by rw [hl]; omega) h.consts
  rw [hl, dig_sub ls a b (by omega) (by omega)] at hd
  exact hd
theorem Tryd.infoDig : ∃ i0 : TypeInfo, Tryd.prog.info? 28 = some i0 ∧ i0.zero = some (.agg zdig.toArray) ∧ i0.size = 32 ∧ i0.bytes = 32 := by
  have h : (Tryd.prog.info? 28).map (fun i => (i.zero, i.size, i.bytes)) = some (some (.agg zdig.toArray), 32, 32) := by kernel_rfl
  cases hq : Tryd.prog.info? 28 with
  | none => rw [hq] at h; cases h
  | some i => rw [hq] at h; simp at h; exact ⟨i, rfl, h.1, h.2.1, h.2.2⟩
theorem path_step (ls : List (List UInt8)) (i k : Nat) (S : List (Nat × Nat)) (hk : k < S.length) (hpa : ∀ k, k ≤ S.length → (pathF ls i).take k = (S.take k).map fun p => dig ls p.1 p.2) : digCells ((pathF ls i).take (k + 1)) = digCells ((pathF ls i).take k) ++ bys (dig ls (S[k]'hk).1 (S[k]'hk).2) := by
  rw [hpa (k + 1) (by omega), hpa k (by omega), take_step S k hk, List.map_append, List.map_singleton, digCells_snoc]

theorem prove_no (A : Option Addr) (n c : Nat) (i : Int) (hi : i < 0 ∨ (n : Int) ≤ i) (w : World) :
    Calls Tryd.prog 12 #[.slice A n c, .int .i64 i] w fun e w' => e = .returned (.tuple #[.slice none 0 0, .bool false]) ∧ w' = w := by
  rcases Int.lt_or_le i 0 with h | h
  · go_enter Tryd.func12, Tryd.ntmps12
    go_wp2
    go_ret2
    exact ⟨rfl, rfl⟩
  · have h2 : (n : Int) ≤ i := by omega
    clear hi
    go_enter Tryd.func12, Tryd.ntmps12
    go_wp2
    go_ret2
    exact ⟨rfl, rfl⟩

set_option maxRecDepth 20000 in
set_option maxHeartbeats 6400000 in
theorem prove_yes (i B : Nat) (A : Option Addr) (c : Nat) (vs : List Value) (ls : List (List UInt8)) (w : World) (hW : LsW w B A c vs ls) (hi : i < ls.length) :
    Calls Tryd.prog 12 #[.slice A ls.length c, .int .i64 (i : Int)] w fun e w' => ∃ v', e = .returned (.tuple #[v', .bool true]) ∧ w'.ownsRow w.heap.size 28 32 v' (pathF ls i).length (digCells (pathF ls i)) ∧ Below w.heap.size w w' := by
  have hcap := hW.cap
  have h63 : ls.length < 9223372036854775808 := by omega
  have hsb := Lib.hid (siblings_any ls.length i hi h63 w)
  have hin := sibs_in i ls.length 0 ls.length (by omega) (by omega)
  have hfew := sibs_few i 63 0 ls.length (by omega) (by omega)
  have hpl : (pathF ls i).length = (sibs 0 ls.length i).length := by simp [pathF]
  have hpa : ∀ k, k ≤ (sibs 0 ls.length i).length → (pathF ls i).take k = ((sibs 0 ls.length i).take k).map fun p => dig ls p.1 p.2 := fun k _ => by simp [pathF, List.map_take]
  generalize sibs 0 ls.length i = S at *
  have b1 : 0 ≤ (i : Int) := by omega
  have b2 : (i : Int) < ls.length := by omega
  have bd : decide ((i : Int) < 0) = false := by simp
  obtain ⟨ad, rfl⟩ : ∃ ad, A = some ad := by obtain ⟨ad, e, _⟩ := hW.sees.some_ (by omega); exact ⟨ad, e⟩
  go_enter Tryd.func12, Tryd.ntmps12
  go_wp2_with fail
  refine hsb.out.mono ?_
  rintro e w1 ⟨v1, rfl, ho1, hB1⟩
  obtain ⟨A1, c1, rfl, hc1, hcm1, -, hs1⟩ := own_slice ho1
  have hW1 := hW.below hB1
  have HS1 := Lib.hid hs1
  have HW1 := Lib.hid hW1
  have HPA := Lib.hid hpa
  have HPL := Lib.hid hpl
  have HIN := Lib.hid hin
  have HB1 := Lib.hid hB1
  clear ho1 hsb hs1 hW1 hW hpa hpl hin hB1
  go_wp2_with fail
  go_loopw [6, 8, 22] (fun p _ j wr => ∃ k : Nat, k ≤ S.length ∧ j = .int .i64 (k : Int) ∧ wr.ownsRow w1.heap.size 28 32 p k (digCells ((pathF ls i).take k)) ∧ Below w1.heap.size w1 wr) (fun _ _ j _ => S.length - (intOf j).toNat)
  case atStart => exact ⟨0, by omega, rfl, World.ownsRow_nil _ _ _ _, Below.refl _ _⟩
  case round =>
    obtain ⟨k, hk, rfl, hown, hBw⟩ := hrel
    rcases Nat.lt_or_ge k S.length with hlt | hge
    · obtain ⟨ad1, hA1, had1, hx⟩ := HS1.out.some_ (by omega)
      subst hA1
      have hp := HIN.out (S[k]'hlt) (List.getElem_mem hlt)
      have hx0 : wr.cell? (ad1.add (k * 2)) = some (.int .i64 ((S[k]'hlt).1 : Int)) := (hBw.cell (by rw [add_block]; exact had1)).trans (hx _ _ (spanCells_fst S k hlt))
      have hx1 : wr.cell? ⟨(ad1.add (k * 2)).block, (ad1.add (k * 2)).off + 1, none⟩ = some (.int .i64 ((S[k]'hlt).2 : Int)) := by
        have e : (ad1.add (k * 2 + 1)) = ⟨(ad1.add (k * 2)).block, (ad1.add (k * 2)).off + 1, none⟩ := by rw [← add_add, add_pos _ 1 (by decide)]
        rw [← e]
        exact (hBw.cell (by rw [add_block]; exact had1)).trans (hx _ _ (spanCells_snd S k hlt))
      have hx2 : wr.cell? ⟨ad1.block, (ad1.add (k * 2)).off + 1, none⟩ = some (.int .i64 ((S[k]'hlt).2 : Int)) := by rw [add_block] at hx1; exact hx1
      have hps := path_step ls i k S hlt HPA.out
      clear hx
      generalize S[k]'hlt = q at *
      obtain ⟨a, b⟩ := q
      simp only at hp hx0 hx1 hx2 hps
      have hkk : (k : Int) < S.length := by omega
      have hWr := HW1.out.below hBw
      have hba := below_alloc1 wr (.cells #[.int .i64 (a : Int), .int .i64 (b : Int)] 75)
      have hdg := Lib.hid (digest_part (hWr.below hba) a b hp.2.1 hp.2.2)
      have HPS := Lib.hid hps
      have ldg := dig_len ls a b
      clear hps hWr
      generalize dig ls a b = D at *
      go_wp2_with fail
      refine hdg.out.mono ?_
      rintro e w3 ⟨rfl, hB3⟩
      have hb13 : Below wr.heap.size wr w3 := hba.trans (hB3.mono hba.size)
      have hown3 := own_below hown hb13
      have hone := bys_one D
      have hl32 : (bys D).length = 32 := by rw [bys_len, ldg]
      have HL := Lib.hid hl32
      have HO := Lib.hid hone
      have hB13 := hBw.trans (hb13.mono hBw.size)
      have hbs3 := hB13.size
      obtain ⟨i0, hi0, hz0, hz1, hz2⟩ := Tryd.infoDig
      have HFL := Lib.hid (fill_dig i0 hz1 D ldg)
      have HZ1 := Lib.hid hz1
      clear hx0 hx1 hx2 hone hl32 hdg hba hB3 hb13 hown hBw ldg
      go_wp2_with (first | (refine wpList_buildSlice rfl 24 28 1 _ rfl (bys D).toArray i0 (.agg zdig.toArray) Tryd.underlying24 hi0 hz0 (by rw [HZ1.out]; decide) (by rw [HZ1.out]; decide) (by (simp only [List.map_toArray, List.map_cons, List.map_nil]; exact HFL.out)) ?_) | (at_builtin; refine wpList_append_own_at _ rfl (.tmp 26) (.tmp 34) 24 rfl w1.heap.size 28 i0 (.agg zdig.toArray) 32 32 Tryd.underlying24 hi0 hz0 hz1 hz2 rfl (by decide) u6 k _ rfl (hown3.alloc _) ⟨w3.heap.size, 0, none⟩ 1 1 (bys D) rfl ?c0 ?c1 HO.out ?c3 ?c4 ?c5 ?_))
      case c0 => rw [HL.out]
      case c1 =>
        intro j u hu
        rw [add_at, boxed]; simpa using hu
      case c3 => unfold maxLen; omega
      case c4 => omega
      case c5 => simp; omega
      intro v5 w5 hown5 hg5 _ hat5
      rw [← HPS.out] at hown5
      have hB5 : Below w1.heap.size w1 w5 := (hB13.alloc hbs3 _).grown hg5 (Nat.le_trans hbs3 (by simp)) (fun g hg => (hown3.lt g hg).1)
      clear hown3 hg5 hat5 hB13 hi0 hz0 hz1 hz2
      go_wp2
      go_roundw
      case rel => exact ⟨k + 1, by omega, by go_num, hown5, hB5⟩
      case measure => simp [intOf]; omega
    · obtain rfl : k = S.length := by omega
      have hpl := HPL.out
      rw [← hpl, List.take_length] at hown
      have hB := HB1.out.trans (hBw.mono HB1.out.size)
      have how := own_wide hown HB1.out.size
      clear hown hBw
      go_wp2
      go_ret2
      exact ⟨_, rfl, how, hB⟩
end Go.Proofs.YthmkdlnocdbhjaaDoor
