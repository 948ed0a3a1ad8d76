/- wapentakeref05: Reused. -/
import Derived.Test.YtkhbogccmngmmaaDoorSdR
import Derived.Test.YtkhbogccmngmmaaDoorInv
import Derived.Outline
namespace Go.Proofs.YtkhbogccmngmmaaDoor
open Go.RowKit

/-- Two signings of one place. -/
def dup5 (L : List Sg) (k : Int) (i j : Nat) : Prop := ∃ (hi : i < L.length) (hj : j < L.length), (L[i]'hi).1.1 = k ∧ (L[j]'hj).1.1 = k ∧ (L[i]'hi).1.2 = (L[j]'hj).1.2
def reu5 (L : List Sg) (k : Int) : Prop := ∃ i j, j < i ∧ dup5 L k i j

set_option maxRecDepth 20000 in
set_option maxHeartbeats 6400000 in
theorem reused5_any (w : World) (base r : Nat) (nk bud : Int) (v : Value) (L : List Sg) (h : Ring5 w base r nk bud v L) (k : Int) :
    Calls Tryd.prog 35 #[.pointer (some ⟨r, 0, none⟩), .int .i64 k] w fun e w' => ((reu5 L k ∧ e = .returned (.bool true)) ∨ (¬ reu5 L k ∧ e = .returned (.bool false))) ∧ Below w.heap.size w w' := by
  have HR := Lib.hid h
  clear h
  go_enter Tryd.func35, Tryd.ntmps35
  go_wp2_with fail
  go_loopw [5] (fun i wr => ∃ a : Nat, i = .int .i64 (a : Int) ∧ a ≤ L.length ∧ (∀ a', a' < a → ∀ b', b' < a' → ¬ dup5 L k a' b') ∧ Ring5 wr base r nk bud v L ∧ Below w.heap.size w wr) (fun i _ => L.length - (intOf i).toNat)
  case atStart => exact ⟨0, rfl, by omega, fun a' h => by omega, HR.out, Below.refl _ _⟩
  case round =>
    obtain ⟨a, rfl, ha, hno, hRr, hBr⟩ := hrel
    have HNO := Lib.hid hno
    have HRR := Lib.hid hRr
    have HBR := Lib.hid hBr
    have hc2 := hRr.c2
    obtain ⟨A, c, rfl, hc, hcm, hcells⟩ := hRr.slice
    clear hRr hBr HR hno
    rcases Nat.lt_or_ge a L.length with hlt | hge
    · have hlt' : (a : Int) < (L.length : Int) := by omega
      clear hcells
      go_wp2_with fail
      clear hc2
      go_loopw [6] (fun i wq => ∃ b : Nat, i = .int .i64 (b : Int) ∧ b ≤ a ∧ (∀ b', b' < b → ¬ dup5 L k a b') ∧ Ring5 wq base r nk bud (.slice A L.length c) L ∧ Below w.heap.size w wq) (fun i _ => a - (intOf i).toNat)
      case atStart => exact ⟨0, rfl, by omega, fun b' h => by omega, HRR.out, HBR.out⟩
      case round =>
        obtain ⟨b, rfl, hb, hno2, hRq, hBq⟩ := hrel
        have HNO2 := Lib.hid hno2
        have HRQ := Lib.hid hRq
        have HBQ := Lib.hid hBq
        have HRD := Lib.hid hRq.drew
        have HBD := Lib.hid hBq.drew
        have hc2 := hRq.c2
        obtain ⟨A', c', he, -, -, hcells⟩ := hRq.slice
        injection he with e1 _ e2
        subst e1 e2
        clear hRq hBq hno2 HRR HBR
        rcases Nat.lt_or_ge b a with hltb | hgeb
        · have hltb' : (b : Int) < (a : Int) := by omega
          have hltc' : (b : Int) < (L.length : Int) := by omega
          obtain ⟨g1, o1, hA1, h10, h11, -⟩ := hcells a hlt
          obtain ⟨g2, o2, hA2, h20, h21, -⟩ := hcells b (by omega)
          obtain ⟨ad, rfl⟩ : ∃ ad, A = some ad := by cases A with
            | none => simp at hA1
            | some ad => exact ⟨ad, rfl⟩
          simp only [Option.map_some, Option.some.injEq] at hA1 hA2
          have hdup : dup5 L k a b ↔ (L[a]'hlt).1.1 = k ∧ (L[b]'(by omega)).1.1 = k ∧ (L[a]'hlt).1.2 = (L[b]'(by omega)).1.2 := ⟨fun ⟨_, _, h⟩ => h, fun h => ⟨hlt, by omega, h⟩⟩
          have HD := Lib.hid hdup
          clear hcells hdup
          generalize (L[a]'hlt).1.1 = x at *
          generalize (L[b]'(by omega)).1.1 = y at *
          generalize (L[a]'hlt).1.2 = p at *
          generalize (L[b]'(by omega)).1.2 = q at *
          have HS := Lib.hid (show ¬ dup5 L k a b → ∀ b', b' < b + 1 → ¬ dup5 L k a b' from fun hn b' hb' => by
            rcases Nat.lt_or_ge b' b with h | h
            · exact HNO2.out b' h
            · obtain rfl : b' = b := by omega
              exact hn)
          by_cases hx : x = k
          · by_cases hy : y = k
            · by_cases hpq : p = q
              · have hyes : reu5 L k := ⟨a, b, hltb, HD.out.2 ⟨hx, hy, hpq⟩⟩
                have HY := Lib.hid hyes
                have hfin := HBD.out
                clear hyes HD HS
                go_wp2_with fail
                obtain ⟨wd, hwd⟩ : ∃ wd : World, wd = wr.drew := ⟨_, rfl⟩
                rw [← hwd] at HRD HBD
                (try rw [← hwd] at hfin)
                have HC2 := Lib.hid (HRD.out.c2)
                have H10 : Hid (wd.cell? ⟨g1, o1, none⟩ = some (.int .i64 x)) := Lib.hid (by rw [hwd]; exact h10)
                have H11 : Hid (wd.cell? ⟨g1, o1 + 1, none⟩ = some (.int .i64 p)) := Lib.hid (by rw [hwd]; exact h11)
                have H20 : Hid (wd.cell? ⟨g2, o2, none⟩ = some (.int .i64 y)) := Lib.hid (by rw [hwd]; exact h20)
                have H21 : Hid (wd.cell? ⟨g2, o2 + 1, none⟩ = some (.int .i64 q)) := Lib.hid (by rw [hwd]; exact h21)
                have HA1 := Lib.hid hA1
                have HA2 := Lib.hid hA2
                clear hA1 hA2 h10 h11 h20 h21 hc2
                have HX := Lib.hid (show (x == k) = true by simpa using hx); have HY0 := Lib.hid (show (y == k) = true by simpa using hy); have HPQ := Lib.hid (show (p == q) = true by simpa using hpq)
                clear hx hy hpq
                refine wp_region_inv 62 (fun j v _ => v = ([.pointer (some ⟨r, 0, none⟩), .pointer (some ⟨r, 0, none⟩), .pointer (some ⟨r, 2, none⟩), .slice (some ad) L.length c, .int .i64 (a : Int), .pointer (some ⟨g1, o1, none⟩), .pointer (some ⟨g1, o1, none⟩), .int .i64 x, .int .i64 k, .bool true, .bool true, .pointer (some ⟨r, 0, none⟩), .pointer (some ⟨r, 0, none⟩), .pointer (some ⟨r, 2, none⟩), .slice (some ad) L.length c, .int .i64 (b : Int), .pointer (some ⟨g2, o2, none⟩), .pointer (some ⟨g2, o2, none⟩), .int .i64 y, .int .i64 k, .bool true, .bool true, .bool true, .pointer (some ⟨r, 0, none⟩), .pointer (some ⟨r, 0, none⟩), .pointer (some ⟨r, 2, none⟩), .slice (some ad) L.length c, .int .i64 (a : Int), .pointer (some ⟨g1, o1, none⟩), .pointer (some ⟨g1, o1 + 1, none⟩), .int .i64 p, .pointer (some ⟨r, 0, none⟩), .pointer (some ⟨r, 0, none⟩), .pointer (some ⟨r, 2, none⟩), .slice (some ad) L.length c, .int .i64 (b : Int), .pointer (some ⟨g2, o2, none⟩), .pointer (some ⟨g2, o2 + 1, none⟩), .int .i64 q, .bool true, .bool true] : List Value).getD j undef) (· = wd) (fun _ W W' => W = W') (by kernel_rfl) (by rfl) (by kernel_rfl) (fun _ _ _ _ _ _ _ _ _ hR => hR) (fun _ _ _ e h => e.symm.trans h) hwd.symm (fun j o ho vs W hI hdep => ?_) (fun vs W hI hR => ?_)
                · subst hI
                  clear hwd
                  rcases j with _ | j
                  · simp only [List.getElem?_toArray, List.getElem?_cons_zero, Option.some.injEq] at ho
                    subst ho
                    refine .inl ⟨rfl, fun K Q hK => ?_⟩
                    simp only [putFrom, Act.put, List.setIfInBounds_toArray, List.set_cons_succ, List.set_cons_zero, Nat.reduceAdd] at hK ⊢
                    have HK := Lib.hid hK
                    clear hK hdep 
                    go_simp
                    exact HK.out _ _ _ rfl ⟨rfl, rfl⟩
                  rcases j with _ | j
                  · simp only [List.getElem?_toArray, List.getElem?_cons_succ, List.getElem?_cons_zero, Option.some.injEq, Nat.zero_add] at ho
                    subst ho
                    have e0 : vs 0 = .pointer (some ⟨r, 0, none⟩) := hdep 0 rfl
                    
                    refine .inl ⟨rfl, fun K Q hK => ?_⟩
                    simp only [putFrom, Act.put, List.setIfInBounds_toArray, List.set_cons_succ, List.set_cons_zero, Nat.reduceAdd, e0] at hK ⊢
                    have HK := Lib.hid hK
                    clear hK hdep e0
                    go_simp
                    exact HK.out _ _ _ rfl ⟨rfl, rfl⟩
                  rcases j with _ | j
                  · simp only [List.getElem?_toArray, List.getElem?_cons_succ, List.getElem?_cons_zero, Option.some.injEq, Nat.zero_add] at ho
                    subst ho
                    have e1 : vs 1 = .pointer (some ⟨r, 0, none⟩) := hdep 1 rfl
                    
                    refine .inl ⟨rfl, fun K Q hK => ?_⟩
                    simp only [putFrom, Act.put, List.setIfInBounds_toArray, List.set_cons_succ, List.set_cons_zero, Nat.reduceAdd, e1] at hK ⊢
                    have HK := Lib.hid hK
                    clear hK hdep e1
                    go_simp
                    exact HK.out _ _ _ rfl ⟨rfl, rfl⟩
                  rcases j with _ | j
                  · simp only [List.getElem?_toArray, List.getElem?_cons_succ, List.getElem?_cons_zero, Option.some.injEq, Nat.zero_add] at ho
                    subst ho
                    have e2 : vs 2 = .pointer (some ⟨r, 2, none⟩) := hdep 2 rfl
                    have hc := HC2.out
                    
                    refine .inl ⟨rfl, fun K Q hK => ?_⟩
                    simp only [putFrom, Act.put, List.setIfInBounds_toArray, List.set_cons_succ, List.set_cons_zero, Nat.reduceAdd, e2] at hK ⊢
                    have HK := Lib.hid hK
                    clear hK hdep e2
                    go_simp
                    exact HK.out _ _ _ rfl ⟨rfl, rfl⟩
                  rcases j with _ | j
                  · simp only [List.getElem?_toArray, List.getElem?_cons_succ, List.getElem?_cons_zero, Option.some.injEq, Nat.zero_add] at ho
                    subst ho
                    refine .inl ⟨rfl, fun K Q hK => ?_⟩
                    simp only [putFrom, Act.put, List.setIfInBounds_toArray, List.set_cons_succ, List.set_cons_zero, Nat.reduceAdd] at hK ⊢
                    have HK := Lib.hid hK
                    clear hK hdep 
                    go_simp
                    exact HK.out _ _ _ rfl ⟨rfl, rfl⟩
                  rcases j with _ | j
                  · simp only [List.getElem?_toArray, List.getElem?_cons_succ, List.getElem?_cons_zero, Option.some.injEq, Nat.zero_add] at ho
                    subst ho
                    have e3 : vs 3 = .slice (some ad) L.length c := hdep 3 rfl
                    have e4 : vs 4 = .int .i64 (a : Int) := hdep 4 rfl
                    have hA := HA1.out
                    have hl := hlt'
                    
                    refine .inl ⟨rfl, fun K Q hK => ?_⟩
                    simp only [putFrom, Act.put, List.setIfInBounds_toArray, List.set_cons_succ, List.set_cons_zero, Nat.reduceAdd, e3, e4] at hK ⊢
                    have HK := Lib.hid hK
                    clear hK hdep e3 e4
                    go_simp
                    exact HK.out _ _ _ rfl ⟨rfl, rfl⟩
                  rcases j with _ | j
                  · simp only [List.getElem?_toArray, List.getElem?_cons_succ, List.getElem?_cons_zero, Option.some.injEq, Nat.zero_add] at ho
                    subst ho
                    have e5 : vs 5 = .pointer (some ⟨g1, o1, none⟩) := hdep 5 rfl
                    
                    refine .inl ⟨rfl, fun K Q hK => ?_⟩
                    simp only [putFrom, Act.put, List.setIfInBounds_toArray, List.set_cons_succ, List.set_cons_zero, Nat.reduceAdd, e5] at hK ⊢
                    have HK := Lib.hid hK
                    clear hK hdep e5
                    go_simp
                    exact HK.out _ _ _ rfl ⟨rfl, rfl⟩
                  rcases j with _ | j
                  · simp only [List.getElem?_toArray, List.getElem?_cons_succ, List.getElem?_cons_zero, Option.some.injEq, Nat.zero_add] at ho
                    subst ho
                    have e6 : vs 6 = .pointer (some ⟨g1, o1, none⟩) := hdep 6 rfl
                    have hc := H10.out
                    
                    refine .inl ⟨rfl, fun K Q hK => ?_⟩
                    simp only [putFrom, Act.put, List.setIfInBounds_toArray, List.set_cons_succ, List.set_cons_zero, Nat.reduceAdd, e6] at hK ⊢
                    have HK := Lib.hid hK
                    clear hK hdep e6
                    go_simp
                    exact HK.out _ _ _ rfl ⟨rfl, rfl⟩
                  rcases j with _ | j
                  · simp only [List.getElem?_toArray, List.getElem?_cons_succ, List.getElem?_cons_zero, Option.some.injEq, Nat.zero_add] at ho
                    subst ho
                    refine .inl ⟨rfl, fun K Q hK => ?_⟩
                    simp only [putFrom, Act.put, List.setIfInBounds_toArray, List.set_cons_succ, List.set_cons_zero, Nat.reduceAdd] at hK ⊢
                    have HK := Lib.hid hK
                    clear hK hdep 
                    go_simp
                    exact HK.out _ _ _ rfl ⟨rfl, rfl⟩
                  rcases j with _ | j
                  · simp only [List.getElem?_toArray, List.getElem?_cons_succ, List.getElem?_cons_zero, Option.some.injEq, Nat.zero_add] at ho
                    subst ho
                    have e7 : vs 7 = .int .i64 x := hdep 7 rfl
                    have e8 : vs 8 = .int .i64 k := hdep 8 rfl
                    have hb := HX.out
                    
                    refine .inl ⟨rfl, fun K Q hK => ?_⟩
                    simp only [putFrom, Act.put, List.setIfInBounds_toArray, List.set_cons_succ, List.set_cons_zero, Nat.reduceAdd, e7, e8] at hK ⊢
                    have HK := Lib.hid hK
                    clear hK hdep e7 e8
                    go_simp
                    exact HK.out _ _ _ rfl ⟨rfl, rfl⟩
                  rcases j with _ | j
                  · simp only [List.getElem?_toArray, List.getElem?_cons_succ, List.getElem?_cons_zero, Option.some.injEq, Nat.zero_add] at ho
                    subst ho
                    have e9 : vs 9 = .bool true := hdep 9 rfl
                    
                    refine .inl ⟨rfl, fun K Q hK => ?_⟩
                    simp only [putFrom, Act.put, List.setIfInBounds_toArray, List.set_cons_succ, List.set_cons_zero, Nat.reduceAdd, e9] at hK ⊢
                    have HK := Lib.hid hK
                    clear hK hdep e9
                    go_simp
                    exact HK.out _ _ _ rfl ⟨rfl, rfl⟩
                  rcases j with _ | j
                  · simp only [List.getElem?_toArray, List.getElem?_cons_succ, List.getElem?_cons_zero, Option.some.injEq, Nat.zero_add] at ho
                    subst ho
                    have e10 : vs 10 = .bool true := hdep 10 rfl
                    
                    refine .inl ⟨(by simp only [putFrom, Act.put, List.setIfInBounds_toArray, List.set_cons_succ, List.set_cons_zero, Nat.reduceAdd, e10]; rfl), fun K Q hK => ?_⟩
                    simp only [putFrom, Act.put, List.setIfInBounds_toArray, List.set_cons_succ, List.set_cons_zero, Nat.reduceAdd] at hK ⊢
                    have HK := Lib.hid hK
                    clear hK hdep e10
                    go_simp
                    exact HK.out _ _ _ rfl ⟨rfl, rfl⟩
                  rcases j with _ | j
                  · simp only [List.getElem?_toArray, List.getElem?_cons_succ, List.getElem?_cons_zero, Option.some.injEq, Nat.zero_add] at ho
                    subst ho
                    have e11 : vs 11 = .pointer (some ⟨r, 0, none⟩) := hdep 11 rfl
                    have e10 : vs 10 = .bool true := hdep 10 rfl
                    
                    refine .inl ⟨(by simp only [putFrom, Act.put, List.setIfInBounds_toArray, List.set_cons_succ, List.set_cons_zero, Nat.reduceAdd, e10]; rfl), fun K Q hK => ?_⟩
                    simp only [putFrom, Act.put, List.setIfInBounds_toArray, List.set_cons_succ, List.set_cons_zero, Nat.reduceAdd, e11] at hK ⊢
                    have HK := Lib.hid hK
                    clear hK hdep e10 e11
                    go_simp
                    exact HK.out _ _ _ rfl ⟨rfl, rfl⟩
                  rcases j with _ | j
                  · simp only [List.getElem?_toArray, List.getElem?_cons_succ, List.getElem?_cons_zero, Option.some.injEq, Nat.zero_add] at ho
                    subst ho
                    have e12 : vs 12 = .pointer (some ⟨r, 0, none⟩) := hdep 12 rfl
                    have e10 : vs 10 = .bool true := hdep 10 rfl
                    
                    refine .inl ⟨(by simp only [putFrom, Act.put, List.setIfInBounds_toArray, List.set_cons_succ, List.set_cons_zero, Nat.reduceAdd, e10]; rfl), fun K Q hK => ?_⟩
                    simp only [putFrom, Act.put, List.setIfInBounds_toArray, List.set_cons_succ, List.set_cons_zero, Nat.reduceAdd, e12] at hK ⊢
                    have HK := Lib.hid hK
                    clear hK hdep e10 e12
                    go_simp
                    exact HK.out _ _ _ rfl ⟨rfl, rfl⟩
                  rcases j with _ | j
                  · simp only [List.getElem?_toArray, List.getElem?_cons_succ, List.getElem?_cons_zero, Option.some.injEq, Nat.zero_add] at ho
                    subst ho
                    have e13 : vs 13 = .pointer (some ⟨r, 2, none⟩) := hdep 13 rfl
                    have e10 : vs 10 = .bool true := hdep 10 rfl
                    have hc := HC2.out
                    
                    refine .inl ⟨(by simp only [putFrom, Act.put, List.setIfInBounds_toArray, List.set_cons_succ, List.set_cons_zero, Nat.reduceAdd, e10]; rfl), fun K Q hK => ?_⟩
                    simp only [putFrom, Act.put, List.setIfInBounds_toArray, List.set_cons_succ, List.set_cons_zero, Nat.reduceAdd, e13] at hK ⊢
                    have HK := Lib.hid hK
                    clear hK hdep e10 e13
                    go_simp
                    exact HK.out _ _ _ rfl ⟨rfl, rfl⟩
                  rcases j with _ | j
                  · simp only [List.getElem?_toArray, List.getElem?_cons_succ, List.getElem?_cons_zero, Option.some.injEq, Nat.zero_add] at ho
                    subst ho
                    have e10 : vs 10 = .bool true := hdep 10 rfl
                    
                    refine .inl ⟨(by simp only [putFrom, Act.put, List.setIfInBounds_toArray, List.set_cons_succ, List.set_cons_zero, Nat.reduceAdd, e10]; rfl), fun K Q hK => ?_⟩
                    simp only [putFrom, Act.put, List.setIfInBounds_toArray, List.set_cons_succ, List.set_cons_zero, Nat.reduceAdd] at hK ⊢
                    have HK := Lib.hid hK
                    clear hK hdep e10
                    go_simp
                    exact HK.out _ _ _ rfl ⟨rfl, rfl⟩
                  rcases j with _ | j
                  · simp only [List.getElem?_toArray, List.getElem?_cons_succ, List.getElem?_cons_zero, Option.some.injEq, Nat.zero_add] at ho
                    subst ho
                    have e14 : vs 14 = .slice (some ad) L.length c := hdep 14 rfl
                    have e15 : vs 15 = .int .i64 (b : Int) := hdep 15 rfl
                    have e10 : vs 10 = .bool true := hdep 10 rfl
                    have hA := HA2.out
                    have hl := hltc'
                    
                    refine .inl ⟨(by simp only [putFrom, Act.put, List.setIfInBounds_toArray, List.set_cons_succ, List.set_cons_zero, Nat.reduceAdd, e10]; rfl), fun K Q hK => ?_⟩
                    simp only [putFrom, Act.put, List.setIfInBounds_toArray, List.set_cons_succ, List.set_cons_zero, Nat.reduceAdd, e14, e15] at hK ⊢
                    have HK := Lib.hid hK
                    clear hK hdep e10 e14 e15
                    go_simp
                    exact HK.out _ _ _ rfl ⟨rfl, rfl⟩
                  rcases j with _ | j
                  · simp only [List.getElem?_toArray, List.getElem?_cons_succ, List.getElem?_cons_zero, Option.some.injEq, Nat.zero_add] at ho
                    subst ho
                    have e16 : vs 16 = .pointer (some ⟨g2, o2, none⟩) := hdep 16 rfl
                    have e10 : vs 10 = .bool true := hdep 10 rfl
                    
                    refine .inl ⟨(by simp only [putFrom, Act.put, List.setIfInBounds_toArray, List.set_cons_succ, List.set_cons_zero, Nat.reduceAdd, e10]; rfl), fun K Q hK => ?_⟩
                    simp only [putFrom, Act.put, List.setIfInBounds_toArray, List.set_cons_succ, List.set_cons_zero, Nat.reduceAdd, e16] at hK ⊢
                    have HK := Lib.hid hK
                    clear hK hdep e10 e16
                    go_simp
                    exact HK.out _ _ _ rfl ⟨rfl, rfl⟩
                  rcases j with _ | j
                  · simp only [List.getElem?_toArray, List.getElem?_cons_succ, List.getElem?_cons_zero, Option.some.injEq, Nat.zero_add] at ho
                    subst ho
                    have e17 : vs 17 = .pointer (some ⟨g2, o2, none⟩) := hdep 17 rfl
                    have e10 : vs 10 = .bool true := hdep 10 rfl
                    have hc := H20.out
                    
                    refine .inl ⟨(by simp only [putFrom, Act.put, List.setIfInBounds_toArray, List.set_cons_succ, List.set_cons_zero, Nat.reduceAdd, e10]; rfl), fun K Q hK => ?_⟩
                    simp only [putFrom, Act.put, List.setIfInBounds_toArray, List.set_cons_succ, List.set_cons_zero, Nat.reduceAdd, e17] at hK ⊢
                    have HK := Lib.hid hK
                    clear hK hdep e10 e17
                    go_simp
                    exact HK.out _ _ _ rfl ⟨rfl, rfl⟩
                  rcases j with _ | j
                  · simp only [List.getElem?_toArray, List.getElem?_cons_succ, List.getElem?_cons_zero, Option.some.injEq, Nat.zero_add] at ho
                    subst ho
                    have e10 : vs 10 = .bool true := hdep 10 rfl
                    
                    refine .inl ⟨(by simp only [putFrom, Act.put, List.setIfInBounds_toArray, List.set_cons_succ, List.set_cons_zero, Nat.reduceAdd, e10]; rfl), fun K Q hK => ?_⟩
                    simp only [putFrom, Act.put, List.setIfInBounds_toArray, List.set_cons_succ, List.set_cons_zero, Nat.reduceAdd] at hK ⊢
                    have HK := Lib.hid hK
                    clear hK hdep e10
                    go_simp
                    exact HK.out _ _ _ rfl ⟨rfl, rfl⟩
                  rcases j with _ | j
                  · simp only [List.getElem?_toArray, List.getElem?_cons_succ, List.getElem?_cons_zero, Option.some.injEq, Nat.zero_add] at ho
                    subst ho
                    have e18 : vs 18 = .int .i64 y := hdep 18 rfl
                    have e19 : vs 19 = .int .i64 k := hdep 19 rfl
                    have e10 : vs 10 = .bool true := hdep 10 rfl
                    have hb := HY0.out
                    
                    refine .inl ⟨(by simp only [putFrom, Act.put, List.setIfInBounds_toArray, List.set_cons_succ, List.set_cons_zero, Nat.reduceAdd, e10]; rfl), fun K Q hK => ?_⟩
                    simp only [putFrom, Act.put, List.setIfInBounds_toArray, List.set_cons_succ, List.set_cons_zero, Nat.reduceAdd, e18, e19] at hK ⊢
                    have HK := Lib.hid hK
                    clear hK hdep e10 e18 e19
                    go_simp
                    exact HK.out _ _ _ rfl ⟨rfl, rfl⟩
                  rcases j with _ | j
                  · simp only [List.getElem?_toArray, List.getElem?_cons_succ, List.getElem?_cons_zero, Option.some.injEq, Nat.zero_add] at ho
                    subst ho
                    have e10 : vs 10 = .bool true := hdep 10 rfl
                    have e20 : vs 20 = .bool true := hdep 20 rfl
                    
                    refine .inl ⟨rfl, fun K Q hK => ?_⟩
                    simp only [putFrom, Act.put, List.setIfInBounds_toArray, List.set_cons_succ, List.set_cons_zero, Nat.reduceAdd, e10, e20] at hK ⊢
                    have HK := Lib.hid hK
                    clear hK hdep e10 e20
                    go_simp
                    exact HK.out _ _ _ rfl ⟨rfl, rfl⟩
                  rcases j with _ | j
                  · simp only [List.getElem?_toArray, List.getElem?_cons_succ, List.getElem?_cons_zero, Option.some.injEq, Nat.zero_add] at ho
                    subst ho
                    have e21 : vs 21 = .bool true := hdep 21 rfl
                    
                    refine .inl ⟨rfl, fun K Q hK => ?_⟩
                    simp only [putFrom, Act.put, List.setIfInBounds_toArray, List.set_cons_succ, List.set_cons_zero, Nat.reduceAdd, e21] at hK ⊢
                    have HK := Lib.hid hK
                    clear hK hdep e21
                    go_simp
                    exact HK.out _ _ _ rfl ⟨rfl, rfl⟩
                  rcases j with _ | j
                  · simp only [List.getElem?_toArray, List.getElem?_cons_succ, List.getElem?_cons_zero, Option.some.injEq, Nat.zero_add] at ho
                    subst ho
                    have e22 : vs 22 = .bool true := hdep 22 rfl
                    
                    refine .inl ⟨(by simp only [putFrom, Act.put, List.setIfInBounds_toArray, List.set_cons_succ, List.set_cons_zero, Nat.reduceAdd, e22]; rfl), fun K Q hK => ?_⟩
                    simp only [putFrom, Act.put, List.setIfInBounds_toArray, List.set_cons_succ, List.set_cons_zero, Nat.reduceAdd] at hK ⊢
                    have HK := Lib.hid hK
                    clear hK hdep e22
                    go_simp
                    exact HK.out _ _ _ rfl ⟨rfl, rfl⟩
                  rcases j with _ | j
                  · simp only [List.getElem?_toArray, List.getElem?_cons_succ, List.getElem?_cons_zero, Option.some.injEq, Nat.zero_add] at ho
                    subst ho
                    have e23 : vs 23 = .pointer (some ⟨r, 0, none⟩) := hdep 23 rfl
                    have e22 : vs 22 = .bool true := hdep 22 rfl
                    
                    refine .inl ⟨(by simp only [putFrom, Act.put, List.setIfInBounds_toArray, List.set_cons_succ, List.set_cons_zero, Nat.reduceAdd, e22]; rfl), fun K Q hK => ?_⟩
                    simp only [putFrom, Act.put, List.setIfInBounds_toArray, List.set_cons_succ, List.set_cons_zero, Nat.reduceAdd, e23] at hK ⊢
                    have HK := Lib.hid hK
                    clear hK hdep e22 e23
                    go_simp
                    exact HK.out _ _ _ rfl ⟨rfl, rfl⟩
                  rcases j with _ | j
                  · simp only [List.getElem?_toArray, List.getElem?_cons_succ, List.getElem?_cons_zero, Option.some.injEq, Nat.zero_add] at ho
                    subst ho
                    have e24 : vs 24 = .pointer (some ⟨r, 0, none⟩) := hdep 24 rfl
                    have e22 : vs 22 = .bool true := hdep 22 rfl
                    
                    refine .inl ⟨(by simp only [putFrom, Act.put, List.setIfInBounds_toArray, List.set_cons_succ, List.set_cons_zero, Nat.reduceAdd, e22]; rfl), fun K Q hK => ?_⟩
                    simp only [putFrom, Act.put, List.setIfInBounds_toArray, List.set_cons_succ, List.set_cons_zero, Nat.reduceAdd, e24] at hK ⊢
                    have HK := Lib.hid hK
                    clear hK hdep e22 e24
                    go_simp
                    exact HK.out _ _ _ rfl ⟨rfl, rfl⟩
                  rcases j with _ | j
                  · simp only [List.getElem?_toArray, List.getElem?_cons_succ, List.getElem?_cons_zero, Option.some.injEq, Nat.zero_add] at ho
                    subst ho
                    have e25 : vs 25 = .pointer (some ⟨r, 2, none⟩) := hdep 25 rfl
                    have e22 : vs 22 = .bool true := hdep 22 rfl
                    have hc := HC2.out
                    
                    refine .inl ⟨(by simp only [putFrom, Act.put, List.setIfInBounds_toArray, List.set_cons_succ, List.set_cons_zero, Nat.reduceAdd, e22]; rfl), fun K Q hK => ?_⟩
                    simp only [putFrom, Act.put, List.setIfInBounds_toArray, List.set_cons_succ, List.set_cons_zero, Nat.reduceAdd, e25] at hK ⊢
                    have HK := Lib.hid hK
                    clear hK hdep e22 e25
                    go_simp
                    exact HK.out _ _ _ rfl ⟨rfl, rfl⟩
                  rcases j with _ | j
                  · simp only [List.getElem?_toArray, List.getElem?_cons_succ, List.getElem?_cons_zero, Option.some.injEq, Nat.zero_add] at ho
                    subst ho
                    have e22 : vs 22 = .bool true := hdep 22 rfl
                    
                    refine .inl ⟨(by simp only [putFrom, Act.put, List.setIfInBounds_toArray, List.set_cons_succ, List.set_cons_zero, Nat.reduceAdd, e22]; rfl), fun K Q hK => ?_⟩
                    simp only [putFrom, Act.put, List.setIfInBounds_toArray, List.set_cons_succ, List.set_cons_zero, Nat.reduceAdd] at hK ⊢
                    have HK := Lib.hid hK
                    clear hK hdep e22
                    go_simp
                    exact HK.out _ _ _ rfl ⟨rfl, rfl⟩
                  rcases j with _ | j
                  · simp only [List.getElem?_toArray, List.getElem?_cons_succ, List.getElem?_cons_zero, Option.some.injEq, Nat.zero_add] at ho
                    subst ho
                    have e26 : vs 26 = .slice (some ad) L.length c := hdep 26 rfl
                    have e27 : vs 27 = .int .i64 (a : Int) := hdep 27 rfl
                    have e22 : vs 22 = .bool true := hdep 22 rfl
                    have hA := HA1.out
                    have hl := hlt'
                    
                    refine .inl ⟨(by simp only [putFrom, Act.put, List.setIfInBounds_toArray, List.set_cons_succ, List.set_cons_zero, Nat.reduceAdd, e22]; rfl), fun K Q hK => ?_⟩
                    simp only [putFrom, Act.put, List.setIfInBounds_toArray, List.set_cons_succ, List.set_cons_zero, Nat.reduceAdd, e26, e27] at hK ⊢
                    have HK := Lib.hid hK
                    clear hK hdep e22 e26 e27
                    go_simp
                    exact HK.out _ _ _ rfl ⟨rfl, rfl⟩
                  rcases j with _ | j
                  · simp only [List.getElem?_toArray, List.getElem?_cons_succ, List.getElem?_cons_zero, Option.some.injEq, Nat.zero_add] at ho
                    subst ho
                    have e28 : vs 28 = .pointer (some ⟨g1, o1, none⟩) := hdep 28 rfl
                    have e22 : vs 22 = .bool true := hdep 22 rfl
                    
                    refine .inl ⟨(by simp only [putFrom, Act.put, List.setIfInBounds_toArray, List.set_cons_succ, List.set_cons_zero, Nat.reduceAdd, e22]; rfl), fun K Q hK => ?_⟩
                    simp only [putFrom, Act.put, List.setIfInBounds_toArray, List.set_cons_succ, List.set_cons_zero, Nat.reduceAdd, e28] at hK ⊢
                    have HK := Lib.hid hK
                    clear hK hdep e22 e28
                    go_simp
                    exact HK.out _ _ _ rfl ⟨rfl, rfl⟩
                  rcases j with _ | j
                  · simp only [List.getElem?_toArray, List.getElem?_cons_succ, List.getElem?_cons_zero, Option.some.injEq, Nat.zero_add] at ho
                    subst ho
                    have e29 : vs 29 = .pointer (some ⟨g1, o1 + 1, none⟩) := hdep 29 rfl
                    have e22 : vs 22 = .bool true := hdep 22 rfl
                    have hc := H11.out
                    
                    refine .inl ⟨(by simp only [putFrom, Act.put, List.setIfInBounds_toArray, List.set_cons_succ, List.set_cons_zero, Nat.reduceAdd, e22]; rfl), fun K Q hK => ?_⟩
                    simp only [putFrom, Act.put, List.setIfInBounds_toArray, List.set_cons_succ, List.set_cons_zero, Nat.reduceAdd, e29] at hK ⊢
                    have HK := Lib.hid hK
                    clear hK hdep e22 e29
                    go_simp
                    exact HK.out _ _ _ rfl ⟨rfl, rfl⟩
                  rcases j with _ | j
                  · simp only [List.getElem?_toArray, List.getElem?_cons_succ, List.getElem?_cons_zero, Option.some.injEq, Nat.zero_add] at ho
                    subst ho
                    have e22 : vs 22 = .bool true := hdep 22 rfl
                    
                    refine .inl ⟨(by simp only [putFrom, Act.put, List.setIfInBounds_toArray, List.set_cons_succ, List.set_cons_zero, Nat.reduceAdd, e22]; rfl), fun K Q hK => ?_⟩
                    simp only [putFrom, Act.put, List.setIfInBounds_toArray, List.set_cons_succ, List.set_cons_zero, Nat.reduceAdd] at hK ⊢
                    have HK := Lib.hid hK
                    clear hK hdep e22
                    go_simp
                    exact HK.out _ _ _ rfl ⟨rfl, rfl⟩
                  rcases j with _ | j
                  · simp only [List.getElem?_toArray, List.getElem?_cons_succ, List.getElem?_cons_zero, Option.some.injEq, Nat.zero_add] at ho
                    subst ho
                    have e31 : vs 31 = .pointer (some ⟨r, 0, none⟩) := hdep 31 rfl
                    have e22 : vs 22 = .bool true := hdep 22 rfl
                    
                    refine .inl ⟨(by simp only [putFrom, Act.put, List.setIfInBounds_toArray, List.set_cons_succ, List.set_cons_zero, Nat.reduceAdd, e22]; rfl), fun K Q hK => ?_⟩
                    simp only [putFrom, Act.put, List.setIfInBounds_toArray, List.set_cons_succ, List.set_cons_zero, Nat.reduceAdd, e31] at hK ⊢
                    have HK := Lib.hid hK
                    clear hK hdep e22 e31
                    go_simp
                    exact HK.out _ _ _ rfl ⟨rfl, rfl⟩
                  rcases j with _ | j
                  · simp only [List.getElem?_toArray, List.getElem?_cons_succ, List.getElem?_cons_zero, Option.some.injEq, Nat.zero_add] at ho
                    subst ho
                    have e32 : vs 32 = .pointer (some ⟨r, 0, none⟩) := hdep 32 rfl
                    have e22 : vs 22 = .bool true := hdep 22 rfl
                    
                    refine .inl ⟨(by simp only [putFrom, Act.put, List.setIfInBounds_toArray, List.set_cons_succ, List.set_cons_zero, Nat.reduceAdd, e22]; rfl), fun K Q hK => ?_⟩
                    simp only [putFrom, Act.put, List.setIfInBounds_toArray, List.set_cons_succ, List.set_cons_zero, Nat.reduceAdd, e32] at hK ⊢
                    have HK := Lib.hid hK
                    clear hK hdep e22 e32
                    go_simp
                    exact HK.out _ _ _ rfl ⟨rfl, rfl⟩
                  rcases j with _ | j
                  · simp only [List.getElem?_toArray, List.getElem?_cons_succ, List.getElem?_cons_zero, Option.some.injEq, Nat.zero_add] at ho
                    subst ho
                    have e33 : vs 33 = .pointer (some ⟨r, 2, none⟩) := hdep 33 rfl
                    have e22 : vs 22 = .bool true := hdep 22 rfl
                    have hc := HC2.out
                    
                    refine .inl ⟨(by simp only [putFrom, Act.put, List.setIfInBounds_toArray, List.set_cons_succ, List.set_cons_zero, Nat.reduceAdd, e22]; rfl), fun K Q hK => ?_⟩
                    simp only [putFrom, Act.put, List.setIfInBounds_toArray, List.set_cons_succ, List.set_cons_zero, Nat.reduceAdd, e33] at hK ⊢
                    have HK := Lib.hid hK
                    clear hK hdep e22 e33
                    go_simp
                    exact HK.out _ _ _ rfl ⟨rfl, rfl⟩
                  rcases j with _ | j
                  · simp only [List.getElem?_toArray, List.getElem?_cons_succ, List.getElem?_cons_zero, Option.some.injEq, Nat.zero_add] at ho
                    subst ho
                    have e22 : vs 22 = .bool true := hdep 22 rfl
                    
                    refine .inl ⟨(by simp only [putFrom, Act.put, List.setIfInBounds_toArray, List.set_cons_succ, List.set_cons_zero, Nat.reduceAdd, e22]; rfl), fun K Q hK => ?_⟩
                    simp only [putFrom, Act.put, List.setIfInBounds_toArray, List.set_cons_succ, List.set_cons_zero, Nat.reduceAdd] at hK ⊢
                    have HK := Lib.hid hK
                    clear hK hdep e22
                    go_simp
                    exact HK.out _ _ _ rfl ⟨rfl, rfl⟩
                  rcases j with _ | j
                  · simp only [List.getElem?_toArray, List.getElem?_cons_succ, List.getElem?_cons_zero, Option.some.injEq, Nat.zero_add] at ho
                    subst ho
                    have e34 : vs 34 = .slice (some ad) L.length c := hdep 34 rfl
                    have e35 : vs 35 = .int .i64 (b : Int) := hdep 35 rfl
                    have e22 : vs 22 = .bool true := hdep 22 rfl
                    have hA := HA2.out
                    have hl := hltc'
                    
                    refine .inl ⟨(by simp only [putFrom, Act.put, List.setIfInBounds_toArray, List.set_cons_succ, List.set_cons_zero, Nat.reduceAdd, e22]; rfl), fun K Q hK => ?_⟩
                    simp only [putFrom, Act.put, List.setIfInBounds_toArray, List.set_cons_succ, List.set_cons_zero, Nat.reduceAdd, e34, e35] at hK ⊢
                    have HK := Lib.hid hK
                    clear hK hdep e22 e34 e35
                    go_simp
                    exact HK.out _ _ _ rfl ⟨rfl, rfl⟩
                  rcases j with _ | j
                  · simp only [List.getElem?_toArray, List.getElem?_cons_succ, List.getElem?_cons_zero, Option.some.injEq, Nat.zero_add] at ho
                    subst ho
                    have e36 : vs 36 = .pointer (some ⟨g2, o2, none⟩) := hdep 36 rfl
                    have e22 : vs 22 = .bool true := hdep 22 rfl
                    
                    refine .inl ⟨(by simp only [putFrom, Act.put, List.setIfInBounds_toArray, List.set_cons_succ, List.set_cons_zero, Nat.reduceAdd, e22]; rfl), fun K Q hK => ?_⟩
                    simp only [putFrom, Act.put, List.setIfInBounds_toArray, List.set_cons_succ, List.set_cons_zero, Nat.reduceAdd, e36] at hK ⊢
                    have HK := Lib.hid hK
                    clear hK hdep e22 e36
                    go_simp
                    exact HK.out _ _ _ rfl ⟨rfl, rfl⟩
                  rcases j with _ | j
                  · simp only [List.getElem?_toArray, List.getElem?_cons_succ, List.getElem?_cons_zero, Option.some.injEq, Nat.zero_add] at ho
                    subst ho
                    have e37 : vs 37 = .pointer (some ⟨g2, o2 + 1, none⟩) := hdep 37 rfl
                    have e22 : vs 22 = .bool true := hdep 22 rfl
                    have hc := H21.out
                    
                    refine .inl ⟨(by simp only [putFrom, Act.put, List.setIfInBounds_toArray, List.set_cons_succ, List.set_cons_zero, Nat.reduceAdd, e22]; rfl), fun K Q hK => ?_⟩
                    simp only [putFrom, Act.put, List.setIfInBounds_toArray, List.set_cons_succ, List.set_cons_zero, Nat.reduceAdd, e37] at hK ⊢
                    have HK := Lib.hid hK
                    clear hK hdep e22 e37
                    go_simp
                    exact HK.out _ _ _ rfl ⟨rfl, rfl⟩
                  rcases j with _ | j
                  · simp only [List.getElem?_toArray, List.getElem?_cons_succ, List.getElem?_cons_zero, Option.some.injEq, Nat.zero_add] at ho
                    subst ho
                    have e30 : vs 30 = .int .i64 p := hdep 30 rfl
                    have e38 : vs 38 = .int .i64 q := hdep 38 rfl
                    have e22 : vs 22 = .bool true := hdep 22 rfl
                    have hb := HPQ.out
                    
                    refine .inl ⟨(by simp only [putFrom, Act.put, List.setIfInBounds_toArray, List.set_cons_succ, List.set_cons_zero, Nat.reduceAdd, e22]; rfl), fun K Q hK => ?_⟩
                    simp only [putFrom, Act.put, List.setIfInBounds_toArray, List.set_cons_succ, List.set_cons_zero, Nat.reduceAdd, e30, e38] at hK ⊢
                    have HK := Lib.hid hK
                    clear hK hdep e22 e30 e38
                    go_simp
                    exact HK.out _ _ _ rfl ⟨rfl, rfl⟩
                  rcases j with _ | j
                  · simp only [List.getElem?_toArray, List.getElem?_cons_succ, List.getElem?_cons_zero, Option.some.injEq, Nat.zero_add] at ho
                    subst ho
                    have e22 : vs 22 = .bool true := hdep 22 rfl
                    have e39 : vs 39 = .bool true := hdep 39 rfl
                    
                    refine .inl ⟨rfl, fun K Q hK => ?_⟩
                    simp only [putFrom, Act.put, List.setIfInBounds_toArray, List.set_cons_succ, List.set_cons_zero, Nat.reduceAdd, e22, e39] at hK ⊢
                    have HK := Lib.hid hK
                    clear hK hdep e22 e39
                    go_simp
                    exact HK.out _ _ _ rfl ⟨rfl, rfl⟩
                  exact absurd ho (by simp)
                · subst hI
                  clear hwd
                  have e0 : vs 0 = .pointer (some ⟨r, 0, none⟩) := hR 0 (by decide)
                  have e1 : vs 1 = .pointer (some ⟨r, 0, none⟩) := hR 1 (by decide)
                  have e2 : vs 2 = .pointer (some ⟨r, 2, none⟩) := hR 2 (by decide)
                  have e3 : vs 3 = .slice (some ad) L.length c := hR 3 (by decide)
                  have e4 : vs 4 = .int .i64 (a : Int) := hR 4 (by decide)
                  have e5 : vs 5 = .pointer (some ⟨g1, o1, none⟩) := hR 5 (by decide)
                  have e6 : vs 6 = .pointer (some ⟨g1, o1, none⟩) := hR 6 (by decide)
                  have e7 : vs 7 = .int .i64 x := hR 7 (by decide)
                  have e8 : vs 8 = .int .i64 k := hR 8 (by decide)
                  have e9 : vs 9 = .bool true := hR 9 (by decide)
                  have e10 : vs 10 = .bool true := hR 10 (by decide)
                  have e11 : vs 11 = .pointer (some ⟨r, 0, none⟩) := hR 11 (by decide)
                  have e12 : vs 12 = .pointer (some ⟨r, 0, none⟩) := hR 12 (by decide)
                  have e13 : vs 13 = .pointer (some ⟨r, 2, none⟩) := hR 13 (by decide)
                  have e14 : vs 14 = .slice (some ad) L.length c := hR 14 (by decide)
                  have e15 : vs 15 = .int .i64 (b : Int) := hR 15 (by decide)
                  have e16 : vs 16 = .pointer (some ⟨g2, o2, none⟩) := hR 16 (by decide)
                  have e17 : vs 17 = .pointer (some ⟨g2, o2, none⟩) := hR 17 (by decide)
                  have e18 : vs 18 = .int .i64 y := hR 18 (by decide)
                  have e19 : vs 19 = .int .i64 k := hR 19 (by decide)
                  have e20 : vs 20 = .bool true := hR 20 (by decide)
                  have e21 : vs 21 = .bool true := hR 21 (by decide)
                  have e22 : vs 22 = .bool true := hR 22 (by decide)
                  have e23 : vs 23 = .pointer (some ⟨r, 0, none⟩) := hR 23 (by decide)
                  have e24 : vs 24 = .pointer (some ⟨r, 0, none⟩) := hR 24 (by decide)
                  have e25 : vs 25 = .pointer (some ⟨r, 2, none⟩) := hR 25 (by decide)
                  have e26 : vs 26 = .slice (some ad) L.length c := hR 26 (by decide)
                  have e27 : vs 27 = .int .i64 (a : Int) := hR 27 (by decide)
                  have e28 : vs 28 = .pointer (some ⟨g1, o1, none⟩) := hR 28 (by decide)
                  have e29 : vs 29 = .pointer (some ⟨g1, o1 + 1, none⟩) := hR 29 (by decide)
                  have e30 : vs 30 = .int .i64 p := hR 30 (by decide)
                  have e31 : vs 31 = .pointer (some ⟨r, 0, none⟩) := hR 31 (by decide)
                  have e32 : vs 32 = .pointer (some ⟨r, 0, none⟩) := hR 32 (by decide)
                  have e33 : vs 33 = .pointer (some ⟨r, 2, none⟩) := hR 33 (by decide)
                  have e34 : vs 34 = .slice (some ad) L.length c := hR 34 (by decide)
                  have e35 : vs 35 = .int .i64 (b : Int) := hR 35 (by decide)
                  have e36 : vs 36 = .pointer (some ⟨g2, o2, none⟩) := hR 36 (by decide)
                  have e37 : vs 37 = .pointer (some ⟨g2, o2 + 1, none⟩) := hR 37 (by decide)
                  have e38 : vs 38 = .int .i64 q := hR 38 (by decide)
                  have e39 : vs 39 = .bool true := hR 39 (by decide)
                  have e40 : vs 40 = .bool true := hR 40 (by decide)
                  clear hR
                  simp only [putFrom, Act.put, List.setIfInBounds_toArray, List.set_cons_succ, List.set_cons_zero, Nat.reduceAdd, e0, e1, e2, e3, e4, e5, e6, e7, e8, e9, e10, e11, e12, e13, e14, e15, e16, e17, e18, e19, e20, e21, e22, e23, e24, e25, e26, e27, e28, e29, e30, e31, e32, e33, e34, e35, e36, e37, e38, e39, e40]
                  clear e0 e1 e2 e3 e4 e5 e6 e7 e8 e9 e10 e11 e12 e13 e14 e15 e16 e17 e18 e19 e20 e21 e22 e23 e24 e25 e26 e27 e28 e29 e30 e31 e32 e33 e34 e35 e36 e37 e38 e39 e40
                  go_wp2
                  go_ret
                  exact ⟨.inl ⟨HY.out, rfl⟩, hfin⟩
              · have HN := Lib.hid (HS.out (fun hd => hpq (HD.out.1 hd).2.2))
                have hpq' : (p == q) = false := by simpa using hpq
                clear HD HS
                go_wp2_with fail
                obtain ⟨wd, hwd⟩ : ∃ wd : World, wd = wr.drew := ⟨_, rfl⟩
                rw [← hwd] at HRD HBD
                (try rw [← hwd] at hfin)
                have HC2 := Lib.hid (HRD.out.c2)
                have H10 : Hid (wd.cell? ⟨g1, o1, none⟩ = some (.int .i64 x)) := Lib.hid (by rw [hwd]; exact h10)
                have H11 : Hid (wd.cell? ⟨g1, o1 + 1, none⟩ = some (.int .i64 p)) := Lib.hid (by rw [hwd]; exact h11)
                have H20 : Hid (wd.cell? ⟨g2, o2, none⟩ = some (.int .i64 y)) := Lib.hid (by rw [hwd]; exact h20)
                have H21 : Hid (wd.cell? ⟨g2, o2 + 1, none⟩ = some (.int .i64 q)) := Lib.hid (by rw [hwd]; exact h21)
                have HA1 := Lib.hid hA1
                have HA2 := Lib.hid hA2
                clear hA1 hA2 h10 h11 h20 h21 hc2
                have HX := Lib.hid (show (x == k) = true by simpa using hx); have HY0 := Lib.hid (show (y == k) = true by simpa using hy); have HPQ := Lib.hid hpq'
                clear hx hy hpq hpq'
                refine wp_region_inv 62 (fun j v _ => v = ([.pointer (some ⟨r, 0, none⟩), .pointer (some ⟨r, 0, none⟩), .pointer (some ⟨r, 2, none⟩), .slice (some ad) L.length c, .int .i64 (a : Int), .pointer (some ⟨g1, o1, none⟩), .pointer (some ⟨g1, o1, none⟩), .int .i64 x, .int .i64 k, .bool true, .bool true, .pointer (some ⟨r, 0, none⟩), .pointer (some ⟨r, 0, none⟩), .pointer (some ⟨r, 2, none⟩), .slice (some ad) L.length c, .int .i64 (b : Int), .pointer (some ⟨g2, o2, none⟩), .pointer (some ⟨g2, o2, none⟩), .int .i64 y, .int .i64 k, .bool true, .bool true, .bool true, .pointer (some ⟨r, 0, none⟩), .pointer (some ⟨r, 0, none⟩), .pointer (some ⟨r, 2, none⟩), .slice (some ad) L.length c, .int .i64 (a : Int), .pointer (some ⟨g1, o1, none⟩), .pointer (some ⟨g1, o1 + 1, none⟩), .int .i64 p, .pointer (some ⟨r, 0, none⟩), .pointer (some ⟨r, 0, none⟩), .pointer (some ⟨r, 2, none⟩), .slice (some ad) L.length c, .int .i64 (b : Int), .pointer (some ⟨g2, o2, none⟩), .pointer (some ⟨g2, o2 + 1, none⟩), .int .i64 q, .bool false, .bool false] : List Value).getD j undef) (· = wd) (fun _ W W' => W = W') (by kernel_rfl) (by rfl) (by kernel_rfl) (fun _ _ _ _ _ _ _ _ _ hR => hR) (fun _ _ _ e h => e.symm.trans h) hwd.symm (fun j o ho vs W hI hdep => ?_) (fun vs W hI hR => ?_)
                · subst hI
                  clear hwd
                  rcases j with _ | j
                  · simp only [List.getElem?_toArray, List.getElem?_cons_zero, Option.some.injEq] at ho
                    subst ho
                    refine .inl ⟨rfl, fun K Q hK => ?_⟩
                    simp only [putFrom, Act.put, List.setIfInBounds_toArray, List.set_cons_succ, List.set_cons_zero, Nat.reduceAdd] at hK ⊢
                    have HK := Lib.hid hK
                    clear hK hdep 
                    go_simp
                    exact HK.out _ _ _ rfl ⟨rfl, rfl⟩
                  rcases j with _ | j
                  · simp only [List.getElem?_toArray, List.getElem?_cons_succ, List.getElem?_cons_zero, Option.some.injEq, Nat.zero_add] at ho
                    subst ho
                    have e0 : vs 0 = .pointer (some ⟨r, 0, none⟩) := hdep 0 rfl
                    
                    refine .inl ⟨rfl, fun K Q hK => ?_⟩
                    simp only [putFrom, Act.put, List.setIfInBounds_toArray, List.set_cons_succ, List.set_cons_zero, Nat.reduceAdd, e0] at hK ⊢
                    have HK := Lib.hid hK
                    clear hK hdep e0
                    go_simp
                    exact HK.out _ _ _ rfl ⟨rfl, rfl⟩
                  rcases j with _ | j
                  · simp only [List.getElem?_toArray, List.getElem?_cons_succ, List.getElem?_cons_zero, Option.some.injEq, Nat.zero_add] at ho
                    subst ho
                    have e1 : vs 1 = .pointer (some ⟨r, 0, none⟩) := hdep 1 rfl
                    
                    refine .inl ⟨rfl, fun K Q hK => ?_⟩
                    simp only [putFrom, Act.put, List.setIfInBounds_toArray, List.set_cons_succ, List.set_cons_zero, Nat.reduceAdd, e1] at hK ⊢
                    have HK := Lib.hid hK
                    clear hK hdep e1
                    go_simp
                    exact HK.out _ _ _ rfl ⟨rfl, rfl⟩
                  rcases j with _ | j
                  · simp only [List.getElem?_toArray, List.getElem?_cons_succ, List.getElem?_cons_zero, Option.some.injEq, Nat.zero_add] at ho
                    subst ho
                    have e2 : vs 2 = .pointer (some ⟨r, 2, none⟩) := hdep 2 rfl
                    have hc := HC2.out
                    
                    refine .inl ⟨rfl, fun K Q hK => ?_⟩
                    simp only [putFrom, Act.put, List.setIfInBounds_toArray, List.set_cons_succ, List.set_cons_zero, Nat.reduceAdd, e2] at hK ⊢
                    have HK := Lib.hid hK
                    clear hK hdep e2
                    go_simp
                    exact HK.out _ _ _ rfl ⟨rfl, rfl⟩
                  rcases j with _ | j
                  · simp only [List.getElem?_toArray, List.getElem?_cons_succ, List.getElem?_cons_zero, Option.some.injEq, Nat.zero_add] at ho
                    subst ho
                    refine .inl ⟨rfl, fun K Q hK => ?_⟩
                    simp only [putFrom, Act.put, List.setIfInBounds_toArray, List.set_cons_succ, List.set_cons_zero, Nat.reduceAdd] at hK ⊢
                    have HK := Lib.hid hK
                    clear hK hdep 
                    go_simp
                    exact HK.out _ _ _ rfl ⟨rfl, rfl⟩
                  rcases j with _ | j
                  · simp only [List.getElem?_toArray, List.getElem?_cons_succ, List.getElem?_cons_zero, Option.some.injEq, Nat.zero_add] at ho
                    subst ho
                    have e3 : vs 3 = .slice (some ad) L.length c := hdep 3 rfl
                    have e4 : vs 4 = .int .i64 (a : Int) := hdep 4 rfl
                    have hA := HA1.out
                    have hl := hlt'
                    
                    refine .inl ⟨rfl, fun K Q hK => ?_⟩
                    simp only [putFrom, Act.put, List.setIfInBounds_toArray, List.set_cons_succ, List.set_cons_zero, Nat.reduceAdd, e3, e4] at hK ⊢
                    have HK := Lib.hid hK
                    clear hK hdep e3 e4
                    go_simp
                    exact HK.out _ _ _ rfl ⟨rfl, rfl⟩
                  rcases j with _ | j
                  · simp only [List.getElem?_toArray, List.getElem?_cons_succ, List.getElem?_cons_zero, Option.some.injEq, Nat.zero_add] at ho
                    subst ho
                    have e5 : vs 5 = .pointer (some ⟨g1, o1, none⟩) := hdep 5 rfl
                    
                    refine .inl ⟨rfl, fun K Q hK => ?_⟩
                    simp only [putFrom, Act.put, List.setIfInBounds_toArray, List.set_cons_succ, List.set_cons_zero, Nat.reduceAdd, e5] at hK ⊢
                    have HK := Lib.hid hK
                    clear hK hdep e5
                    go_simp
                    exact HK.out _ _ _ rfl ⟨rfl, rfl⟩
                  rcases j with _ | j
                  · simp only [List.getElem?_toArray, List.getElem?_cons_succ, List.getElem?_cons_zero, Option.some.injEq, Nat.zero_add] at ho
                    subst ho
                    have e6 : vs 6 = .pointer (some ⟨g1, o1, none⟩) := hdep 6 rfl
                    have hc := H10.out
                    
                    refine .inl ⟨rfl, fun K Q hK => ?_⟩
                    simp only [putFrom, Act.put, List.setIfInBounds_toArray, List.set_cons_succ, List.set_cons_zero, Nat.reduceAdd, e6] at hK ⊢
                    have HK := Lib.hid hK
                    clear hK hdep e6
                    go_simp
                    exact HK.out _ _ _ rfl ⟨rfl, rfl⟩
                  rcases j with _ | j
                  · simp only [List.getElem?_toArray, List.getElem?_cons_succ, List.getElem?_cons_zero, Option.some.injEq, Nat.zero_add] at ho
                    subst ho
                    refine .inl ⟨rfl, fun K Q hK => ?_⟩
                    simp only [putFrom, Act.put, List.setIfInBounds_toArray, List.set_cons_succ, List.set_cons_zero, Nat.reduceAdd] at hK ⊢
                    have HK := Lib.hid hK
                    clear hK hdep 
                    go_simp
                    exact HK.out _ _ _ rfl ⟨rfl, rfl⟩
                  rcases j with _ | j
                  · simp only [List.getElem?_toArray, List.getElem?_cons_succ, List.getElem?_cons_zero, Option.some.injEq, Nat.zero_add] at ho
                    subst ho
                    have e7 : vs 7 = .int .i64 x := hdep 7 rfl
                    have e8 : vs 8 = .int .i64 k := hdep 8 rfl
                    have hb := HX.out
                    
                    refine .inl ⟨rfl, fun K Q hK => ?_⟩
                    simp only [putFrom, Act.put, List.setIfInBounds_toArray, List.set_cons_succ, List.set_cons_zero, Nat.reduceAdd, e7, e8] at hK ⊢
                    have HK := Lib.hid hK
                    clear hK hdep e7 e8
                    go_simp
                    exact HK.out _ _ _ rfl ⟨rfl, rfl⟩
                  rcases j with _ | j
                  · simp only [List.getElem?_toArray, List.getElem?_cons_succ, List.getElem?_cons_zero, Option.some.injEq, Nat.zero_add] at ho
                    subst ho
                    have e9 : vs 9 = .bool true := hdep 9 rfl
                    
                    refine .inl ⟨rfl, fun K Q hK => ?_⟩
                    simp only [putFrom, Act.put, List.setIfInBounds_toArray, List.set_cons_succ, List.set_cons_zero, Nat.reduceAdd, e9] at hK ⊢
                    have HK := Lib.hid hK
                    clear hK hdep e9
                    go_simp
                    exact HK.out _ _ _ rfl ⟨rfl, rfl⟩
                  rcases j with _ | j
                  · simp only [List.getElem?_toArray, List.getElem?_cons_succ, List.getElem?_cons_zero, Option.some.injEq, Nat.zero_add] at ho
                    subst ho
                    have e10 : vs 10 = .bool true := hdep 10 rfl
                    
                    refine .inl ⟨(by simp only [putFrom, Act.put, List.setIfInBounds_toArray, List.set_cons_succ, List.set_cons_zero, Nat.reduceAdd, e10]; rfl), fun K Q hK => ?_⟩
                    simp only [putFrom, Act.put, List.setIfInBounds_toArray, List.set_cons_succ, List.set_cons_zero, Nat.reduceAdd] at hK ⊢
                    have HK := Lib.hid hK
                    clear hK hdep e10
                    go_simp
                    exact HK.out _ _ _ rfl ⟨rfl, rfl⟩
                  rcases j with _ | j
                  · simp only [List.getElem?_toArray, List.getElem?_cons_succ, List.getElem?_cons_zero, Option.some.injEq, Nat.zero_add] at ho
                    subst ho
                    have e11 : vs 11 = .pointer (some ⟨r, 0, none⟩) := hdep 11 rfl
                    have e10 : vs 10 = .bool true := hdep 10 rfl
                    
                    refine .inl ⟨(by simp only [putFrom, Act.put, List.setIfInBounds_toArray, List.set_cons_succ, List.set_cons_zero, Nat.reduceAdd, e10]; rfl), fun K Q hK => ?_⟩
                    simp only [putFrom, Act.put, List.setIfInBounds_toArray, List.set_cons_succ, List.set_cons_zero, Nat.reduceAdd, e11] at hK ⊢
                    have HK := Lib.hid hK
                    clear hK hdep e10 e11
                    go_simp
                    exact HK.out _ _ _ rfl ⟨rfl, rfl⟩
                  rcases j with _ | j
                  · simp only [List.getElem?_toArray, List.getElem?_cons_succ, List.getElem?_cons_zero, Option.some.injEq, Nat.zero_add] at ho
                    subst ho
                    have e12 : vs 12 = .pointer (some ⟨r, 0, none⟩) := hdep 12 rfl
                    have e10 : vs 10 = .bool true := hdep 10 rfl
                    
                    refine .inl ⟨(by simp only [putFrom, Act.put, List.setIfInBounds_toArray, List.set_cons_succ, List.set_cons_zero, Nat.reduceAdd, e10]; rfl), fun K Q hK => ?_⟩
                    simp only [putFrom, Act.put, List.setIfInBounds_toArray, List.set_cons_succ, List.set_cons_zero, Nat.reduceAdd, e12] at hK ⊢
                    have HK := Lib.hid hK
                    clear hK hdep e10 e12
                    go_simp
                    exact HK.out _ _ _ rfl ⟨rfl, rfl⟩
                  rcases j with _ | j
                  · simp only [List.getElem?_toArray, List.getElem?_cons_succ, List.getElem?_cons_zero, Option.some.injEq, Nat.zero_add] at ho
                    subst ho
                    have e13 : vs 13 = .pointer (some ⟨r, 2, none⟩) := hdep 13 rfl
                    have e10 : vs 10 = .bool true := hdep 10 rfl
                    have hc := HC2.out
                    
                    refine .inl ⟨(by simp only [putFrom, Act.put, List.setIfInBounds_toArray, List.set_cons_succ, List.set_cons_zero, Nat.reduceAdd, e10]; rfl), fun K Q hK => ?_⟩
                    simp only [putFrom, Act.put, List.setIfInBounds_toArray, List.set_cons_succ, List.set_cons_zero, Nat.reduceAdd, e13] at hK ⊢
                    have HK := Lib.hid hK
                    clear hK hdep e10 e13
                    go_simp
                    exact HK.out _ _ _ rfl ⟨rfl, rfl⟩
                  rcases j with _ | j
                  · simp only [List.getElem?_toArray, List.getElem?_cons_succ, List.getElem?_cons_zero, Option.some.injEq, Nat.zero_add] at ho
                    subst ho
                    have e10 : vs 10 = .bool true := hdep 10 rfl
                    
                    refine .inl ⟨(by simp only [putFrom, Act.put, List.setIfInBounds_toArray, List.set_cons_succ, List.set_cons_zero, Nat.reduceAdd, e10]; rfl), fun K Q hK => ?_⟩
                    simp only [putFrom, Act.put, List.setIfInBounds_toArray, List.set_cons_succ, List.set_cons_zero, Nat.reduceAdd] at hK ⊢
                    have HK := Lib.hid hK
                    clear hK hdep e10
                    go_simp
                    exact HK.out _ _ _ rfl ⟨rfl, rfl⟩
                  rcases j with _ | j
                  · simp only [List.getElem?_toArray, List.getElem?_cons_succ, List.getElem?_cons_zero, Option.some.injEq, Nat.zero_add] at ho
                    subst ho
                    have e14 : vs 14 = .slice (some ad) L.length c := hdep 14 rfl
                    have e15 : vs 15 = .int .i64 (b : Int) := hdep 15 rfl
                    have e10 : vs 10 = .bool true := hdep 10 rfl
                    have hA := HA2.out
                    have hl := hltc'
                    
                    refine .inl ⟨(by simp only [putFrom, Act.put, List.setIfInBounds_toArray, List.set_cons_succ, List.set_cons_zero, Nat.reduceAdd, e10]; rfl), fun K Q hK => ?_⟩
                    simp only [putFrom, Act.put, List.setIfInBounds_toArray, List.set_cons_succ, List.set_cons_zero, Nat.reduceAdd, e14, e15] at hK ⊢
                    have HK := Lib.hid hK
                    clear hK hdep e10 e14 e15
                    go_simp
                    exact HK.out _ _ _ rfl ⟨rfl, rfl⟩
                  rcases j with _ | j
                  · simp only [List.getElem?_toArray, List.getElem?_cons_succ, List.getElem?_cons_zero, Option.some.injEq, Nat.zero_add] at ho
                    subst ho
                    have e16 : vs 16 = .pointer (some ⟨g2, o2, none⟩) := hdep 16 rfl
                    have e10 : vs 10 = .bool true := hdep 10 rfl
                    
                    refine .inl ⟨(by simp only [putFrom, Act.put, List.setIfInBounds_toArray, List.set_cons_succ, List.set_cons_zero, Nat.reduceAdd, e10]; rfl), fun K Q hK => ?_⟩
                    simp only [putFrom, Act.put, List.setIfInBounds_toArray, List.set_cons_succ, List.set_cons_zero, Nat.reduceAdd, e16] at hK ⊢
                    have HK := Lib.hid hK
                    clear hK hdep e10 e16
                    go_simp
                    exact HK.out _ _ _ rfl ⟨rfl, rfl⟩
                  rcases j with _ | j
                  · simp only [List.getElem?_toArray, List.getElem?_cons_succ, List.getElem?_cons_zero, Option.some.injEq, Nat.zero_add] at ho
                    subst ho
                    have e17 : vs 17 = .pointer (some ⟨g2, o2, none⟩) := hdep 17 rfl
                    have e10 : vs 10 = .bool true := hdep 10 rfl
                    have hc := H20.out
                    
                    refine .inl ⟨(by simp only [putFrom, Act.put, List.setIfInBounds_toArray, List.set_cons_succ, List.set_cons_zero, Nat.reduceAdd, e10]; rfl), fun K Q hK => ?_⟩
                    simp only [putFrom, Act.put, List.setIfInBounds_toArray, List.set_cons_succ, List.set_cons_zero, Nat.reduceAdd, e17] at hK ⊢
                    have HK := Lib.hid hK
                    clear hK hdep e10 e17
                    go_simp
                    exact HK.out _ _ _ rfl ⟨rfl, rfl⟩
                  rcases j with _ | j
                  · simp only [List.getElem?_toArray, List.getElem?_cons_succ, List.getElem?_cons_zero, Option.some.injEq, Nat.zero_add] at ho
                    subst ho
                    have e10 : vs 10 = .bool true := hdep 10 rfl
                    
                    refine .inl ⟨(by simp only [putFrom, Act.put, List.setIfInBounds_toArray, List.set_cons_succ, List.set_cons_zero, Nat.reduceAdd, e10]; rfl), fun K Q hK => ?_⟩
                    simp only [putFrom, Act.put, List.setIfInBounds_toArray, List.set_cons_succ, List.set_cons_zero, Nat.reduceAdd] at hK ⊢
                    have HK := Lib.hid hK
                    clear hK hdep e10
                    go_simp
                    exact HK.out _ _ _ rfl ⟨rfl, rfl⟩
                  rcases j with _ | j
                  · simp only [List.getElem?_toArray, List.getElem?_cons_succ, List.getElem?_cons_zero, Option.some.injEq, Nat.zero_add] at ho
                    subst ho
                    have e18 : vs 18 = .int .i64 y := hdep 18 rfl
                    have e19 : vs 19 = .int .i64 k := hdep 19 rfl
                    have e10 : vs 10 = .bool true := hdep 10 rfl
                    have hb := HY0.out
                    
                    refine .inl ⟨(by simp only [putFrom, Act.put, List.setIfInBounds_toArray, List.set_cons_succ, List.set_cons_zero, Nat.reduceAdd, e10]; rfl), fun K Q hK => ?_⟩
                    simp only [putFrom, Act.put, List.setIfInBounds_toArray, List.set_cons_succ, List.set_cons_zero, Nat.reduceAdd, e18, e19] at hK ⊢
                    have HK := Lib.hid hK
                    clear hK hdep e10 e18 e19
                    go_simp
                    exact HK.out _ _ _ rfl ⟨rfl, rfl⟩
                  rcases j with _ | j
                  · simp only [List.getElem?_toArray, List.getElem?_cons_succ, List.getElem?_cons_zero, Option.some.injEq, Nat.zero_add] at ho
                    subst ho
                    have e10 : vs 10 = .bool true := hdep 10 rfl
                    have e20 : vs 20 = .bool true := hdep 20 rfl
                    
                    refine .inl ⟨rfl, fun K Q hK => ?_⟩
                    simp only [putFrom, Act.put, List.setIfInBounds_toArray, List.set_cons_succ, List.set_cons_zero, Nat.reduceAdd, e10, e20] at hK ⊢
                    have HK := Lib.hid hK
                    clear hK hdep e10 e20
                    go_simp
                    exact HK.out _ _ _ rfl ⟨rfl, rfl⟩
                  rcases j with _ | j
                  · simp only [List.getElem?_toArray, List.getElem?_cons_succ, List.getElem?_cons_zero, Option.some.injEq, Nat.zero_add] at ho
                    subst ho
                    have e21 : vs 21 = .bool true := hdep 21 rfl
                    
                    refine .inl ⟨rfl, fun K Q hK => ?_⟩
                    simp only [putFrom, Act.put, List.setIfInBounds_toArray, List.set_cons_succ, List.set_cons_zero, Nat.reduceAdd, e21] at hK ⊢
                    have HK := Lib.hid hK
                    clear hK hdep e21
                    go_simp
                    exact HK.out _ _ _ rfl ⟨rfl, rfl⟩
                  rcases j with _ | j
                  · simp only [List.getElem?_toArray, List.getElem?_cons_succ, List.getElem?_cons_zero, Option.some.injEq, Nat.zero_add] at ho
                    subst ho
                    have e22 : vs 22 = .bool true := hdep 22 rfl
                    
                    refine .inl ⟨(by simp only [putFrom, Act.put, List.setIfInBounds_toArray, List.set_cons_succ, List.set_cons_zero, Nat.reduceAdd, e22]; rfl), fun K Q hK => ?_⟩
                    simp only [putFrom, Act.put, List.setIfInBounds_toArray, List.set_cons_succ, List.set_cons_zero, Nat.reduceAdd] at hK ⊢
                    have HK := Lib.hid hK
                    clear hK hdep e22
                    go_simp
                    exact HK.out _ _ _ rfl ⟨rfl, rfl⟩
                  rcases j with _ | j
                  · simp only [List.getElem?_toArray, List.getElem?_cons_succ, List.getElem?_cons_zero, Option.some.injEq, Nat.zero_add] at ho
                    subst ho
                    have e23 : vs 23 = .pointer (some ⟨r, 0, none⟩) := hdep 23 rfl
                    have e22 : vs 22 = .bool true := hdep 22 rfl
                    
                    refine .inl ⟨(by simp only [putFrom, Act.put, List.setIfInBounds_toArray, List.set_cons_succ, List.set_cons_zero, Nat.reduceAdd, e22]; rfl), fun K Q hK => ?_⟩
                    simp only [putFrom, Act.put, List.setIfInBounds_toArray, List.set_cons_succ, List.set_cons_zero, Nat.reduceAdd, e23] at hK ⊢
                    have HK := Lib.hid hK
                    clear hK hdep e22 e23
                    go_simp
                    exact HK.out _ _ _ rfl ⟨rfl, rfl⟩
                  rcases j with _ | j
                  · simp only [List.getElem?_toArray, List.getElem?_cons_succ, List.getElem?_cons_zero, Option.some.injEq, Nat.zero_add] at ho
                    subst ho
                    have e24 : vs 24 = .pointer (some ⟨r, 0, none⟩) := hdep 24 rfl
                    have e22 : vs 22 = .bool true := hdep 22 rfl
                    
                    refine .inl ⟨(by simp only [putFrom, Act.put, List.setIfInBounds_toArray, List.set_cons_succ, List.set_cons_zero, Nat.reduceAdd, e22]; rfl), fun K Q hK => ?_⟩
                    simp only [putFrom, Act.put, List.setIfInBounds_toArray, List.set_cons_succ, List.set_cons_zero, Nat.reduceAdd, e24] at hK ⊢
                    have HK := Lib.hid hK
                    clear hK hdep e22 e24
                    go_simp
                    exact HK.out _ _ _ rfl ⟨rfl, rfl⟩
                  rcases j with _ | j
                  · simp only [List.getElem?_toArray, List.getElem?_cons_succ, List.getElem?_cons_zero, Option.some.injEq, Nat.zero_add] at ho
                    subst ho
                    have e25 : vs 25 = .pointer (some ⟨r, 2, none⟩) := hdep 25 rfl
                    have e22 : vs 22 = .bool true := hdep 22 rfl
                    have hc := HC2.out
                    
                    refine .inl ⟨(by simp only [putFrom, Act.put, List.setIfInBounds_toArray, List.set_cons_succ, List.set_cons_zero, Nat.reduceAdd, e22]; rfl), fun K Q hK => ?_⟩
                    simp only [putFrom, Act.put, List.setIfInBounds_toArray, List.set_cons_succ, List.set_cons_zero, Nat.reduceAdd, e25] at hK ⊢
                    have HK := Lib.hid hK
                    clear hK hdep e22 e25
                    go_simp
                    exact HK.out _ _ _ rfl ⟨rfl, rfl⟩
                  rcases j with _ | j
                  · simp only [List.getElem?_toArray, List.getElem?_cons_succ, List.getElem?_cons_zero, Option.some.injEq, Nat.zero_add] at ho
                    subst ho
                    have e22 : vs 22 = .bool true := hdep 22 rfl
                    
                    refine .inl ⟨(by simp only [putFrom, Act.put, List.setIfInBounds_toArray, List.set_cons_succ, List.set_cons_zero, Nat.reduceAdd, e22]; rfl), fun K Q hK => ?_⟩
                    simp only [putFrom, Act.put, List.setIfInBounds_toArray, List.set_cons_succ, List.set_cons_zero, Nat.reduceAdd] at hK ⊢
                    have HK := Lib.hid hK
                    clear hK hdep e22
                    go_simp
                    exact HK.out _ _ _ rfl ⟨rfl, rfl⟩
                  rcases j with _ | j
                  · simp only [List.getElem?_toArray, List.getElem?_cons_succ, List.getElem?_cons_zero, Option.some.injEq, Nat.zero_add] at ho
                    subst ho
                    have e26 : vs 26 = .slice (some ad) L.length c := hdep 26 rfl
                    have e27 : vs 27 = .int .i64 (a : Int) := hdep 27 rfl
                    have e22 : vs 22 = .bool true := hdep 22 rfl
                    have hA := HA1.out
                    have hl := hlt'
                    
                    refine .inl ⟨(by simp only [putFrom, Act.put, List.setIfInBounds_toArray, List.set_cons_succ, List.set_cons_zero, Nat.reduceAdd, e22]; rfl), fun K Q hK => ?_⟩
                    simp only [putFrom, Act.put, List.setIfInBounds_toArray, List.set_cons_succ, List.set_cons_zero, Nat.reduceAdd, e26, e27] at hK ⊢
                    have HK := Lib.hid hK
                    clear hK hdep e22 e26 e27
                    go_simp
                    exact HK.out _ _ _ rfl ⟨rfl, rfl⟩
                  rcases j with _ | j
                  · simp only [List.getElem?_toArray, List.getElem?_cons_succ, List.getElem?_cons_zero, Option.some.injEq, Nat.zero_add] at ho
                    subst ho
                    have e28 : vs 28 = .pointer (some ⟨g1, o1, none⟩) := hdep 28 rfl
                    have e22 : vs 22 = .bool true := hdep 22 rfl
                    
                    refine .inl ⟨(by simp only [putFrom, Act.put, List.setIfInBounds_toArray, List.set_cons_succ, List.set_cons_zero, Nat.reduceAdd, e22]; rfl), fun K Q hK => ?_⟩
                    simp only [putFrom, Act.put, List.setIfInBounds_toArray, List.set_cons_succ, List.set_cons_zero, Nat.reduceAdd, e28] at hK ⊢
                    have HK := Lib.hid hK
                    clear hK hdep e22 e28
                    go_simp
                    exact HK.out _ _ _ rfl ⟨rfl, rfl⟩
                  rcases j with _ | j
                  · simp only [List.getElem?_toArray, List.getElem?_cons_succ, List.getElem?_cons_zero, Option.some.injEq, Nat.zero_add] at ho
                    subst ho
                    have e29 : vs 29 = .pointer (some ⟨g1, o1 + 1, none⟩) := hdep 29 rfl
                    have e22 : vs 22 = .bool true := hdep 22 rfl
                    have hc := H11.out
                    
                    refine .inl ⟨(by simp only [putFrom, Act.put, List.setIfInBounds_toArray, List.set_cons_succ, List.set_cons_zero, Nat.reduceAdd, e22]; rfl), fun K Q hK => ?_⟩
                    simp only [putFrom, Act.put, List.setIfInBounds_toArray, List.set_cons_succ, List.set_cons_zero, Nat.reduceAdd, e29] at hK ⊢
                    have HK := Lib.hid hK
                    clear hK hdep e22 e29
                    go_simp
                    exact HK.out _ _ _ rfl ⟨rfl, rfl⟩
                  rcases j with _ | j
                  · simp only [List.getElem?_toArray, List.getElem?_cons_succ, List.getElem?_cons_zero, Option.some.injEq, Nat.zero_add] at ho
                    subst ho
                    have e22 : vs 22 = .bool true := hdep 22 rfl
                    
                    refine .inl ⟨(by simp only [putFrom, Act.put, List.setIfInBounds_toArray, List.set_cons_succ, List.set_cons_zero, Nat.reduceAdd, e22]; rfl), fun K Q hK => ?_⟩
                    simp only [putFrom, Act.put, List.setIfInBounds_toArray, List.set_cons_succ, List.set_cons_zero, Nat.reduceAdd] at hK ⊢
                    have HK := Lib.hid hK
                    clear hK hdep e22
                    go_simp
                    exact HK.out _ _ _ rfl ⟨rfl, rfl⟩
                  rcases j with _ | j
                  · simp only [List.getElem?_toArray, List.getElem?_cons_succ, List.getElem?_cons_zero, Option.some.injEq, Nat.zero_add] at ho
                    subst ho
                    have e31 : vs 31 = .pointer (some ⟨r, 0, none⟩) := hdep 31 rfl
                    have e22 : vs 22 = .bool true := hdep 22 rfl
                    
                    refine .inl ⟨(by simp only [putFrom, Act.put, List.setIfInBounds_toArray, List.set_cons_succ, List.set_cons_zero, Nat.reduceAdd, e22]; rfl), fun K Q hK => ?_⟩
                    simp only [putFrom, Act.put, List.setIfInBounds_toArray, List.set_cons_succ, List.set_cons_zero, Nat.reduceAdd, e31] at hK ⊢
                    have HK := Lib.hid hK
                    clear hK hdep e22 e31
                    go_simp
                    exact HK.out _ _ _ rfl ⟨rfl, rfl⟩
                  rcases j with _ | j
                  · simp only [List.getElem?_toArray, List.getElem?_cons_succ, List.getElem?_cons_zero, Option.some.injEq, Nat.zero_add] at ho
                    subst ho
                    have e32 : vs 32 = .pointer (some ⟨r, 0, none⟩) := hdep 32 rfl
                    have e22 : vs 22 = .bool true := hdep 22 rfl
                    
                    refine .inl ⟨(by simp only [putFrom, Act.put, List.setIfInBounds_toArray, List.set_cons_succ, List.set_cons_zero, Nat.reduceAdd, e22]; rfl), fun K Q hK => ?_⟩
                    simp only [putFrom, Act.put, List.setIfInBounds_toArray, List.set_cons_succ, List.set_cons_zero, Nat.reduceAdd, e32] at hK ⊢
                    have HK := Lib.hid hK
                    clear hK hdep e22 e32
                    go_simp
                    exact HK.out _ _ _ rfl ⟨rfl, rfl⟩
                  rcases j with _ | j
                  · simp only [List.getElem?_toArray, List.getElem?_cons_succ, List.getElem?_cons_zero, Option.some.injEq, Nat.zero_add] at ho
                    subst ho
                    have e33 : vs 33 = .pointer (some ⟨r, 2, none⟩) := hdep 33 rfl
                    have e22 : vs 22 = .bool true := hdep 22 rfl
                    have hc := HC2.out
                    
                    refine .inl ⟨(by simp only [putFrom, Act.put, List.setIfInBounds_toArray, List.set_cons_succ, List.set_cons_zero, Nat.reduceAdd, e22]; rfl), fun K Q hK => ?_⟩
                    simp only [putFrom, Act.put, List.setIfInBounds_toArray, List.set_cons_succ, List.set_cons_zero, Nat.reduceAdd, e33] at hK ⊢
                    have HK := Lib.hid hK
                    clear hK hdep e22 e33
                    go_simp
                    exact HK.out _ _ _ rfl ⟨rfl, rfl⟩
                  rcases j with _ | j
                  · simp only [List.getElem?_toArray, List.getElem?_cons_succ, List.getElem?_cons_zero, Option.some.injEq, Nat.zero_add] at ho
                    subst ho
                    have e22 : vs 22 = .bool true := hdep 22 rfl
                    
                    refine .inl ⟨(by simp only [putFrom, Act.put, List.setIfInBounds_toArray, List.set_cons_succ, List.set_cons_zero, Nat.reduceAdd, e22]; rfl), fun K Q hK => ?_⟩
                    simp only [putFrom, Act.put, List.setIfInBounds_toArray, List.set_cons_succ, List.set_cons_zero, Nat.reduceAdd] at hK ⊢
                    have HK := Lib.hid hK
                    clear hK hdep e22
                    go_simp
                    exact HK.out _ _ _ rfl ⟨rfl, rfl⟩
                  rcases j with _ | j
                  · simp only [List.getElem?_toArray, List.getElem?_cons_succ, List.getElem?_cons_zero, Option.some.injEq, Nat.zero_add] at ho
                    subst ho
                    have e34 : vs 34 = .slice (some ad) L.length c := hdep 34 rfl
                    have e35 : vs 35 = .int .i64 (b : Int) := hdep 35 rfl
                    have e22 : vs 22 = .bool true := hdep 22 rfl
                    have hA := HA2.out
                    have hl := hltc'
                    
                    refine .inl ⟨(by simp only [putFrom, Act.put, List.setIfInBounds_toArray, List.set_cons_succ, List.set_cons_zero, Nat.reduceAdd, e22]; rfl), fun K Q hK => ?_⟩
                    simp only [putFrom, Act.put, List.setIfInBounds_toArray, List.set_cons_succ, List.set_cons_zero, Nat.reduceAdd, e34, e35] at hK ⊢
                    have HK := Lib.hid hK
                    clear hK hdep e22 e34 e35
                    go_simp
                    exact HK.out _ _ _ rfl ⟨rfl, rfl⟩
                  rcases j with _ | j
                  · simp only [List.getElem?_toArray, List.getElem?_cons_succ, List.getElem?_cons_zero, Option.some.injEq, Nat.zero_add] at ho
                    subst ho
                    have e36 : vs 36 = .pointer (some ⟨g2, o2, none⟩) := hdep 36 rfl
                    have e22 : vs 22 = .bool true := hdep 22 rfl
                    
                    refine .inl ⟨(by simp only [putFrom, Act.put, List.setIfInBounds_toArray, List.set_cons_succ, List.set_cons_zero, Nat.reduceAdd, e22]; rfl), fun K Q hK => ?_⟩
                    simp only [putFrom, Act.put, List.setIfInBounds_toArray, List.set_cons_succ, List.set_cons_zero, Nat.reduceAdd, e36] at hK ⊢
                    have HK := Lib.hid hK
                    clear hK hdep e22 e36
                    go_simp
                    exact HK.out _ _ _ rfl ⟨rfl, rfl⟩
                  rcases j with _ | j
                  · simp only [List.getElem?_toArray, List.getElem?_cons_succ, List.getElem?_cons_zero, Option.some.injEq, Nat.zero_add] at ho
                    subst ho
                    have e37 : vs 37 = .pointer (some ⟨g2, o2 + 1, none⟩) := hdep 37 rfl
                    have e22 : vs 22 = .bool true := hdep 22 rfl
                    have hc := H21.out
                    
                    refine .inl ⟨(by simp only [putFrom, Act.put, List.setIfInBounds_toArray, List.set_cons_succ, List.set_cons_zero, Nat.reduceAdd, e22]; rfl), fun K Q hK => ?_⟩
                    simp only [putFrom, Act.put, List.setIfInBounds_toArray, List.set_cons_succ, List.set_cons_zero, Nat.reduceAdd, e37] at hK ⊢
                    have HK := Lib.hid hK
                    clear hK hdep e22 e37
                    go_simp
                    exact HK.out _ _ _ rfl ⟨rfl, rfl⟩
                  rcases j with _ | j
                  · simp only [List.getElem?_toArray, List.getElem?_cons_succ, List.getElem?_cons_zero, Option.some.injEq, Nat.zero_add] at ho
                    subst ho
                    have e30 : vs 30 = .int .i64 p := hdep 30 rfl
                    have e38 : vs 38 = .int .i64 q := hdep 38 rfl
                    have e22 : vs 22 = .bool true := hdep 22 rfl
                    have hb := HPQ.out
                    
                    refine .inl ⟨(by simp only [putFrom, Act.put, List.setIfInBounds_toArray, List.set_cons_succ, List.set_cons_zero, Nat.reduceAdd, e22]; rfl), fun K Q hK => ?_⟩
                    simp only [putFrom, Act.put, List.setIfInBounds_toArray, List.set_cons_succ, List.set_cons_zero, Nat.reduceAdd, e30, e38] at hK ⊢
                    have HK := Lib.hid hK
                    clear hK hdep e22 e30 e38
                    go_simp
                    exact HK.out _ _ _ rfl ⟨rfl, rfl⟩
                  rcases j with _ | j
                  · simp only [List.getElem?_toArray, List.getElem?_cons_succ, List.getElem?_cons_zero, Option.some.injEq, Nat.zero_add] at ho
                    subst ho
                    have e22 : vs 22 = .bool true := hdep 22 rfl
                    have e39 : vs 39 = .bool false := hdep 39 rfl
                    
                    refine .inl ⟨rfl, fun K Q hK => ?_⟩
                    simp only [putFrom, Act.put, List.setIfInBounds_toArray, List.set_cons_succ, List.set_cons_zero, Nat.reduceAdd, e22, e39] at hK ⊢
                    have HK := Lib.hid hK
                    clear hK hdep e22 e39
                    go_simp
                    exact HK.out _ _ _ rfl ⟨rfl, rfl⟩
                  exact absurd ho (by simp)
                · subst hI
                  clear hwd
                  have e0 : vs 0 = .pointer (some ⟨r, 0, none⟩) := hR 0 (by decide)
                  have e1 : vs 1 = .pointer (some ⟨r, 0, none⟩) := hR 1 (by decide)
                  have e2 : vs 2 = .pointer (some ⟨r, 2, none⟩) := hR 2 (by decide)
                  have e3 : vs 3 = .slice (some ad) L.length c := hR 3 (by decide)
                  have e4 : vs 4 = .int .i64 (a : Int) := hR 4 (by decide)
                  have e5 : vs 5 = .pointer (some ⟨g1, o1, none⟩) := hR 5 (by decide)
                  have e6 : vs 6 = .pointer (some ⟨g1, o1, none⟩) := hR 6 (by decide)
                  have e7 : vs 7 = .int .i64 x := hR 7 (by decide)
                  have e8 : vs 8 = .int .i64 k := hR 8 (by decide)
                  have e9 : vs 9 = .bool true := hR 9 (by decide)
                  have e10 : vs 10 = .bool true := hR 10 (by decide)
                  have e11 : vs 11 = .pointer (some ⟨r, 0, none⟩) := hR 11 (by decide)
                  have e12 : vs 12 = .pointer (some ⟨r, 0, none⟩) := hR 12 (by decide)
                  have e13 : vs 13 = .pointer (some ⟨r, 2, none⟩) := hR 13 (by decide)
                  have e14 : vs 14 = .slice (some ad) L.length c := hR 14 (by decide)
                  have e15 : vs 15 = .int .i64 (b : Int) := hR 15 (by decide)
                  have e16 : vs 16 = .pointer (some ⟨g2, o2, none⟩) := hR 16 (by decide)
                  have e17 : vs 17 = .pointer (some ⟨g2, o2, none⟩) := hR 17 (by decide)
                  have e18 : vs 18 = .int .i64 y := hR 18 (by decide)
                  have e19 : vs 19 = .int .i64 k := hR 19 (by decide)
                  have e20 : vs 20 = .bool true := hR 20 (by decide)
                  have e21 : vs 21 = .bool true := hR 21 (by decide)
                  have e22 : vs 22 = .bool true := hR 22 (by decide)
                  have e23 : vs 23 = .pointer (some ⟨r, 0, none⟩) := hR 23 (by decide)
                  have e24 : vs 24 = .pointer (some ⟨r, 0, none⟩) := hR 24 (by decide)
                  have e25 : vs 25 = .pointer (some ⟨r, 2, none⟩) := hR 25 (by decide)
                  have e26 : vs 26 = .slice (some ad) L.length c := hR 26 (by decide)
                  have e27 : vs 27 = .int .i64 (a : Int) := hR 27 (by decide)
                  have e28 : vs 28 = .pointer (some ⟨g1, o1, none⟩) := hR 28 (by decide)
                  have e29 : vs 29 = .pointer (some ⟨g1, o1 + 1, none⟩) := hR 29 (by decide)
                  have e30 : vs 30 = .int .i64 p := hR 30 (by decide)
                  have e31 : vs 31 = .pointer (some ⟨r, 0, none⟩) := hR 31 (by decide)
                  have e32 : vs 32 = .pointer (some ⟨r, 0, none⟩) := hR 32 (by decide)
                  have e33 : vs 33 = .pointer (some ⟨r, 2, none⟩) := hR 33 (by decide)
                  have e34 : vs 34 = .slice (some ad) L.length c := hR 34 (by decide)
                  have e35 : vs 35 = .int .i64 (b : Int) := hR 35 (by decide)
                  have e36 : vs 36 = .pointer (some ⟨g2, o2, none⟩) := hR 36 (by decide)
                  have e37 : vs 37 = .pointer (some ⟨g2, o2 + 1, none⟩) := hR 37 (by decide)
                  have e38 : vs 38 = .int .i64 q := hR 38 (by decide)
                  have e39 : vs 39 = .bool false := hR 39 (by decide)
                  have e40 : vs 40 = .bool false := hR 40 (by decide)
                  clear hR
                  simp only [putFrom, Act.put, List.setIfInBounds_toArray, List.set_cons_succ, List.set_cons_zero, Nat.reduceAdd, e0, e1, e2, e3, e4, e5, e6, e7, e8, e9, e10, e11, e12, e13, e14, e15, e16, e17, e18, e19, e20, e21, e22, e23, e24, e25, e26, e27, e28, e29, e30, e31, e32, e33, e34, e35, e36, e37, e38, e39, e40]
                  clear e0 e1 e2 e3 e4 e5 e6 e7 e8 e9 e10 e11 e12 e13 e14 e15 e16 e17 e18 e19 e20 e21 e22 e23 e24 e25 e26 e27 e28 e29 e30 e31 e32 e33 e34 e35 e36 e37 e38 e39 e40
                  go_wp2
                  go_roundw
                  case rel => exact ⟨b + 1, by go_num, by omega, HN.out, HRD.out, HBD.out⟩
                  case measure => simp [intOf]; omega
            · have HN := Lib.hid (HS.out (fun hd => hy (HD.out.1 hd).2.1))
              have hy' : (y == k) = false := by simpa using hy
              clear HD HS
              go_wp2_with fail
              obtain ⟨wd, hwd⟩ : ∃ wd : World, wd = wr.drew := ⟨_, rfl⟩
              rw [← hwd] at HRD HBD
              (try rw [← hwd] at hfin)
              have HC2 := Lib.hid (HRD.out.c2)
              have H10 : Hid (wd.cell? ⟨g1, o1, none⟩ = some (.int .i64 x)) := Lib.hid (by rw [hwd]; exact h10)
              have H11 : Hid (wd.cell? ⟨g1, o1 + 1, none⟩ = some (.int .i64 p)) := Lib.hid (by rw [hwd]; exact h11)
              have H20 : Hid (wd.cell? ⟨g2, o2, none⟩ = some (.int .i64 y)) := Lib.hid (by rw [hwd]; exact h20)
              have H21 : Hid (wd.cell? ⟨g2, o2 + 1, none⟩ = some (.int .i64 q)) := Lib.hid (by rw [hwd]; exact h21)
              have HA1 := Lib.hid hA1
              have HA2 := Lib.hid hA2
              clear hA1 hA2 h10 h11 h20 h21 hc2
              have HX := Lib.hid (show (x == k) = true by simpa using hx); have HY0 := Lib.hid hy'
              clear hx hy hy'
              refine wp_region_inv 62 (fun j v _ => v = ([.pointer (some ⟨r, 0, none⟩), .pointer (some ⟨r, 0, none⟩), .pointer (some ⟨r, 2, none⟩), .slice (some ad) L.length c, .int .i64 (a : Int), .pointer (some ⟨g1, o1, none⟩), .pointer (some ⟨g1, o1, none⟩), .int .i64 x, .int .i64 k, .bool true, .bool true, .pointer (some ⟨r, 0, none⟩), .pointer (some ⟨r, 0, none⟩), .pointer (some ⟨r, 2, none⟩), .slice (some ad) L.length c, .int .i64 (b : Int), .pointer (some ⟨g2, o2, none⟩), .pointer (some ⟨g2, o2, none⟩), .int .i64 y, .int .i64 k, .bool false, .bool false, .bool false, undef, undef, undef, undef, undef, undef, undef, undef, undef, undef, undef, undef, undef, undef, undef, undef, undef, .bool false] : List Value).getD j undef) (· = wd) (fun _ W W' => W = W') (by kernel_rfl) (by rfl) (by kernel_rfl) (fun _ _ _ _ _ _ _ _ _ hR => hR) (fun _ _ _ e h => e.symm.trans h) hwd.symm (fun j o ho vs W hI hdep => ?_) (fun vs W hI hR => ?_)
              · subst hI
                clear hwd
                rcases j with _ | j
                · simp only [List.getElem?_toArray, List.getElem?_cons_zero, Option.some.injEq] at ho
                  subst ho
                  refine .inl ⟨rfl, fun K Q hK => ?_⟩
                  simp only [putFrom, Act.put, List.setIfInBounds_toArray, List.set_cons_succ, List.set_cons_zero, Nat.reduceAdd] at hK ⊢
                  have HK := Lib.hid hK
                  clear hK hdep 
                  go_simp
                  exact HK.out _ _ _ rfl ⟨rfl, rfl⟩
                rcases j with _ | j
                · simp only [List.getElem?_toArray, List.getElem?_cons_succ, List.getElem?_cons_zero, Option.some.injEq, Nat.zero_add] at ho
                  subst ho
                  have e0 : vs 0 = .pointer (some ⟨r, 0, none⟩) := hdep 0 rfl
                  
                  refine .inl ⟨rfl, fun K Q hK => ?_⟩
                  simp only [putFrom, Act.put, List.setIfInBounds_toArray, List.set_cons_succ, List.set_cons_zero, Nat.reduceAdd, e0] at hK ⊢
                  have HK := Lib.hid hK
                  clear hK hdep e0
                  go_simp
                  exact HK.out _ _ _ rfl ⟨rfl, rfl⟩
                rcases j with _ | j
                · simp only [List.getElem?_toArray, List.getElem?_cons_succ, List.getElem?_cons_zero, Option.some.injEq, Nat.zero_add] at ho
                  subst ho
                  have e1 : vs 1 = .pointer (some ⟨r, 0, none⟩) := hdep 1 rfl
                  
                  refine .inl ⟨rfl, fun K Q hK => ?_⟩
                  simp only [putFrom, Act.put, List.setIfInBounds_toArray, List.set_cons_succ, List.set_cons_zero, Nat.reduceAdd, e1] at hK ⊢
                  have HK := Lib.hid hK
                  clear hK hdep e1
                  go_simp
                  exact HK.out _ _ _ rfl ⟨rfl, rfl⟩
                rcases j with _ | j
                · simp only [List.getElem?_toArray, List.getElem?_cons_succ, List.getElem?_cons_zero, Option.some.injEq, Nat.zero_add] at ho
                  subst ho
                  have e2 : vs 2 = .pointer (some ⟨r, 2, none⟩) := hdep 2 rfl
                  have hc := HC2.out
                  
                  refine .inl ⟨rfl, fun K Q hK => ?_⟩
                  simp only [putFrom, Act.put, List.setIfInBounds_toArray, List.set_cons_succ, List.set_cons_zero, Nat.reduceAdd, e2] at hK ⊢
                  have HK := Lib.hid hK
                  clear hK hdep e2
                  go_simp
                  exact HK.out _ _ _ rfl ⟨rfl, rfl⟩
                rcases j with _ | j
                · simp only [List.getElem?_toArray, List.getElem?_cons_succ, List.getElem?_cons_zero, Option.some.injEq, Nat.zero_add] at ho
                  subst ho
                  refine .inl ⟨rfl, fun K Q hK => ?_⟩
                  simp only [putFrom, Act.put, List.setIfInBounds_toArray, List.set_cons_succ, List.set_cons_zero, Nat.reduceAdd] at hK ⊢
                  have HK := Lib.hid hK
                  clear hK hdep 
                  go_simp
                  exact HK.out _ _ _ rfl ⟨rfl, rfl⟩
                rcases j with _ | j
                · simp only [List.getElem?_toArray, List.getElem?_cons_succ, List.getElem?_cons_zero, Option.some.injEq, Nat.zero_add] at ho
                  subst ho
                  have e3 : vs 3 = .slice (some ad) L.length c := hdep 3 rfl
                  have e4 : vs 4 = .int .i64 (a : Int) := hdep 4 rfl
                  have hA := HA1.out
                  have hl := hlt'
                  
                  refine .inl ⟨rfl, fun K Q hK => ?_⟩
                  simp only [putFrom, Act.put, List.setIfInBounds_toArray, List.set_cons_succ, List.set_cons_zero, Nat.reduceAdd, e3, e4] at hK ⊢
                  have HK := Lib.hid hK
                  clear hK hdep e3 e4
                  go_simp
                  exact HK.out _ _ _ rfl ⟨rfl, rfl⟩
                rcases j with _ | j
                · simp only [List.getElem?_toArray, List.getElem?_cons_succ, List.getElem?_cons_zero, Option.some.injEq, Nat.zero_add] at ho
                  subst ho
                  have e5 : vs 5 = .pointer (some ⟨g1, o1, none⟩) := hdep 5 rfl
                  
                  refine .inl ⟨rfl, fun K Q hK => ?_⟩
                  simp only [putFrom, Act.put, List.setIfInBounds_toArray, List.set_cons_succ, List.set_cons_zero, Nat.reduceAdd, e5] at hK ⊢
                  have HK := Lib.hid hK
                  clear hK hdep e5
                  go_simp
                  exact HK.out _ _ _ rfl ⟨rfl, rfl⟩
                rcases j with _ | j
                · simp only [List.getElem?_toArray, List.getElem?_cons_succ, List.getElem?_cons_zero, Option.some.injEq, Nat.zero_add] at ho
                  subst ho
                  have e6 : vs 6 = .pointer (some ⟨g1, o1, none⟩) := hdep 6 rfl
                  have hc := H10.out
                  
                  refine .inl ⟨rfl, fun K Q hK => ?_⟩
                  simp only [putFrom, Act.put, List.setIfInBounds_toArray, List.set_cons_succ, List.set_cons_zero, Nat.reduceAdd, e6] at hK ⊢
                  have HK := Lib.hid hK
                  clear hK hdep e6
                  go_simp
                  exact HK.out _ _ _ rfl ⟨rfl, rfl⟩
                rcases j with _ | j
                · simp only [List.getElem?_toArray, List.getElem?_cons_succ, List.getElem?_cons_zero, Option.some.injEq, Nat.zero_add] at ho
                  subst ho
                  refine .inl ⟨rfl, fun K Q hK => ?_⟩
                  simp only [putFrom, Act.put, List.setIfInBounds_toArray, List.set_cons_succ, List.set_cons_zero, Nat.reduceAdd] at hK ⊢
                  have HK := Lib.hid hK
                  clear hK hdep 
                  go_simp
                  exact HK.out _ _ _ rfl ⟨rfl, rfl⟩
                rcases j with _ | j
                · simp only [List.getElem?_toArray, List.getElem?_cons_succ, List.getElem?_cons_zero, Option.some.injEq, Nat.zero_add] at ho
                  subst ho
                  have e7 : vs 7 = .int .i64 x := hdep 7 rfl
                  have e8 : vs 8 = .int .i64 k := hdep 8 rfl
                  have hb := HX.out
                  
                  refine .inl ⟨rfl, fun K Q hK => ?_⟩
                  simp only [putFrom, Act.put, List.setIfInBounds_toArray, List.set_cons_succ, List.set_cons_zero, Nat.reduceAdd, e7, e8] at hK ⊢
                  have HK := Lib.hid hK
                  clear hK hdep e7 e8
                  go_simp
                  exact HK.out _ _ _ rfl ⟨rfl, rfl⟩
                rcases j with _ | j
                · simp only [List.getElem?_toArray, List.getElem?_cons_succ, List.getElem?_cons_zero, Option.some.injEq, Nat.zero_add] at ho
                  subst ho
                  have e9 : vs 9 = .bool true := hdep 9 rfl
                  
                  refine .inl ⟨rfl, fun K Q hK => ?_⟩
                  simp only [putFrom, Act.put, List.setIfInBounds_toArray, List.set_cons_succ, List.set_cons_zero, Nat.reduceAdd, e9] at hK ⊢
                  have HK := Lib.hid hK
                  clear hK hdep e9
                  go_simp
                  exact HK.out _ _ _ rfl ⟨rfl, rfl⟩
                rcases j with _ | j
                · simp only [List.getElem?_toArray, List.getElem?_cons_succ, List.getElem?_cons_zero, Option.some.injEq, Nat.zero_add] at ho
                  subst ho
                  have e10 : vs 10 = .bool true := hdep 10 rfl
                  
                  refine .inl ⟨(by simp only [putFrom, Act.put, List.setIfInBounds_toArray, List.set_cons_succ, List.set_cons_zero, Nat.reduceAdd, e10]; rfl), fun K Q hK => ?_⟩
                  simp only [putFrom, Act.put, List.setIfInBounds_toArray, List.set_cons_succ, List.set_cons_zero, Nat.reduceAdd] at hK ⊢
                  have HK := Lib.hid hK
                  clear hK hdep e10
                  go_simp
                  exact HK.out _ _ _ rfl ⟨rfl, rfl⟩
                rcases j with _ | j
                · simp only [List.getElem?_toArray, List.getElem?_cons_succ, List.getElem?_cons_zero, Option.some.injEq, Nat.zero_add] at ho
                  subst ho
                  have e11 : vs 11 = .pointer (some ⟨r, 0, none⟩) := hdep 11 rfl
                  have e10 : vs 10 = .bool true := hdep 10 rfl
                  
                  refine .inl ⟨(by simp only [putFrom, Act.put, List.setIfInBounds_toArray, List.set_cons_succ, List.set_cons_zero, Nat.reduceAdd, e10]; rfl), fun K Q hK => ?_⟩
                  simp only [putFrom, Act.put, List.setIfInBounds_toArray, List.set_cons_succ, List.set_cons_zero, Nat.reduceAdd, e11] at hK ⊢
                  have HK := Lib.hid hK
                  clear hK hdep e10 e11
                  go_simp
                  exact HK.out _ _ _ rfl ⟨rfl, rfl⟩
                rcases j with _ | j
                · simp only [List.getElem?_toArray, List.getElem?_cons_succ, List.getElem?_cons_zero, Option.some.injEq, Nat.zero_add] at ho
                  subst ho
                  have e12 : vs 12 = .pointer (some ⟨r, 0, none⟩) := hdep 12 rfl
                  have e10 : vs 10 = .bool true := hdep 10 rfl
                  
                  refine .inl ⟨(by simp only [putFrom, Act.put, List.setIfInBounds_toArray, List.set_cons_succ, List.set_cons_zero, Nat.reduceAdd, e10]; rfl), fun K Q hK => ?_⟩
                  simp only [putFrom, Act.put, List.setIfInBounds_toArray, List.set_cons_succ, List.set_cons_zero, Nat.reduceAdd, e12] at hK ⊢
                  have HK := Lib.hid hK
                  clear hK hdep e10 e12
                  go_simp
                  exact HK.out _ _ _ rfl ⟨rfl, rfl⟩
                rcases j with _ | j
                · simp only [List.getElem?_toArray, List.getElem?_cons_succ, List.getElem?_cons_zero, Option.some.injEq, Nat.zero_add] at ho
                  subst ho
                  have e13 : vs 13 = .pointer (some ⟨r, 2, none⟩) := hdep 13 rfl
                  have e10 : vs 10 = .bool true := hdep 10 rfl
                  have hc := HC2.out
                  
                  refine .inl ⟨(by simp only [putFrom, Act.put, List.setIfInBounds_toArray, List.set_cons_succ, List.set_cons_zero, Nat.reduceAdd, e10]; rfl), fun K Q hK => ?_⟩
                  simp only [putFrom, Act.put, List.setIfInBounds_toArray, List.set_cons_succ, List.set_cons_zero, Nat.reduceAdd, e13] at hK ⊢
                  have HK := Lib.hid hK
                  clear hK hdep e10 e13
                  go_simp
                  exact HK.out _ _ _ rfl ⟨rfl, rfl⟩
                rcases j with _ | j
                · simp only [List.getElem?_toArray, List.getElem?_cons_succ, List.getElem?_cons_zero, Option.some.injEq, Nat.zero_add] at ho
                  subst ho
                  have e10 : vs 10 = .bool true := hdep 10 rfl
                  
                  refine .inl ⟨(by simp only [putFrom, Act.put, List.setIfInBounds_toArray, List.set_cons_succ, List.set_cons_zero, Nat.reduceAdd, e10]; rfl), fun K Q hK => ?_⟩
                  simp only [putFrom, Act.put, List.setIfInBounds_toArray, List.set_cons_succ, List.set_cons_zero, Nat.reduceAdd] at hK ⊢
                  have HK := Lib.hid hK
                  clear hK hdep e10
                  go_simp
                  exact HK.out _ _ _ rfl ⟨rfl, rfl⟩
                rcases j with _ | j
                · simp only [List.getElem?_toArray, List.getElem?_cons_succ, List.getElem?_cons_zero, Option.some.injEq, Nat.zero_add] at ho
                  subst ho
                  have e14 : vs 14 = .slice (some ad) L.length c := hdep 14 rfl
                  have e15 : vs 15 = .int .i64 (b : Int) := hdep 15 rfl
                  have e10 : vs 10 = .bool true := hdep 10 rfl
                  have hA := HA2.out
                  have hl := hltc'
                  
                  refine .inl ⟨(by simp only [putFrom, Act.put, List.setIfInBounds_toArray, List.set_cons_succ, List.set_cons_zero, Nat.reduceAdd, e10]; rfl), fun K Q hK => ?_⟩
                  simp only [putFrom, Act.put, List.setIfInBounds_toArray, List.set_cons_succ, List.set_cons_zero, Nat.reduceAdd, e14, e15] at hK ⊢
                  have HK := Lib.hid hK
                  clear hK hdep e10 e14 e15
                  go_simp
                  exact HK.out _ _ _ rfl ⟨rfl, rfl⟩
                rcases j with _ | j
                · simp only [List.getElem?_toArray, List.getElem?_cons_succ, List.getElem?_cons_zero, Option.some.injEq, Nat.zero_add] at ho
                  subst ho
                  have e16 : vs 16 = .pointer (some ⟨g2, o2, none⟩) := hdep 16 rfl
                  have e10 : vs 10 = .bool true := hdep 10 rfl
                  
                  refine .inl ⟨(by simp only [putFrom, Act.put, List.setIfInBounds_toArray, List.set_cons_succ, List.set_cons_zero, Nat.reduceAdd, e10]; rfl), fun K Q hK => ?_⟩
                  simp only [putFrom, Act.put, List.setIfInBounds_toArray, List.set_cons_succ, List.set_cons_zero, Nat.reduceAdd, e16] at hK ⊢
                  have HK := Lib.hid hK
                  clear hK hdep e10 e16
                  go_simp
                  exact HK.out _ _ _ rfl ⟨rfl, rfl⟩
                rcases j with _ | j
                · simp only [List.getElem?_toArray, List.getElem?_cons_succ, List.getElem?_cons_zero, Option.some.injEq, Nat.zero_add] at ho
                  subst ho
                  have e17 : vs 17 = .pointer (some ⟨g2, o2, none⟩) := hdep 17 rfl
                  have e10 : vs 10 = .bool true := hdep 10 rfl
                  have hc := H20.out
                  
                  refine .inl ⟨(by simp only [putFrom, Act.put, List.setIfInBounds_toArray, List.set_cons_succ, List.set_cons_zero, Nat.reduceAdd, e10]; rfl), fun K Q hK => ?_⟩
                  simp only [putFrom, Act.put, List.setIfInBounds_toArray, List.set_cons_succ, List.set_cons_zero, Nat.reduceAdd, e17] at hK ⊢
                  have HK := Lib.hid hK
                  clear hK hdep e10 e17
                  go_simp
                  exact HK.out _ _ _ rfl ⟨rfl, rfl⟩
                rcases j with _ | j
                · simp only [List.getElem?_toArray, List.getElem?_cons_succ, List.getElem?_cons_zero, Option.some.injEq, Nat.zero_add] at ho
                  subst ho
                  have e10 : vs 10 = .bool true := hdep 10 rfl
                  
                  refine .inl ⟨(by simp only [putFrom, Act.put, List.setIfInBounds_toArray, List.set_cons_succ, List.set_cons_zero, Nat.reduceAdd, e10]; rfl), fun K Q hK => ?_⟩
                  simp only [putFrom, Act.put, List.setIfInBounds_toArray, List.set_cons_succ, List.set_cons_zero, Nat.reduceAdd] at hK ⊢
                  have HK := Lib.hid hK
                  clear hK hdep e10
                  go_simp
                  exact HK.out _ _ _ rfl ⟨rfl, rfl⟩
                rcases j with _ | j
                · simp only [List.getElem?_toArray, List.getElem?_cons_succ, List.getElem?_cons_zero, Option.some.injEq, Nat.zero_add] at ho
                  subst ho
                  have e18 : vs 18 = .int .i64 y := hdep 18 rfl
                  have e19 : vs 19 = .int .i64 k := hdep 19 rfl
                  have e10 : vs 10 = .bool true := hdep 10 rfl
                  have hb := HY0.out
                  
                  refine .inl ⟨(by simp only [putFrom, Act.put, List.setIfInBounds_toArray, List.set_cons_succ, List.set_cons_zero, Nat.reduceAdd, e10]; rfl), fun K Q hK => ?_⟩
                  simp only [putFrom, Act.put, List.setIfInBounds_toArray, List.set_cons_succ, List.set_cons_zero, Nat.reduceAdd, e18, e19] at hK ⊢
                  have HK := Lib.hid hK
                  clear hK hdep e10 e18 e19
                  go_simp
                  exact HK.out _ _ _ rfl ⟨rfl, rfl⟩
                rcases j with _ | j
                · simp only [List.getElem?_toArray, List.getElem?_cons_succ, List.getElem?_cons_zero, Option.some.injEq, Nat.zero_add] at ho
                  subst ho
                  have e10 : vs 10 = .bool true := hdep 10 rfl
                  have e20 : vs 20 = .bool false := hdep 20 rfl
                  
                  refine .inl ⟨rfl, fun K Q hK => ?_⟩
                  simp only [putFrom, Act.put, List.setIfInBounds_toArray, List.set_cons_succ, List.set_cons_zero, Nat.reduceAdd, e10, e20] at hK ⊢
                  have HK := Lib.hid hK
                  clear hK hdep e10 e20
                  go_simp
                  exact HK.out _ _ _ rfl ⟨rfl, rfl⟩
                rcases j with _ | j
                · simp only [List.getElem?_toArray, List.getElem?_cons_succ, List.getElem?_cons_zero, Option.some.injEq, Nat.zero_add] at ho
                  subst ho
                  have e21 : vs 21 = .bool false := hdep 21 rfl
                  
                  refine .inl ⟨rfl, fun K Q hK => ?_⟩
                  simp only [putFrom, Act.put, List.setIfInBounds_toArray, List.set_cons_succ, List.set_cons_zero, Nat.reduceAdd, e21] at hK ⊢
                  have HK := Lib.hid hK
                  clear hK hdep e21
                  go_simp
                  exact HK.out _ _ _ rfl ⟨rfl, rfl⟩
                rcases j with _ | j
                · simp only [List.getElem?_toArray, List.getElem?_cons_succ, List.getElem?_cons_zero, Option.some.injEq, Nat.zero_add] at ho
                  subst ho
                  have e22 : vs 22 = .bool false := hdep 22 rfl
                  exact .inr ⟨by simp only [putFrom, Act.put, List.setIfInBounds_toArray, List.set_cons_succ, List.set_cons_zero, Nat.reduceAdd, e22]; rfl, rfl, rfl⟩
                rcases j with _ | j
                · simp only [List.getElem?_toArray, List.getElem?_cons_succ, List.getElem?_cons_zero, Option.some.injEq, Nat.zero_add] at ho
                  subst ho
                  have e22 : vs 22 = .bool false := hdep 22 rfl
                  exact .inr ⟨by simp only [putFrom, Act.put, List.setIfInBounds_toArray, List.set_cons_succ, List.set_cons_zero, Nat.reduceAdd, e22]; rfl, rfl, rfl⟩
                rcases j with _ | j
                · simp only [List.getElem?_toArray, List.getElem?_cons_succ, List.getElem?_cons_zero, Option.some.injEq, Nat.zero_add] at ho
                  subst ho
                  have e22 : vs 22 = .bool false := hdep 22 rfl
                  exact .inr ⟨by simp only [putFrom, Act.put, List.setIfInBounds_toArray, List.set_cons_succ, List.set_cons_zero, Nat.reduceAdd, e22]; rfl, rfl, rfl⟩
                rcases j with _ | j
                · simp only [List.getElem?_toArray, List.getElem?_cons_succ, List.getElem?_cons_zero, Option.some.injEq, Nat.zero_add] at ho
                  subst ho
                  have e22 : vs 22 = .bool false := hdep 22 rfl
                  exact .inr ⟨by simp only [putFrom, Act.put, List.setIfInBounds_toArray, List.set_cons_succ, List.set_cons_zero, Nat.reduceAdd, e22]; rfl, rfl, rfl⟩
                rcases j with _ | j
                · simp only [List.getElem?_toArray, List.getElem?_cons_succ, List.getElem?_cons_zero, Option.some.injEq, Nat.zero_add] at ho
                  subst ho
                  have e22 : vs 22 = .bool false := hdep 22 rfl
                  exact .inr ⟨by simp only [putFrom, Act.put, List.setIfInBounds_toArray, List.set_cons_succ, List.set_cons_zero, Nat.reduceAdd, e22]; rfl, rfl, rfl⟩
                rcases j with _ | j
                · simp only [List.getElem?_toArray, List.getElem?_cons_succ, List.getElem?_cons_zero, Option.some.injEq, Nat.zero_add] at ho
                  subst ho
                  have e22 : vs 22 = .bool false := hdep 22 rfl
                  exact .inr ⟨by simp only [putFrom, Act.put, List.setIfInBounds_toArray, List.set_cons_succ, List.set_cons_zero, Nat.reduceAdd, e22]; rfl, rfl, rfl⟩
                rcases j with _ | j
                · simp only [List.getElem?_toArray, List.getElem?_cons_succ, List.getElem?_cons_zero, Option.some.injEq, Nat.zero_add] at ho
                  subst ho
                  have e22 : vs 22 = .bool false := hdep 22 rfl
                  exact .inr ⟨by simp only [putFrom, Act.put, List.setIfInBounds_toArray, List.set_cons_succ, List.set_cons_zero, Nat.reduceAdd, e22]; rfl, rfl, rfl⟩
                rcases j with _ | j
                · simp only [List.getElem?_toArray, List.getElem?_cons_succ, List.getElem?_cons_zero, Option.some.injEq, Nat.zero_add] at ho
                  subst ho
                  have e22 : vs 22 = .bool false := hdep 22 rfl
                  exact .inr ⟨by simp only [putFrom, Act.put, List.setIfInBounds_toArray, List.set_cons_succ, List.set_cons_zero, Nat.reduceAdd, e22]; rfl, rfl, rfl⟩
                rcases j with _ | j
                · simp only [List.getElem?_toArray, List.getElem?_cons_succ, List.getElem?_cons_zero, Option.some.injEq, Nat.zero_add] at ho
                  subst ho
                  have e22 : vs 22 = .bool false := hdep 22 rfl
                  exact .inr ⟨by simp only [putFrom, Act.put, List.setIfInBounds_toArray, List.set_cons_succ, List.set_cons_zero, Nat.reduceAdd, e22]; rfl, rfl, rfl⟩
                rcases j with _ | j
                · simp only [List.getElem?_toArray, List.getElem?_cons_succ, List.getElem?_cons_zero, Option.some.injEq, Nat.zero_add] at ho
                  subst ho
                  have e22 : vs 22 = .bool false := hdep 22 rfl
                  exact .inr ⟨by simp only [putFrom, Act.put, List.setIfInBounds_toArray, List.set_cons_succ, List.set_cons_zero, Nat.reduceAdd, e22]; rfl, rfl, rfl⟩
                rcases j with _ | j
                · simp only [List.getElem?_toArray, List.getElem?_cons_succ, List.getElem?_cons_zero, Option.some.injEq, Nat.zero_add] at ho
                  subst ho
                  have e22 : vs 22 = .bool false := hdep 22 rfl
                  exact .inr ⟨by simp only [putFrom, Act.put, List.setIfInBounds_toArray, List.set_cons_succ, List.set_cons_zero, Nat.reduceAdd, e22]; rfl, rfl, rfl⟩
                rcases j with _ | j
                · simp only [List.getElem?_toArray, List.getElem?_cons_succ, List.getElem?_cons_zero, Option.some.injEq, Nat.zero_add] at ho
                  subst ho
                  have e22 : vs 22 = .bool false := hdep 22 rfl
                  exact .inr ⟨by simp only [putFrom, Act.put, List.setIfInBounds_toArray, List.set_cons_succ, List.set_cons_zero, Nat.reduceAdd, e22]; rfl, rfl, rfl⟩
                rcases j with _ | j
                · simp only [List.getElem?_toArray, List.getElem?_cons_succ, List.getElem?_cons_zero, Option.some.injEq, Nat.zero_add] at ho
                  subst ho
                  have e22 : vs 22 = .bool false := hdep 22 rfl
                  exact .inr ⟨by simp only [putFrom, Act.put, List.setIfInBounds_toArray, List.set_cons_succ, List.set_cons_zero, Nat.reduceAdd, e22]; rfl, rfl, rfl⟩
                rcases j with _ | j
                · simp only [List.getElem?_toArray, List.getElem?_cons_succ, List.getElem?_cons_zero, Option.some.injEq, Nat.zero_add] at ho
                  subst ho
                  have e22 : vs 22 = .bool false := hdep 22 rfl
                  exact .inr ⟨by simp only [putFrom, Act.put, List.setIfInBounds_toArray, List.set_cons_succ, List.set_cons_zero, Nat.reduceAdd, e22]; rfl, rfl, rfl⟩
                rcases j with _ | j
                · simp only [List.getElem?_toArray, List.getElem?_cons_succ, List.getElem?_cons_zero, Option.some.injEq, Nat.zero_add] at ho
                  subst ho
                  have e22 : vs 22 = .bool false := hdep 22 rfl
                  exact .inr ⟨by simp only [putFrom, Act.put, List.setIfInBounds_toArray, List.set_cons_succ, List.set_cons_zero, Nat.reduceAdd, e22]; rfl, rfl, rfl⟩
                rcases j with _ | j
                · simp only [List.getElem?_toArray, List.getElem?_cons_succ, List.getElem?_cons_zero, Option.some.injEq, Nat.zero_add] at ho
                  subst ho
                  have e22 : vs 22 = .bool false := hdep 22 rfl
                  exact .inr ⟨by simp only [putFrom, Act.put, List.setIfInBounds_toArray, List.set_cons_succ, List.set_cons_zero, Nat.reduceAdd, e22]; rfl, rfl, rfl⟩
                rcases j with _ | j
                · simp only [List.getElem?_toArray, List.getElem?_cons_succ, List.getElem?_cons_zero, Option.some.injEq, Nat.zero_add] at ho
                  subst ho
                  have e22 : vs 22 = .bool false := hdep 22 rfl
                  exact .inr ⟨by simp only [putFrom, Act.put, List.setIfInBounds_toArray, List.set_cons_succ, List.set_cons_zero, Nat.reduceAdd, e22]; rfl, rfl, rfl⟩
                rcases j with _ | j
                · simp only [List.getElem?_toArray, List.getElem?_cons_succ, List.getElem?_cons_zero, Option.some.injEq, Nat.zero_add] at ho
                  subst ho
                  have e22 : vs 22 = .bool false := hdep 22 rfl
                  have e39 : vs 39 = undef := hdep 39 rfl
                  
                  refine .inl ⟨rfl, fun K Q hK => ?_⟩
                  simp only [putFrom, Act.put, List.setIfInBounds_toArray, List.set_cons_succ, List.set_cons_zero, Nat.reduceAdd, e22, e39] at hK ⊢
                  have HK := Lib.hid hK
                  clear hK hdep e22 e39
                  go_simp
                  exact HK.out _ _ _ rfl ⟨rfl, rfl⟩
                exact absurd ho (by simp)
              · subst hI
                clear hwd
                have e0 : vs 0 = .pointer (some ⟨r, 0, none⟩) := hR 0 (by decide)
                have e1 : vs 1 = .pointer (some ⟨r, 0, none⟩) := hR 1 (by decide)
                have e2 : vs 2 = .pointer (some ⟨r, 2, none⟩) := hR 2 (by decide)
                have e3 : vs 3 = .slice (some ad) L.length c := hR 3 (by decide)
                have e4 : vs 4 = .int .i64 (a : Int) := hR 4 (by decide)
                have e5 : vs 5 = .pointer (some ⟨g1, o1, none⟩) := hR 5 (by decide)
                have e6 : vs 6 = .pointer (some ⟨g1, o1, none⟩) := hR 6 (by decide)
                have e7 : vs 7 = .int .i64 x := hR 7 (by decide)
                have e8 : vs 8 = .int .i64 k := hR 8 (by decide)
                have e9 : vs 9 = .bool true := hR 9 (by decide)
                have e10 : vs 10 = .bool true := hR 10 (by decide)
                have e11 : vs 11 = .pointer (some ⟨r, 0, none⟩) := hR 11 (by decide)
                have e12 : vs 12 = .pointer (some ⟨r, 0, none⟩) := hR 12 (by decide)
                have e13 : vs 13 = .pointer (some ⟨r, 2, none⟩) := hR 13 (by decide)
                have e14 : vs 14 = .slice (some ad) L.length c := hR 14 (by decide)
                have e15 : vs 15 = .int .i64 (b : Int) := hR 15 (by decide)
                have e16 : vs 16 = .pointer (some ⟨g2, o2, none⟩) := hR 16 (by decide)
                have e17 : vs 17 = .pointer (some ⟨g2, o2, none⟩) := hR 17 (by decide)
                have e18 : vs 18 = .int .i64 y := hR 18 (by decide)
                have e19 : vs 19 = .int .i64 k := hR 19 (by decide)
                have e20 : vs 20 = .bool false := hR 20 (by decide)
                have e21 : vs 21 = .bool false := hR 21 (by decide)
                have e22 : vs 22 = .bool false := hR 22 (by decide)
                have e23 : vs 23 = undef := hR 23 (by decide)
                have e24 : vs 24 = undef := hR 24 (by decide)
                have e25 : vs 25 = undef := hR 25 (by decide)
                have e26 : vs 26 = undef := hR 26 (by decide)
                have e27 : vs 27 = undef := hR 27 (by decide)
                have e28 : vs 28 = undef := hR 28 (by decide)
                have e29 : vs 29 = undef := hR 29 (by decide)
                have e30 : vs 30 = undef := hR 30 (by decide)
                have e31 : vs 31 = undef := hR 31 (by decide)
                have e32 : vs 32 = undef := hR 32 (by decide)
                have e33 : vs 33 = undef := hR 33 (by decide)
                have e34 : vs 34 = undef := hR 34 (by decide)
                have e35 : vs 35 = undef := hR 35 (by decide)
                have e36 : vs 36 = undef := hR 36 (by decide)
                have e37 : vs 37 = undef := hR 37 (by decide)
                have e38 : vs 38 = undef := hR 38 (by decide)
                have e39 : vs 39 = undef := hR 39 (by decide)
                have e40 : vs 40 = .bool false := hR 40 (by decide)
                clear hR
                simp only [putFrom, Act.put, List.setIfInBounds_toArray, List.set_cons_succ, List.set_cons_zero, Nat.reduceAdd, e0, e1, e2, e3, e4, e5, e6, e7, e8, e9, e10, e11, e12, e13, e14, e15, e16, e17, e18, e19, e20, e21, e22, e23, e24, e25, e26, e27, e28, e29, e30, e31, e32, e33, e34, e35, e36, e37, e38, e39, e40]
                clear e0 e1 e2 e3 e4 e5 e6 e7 e8 e9 e10 e11 e12 e13 e14 e15 e16 e17 e18 e19 e20 e21 e22 e23 e24 e25 e26 e27 e28 e29 e30 e31 e32 e33 e34 e35 e36 e37 e38 e39 e40
                go_wp2
                go_roundw
                case rel => exact ⟨b + 1, by go_num, by omega, HN.out, HRD.out, HBD.out⟩
                case measure => simp [intOf]; omega
          · have HN := Lib.hid (HS.out (fun hd => hx (HD.out.1 hd).1))
            have hx' : (x == k) = false := by simpa using hx
            clear HD HS
            go_wp2_with fail
            obtain ⟨wd, hwd⟩ : ∃ wd : World, wd = wr.drew := ⟨_, rfl⟩
            rw [← hwd] at HRD HBD
            (try rw [← hwd] at hfin)
            have HC2 := Lib.hid (HRD.out.c2)
            have H10 : Hid (wd.cell? ⟨g1, o1, none⟩ = some (.int .i64 x)) := Lib.hid (by rw [hwd]; exact h10)
            have H11 : Hid (wd.cell? ⟨g1, o1 + 1, none⟩ = some (.int .i64 p)) := Lib.hid (by rw [hwd]; exact h11)
            have H20 : Hid (wd.cell? ⟨g2, o2, none⟩ = some (.int .i64 y)) := Lib.hid (by rw [hwd]; exact h20)
            have H21 : Hid (wd.cell? ⟨g2, o2 + 1, none⟩ = some (.int .i64 q)) := Lib.hid (by rw [hwd]; exact h21)
            have HA1 := Lib.hid hA1
            have HA2 := Lib.hid hA2
            clear hA1 hA2 h10 h11 h20 h21 hc2
            have HX := Lib.hid hx'
            clear hx hx'
            refine wp_region_inv 62 (fun j v _ => v = ([.pointer (some ⟨r, 0, none⟩), .pointer (some ⟨r, 0, none⟩), .pointer (some ⟨r, 2, none⟩), .slice (some ad) L.length c, .int .i64 (a : Int), .pointer (some ⟨g1, o1, none⟩), .pointer (some ⟨g1, o1, none⟩), .int .i64 x, .int .i64 k, .bool false, .bool false, undef, undef, undef, undef, undef, undef, undef, undef, undef, undef, .bool false, .bool false, undef, undef, undef, undef, undef, undef, undef, undef, undef, undef, undef, undef, undef, undef, undef, undef, undef, .bool false] : List Value).getD j undef) (· = wd) (fun _ W W' => W = W') (by kernel_rfl) (by rfl) (by kernel_rfl) (fun _ _ _ _ _ _ _ _ _ hR => hR) (fun _ _ _ e h => e.symm.trans h) hwd.symm (fun j o ho vs W hI hdep => ?_) (fun vs W hI hR => ?_)
            · subst hI
              clear hwd
              rcases j with _ | j
              · simp only [List.getElem?_toArray, List.getElem?_cons_zero, Option.some.injEq] at ho
                subst ho
                refine .inl ⟨rfl, fun K Q hK => ?_⟩
                simp only [putFrom, Act.put, List.setIfInBounds_toArray, List.set_cons_succ, List.set_cons_zero, Nat.reduceAdd] at hK ⊢
                have HK := Lib.hid hK
                clear hK hdep 
                go_simp
                exact HK.out _ _ _ rfl ⟨rfl, rfl⟩
              rcases j with _ | j
              · simp only [List.getElem?_toArray, List.getElem?_cons_succ, List.getElem?_cons_zero, Option.some.injEq, Nat.zero_add] at ho
                subst ho
                have e0 : vs 0 = .pointer (some ⟨r, 0, none⟩) := hdep 0 rfl
                
                refine .inl ⟨rfl, fun K Q hK => ?_⟩
                simp only [putFrom, Act.put, List.setIfInBounds_toArray, List.set_cons_succ, List.set_cons_zero, Nat.reduceAdd, e0] at hK ⊢
                have HK := Lib.hid hK
                clear hK hdep e0
                go_simp
                exact HK.out _ _ _ rfl ⟨rfl, rfl⟩
              rcases j with _ | j
              · simp only [List.getElem?_toArray, List.getElem?_cons_succ, List.getElem?_cons_zero, Option.some.injEq, Nat.zero_add] at ho
                subst ho
                have e1 : vs 1 = .pointer (some ⟨r, 0, none⟩) := hdep 1 rfl
                
                refine .inl ⟨rfl, fun K Q hK => ?_⟩
                simp only [putFrom, Act.put, List.setIfInBounds_toArray, List.set_cons_succ, List.set_cons_zero, Nat.reduceAdd, e1] at hK ⊢
                have HK := Lib.hid hK
                clear hK hdep e1
                go_simp
                exact HK.out _ _ _ rfl ⟨rfl, rfl⟩
              rcases j with _ | j
              · simp only [List.getElem?_toArray, List.getElem?_cons_succ, List.getElem?_cons_zero, Option.some.injEq, Nat.zero_add] at ho
                subst ho
                have e2 : vs 2 = .pointer (some ⟨r, 2, none⟩) := hdep 2 rfl
                have hc := HC2.out
                
                refine .inl ⟨rfl, fun K Q hK => ?_⟩
                simp only [putFrom, Act.put, List.setIfInBounds_toArray, List.set_cons_succ, List.set_cons_zero, Nat.reduceAdd, e2] at hK ⊢
                have HK := Lib.hid hK
                clear hK hdep e2
                go_simp
                exact HK.out _ _ _ rfl ⟨rfl, rfl⟩
              rcases j with _ | j
              · simp only [List.getElem?_toArray, List.getElem?_cons_succ, List.getElem?_cons_zero, Option.some.injEq, Nat.zero_add] at ho
                subst ho
                refine .inl ⟨rfl, fun K Q hK => ?_⟩
                simp only [putFrom, Act.put, List.setIfInBounds_toArray, List.set_cons_succ, List.set_cons_zero, Nat.reduceAdd] at hK ⊢
                have HK := Lib.hid hK
                clear hK hdep 
                go_simp
                exact HK.out _ _ _ rfl ⟨rfl, rfl⟩
              rcases j with _ | j
              · simp only [List.getElem?_toArray, List.getElem?_cons_succ, List.getElem?_cons_zero, Option.some.injEq, Nat.zero_add] at ho
                subst ho
                have e3 : vs 3 = .slice (some ad) L.length c := hdep 3 rfl
                have e4 : vs 4 = .int .i64 (a : Int) := hdep 4 rfl
                have hA := HA1.out
                have hl := hlt'
                
                refine .inl ⟨rfl, fun K Q hK => ?_⟩
                simp only [putFrom, Act.put, List.setIfInBounds_toArray, List.set_cons_succ, List.set_cons_zero, Nat.reduceAdd, e3, e4] at hK ⊢
                have HK := Lib.hid hK
                clear hK hdep e3 e4
                go_simp
                exact HK.out _ _ _ rfl ⟨rfl, rfl⟩
              rcases j with _ | j
              · simp only [List.getElem?_toArray, List.getElem?_cons_succ, List.getElem?_cons_zero, Option.some.injEq, Nat.zero_add] at ho
                subst ho
                have e5 : vs 5 = .pointer (some ⟨g1, o1, none⟩) := hdep 5 rfl
                
                refine .inl ⟨rfl, fun K Q hK => ?_⟩
                simp only [putFrom, Act.put, List.setIfInBounds_toArray, List.set_cons_succ, List.set_cons_zero, Nat.reduceAdd, e5] at hK ⊢
                have HK := Lib.hid hK
                clear hK hdep e5
                go_simp
                exact HK.out _ _ _ rfl ⟨rfl, rfl⟩
              rcases j with _ | j
              · simp only [List.getElem?_toArray, List.getElem?_cons_succ, List.getElem?_cons_zero, Option.some.injEq, Nat.zero_add] at ho
                subst ho
                have e6 : vs 6 = .pointer (some ⟨g1, o1, none⟩) := hdep 6 rfl
                have hc := H10.out
                
                refine .inl ⟨rfl, fun K Q hK => ?_⟩
                simp only [putFrom, Act.put, List.setIfInBounds_toArray, List.set_cons_succ, List.set_cons_zero, Nat.reduceAdd, e6] at hK ⊢
                have HK := Lib.hid hK
                clear hK hdep e6
                go_simp
                exact HK.out _ _ _ rfl ⟨rfl, rfl⟩
              rcases j with _ | j
              · simp only [List.getElem?_toArray, List.getElem?_cons_succ, List.getElem?_cons_zero, Option.some.injEq, Nat.zero_add] at ho
                subst ho
                refine .inl ⟨rfl, fun K Q hK => ?_⟩
                simp only [putFrom, Act.put, List.setIfInBounds_toArray, List.set_cons_succ, List.set_cons_zero, Nat.reduceAdd] at hK ⊢
                have HK := Lib.hid hK
                clear hK hdep 
                go_simp
                exact HK.out _ _ _ rfl ⟨rfl, rfl⟩
              rcases j with _ | j
              · simp only [List.getElem?_toArray, List.getElem?_cons_succ, List.getElem?_cons_zero, Option.some.injEq, Nat.zero_add] at ho
                subst ho
                have e7 : vs 7 = .int .i64 x := hdep 7 rfl
                have e8 : vs 8 = .int .i64 k := hdep 8 rfl
                have hb := HX.out
                
                refine .inl ⟨rfl, fun K Q hK => ?_⟩
                simp only [putFrom, Act.put, List.setIfInBounds_toArray, List.set_cons_succ, List.set_cons_zero, Nat.reduceAdd, e7, e8] at hK ⊢
                have HK := Lib.hid hK
                clear hK hdep e7 e8
                go_simp
                exact HK.out _ _ _ rfl ⟨rfl, rfl⟩
              rcases j with _ | j
              · simp only [List.getElem?_toArray, List.getElem?_cons_succ, List.getElem?_cons_zero, Option.some.injEq, Nat.zero_add] at ho
                subst ho
                have e9 : vs 9 = .bool false := hdep 9 rfl
                
                refine .inl ⟨rfl, fun K Q hK => ?_⟩
                simp only [putFrom, Act.put, List.setIfInBounds_toArray, List.set_cons_succ, List.set_cons_zero, Nat.reduceAdd, e9] at hK ⊢
                have HK := Lib.hid hK
                clear hK hdep e9
                go_simp
                exact HK.out _ _ _ rfl ⟨rfl, rfl⟩
              rcases j with _ | j
              · simp only [List.getElem?_toArray, List.getElem?_cons_succ, List.getElem?_cons_zero, Option.some.injEq, Nat.zero_add] at ho
                subst ho
                have e10 : vs 10 = .bool false := hdep 10 rfl
                exact .inr ⟨by simp only [putFrom, Act.put, List.setIfInBounds_toArray, List.set_cons_succ, List.set_cons_zero, Nat.reduceAdd, e10]; rfl, rfl, rfl⟩
              rcases j with _ | j
              · simp only [List.getElem?_toArray, List.getElem?_cons_succ, List.getElem?_cons_zero, Option.some.injEq, Nat.zero_add] at ho
                subst ho
                have e10 : vs 10 = .bool false := hdep 10 rfl
                exact .inr ⟨by simp only [putFrom, Act.put, List.setIfInBounds_toArray, List.set_cons_succ, List.set_cons_zero, Nat.reduceAdd, e10]; rfl, rfl, rfl⟩
              rcases j with _ | j
              · simp only [List.getElem?_toArray, List.getElem?_cons_succ, List.getElem?_cons_zero, Option.some.injEq, Nat.zero_add] at ho
                subst ho
                have e10 : vs 10 = .bool false := hdep 10 rfl
                exact .inr ⟨by simp only [putFrom, Act.put, List.setIfInBounds_toArray, List.set_cons_succ, List.set_cons_zero, Nat.reduceAdd, e10]; rfl, rfl, rfl⟩
              rcases j with _ | j
              · simp only [List.getElem?_toArray, List.getElem?_cons_succ, List.getElem?_cons_zero, Option.some.injEq, Nat.zero_add] at ho
                subst ho
                have e10 : vs 10 = .bool false := hdep 10 rfl
                exact .inr ⟨by simp only [putFrom, Act.put, List.setIfInBounds_toArray, List.set_cons_succ, List.set_cons_zero, Nat.reduceAdd, e10]; rfl, rfl, rfl⟩
              rcases j with _ | j
              · simp only [List.getElem?_toArray, List.getElem?_cons_succ, List.getElem?_cons_zero, Option.some.injEq, Nat.zero_add] at ho
                subst ho
                have e10 : vs 10 = .bool false := hdep 10 rfl
                exact .inr ⟨by simp only [putFrom, Act.put, List.setIfInBounds_toArray, List.set_cons_succ, List.set_cons_zero, Nat.reduceAdd, e10]; rfl, rfl, rfl⟩
              rcases j with _ | j
              · simp only [List.getElem?_toArray, List.getElem?_cons_succ, List.getElem?_cons_zero, Option.some.injEq, Nat.zero_add] at ho
                subst ho
                have e10 : vs 10 = .bool false := hdep 10 rfl
                exact .inr ⟨by simp only [putFrom, Act.put, List.setIfInBounds_toArray, List.set_cons_succ, List.set_cons_zero, Nat.reduceAdd, e10]; rfl, rfl, rfl⟩
              rcases j with _ | j
              · simp only [List.getElem?_toArray, List.getElem?_cons_succ, List.getElem?_cons_zero, Option.some.injEq, Nat.zero_add] at ho
                subst ho
                have e10 : vs 10 = .bool false := hdep 10 rfl
                exact .inr ⟨by simp only [putFrom, Act.put, List.setIfInBounds_toArray, List.set_cons_succ, List.set_cons_zero, Nat.reduceAdd, e10]; rfl, rfl, rfl⟩
              rcases j with _ | j
              · simp only [List.getElem?_toArray, List.getElem?_cons_succ, List.getElem?_cons_zero, Option.some.injEq, Nat.zero_add] at ho
                subst ho
                have e10 : vs 10 = .bool false := hdep 10 rfl
                exact .inr ⟨by simp only [putFrom, Act.put, List.setIfInBounds_toArray, List.set_cons_succ, List.set_cons_zero, Nat.reduceAdd, e10]; rfl, rfl, rfl⟩
              rcases j with _ | j
              · simp only [List.getElem?_toArray, List.getElem?_cons_succ, List.getElem?_cons_zero, Option.some.injEq, Nat.zero_add] at ho
                subst ho
                have e10 : vs 10 = .bool false := hdep 10 rfl
                exact .inr ⟨by simp only [putFrom, Act.put, List.setIfInBounds_toArray, List.set_cons_succ, List.set_cons_zero, Nat.reduceAdd, e10]; rfl, rfl, rfl⟩
              rcases j with _ | j
              · simp only [List.getElem?_toArray, List.getElem?_cons_succ, List.getElem?_cons_zero, Option.some.injEq, Nat.zero_add] at ho
                subst ho
                have e10 : vs 10 = .bool false := hdep 10 rfl
                exact .inr ⟨by simp only [putFrom, Act.put, List.setIfInBounds_toArray, List.set_cons_succ, List.set_cons_zero, Nat.reduceAdd, e10]; rfl, rfl, rfl⟩
              rcases j with _ | j
              · simp only [List.getElem?_toArray, List.getElem?_cons_succ, List.getElem?_cons_zero, Option.some.injEq, Nat.zero_add] at ho
                subst ho
                have e10 : vs 10 = .bool false := hdep 10 rfl
                have e20 : vs 20 = undef := hdep 20 rfl
                
                refine .inl ⟨rfl, fun K Q hK => ?_⟩
                simp only [putFrom, Act.put, List.setIfInBounds_toArray, List.set_cons_succ, List.set_cons_zero, Nat.reduceAdd, e10, e20] at hK ⊢
                have HK := Lib.hid hK
                clear hK hdep e10 e20
                go_simp
                exact HK.out _ _ _ rfl ⟨rfl, rfl⟩
              rcases j with _ | j
              · simp only [List.getElem?_toArray, List.getElem?_cons_succ, List.getElem?_cons_zero, Option.some.injEq, Nat.zero_add] at ho
                subst ho
                have e21 : vs 21 = .bool false := hdep 21 rfl
                
                refine .inl ⟨rfl, fun K Q hK => ?_⟩
                simp only [putFrom, Act.put, List.setIfInBounds_toArray, List.set_cons_succ, List.set_cons_zero, Nat.reduceAdd, e21] at hK ⊢
                have HK := Lib.hid hK
                clear hK hdep e21
                go_simp
                exact HK.out _ _ _ rfl ⟨rfl, rfl⟩
              rcases j with _ | j
              · simp only [List.getElem?_toArray, List.getElem?_cons_succ, List.getElem?_cons_zero, Option.some.injEq, Nat.zero_add] at ho
                subst ho
                have e22 : vs 22 = .bool false := hdep 22 rfl
                exact .inr ⟨by simp only [putFrom, Act.put, List.setIfInBounds_toArray, List.set_cons_succ, List.set_cons_zero, Nat.reduceAdd, e22]; rfl, rfl, rfl⟩
              rcases j with _ | j
              · simp only [List.getElem?_toArray, List.getElem?_cons_succ, List.getElem?_cons_zero, Option.some.injEq, Nat.zero_add] at ho
                subst ho
                have e22 : vs 22 = .bool false := hdep 22 rfl
                exact .inr ⟨by simp only [putFrom, Act.put, List.setIfInBounds_toArray, List.set_cons_succ, List.set_cons_zero, Nat.reduceAdd, e22]; rfl, rfl, rfl⟩
              rcases j with _ | j
              · simp only [List.getElem?_toArray, List.getElem?_cons_succ, List.getElem?_cons_zero, Option.some.injEq, Nat.zero_add] at ho
                subst ho
                have e22 : vs 22 = .bool false := hdep 22 rfl
                exact .inr ⟨by simp only [putFrom, Act.put, List.setIfInBounds_toArray, List.set_cons_succ, List.set_cons_zero, Nat.reduceAdd, e22]; rfl, rfl, rfl⟩
              rcases j with _ | j
              · simp only [List.getElem?_toArray, List.getElem?_cons_succ, List.getElem?_cons_zero, Option.some.injEq, Nat.zero_add] at ho
                subst ho
                have e22 : vs 22 = .bool false := hdep 22 rfl
                exact .inr ⟨by simp only [putFrom, Act.put, List.setIfInBounds_toArray, List.set_cons_succ, List.set_cons_zero, Nat.reduceAdd, e22]; rfl, rfl, rfl⟩
              rcases j with _ | j
              · simp only [List.getElem?_toArray, List.getElem?_cons_succ, List.getElem?_cons_zero, Option.some.injEq, Nat.zero_add] at ho
                subst ho
                have e22 : vs 22 = .bool false := hdep 22 rfl
                exact .inr ⟨by simp only [putFrom, Act.put, List.setIfInBounds_toArray, List.set_cons_succ, List.set_cons_zero, Nat.reduceAdd, e22]; rfl, rfl, rfl⟩
              rcases j with _ | j
              · simp only [List.getElem?_toArray, List.getElem?_cons_succ, List.getElem?_cons_zero, Option.some.injEq, Nat.zero_add] at ho
                subst ho
                have e22 : vs 22 = .bool false := hdep 22 rfl
                exact .inr ⟨by simp only [putFrom, Act.put, List.setIfInBounds_toArray, List.set_cons_succ, List.set_cons_zero, Nat.reduceAdd, e22]; rfl, rfl, rfl⟩
              rcases j with _ | j
              · simp only [List.getElem?_toArray, List.getElem?_cons_succ, List.getElem?_cons_zero, Option.some.injEq, Nat.zero_add] at ho
                subst ho
                have e22 : vs 22 = .bool false := hdep 22 rfl
                exact .inr ⟨by simp only [putFrom, Act.put, List.setIfInBounds_toArray, List.set_cons_succ, List.set_cons_zero, Nat.reduceAdd, e22]; rfl, rfl, rfl⟩
              rcases j with _ | j
              · simp only [List.getElem?_toArray, List.getElem?_cons_succ, List.getElem?_cons_zero, Option.some.injEq, Nat.zero_add] at ho
                subst ho
                have e22 : vs 22 = .bool false := hdep 22 rfl
                exact .inr ⟨by simp only [putFrom, Act.put, List.setIfInBounds_toArray, List.set_cons_succ, List.set_cons_zero, Nat.reduceAdd, e22]; rfl, rfl, rfl⟩
              rcases j with _ | j
              · simp only [List.getElem?_toArray, List.getElem?_cons_succ, List.getElem?_cons_zero, Option.some.injEq, Nat.zero_add] at ho
                subst ho
                have e22 : vs 22 = .bool false := hdep 22 rfl
                exact .inr ⟨by simp only [putFrom, Act.put, List.setIfInBounds_toArray, List.set_cons_succ, List.set_cons_zero, Nat.reduceAdd, e22]; rfl, rfl, rfl⟩
              rcases j with _ | j
              · simp only [List.getElem?_toArray, List.getElem?_cons_succ, List.getElem?_cons_zero, Option.some.injEq, Nat.zero_add] at ho
                subst ho
                have e22 : vs 22 = .bool false := hdep 22 rfl
                exact .inr ⟨by simp only [putFrom, Act.put, List.setIfInBounds_toArray, List.set_cons_succ, List.set_cons_zero, Nat.reduceAdd, e22]; rfl, rfl, rfl⟩
              rcases j with _ | j
              · simp only [List.getElem?_toArray, List.getElem?_cons_succ, List.getElem?_cons_zero, Option.some.injEq, Nat.zero_add] at ho
                subst ho
                have e22 : vs 22 = .bool false := hdep 22 rfl
                exact .inr ⟨by simp only [putFrom, Act.put, List.setIfInBounds_toArray, List.set_cons_succ, List.set_cons_zero, Nat.reduceAdd, e22]; rfl, rfl, rfl⟩
              rcases j with _ | j
              · simp only [List.getElem?_toArray, List.getElem?_cons_succ, List.getElem?_cons_zero, Option.some.injEq, Nat.zero_add] at ho
                subst ho
                have e22 : vs 22 = .bool false := hdep 22 rfl
                exact .inr ⟨by simp only [putFrom, Act.put, List.setIfInBounds_toArray, List.set_cons_succ, List.set_cons_zero, Nat.reduceAdd, e22]; rfl, rfl, rfl⟩
              rcases j with _ | j
              · simp only [List.getElem?_toArray, List.getElem?_cons_succ, List.getElem?_cons_zero, Option.some.injEq, Nat.zero_add] at ho
                subst ho
                have e22 : vs 22 = .bool false := hdep 22 rfl
                exact .inr ⟨by simp only [putFrom, Act.put, List.setIfInBounds_toArray, List.set_cons_succ, List.set_cons_zero, Nat.reduceAdd, e22]; rfl, rfl, rfl⟩
              rcases j with _ | j
              · simp only [List.getElem?_toArray, List.getElem?_cons_succ, List.getElem?_cons_zero, Option.some.injEq, Nat.zero_add] at ho
                subst ho
                have e22 : vs 22 = .bool false := hdep 22 rfl
                exact .inr ⟨by simp only [putFrom, Act.put, List.setIfInBounds_toArray, List.set_cons_succ, List.set_cons_zero, Nat.reduceAdd, e22]; rfl, rfl, rfl⟩
              rcases j with _ | j
              · simp only [List.getElem?_toArray, List.getElem?_cons_succ, List.getElem?_cons_zero, Option.some.injEq, Nat.zero_add] at ho
                subst ho
                have e22 : vs 22 = .bool false := hdep 22 rfl
                exact .inr ⟨by simp only [putFrom, Act.put, List.setIfInBounds_toArray, List.set_cons_succ, List.set_cons_zero, Nat.reduceAdd, e22]; rfl, rfl, rfl⟩
              rcases j with _ | j
              · simp only [List.getElem?_toArray, List.getElem?_cons_succ, List.getElem?_cons_zero, Option.some.injEq, Nat.zero_add] at ho
                subst ho
                have e22 : vs 22 = .bool false := hdep 22 rfl
                exact .inr ⟨by simp only [putFrom, Act.put, List.setIfInBounds_toArray, List.set_cons_succ, List.set_cons_zero, Nat.reduceAdd, e22]; rfl, rfl, rfl⟩
              rcases j with _ | j
              · simp only [List.getElem?_toArray, List.getElem?_cons_succ, List.getElem?_cons_zero, Option.some.injEq, Nat.zero_add] at ho
                subst ho
                have e22 : vs 22 = .bool false := hdep 22 rfl
                exact .inr ⟨by simp only [putFrom, Act.put, List.setIfInBounds_toArray, List.set_cons_succ, List.set_cons_zero, Nat.reduceAdd, e22]; rfl, rfl, rfl⟩
              rcases j with _ | j
              · simp only [List.getElem?_toArray, List.getElem?_cons_succ, List.getElem?_cons_zero, Option.some.injEq, Nat.zero_add] at ho
                subst ho
                have e22 : vs 22 = .bool false := hdep 22 rfl
                have e39 : vs 39 = undef := hdep 39 rfl
                
                refine .inl ⟨rfl, fun K Q hK => ?_⟩
                simp only [putFrom, Act.put, List.setIfInBounds_toArray, List.set_cons_succ, List.set_cons_zero, Nat.reduceAdd, e22, e39] at hK ⊢
                have HK := Lib.hid hK
                clear hK hdep e22 e39
                go_simp
                exact HK.out _ _ _ rfl ⟨rfl, rfl⟩
              exact absurd ho (by simp)
            · subst hI
              clear hwd
              have e0 : vs 0 = .pointer (some ⟨r, 0, none⟩) := hR 0 (by decide)
              have e1 : vs 1 = .pointer (some ⟨r, 0, none⟩) := hR 1 (by decide)
              have e2 : vs 2 = .pointer (some ⟨r, 2, none⟩) := hR 2 (by decide)
              have e3 : vs 3 = .slice (some ad) L.length c := hR 3 (by decide)
              have e4 : vs 4 = .int .i64 (a : Int) := hR 4 (by decide)
              have e5 : vs 5 = .pointer (some ⟨g1, o1, none⟩) := hR 5 (by decide)
              have e6 : vs 6 = .pointer (some ⟨g1, o1, none⟩) := hR 6 (by decide)
              have e7 : vs 7 = .int .i64 x := hR 7 (by decide)
              have e8 : vs 8 = .int .i64 k := hR 8 (by decide)
              have e9 : vs 9 = .bool false := hR 9 (by decide)
              have e10 : vs 10 = .bool false := hR 10 (by decide)
              have e11 : vs 11 = undef := hR 11 (by decide)
              have e12 : vs 12 = undef := hR 12 (by decide)
              have e13 : vs 13 = undef := hR 13 (by decide)
              have e14 : vs 14 = undef := hR 14 (by decide)
              have e15 : vs 15 = undef := hR 15 (by decide)
              have e16 : vs 16 = undef := hR 16 (by decide)
              have e17 : vs 17 = undef := hR 17 (by decide)
              have e18 : vs 18 = undef := hR 18 (by decide)
              have e19 : vs 19 = undef := hR 19 (by decide)
              have e20 : vs 20 = undef := hR 20 (by decide)
              have e21 : vs 21 = .bool false := hR 21 (by decide)
              have e22 : vs 22 = .bool false := hR 22 (by decide)
              have e23 : vs 23 = undef := hR 23 (by decide)
              have e24 : vs 24 = undef := hR 24 (by decide)
              have e25 : vs 25 = undef := hR 25 (by decide)
              have e26 : vs 26 = undef := hR 26 (by decide)
              have e27 : vs 27 = undef := hR 27 (by decide)
              have e28 : vs 28 = undef := hR 28 (by decide)
              have e29 : vs 29 = undef := hR 29 (by decide)
              have e30 : vs 30 = undef := hR 30 (by decide)
              have e31 : vs 31 = undef := hR 31 (by decide)
              have e32 : vs 32 = undef := hR 32 (by decide)
              have e33 : vs 33 = undef := hR 33 (by decide)
              have e34 : vs 34 = undef := hR 34 (by decide)
              have e35 : vs 35 = undef := hR 35 (by decide)
              have e36 : vs 36 = undef := hR 36 (by decide)
              have e37 : vs 37 = undef := hR 37 (by decide)
              have e38 : vs 38 = undef := hR 38 (by decide)
              have e39 : vs 39 = undef := hR 39 (by decide)
              have e40 : vs 40 = .bool false := hR 40 (by decide)
              clear hR
              simp only [putFrom, Act.put, List.setIfInBounds_toArray, List.set_cons_succ, List.set_cons_zero, Nat.reduceAdd, e0, e1, e2, e3, e4, e5, e6, e7, e8, e9, e10, e11, e12, e13, e14, e15, e16, e17, e18, e19, e20, e21, e22, e23, e24, e25, e26, e27, e28, e29, e30, e31, e32, e33, e34, e35, e36, e37, e38, e39, e40]
              clear e0 e1 e2 e3 e4 e5 e6 e7 e8 e9 e10 e11 e12 e13 e14 e15 e16 e17 e18 e19 e20 e21 e22 e23 e24 e25 e26 e27 e28 e29 e30 e31 e32 e33 e34 e35 e36 e37 e38 e39 e40
              go_wp2
              go_roundw
              case rel => exact ⟨b + 1, by go_num, by omega, HN.out, HRD.out, HBD.out⟩
              case measure => simp [intOf]; omega
        · obtain rfl : b = a := by omega
          have hnext : ∀ a', a' < b + 1 → ∀ b', b' < a' → ¬ dup5 L k a' b' := fun a' ha' => by
            rcases Nat.lt_or_ge a' b with h | h
            · exact HNO.out a' h
            · obtain rfl : a' = b := by omega
              exact HNO2.out
          have HN := Lib.hid hnext
          clear hcells hnext
          go_wp2
          go_roundw
          case rel => exact ⟨b + 1, by go_num, by omega, HN.out, HRQ.out, HBQ.out⟩
          case measure => simp [intOf]; omega
    · obtain rfl : a = L.length := by omega
      have hno : ¬ reu5 L k := fun ⟨i, j, hj, hd⟩ => by
        have hi : i < L.length := hd.1
        exact HNO.out i hi j hj hd
      have HN := Lib.hid hno
      have hfin := HBR.out
      clear hcells hno
      go_wp2
      go_ret
      exact ⟨.inr ⟨HN.out, rfl⟩, hfin⟩
end Go.Proofs.YtkhbogccmngmmaaDoor
