/- A ring of the document's (wapentakeref05) in memory; Made. -/
import Derived.Test.YtkhbogccmngmmaaDoorSgR
import Derived.IntWalk
namespace Go.Proofs.YtkhbogccmngmmaaDoor
open Go.RowKit

def sgC (s : Sg) : List Value := [.int .i64 s.1.1, .int .i64 s.1.2, .string (strB s.2)]
def sgCs (L : List Sg) : List Value := L.flatMap sgC
theorem sgCs_at : ∀ (L : List Sg) (i : Nat) (h : i < L.length) (j : Nat), j < 3 → (sgCs L)[i * 3 + j]? = (sgC (L[i]'h))[j]?
  | [], i, h, _, _ => by simp at h
  | s :: L, 0, _, j, hj => by
    simp only [sgCs, List.flatMap_cons, Nat.zero_mul, Nat.zero_add, List.getElem_cons_zero]
    rw [List.getElem?_append_left (by simp [sgC]; omega)]
  | s :: L, i + 1, h, j, hj => by
    have ih := sgCs_at L i (by simpa using h) j hj
    have e : (i + 1) * 3 + j = (sgC s).length + (i * 3 + j) := by simp [sgC]; omega
    simp only [sgCs, List.flatMap_cons] at ih ⊢
    rw [e, List.getElem?_append_right (by omega), Nat.add_sub_cancel_left]
    exact ih
theorem sgCs_len (L : List Sg) : (sgCs L).length = L.length * 3 := by
  induction L with
  | nil => rfl
  | cons s L ih =>
    have e : sgCs (s :: L) = sgC s ++ sgCs L := rfl
    rw [e, List.length_append, ih, List.length_cons, show (sgC s).length = 3 from rfl]; omega
theorem sgCs_snoc (L : List Sg) (s : Sg) : sgCs (L ++ [s]) = sgCs L ++ sgC s := by simp [sgCs]

/-- The ring in block r; its list is the call's own memory from base on. -/
structure Ring5 (w : World) (base r : Nat) (nk bud : Int) (v : Value) (L : List Sg) : Prop where
  ring : HB w r 118 [.int .i64 nk, .int .i64 bud, v]
  list : w.ownsRow base 127 3 v L.length (sgCs L)
section
variable {w w' : World} {base r : Nat} {nk bud : Int} {v : Value} {L : List Sg}
theorem Ring5.below (h : Ring5 w base r nk bud v L) (hb : Below w.heap.size w w') : Ring5 w' base r nk bud v L := ⟨h.ring.below hb h.ring.lt, own_below h.list hb⟩
theorem Ring5.drew (h : Ring5 w base r nk bud v L) : Ring5 w.drew base r nk bud v L := h.below (Below.drew (Below.refl _ _))
theorem Ring5.c0 (h : Ring5 w base r nk bud v L) : w.cell? ⟨r, 0, none⟩ = some (.int .i64 nk) := by rw [h.ring.cell]; rfl
theorem Ring5.c1 (h : Ring5 w base r nk bud v L) : w.cell? ⟨r, 1, none⟩ = some (.int .i64 bud) := by rw [h.ring.cell]; rfl
theorem Ring5.c2 (h : Ring5 w base r nk bud v L) : w.cell? ⟨r, 2, none⟩ = some v := by rw [h.ring.cell]; rfl
/-- The list as a slice; the cells of signing i. -/
theorem Ring5.slice (h : Ring5 w base r nk bud v L) : ∃ A c, v = .slice A L.length c ∧ L.length ≤ c ∧ c ≤ 9223372036854775807 ∧ ∀ i (hi : i < L.length), ∃ b o, A.map (·.add (i * 3)) = some ⟨b, o, none⟩ ∧ w.cell? ⟨b, o, none⟩ = some (.int .i64 (L[i]'hi).1.1) ∧ w.cell? ⟨b, o + 1, none⟩ = some (.int .i64 (L[i]'hi).1.2) ∧ w.cell? ⟨b, o + 2, none⟩ = some (.string (strB (L[i]'hi).2)) := by
  obtain ⟨A, c, e, h1, h2, _, h4⟩ := own_slice h.list
  refine ⟨A, c, e, h1, h2, fun i hi => ?_⟩
  obtain ⟨ad, rfl, -, hx⟩ := h4.some_ (by omega)
  have hc : ∀ j u, (sgC (L[i]'hi))[j]? = some u → w.cell? ((ad.add (i * 3)).add j) = some u := fun j u hu => by
    rw [add_add]
    refine hx _ u ?_
    rw [sgCs_at L i hi j (by rcases Nat.lt_or_ge j 3 with h | h; · exact h
                             · rw [List.getElem?_eq_none (by simp [sgC]; omega)] at hu; cases hu)]
    exact hu
  rcases hh : ad.add (i * 3) with ⟨b, o, z⟩
  rw [hh] at hc
  have h0 := hc 0 _ rfl
  rw [add_zero] at h0
  cases z with
  | none =>
    refine ⟨b, o, by simp [hh], h0, ?_, ?_⟩
    · have := hc 1 _ rfl; rw [Addr.add_mid] at this; exact this
    · have := hc 2 _ rfl; rw [Addr.add_mid] at this; exact this
  | some _ => simp only [World.cell?] at h0; split at h0 <;> simp at h0
end
/-- Signings of a key. -/
def cnt5 (L : List Sg) (k : Int) : Nat := L.countP (fun s => s.1.1 == k)
theorem cnt5_step (L : List Sg) (k : Int) (i : Nat) (h : i < L.length) : cnt5 (L.take (i + 1)) k = cnt5 (L.take i) k + if (L[i]'h).1.1 = k then 1 else 0 := by
  unfold cnt5
  rw [List.take_add_one, List.getElem?_eq_getElem h, Option.toList_some, List.countP_append, List.countP_singleton]
  simp only [beq_iff_eq]
theorem cnt5_le (L : List Sg) (k : Int) : cnt5 L k ≤ L.length := List.countP_le_length

set_option maxRecDepth 20000 in
set_option maxHeartbeats 3200000 in
theorem made5_any (w : World) (base r : Nat) (nk bud : Int) (v : Value) (L : List Sg) (h : Ring5 w base r nk bud v L) (k : Int) :
    Calls Tryd.prog 37 #[.pointer (some ⟨r, 0, none⟩), .int .i64 k] w fun e w' => e = .returned (.int .i64 (cnt5 L k : Int)) ∧ Below w.heap.size w w' := by
  have HR := Lib.hid h
  clear h
  go_enter Tryd.func37, Tryd.ntmps37
  go_wp2_with fail
  go_loopw [5, 6] (fun n i wr => ∃ j : Nat, n = .int .i64 (cnt5 (L.take j) k : Int) ∧ i = .int .i64 (j : Int) ∧ j ≤ L.length ∧ Ring5 wr base r nk bud v L ∧ Below w.heap.size w wr) (fun _ i _ => L.length - (intOf i).toNat)
  case atStart => exact ⟨0, rfl, rfl, by omega, HR.out, Below.refl _ _⟩
  case round =>
    obtain ⟨j, rfl, rfl, hj, hRr, hBr⟩ := hrel
    have HRR := Lib.hid hRr
    have HBR := Lib.hid hBr
    have hc2 := hRr.c2
    obtain ⟨A, c, rfl, hc, hcm, hcells⟩ := hRr.slice
    have hcl := cnt5_le (L.take j) k
    rw [List.length_take] at hcl
    clear hRr hBr HR
    rcases Nat.lt_or_ge j L.length with hlt | hge
    · have hlt' : (j : Int) < (L.length : Int) := by omega
      obtain ⟨b, o, hA, h0, -, -⟩ := hcells j hlt
      obtain ⟨ad, rfl⟩ : ∃ ad, A = some ad := by cases A with
        | none => simp at hA
        | some ad => exact ⟨ad, rfl⟩
      simp only [Option.map_some, Option.some.injEq] at hA
      have hst := cnt5_step L k j hlt
      have HST := Lib.hid hst
      have h63 : ((cnt5 (L.take j) k : Nat) : Int) < 9223372036854775807 := by omega
      clear hcells hst hcl
      generalize hcj : cnt5 (L.take j) k = m at *
      have HCJ := Lib.hid hcj
      clear hcj
      by_cases he : (L[j]'hlt).1.1 = k
      · have hst := HST.out
        rw [if_pos he] at hst
        have HST1 := Lib.hid hst
        rw [he] at h0
        clear hst he HST
        go_wp2
        go_roundw
        case rel => exact ⟨j + 1, by rw [HST1.out]; go_num, by go_num, by omega, HRR.out, HBR.out⟩
        case measure => simp [intOf]; omega
      · have hst := HST.out
        rw [if_neg he, Nat.add_zero] at hst
        have HST1 := Lib.hid hst
        have hne : ((L[j]'hlt).1.1 == k) = false := by simpa using he
        clear hst HST
        generalize (L[j]'hlt).1.1 = x at *
        go_wp2
        go_roundw
        case rel => exact ⟨j + 1, by rw [HST1.out, Nat.add_zero], by go_num, by omega, HRR.out, HBR.out⟩
        case measure => simp [intOf]; omega
    · obtain rfl : j = L.length := by omega
      rw [List.take_length] at *
      have hfin := HBR.out
      clear hcells hcl
      go_wp2
      go_ret
      exact ⟨rfl, hfin⟩
end Go.Proofs.YtkhbogccmngmmaaDoor
