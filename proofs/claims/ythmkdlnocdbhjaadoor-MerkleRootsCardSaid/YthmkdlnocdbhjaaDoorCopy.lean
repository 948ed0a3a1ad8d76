/- Writing into a block that is known whole: copy. -/
import Derived.Test.YthmkdlnocdbhjaaDoorBlk
import Derived.Laws.CopyOwn
import Derived.Lib.SliceRun
namespace Go.Proofs.YthmkdlnocdbhjaaDoor
open Go.RowKit

theorem grownBy_setRow (w : World) (g : Nat) (cs : Array Value) : w.grownBy (w.setRow g cs) (some g) :=
  ⟨rfl, rfl, rfl, by simp, fun k _ hne => by
    simp only [World.setRow, Array.getElem?_modify]
    rw [if_neg (fun e => hne (by rw [e]))]⟩
theorem grownBy_setCell_ (w : World) (g i : Nat) (v : Value) : w.grownBy (w.setCell ⟨g, i, none⟩ v) (some g) :=
  ⟨rfl, rfl, rfl, by simp [World.setCell], fun _ _ hne => heap_setCell_other _ _ _ _ (fun e => hne (by rw [e]))⟩
theorem splice_nil {α : Type} (L : List α) (o : Nat) : splice L o [] = L := by simp [splice]
theorem splice_one {α : Type} (L : List α) (o : Nat) (x : α) (h : o < L.length) : splice L o [x] = L.set o x := by
  rw [List.set_eq_take_append_cons_drop, if_pos h]; simp [splice]
theorem splice_cons {α : Type} (L : List α) (o : Nat) (x : α) (r : List α) (h : o + (x :: r).length ≤ L.length) : splice (L.set o x) (o + 1) r = splice L o (x :: r) := by
  simp only [List.length_cons] at h
  unfold splice
  have e1 : (L.set o x).take (o + 1) = L.take o ++ [x] := by
    rw [List.set_eq_take_append_cons_drop, if_pos (by omega), List.take_append, List.length_take, Nat.min_eq_left (by omega), List.take_of_length_le (by rw [List.length_take]; omega), show o + 1 - o = 1 from by omega]
    rfl
  have e2 : (L.set o x).drop (o + 1 + r.length) = L.drop (o + (x :: r).length) := by
    rw [List.drop_set_of_lt (by omega)]; simp only [List.length_cons]; congr 1; omega
  rw [e1, e2]; simp
theorem HB.setCells {g : Nat} {t : TypeId} : ∀ (vs : List Value) (o : Nat) (w : World) (cs : List Value), HB w g t cs → o + vs.length ≤ cs.length → HB (w.setCells g o vs) g t (splice cs o vs) ∧ w.grownBy (w.setCells g o vs) (some g)
  | [], o, w, cs, h, _ => ⟨by rw [splice_nil]; exact h, World.grownBy.refl w _⟩
  | v :: r, o, w, cs, h, hl => by
    have hl' : o + 1 + r.length ≤ (cs.set o v).length := by simp only [List.length_cons, List.length_set] at hl ⊢; omega
    obtain ⟨h1, h2⟩ := HB.setCells r (o + 1) (w.setCell ⟨g, o, none⟩ v) (cs.set o v) (h.set_ o v) hl'
    rw [splice_cons cs o v r hl] at h1
    exact ⟨h1, (grownBy_setCell_ w g o v).trans h2⟩

section
variable {P : Program} {w : World}
theorem wpList_copy_hb {ops : Array Oper} {rest : List Oper} {o : Oper} {a : Act} {Q : Exit → Act → World → Prop} (hgd : o.guard = none) (d s : Operand) (dT sT : TypeId)
    (ho : o.op = .call { callee := .builtin .copy, args := #[d, s], argTypes := #[dT, sT] }) (elem : TypeId) (hu : P.underlying dT = some (.slice elem)) (hsz : (P.info? elem).map (·.size) = some 1)
    (g off dLen dCap : Nat) (sp : Option Addr) (sLen sCap : Nat) (hd : a.eval d = .slice (some ⟨g, off, none⟩) dLen dCap) (hs : a.eval s = .slice sp sLen sCap)
    (cur : List Value) (t : TypeId) (hg : HB w g t cur) (B : Nat) (n : Nat) (cs : List Value) (hn : n = Nat.min sLen dLen) (hse : Sees w B 1 sp n cs)
    (hfit : off + n ≤ cur.length) (h1 : ∀ v ∈ cs, v.oneCell' = true)
    (h : ∀ w', HB w' g t (splice cur off cs) → w.grownBy w' (some g) → wpList P ops Q rest (a.put o.dst (goInt n)) w') :
    wpList P ops Q (o :: rest) a w := by
  have hlen : cs.length = n := by have := hse.len; omega
  rcases hse.2 with h0 | ⟨ad, rfl, _, hsrc⟩
  · subst h0
    obtain rfl : cs = [] := List.eq_nil_of_length_eq_zero hlen
    exact wpList_copy_nothing hgd d s dT sT ho elem hu hsz _ sp dLen dCap sLen sCap hd hs hn.symm (h w (by rw [splice_nil]; exact hg) (World.grownBy.refl w _))
  · refine wpList_copy_own hgd d s dT sT ho elem hu hsz g off dLen dCap ad sLen sCap hd hs cur.toArray t hg cs (by rw [hlen, hn]) hsrc (by simp; omega) h1 ?_
    rw [hlen]
    exact h _ (by simpa [splice, hlen] using hg.row (cur.take off ++ (cs ++ cur.drop (off + n))).toArray) (grownBy_setRow _ _ _)
end
end Go.Proofs.YthmkdlnocdbhjaaDoor
