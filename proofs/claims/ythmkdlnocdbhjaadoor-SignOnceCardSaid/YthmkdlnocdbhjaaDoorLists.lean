/- Slices of byte slices; append of what is seen onto a row of the call's own. -/
import Derived.Test.YthmkdlnocdbhjaaDoorPlain
import Derived.Laws.MakeOwn
import Derived.OwnWalk
import Derived.RegionTactic
namespace Go.Proofs.YthmkdlnocdbhjaaDoor
open Go.RowKit

def lenOf : Value → Nat | .slice _ n _ => n | _ => 0
/-- The slice values vs hold the byte lists ls, below block B. -/
def Lists (w : World) (B : Nat) (vs : List Value) (ls : List (List UInt8)) : Prop :=
  vs.length = ls.length ∧ ∀ (i : Nat) (l : List UInt8), ls[i]? = some l → ∃ (A : Option Addr) (c : Nat), vs[i]? = some (Value.slice A l.length c) ∧ l.length ≤ c ∧ c ≤ 9223372036854775807 ∧ Sees w B 1 A l.length (bys l)

section
variable {w w' : World} {B B' : Nat} {vs : List Value} {ls : List (List UInt8)}
theorem Lists.imp (h : Lists w B vs ls) (hs : ∀ A n xs, Sees w B 1 A n xs → Sees w' B' 1 A n xs) : Lists w' B' vs ls :=
  ⟨h.1, fun i l hl => by
    obtain ⟨A, c, h1, h2, h3, h4⟩ := h.2 i l hl
    exact ⟨A, c, h1, h2, h3, hs _ _ _ h4⟩⟩
theorem Lists.below (h : Lists w B vs ls) (hb : Below B w w') : Lists w' B vs ls := h.imp fun _ _ _ hs => hs.below hb
theorem Lists.wide (h : Lists w B vs ls) (hB : B ≤ B') : Lists w B' vs ls := h.imp fun _ _ _ hs => hs.wide hB
theorem Lists.nothing (w : World) (B : Nat) : Lists w B [] [] := ⟨rfl, fun i l h => by simp at h⟩
theorem Lists.snoc (h : Lists w B vs ls) {A : Option Addr} {c : Nat} {l : List UInt8} (hc : l.length ≤ c) (hm : c ≤ 9223372036854775807) (hs : Sees w B 1 A l.length (bys l)) :
    Lists w B (vs ++ [Value.slice A l.length c]) (ls ++ [l]) := by
  refine ⟨by simp [h.1], fun i x hx => ?_⟩
  rcases Nat.lt_or_ge i ls.length with hi | hi
  · rw [List.getElem?_append_left hi] at hx
    obtain ⟨A, c, h1, h2, h3, h4⟩ := h.2 i x hx
    exact ⟨A, c, by rw [List.getElem?_append_left (by rw [h.1]; exact hi)]; exact h1, h2, h3, h4⟩
  · rw [List.getElem?_append_right hi] at hx
    have hi0 : i = ls.length := by
      rcases Nat.eq_or_lt_of_le hi with e | e
      · exact e.symm
      · rw [List.getElem?_eq_none (by simp; omega)] at hx; cases hx
    subst hi0
    simp at hx
    subst hx
    exact ⟨A, c, by rw [← h.1]; simp, hc, hm, hs⟩
/-- List number k. -/
theorem Lists.at_ {k : Nat} (h : Lists w B vs ls) (hk : k < ls.length) : ∃ A c, vs[k]? = some (Value.slice A (ls[k]'hk).length c) ∧ (ls[k]'hk).length ≤ c ∧ c ≤ 9223372036854775807 ∧ Sees w B 1 A (ls[k]'hk).length (bys (ls[k]'hk)) :=
  h.2 k _ (List.getElem?_eq_getElem hk)
end

/-- The address, if any, lies in block L or behind. -/
def Newer (L : Nat) (A : Option Addr) : Prop := ∀ ad, A = some ad → L ≤ ad.block
/-- The slices lie in blocks of element type e, from block L on. -/
def Mine (w : World) (L : Nat) (e : TypeId) (vs : List Value) : Prop :=
  ∀ A n c, Value.slice A n c ∈ vs → ∀ ad : Addr, A = some ad → L ≤ ad.block ∧ ∃ cur z, w.heap[ad.block]? = some (.cells cur e z)
theorem Mine.nothing (w : World) (L : Nat) (e : TypeId) : Mine w L e [] := fun _ _ _ h => by simp at h
theorem own_type {w : World} {base : Nat} {e : TypeId} {size n : Nat} {v : Value} {xs : List Value} (h : w.ownsRow base e size v n xs) : ∀ g, v.ownBlock = some g → ∃ cur z, w.heap[g]? = some (.cells cur e z) := by
  intro g hg
  rcases h.2 with ⟨rfl, _⟩ | ⟨g', cap, cur, rfl, _, hh, _⟩
  · simp [Value.ownBlock] at hg
  · simp [Value.ownBlock] at hg
    subst hg
    exact ⟨_, _, hh⟩
theorem types_ne {w : World} {e e' : TypeId} {g g' : Nat} (h : ∃ cur z, w.heap[g]? = some (.cells cur e z)) (h' : ∃ cur z, w.heap[g']? = some (.cells cur e' z)) (hne : e ≠ e') : g ≠ g' := by
  rintro rfl
  obtain ⟨c1, z1, h1⟩ := h
  obtain ⟨c2, z2, h2⟩ := h'
  rw [h1] at h2
  injection h2 with h2
  injection h2 with _ h3
  exact hne h3
theorem lt_of_heap {w : World} {g : Nat} {o : Obj} (h : w.heap[g]? = some o) : g < w.heap.size := by
  rcases Nat.lt_or_ge g w.heap.size with hlt | hge
  · exact hlt
  · rw [Array.getElem?_eq_none hge] at h; cases h
theorem Mine.grown {w w' : World} {L : Nat} {e e' : TypeId} {vs : List Value} {r : Option Nat} (h : Mine w L e vs) (hg : w.grownBy w' r) (hr : ∀ g, r = some g → ∃ cur z, w.heap[g]? = some (.cells cur e' z)) (hne : e ≠ e') : Mine w' L e vs := by
  intro A n c hm ad hA
  obtain ⟨h1, cur, z, h2⟩ := h A n c hm ad hA
  refine ⟨h1, cur, z, ?_⟩
  rw [hg.block ad.block (lt_of_heap h2) (fun e1 => types_ne ⟨_, _, h2⟩ (hr _ e1.symm) hne rfl)]
  exact h2
theorem Mine.below {w w' : World} {L : Nat} {e : TypeId} {vs : List Value} (h : Mine w L e vs) (hb : Below w.heap.size w w') : Mine w' L e vs := by
  intro A n c hm ad hA
  obtain ⟨h1, cur, z, h2⟩ := h A n c hm ad hA
  exact ⟨h1, cur, z, by rw [hb.block _ (lt_of_heap h2)]; exact h2⟩
theorem Lists.grown {w w' : World} {B L : Nat} {e e' : TypeId} {vs : List Value} {ls : List (List UInt8)} {r : Option Nat} (h : Lists w B vs ls) (hm : Mine w L e vs) (hg : w.grownBy w' r) (hr : ∀ g, r = some g → ∃ cur z, w.heap[g]? = some (.cells cur e' z)) (hne : e ≠ e') : Lists w' B vs ls := by
  refine ⟨h.1, fun i l hl => ?_⟩
  obtain ⟨A, c, h1, h2, h3, h4⟩ := h.2 i l hl
  refine ⟨A, c, h1, h2, h3, h4.1, h4.2.imp id ?_⟩
  rintro ⟨ad, hA, hb, hx⟩
  obtain ⟨_, cur, z, hh⟩ := hm A _ c (List.mem_of_getElem? h1) ad hA
  refine ⟨ad, hA, hb, fun j u hu => (World.cell?_of_block ?_).trans (hx j u hu)⟩
  rw [add_block]
  exact hg.block ad.block (lt_of_heap hh) (fun e1 => types_ne ⟨_, _, hh⟩ (hr _ e1.symm) hne rfl)
theorem Mine.snoc {w : World} {L : Nat} {e : TypeId} {vs : List Value} {A : Option Addr} {n c : Nat} (h : Mine w L e vs) (hA : ∀ ad : Addr, A = some ad → L ≤ ad.block ∧ ∃ cur z, w.heap[ad.block]? = some (.cells cur e z)) : Mine w L e (vs ++ [.slice A n c]) := by
  intro A1 n1 c1 hm
  rcases List.mem_append.1 hm with h1 | h1
  · exact h _ _ _ h1
  · simp only [List.mem_singleton, Value.slice.injEq] at h1
    rw [h1.1]; exact hA
theorem own_below {w w' : World} {base : Nat} {e : TypeId} {size n : Nat} {v : Value} {xs : List Value} (h : w.ownsRow base e size v n xs) (hb : Below w.heap.size w w') : w'.ownsRow base e size v n xs :=
  h.kept (row := none) ⟨hb.os, hb.tape, hb.output, hb.size, fun k hk _ => hb.block k hk⟩ (by cases hv : v.ownBlock <;> simp)
theorem own_slice {w : World} {base : Nat} {e : TypeId} {size n : Nat} {v : Value} {xs : List Value} (h : w.ownsRow base e size v n xs) :
    ∃ A c, v = .slice A n c ∧ n ≤ c ∧ c ≤ 9223372036854775807 ∧ (∀ ad : Addr, A = some ad → base ≤ ad.block ∧ ∃ cur z, w.heap[ad.block]? = some (.cells cur e z)) ∧ Sees w w.heap.size size A n xs := by
  obtain ⟨h1, h2⟩ := h
  have hh : w.ownsRow base e size v n xs := ⟨h1, h2⟩
  rcases h2 with ⟨rfl, rfl⟩ | ⟨g, cap, cur, rfl, hb, hg, hnc, hm, _⟩
  · exact ⟨none, 0, rfl, Nat.le_refl _, by omega, (by intro _ h; cases h), Sees.of_own hh⟩
  · exact ⟨_, cap, rfl, hnc, (by unfold maxLen at hm; omega), (by intro ad e; injection e with e; subst e; exact ⟨hb, _, _, hg⟩), Sees.of_own hh⟩

section
variable {P : Program} (w : World)
theorem run_append_none (base : Nat) (t ty e : TypeId) (i : TypeInfo) (size : Nat) (ht : P.underlying t = some (.slice e)) (hi : P.info? e = some i)
    (v : Value) (n : Nat) (xs : List Value) (hown : w.ownsRow base e size v n xs) (c : Nat) : (Builtin.append_ #[t, t] ty #[v, .slice none 0 c]).run P w = .ok v w := by
  rcases hown.2 with ⟨hv, h0⟩ | ⟨g, cap, cur, hv, _, _, hnc, _⟩
  · subst hv
    simp [Builtin.append_, run_underlying ht, sizeOf, typeInfo, hi, Builtin.lenOf, Builtin.firstCells]
  · subst hv
    simp [Builtin.append_, run_underlying ht, sizeOf, typeInfo, hi, Builtin.lenOf, Builtin.firstCells, hnc, storeCells]

theorem run_append_sees (base : Nat) (t ty e : TypeId) (i : TypeInfo) (z : Value) (size bytes : Nat) (ht : P.underlying t = some (.slice e)) (hi : P.info? e = some i) (hz : i.zero = some z)
    (hsize : i.size = size) (hby : i.bytes = bytes) (hzs : z.cells.size = size) (hsz : 0 < size)
    (v : Value) (n : Nat) (xs : List Value) (hown : w.ownsRow base e size v n xs)
    (B : Nat) (A : Option Addr) (m c : Nat) (news : List Value) (hs : Sees w B size A m news) (h1 : ∀ u ∈ news, u.oneCell' = true)
    (h63 : n + m ≤ maxLen) (hbytes : (n + m) * bytes ≤ 140737488355328) (hbase : base ≤ w.heap.size) :
    ∃ v' w', (Builtin.append_ #[t, t] ty #[v, .slice A m c]).run P w = .ok v' w' ∧ w'.ownsRow base e size v' (n + m) (xs ++ news) ∧ w.grownBy w' v.ownBlock ∧ Moved w v.ownBlock v'.ownBlock := by
  have hnil : m = 0 → news = [] := fun h0 => List.eq_nil_of_length_eq_zero (by rw [hs.1, h0, Nat.zero_mul])
  have withAddr : ∀ ad : Addr, A = some ad → (∀ j u, news[j]? = some u → w.cell? (ad.add j) = some u) →
      ∃ v' w', (Builtin.append_ #[t, t] ty #[v, .slice A m c]).run P w = .ok v' w' ∧ w'.ownsRow base e size v' (n + m) (xs ++ news) ∧ w.grownBy w' v.ownBlock ∧ Moved w v.ownBlock v'.ownBlock := by
    intro ad e1 hc
    subst e1
    obtain ⟨v', w', hr, h2, h3, _, h5⟩ := run_append_own_at (P := P) w base t ty e i z size bytes ht hi hz hsize hby hzs hsz v n xs hown ad m c news hs.1 hc h1 h63 hbytes hbase
    exact ⟨v', w', hr, h2, h3, Moved.of_at h5 (Nat.le_refl _)⟩
  rcases hs.2 with h0 | ⟨ad, e1, _, hc⟩
  · have hn := hnil h0
    subst hn
    subst h0
    cases A with
    | none => exact ⟨v, w, run_append_none w base t ty e i size ht hi v n xs hown c, by simpa using hown, World.grownBy.refl w _, .inl rfl⟩
    | some ad => exact withAddr ad rfl fun j u hu => by simp at hu
  · exact withAddr ad e1 hc

theorem wpList_append_sees {ops : Array Oper} {rest : List Oper} {o : Oper} {a : Act} {Q : Exit → Act → World → Prop} (hgd : o.guard = none) (s x : Operand) (t : TypeId)
    (ho : o.op = .call { callee := .builtin .append, args := #[s, x], argTypes := #[t, t] })
    (base : Nat) (e : TypeId) (i : TypeInfo) (z : Value) (size bytes : Nat) (ht : P.underlying t = some (.slice e)) (hi : P.info? e = some i) (hz : i.zero = some z)
    (hsize : i.size = size) (hby : i.bytes = bytes) (hzs : z.cells.size = size) (hsz : 0 < size)
    (v : Value) (n : Nat) (xs : List Value) (hs : a.eval s = v) (hown : w.ownsRow base e size v n xs)
    (B : Nat) (A : Option Addr) (m c : Nat) (news : List Value) (hx : a.eval x = .slice A m c) (hse : Sees w B size A m news) (h1 : ∀ u ∈ news, u.oneCell' = true)
    (h63 : n + m ≤ maxLen) (hbytes : (n + m) * bytes ≤ 140737488355328) (hbase : base ≤ w.heap.size)
    (h : ∀ v' w', w'.ownsRow base e size v' (n + m) (xs ++ news) → w.grownBy w' v.ownBlock → Moved w v.ownBlock v'.ownBlock → wpList P ops Q rest (a.put o.dst v') w') : wpList P ops Q (o :: rest) a w := by
  refine wpList_plain hgd fun K hK => ?_
  obtain ⟨v', w', hr, h2, h3, h4⟩ := run_append_sees (P := P) w base t o.type e i z size bytes ht hi hz hsize hby hzs hsz v n xs hown B A m c news hse h1 h63 hbytes hbase
  unfold Oper.wp execOp
  simp only [ho, resolve, invoke, builtin, Sem.run_bind, Sem.run_pure, Result.andThen_ok, List.map_toArray, List.map_cons, List.map_nil, hs, hx, hr]
  exact hK _ _ (h v' w' h2 h3 h4)

/-- 'make([]T, 0, c)', elements of one cell. -/
theorem run_make_cap (t e : TypeId) (i : TypeInfo) (z : Value) (ht : P.underlying t = some (.slice e)) (hi : P.info? e = some i) (hz : i.zero = some z)
    (kl kc : IntKind) (c : Nat) (hbytes : i.bytes * c ≤ 281474976710656) (h63 : c ≤ 9223372036854775807) :
    (Instr.makeSlice t (.int kl 0) (.int kc (c : Int))).run P w = .ok (.slice (some ⟨w.heap.size, 0, none⟩) 0 c) (w.alloc (.cells (madeCells z.cells (c * i.size)) e)) := by
  have hb : (i.bytes : Int) * (c : Int) ≤ 281474976710656 := by
    have h : ((i.bytes * c : Nat) : Int) ≤ 281474976710656 := by omega
    rwa [Int.natCast_mul] at h
  have hr := run_make (P := P) w t e i z ht hi hz kl kc 0 c (by omega) (by omega) hb (by omega)
  simp only [Int.toNat_natCast, Int.toNat_zero] at hr
  exact hr
end
end Go.Proofs.YthmkdlnocdbhjaaDoor
