/- Words of mine for memory: what lies behind a slice, what a row of the call's own has become. Plain lemmas; nothing of the program. -/
import Derived.Test.YthmkdlnocdbhjaaDoorRows
import Derived.WalkKit
import Derived.Maps.AppendAt
import Derived.Maps.Range
import Derived.Deep.AppendLies
import Derived.Deep.Draws
import Derived.Laws.OwnMore
import Derived.Laws.ShiftsVar
import Derived.Lib.Hide
import Derived.Lib.EndianBits
namespace Go.Proofs.YthmkdlnocdbhjaaDoor
open Go.RowKit

theorem add_block (a : Addr) (n : Nat) : (a.add n).block = a.block := by unfold Addr.add; split <;> rfl
theorem add_add (a : Addr) (i j : Nat) : (a.add i).add j = a.add (i + j) := by
  unfold Addr.add
  by_cases hi : i = 0 <;> by_cases hj : j = 0 <;> simp [hi, hj, Nat.add_assoc]
theorem add_zero (a : Addr) : a.add 0 = a := by simp [Addr.add]
theorem add_pos (a : Addr) (k : Nat) (h : 0 < k) : a.add k = ⟨a.block, a.off + k, none⟩ := by unfold Addr.add; rw [if_neg (by omega)]
theorem add_at (g i : Nat) : (⟨g, 0, none⟩ : Addr).add i = ⟨g, i, none⟩ := by unfold Addr.add; split <;> simp_all

/-- The n elements behind the address A, of 'size' cells each, are the cells xs; they lie below block B. -/
def Sees (w : World) (B size : Nat) (A : Option Addr) (n : Nat) (xs : List Value) : Prop :=
  xs.length = n * size ∧ (n = 0 ∨ ∃ ad, A = some ad ∧ ad.block < B ∧ ∀ j u, xs[j]? = some u → w.cell? (ad.add j) = some u)

/-- Where a row lies that was r: where it lay, or in a block that is new since w. -/
def Moved (w : World) (r r' : Option Nat) : Prop := r' = r ∨ ∃ g, r' = some g ∧ w.heap.size ≤ g

section
variable {w w' : World} {B B' size n : Nat} {A : Option Addr} {xs : List Value}

theorem Sees.len (h : Sees w B size A n xs) : xs.length = n * size := h.1
theorem Sees.nothing (w : World) (B size : Nat) (A : Option Addr) : Sees w B size A 0 [] := ⟨by simp, .inl rfl⟩
theorem Sees.map (h : Sees w B size A n xs) (hc : ∀ p : Addr, p.block < B → w'.cell? p = w.cell? p) : Sees w' B size A n xs := by
  refine ⟨h.1, h.2.imp id ?_⟩
  rintro ⟨ad, e, hb, hx⟩
  exact ⟨ad, e, hb, fun j u hu => (hc _ (by rw [add_block]; exact hb)).trans (hx j u hu)⟩
theorem Sees.wide (h : Sees w B size A n xs) (hB : B ≤ B') : Sees w B' size A n xs := by
  refine ⟨h.1, h.2.imp id ?_⟩
  rintro ⟨ad, e, hb, hx⟩
  exact ⟨ad, e, by omega, hx⟩
theorem Sees.below (h : Sees w B size A n xs) (hb : Below B w w') : Sees w' B size A n xs := h.map fun _ hp => hb.cell hp
theorem Sees.alloc (h : Sees w B size A n xs) (hB : B ≤ w.heap.size) (o : Obj) : Sees (w.alloc o) B size A n xs := h.map fun p hp => World.cell?_alloc_lt w o p (by omega)
theorem Sees.setCell (h : Sees w B size A n xs) {p : Addr} (hB : B ≤ p.block) (u : Value) : Sees (w.setCell p u) B size A n xs :=
  h.map fun q hq => World.cell?_setCell_other w p q u (fun e => by subst e; omega)
theorem Sees.grown (h : Sees w B size A n xs) {row : Option Nat} (hg : w.grownBy w' row) (hB : B ≤ w.heap.size) (hr : ∀ g, row = some g → B ≤ g) : Sees w' B size A n xs :=
  h.map fun p hp => World.cell?_of_block (hg.block p.block (by omega) (fun e => by have := hr _ e.symm; omega))
/-- One element of one cell. -/
theorem Sees.at_ {k : Nat} (h : Sees w B 1 A n xs) (hk : k < n) : ∃ ad u, A = some ad ∧ ad.block < B ∧ xs[k]? = some u ∧ w.cell? (ad.add k) = some u := by
  rcases h.2 with h0 | ⟨ad, e, hb, hx⟩
  · omega
  · have hl : k < xs.length := by have := h.1; omega
    exact ⟨ad, xs[k], e, hb, List.getElem?_eq_getElem hl, hx k _ (List.getElem?_eq_getElem hl)⟩
theorem Sees.some_ (h : Sees w B size A n xs) (hn : 0 < n) : ∃ ad, A = some ad ∧ ad.block < B ∧ ∀ j u, xs[j]? = some u → w.cell? (ad.add j) = some u := by
  rcases h.2 with h0 | h1
  · omega
  · exact h1
/-- The first k. -/
theorem Sees.take {k : Nat} (h : Sees w B size A n xs) (hk : k ≤ n) : Sees w B size A k (xs.take (k * size)) := by
  refine ⟨by rw [List.length_take, h.1]; exact Nat.min_eq_left (Nat.mul_le_mul_right _ hk), ?_⟩
  rcases h.2 with h0 | ⟨ad, e, hb, hx⟩
  · exact .inl (by omega)
  · refine .inr ⟨ad, e, hb, fun j u hu => hx j u ?_⟩
    rw [List.getElem?_take] at hu
    split at hu
    · exact hu
    · cases hu
/-- All but the first k: the model keeps the address where nothing is left of the room. -/
theorem Sees.drop {k cap : Nat} (h : Sees w B size A n xs) (hk : k ≤ n) (hc : n ≤ cap) :
    Sees w B size (if cap = k then A else A.map (·.add (k * size))) (n - k) (xs.drop (k * size)) := by
  refine ⟨by rw [List.length_drop, h.1, Nat.sub_mul], ?_⟩
  rcases h.2 with h0 | ⟨ad, rfl, hb, hx⟩
  · exact .inl (by omega)
  · rcases Nat.lt_or_ge k n with hlt | hge
    · refine .inr ⟨ad.add (k * size), by rw [if_neg (by omega)]; rfl, by rw [add_block]; exact hb, fun j u hu => ?_⟩
      rw [add_add]
      exact hx _ u (by rw [← hu, List.getElem?_drop])
    · exact .inl (by omega)
theorem Sees.of_own {base : Nat} {e : TypeId} {c : Nat} (h : w.ownsRow base e size (.slice A n c) n xs) : Sees w w.heap.size size A n xs := by
  refine ⟨h.1, ?_⟩
  rcases Nat.eq_zero_or_pos n with h0 | hn
  · exact .inl h0
  · obtain ⟨g, cap, hv, _, hlt⟩ := h.form hn
    have hA : A = some ⟨g, 0, none⟩ := by injection hv
    subst hA
    exact .inr ⟨_, rfl, hlt, h.cells (g := g) rfl⟩

theorem Moved.rfl_ {r : Option Nat} : Moved w r r := .inl rfl
theorem Moved.trans {r r' r'' : Option Nat} (h : Moved w r r') (hs : w.heap.size ≤ w'.heap.size) (k : Moved w' r' r'') : Moved w r r'' := by
  rcases k with rfl | ⟨g, rfl, hg⟩
  · exact h
  · exact .inr ⟨g, rfl, by omega⟩
theorem Moved.then_ {r r' : Option Nat} {c : World} (h : w.grownBy w' r) (hm : Moved w r r') (k : w'.grownBy c r') : w.grownBy c r :=
  h.andThen k fun j hj => by
    rcases hm with rfl | ⟨g, rfl, hg⟩
    · exact .inr hj
    · injection hj with hj
      omega
theorem Moved.of_at {r r' : Option Nat} {g : Nat} (h : r' = r ∨ r' = some g) (hg : w.heap.size ≤ g) : Moved w r r' := by
  rcases h with h | h
  · exact .inl h
  · exact .inr ⟨_, h, hg⟩
theorem below_drewN_ {b : World} (h : Below B w b) (d : Nat) : Below B w (b.drewN d) := ⟨h.os, h.tape, h.output, h.size, h.block⟩
/-- A row that the call began with nothing: what it does is all new. -/
theorem grown_below {r : Option Nat} (h : w.grownBy w' r) (hr : ∀ g, r = some g → B ≤ g) (hB : B ≤ w.heap.size) : Below B w w' := (Below.refl _ _).grown h hB hr
end

/-- A byte as a cell holds it. -/
abbrev by_ (b : UInt8) : Value := .int .u8 (b.toNat : Int)
def bys (l : List UInt8) : List Value := l.map by_
theorem bys_len (l : List UInt8) : (bys l).length = l.length := by simp [bys]
theorem bys_append (a b : List UInt8) : bys (a ++ b) = bys a ++ bys b := by simp [bys]
theorem bys_get (l : List UInt8) (k : Nat) : (bys l)[k]? = l[k]?.map by_ := by simp [bys]
theorem bys_one (l : List UInt8) : ∀ u ∈ bys l, u.oneCell' = true := by
  intro u hu
  simp only [bys, List.mem_map] at hu
  obtain ⟨b, _, rfl⟩ := hu
  rfl
theorem bys_inj {a b : List UInt8} (h : bys a = bys b) : a = b := by
  induction a generalizing b with
  | nil => cases b with
    | nil => rfl
    | cons _ _ => simp [bys] at h
  | cons x a ih => cases b with
    | nil => simp [bys] at h
    | cons y b =>
      simp only [bys, List.map_cons, List.cons.injEq, Value.int.injEq, true_and] at h
      rw [ih h.2, UInt8.toNat_inj.1 (by omega : x.toNat = y.toNat)]
/-- Byte k of what is seen. -/
theorem Sees.byte {w : World} {B n k : Nat} {A : Option Addr} {l : List UInt8} (h : Sees w B 1 A n (bys l)) (hk : k < n) :
    ∃ ad, ∃ hl : k < l.length, A = some ad ∧ ad.block < B ∧ w.cell? (ad.add k) = some (.int .u8 ((l[k]'hl).toNat : Int)) := by
  obtain ⟨ad, u, e, hb, hx, hc⟩ := h.at_ hk
  have hl : k < l.length := by have := h.1; rw [bys_len] at this; omega
  refine ⟨ad, hl, e, hb, ?_⟩
  rw [bys_get, List.getElem?_eq_getElem hl] at hx
  injection hx with hx
  subst hx
  exact hc

/-- A number's k highest of 8 bytes, the highest first. -/
def top8 (n k : Nat) : List UInt8 := (List.range k).map fun i => UInt8.ofNat (n / 2 ^ (56 - 8 * i))
abbrev b8 (n : Nat) : List UInt8 := top8 n 8
theorem top8_len (n k : Nat) : (top8 n k).length = k := by simp [top8]
theorem top8_snoc (n k : Nat) : top8 n (k + 1) = top8 n k ++ [UInt8.ofNat (n / 2 ^ (56 - 8 * k))] := by simp [top8, List.range_succ]
theorem byte_of (n k : Nat) : Value.int .u8 ((n : Int) / 2 ^ (56 - 8 * k) % 256) = by_ (UInt8.ofNat (n / 2 ^ (56 - 8 * k))) := by
  simp [by_]
/-- The number that bytes are, the highest first. -/
def un8 (l : List UInt8) : Nat := l.foldl (fun a b => a * 256 + b.toNat) 0
theorem un8_snoc (l : List UInt8) (b : UInt8) : un8 (l ++ [b]) = un8 l * 256 + b.toNat := by simp [un8]
theorem un8_fold (l : List UInt8) : ∀ a : Nat, l.foldl (fun a b => a * 256 + b.toNat) a + 1 ≤ (a + 1) * 256 ^ l.length := by
  induction l with
  | nil => intro a; simp
  | cons b l ih =>
    intro a
    have h := ih (a * 256 + b.toNat)
    have hb := b.toNat_lt
    have h2 : (a * 256 + b.toNat + 1) * 256 ^ l.length ≤ (a + 1) * 256 * 256 ^ l.length := Nat.mul_le_mul_right _ (by omega)
    simp only [List.foldl_cons, List.length_cons, Nat.pow_succ]
    calc _ ≤ _ := h
      _ ≤ _ := h2
      _ = _ := by rw [Nat.mul_assoc, Nat.mul_comm 256]
theorem un8_lt (l : List UInt8) : un8 l < 256 ^ l.length := by have := un8_fold l 0; unfold un8; omega
theorem bits_or_comm (k : IntKind) (x y : Int) : bits .or k x y = bits .or k y x := by
  unfold bits; simp only; rw [BitVec.or_comm]
theorem or_byte (a b : Nat) (ha : a * 256 < 18446744073709551616) (hb : b < 256) : bits .or .u64 (IntKind.u64.wrap ((a : Int) * 256)) (b : Int) = ((a * 256 + b : Nat) : Int) := by
  rw [u64_wrap_id _ (by omega) (by omega), bits_or_comm, u64_or8 _ _ (by omega) (by omega) (by omega) (by omega) (by omega)]
  omega
theorem take_step {α : Type} (l : List α) (k : Nat) (h : k < l.length) : l.take (k + 1) = l.take k ++ [l[k]] := by
  rw [List.take_succ_eq_append_getElem h]
theorem un8_take (l : List UInt8) (k : Nat) (hl : k < l.length) (hk : k < 8) :
    Value.int .u64 (bits .or .u64 (IntKind.u64.wrap ((un8 (l.take k) : Int) * 256)) ((l[k]'hl).toNat : Int)) = .int .u64 (un8 (l.take (k + 1)) : Int) := by
  have h := un8_lt (l.take k)
  have hl2 : (l.take k).length ≤ 7 := by rw [List.length_take]; omega
  have h2 : 256 ^ (l.take k).length ≤ 256 ^ 7 := Nat.pow_le_pow_right (by omega) hl2
  rw [or_byte _ _ (by omega) (UInt8.toNat_lt _), take_step l k hl, un8_snoc]
end Go.Proofs.YthmkdlnocdbhjaaDoor
