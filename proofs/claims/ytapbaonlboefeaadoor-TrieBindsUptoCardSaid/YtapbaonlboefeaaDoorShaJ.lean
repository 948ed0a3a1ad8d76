/- Words of mine for memory: what lies behind a slice, what a row of the call's own has become. Plain lemmas; nothing of the program. | sha.appendNumber and sha.takeNumber: a number's 8 bytes. | sha.takeNumber: a number off the front of bytes. | Joined encodings as plain functions on lists of bytes: what joins and what splits. Nothing of the program. | Slices of byte slices; append of what is seen onto a row of the call's own. | sha.Join: the joined encoding. -/
import Derived.Test.YtapbaonlboefeaaDoorRows
import Derived.WalkKit
import Derived.Maps.AppendAt
import Derived.Maps.Range
import Derived.Deep.AppendLies
import Derived.Deep.Draws
import Derived.Laws.OwnMore
import Derived.Laws.ShiftsVar
import Derived.Lib.Hide
import Derived.Lib.EndianBits
import Derived.Outline
import Derived.Deep.QuietTactic
import Derived.BigQuiet
import Derived.RegionTactic
import Derived.Laws.MakeOwn
import Derived.OwnWalk
namespace Go.Proofs.YtapbaonlboefeaaDoor
open Go.RowKit

theorem add_block (a : Addr) (n : Nat) : (a.add n).block = a.block := by unfold Addr.add; split <;> rfl
theorem add_add (a : Addr) (i j : Nat) : (a.add i).add j = a.add (i + j) := by
  unfold Addr.add
  by_cases hi : i = 0 <;> by_cases hj : j = 0 <;> simp [hi, hj, Nat.add_assoc]
theorem add_zero (a : Addr) : a.add 0 = a := by simp [Addr.add]
theorem add_pos (a : Addr) (k : Nat) (h : 0 < k) : a.add k = ⟨a.block, a.off + k, none⟩ := by unfold Addr.add; rw [if_neg (by omega)]
theorem add_at (g i : Nat) : (⟨g, 0, none⟩ : Addr).add i = ⟨g, i, none⟩ := by unfold Addr.add; split <;> simp_all

/-- The n elements behind the address A, of 'size' cells each, are the cells xs; they lie below block B. -/
def Sees (w : World) (B size : Nat) (A : Option Addr) (n : Nat) (xs : List Value) : Prop :=
  xs.length = n * size ∧ (n = 0 ∨ ∃ ad, A = some ad ∧ ad.block < B ∧ ∀ j u, xs[j]? = some u → w.cell? (ad.add j) = some u)

/-- Where a row lies that was r: where it lay, or in a block that is new since w. -/
def Moved (w : World) (r r' : Option Nat) : Prop := r' = r ∨ ∃ g, r' = some g ∧ w.heap.size ≤ g

section
variable {w w' : World} {B B' size n : Nat} {A : Option Addr} {xs : List Value}

theorem Sees.len (h : Sees w B size A n xs) : xs.length = n * size := h.1
theorem Sees.nothing (w : World) (B size : Nat) (A : Option Addr) : Sees w B size A 0 [] := ⟨by simp, .inl rfl⟩
theorem Sees.map (h : Sees w B size A n xs) (hc : ∀ p : Addr, p.block < B → w'.cell? p = w.cell? p) : Sees w' B size A n xs := by
  refine ⟨h.1, h.2.imp id ?_⟩
  rintro ⟨ad, e, hb, hx⟩
  exact ⟨ad, e, hb, fun j u hu => (hc _ (by rw [add_block]; exact hb)).trans (hx j u hu)⟩
theorem Sees.wide (h : Sees w B size A n xs) (hB : B ≤ B') : Sees w B' size A n xs := by
  refine ⟨h.1, h.2.imp id ?_⟩
  rintro ⟨ad, e, hb, hx⟩
  exact ⟨ad, e, by omega, hx⟩
theorem Sees.below (h : Sees w B size A n xs) (hb : Below B w w') : Sees w' B size A n xs := h.map fun _ hp => hb.cell hp
theorem Sees.alloc (h : Sees w B size A n xs) (hB : B ≤ w.heap.size) (o : Obj) : Sees (w.alloc o) B size A n xs := h.map fun p hp => World.cell?_alloc_lt w o p (by omega)
theorem Sees.setCell (h : Sees w B size A n xs) {p : Addr} (hB : B ≤ p.block) (u : Value) : Sees (w.setCell p u) B size A n xs :=
  h.map fun q hq => World.cell?_setCell_other w p q u (fun e => by subst e; omega)
theorem Sees.grown (h : Sees w B size A n xs) {row : Option Nat} (hg : w.grownBy w' row) (hB : B ≤ w.heap.size) (hr : ∀ g, row = some g → B ≤ g) : Sees w' B size A n xs :=
  h.map fun p hp => World.cell?_of_block (hg.block p.block (by omega) (fun e => by have := hr _ e.symm; omega))
/-- One element of one cell. -/
theorem Sees.at_ {k : Nat} (h : Sees w B 1 A n xs) (hk : k < n) : ∃ ad u, A = some ad ∧ ad.block < B ∧ xs[k]? = some u ∧ w.cell? (ad.add k) = some u := by
  rcases h.2 with h0 | ⟨ad, e, hb, hx⟩
  · omega
  · have hl : k < xs.length := by have := h.1; omega
    exact ⟨ad, xs[k], e, hb, List.getElem?_eq_getElem hl, hx k _ (List.getElem?_eq_getElem hl)⟩
theorem Sees.some_ (h : Sees w B size A n xs) (hn : 0 < n) : ∃ ad, A = some ad ∧ ad.block < B ∧ ∀ j u, xs[j]? = some u → w.cell? (ad.add j) = some u := by
  rcases h.2 with h0 | h1
  · omega
  · exact h1
/-- The first k. -/
theorem Sees.take {k : Nat} (h : Sees w B size A n xs) (hk : k ≤ n) : Sees w B size A k (xs.take (k * size)) := by
  refine ⟨by rw [List.length_take, h.1]; exact Nat.min_eq_left (Nat.mul_le_mul_right _ hk), ?_⟩
  rcases h.2 with h0 | ⟨ad, e, hb, hx⟩
  · exact .inl (by omega)
  · refine .inr ⟨ad, e, hb, fun j u hu => hx j u ?_⟩
    rw [List.getElem?_take] at hu
    split at hu
    · exact hu
    · cases hu
/-- All but the first k: the model keeps the address where nothing is left of the room. -/
theorem Sees.drop {k cap : Nat} (h : Sees w B size A n xs) (hk : k ≤ n) (hc : n ≤ cap) :
    Sees w B size (if cap = k then A else A.map (·.add (k * size))) (n - k) (xs.drop (k * size)) := by
  refine ⟨by rw [List.length_drop, h.1, Nat.sub_mul], ?_⟩
  rcases h.2 with h0 | ⟨ad, rfl, hb, hx⟩
  · exact .inl (by omega)
  · rcases Nat.lt_or_ge k n with hlt | hge
    · refine .inr ⟨ad.add (k * size), by rw [if_neg (by omega)]; rfl, by rw [add_block]; exact hb, fun j u hu => ?_⟩
      rw [add_add]
      exact hx _ u (by rw [← hu, List.getElem?_drop])
    · exact .inl (by omega)
theorem Sees.of_own {base : Nat} {e : TypeId} {c : Nat} (h : w.ownsRow base e size (.slice A n c) n xs) : Sees w w.heap.size size A n xs := by
  refine ⟨h.1, ?_⟩
  rcases Nat.eq_zero_or_pos n with h0 | hn
  · exact .inl h0
  · obtain ⟨g, cap, hv, _, hlt⟩ := h.form hn
    have hA : A = some ⟨g, 0, none⟩ := by injection hv
    subst hA
    exact .inr ⟨_, rfl, hlt, h.cells (g := g) rfl⟩

theorem Moved.rfl_ {r : Option Nat} : Moved w r r := .inl rfl
theorem Moved.trans {r r' r'' : Option Nat} (h : Moved w r r') (hs : w.heap.size ≤ w'.heap.size) (k : Moved w' r' r'') : Moved w r r'' := by
  rcases k with rfl | ⟨g, rfl, hg⟩
  · exact h
  · exact .inr ⟨g, rfl, by omega⟩
theorem Moved.then_ {r r' : Option Nat} {c : World} (h : w.grownBy w' r) (hm : Moved w r r') (k : w'.grownBy c r') : w.grownBy c r :=
  h.andThen k fun j hj => by
    rcases hm with rfl | ⟨g, rfl, hg⟩
    · exact .inr hj
    · injection hj with hj
      omega
theorem Moved.of_at {r r' : Option Nat} {g : Nat} (h : r' = r ∨ r' = some g) (hg : w.heap.size ≤ g) : Moved w r r' := by
  rcases h with h | h
  · exact .inl h
  · exact .inr ⟨_, h, hg⟩
theorem below_drewN_ {b : World} (h : Below B w b) (d : Nat) : Below B w (b.drewN d) := ⟨h.os, h.tape, h.output, h.size, h.block⟩
/-- A row that the call began with nothing: what it does is all new. -/
theorem grown_below {r : Option Nat} (h : w.grownBy w' r) (hr : ∀ g, r = some g → B ≤ g) (hB : B ≤ w.heap.size) : Below B w w' := (Below.refl _ _).grown h hB hr
end

/-- A byte as a cell holds it. -/
abbrev by_ (b : UInt8) : Value := .int .u8 (b.toNat : Int)
def bys (l : List UInt8) : List Value := l.map by_
theorem bys_len (l : List UInt8) : (bys l).length = l.length := by simp [bys]
theorem bys_append (a b : List UInt8) : bys (a ++ b) = bys a ++ bys b := by simp [bys]
theorem bys_get (l : List UInt8) (k : Nat) : (bys l)[k]? = l[k]?.map by_ := by simp [bys]
theorem bys_one (l : List UInt8) : ∀ u ∈ bys l, u.oneCell' = true := by
  intro u hu
  simp only [bys, List.mem_map] at hu
  obtain ⟨b, _, rfl⟩ := hu
  rfl
theorem bys_inj {a b : List UInt8} (h : bys a = bys b) : a = b := by
  induction a generalizing b with
  | nil => cases b with
    | nil => rfl
    | cons _ _ => simp [bys] at h
  | cons x a ih => cases b with
    | nil => simp [bys] at h
    | cons y b =>
      simp only [bys, List.map_cons, List.cons.injEq, Value.int.injEq, true_and] at h
      rw [ih h.2, UInt8.toNat_inj.1 (by omega : x.toNat = y.toNat)]
/-- Byte k of what is seen. -/
theorem Sees.byte {w : World} {B n k : Nat} {A : Option Addr} {l : List UInt8} (h : Sees w B 1 A n (bys l)) (hk : k < n) :
    ∃ ad, ∃ hl : k < l.length, A = some ad ∧ ad.block < B ∧ w.cell? (ad.add k) = some (.int .u8 ((l[k]'hl).toNat : Int)) := by
  obtain ⟨ad, u, e, hb, hx, hc⟩ := h.at_ hk
  have hl : k < l.length := by have := h.1; rw [bys_len] at this; omega
  refine ⟨ad, hl, e, hb, ?_⟩
  rw [bys_get, List.getElem?_eq_getElem hl] at hx
  injection hx with hx
  subst hx
  exact hc

/-- A number's k highest of 8 bytes, the highest first. -/
def top8 (n k : Nat) : List UInt8 := (List.range k).map fun i => UInt8.ofNat (n / 2 ^ (56 - 8 * i))
abbrev b8 (n : Nat) : List UInt8 := top8 n 8
theorem top8_len (n k : Nat) : (top8 n k).length = k := by simp [top8]
theorem top8_snoc (n k : Nat) : top8 n (k + 1) = top8 n k ++ [UInt8.ofNat (n / 2 ^ (56 - 8 * k))] := by simp [top8, List.range_succ]
theorem byte_of (n k : Nat) : Value.int .u8 ((n : Int) / 2 ^ (56 - 8 * k) % 256) = by_ (UInt8.ofNat (n / 2 ^ (56 - 8 * k))) := by
  simp [by_]
/-- The number that bytes are, the highest first. -/
def un8 (l : List UInt8) : Nat := l.foldl (fun a b => a * 256 + b.toNat) 0
theorem un8_snoc (l : List UInt8) (b : UInt8) : un8 (l ++ [b]) = un8 l * 256 + b.toNat := by simp [un8]
theorem un8_fold (l : List UInt8) : ∀ a : Nat, l.foldl (fun a b => a * 256 + b.toNat) a + 1 ≤ (a + 1) * 256 ^ l.length := by
  induction l with
  | nil => intro a; simp
  | cons b l ih =>
    intro a
    have h := ih (a * 256 + b.toNat)
    have hb := b.toNat_lt
    have h2 : (a * 256 + b.toNat + 1) * 256 ^ l.length ≤ (a + 1) * 256 * 256 ^ l.length := Nat.mul_le_mul_right _ (by omega)
    simp only [List.foldl_cons, List.length_cons, Nat.pow_succ]
    calc _ ≤ _ := h
      _ ≤ _ := h2
      _ = _ := by rw [Nat.mul_assoc, Nat.mul_comm 256]
theorem un8_lt (l : List UInt8) : un8 l < 256 ^ l.length := by have := un8_fold l 0; unfold un8; omega
theorem bits_or_comm (k : IntKind) (x y : Int) : bits .or k x y = bits .or k y x := by
  unfold bits; simp only; rw [BitVec.or_comm]
theorem or_byte (a b : Nat) (ha : a * 256 < 18446744073709551616) (hb : b < 256) : bits .or .u64 (IntKind.u64.wrap ((a : Int) * 256)) (b : Int) = ((a * 256 + b : Nat) : Int) := by
  rw [u64_wrap_id _ (by omega) (by omega), bits_or_comm, u64_or8 _ _ (by omega) (by omega) (by omega) (by omega) (by omega)]
  omega
theorem take_step {α : Type} (l : List α) (k : Nat) (h : k < l.length) : l.take (k + 1) = l.take k ++ [l[k]] := by
  rw [List.take_succ_eq_append_getElem h]
theorem un8_take (l : List UInt8) (k : Nat) (hl : k < l.length) (hk : k < 8) :
    Value.int .u64 (bits .or .u64 (IntKind.u64.wrap ((un8 (l.take k) : Int) * 256)) ((l[k]'hl).toNat : Int)) = .int .u64 (un8 (l.take (k + 1)) : Int) := by
  have h := un8_lt (l.take k)
  have hl2 : (l.take k).length ≤ 7 := by rw [List.length_take]; omega
  have h2 : 256 ^ (l.take k).length ≤ 256 ^ 7 := Nat.pow_le_pow_right (by omega) hl2
  rw [or_byte _ _ (by omega) (UInt8.toNat_lt _), take_step l k hl, un8_snoc]
end Go.Proofs.YtapbaonlboefeaaDoor
namespace Go.Proofs.YtapbaonlboefeaaDoor
open Go.RowKit

theorem Tryd.infoByte : (Tryd.prog.info? 5).map (fun i => (i.zero, i.size, i.bytes)) = some (some (.int .u8 0), 1, 1) := by kernel_rfl

set_option maxRecDepth 20000 in
set_option maxHeartbeats 800000 in
theorem appendNumber_any (base : Nat) (v : Value) (m : Nat) (l : List UInt8) (n : Nat) (w : World) (hown : w.ownsRow base 5 1 v m (bys l)) (hbase : base ≤ w.heap.size) (hm : m + 8 ≤ 140737488355328) (hn : n < 9223372036854775808) :
    Calls Tryd.prog 63 #[v, .int .i64 n] w fun e w' => ∃ v', e = .returned v' ∧ w'.ownsRow base 5 1 v' (m + 8) (bys (l ++ b8 n)) ∧ w.grownBy w' v.ownBlock ∧ Moved w v.ownBlock v'.ownBlock := by
  obtain ⟨i0, hi, hz0, hz1, hz2⟩ := info_parts Tryd.infoByte
  go_enter Tryd.func63, Tryd.ntmps63
  go_wp2
  go_loopw [0, 5] (fun u i wr => ∃ k : Nat, k ≤ 8 ∧ i = .int .i64 (56 - 8 * (k : Int)) ∧ wr.ownsRow base 5 1 u (m + k) (bys (l ++ top8 n k)) ∧ w.grownBy wr v.ownBlock ∧ Moved w v.ownBlock u.ownBlock)
    (fun _ i _ => (intOf i + 8).toNat)
  case atStart => exact ⟨0, by omega, rfl, by simpa [top8] using hown, World.grownBy.refl w _, .inl rfl⟩
  case round =>
    obtain ⟨k, hk, rfl, hown1, hg, hat⟩ := hrel
    have hb : base ≤ wr.heap.size := Nat.le_trans hbase hg.size
    rcases Nat.lt_or_ge k 8 with hlt | hge
    · have h1 : 8 * (k:Int) ≤ 56 := by omega
      go_wp2_with (at_builtin; refine wpList_append_own_at _ rfl _ _ 31 rfl base 5 i0 (.int .u8 0) 1 1 Tryd.underlying31 hi hz0 hz1 hz2 rfl (by decide) _ _ _ rfl (hown1.alloc _) ⟨wr.heap.size, 0, none⟩ 1 1 [.int .u8 ((n : Int) / 2 ^ (56 - 8 * k) % 256)] rfl rfl (cell_one_new _ _ _) ?c2 ?c3 ?c4 ?c5 ?_)
      case c2 => intro u hu; simp at hu; subst hu; rfl
      case c3 => unfold maxLen; omega
      case c4 => omega
      case c5 => simp; omega
      intro v' w1 hown' hgrow _ hat'
      have hO : w1.ownsRow base 5 1 v' (m + (k + 1)) (bys (l ++ top8 n (k + 1))) := by
        have e : bys (l ++ top8 n (k + 1)) = bys (l ++ top8 n k) ++ [.int .u8 ((n : Int) / 2 ^ (56 - 8 * k) % 256)] := by
          rw [top8_snoc, ← List.append_assoc, bys_append, byte_of]; rfl
        rw [e]; exact hown'
      have hG : wr.grownBy w1 u0.ownBlock := (World.grownBy_alloc wr _ _).trans hgrow
      have hG' := hat.then_ hg hG
      have hM := hat.trans hg.size (Moved.of_at (w := wr) hat' (by omega))
      clear hown' hgrow hat' hown1 hg hat hG
      go_wp2
      go_roundw
      case rel => exact ⟨k + 1, by omega, by go_num, hO, hG', hM⟩
      case measure => simp [intOf]; omega
    · have h1 : 56 < 8 * (k:Int) := by omega
      go_wp2
      go_ret
      obtain rfl : k = 8 := by omega
      exact ⟨_, rfl, hown1, hg, hat⟩
end Go.Proofs.YtapbaonlboefeaaDoor
namespace Go.Proofs.YtapbaonlboefeaaDoor
open Go.RowKit

theorem takeNumber_no (A : Option Addr) (n c : Nat) (w : World) (hn : n < 8) :
    Calls Tryd.prog 75 #[.slice A n c] w fun e w' => e = .returned (.tuple #[.int .u64 0, .slice none 0 0, .bool false]) ∧ w' = w := by
  go_enter Tryd.func75, Tryd.ntmps75
  go_wp2
  go_ret3
  exact ⟨rfl, rfl⟩

set_option maxRecDepth 20000 in
set_option maxHeartbeats 800000 in
theorem takeNumber_yes (B : Nat) (A : Option Addr) (n c : Nat) (l : List UInt8) (w : World) (hs : Sees w B 1 A n (bys l)) (hn : 8 ≤ n) (hc : n ≤ c) (hm : c ≤ 9223372036854775807) :
    Calls Tryd.prog 75 #[.slice A n c] w fun e w' => e = .returned (.tuple #[.int .u64 (un8 (l.take 8)), .slice (if c = 8 then A else A.map (·.add 8)) (n - 8) (c - 8), .bool true]) ∧ ∃ d, w' = w.drewN d := by
  go_enter Tryd.func75, Tryd.ntmps75
  go_wp2
  go_loop [5, 14] (fun u i => ∃ k : Nat, k ≤ 8 ∧ i = .int .i64 (k : Int) ∧ u = .int .u64 (un8 (l.take k) : Int))
    (fun _ i => 8 - (intOf i).toNat)
  case atStart => exact ⟨0, by omega, rfl, by simp [un8]⟩
  case round =>
    obtain ⟨k, hk, rfl, rfl⟩ := hrel
    rcases Nat.lt_or_ge k 8 with hlt | hge
    · obtain ⟨ad, hl, rfl, -, hcell⟩ := hs.byte (k := k) (by omega)
      have hu := Lib.hid (un8_take l k hl hlt)
      have hb : (l[k]'hl).toNat < 256 := UInt8.toNat_lt _
      clear hs
      go_wp2
      go_round
      case rel => exact ⟨k + 1, by omega, by go_num, hu.out⟩
      case measure => simp [intOf]; omega
    · obtain rfl : k = 8 := by omega
      go_wp2
      go_quiet (fail)
      go_wp2
      all_goals go_ret3
      all_goals exact ⟨by simp, _, rfl⟩

theorem takeNumber_any (B : Nat) (A : Option Addr) (n c : Nat) (l : List UInt8) (w : World) (hs : Sees w B 1 A n (bys l)) (hn : 8 ≤ n) (hc : n ≤ c) (hm : c ≤ 9223372036854775807) :
    Calls Tryd.prog 75 #[.slice A n c] w fun e w' => ∃ A' d, e = .returned (.tuple #[.int .u64 (un8 (l.take 8)), .slice A' (n - 8) (c - 8), .bool true]) ∧ Sees w B 1 A' (n - 8) (bys (l.drop 8)) ∧ w' = w.drewN d :=
  (takeNumber_yes B A n c l w hs hn hc hm).mono fun _ _ ⟨he, d, hd⟩ => ⟨_, d, he, by have h := hs.drop hn hc; simpa [bys] using h, hd⟩
end Go.Proofs.YtapbaonlboefeaaDoor
namespace Go.Proofs.YtapbaonlboefeaaDoor

/-- One part, with its length ahead. -/
def part (l : List UInt8) : List UInt8 := b8 l.length ++ l
/-- The parts one behind the other. -/
def partsOf : List (List UInt8) → List UInt8
  | [] => []
  | l :: r => part l ++ partsOf r
def joinF (ls : List (List UInt8)) : List UInt8 := b8 ls.length ++ partsOf ls
/-- So many parts, and nothing behind them. -/
def splitGo : Nat → List UInt8 → Option (List (List UInt8))
  | 0, b => if b = [] then some [] else none
  | k + 1, b => if b.length < 8 then none else if (b.drop 8).length < un8 (b.take 8) then none else
      (splitGo k ((b.drop 8).drop (un8 (b.take 8)))).map fun r => (b.drop 8).take (un8 (b.take 8)) :: r
def splitF (b : List UInt8) : Option (List (List UInt8)) := if b.length < 8 then none else splitGo (un8 (b.take 8)) (b.drop 8)

theorem partsOf_append (a b : List (List UInt8)) : partsOf (a ++ b) = partsOf a ++ partsOf b := by
  induction a with
  | nil => rfl
  | cons x a ih => simp [partsOf, ih, List.append_assoc]
theorem partsOf_snoc (a : List (List UInt8)) (l : List UInt8) : partsOf (a ++ [l]) = partsOf a ++ part l := by simp [partsOf_append, partsOf]
theorem b8_len (n : Nat) : (b8 n).length = 8 := top8_len n 8
theorem part_len (l : List UInt8) : (part l).length = 8 + l.length := by simp [part, b8_len]

theorem un8_top8 (n : Nat) (hn : n < 2 ^ 64) : ∀ k, k ≤ 8 → un8 (top8 n k) = n / 2 ^ (64 - 8 * k) := by
  intro k
  induction k with
  | zero => intro _; simp [top8, un8]; omega
  | succ k ih =>
    intro hk
    rw [top8_snoc, un8_snoc, ih (by omega)]
    have e1 : 64 - 8 * k = (64 - 8 * (k + 1)) + 8 := by omega
    have e2 : 56 - 8 * k = 64 - 8 * (k + 1) := by omega
    rw [e1, e2, Nat.pow_add]
    generalize hp : 2 ^ (64 - 8 * (k + 1)) = p
    rw [← Nat.div_div_eq_div_mul, UInt8.toNat_ofNat']
    have := Nat.div_add_mod (n / p) 256
    simp only [Nat.reducePow]
    omega
theorem un8_b8 (n : Nat) (hn : n < 2 ^ 64) : un8 (b8 n) = n := by
  rw [un8_top8 n hn 8 (by omega)]; simp
theorem un8_inj : ∀ (n : Nat) (a b : List UInt8), a.length = n → b.length = n → un8 a = un8 b → a = b := by
  intro n
  induction n with
  | zero => intro a b ha hb _; rw [List.eq_nil_of_length_eq_zero ha, List.eq_nil_of_length_eq_zero hb]
  | succ n ih =>
    intro a b ha hb he
    have ha' : a ≠ [] := by intro e; subst e; simp at ha
    have hb' : b ≠ [] := by intro e; subst e; simp at hb
    have ea := List.dropLast_concat_getLast ha'
    have eb := List.dropLast_concat_getLast hb'
    rw [← ea, ← eb, un8_snoc, un8_snoc] at he
    have h1 := UInt8.toNat_lt (a.getLast ha')
    have h2 := UInt8.toNat_lt (b.getLast hb')
    have hx : (a.getLast ha') = (b.getLast hb') := UInt8.toNat_inj.1 (by omega)
    have hd := ih a.dropLast b.dropLast (by simp [ha]) (by simp [hb]) (by omega)
    rw [← ea, ← eb, hd, hx]
theorem b8_un8 (l : List UInt8) (h : l.length = 8) : b8 (un8 l) = l := by
  have hl := un8_lt l
  rw [h] at hl
  exact un8_inj 8 _ _ (b8_len _) h (un8_b8 _ hl)

theorem splitGo_parts : ∀ ls : List (List UInt8), (∀ l ∈ ls, l.length < 2 ^ 64) → splitGo ls.length (partsOf ls) = some ls := by
  intro ls
  induction ls with
  | nil => intro _; simp [splitGo, partsOf]
  | cons l ls ih =>
    intro h
    have hl := h l (by simp)
    have e8 : ∀ x y : List UInt8, (b8 l.length ++ x ++ y).drop 8 = x ++ y := fun x y => by
      rw [List.append_assoc, List.drop_left' (b8_len _)]
    have t8 : ∀ x y : List UInt8, (b8 l.length ++ x ++ y).take 8 = b8 l.length := fun x y => by
      rw [List.append_assoc, List.take_left' (b8_len _)]
    simp only [splitGo, List.length_cons, partsOf, part, e8, t8, un8_b8 _ hl]
    rw [if_neg (by simp [b8_len]), if_neg (by simp), List.drop_left, List.take_left, ih fun x hx => h x (by simp [hx])]
    rfl
theorem split_join (ls : List (List UInt8)) (h : ∀ l ∈ ls, l.length < 2 ^ 64) (hn : ls.length < 2 ^ 64) : splitF (joinF ls) = some ls := by
  unfold splitF joinF
  rw [if_neg (by simp [b8_len]), List.take_left' (b8_len _), List.drop_left' (b8_len _), un8_b8 _ hn, splitGo_parts ls h]
theorem parts_splitGo : ∀ (k : Nat) (b : List UInt8) (ls : List (List UInt8)), splitGo k b = some ls → ls.length = k ∧ partsOf ls = b := by
  intro k
  induction k with
  | zero =>
    intro b ls h
    simp only [splitGo] at h
    split at h
    · rename_i e; injection h with h; subst h; subst e; exact ⟨rfl, rfl⟩
    · cases h
  | succ k ih =>
    intro b ls h
    simp only [splitGo] at h
    split at h
    · cases h
    split at h
    · cases h
    rw [Option.map_eq_some_iff] at h
    obtain ⟨r, hr, rfl⟩ := h
    rename_i h8 hlen
    obtain ⟨h1, h2⟩ := ih _ _ hr
    refine ⟨by simp [h1], ?_⟩
    simp only [partsOf, part, h2]
    rw [List.length_take, Nat.min_eq_left (by omega), b8_un8 _ (by rw [List.length_take]; omega), List.append_assoc, List.take_append_drop, List.take_append_drop]
theorem join_split (b : List UInt8) (ls : List (List UInt8)) (h : splitF b = some ls) : joinF ls = b := by
  unfold splitF at h
  split at h
  · cases h
  · rename_i h8
    obtain ⟨h1, h2⟩ := parts_splitGo _ _ _ h
    rw [joinF, h1, h2, b8_un8 _ (by rw [List.length_take]; omega), List.take_append_drop]
theorem partsOf_ge : ∀ ls : List (List UInt8), 8 * ls.length ≤ (partsOf ls).length := by
  intro ls
  induction ls with
  | nil => simp
  | cons l ls ih => simp [partsOf, part_len]; omega
/-- Where there is no room for so many parts there are none. -/
theorem splitGo_short (k : Nat) (b : List UInt8) (h : b.length < 8 * k) : splitGo k b = none := by
  cases e : splitGo k b with
  | none => rfl
  | some ls =>
    obtain ⟨h1, h2⟩ := parts_splitGo _ _ _ e
    have := partsOf_ge ls
    rw [h1, h2] at this
    omega
theorem joinF_len (ls : List (List UInt8)) : (joinF ls).length = 8 + (partsOf ls).length := by simp [joinF, b8_len]
theorem joinF_inj {a b : List (List UInt8)} (ha : ∀ l ∈ a, l.length < 2 ^ 64) (hb : ∀ l ∈ b, l.length < 2 ^ 64) (h1 : a.length < 2 ^ 64) (h2 : b.length < 2 ^ 64) (h : joinF a = joinF b) : a = b := by
  have e := split_join a ha h1
  rw [h, split_join b hb h2] at e
  injection e with e
  exact e.symm
/-- How long the joined encoding of the first k parts is. -/
def sizeTo (ls : List (List UInt8)) (k : Nat) : Nat := 8 + (partsOf (ls.take k)).length
theorem sizeTo_step (ls : List (List UInt8)) (k : Nat) (h : k < ls.length) : sizeTo ls (k + 1) = sizeTo ls k + (8 + (ls[k]'h).length) := by
  simp only [sizeTo, take_step ls k h, partsOf_snoc, List.length_append, part_len]; omega
theorem sizeTo_le (ls : List (List UInt8)) (k : Nat) : sizeTo ls k ≤ (joinF ls).length := by
  have h := congrArg List.length (partsOf_append (ls.take k) (ls.drop k))
  rw [List.take_append_drop, List.length_append] at h
  rw [joinF_len]; unfold sizeTo; omega
theorem sizeTo_all (ls : List (List UInt8)) : sizeTo ls ls.length = (joinF ls).length := by
  rw [joinF_len]; unfold sizeTo; rw [List.take_length]
/-- The joined encoding of the first k of n parts, its number ahead. -/
def joinTo (ls : List (List UInt8)) (k : Nat) : List UInt8 := b8 ls.length ++ partsOf (ls.take k)
theorem joinTo_step (ls : List (List UInt8)) (k : Nat) (h : k < ls.length) : joinTo ls (k + 1) = (joinTo ls k ++ b8 (ls[k]'h).length) ++ ls[k]'h := by
  simp only [joinTo, take_step ls k h, partsOf_snoc, part, List.append_assoc]
theorem joinTo_len (ls : List (List UInt8)) (k : Nat) : (joinTo ls k).length = sizeTo ls k := by simp [joinTo, sizeTo, b8_len]
theorem joinTo_all (ls : List (List UInt8)) : joinTo ls ls.length = joinF ls := by simp [joinTo, joinF]

end Go.Proofs.YtapbaonlboefeaaDoor
namespace Go.Proofs.YtapbaonlboefeaaDoor
open Go.RowKit

def lenOf : Value → Nat | .slice _ n _ => n | _ => 0
/-- The slice values vs hold the byte lists ls, below block B. -/
def Lists (w : World) (B : Nat) (vs : List Value) (ls : List (List UInt8)) : Prop :=
  vs.length = ls.length ∧ ∀ (i : Nat) (l : List UInt8), ls[i]? = some l → ∃ (A : Option Addr) (c : Nat), vs[i]? = some (Value.slice A l.length c) ∧ l.length ≤ c ∧ c ≤ 9223372036854775807 ∧ Sees w B 1 A l.length (bys l)

section
variable {w w' : World} {B B' : Nat} {vs : List Value} {ls : List (List UInt8)}
theorem Lists.imp (h : Lists w B vs ls) (hs : ∀ A n xs, Sees w B 1 A n xs → Sees w' B' 1 A n xs) : Lists w' B' vs ls :=
  ⟨h.1, fun i l hl => by
    obtain ⟨A, c, h1, h2, h3, h4⟩ := h.2 i l hl
    exact ⟨A, c, h1, h2, h3, hs _ _ _ h4⟩⟩
theorem Lists.below (h : Lists w B vs ls) (hb : Below B w w') : Lists w' B vs ls := h.imp fun _ _ _ hs => hs.below hb
theorem Lists.wide (h : Lists w B vs ls) (hB : B ≤ B') : Lists w B' vs ls := h.imp fun _ _ _ hs => hs.wide hB
theorem Lists.nothing (w : World) (B : Nat) : Lists w B [] [] := ⟨rfl, fun i l h => by simp at h⟩
theorem Lists.snoc (h : Lists w B vs ls) {A : Option Addr} {c : Nat} {l : List UInt8} (hc : l.length ≤ c) (hm : c ≤ 9223372036854775807) (hs : Sees w B 1 A l.length (bys l)) :
    Lists w B (vs ++ [Value.slice A l.length c]) (ls ++ [l]) := by
  refine ⟨by simp [h.1], fun i x hx => ?_⟩
  rcases Nat.lt_or_ge i ls.length with hi | hi
  · rw [List.getElem?_append_left hi] at hx
    obtain ⟨A, c, h1, h2, h3, h4⟩ := h.2 i x hx
    exact ⟨A, c, by rw [List.getElem?_append_left (by rw [h.1]; exact hi)]; exact h1, h2, h3, h4⟩
  · rw [List.getElem?_append_right hi] at hx
    have hi0 : i = ls.length := by
      rcases Nat.eq_or_lt_of_le hi with e | e
      · exact e.symm
      · rw [List.getElem?_eq_none (by simp; omega)] at hx; cases hx
    subst hi0
    simp at hx
    subst hx
    exact ⟨A, c, by rw [← h.1]; simp, hc, hm, hs⟩
/-- List number k. -/
theorem Lists.at_ {k : Nat} (h : Lists w B vs ls) (hk : k < ls.length) : ∃ A c, vs[k]? = some (Value.slice A (ls[k]'hk).length c) ∧ (ls[k]'hk).length ≤ c ∧ c ≤ 9223372036854775807 ∧ Sees w B 1 A (ls[k]'hk).length (bys (ls[k]'hk)) :=
  h.2 k _ (List.getElem?_eq_getElem hk)
end

/-- The address, if any, lies in block L or behind. -/
def Newer (L : Nat) (A : Option Addr) : Prop := ∀ ad, A = some ad → L ≤ ad.block
/-- The slices lie in blocks of element type e, from block L on. -/
def Mine (w : World) (L : Nat) (e : TypeId) (vs : List Value) : Prop :=
  ∀ A n c, Value.slice A n c ∈ vs → ∀ ad : Addr, A = some ad → L ≤ ad.block ∧ ∃ cur z, w.heap[ad.block]? = some (.cells cur e z)
theorem Mine.nothing (w : World) (L : Nat) (e : TypeId) : Mine w L e [] := fun _ _ _ h => by simp at h
theorem own_type {w : World} {base : Nat} {e : TypeId} {size n : Nat} {v : Value} {xs : List Value} (h : w.ownsRow base e size v n xs) : ∀ g, v.ownBlock = some g → ∃ cur z, w.heap[g]? = some (.cells cur e z) := by
  intro g hg
  rcases h.2 with ⟨rfl, _⟩ | ⟨g', cap, cur, rfl, _, hh, _⟩
  · simp [Value.ownBlock] at hg
  · simp [Value.ownBlock] at hg
    subst hg
    exact ⟨_, _, hh⟩
theorem types_ne {w : World} {e e' : TypeId} {g g' : Nat} (h : ∃ cur z, w.heap[g]? = some (.cells cur e z)) (h' : ∃ cur z, w.heap[g']? = some (.cells cur e' z)) (hne : e ≠ e') : g ≠ g' := by
  rintro rfl
  obtain ⟨c1, z1, h1⟩ := h
  obtain ⟨c2, z2, h2⟩ := h'
  rw [h1] at h2
  injection h2 with h2
  injection h2 with _ h3
  exact hne h3
theorem lt_of_heap {w : World} {g : Nat} {o : Obj} (h : w.heap[g]? = some o) : g < w.heap.size := by
  rcases Nat.lt_or_ge g w.heap.size with hlt | hge
  · exact hlt
  · rw [Array.getElem?_eq_none hge] at h; cases h
theorem Mine.grown {w w' : World} {L : Nat} {e e' : TypeId} {vs : List Value} {r : Option Nat} (h : Mine w L e vs) (hg : w.grownBy w' r) (hr : ∀ g, r = some g → ∃ cur z, w.heap[g]? = some (.cells cur e' z)) (hne : e ≠ e') : Mine w' L e vs := by
  intro A n c hm ad hA
  obtain ⟨h1, cur, z, h2⟩ := h A n c hm ad hA
  refine ⟨h1, cur, z, ?_⟩
  rw [hg.block ad.block (lt_of_heap h2) (fun e1 => types_ne ⟨_, _, h2⟩ (hr _ e1.symm) hne rfl)]
  exact h2
theorem Mine.below {w w' : World} {L : Nat} {e : TypeId} {vs : List Value} (h : Mine w L e vs) (hb : Below w.heap.size w w') : Mine w' L e vs := by
  intro A n c hm ad hA
  obtain ⟨h1, cur, z, h2⟩ := h A n c hm ad hA
  exact ⟨h1, cur, z, by rw [hb.block _ (lt_of_heap h2)]; exact h2⟩
theorem Lists.grown {w w' : World} {B L : Nat} {e e' : TypeId} {vs : List Value} {ls : List (List UInt8)} {r : Option Nat} (h : Lists w B vs ls) (hm : Mine w L e vs) (hg : w.grownBy w' r) (hr : ∀ g, r = some g → ∃ cur z, w.heap[g]? = some (.cells cur e' z)) (hne : e ≠ e') : Lists w' B vs ls := by
  refine ⟨h.1, fun i l hl => ?_⟩
  obtain ⟨A, c, h1, h2, h3, h4⟩ := h.2 i l hl
  refine ⟨A, c, h1, h2, h3, h4.1, h4.2.imp id ?_⟩
  rintro ⟨ad, hA, hb, hx⟩
  obtain ⟨_, cur, z, hh⟩ := hm A _ c (List.mem_of_getElem? h1) ad hA
  refine ⟨ad, hA, hb, fun j u hu => (World.cell?_of_block ?_).trans (hx j u hu)⟩
  rw [add_block]
  exact hg.block ad.block (lt_of_heap hh) (fun e1 => types_ne ⟨_, _, hh⟩ (hr _ e1.symm) hne rfl)
theorem Mine.snoc {w : World} {L : Nat} {e : TypeId} {vs : List Value} {A : Option Addr} {n c : Nat} (h : Mine w L e vs) (hA : ∀ ad : Addr, A = some ad → L ≤ ad.block ∧ ∃ cur z, w.heap[ad.block]? = some (.cells cur e z)) : Mine w L e (vs ++ [.slice A n c]) := by
  intro A1 n1 c1 hm
  rcases List.mem_append.1 hm with h1 | h1
  · exact h _ _ _ h1
  · simp only [List.mem_singleton, Value.slice.injEq] at h1
    rw [h1.1]; exact hA
theorem own_below {w w' : World} {base : Nat} {e : TypeId} {size n : Nat} {v : Value} {xs : List Value} (h : w.ownsRow base e size v n xs) (hb : Below w.heap.size w w') : w'.ownsRow base e size v n xs :=
  h.kept (row := none) ⟨hb.os, hb.tape, hb.output, hb.size, fun k hk _ => hb.block k hk⟩ (by cases hv : v.ownBlock <;> simp)
theorem own_slice {w : World} {base : Nat} {e : TypeId} {size n : Nat} {v : Value} {xs : List Value} (h : w.ownsRow base e size v n xs) :
    ∃ A c, v = .slice A n c ∧ n ≤ c ∧ c ≤ 9223372036854775807 ∧ (∀ ad : Addr, A = some ad → base ≤ ad.block ∧ ∃ cur z, w.heap[ad.block]? = some (.cells cur e z)) ∧ Sees w w.heap.size size A n xs := by
  obtain ⟨h1, h2⟩ := h
  have hh : w.ownsRow base e size v n xs := ⟨h1, h2⟩
  rcases h2 with ⟨rfl, rfl⟩ | ⟨g, cap, cur, rfl, hb, hg, hnc, hm, _⟩
  · exact ⟨none, 0, rfl, Nat.le_refl _, by omega, (by intro _ h; cases h), Sees.of_own hh⟩
  · exact ⟨_, cap, rfl, hnc, (by unfold maxLen at hm; omega), (by intro ad e; injection e with e; subst e; exact ⟨hb, _, _, hg⟩), Sees.of_own hh⟩

section
variable {P : Program} (w : World)
theorem run_append_none (base : Nat) (t ty e : TypeId) (i : TypeInfo) (size : Nat) (ht : P.underlying t = some (.slice e)) (hi : P.info? e = some i)
    (v : Value) (n : Nat) (xs : List Value) (hown : w.ownsRow base e size v n xs) (c : Nat) : (Builtin.append_ #[t, t] ty #[v, .slice none 0 c]).run P w = .ok v w := by
  rcases hown.2 with ⟨hv, h0⟩ | ⟨g, cap, cur, hv, _, _, hnc, _⟩
  · subst hv
    simp [Builtin.append_, run_underlying ht, sizeOf, typeInfo, hi, Builtin.lenOf, Builtin.firstCells]
  · subst hv
    simp [Builtin.append_, run_underlying ht, sizeOf, typeInfo, hi, Builtin.lenOf, Builtin.firstCells, hnc, storeCells]

theorem run_append_sees (base : Nat) (t ty e : TypeId) (i : TypeInfo) (z : Value) (size bytes : Nat) (ht : P.underlying t = some (.slice e)) (hi : P.info? e = some i) (hz : i.zero = some z)
    (hsize : i.size = size) (hby : i.bytes = bytes) (hzs : z.cells.size = size) (hsz : 0 < size)
    (v : Value) (n : Nat) (xs : List Value) (hown : w.ownsRow base e size v n xs)
    (B : Nat) (A : Option Addr) (m c : Nat) (news : List Value) (hs : Sees w B size A m news) (h1 : ∀ u ∈ news, u.oneCell' = true)
    (h63 : n + m ≤ maxLen) (hbytes : (n + m) * bytes ≤ 140737488355328) (hbase : base ≤ w.heap.size) :
    ∃ v' w', (Builtin.append_ #[t, t] ty #[v, .slice A m c]).run P w = .ok v' w' ∧ w'.ownsRow base e size v' (n + m) (xs ++ news) ∧ w.grownBy w' v.ownBlock ∧ Moved w v.ownBlock v'.ownBlock := by
  have hnil : m = 0 → news = [] := fun h0 => List.eq_nil_of_length_eq_zero (by rw [hs.1, h0, Nat.zero_mul])
  have withAddr : ∀ ad : Addr, A = some ad → (∀ j u, news[j]? = some u → w.cell? (ad.add j) = some u) →
      ∃ v' w', (Builtin.append_ #[t, t] ty #[v, .slice A m c]).run P w = .ok v' w' ∧ w'.ownsRow base e size v' (n + m) (xs ++ news) ∧ w.grownBy w' v.ownBlock ∧ Moved w v.ownBlock v'.ownBlock := by
    intro ad e1 hc
    subst e1
    obtain ⟨v', w', hr, h2, h3, _, h5⟩ := run_append_own_at (P := P) w base t ty e i z size bytes ht hi hz hsize hby hzs hsz v n xs hown ad m c news hs.1 hc h1 h63 hbytes hbase
    exact ⟨v', w', hr, h2, h3, Moved.of_at h5 (Nat.le_refl _)⟩
  rcases hs.2 with h0 | ⟨ad, e1, _, hc⟩
  · have hn := hnil h0
    subst hn
    subst h0
    cases A with
    | none => exact ⟨v, w, run_append_none w base t ty e i size ht hi v n xs hown c, by simpa using hown, World.grownBy.refl w _, .inl rfl⟩
    | some ad => exact withAddr ad rfl fun j u hu => by simp at hu
  · exact withAddr ad e1 hc

theorem wpList_append_sees {ops : Array Oper} {rest : List Oper} {o : Oper} {a : Act} {Q : Exit → Act → World → Prop} (hgd : o.guard = none) (s x : Operand) (t : TypeId)
    (ho : o.op = .call { callee := .builtin .append, args := #[s, x], argTypes := #[t, t] })
    (base : Nat) (e : TypeId) (i : TypeInfo) (z : Value) (size bytes : Nat) (ht : P.underlying t = some (.slice e)) (hi : P.info? e = some i) (hz : i.zero = some z)
    (hsize : i.size = size) (hby : i.bytes = bytes) (hzs : z.cells.size = size) (hsz : 0 < size)
    (v : Value) (n : Nat) (xs : List Value) (hs : a.eval s = v) (hown : w.ownsRow base e size v n xs)
    (B : Nat) (A : Option Addr) (m c : Nat) (news : List Value) (hx : a.eval x = .slice A m c) (hse : Sees w B size A m news) (h1 : ∀ u ∈ news, u.oneCell' = true)
    (h63 : n + m ≤ maxLen) (hbytes : (n + m) * bytes ≤ 140737488355328) (hbase : base ≤ w.heap.size)
    (h : ∀ v' w', w'.ownsRow base e size v' (n + m) (xs ++ news) → w.grownBy w' v.ownBlock → Moved w v.ownBlock v'.ownBlock → wpList P ops Q rest (a.put o.dst v') w') : wpList P ops Q (o :: rest) a w := by
  refine wpList_plain hgd fun K hK => ?_
  obtain ⟨v', w', hr, h2, h3, h4⟩ := run_append_sees (P := P) w base t o.type e i z size bytes ht hi hz hsize hby hzs hsz v n xs hown B A m c news hse h1 h63 hbytes hbase
  unfold Oper.wp execOp
  simp only [ho, resolve, invoke, builtin, Sem.run_bind, Sem.run_pure, Result.andThen_ok, List.map_toArray, List.map_cons, List.map_nil, hs, hx, hr]
  exact hK _ _ (h v' w' h2 h3 h4)

/-- 'make([]T, 0, c)', elements of one cell. -/
theorem run_make_cap (t e : TypeId) (i : TypeInfo) (z : Value) (ht : P.underlying t = some (.slice e)) (hi : P.info? e = some i) (hz : i.zero = some z)
    (kl kc : IntKind) (c : Nat) (hbytes : i.bytes * c ≤ 281474976710656) (h63 : c ≤ 9223372036854775807) :
    (Instr.makeSlice t (.int kl 0) (.int kc (c : Int))).run P w = .ok (.slice (some ⟨w.heap.size, 0, none⟩) 0 c) (w.alloc (.cells (madeCells z.cells (c * i.size)) e)) := by
  have hb : (i.bytes : Int) * (c : Int) ≤ 281474976710656 := by
    have h : ((i.bytes * c : Nat) : Int) ≤ 281474976710656 := by omega
    rwa [Int.natCast_mul] at h
  have hr := run_make (P := P) w t e i z ht hi hz kl kc 0 c (by omega) (by omega) hb (by omega)
  simp only [Int.toNat_natCast, Int.toNat_zero] at hr
  exact hr
end
end Go.Proofs.YtapbaonlboefeaaDoor
namespace Go.Proofs.YtapbaonlboefeaaDoor
open Go.RowKit

set_option maxRecDepth 20000 in
set_option maxHeartbeats 1600000 in
theorem join_any (B : Nat) (A : Option Addr) (c : Nat) (vs : List Value) (ls : List (List UInt8)) (w : World) (hs : Sees w B 1 A ls.length vs) (hl : Lists w B vs ls) (hB : B ≤ w.heap.size) (hT : (joinF ls).length ≤ 140737488355328) :
    Calls Tryd.prog 43 #[.slice A ls.length c] w fun e w' => ∃ v', e = .returned v' ∧ w'.ownsRow w.heap.size 5 1 v' (joinF ls).length (bys (joinF ls)) ∧ Below w.heap.size w w' := by
  obtain ⟨i0, hi, hz0, hz1, hz2⟩ := info_parts Tryd.infoByte
  have hn : ls.length ≤ 140737488355328 := by have := partsOf_ge ls; rw [joinF_len] at hT; omega
  have hTs : sizeTo ls ls.length ≤ 140737488355328 := by rw [sizeTo_all]; exact hT
  have hmk := fun W => run_make_cap (P := Tryd.prog) W 31 5 i0 (.int .u8 0) Tryd.underlying31 hi hz0 .i64 .i64 (sizeTo ls ls.length) (by rw [hz2]; omega) (by omega)
  rw [hz1, Nat.mul_one] at hmk
  go_enter Tryd.func43, Tryd.ntmps43
  go_wp2
  go_loop [3, 5, 11] (fun s _ i => ∃ k : Nat, k ≤ ls.length ∧ i = .int .i64 (k : Int) ∧ s = .int .i64 (sizeTo ls k : Int)) (fun _ _ i => ls.length - (intOf i).toNat)
  case atStart => exact ⟨0, by omega, rfl, rfl⟩
  case round =>
    obtain ⟨k, hk, rfl, rfl⟩ := hrel
    rcases Nat.lt_or_ge k ls.length with hlt | hge
    · obtain ⟨ad, u, hA, -, hx, hc⟩ := hs.at_ hlt
      obtain ⟨A1, c1, h1, h2, h3, -⟩ := hl.at_ hlt
      rw [h1] at hx
      injection hx with hx
      subst hx
      have hst := Lib.hid (sizeTo_step ls k hlt)
      have hle := sizeTo_le ls (k + 1)
      rw [hst.out] at hle
      subst hA
      clear hs hl h1
      go_wp2
      go_round
      case rel => exact ⟨k + 1, by omega, by go_num, by rw [hst.out]; go_num⟩
      case measure => simp [intOf]; omega
    · obtain rfl : k = ls.length := by omega
      have hown0 : (w.alloc (Obj.cells (madeCells #[Value.int IntKind.u8 0] (sizeTo ls ls.length)) 5)).ownsRow w.heap.size 5 1 (Value.slice (some { block := w.heap.size, off := 0 }) 0 (sizeTo ls ls.length)) 0 (bys []) :=
        World.ownsRow_made w _ _ (Nat.le_refl _) (by unfold maxLen; omega) (by rw [size_madeCells]; omega)
      go_wp2_with (go_at_call 63; refine (appendNumber_any w.heap.size _ 0 [] ls.length _ hown0 (by simp) (by omega) (by omega)).mono ?_; rintro e w1 ⟨v1, rfl, hown1, hg1, hm1⟩)
      have hB1 : Below w.heap.size w w1 := ((Below.refl _ _).alloc (Nat.le_refl _) _).grown hg1 (by simp) (by simp [Value.ownBlock])
      have hO1 : w1.ownsRow w.heap.size 5 1 v1 (sizeTo ls 0) (bys (joinTo ls 0)) := by simpa [sizeTo, joinTo, partsOf] using hown1
      clear hown0 hown1 hg1 hm1 hmk
      go_wp2_with fail
      go_loopw [6, 8, 28] (fun u _ i wr => ∃ k : Nat, k ≤ ls.length ∧ i = .int .i64 (k : Int) ∧ wr.ownsRow w.heap.size 5 1 u (sizeTo ls k) (bys (joinTo ls k)) ∧ Below w.heap.size w wr) (fun _ _ i _ => ls.length - (intOf i).toNat)
      case atStart => exact ⟨0, by omega, rfl, hO1, hB1⟩
      case round =>
        obtain ⟨k, hk, rfl, hO, hBw⟩ := hrel
        rcases Nat.lt_or_ge k ls.length with hlt | hge
        · obtain ⟨ad, u, hA, hb, hx, hc⟩ := hs.at_ hlt
          obtain ⟨A1, c1, h1, h2, h3, h4⟩ := hl.at_ hlt
          rw [h1] at hx
          injection hx with hx
          subst hx
          subst hA
          have hcr := (hBw.cell (p := ad.add k) (by rw [add_block]; omega)).trans hc
          have hst := Lib.hid (sizeTo_step ls k hlt)
          have hjt := Lib.hid (joinTo_step ls k hlt)
          have hle := sizeTo_le ls (k + 1)
          rw [hst.out] at hle
          have hH := Lib.hid hs
          have hL := Lib.hid hl
          clear hs hl h1 hc
          go_wp2_with fail
          refine (appendNumber_any w.heap.size _ _ _ _ _ hO hBw.size (by omega) (by omega)).mono ?_
          rintro e w2 ⟨v2, rfl, hown2, hg2, hm2⟩
          have hB2 : Below w.heap.size w w2 := hBw.grown hg2 hBw.size (fun g hg => (hO.lt g hg).1)
          have h42 := h4.below (hB2.mono hB)
          go_wp2_with (at_builtin; refine wpList_append_sees _ rfl (.tmp 36) (.tmp 37) 31 rfl w.heap.size 5 i0 (.int .u8 0) 1 1 Tryd.underlying31 hi hz0 hz1 hz2 rfl (by decide) v2 _ _ rfl hown2 B A1 _ c1 _ rfl h42 (bys_one _) ?c1 ?c2 hB2.size ?_)
          case c1 => unfold maxLen; omega
          case c2 => omega
          intro v3 w3 hown3 hg3 hm3
          have hB3 : Below w.heap.size w w3 := hB2.grown hg3 hB2.size (fun g hg => (hown2.lt g hg).1)
          have hO3 : w3.ownsRow w.heap.size 5 1 v3 (sizeTo ls (k + 1)) (bys (joinTo ls (k + 1))) := by
            rw [hst.out, hjt.out, bys_append, ← Nat.add_assoc]; exact hown3
          have hs := hH.out
          have hl := hL.out
          clear hown2 hown3 hg2 hg3 hm2 hm3 hO hBw hB2 h42 h4
          go_wp2
          go_roundw
          case rel => exact ⟨k + 1, by omega, by go_num, hO3, hB3⟩
          case measure => simp [intOf]; omega
        · obtain rfl : k = ls.length := by omega
          go_wp2
          go_ret
          exact ⟨_, rfl, by rw [← sizeTo_all, ← joinTo_all]; exact hO, hBw⟩
end Go.Proofs.YtapbaonlboefeaaDoor
