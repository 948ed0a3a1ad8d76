/- What it is for cells to be a thing whose encoding is such bytes, type by type; and which bytes are encodings at all. Nothing of the program. -/
import Derived.Test.YtlkjahfkgfkilaaDoorLists
namespace Go.Proofs.YtlkjahfkgfkilaaDoor
open Go.RowKit

/-- The blocks of which p holds hold what they held. -/
def Same (w w' : World) (p : Nat → Prop) : Prop := ∀ a : Addr, p a.block → w'.cell? a = w.cell? a
theorem Same.rfl_ {w : World} {p : Nat → Prop} : Same w w p := fun _ _ => rfl
theorem Same.of_below {w w' : World} {p : Nat → Prop} {C : Nat} (h : Below C w w') (hp : ∀ k, p k → k < C) : Same w w' p := fun _ hb => h.cell (hp _ hb)
theorem Same.trans {w w' w'' : World} {p : Nat → Prop} (h : Same w w' p) (k : Same w' w'' p) : Same w w'' p := fun a h1 => (k a h1).trans (h a h1)

/-- Cells, at a world, that are a thing with such an encoding; what it holds in memory lies in blocks of which p holds. -/
abbrev Rel := World → (Nat → Prop) → List Value → List UInt8 → Prop
def Kept (R : Rel) : Prop := ∀ (w w' : World) (p p' : Nat → Prop) (cs : List Value) (b : List UInt8), R w p cs b → Same w w' p → (∀ k, p k → p' k) → R w' p' cs b
def Lies (w : World) (p : Nat → Prop) (size : Nat) (A : Option Addr) (n : Nat) (xs : List Value) : Prop :=
  xs.length = n * size ∧ (∀ ad, A = some ad → p ad.block) ∧ (n = 0 ∨ ∃ ad, A = some ad ∧ ∀ j u, xs[j]? = some u → w.cell? (ad.add j) = some u)
theorem Lies.kept {w w' : World} {p p' : Nat → Prop} {size n : Nat} {A : Option Addr} {xs : List Value} (h : Lies w p size A n xs) (hs : Same w w' p) (hp : ∀ k, p k → p' k) : Lies w' p' size A n xs := by
  refine ⟨h.1, fun ad e => hp _ (h.2.1 ad e), h.2.2.imp id ?_⟩
  rintro ⟨ad, e, hx⟩
  exact ⟨ad, e, fun j u hu => (hs _ (by rw [add_block]; exact h.2.1 ad e)).trans (hx j u hu)⟩
theorem Lies.sees {w : World} {p : Nat → Prop} {B size n : Nat} {A : Option Addr} {xs : List Value} (h : Lies w p size A n xs) (hB : ∀ k, p k → k < B) : Sees w B size A n xs := by
  refine ⟨h.1, h.2.2.imp id ?_⟩
  rintro ⟨ad, e, hx⟩
  exact ⟨ad, e, hB _ (h.2.1 ad e), hx⟩

def numR (k : IntKind) : Rel := fun _ _ cs b => ∃ n : Nat, n < 2 ^ 64 ∧ b = b8 n ∧ cs = [.int k (k.wrap n)]
def digR : Rel := fun _ _ cs b => b.length = 32 ∧ cs = bys b
def boolR : Rel := fun _ _ cs b => ∃ t : Bool, cs = [.bool t] ∧ b = [if t then 1 else 0]
def bytR : Rel := fun w p cs b => ∃ A c, cs = [.slice A b.length c] ∧ b.length ≤ c ∧ c ≤ 9223372036854775807 ∧ Lies w p 1 A b.length (bys b)
/-- The n elements of 'size' cells each are things, their encodings the parts. -/
def Elems (size : Nat) (R : Rel) (w : World) (p : Nat → Prop) (xs : List Value) (ps : List (List UInt8)) : Prop :=
  xs.length = ps.length * size ∧ ∀ (i : Nat) (q : List UInt8), ps[i]? = some q → R w p ((xs.drop (i * size)).take size) q
def lstR (size : Nat) (R : Rel) : Rel := fun w p cs b => ∃ A c xs ps, cs = [.slice A ps.length c] ∧ ps.length ≤ c ∧ c ≤ 9223372036854775807 ∧ Lies w p size A ps.length xs ∧ Elems size R w p xs ps ∧ b = joinF ps
def Fields (w : World) (p : Nat → Prop) : List Rel → List Value → List (List UInt8) → Prop
  | [], cs, ps => cs = [] ∧ ps = []
  | R :: Rs, cs, ps => ∃ c1 c2 q qs, cs = c1 ++ c2 ∧ ps = q :: qs ∧ R w p c1 q ∧ Fields w p Rs c2 qs
def strR (Rs : List Rel) : Rel := fun w p cs b => ∃ ps, Fields w p Rs cs ps ∧ b = joinF ps

theorem numR_kept (k : IntKind) : Kept (numR k) := fun _ _ _ _ _ _ h _ _ => h
theorem digR_kept : Kept digR := fun _ _ _ _ _ _ h _ _ => h
theorem boolR_kept : Kept boolR := fun _ _ _ _ _ _ h _ _ => h
theorem bytR_kept : Kept bytR := fun _ _ _ _ _ _ ⟨A, c, h1, h2, h3, h4⟩ hs hp => ⟨A, c, h1, h2, h3, h4.kept hs hp⟩
theorem Elems.kept {size : Nat} {R : Rel} (hk : Kept R) {w w' : World} {p p' : Nat → Prop} {xs : List Value} {ps : List (List UInt8)} (h : Elems size R w p xs ps) (hs : Same w w' p) (hp : ∀ k, p k → p' k) : Elems size R w' p' xs ps :=
  ⟨h.1, fun i q hq => hk _ _ _ _ _ _ (h.2 i q hq) hs hp⟩
theorem lstR_kept {size : Nat} {R : Rel} (hk : Kept R) : Kept (lstR size R) := fun _ _ _ _ _ _ ⟨A, c, xs, ps, h1, h2, h3, h4, h5, h6⟩ hs hp => ⟨A, c, xs, ps, h1, h2, h3, h4.kept hs hp, h5.kept hk hs hp, h6⟩
theorem Fields.kept {Rs : List Rel} (hk : ∀ R ∈ Rs, Kept R) {w w' : World} {p p' : Nat → Prop} (hs : Same w w' p) (hp : ∀ k, p k → p' k) : ∀ {cs : List Value} {ps : List (List UInt8)}, Fields w p Rs cs ps → Fields w' p' Rs cs ps := by
  induction Rs with
  | nil => intro cs ps h; exact h
  | cons R Rs ih =>
    rintro cs ps ⟨c1, c2, q, qs, h1, h2, h3, h4⟩
    exact ⟨c1, c2, q, qs, h1, h2, hk R (by simp) _ _ _ _ _ _ h3 hs hp, ih (fun R' hR => hk R' (by simp [hR])) h4⟩
theorem strR_kept {Rs : List Rel} (hk : ∀ R ∈ Rs, Kept R) : Kept (strR Rs) := fun _ _ _ _ _ _ ⟨ps, h1, h2⟩ hs hp => ⟨ps, h1.kept hk hs hp, h2⟩

/-- Which bytes are an encoding. -/
abbrev Form := List UInt8 → Prop
def numF : Form := fun b => b.length = 8
def digF : Form := fun b => b.length = 32
def boolF : Form := fun b => b = [0] ∨ b = [1]
def bytF : Form := fun _ => True
def lstF (F : Form) : Form := fun b => ∃ ps, splitF b = some ps ∧ ∀ p ∈ ps, F p
def FieldsF : List Form → List (List UInt8) → Prop
  | [], ps => ps = []
  | F :: Fs, ps => ∃ p qs, ps = p :: qs ∧ F p ∧ FieldsF Fs qs
def strF (Fs : List Form) : Form := fun b => ∃ ps, splitF b = some ps ∧ FieldsF Fs ps
/-- What is a thing is an encoding of one. -/
def Told (R : Rel) (F : Form) : Prop := ∀ (w : World) (p : Nat → Prop) (cs : List Value) (b : List UInt8), R w p cs b → b.length < 2 ^ 64 → F b
theorem parts_lt {ps : List (List UInt8)} (h : (joinF ps).length < 2 ^ 64) : (∀ p ∈ ps, p.length < 2 ^ 64) ∧ ps.length < 2 ^ 64 := by
  have h8 := partsOf_ge ps
  rw [joinF_len] at h
  refine ⟨fun p hp => ?_, by omega⟩
  obtain ⟨a, c, rfl⟩ := List.append_of_mem hp
  rw [partsOf_append, List.length_append, partsOf, List.length_append, part_len] at h
  omega
theorem numR_told (k : IntKind) : Told (numR k) numF := fun _ _ _ _ ⟨n, _, h, _⟩ _ => by rw [h]; exact b8_len n
theorem digR_told : Told digR digF := fun _ _ _ _ h _ => h.1
theorem boolR_told : Told boolR boolF := fun _ _ _ _ ⟨t, _, h⟩ _ => by cases t; exact .inl h; exact .inr h
theorem bytR_told : Told bytR bytF := fun _ _ _ _ _ _ => trivial
theorem lstR_told {size : Nat} {R : Rel} {F : Form} (ht : Told R F) : Told (lstR size R) (lstF F) := by
  rintro w p cs b ⟨A, c, xs, ps, h1, h2, h3, h4, h5, rfl⟩ hl
  obtain ⟨k1, k2⟩ := parts_lt hl
  refine ⟨ps, split_join ps k1 k2, fun q hq => ?_⟩
  obtain ⟨i, hi⟩ := List.mem_iff_getElem?.1 hq
  exact ht _ _ _ _ (h5.2 i q hi) (k1 q hq)
inductive Told2 : List Rel → List Form → Prop
  | nil : Told2 [] []
  | cons {R : Rel} {F : Form} {Rs : List Rel} {Fs : List Form} (h : Told R F) (t : Told2 Rs Fs) : Told2 (R :: Rs) (F :: Fs)
theorem Fields.told {w : World} {p : Nat → Prop} : ∀ {Rs : List Rel} {Fs : List Form}, Told2 Rs Fs → ∀ {cs : List Value} {ps : List (List UInt8)}, Fields w p Rs cs ps → (∀ p ∈ ps, p.length < 2 ^ 64) → FieldsF Fs ps := by
  intro Rs Fs hF
  induction hF with
  | nil => intro cs ps h _; exact h.2
  | cons ht _ ih =>
    rintro cs ps ⟨c1, c2, q, qs, h1, rfl, h3, h4⟩ hl
    exact ⟨q, qs, rfl, ht _ _ _ _ h3 (hl q (by simp)), ih h4 fun q hq => hl q (by simp [hq])⟩
theorem strR_told {Rs : List Rel} {Fs : List Form} (ht : Told2 Rs Fs) : Told (strR Rs) (strF Fs) := by
  rintro w p cs b ⟨ps, h1, rfl⟩ hl
  obtain ⟨k1, k2⟩ := parts_lt hl
  exact ⟨ps, split_join ps k1 k2, h1.told ht k1⟩
end Go.Proofs.YtlkjahfkgfkilaaDoor
