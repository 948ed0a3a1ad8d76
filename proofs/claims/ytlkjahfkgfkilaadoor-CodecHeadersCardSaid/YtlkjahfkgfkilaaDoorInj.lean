/- A header's cells and its bytes tell each other. -/
import Derived.Test.YtlkjahfkgfkilaaDoorConv
namespace Go.Proofs.YtlkjahfkgfkilaaDoor
open Go.RowKit

/-- Bytes and cells tell each other. -/
def Tells (R : Rel) : Prop := ∀ (w w' : World) (p p' : Nat → Prop) (cs cs' : List Value) (b b' : List UInt8), R w p cs b → R w' p' cs' b' → (cs = cs' ↔ b = b')
theorem numR_tells (k : IntKind) (hk : k = .i64 ∨ k = .u64) : Tells (numR k) := by
  rintro w w' p p' cs cs' b b' ⟨n, hn, rfl, rfl⟩ ⟨m, hm, rfl, rfl⟩
  constructor
  · intro h
    injection h with h
    injection h with _ h
    have h2 := congrArg IntKind.u64.wrap h
    rw [wrap_back k hk n hn, wrap_back k hk m hm] at h2
    rw [Int.ofNat.inj h2]
  · intro h
    have h2 := congrArg un8 h
    rw [un8_b8 n hn, un8_b8 m hm] at h2
    rw [h2]
theorem digR_tells : Tells digR := by
  rintro w w' p p' cs cs' b b' ⟨_, rfl⟩ ⟨_, rfl⟩
  exact ⟨bys_inj, fun h => by rw [h]⟩
/-- The number of a relation's cells. -/
def Long (R : Rel) (n : Nat) : Prop := ∀ (w : World) (p : Nat → Prop) (cs : List Value) (b : List UInt8), R w p cs b → cs.length = n
inductive TellsAll : List Rel → Prop
  | nil : TellsAll []
  | cons {R : Rel} {n : Nat} {Rs : List Rel} (h : Tells R) (hl : Long R n) (t : TellsAll Rs) : TellsAll (R :: Rs)
theorem fields_tell {w w' : World} {p p' : Nat → Prop} : ∀ {Rs : List Rel}, TellsAll Rs → ∀ {cs cs' : List Value} {ps ps' : List (List UInt8)}, Fields w p Rs cs ps → Fields w' p' Rs cs' ps' → (cs = cs' ↔ ps = ps') := by
  intro Rs hT
  induction hT with
  | nil =>
    rintro cs cs' ps ps' ⟨rfl, rfl⟩ ⟨rfl, rfl⟩
    exact ⟨fun _ => rfl, fun _ => rfl⟩
  | cons h hl _ ih =>
    rintro cs cs' ps ps' ⟨c1, c2, q, qs, rfl, rfl, h1, h2⟩ ⟨d1, d2, r, rs, rfl, rfl, k1, k2⟩
    have hle : c1.length = d1.length := by rw [hl _ _ _ _ h1, hl _ _ _ _ k1]
    constructor
    · intro e
      obtain ⟨e1, e2⟩ := List.append_inj e hle
      rw [(h _ _ _ _ _ _ _ _ h1 k1).1 e1, (ih h2 k2).1 e2]
    · intro e
      injection e with e1 e2
      rw [(h _ _ _ _ _ _ _ _ h1 k1).2 e1, (ih h2 k2).2 e2]
theorem numR_long (k : IntKind) : Long (numR k) 1 := by
  rintro w p cs b ⟨n, _, _, rfl⟩
  rfl
theorem digR_long : Long digR 32 := fun _ _ cs b h => by rw [h.2, bys_len, h.1]
theorem header_tells {w w' : World} {p p' : Nat → Prop} {cs cs' : List Value} {b b' : List UInt8} (h : headerR w p cs b) (h' : headerR w' p' cs' b') : cs = cs' ↔ b = b' := by
  have hs := headerR_size h
  have hs' := headerR_size h'
  obtain ⟨ps, h1, rfl⟩ := h
  obtain ⟨ps', h1', rfl⟩ := h'
  have n := numR_tells .i64 (.inl rfl)
  have l := numR_long .i64
  have hf := fields_tell (.cons n l (.cons n l (.cons n l (.cons n l (.cons digR_tells digR_long (.cons digR_tells digR_long (.cons digR_tells digR_long (.cons n l .nil)))))))) h1 h1'
  rw [hf]
  constructor
  · intro e; rw [e]
  · intro e
    obtain ⟨k1, k2⟩ := parts_lt (ps := ps) (by rw [hs]; decide)
    obtain ⟨k3, k4⟩ := parts_lt (ps := ps') (by rw [hs']; decide)
    exact joinF_inj k1 k3 k2 k4 e
end Go.Proofs.YtlkjahfkgfkilaaDoor
