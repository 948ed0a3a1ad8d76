/- SHA-256 over bytes that come in pieces: plain functions. -/
import Derived.Test.YtapbaonlboefeaaDoorShaP
namespace Go.Proofs.YtapbaonlboefeaaDoor

def init0 : St := ⟨0x6a09e667, 0xbb67ae85, 0x3c6ef372, 0xa54ff53a, 0x510e527f, 0x9b05688c, 0x1f83d9ab, 0x5be0cd19⟩
def absorb : Nat → St → List UInt8 → St
  | 0, s, _ => s
  | n + 1, s, l => absorb n (compress s (l.take 64)) (l.drop 64)
/-- What does not fill a block. -/
def left_ (l : List UInt8) : List UInt8 := l.drop (64 * (l.length / 64))
/-- All whole blocks. -/
def whole (s : St) (l : List UInt8) : St := absorb (l.length / 64) s l

theorem absorb_add : ∀ (i j : Nat) (s : St) (l : List UInt8), absorb (i + j) s l = absorb j (absorb i s l) (l.drop (64 * i))
  | 0, j, s, l => by simp [absorb]
  | i + 1, j, s, l => by
    rw [show i + 1 + j = (i + j) + 1 from by omega]
    simp only [absorb]
    rw [absorb_add i j, List.drop_drop, show 64 + 64 * i = 64 * (i + 1) from by omega]
theorem absorb_take : ∀ (i : Nat) (s : St) (l x : List UInt8), 64 * i ≤ l.length → absorb i s (l ++ x) = absorb i s l
  | 0, s, l, x, _ => rfl
  | i + 1, s, l, x, h => by
    simp only [absorb]
    rw [List.take_append_of_le_length (by omega), List.drop_append_of_le_length (by omega), absorb_take i _ _ _ (by rw [List.length_drop]; omega)]
theorem left_len (l : List UInt8) : (left_ l).length = l.length % 64 := by rw [left_, List.length_drop]; omega
theorem whole_small (s : St) (l : List UInt8) (h : l.length < 64) : whole s l = s := by rw [whole, show l.length / 64 = 0 from by omega]; rfl
theorem left_small (l : List UInt8) (h : l.length < 64) : left_ l = l := by rw [left_, show l.length / 64 = 0 from by omega]; simp
theorem whole_step (s : St) (l : List UInt8) (h : 64 ≤ l.length) : whole s l = whole (compress s (l.take 64)) (l.drop 64) := by
  rw [whole, whole, List.length_drop, show l.length / 64 = (l.length - 64) / 64 + 1 from by omega]; rfl
theorem left_step (l : List UInt8) (h : 64 ≤ l.length) : left_ l = left_ (l.drop 64) := by
  rw [left_, left_, List.length_drop, List.drop_drop, show 64 + 64 * ((l.length - 64) / 64) = 64 * (l.length / 64) from by omega]
theorem whole_append (s : St) (m b : List UInt8) : whole s (m ++ b) = whole (whole s m) (left_ m ++ b) := by
  have h1 : (m ++ b).length / 64 = m.length / 64 + (left_ m ++ b).length / 64 := by
    rw [List.length_append, List.length_append, left_len]; omega
  rw [whole, h1, absorb_add, absorb_take _ _ _ _ (by omega), List.drop_append_of_le_length (by omega)]
  rfl
theorem left_append (m b : List UInt8) : left_ (m ++ b) = left_ (left_ m ++ b) := by
  have h1 : (m ++ b).length / 64 = m.length / 64 + (left_ m ++ b).length / 64 := by
    rw [List.length_append, List.length_append, left_len]; omega
  rw [left_, h1, Nat.mul_add, ← List.drop_drop, List.drop_append_of_le_length (by omega)]
  rfl

/-- How many noughts the padded bytes take. -/
def padZeros (n : Nat) : Nat := (119 - n % 64) % 64
def padF (m : List UInt8) : List UInt8 := m ++ ([0x80] ++ (List.replicate (padZeros m.length) 0 ++ b8 (8 * m.length)))
def digestOf (s : St) : List UInt8 := s.list.flatMap bytesOf
def shaF (m : List UInt8) : List UInt8 := digestOf (whole init0 (padF m))
theorem digestOf_len (s : St) : (digestOf s).length = 32 := rfl
theorem shaF_len (m : List UInt8) : (shaF m).length = 32 := rfl
end Go.Proofs.YtapbaonlboefeaaDoor
