/- Digests as literals. -/
import Derived.Test.YtkhbogccmngmmaaDoorJb
import Derived.DeepKeys
namespace Go.Proofs.YtkhbogccmngmmaaDoor
open Go.RowKit

def toLit : Value → Lit
  | .int k n => .int k n
  | _ => .bool false
theorem toLit_inj : ∀ (a b : List Value), (∀ v ∈ a, ∃ k n, v = .int k n) → (∀ v ∈ b, ∃ k n, v = .int k n) → a.map toLit = b.map toLit → a = b
  | [], [], _, _, _ => rfl
  | [], y :: b, _, _, h => by simp at h
  | x :: a, [], _, _, h => by simp at h
  | x :: a, y :: b, ha, hb, h => by
    obtain ⟨k, n, rfl⟩ := ha x (by simp)
    obtain ⟨k', n', rfl⟩ := hb y (by simp)
    simp only [List.map_cons, List.cons.injEq, toLit, Lit.int.injEq] at h
    rw [h.1.1, h.1.2, toLit_inj a b (fun v hv => ha v (by simp [hv])) (fun v hv => hb v (by simp [hv])) h.2]
theorem mapM_some {α β : Type} (f : α → Option β) (g : α → β) : ∀ l : List α, (∀ i ∈ l, f i = some (g i)) → l.mapM f = some (l.map g)
  | [], _ => rfl
  | x :: l, h => by
    rw [List.mapM_cons, h x (by simp), mapM_some f g l (fun i hi => h i (by simp [hi]))]
    rfl
theorem i64_wf (n : Nat) : (Lit.int .i64 (IntKind.i64.wrap (n : Int))).wf = true := by
  simp only [Lit.wf, IntKind.min, IntKind.max, IntKind.wrap, IntKind.bits, IntKind.signed]
  simp
  omega
theorem key_int (d n : Nat) : Tryd.prog.keyLits (d + 1) 3 [.int .i64 (IntKind.i64.wrap (n : Int))] = some [.int .i64 (IntKind.i64.wrap (n : Int))] := by
  unfold Program.keyLits
  simp only [Tryd.underlying3]
  rw [if_pos ⟨trivial, i64_wf n⟩]
theorem key_i64 (d n : Nat) : Tryd.prog.keyLits (d + 1) 2 [.int .i64 (IntKind.i64.wrap (n : Int))] = some [.int .i64 (IntKind.i64.wrap (n : Int))] := by
  unfold Program.keyLits
  simp only [Tryd.underlying2]
  rw [if_pos ⟨trivial, i64_wf n⟩]
theorem key_byte (d : Nat) (x : UInt8) : Tryd.prog.keyLits (d + 1) 5 [by_ x] = some [toLit (by_ x)] := by
  have hx := x.toNat_lt
  unfold Program.keyLits
  simp only [Tryd.underlying5]
  rw [if_pos ⟨trivial, by simp only [Lit.wf, IntKind.min, IntKind.max, IntKind.bits, IntKind.signed]; simp; omega⟩]
  rfl
theorem key_digest (d : Nat) (b : List UInt8) (hb : b.length = 32) : Tryd.prog.keyLits (d + 2) 24 (bys b) = some ((bys b).map toLit) := by
  have hc : Tryd.prog.cellsOf 24 = 32 := by kernel_rfl
  have hc1 : Tryd.prog.cellsOf 5 = 1 := by kernel_rfl
  unfold Program.keyLits
  simp only [Tryd.underlying24, hc, hc1]
  rw [if_pos (by rw [bys_len, hb])]
  rw [mapM_some _ (fun i => [toLit ((bys b).getD i .nilIface)]) (List.range 32) (fun i hi => by
    have hi : i < b.length := by rw [hb]; exact List.mem_range.1 hi
    have hi2 : i < (bys b).length := by rw [bys_len]; exact hi
    have e : ((bys b).drop (i * 1)).take 1 = [by_ (b[i]'hi)] := by
      rw [Nat.mul_one, List.drop_eq_getElem_cons hi2]
      simp [bys]
    rw [e, key_byte]
    simp [bys, List.getD, hi])]
  simp only [Option.map_some, Option.some.injEq]
  have hf : ∀ l : List Nat, (l.map fun i => [toLit ((bys b).getD i .nilIface)]).flatten = l.map fun i => toLit ((bys b).getD i .nilIface) := by
    intro l
    induction l with
    | nil => rfl
    | cons x l ih => rw [List.map_cons, List.flatten_cons, ih]; rfl
  rw [hf]
  apply List.ext_getElem?
  intro i
  rcases Nat.lt_or_ge i 32 with h | h
  · have hi2 : i < (bys b).length := by rw [bys_len, hb]; exact h
    simp [h, List.getD, hi2]
  · rw [List.getElem?_eq_none (by simpa using h), List.getElem?_eq_none (by simp [bys_len, hb]; exact h)]
end Go.Proofs.YtkhbogccmngmmaaDoor
