/- '==' between two headers: true where the cells are alike. -/
import Derived.Test.YtlkjahfkgfkilaaDoorInj
import Derived.DeepKeys
namespace Go.Proofs.YtlkjahfkgfkilaaDoor
open Go.RowKit

def toLit : Value → Lit
  | .int k n => .int k n
  | _ => .bool false
theorem toLit_inj : ∀ (a b : List Value), (∀ v ∈ a, ∃ k n, v = .int k n) → (∀ v ∈ b, ∃ k n, v = .int k n) → a.map toLit = b.map toLit → a = b
  | [], [], _, _, _ => rfl
  | [], y :: b, _, _, h => by simp at h
  | x :: a, [], _, _, h => by simp at h
  | x :: a, y :: b, ha, hb, h => by
    obtain ⟨k, n, rfl⟩ := ha x (by simp)
    obtain ⟨k', n', rfl⟩ := hb y (by simp)
    simp only [List.map_cons, List.cons.injEq, toLit, Lit.int.injEq] at h
    rw [h.1.1, h.1.2, toLit_inj a b (fun v hv => ha v (by simp [hv])) (fun v hv => hb v (by simp [hv])) h.2]
theorem mapM_some {α β : Type} (f : α → Option β) (g : α → β) : ∀ l : List α, (∀ i ∈ l, f i = some (g i)) → l.mapM f = some (l.map g)
  | [], _ => rfl
  | x :: l, h => by
    rw [List.mapM_cons, h x (by simp), mapM_some f g l (fun i hi => h i (by simp [hi]))]
    rfl
theorem i64_wf (n : Nat) : (Lit.int .i64 (IntKind.i64.wrap (n : Int))).wf = true := by
  simp only [Lit.wf, IntKind.min, IntKind.max, IntKind.wrap, IntKind.bits, IntKind.signed]
  simp
  omega
theorem key_int (d n : Nat) : Tryd.prog.keyLits (d + 1) 3 [.int .i64 (IntKind.i64.wrap (n : Int))] = some [.int .i64 (IntKind.i64.wrap (n : Int))] := by
  unfold Program.keyLits
  simp only [Tryd.underlying3]
  rw [if_pos ⟨trivial, i64_wf n⟩]
theorem key_i64 (d n : Nat) : Tryd.prog.keyLits (d + 1) 2 [.int .i64 (IntKind.i64.wrap (n : Int))] = some [.int .i64 (IntKind.i64.wrap (n : Int))] := by
  unfold Program.keyLits
  simp only [Tryd.underlying2]
  rw [if_pos ⟨trivial, i64_wf n⟩]
theorem key_byte (d : Nat) (x : UInt8) : Tryd.prog.keyLits (d + 1) 5 [by_ x] = some [toLit (by_ x)] := by
  have hx := x.toNat_lt
  unfold Program.keyLits
  simp only [Tryd.underlying5]
  rw [if_pos ⟨trivial, by simp only [Lit.wf, IntKind.min, IntKind.max, IntKind.bits, IntKind.signed]; simp; omega⟩]
  rfl
theorem key_digest (d : Nat) (b : List UInt8) (hb : b.length = 32) : Tryd.prog.keyLits (d + 2) 23 (bys b) = some ((bys b).map toLit) := by
  have hc : Tryd.prog.cellsOf 23 = 32 := by kernel_rfl
  have hc1 : Tryd.prog.cellsOf 5 = 1 := by kernel_rfl
  unfold Program.keyLits
  simp only [Tryd.underlying23, hc, hc1]
  rw [if_pos (by rw [bys_len, hb])]
  rw [mapM_some _ (fun i => [toLit ((bys b).getD i .nilIface)]) (List.range 32) (fun i hi => by
    have hi : i < b.length := by rw [hb]; exact List.mem_range.1 hi
    have hi2 : i < (bys b).length := by rw [bys_len]; exact hi
    have e : ((bys b).drop (i * 1)).take 1 = [by_ (b[i]'hi)] := by
      rw [Nat.mul_one, List.drop_eq_getElem_cons hi2]
      simp [bys]
    rw [e, key_byte]
    simp [bys, List.getD, hi])]
  simp only [Option.map_some, Option.some.injEq]
  have hf : ∀ l : List Nat, (l.map fun i => [toLit ((bys b).getD i .nilIface)]).flatten = l.map fun i => toLit ((bys b).getD i .nilIface) := by
    intro l
    induction l with
    | nil => rfl
    | cons x l ih => rw [List.map_cons, List.flatten_cons, ih]; rfl
  rw [hf]
  apply List.ext_getElem?
  intro i
  rcases Nat.lt_or_ge i 32 with h | h
  · have hi2 : i < (bys b).length := by rw [bys_len, hb]; exact h
    simp [h, List.getD, hi2]
  · rw [List.getElem?_eq_none (by simpa using h), List.getElem?_eq_none (by simp [bys_len, hb]; exact h)]
/-- A header's cells, as literals. -/
theorem key_header {w : World} {p : Nat → Prop} {cs : List Value} {b : List UInt8} (d : Nat) (h : headerR w p cs b) : Tryd.prog.keyLits (d + 3) 25 cs = some (cs.map toLit) ∧ ∀ v ∈ cs, ∃ k n, v = .int k n := by
  obtain ⟨hcl, -⟩ := headerR_len _ _ _ _ h
  obtain ⟨ps, h, rfl⟩ := h
  obtain ⟨_, _, b0, _, rfl, rfl, h0, _, _, b1, _, rfl, rfl, h1, _, _, b2, _, rfl, rfl, h2, _, _, b3, _, rfl, rfl, h3, _, _, b4, _, rfl, rfl, h4, _, _, b5, _, rfl, rfl, h5, _, _, b6, _, rfl, rfl, h6, _, _, b7, _, rfl, rfl, h7, rfl, rfl⟩ := h
  obtain ⟨n0, -, -, rfl⟩ := h0
  obtain ⟨n1, -, -, rfl⟩ := h1
  obtain ⟨n2, -, -, rfl⟩ := h2
  obtain ⟨n3, -, -, rfl⟩ := h3
  obtain ⟨hl4, rfl⟩ := h4
  obtain ⟨hl5, rfl⟩ := h5
  obtain ⟨hl6, rfl⟩ := h6
  obtain ⟨n7, -, -, rfl⟩ := h7
  have hc : Tryd.prog.cellsOf 25 = 101 := by kernel_rfl
  have hcI : Tryd.prog.cellsOf 3 = 1 := by kernel_rfl
  have hcJ : Tryd.prog.cellsOf 2 = 1 := by kernel_rfl
  have hcD : Tryd.prog.cellsOf 23 = 32 := by kernel_rfl
  refine ⟨?_, fun v hv => ?_⟩
  · generalize hcs : ([Value.int IntKind.i64 (IntKind.i64.wrap ↑n0)] ++ ([Value.int IntKind.i64 (IntKind.i64.wrap ↑n1)] ++ ([Value.int IntKind.i64 (IntKind.i64.wrap ↑n2)] ++ ([Value.int IntKind.i64 (IntKind.i64.wrap ↑n3)] ++ (bys b4 ++ (bys b5 ++ (bys b6 ++ ([Value.int IntKind.i64 (IntKind.i64.wrap ↑n7)] ++ [])))))))) = cs at hcl ⊢
    have a0 := At.of hcs
    have a1 := a0.next 1 1 rfl rfl
    have a2 := a1.next 1 2 rfl rfl
    have a3 := a2.next 1 3 rfl rfl
    have a4 := a3.next 1 4 rfl rfl
    have a5 := a4.next 32 36 (by rw [bys_len, hl4]) rfl
    have a6 := a5.next 32 68 (by rw [bys_len, hl5]) rfl
    have a7 := a6.next 32 100 (by rw [bys_len, hl6]) rfl
    have t4 : ((bys b4 ++ (bys b5 ++ (bys b6 ++ ([Value.int IntKind.i64 (IntKind.i64.wrap ↑n7)] ++ [])))).take 32) = bys b4 := List.take_left' (by rw [bys_len, hl4])
    have t5 : ((bys b5 ++ (bys b6 ++ ([Value.int IntKind.i64 (IntKind.i64.wrap ↑n7)] ++ []))).take 32) = bys b5 := List.take_left' (by rw [bys_len, hl5])
    have t6 : ((bys b6 ++ ([Value.int IntKind.i64 (IntKind.i64.wrap ↑n7)] ++ [])).take 32) = bys b6 := List.take_left' (by rw [bys_len, hl6])
    unfold At at a0 a1 a2 a3 a4 a5 a6 a7
    unfold Program.keyLits
    simp only [Tryd.underlying25, hc]
    rw [if_pos ⟨hcl, by kernel_rfl⟩]
    have u : ∀ (x : Value) (l : List Value), ([x] ++ l).take 1 = [x] := fun _ _ => rfl
    have kI : ∀ n : Nat, Tryd.prog.keyLits (d + 2) 3 [.int .i64 (IntKind.i64.wrap (n : Int))] = some [.int .i64 (IntKind.i64.wrap (n : Int))] := fun n => key_int (d + 1) n
    have kJ : ∀ n : Nat, Tryd.prog.keyLits (d + 2) 2 [.int .i64 (IntKind.i64.wrap (n : Int))] = some [.int .i64 (IntKind.i64.wrap (n : Int))] := fun n => key_i64 (d + 1) n
    have k4 : Tryd.prog.keyLits (d + 2) 23 (bys b4) = _ := key_digest d b4 hl4
    have k5 : Tryd.prog.keyLits (d + 2) 23 (bys b5) = _ := key_digest d b5 hl5
    have k6 : Tryd.prog.keyLits (d + 2) 23 (bys b6) = _ := key_digest d b6 hl6
    simp only [List.mapM_cons, List.mapM_nil, hcI, hcJ, hcD, a0, a1, a2, a3, a4, a5, a6, a7, t4, t5, t6, u, kI, kJ, k4, k5, k6]
    rw [← hcs]
    simp [toLit]
  · simp only [List.mem_append, List.mem_singleton, List.not_mem_nil, or_false] at hv
    have hby : ∀ l : List UInt8, v ∈ bys l → ∃ k n, v = .int k n := fun l hl => by
      simp only [bys, List.mem_map] at hl
      obtain ⟨x, _, rfl⟩ := hl
      exact ⟨_, _, rfl⟩
    rcases hv with rfl | rfl | rfl | rfl | h | h | h | rfl
    · exact ⟨_, _, rfl⟩
    · exact ⟨_, _, rfl⟩
    · exact ⟨_, _, rfl⟩
    · exact ⟨_, _, rfl⟩
    · exact hby _ h
    · exact hby _ h
    · exact hby _ h
    · exact ⟨_, _, rfl⟩
/-- '==' between two headers. -/
theorem header_eql {w w' W : World} {p p' : Nat → Prop} {cs cs' : List Value} {b b' : List UInt8} (h : headerR w p cs b) (h' : headerR w' p' cs' b') :
    (binOp .eql 25 (.agg cs.toArray) (.agg cs'.toArray)).run Tryd.prog W = .ok (.bool (decide (b = b'))) W := by
  obtain ⟨hk, hi⟩ := key_header 0 h
  obtain ⟨hk', hi'⟩ := key_header 0 h'
  obtain ⟨hcl, -⟩ := headerR_len _ _ _ _ h
  obtain ⟨hcl', -⟩ := headerR_len _ _ _ _ h'
  have hf : ∀ l : List Value, l.length = 101 → (Value.agg l.toArray).formed Tryd.prog 25 = true := fun l hl => by
    have hc : Tryd.prog.cellsOf 25 = 101 := by kernel_rfl
    simp only [Value.formed, Tryd.underlying25, hc]
    simp [hl]
  have hkt : Tryd.prog.keyTypeAt 3 25 = true := by kernel_rfl
  obtain ⟨r, hr, hiff⟩ := run_equalIn_deep 9997 3 _ hkt W 3 3 (.agg cs.toArray) (.agg cs'.toArray) _ _ (hf cs hcl) (hf cs' hcl') hk hk'
  have hrb : r = decide (b = b') := by
    have h2 : r = true ↔ b = b' := by
      rw [hiff, ← header_tells h h']
      exact ⟨fun e => toLit_inj _ _ hi hi' e, fun e => by rw [e]⟩
    rcases Decidable.em (b = b') with e | e
    · rw [h2.2 e, decide_eq_true e]
    · rw [decide_eq_false e]
      cases r with
      | false => rfl
      | true => exact absurd (h2.1 rfl) e
  rw [run_eql_struct, hr, hrb]
  rfl
end Go.Proofs.YtlkjahfkgfkilaaDoor
