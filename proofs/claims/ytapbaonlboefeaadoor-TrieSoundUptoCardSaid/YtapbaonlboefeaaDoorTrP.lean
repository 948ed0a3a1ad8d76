/- The trie, plainly: maps as lists of keys with values, their digests, paths and preimages. -/
import Derived.Test.YtapbaonlboefeaaDoorShaQ
import Derived.Test.YtapbaonlboefeaaDoorShaJ
namespace Go.Proofs.YtapbaonlboefeaaDoor

section
/-- An entry: its key and its value. -/
abbrev Ent := List UInt8 × List UInt8
/-- Bit i of a key, the highest first. -/
def kbit (k : List UInt8) (i : Nat) : Nat := (k.getD (i / 8) 0).toNat / 2 ^ (7 - i % 8) % 2
theorem kbit_lt (k : List UInt8) (i : Nat) : kbit k i < 2 := Nat.mod_lt _ (by omega)
/-- The first d bits, as a number. -/
def pfx (k : List UInt8) (d : Nat) : Nat := un8 k / 2 ^ (256 - d)

theorem un8_get : ∀ (n : Nat) (l : List UInt8) (_ : l.length = n) (j : Nat) (hj : j < l.length), un8 l / 256 ^ (l.length - 1 - j) % 256 = (l[j]'hj).toNat
  | 0, l, h, j, hj => by omega
  | n + 1, l, h, j, hj => by
    have hne : l ≠ [] := by intro e; rw [e] at hj; simp at hj
    obtain ⟨l', b, rfl⟩ : ∃ l' b, l = l' ++ [b] := ⟨l.dropLast, l.getLast hne, (List.dropLast_concat_getLast hne).symm⟩
    have hb : b.toNat < 256 := b.toNat_lt
    simp only [List.length_append, List.length_cons, List.length_nil] at h hj ⊢
    rw [un8_snoc]
    rcases Nat.lt_or_ge j l'.length with hl | hl
    · rw [List.getElem_append_left hl, show l'.length + (0 + 1) - 1 - j = (l'.length - 1 - j) + 1 from by omega, Nat.pow_succ, Nat.mul_comm (256 ^ _), ← Nat.div_div_eq_div_mul,
        show (un8 l' * 256 + b.toNat) / 256 = un8 l' from by omega]
      exact un8_get n l' (by omega) j hl
    · obtain rfl : j = l'.length := by omega
      rw [List.getElem_append_right (Nat.le_refl _)]
      simp only [Nat.sub_self, List.getElem_cons_zero]
      rw [show l'.length + (0 + 1) - 1 - l'.length = 0 from by omega, Nat.pow_zero, Nat.div_one]
      omega
theorem mod_bit (x m : Nat) (h : m < 8) : x % 256 / 2 ^ (7 - m) % 2 = x / 2 ^ (7 - m) % 2 := by
  have : m = 0 ∨ m = 1 ∨ m = 2 ∨ m = 3 ∨ m = 4 ∨ m = 5 ∨ m = 6 ∨ m = 7 := by omega
  rcases this with rfl | rfl | rfl | rfl | rfl | rfl | rfl | rfl <;> simp <;> omega
theorem kbit_num {k : List UInt8} (h : k.length = 32) {i : Nat} (hi : i < 256) : kbit k i = un8 k / 2 ^ (255 - i) % 2 := by
  have hj : i / 8 < k.length := by omega
  have hg := un8_get 32 k h (i / 8) hj
  rw [kbit, List.getD_eq_getElem?_getD, List.getElem?_eq_getElem hj, Option.getD_some, ← hg, mod_bit _ _ (by omega), Nat.div_div_eq_div_mul, h,
    show (256 : Nat) = 2 ^ 8 from rfl, ← Nat.pow_mul, ← Nat.pow_add, show 8 * (32 - 1 - i / 8) + (7 - i % 8) = 255 - i from by omega]
theorem pfx_step {k : List UInt8} (h : k.length = 32) {d : Nat} (hd : d < 256) : pfx k (d + 1) = 2 * pfx k d + kbit k d := by
  rw [kbit_num h hd, pfx, pfx, show 256 - (d + 1) = 255 - d from by omega, show 256 - d = (255 - d) + 1 from by omega, Nat.pow_succ, ← Nat.div_div_eq_div_mul]
  omega
theorem pfx_0 {k : List UInt8} (h : k.length = 32) : pfx k 0 = 0 := by
  have := un8_lt k
  rw [h, show (256 : Nat) ^ 32 = 2 ^ (256 - 0) from rfl] at this
  exact Nat.div_eq_of_lt this
theorem pfx_all (k : List UInt8) : pfx k 256 = un8 k := by simp [pfx]
/-- The first bits are the same. -/
theorem pfx_bits {a b : List UInt8} (ha : a.length = 32) (hb : b.length = 32) : ∀ d, d ≤ 256 → (pfx a d = pfx b d ↔ ∀ i, i < d → kbit a i = kbit b i)
  | 0, _ => by rw [pfx_0 ha, pfx_0 hb]; exact ⟨fun _ i hi => absurd hi (Nat.not_lt_zero i), fun _ => rfl⟩
  | d + 1, hd => by
    have ih := pfx_bits ha hb d (by omega)
    have h1 := kbit_lt a d
    have h2 := kbit_lt b d
    rw [pfx_step ha (by omega), pfx_step hb (by omega)]
    constructor
    · intro h i hi
      have e1 : pfx a d = pfx b d := by omega
      rcases Nat.lt_or_ge i d with hl | hl
      · exact ih.1 e1 i hl
      · obtain rfl : i = d := by omega
        omega
    · intro h
      have e1 := ih.2 (fun i hi => h i (by omega))
      have e2 := h d (by omega)
      omega

variable {L : List Ent} {key : List UInt8} {d : Nat}
/-- The keys rise. -/
def MayP (L : List Ent) : Prop := L.Pairwise fun a b => un8 a.1 < un8 b.1
def Keys (L : List Ent) : Prop := ∀ e ∈ L, e.1.length = 32
/-- The first d bits are those of the key. -/
def On (L : List Ent) (key : List UInt8) (d : Nat) : Prop := ∀ e ∈ L, pfx e.1 d = pfx key d
/-- The first d bits are the same. -/
def Grp (L : List Ent) (d : Nat) : Prop := ∀ e ∈ L, ∀ e' ∈ L, pfx e.1 d = pfx e'.1 d
theorem On.grp (h : On L key d) : Grp L d := fun e he e' he' => (h e he).trans (h e' he').symm
theorem grp_0 (h : Keys L) : Grp L 0 := fun e he e' he' => (pfx_0 (h e he)).trans (pfx_0 (h e' he')).symm
theorem on_0 (h : Keys L) (hk : key.length = 32) : On L key 0 := fun e he => (pfx_0 (h e he)).trans (pfx_0 hk).symm
def side (L : List Ent) (d b : Nat) : List Ent := L.filter fun e => kbit e.1 d == b
theorem side_sub (L : List Ent) (d b : Nat) : ∀ e ∈ side L d b, e ∈ L := fun _ he => (List.mem_filter.1 he).1
theorem MayP.side (h : MayP L) (d b : Nat) : MayP (side L d b) := List.Pairwise.sublist List.filter_sublist h
theorem Keys.side (h : Keys L) (d b : Nat) : Keys (side L d b) := fun e he => h e (side_sub L d b e he)
theorem On.side (h : On L key d) (hk : Keys L) (hl : key.length = 32) (hd : d < 256) : On (side L d (kbit key d)) key (d + 1) := fun e he => by
  obtain ⟨h1, h2⟩ := List.mem_filter.1 he
  rw [pfx_step (hk e h1) hd, pfx_step hl hd, h e h1, (by simpa using h2 : kbit e.1 d = kbit key d)]
theorem Grp.side (h : Grp L d) (hk : Keys L) (hd : d < 256) (b : Nat) : Grp (side L d b) (d + 1) := fun e he e' he' => by
  obtain ⟨h1, h2⟩ := List.mem_filter.1 he
  obtain ⟨h3, h4⟩ := List.mem_filter.1 he'
  rw [pfx_step (hk e h1) hd, pfx_step (hk e' h3) hd, h e h1 e' h3, (by simpa using h2 : kbit e.1 d = b), (by simpa using h4 : kbit e'.1 d = b)]
/-- Keys that share all bits: there is one at most. -/
theorem grp_few (hm : MayP L) (h : Grp L 256) : L.length < 2 := by
  match L, hm, h with
  | [], _, _ => simp
  | [_], _, _ => simp
  | a :: b :: r, hm, h =>
    have h1 := h a (by simp) b (by simp)
    rw [pfx_all, pfx_all] at h1
    have h2 := (List.pairwise_cons.1 hm).1 b (by simp)
    omega
/-- A list in which what p holds of stands behind the rest. -/
theorem parted {α : Type} {p : α → Bool} : ∀ {L : List α}, L.Pairwise (fun a b => p a = true → p b = true) →
    L.take (L.filter fun x => !p x).length = (L.filter fun x => !p x) ∧ L.drop (L.filter fun x => !p x).length = L.filter p ∧ ∀ i (h : i < L.length), p (L[i]'h) = decide ((L.filter fun x => !p x).length ≤ i)
  | [], _ => by simp
  | a :: L, h => by
    obtain ⟨h1, h2⟩ := List.pairwise_cons.1 h
    obtain ⟨i1, i2, i3⟩ := parted h2
    cases hp : p a with
    | false =>
      simp only [List.filter_cons, hp, Bool.not_false, if_true, List.length_cons, List.take_succ_cons, List.drop_succ_cons, i1, i2, Bool.false_eq_true, if_false, true_and]
      intro i hi
      cases i with
      | zero => simp [hp]
      | succ i => simp only [List.getElem_cons_succ]; rw [i3 i (by simpa using hi)]; simp
    | true =>
      have hall : ∀ b ∈ L, p b = true := fun b hb => h1 b hb hp
      have hnil : (L.filter fun x => !p x) = [] := List.filter_eq_nil_iff.2 (fun b hb => by simp [hall b hb])
      simp only [List.filter_cons, hp, Bool.not_true, Bool.false_eq_true, if_false, hnil, List.length_nil, List.take_zero, List.drop_zero, if_true, true_and, Nat.zero_le, decide_true]
      refine ⟨by rw [List.filter_eq_self.2 hall], fun i hi => ?_⟩
      cases i with
      | zero => simpa using hp
      | succ i => simpa using hall _ (List.getElem_mem _)
/-- The halves of a part. -/
theorem halves_at (hm : MayP L) (hk : Keys L) (hg : Grp L d) (hd : d < 256) :
    L.take (side L d 0).length = side L d 0 ∧ L.drop (side L d 0).length = side L d 1 ∧ ∀ i (h : i < L.length), (kbit (L[i]'h).1 d == 1) = decide ((side L d 0).length ≤ i) := by
  have e0 : side L d 0 = L.filter fun e => !(kbit e.1 d == 1) := by
    refine List.filter_congr (fun e _ => ?_)
    have := kbit_lt e.1 d
    rw [Bool.eq_iff_iff]; simp; omega
  rw [e0]
  refine parted (p := fun e : Ent => kbit e.1 d == 1) ?_
  refine List.Pairwise.imp_of_mem (fun {a b} ha hb hlt h1 => ?_) hm
  have g := hg a ha b hb
  have s1 := pfx_step (hk a ha) hd
  have s2 := pfx_step (hk b hb) hd
  have hle : pfx a.1 (d + 1) ≤ pfx b.1 (d + 1) := Nat.div_le_div_right (Nat.le_of_lt hlt)
  have := kbit_lt b.1 d
  simp only [beq_iff_eq] at h1 ⊢
  omega

def tEmpty : List UInt8 := joinF [[101, 109, 112, 116, 121]]
def tLeaf (k v : List UInt8) : List UInt8 := joinF [[108, 101, 97, 102], k, v]
def tBranch (a b : List UInt8) : List UInt8 := joinF [[98, 114, 97, 110, 99, 104], a, b]
/-- The preimage of no entry, or of one. -/
def endF : List Ent → List UInt8
  | [] => tEmpty
  | e :: _ => tLeaf e.1 e.2
/-- The digest of a part; r bits are left. -/
def digT : Nat → List Ent → List UInt8
  | 0, L => shaF (endF L)
  | r + 1, L => if L.length < 2 then shaF (endF L) else shaF (tBranch (digT r (side L (255 - r) 0)) (digT r (side L (255 - r) 1)))
/-- The siblings on a key's path, and what stands at its end. -/
def sibT (key : List UInt8) : Nat → List Ent → List (List UInt8)
  | 0, _ => []
  | r + 1, L => if L.length < 2 then [] else digT r (side L (255 - r) (1 - kbit key (255 - r))) :: sibT key r (side L (255 - r) (kbit key (255 - r)))
def endT (key : List UInt8) : Nat → List Ent → List Ent
  | 0, L => L
  | r + 1, L => if L.length < 2 then L else endT key r (side L (255 - r) (kbit key (255 - r)))
def brT (b : Nat) (x s : List UInt8) : List UInt8 := if b = 1 then tBranch s x else tBranch x s
/-- The preimages along a path, from depth d on. -/
def preT (key : List UInt8) : Nat → List (List UInt8) → List Ent → List (List UInt8)
  | _, [], e => [endF e]
  | d, s :: ss, e => brT (kbit key d) (shaF ((preT key (d + 1) ss e).headD [])) s :: preT key (d + 1) ss e
def topT (key : List UInt8) (d : Nat) (ss : List (List UInt8)) (e : List Ent) : List UInt8 := shaF ((preT key d ss e).headD [])
theorem digT_len (r : Nat) (L : List Ent) : (digT r L).length = 32 := by cases r <;> simp only [digT] <;> (repeat' split) <;> exact shaF_len _
theorem preT_len (key : List UInt8) : ∀ (d : Nat) (ss : List (List UInt8)) (e : List Ent), (preT key d ss e).length = ss.length + 1
  | _, [], _ => rfl
  | d, s :: ss, e => by simp [preT, preT_len key (d + 1) ss e]
theorem topT_cons (key : List UInt8) (d : Nat) (s : List UInt8) (ss : List (List UInt8)) (e : List Ent) : topT key d (s :: ss) e = shaF (brT (kbit key d) (topT key (d + 1) ss e) s) := rfl
theorem sibT_len (key : List UInt8) : ∀ (r : Nat) (L : List Ent), (sibT key r L).length ≤ r ∧ ∀ s ∈ sibT key r L, s.length = 32
  | 0, _ => by simp [sibT]
  | r + 1, L => by
    have ih := sibT_len key r (side L (255 - r) (kbit key (255 - r)))
    unfold sibT
    split
    · simp
    · refine ⟨by simp; omega, fun s hs => ?_⟩
      rcases List.mem_cons.1 hs with rfl | h
      · exact digT_len _ _
      · exact ih.2 s h
/-- A path leads to the digest. -/
theorem trail_top (key : List UInt8) : ∀ (r : Nat) (L : List Ent), r ≤ 256 → topT key (256 - r) (sibT key r L) (endT key r L) = digT r L
  | 0, L, _ => rfl
  | r + 1, L, hr => by
    rw [sibT, endT, digT]
    split
    · rfl
    · have ih := trail_top key r (side L (255 - r) (kbit key (255 - r))) (by omega)
      have hb := kbit_lt key (255 - r)
      rw [topT_cons, show 256 - (r + 1) = 255 - r from by omega, show 255 - r + 1 = 256 - r from by omega, ih]
      rcases (by omega : kbit key (255 - r) = 0 ∨ kbit key (255 - r) = 1) with h | h <;> rw [h] <;> rfl
theorem endT_sub (key : List UInt8) : ∀ (r : Nat) (L : List Ent), ∀ e ∈ endT key r L, e ∈ L
  | 0, _, _, h => h
  | r + 1, L, e, h => by
    unfold endT at h
    split at h
    · exact h
    · exact side_sub _ _ _ e (endT_sub key r _ e h)
theorem endT_has (key : List UInt8) : ∀ (r : Nat) (L : List Ent), ∀ e ∈ L, e.1 = key → e ∈ endT key r L
  | 0, _, _, h, _ => h
  | r + 1, L, e, h, hk => by
    unfold endT
    split
    · exact h
    · exact endT_has key r _ e (List.mem_filter.2 ⟨h, by rw [hk]; simp⟩) hk
theorem endT_few (key : List UInt8) (hl : key.length = 32) : ∀ (r : Nat) (L : List Ent), r ≤ 256 → MayP L → Keys L → On L key (256 - r) → (endT key r L).length < 2 ∧ On (endT key r L) key (256 - r + (sibT key r L).length)
  | 0, L, _, hm, hk, ho => ⟨grp_few hm ho.grp, ho⟩
  | r + 1, L, hr, hm, hk, ho => by
    unfold sibT endT
    split
    · exact ⟨by assumption, ho⟩
    · have hs := On.side (d := 255 - r) (by rw [show 256 - (r + 1) = 255 - r from by omega] at ho; exact ho) hk hl (by omega)
      have ih := endT_few key hl r _ (by omega) (hm.side (255 - r) (kbit key (255 - r))) (hk.side _ _) (by rw [show 256 - r = 255 - r + 1 from by omega]; exact hs)
      refine ⟨ih.1, ?_⟩
      have h2 := ih.2
      rw [List.length_cons, show 256 - (r + 1) + ((sibT key r (side L (255 - r) (kbit key (255 - r)))).length + 1) = 256 - r + (sibT key r (side L (255 - r) (kbit key (255 - r)))).length from by omega]
      exact h2
/-- A key's value. -/
def getT (L : List Ent) (key : List UInt8) : Option (List UInt8) := (L.find? fun e => e.1 == key).map (·.2)
/-- What an end tells of a key. -/
def toldT (e : List Ent) (key : List UInt8) : Option (List UInt8) := match e with | [] => none | x :: _ => if x.1 = key then some x.2 else none
theorem may_inj (hm : MayP L) : ∀ {a b : Ent}, a ∈ L → b ∈ L → a.1 = b.1 → a = b := by
  intro a b ha hb he
  induction L with
  | nil => cases ha
  | cons x r ih =>
    obtain ⟨h1, h2⟩ := List.pairwise_cons.1 hm
    rcases List.mem_cons.1 ha with e1 | ha' <;> rcases List.mem_cons.1 hb with e2 | hb'
    · rw [e1, e2]
    · have := h1 b hb'; rw [← e1, he] at this; omega
    · have := h1 a ha'; rw [← e2, he] at this; omega
    · exact ih h2 ha' hb'
theorem told_get (key : List UInt8) (hl : key.length = 32) (L : List Ent) (hm : MayP L) (hk : Keys L) : toldT (endT key 256 L) key = getT L key := by
  have hf := (endT_few key hl 256 L (Nat.le_refl _) hm hk (on_0 hk hl)).1
  cases hg : L.find? (fun e => e.1 == key) with
  | none =>
    rw [getT, hg]
    have hn := List.find?_eq_none.1 hg
    cases he : endT key 256 L with
    | nil => rfl
    | cons x r =>
      have hx := endT_sub key 256 L x (by rw [he]; simp)
      have := hn x hx
      simp only [toldT, Option.map_none]
      rw [if_neg (by simpa using this)]
  | some x =>
    have hx := List.mem_of_find?_eq_some hg
    have hxk : x.1 = key := by simpa using List.find?_some hg
    have hin := endT_has key 256 L x hx hxk
    rw [getT, hg]
    cases he : endT key 256 L with
    | nil => rw [he] at hin; cases hin
    | cons y r =>
      rw [he] at hf hin
      have hr : r = [] := by cases r with | nil => rfl | cons _ _ => simp at hf; omega
      subst hr
      obtain rfl : x = y := by simpa using hin
      simp [toldT, hxk]
/-- Two texts of one digest at one depth. -/
def clashT : List (List UInt8) → List (List UInt8) → Option (List UInt8 × List UInt8)
  | a :: p, b :: q => if a ≠ b ∧ shaF a = shaF b then some (a, b) else clashT p q
  | _, _ => none
theorem clashT_same : ∀ p : List (List UInt8), clashT p p = none
  | [] => rfl
  | a :: p => by simp [clashT, clashT_same p]
theorem clashT_ok : ∀ {p q : List (List UInt8)} {a b : List UInt8}, clashT p q = some (a, b) → a ≠ b ∧ shaF a = shaF b
  | [], _, _, _, h => by simp [clashT] at h
  | _ :: _, [], _, _, h => by simp [clashT] at h
  | x :: p, y :: q, a, b, h => by
    unfold clashT at h
    split at h
    · cases h; assumption
    · exact clashT_ok h
theorem small {l : List UInt8} (h : l.length = 32) : l.length < 2 ^ 64 := by omega
theorem branch_inj {a b c d : List UInt8} (ha : a.length = 32) (hb : b.length = 32) (hc : c.length = 32) (hd : d.length = 32) (h : tBranch a b = tBranch c d) : a = c ∧ b = d := by
  have := joinF_inj (by simp; omega) (by simp; omega) (by simp) (by simp) h
  simpa using this
theorem brT_inj {n : Nat} {a b c d : List UInt8} (ha : a.length = 32) (hb : b.length = 32) (hc : c.length = 32) (hd : d.length = 32) (h : brT n a b = brT n c d) : a = c ∧ b = d := by
  unfold brT at h
  split at h
  · exact (branch_inj hb ha hd hc h).symm
  · exact branch_inj ha hb hc hd h
/-- So short that it can be an entry. -/
def ShortE (e : List Ent) : Prop := ∀ x ∈ e, x.1.length < 2 ^ 64 ∧ x.2.length < 2 ^ 64
theorem end_branch {e : List Ent} (he : ShortE e) {n : Nat} {a b : List UInt8} (ha : a.length = 32) (hb : b.length = 32) : endF e ≠ brT n a b := by
  intro h
  have hbr : ∃ c d : List UInt8, c.length = 32 ∧ d.length = 32 ∧ brT n a b = tBranch c d := by
    unfold brT; split
    · exact ⟨b, a, hb, ha, rfl⟩
    · exact ⟨a, b, ha, hb, rfl⟩
  obtain ⟨c, d, hc, hd, hcd⟩ := hbr
  rw [hcd] at h
  cases e with
  | nil =>
    have := joinF_inj (by simp) (by simp; omega) (by simp) (by simp) h
    simp at this
  | cons x r =>
    have hx := he x (by simp)
    have := joinF_inj (by simpa using hx) (by simp; omega) (by simp) (by simp) h
    simp at this
theorem endF_inj {e e' : List Ent} (he : ShortE e) (he' : ShortE e') (hf : e.length < 2) (hf' : e'.length < 2) (h : endF e = endF e') : e = e' := by
  match e, e' with
  | [], [] => rfl
  | [], y :: r =>
    have hy := he' y (by simp)
    have := joinF_inj (by simp) (by simpa using hy) (by simp) (by simp) h
    simp at this
  | x :: r, [] =>
    have hx := he x (by simp)
    have := joinF_inj (by simpa using hx) (by simp) (by simp) (by simp) h
    simp at this
  | x :: r, y :: s =>
    have hx := he x (by simp)
    have hy := he' y (by simp)
    have := joinF_inj (by simpa using hx) (by simpa using hy) (by simp) (by simp) h
    simp only [List.cons.injEq, true_and, and_true] at this
    have hr : r = [] := by cases r with | nil => rfl | cons _ _ => simp at hf; omega
    have hs : s = [] := by cases s with | nil => rfl | cons _ _ => simp at hf'; omega
    subst hr hs
    rw [Prod.ext this.1 this.2]
theorem topT_len (key : List UInt8) (d : Nat) (ss : List (List UInt8)) (e : List Ent) : (topT key d ss e).length = 32 := shaF_len _
/-- Two paths to one digest that show no two texts of one digest are one. -/
theorem same_path (key : List UInt8) (e e' : List Ent) (he : ShortE e) (he' : ShortE e') (hf : e.length < 2) (hf' : e'.length < 2) : ∀ (ss ss' : List (List UInt8)) (d : Nat), (∀ s ∈ ss, s.length = 32) → (∀ s ∈ ss', s.length = 32) →
    topT key d ss e = topT key d ss' e' → clashT (preT key d ss e) (preT key d ss' e') = none → ss = ss' ∧ e = e'
  | [], [], d, _, _, ht, hc => by
    simp only [preT, clashT] at hc
    have hx : endF e = endF e' := by
      rcases Classical.em (endF e = endF e') with h | h
      · exact h
      · rw [if_pos ⟨h, ht⟩] at hc; cases hc
    exact ⟨rfl, endF_inj he he' hf hf' hx⟩
  | [], s :: ss', d, _, h2, ht, hc => by
    simp only [preT, clashT] at hc
    exact absurd (by
      rcases Classical.em (endF e = brT (kbit key d) (topT key (d + 1) ss' e') s) with h | h
      · exact h
      · rw [if_pos ⟨h, ht⟩] at hc; cases hc) (end_branch he (topT_len _ _ _ _) (h2 s (by simp)))
  | s :: ss, [], d, h1, _, ht, hc => by
    simp only [preT, clashT] at hc
    exact absurd (by
      rcases Classical.em (brT (kbit key d) (topT key (d + 1) ss e) s = endF e') with h | h
      · exact h.symm
      · rw [if_pos ⟨h, ht⟩] at hc; cases hc) (end_branch he' (topT_len _ _ _ _) (h1 s (by simp)))
  | s :: ss, s' :: ss', d, h1, h2, ht, hc => by
    simp only [preT, clashT] at hc
    have hx : brT (kbit key d) (topT key (d + 1) ss e) s = brT (kbit key d) (topT key (d + 1) ss' e') s' := by
      rcases Classical.em (brT (kbit key d) (topT key (d + 1) ss e) s = brT (kbit key d) (topT key (d + 1) ss' e') s') with h | h
      · exact h
      · rw [if_pos ⟨h, ht⟩] at hc; cases hc
    obtain ⟨e1, e2⟩ := brT_inj (topT_len _ _ _ _) (h1 s (by simp)) (topT_len _ _ _ _) (h2 s' (by simp)) hx
    have hc' : clashT (preT key (d + 1) ss e) (preT key (d + 1) ss' e') = none := by
      split at hc
      · cases hc
      · exact hc
    obtain ⟨f1, f2⟩ := same_path key e e' he he' hf hf' ss ss' (d + 1) (fun x hx => h1 x (by simp [hx])) (fun x hx => h2 x (by simp [hx])) e1 hc'
    exact ⟨by rw [e2, f1], f2⟩
end
end Go.Proofs.YtapbaonlboefeaaDoor
