/- trie: what Prove proves, Verify tells (plain). -/
import Derived.Test.YtapbaonlboefeaaDoorTsL
namespace Go.Proofs.YtapbaonlboefeaaDoor
open Go.RowKit

theorem pair_len (a b : List UInt8) : (joinF [a, b]).length = 24 + a.length + b.length := by
  rw [joinF_len]; simp [partsOf, part, b8_len]; omega
theorem split_pair (a b : List UInt8) (ha : a.length < 2 ^ 64) (hb : b.length < 2 ^ 64) : splitF (joinF [a, b]) = some [a, b] :=
  split_join _ (fun l hl => by
    rcases List.mem_cons.1 hl with rfl | hl
    · exact ha
    · rw [List.mem_singleton.1 hl]; exact hb) (by simp)
theorem split_nil : splitF (joinF []) = some [] := split_join [] (by simp) (by decide)
theorem nil_len : (joinF []).length = 8 := by rw [joinF_len]; rfl
theorem dec_enc (T : List UInt8) (E : List Ent) (h32 : T.length % 32 = 0) (hT : T.length ≤ 8192) (hf : E.length < 2) (hk : Keys E) (hs : ∀ e ∈ E, e.2.length ≤ 1099511627776) : decF (encF T E) = some (T, E) := by
  match E with
  | [] =>
    unfold decF encF
    rw [split_pair _ _ (by omega) (by rw [nil_len]; decide)]
    simp only [h32, hT, and_self, if_true]
    unfold endOf
    rw [split_nil]
    rfl
  | [(k, v)] =>
    have h1 := hk (k, v) (by simp)
    have h2 := hs (k, v) (by simp)
    simp only at h1 h2
    unfold decF encF
    rw [split_pair _ _ (by omega) (by rw [pair_len]; simp only; omega)]
    simp only [h32, hT, and_self, if_true]
    unfold endOf
    rw [split_pair _ _ (by omega) (by omega)]
    simp only [h1, if_true]
    rfl
  | _ :: _ :: _ => simp at hf; omega
theorem ver_complete (L : List Ent) (key : List UInt8) (hm : MayP L) (hk : Keys L) (hkey : key.length = 32) (hs : ∀ e ∈ L, e.2.length ≤ 1099511627776) : verF (rootT L) key (proofT L key) = ((getT L key).getD [], (getT L key).isSome, 0) := by
  have hfew := endT_few key hkey 256 L (Nat.le_refl _) hm hk (on_0 hk hkey)
  have hsl := sibT_len key 256 L
  have hfl := flat_len (sibT key 256 L) hsl.2
  have hd : decF (proofT L key) = some ((sibT key 256 L).flatten, endT key 256 L) :=
    dec_enc _ _ (by omega) (by omega) hfew.1 (fun e he => hk e (endT_sub key 256 L e he)) (fun e he => hs e (endT_sub key 256 L e he))
  have hr : readF key (proofT L key) = .inr ((sibT key 256 L).flatten, endT key 256 L) := by
    unfold readF
    rw [hd]
    simp only
    rw [if_pos]
    intro e he
    have h1 := hfew.2 e he
    have h3 : (sibT key 256 L).flatten.length / 32 = (sibT key 256 L).length := by omega
    rw [h3]
    exact (pfx_bits (hk e (endT_sub key 256 L e he)) hkey _ (by omega)).1 (by rw [show 256 - 256 + (sibT key 256 L).length = (sibT key 256 L).length from by omega] at h1; exact h1)
  have ht := trail_top key 256 L (Nat.le_refl _)
  unfold verF
  rw [hr]
  simp only
  rw [sibsT_flat _ hsl.2, show topT key 0 (sibT key 256 L) (endT key 256 L) = digT 256 L from ht, rootT, if_pos hm, if_pos rfl, told_get key hkey L hm hk]
  cases getT L key <;> rfl
theorem read_short (key : List UInt8) : readF key [] = .inl 5 := by
  unfold readF decF
  rw [show splitF [] = none from by decide]
theorem ver_short (root key : List UInt8) : verF root key [] = ([], false, 5) := by
  unfold verF
  rw [read_short]
end Go.Proofs.YtapbaonlboefeaaDoor
