/- Decoding: lists of elements of one cell. -/
import Derived.Test.YtlkjahfkgfkilaaDoorRd
import Derived.Test.YtlkjahfkgfkilaaDoorRdO
namespace Go.Proofs.YtlkjahfkgfkilaaDoor
open Go.RowKit

theorem Tryd.infoInt : (Tryd.prog.info? 3).map (fun i => (i.zero, i.size, i.bytes)) = some (some (.int .i64 0), 1, 8) := by kernel_rfl
theorem Tryd.infoInts : (Tryd.prog.info? 32).map (fun i => (i.zero, i.size, i.bytes)) = some (some (.slice none 0 0), 1, 24) := by kernel_rfl
/-- k elements are read. -/
def RdList (w w1 : World) (T : TypeId) (R : Rel) (ps : List (List UInt8)) (u i : Value) (wr : World) : Prop :=
  ∃ (k : Nat) (xs : List Value), k ≤ ps.length ∧ i = .int .i64 (k : Int) ∧ wr.ownsRow w1.heap.size T 1 u k xs ∧
    (∀ j q, j < k → ps[j]? = some q → ∃ x, xs[j]? = some x ∧ R wr (fun t => w.heap.size ≤ t ∧ t < wr.heap.size ∧ u.ownBlock ≠ some t) [x] q) ∧ Below w1.heap.size w1 wr
theorem own_nil (w : World) (base : Nat) (e : TypeId) (size : Nat) : w.ownsRow base e size (.slice none 0 0) 0 [] := ⟨by simp, .inl ⟨rfl, rfl⟩⟩
/-- One more. -/
theorem RdList.step {w w1 wr w2 w4 : World} {T : TypeId} {R : Rel} (hR : Kept R) {ps : List (List UInt8)} {u u' x : Value} {k : Nat} {xs : List Value} {pp : Nat → Prop} (hk : k < ps.length)
    (hpp : ∀ t, pp t → w.heap.size ≤ t ∧ t < w1.heap.size) (h1 : w.heap.size ≤ w1.heap.size)
    (hown : wr.ownsRow w1.heap.size T 1 u k xs)
    (hxs : ∀ j q, j < k → ps[j]? = some q → ∃ x, xs[j]? = some x ∧ R wr (fun t => w.heap.size ≤ t ∧ t < wr.heap.size ∧ u.ownBlock ≠ some t) [x] q) (hB : Below w1.heap.size w1 wr) (hB2 : Below wr.heap.size wr w2)
    (hx : R w2 (Since wr pp w2) [x] (ps[k]'hk)) (hG : w2.grownBy w4 u.ownBlock) (hM : Moved w2 u.ownBlock u'.ownBlock) (hown4 : w4.ownsRow w1.heap.size T 1 u' (k + 1) (xs ++ [x])) :
    RdList w w1 T R ps u' (.int .i64 ((k + 1 : Nat) : Int)) w4 := by
  have hub : ∀ g, u.ownBlock = some g → w1.heap.size ≤ g ∧ g < wr.heap.size := fun g hg => hown.lt g hg
  have hxl : xs.length = k := by have := hown.1; omega
  have hs2 := hB2.size
  have hs4 := hG.size
  have hB4 : Below w1.heap.size w1 w4 := (hB.trans (hB2.mono hB.size)).grown hG (Nat.le_trans hB.size hs2) (fun g hg => (hub g hg).1)
  have hnew : ∀ t, t < w2.heap.size → u.ownBlock ≠ some t → u'.ownBlock ≠ some t := fun t ht hne => by
    rcases hM with e | ⟨g, e, hg⟩
    · rw [e]; exact hne
    · rw [e]; intro e2; injection e2; omega
  have hsame : ∀ (q : Nat → Prop), (∀ t, q t → t < w2.heap.size ∧ u.ownBlock ≠ some t) → Same w2 w4 q := fun q hq a ha => World.cell?_of_block (hG.block a.block (hq _ ha).1 (fun e => (hq _ ha).2 e.symm))
  refine ⟨k + 1, xs ++ [x], by omega, rfl, hown4, fun j q hj hq => ?_, hB4⟩
  rcases Nat.lt_or_ge j k with hjk | hjk
  · obtain ⟨y, hy, hRy⟩ := hxs j q hjk hq
    refine ⟨y, by rw [List.getElem?_append_left (by omega)]; exact hy, ?_⟩
    refine hR _ _ _ _ _ _ hRy (Same.trans (Same.of_below hB2 (fun t ht => ht.2.1)) (hsame _ (fun t ht => ⟨by have := ht.2.1; omega, ht.2.2⟩))) (fun t ht => ⟨ht.1, by have := ht.2.1; omega, hnew t (by have := ht.2.1; omega) ht.2.2⟩)
  · obtain rfl : j = k := by omega
    rw [List.getElem?_eq_getElem hk] at hq
    injection hq with hq
    subst hq
    refine ⟨x, by rw [List.getElem?_append_right (by omega), hxl]; simp, ?_⟩
    have hu : ∀ t, Since wr pp w2 t → u.ownBlock ≠ some t := fun t ht e => by
      have h2 := hub t e
      rcases ht.1 with h3 | h3
      · have := (hpp t h3).2; omega
      · omega
    exact hR _ _ _ _ _ _ hx (hsame _ (fun t ht => ⟨ht.2, hu t ht⟩)) (fun t ht => ⟨by
      rcases ht.1 with h3 | h3
      · exact (hpp t h3).1
      · have := hB.size; omega, by have := ht.2; omega, hnew t ht.2 (hu t ht)⟩)
/-- The list, when all is read. -/
theorem RdList.all {w w1 wr : World} {T : TypeId} {R : Rel} (hR : Kept R) {p : Nat → Prop} {b : List UInt8} {ps : List (List UInt8)} {u : Value} {xs : List Value} (hj : joinF ps = b) (h1 : w.heap.size ≤ w1.heap.size)
    (hown : wr.ownsRow w1.heap.size T 1 u ps.length xs)
    (hxs : ∀ j q, j < ps.length → ps[j]? = some q → ∃ x, xs[j]? = some x ∧ R wr (fun t => w.heap.size ≤ t ∧ t < wr.heap.size ∧ u.ownBlock ≠ some t) [x] q) : lstR 1 R wr (Since w p wr) [u] b := by
  obtain ⟨A, c, rfl, hc, hm, hmine, hsee⟩ := own_slice hown
  refine ⟨A, c, xs, ps, rfl, hc, hm, ⟨hsee.1, fun ad e => ⟨.inr (by have := (hmine ad e).1; omega), by obtain ⟨_, _, h⟩ := (hmine ad e).2; exact lt_of_heap h⟩, hsee.2.imp id ?_⟩, ⟨by rw [hsee.1], fun i q hq => ?_⟩, hj.symm⟩
  · rintro ⟨ad, e, _, hx⟩
    exact ⟨ad, e, hx⟩
  · obtain ⟨hi, _⟩ := List.getElem?_eq_some_iff.1 hq
    obtain ⟨x, hx, hRx⟩ := hxs i q hi hq
    have hxi : i < xs.length := (List.getElem?_eq_some_iff.1 hx).1
    have e : (xs.drop (i * 1)).take 1 = [x] := by
      rw [Nat.mul_one, List.drop_eq_getElem_cons hxi]
      have := (List.getElem?_eq_some_iff.1 hx).2
      simp [this]
    rw [e]
    exact hR _ _ _ _ _ _ hRx (fun _ _ => rfl) (fun t ht => ⟨.inr ht.1, ht.2.1⟩)

set_option maxRecDepth 20000 in
set_option maxHeartbeats 4000000 in
theorem readList_int_any (R : Rel) (hR : Kept R) (hsh : ∀ w p v b, R w p [v] b → ∃ n, v = .int .i64 n) (F : Form) (g : Nat) (lb : Array Value) (eg : ∀ args w, (callFunc g args).run Tryd.prog w = .ok (.enter g args) w) (w : World) (hof : Reads1 Tryd.prog w g lb R F)
    (p : Nat → Prop) (A : Option Addr) (c : Nat) (b : List UInt8) (ha : Arg w p A c b) (hF : lstF F b) :
    Calls Tryd.prog 51 #[.slice A b.length c, .func (.func g) #[] lb] w (Read1 w p (lstR 1 R) b) := by
  obtain ⟨ps, hsp, hF⟩ := hF
  obtain ⟨i0, hi, hz0, hz1, hz2⟩ := info_parts Tryd.infoInt
  have hj := join_split b ps hsp
  have hs := (split_any w.heap.size A c b w ha.sees (Nat.le_refl _) ha.cap ha.max ha.len)
  rw [hsp] at hs
  have Hs := Lib.hid hs
  have hbl := ha.len
  have hn : 8 * ps.length ≤ 1099511627776 := by
    have h1 := partsOf_ge ps
    have h2 := joinF_len ps
    rw [hj] at h2
    omega
  have hq : ∀ k (hk : k < ps.length), (ps[k]'hk).length ≤ 1099511627776 := fun k hk => by have := part_le hk; rw [hj] at this; omega
  have Hj := Lib.hid hj
  clear hs ha hsp hj
  go_enter Tryd.func51, Tryd.ntmps51
  go_wp2_with fail
  refine Hs.out.mono ?_
  rintro e w1 ⟨hB, v, vs, rfl, hown1, hls, hmi⟩
  obtain ⟨A1, c1, rfl, hc1, hcm1, hmine1, hsee1⟩ := own_slice hown1
  have hB0 := hB.size
  go_wp2
  go_loopw [8, 9, 10, 11, 12, 23] (fun u _ _ _ _ i wr => RdList w w1 3 R ps u i wr) (fun _ _ _ _ _ i _ => (ps.length - intOf i).toNat)
  case atStart => exact ⟨0, [], by omega, rfl, own_nil _ _ _ _, fun j q h _ => absurd h (Nat.not_lt_zero _), Below.refl _ _⟩
  case round =>
    obtain ⟨k, xs, hk, rfl, hown, hxs, hBr⟩ := hrel
    rcases Nat.lt_or_ge k ps.length with hlt | hge
    · obtain ⟨ad, rfl, hab, hcell⟩ := hsee1.some_ (by omega)
      obtain ⟨A2, c2, hv2, hc2, hm2, hs2⟩ := hls.at_ hlt
      have hc0 : wr.cell? (ad.add k) = some (.slice A2 (ps[k]'hlt).length c2) := (hBr.cell (by rw [add_block]; exact hab)).trans (hcell k _ hv2)
      have harg : Arg wr (fun t => w.heap.size ≤ t ∧ t < w1.heap.size) A2 c2 (ps[k]'hlt) := by
        refine ⟨⟨hs2.1, fun a e => ?_, hs2.2.imp id ?_⟩, hc2, hm2, hq k hlt, fun t ht => Nat.lt_of_lt_of_le ht.2 hBr.size⟩
        · have h := hmi _ _ _ (List.mem_of_getElem? hv2) a e
          obtain ⟨_, _, h2⟩ := h.2
          exact ⟨h.1, lt_of_heap h2⟩
        · rintro ⟨a, e, hb, hx⟩
          exact ⟨a, e, fun j u hu => (hBr.cell (by rw [add_block]; exact hb)).trans (hx j u hu)⟩
      have hcall := Lib.hid (hof wr (hB.trans (hBr.mono hB0)) _ A2 c2 _ harg (hF _ (List.getElem_mem hlt)))
      have hlt' : (k : Int) < (ps.length : Int) := by omega
      clear harg hcell
      go_wp2_with fail
      refine hcall.out.mono ?_
      rintro e w2 ⟨x, rfl, hx, hB2⟩
      obtain ⟨n, rfl⟩ := hsh _ _ _ _ hx
      have hxe := Lib.hid hx
      clear hx
      have hown2 := own_below hown hB2
      have hsz2 := hB2.size
      have hszr := hBr.size
      clear hcall hc0
      go_wp2_with (at_builtin; refine wpList_append_own_at _ rfl (.tmp 39) (.tmp 41) 32 rfl w1.heap.size 3 i0 (.int .i64 0) 1 8 Tryd.underlying32 hi hz0 hz1 hz2 rfl (by decide) u8 k xs rfl (hown2.alloc _) ⟨w2.heap.size, 0, none⟩ 1 1 [.int .i64 n] rfl rfl (cell_one_new _ _ _) ?c2 ?c3 ?c4 ?c5 ?_)
      case c2 => intro u hu; simp at hu; subst hu; rfl
      case c3 => unfold maxLen; omega
      case c4 => omega
      case c5 => simp; omega
      intro v4 w4 hown4 hg4 _ hat4
      have hG : w2.grownBy w4 u8.ownBlock := (World.grownBy_alloc w2 _ _).trans hg4
      have hM : Moved w2 u8.ownBlock v4.ownBlock := Moved.of_at hat4 (by simp)
      have hstep := RdList.step hR hlt (fun t ht => ht) hB0 hown hxs hBr hB2 hxe.out hG hM hown4
      clear hg4 hat4 hown4 hown2 hown hxs hxe hG hM
      go_wp2
      go_roundw
      case rel => exact hstep
      case measure => simp [intOf]; omega
    · obtain rfl : k = ps.length := by omega
      have hge' : ¬ (ps.length : Int) < (ps.length : Int) := by omega
      have hend := RdList.all (p := p) hR Hj.out hB0 hown hxs
      go_wp2
      go_ret2
      exact ⟨_, rfl, hend, hB.trans (hBr.mono hB0)⟩

set_option maxRecDepth 20000 in
set_option maxHeartbeats 4000000 in
theorem readList_ints_any (R : Rel) (hR : Kept R) (hsh : ∀ w p v b, R w p [v] b → ∃ A n c, v = .slice A n c) (F : Form) (g : Nat) (lb : Array Value) (eg : ∀ args w, (callFunc g args).run Tryd.prog w = .ok (.enter g args) w) (w : World) (hof : Reads1 Tryd.prog w g lb R F)
    (p : Nat → Prop) (A : Option Addr) (c : Nat) (b : List UInt8) (ha : Arg w p A c b) (hF : lstF F b) :
    Calls Tryd.prog 53 #[.slice A b.length c, .func (.func g) #[] lb] w (Read1 w p (lstR 1 R) b) := by
  obtain ⟨ps, hsp, hF⟩ := hF
  obtain ⟨i0, hi, hz0, hz1, hz2⟩ := info_parts Tryd.infoInts
  have hj := join_split b ps hsp
  have hs := (split_any w.heap.size A c b w ha.sees (Nat.le_refl _) ha.cap ha.max ha.len)
  rw [hsp] at hs
  have Hs := Lib.hid hs
  have hbl := ha.len
  have hn : 8 * ps.length ≤ 1099511627776 := by
    have h1 := partsOf_ge ps
    have h2 := joinF_len ps
    rw [hj] at h2
    omega
  have hq : ∀ k (hk : k < ps.length), (ps[k]'hk).length ≤ 1099511627776 := fun k hk => by have := part_le hk; rw [hj] at this; omega
  have Hj := Lib.hid hj
  clear hs ha hsp hj
  go_enter Tryd.func53, Tryd.ntmps53
  go_wp2_with fail
  refine Hs.out.mono ?_
  rintro e w1 ⟨hB, v, vs, rfl, hown1, hls, hmi⟩
  obtain ⟨A1, c1, rfl, hc1, hcm1, hmine1, hsee1⟩ := own_slice hown1
  have hB0 := hB.size
  go_wp2
  go_loopw [8, 9, 10, 11, 12, 23] (fun u _ _ _ _ i wr => RdList w w1 32 R ps u i wr) (fun _ _ _ _ _ i _ => (ps.length - intOf i).toNat)
  case atStart => exact ⟨0, [], by omega, rfl, own_nil _ _ _ _, fun j q h _ => absurd h (Nat.not_lt_zero _), Below.refl _ _⟩
  case round =>
    obtain ⟨k, xs, hk, rfl, hown, hxs, hBr⟩ := hrel
    rcases Nat.lt_or_ge k ps.length with hlt | hge
    · obtain ⟨ad, rfl, hab, hcell⟩ := hsee1.some_ (by omega)
      obtain ⟨A2, c2, hv2, hc2, hm2, hs2⟩ := hls.at_ hlt
      have hc0 : wr.cell? (ad.add k) = some (.slice A2 (ps[k]'hlt).length c2) := (hBr.cell (by rw [add_block]; exact hab)).trans (hcell k _ hv2)
      have harg : Arg wr (fun t => w.heap.size ≤ t ∧ t < w1.heap.size) A2 c2 (ps[k]'hlt) := by
        refine ⟨⟨hs2.1, fun a e => ?_, hs2.2.imp id ?_⟩, hc2, hm2, hq k hlt, fun t ht => Nat.lt_of_lt_of_le ht.2 hBr.size⟩
        · have h := hmi _ _ _ (List.mem_of_getElem? hv2) a e
          obtain ⟨_, _, h2⟩ := h.2
          exact ⟨h.1, lt_of_heap h2⟩
        · rintro ⟨a, e, hb, hx⟩
          exact ⟨a, e, fun j u hu => (hBr.cell (by rw [add_block]; exact hb)).trans (hx j u hu)⟩
      have hcall := Lib.hid (hof wr (hB.trans (hBr.mono hB0)) _ A2 c2 _ harg (hF _ (List.getElem_mem hlt)))
      have hlt' : (k : Int) < (ps.length : Int) := by omega
      clear harg hcell
      go_wp2_with fail
      refine hcall.out.mono ?_
      rintro e w2 ⟨x, rfl, hx, hB2⟩
      obtain ⟨A9, n9, c9, rfl⟩ := hsh _ _ _ _ hx
      have hxe := Lib.hid hx
      clear hx
      have hown2 := own_below hown hB2
      have hsz2 := hB2.size
      have hszr := hBr.size
      clear hcall hc0
      go_wp2_with (at_builtin; refine wpList_append_own_at _ rfl (.tmp 39) (.tmp 41) 33 rfl w1.heap.size 32 i0 (.slice none 0 0) 1 24 Tryd.underlying33 hi hz0 hz1 hz2 rfl (by decide) u8 k xs rfl (hown2.alloc _) ⟨w2.heap.size, 0, none⟩ 1 1 [.slice A9 n9 c9] rfl rfl (cell_one_new _ _ _) ?c2 ?c3 ?c4 ?c5 ?_)
      case c2 => intro u hu; simp at hu; subst hu; rfl
      case c3 => unfold maxLen; omega
      case c4 => omega
      case c5 => simp; omega
      intro v4 w4 hown4 hg4 _ hat4
      have hG : w2.grownBy w4 u8.ownBlock := (World.grownBy_alloc w2 _ _).trans hg4
      have hM : Moved w2 u8.ownBlock v4.ownBlock := Moved.of_at hat4 (by simp)
      have hstep := RdList.step hR hlt (fun t ht => ht) hB0 hown hxs hBr hB2 hxe.out hG hM hown4
      clear hg4 hat4 hown4 hown2 hown hxs hxe hG hM
      go_wp2
      go_roundw
      case rel => exact hstep
      case measure => simp [intOf]; omega
    · obtain rfl : k = ps.length := by omega
      have hge' : ¬ (ps.length : Int) < (ps.length : Int) := by omega
      have hend := RdList.all (p := p) hR Hj.out hB0 hown hxs
      go_wp2
      go_ret2
      exact ⟨_, rfl, hend, hB.trans (hBr.mono hB0)⟩
end Go.Proofs.YtlkjahfkgfkilaaDoor
