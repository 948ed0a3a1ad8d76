/- What the laid variable errors.errorType gives: its one cell. -/
import Derived.Test.YtlkjahfkgfkilaaDoorFRead
import Derived.Stop.LaidErr
import Derived.Stop.LaidTwo
import Derived.LaidSub
import Derived.JoinedTies
namespace Go.Proofs.YtlkjahfkgfkilaaDoor
open Go.RowKit

theorem Tryd.etG : Tryd.prog.globalNamed "errors.errorType" = some 1 := by kernel_rfl
theorem Tryd.rtG : (Tryd.prog.cutTypes.find? (·.1 == "internal/reflectlite.rtype")).map (·.2) = some 114 := by kernel_rfl
theorem Tryd.oneRowG : ((List.range Tryd.prog.types.size).filter fun t => Tryd.prog.rowNamed t [101, 114, 114, 111, 114]) = [48] := by kernel_rfl
theorem Tryd.elG : Tryd.prog.globalNamed "wapentake/codec.errLong" = some 0 := by kernel_rfl
theorem Tryd.efG : Tryd.prog.globalNamed "wapentake/codec.errFew" = some 4 := by kernel_rfl
theorem Tryd.esStar : "*" ++ "errors.errorString" = "*errors.errorString" := by decide
theorem Tryd.esRow (u : TypeId) (h : Tryd.prog.typeName? 3 u = some "*errors.errorString") : u = 148 :=
  typeName_ptr_named (nm := "errors.errorString") (by rw [Tryd.esStar]; kernel_rfl) (by kernel_rfl) (by decide) u (by rw [Tryd.esStar]; exact h)
theorem et_of_handle {W : World} {laid : List (String × DataW Unit)} (h : handlesMet Tryd.prog laid W) (hm : ("errors.errorType", Rows.laid_errors_errorType) ∈ laid) : W.cell? ⟨1, 0, none⟩ = some (.iface 114 (.agg #[.pointer (some ⟨10, 48, none⟩)])) := by
  obtain ⟨name, u, ty, e1, e2, e3, e4, e5⟩ := h _ hm
  have en : name = [101, 114, 114, 111, 114] := (Option.some.inj e1).symm
  subst en
  obtain rfl := Option.some.inj (Tryd.rtG.symm.trans e2)
  have hmem : ty ∈ (List.range Tryd.prog.types.size).filter fun t => Tryd.prog.rowNamed t [101, 114, 114, 111, 114] := List.mem_filter.2 ⟨List.mem_range.2 e3, e4⟩
  rw [Tryd.oneRowG] at hmem
  obtain rfl := List.mem_singleton.1 hmem
  have hh : typeHandle Tryd.prog 48 = .pointer (some ⟨10, 48, none⟩) := by kernel_rfl
  rw [hh] at e5
  simpa using World.var?_cell Tryd.etG e5 0
theorem lay_of {W : World} {l : List (String × DataW Unit)} (h : laidMet Tryd.prog l W)
    (hl : l.filter (fun x => x.1 == "wapentake/codec.errLong" || x.1 == "wapentake/codec.errFew") = [("wapentake/codec.errLong", Rows.laid_wapentake_codec_errLong), ("wapentake/codec.errFew", Rows.laid_wapentake_codec_errFew)])
    (het : W.cell? ⟨1, 0, none⟩ = some (.iface 114 (.agg #[.pointer (some ⟨10, 48, none⟩)]))) : ∃ al af tl tf, Lay W al af tl tf := by
  have h2 := h.filter (fun x => x.1 == "wapentake/codec.errLong" || x.1 == "wapentake/codec.errFew")
  rw [hl] at h2
  obtain ⟨a0, a1, s0, s1, c0, c1, t0, t1, hv0, hv1, hc0, hs0, -, hc1, hs1, -, hne, hb0, hb1⟩ := laid_sentinels2 (ti := 48) (tp := 148) (te := 168) (ts := 9) h2 Tryd.elG (by kernel_rfl) Tryd.efG (by kernel_rfl) Tryd.underlying48 Tryd.esRow Tryd.underlying148 Tryd.underlying168 rfl rfl Tryd.underlying9 (by kernel_rfl) (by kernel_rfl)
  have z0 : s0.size ≤ 1000 := by
    have e := congrArg List.length hs0
    simp at e
    have e2 : s0.size = s0.data.size := rfl
    omega
  have z1 : s1.size ≤ 1000 := by
    have e := congrArg List.length hs1
    simp at e
    have e2 : s1.size = s1.data.size := rfl
    omega
  exact ⟨a0, a1, s0, s1, by simpa using World.var?_cell Tryd.elG hv0 0, by simpa using World.var?_cell Tryd.efG hv1 0, hc0, hc1, z0, z1, ⟨c0, t0, hb0⟩, ⟨c1, t1, hb1⟩, fun e => hne e.symm, het⟩
end Go.Proofs.YtlkjahfkgfkilaaDoor
