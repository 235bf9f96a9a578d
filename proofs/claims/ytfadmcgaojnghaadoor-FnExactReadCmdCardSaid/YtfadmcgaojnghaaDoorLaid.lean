/- What a row's list of variables gives: the table of powers of ten, the forms of the commands. -/
import Derived.Test.YtfadmcgaojnghaaDoorImplText
import Derived.Test.YtfadmcgaojnghaaDoorLaidPow
import Derived.OpenShut
import Derived.Stop.LaidErr
import Derived.Test.YtfadmcgaojnghaaDoorRows
namespace Go.Proofs.YtfadmcgaojnghaaDoor
open Go.RowKit

theorem Tryd.gForms : Tryd.prog.globalNamed "loop.example/g00698/impl.cmdForms" = some 0 := by kernel_rfl
theorem Tryd.gFormsType : (Tryd.prog.globals[0]?).map (·.type) = some 57 := by kernel_rfl
set_option maxRecDepth 100000 in
theorem form_cells {w : World} {base : Nat} {sp : Nat → Bool} {held : Bool} {fuel : Nat} {c0 c1 : Value} {s : List UInt8} {n : Int} {p : List MemPlace} {enc : TypeId × Value → Unit}
    (h : DataW.trod enc Tryd.prog w base sp held fuel 56 [c0, c1] = some (.agg [.lit (.string s), .lit (.int .i64 n)], p)) : c0 = .string ⟨s.toArray⟩ ∧ c1 = .int .i64 n := by
  obtain ⟨xs, m, _, hx, _, hlen, hg⟩ := DataW.trod_struct Tryd.underlying56 h
  have q9 : Tryd.prog.cellsOf 9 = 1 := by kernel_rfl
  have q3 : Tryd.prog.cellsOf 3 = 1 := by kernel_rfl
  match xs, hlen with
  | [y0, y1], _ =>
    obtain ⟨s', e0, e0', _⟩ := DataW.trod_string Tryd.underlying9 (by simpa [q9] using hg 0 _ rfl)
    obtain ⟨n', e1, e1', _⟩ := DataW.trod_int Tryd.underlying3 (by simpa [q3] using hg 1 _ rfl)
    simp only [List.cons.injEq, and_true] at e0 e1
    subst e0 e1 e0' e1'
    simp only [Prod.mk.injEq, DataW.agg.injEq, List.map_cons, List.map_nil, List.cons.injEq, DataW.lit.injEq, Lit.string.injEq, Lit.int.injEq, and_true, true_and] at hx
    obtain ⟨⟨h1, h2⟩, _⟩ := hx
    subst h1 h2
    exact ⟨rfl, rfl⟩

set_option maxRecDepth 100000 in
theorem Forms_of {W : World} {rest : List (String × DataW Unit)} (h : laidMet Tryd.prog (("loop.example/g00698/impl.cmdForms", Rows.laid_loop_example_g00698_impl_cmdForms) :: rest) W) : Forms W := by
  obtain ⟨ps, ⟨g', t', cs, fuel, p, q, hg', ht', hvar, hd, _, _⟩, _⟩ := h
  obtain rfl := Option.some.inj (Tryd.gForms.symm.trans hg')
  obtain rfl := Option.some.inj (Tryd.gFormsType.symm.trans ht')
  obtain ⟨xs, m, _, hx, hcl, hxl, hi⟩ := DataW.trod_array Tryd.underlying57 hd
  have q2 : Tryd.prog.cellsOf 56 = 2 := by kernel_rfl
  have q6 : Tryd.prog.cellsOf 57 = 6 := by kernel_rfl
  rw [q6] at hcl
  obtain ⟨l⟩ := cs
  match l, hcl with
  | [c0, c1, c2, c3, c4, c5], _ =>
    match xs, hxl with
    | [x0, x1, x2], _ =>
      have h0 := hi 0 (by omega)
      have h1 := hi 1 (by omega)
      have h2 := hi 2 (by omega)
      simp [q2] at h0 h1 h2
      simp only [Prod.mk.injEq] at hx
      have hd := hx.1
      unfold Rows.laid_loop_example_g00698_impl_cmdForms at hd
      simp only [DataW.agg.injEq, List.map_cons, List.map_nil, List.cons.injEq, and_true] at hd
      obtain ⟨d0, d1, d2⟩ := hd
      obtain ⟨x0, p0⟩ := x0
      obtain ⟨x1, p1⟩ := x1
      obtain ⟨x2, p2⟩ := x2
      simp only at d0 d1 d2
      subst d0 d1 d2
      obtain ⟨rfl, rfl⟩ := form_cells h0
      obtain ⟨rfl, rfl⟩ := form_cells h1
      obtain ⟨rfl, rfl⟩ := form_cells h2
      have hc := fun i => World.var?_cell Tryd.gForms hvar i
      exact ⟨⟨hc 0, hc 2, hc 4⟩, hc 1, hc 3, hc 5⟩

end Go.Proofs.YtfadmcgaojnghaaDoor
