/- Arguments opened: an attribute to its number and its list. -/
import Derived.Test.YthnoeknalpnadaaAttr
import Derived.Lib.SmallJoins
import Derived.OpenShut
import Derived.Deep.Matrix
namespace Go.Proofs.Ythnoeknalpnadaa
open Go.Joins Go.ChangeShapes Go.WideShapes Go.RowKit Go.Deep

theorem ints_of {w : World} {ao : Option Addr} {len cap : Nat} {zs : List Int} (hl : len ≤ cap) (hm : cap ≤ maxLen) (hz : zs.length = cap) (hn : ao = none → cap = 0)
    (hc : ∀ a, ao = some a → ∀ i, i < zs.length → w.cell? (a.add i) = some (.int .i64 (zs.getD i 0))) : Ints w (.slice ao len cap) (zs.take len) := by
  have e : (zs.take len).length = len := by rw [List.length_take]; omega
  refine ⟨ao, cap, by rw [e], by omega, ⟨by omega, hm, hn⟩, fun hp => ?_⟩
  rw [e] at hp
  cases ao with
  | none => have := hn rfl; omega
  | some a =>
    obtain ⟨b, off, rfl, hcc⟩ := ints_at (hc a rfl) (by omega)
    refine ⟨b, off, rfl, fun j hj => ?_⟩
    rw [hcc j (by omega), List.getElem?_take, if_pos (by omega), List.getD_eq_getElem?_getD]

set_option maxRecDepth 100000 in
theorem open_attr {H : Type} {enc : TypeId × Value → H} {w : World} {base : Nat} {held : Bool} {r : Reach} {b0 : Nat} {v : Value} {d : DataW H} {p : List MemPlace}
    (hv : Value.okWide Try.prog w r b0 62 v) (h : DataW.Trod enc Try.prog w base (fun _ => true) held 62 v d p) :
    ∃ (s : Int) (u : Value) (l : List Int), v = .agg #[.int .i64 s, u] ∧ wf64 s ∧ Ints w u l ∧ ∀ x ∈ l, wf64 x := by
  obtain ⟨cs, rfl, hsz⟩ := okWide_struct Try.underlying62 hv
  obtain ⟨l⟩ := cs
  match l, hsz.trans (show Try.prog.cellsOf 62 = 2 by kernel_rfl) with
  | [c0, c1], _ =>
    obtain ⟨fuel, hf⟩ := h
    obtain ⟨xs, n, _, hx, _, hlen, hg⟩ := DataW.trod_struct Try.underlying62 hf
    have q : Try.prog.cellsOf 3 = 1 := by kernel_rfl
    have q2 : Try.prog.cellsOf 37 = 1 := by kernel_rfl
    match xs, hlen with
    | [y0, y1], _ =>
      obtain ⟨n0, e0, _, w0⟩ := DataW.trod_int Try.underlying3 (by simpa [Value.cells, q] using hg 0 _ rfl)
      simp only [List.cons.injEq, and_true] at e0
      subst e0
      have h1 := hg 1 _ rfl
      simp [Value.cells, q2] at h1
      rcases open_ints Try.underlying37 Try.underlying3 (by kernel_rfl) h1 with ⟨hcs, _⟩ | ⟨x, len, c, zs, hcs, _, hl, hm, hz, _, hcell, hwz⟩
      · simp at hcs
        subst hcs
        exact ⟨n0, _, [], rfl, w0, Ints.nil w, fun _ h => by cases h⟩
      · simp at hcs
        subst hcs
        refine ⟨n0, _, zs.take len, rfl, w0, ints_of hl hm (by simpa using hz) (fun h => by cases h) (fun a' ha => by cases ha; exact hcell), fun y hy => hwz y (List.mem_of_mem_take hy)⟩

end Go.Proofs.Ythnoeknalpnadaa
