/- Arguments opened: a slice of integers, a slice of slices of integers. -/
import Derived.Test.YthnoeknalpnadaaSS
import Derived.OpenShut
import Derived.Deep.Matrix
namespace Go.Proofs.Ythnoeknalpnadaa
open Go.ChangeShapes Go.WideShapes Go.RowKit Go.Deep

theorem ints_ofS {w : World} {ao : Option Addr} {len cap : Nat} {zs : List Int} (hl : len ≤ cap) (hm : cap ≤ maxLen) (hz : zs.length = cap) (hn : ao = none → cap = 0)
    (hc : ∀ a, ao = some a → ∀ i, i < zs.length → w.cell? (a.add i) = some (.int .i64 (zs.getD i 0))) : Ints w (.slice ao len cap) (zs.take len) := by
  have e : (zs.take len).length = len := by rw [List.length_take]; omega
  refine ⟨ao, cap, by rw [e], by omega, ⟨by omega, hm, hn⟩, fun hp => ?_⟩
  rw [e] at hp
  cases ao with
  | none => have := hn rfl; omega
  | some a =>
    obtain ⟨b, off, rfl, hcc⟩ := ints_at (hc a rfl) (by omega)
    refine ⟨b, off, rfl, fun j hj => ?_⟩
    rw [hcc j (by omega), List.getElem?_take, if_pos (by omega), List.getD_eq_getElem?_getD]

set_option maxRecDepth 100000 in
theorem open_intS {H : Type} {enc : TypeId × Value → H} {w : World} {base : Nat} {held : Bool} {r : Reach} {b0 : Nat} {v : Value} {d : DataW H} {p : List MemPlace}
    (hv : Value.okWide Try.prog w r b0 37 v) (h : DataW.Trod enc Try.prog w base (fun _ => true) held 37 v d p) :
    ∃ l, Ints w v l ∧ ∀ x ∈ l, wf64 x := by
  obtain ⟨a, len, cap, rfl⟩ := okWide_slice Try.underlying37 hv
  obtain ⟨fuel, hf⟩ := h
  rcases open_ints Try.underlying37 Try.underlying3 (by kernel_rfl) hf with ⟨hcs, _⟩ | ⟨x, l, c, zs, hcs, _, hl, hm, hz, _, hcell, hwz⟩
  · simp [Value.cells] at hcs
    obtain ⟨rfl, rfl, rfl⟩ := hcs
    exact ⟨[], Ints.nil w, fun _ h => by cases h⟩
  · simp [Value.cells] at hcs
    obtain ⟨rfl, rfl, rfl⟩ := hcs
    refine ⟨zs.take len, ints_ofS hl hm (by simpa using hz) (fun h => by cases h) (fun a' ha => by cases ha; exact hcell), fun y hy => hwz y (List.mem_of_mem_take hy)⟩

set_option maxRecDepth 100000 in
theorem open_intSS {H : Type} {enc : TypeId × Value → H} {w : World} {base : Nat} {held : Bool} {r : Reach} {b0 : Nat} {v : Value} {d : DataW H} {p : List MemPlace}
    (hv : Value.okWide Try.prog w r b0 78 v) (h : DataW.Trod enc Try.prog w base (fun _ => true) held 78 v d p) :
    ∃ L, Intss w v L ∧ ∀ l ∈ L, ∀ x ∈ l, wf64 x := by
  obtain ⟨a, len, cap, rfl⟩ := okWide_slice Try.underlying78 hv
  obtain ⟨fuel, hf⟩ := h
  rcases open_int_rows Try.underlying78 Try.underlying37 Try.underlying3 (by kernel_rfl) (by kernel_rfl) hf with ⟨hcs, _⟩ | ⟨x, l, c, A, L, C, Z, hcs, _, hl, hm, _, hr⟩
  · simp [Value.cells] at hcs
    obtain ⟨rfl, rfl, rfl⟩ := hcs
    exact ⟨[], Intss.nil w, fun _ h => by cases h⟩
  · simp [Value.cells] at hcs
    obtain ⟨rfl, rfl, rfl⟩ := hcs
    have hlen : ((List.range len).map fun r => (Z r).take (L r)).length = len := by simp
    refine ⟨(List.range len).map fun r => (Z r).take (L r), ⟨some x, cap, by rw [hlen], by omega, ⟨by omega, hm, fun h => by cases h⟩, fun hp => ?_⟩, fun y hy z hz => ?_⟩
    · rw [hlen] at hp
      obtain ⟨b, off, spot⟩ := x
      have hspot : spot = none := by simpa [Addr.add] using World.cell?_spot (hr 0 (by omega)).1
      subst hspot
      refine ⟨b, off, rfl, fun j hj => ?_⟩
      rw [hlen] at hj
      obtain ⟨hc, h1, h2, h3, h4, h5, h6⟩ := hr j (by omega)
      refine ⟨_, by rw [← Go.WideShapes.add_plain]; exact hc, ?_⟩
      have e : ((List.range len).map fun r => (Z r).take (L r))[j]?.getD [] = (Z j).take (L j) := by simp [hj]
      rw [e]
      exact ints_ofS h1 h2 h3 h5 (fun a' ha i hi => (h6 a' ha).2 i (by omega))
    · obtain ⟨j, hj, rfl⟩ := List.mem_map.1 hy
      have hj' := List.mem_range.1 hj
      obtain ⟨hc, h1, h2, h3, h4, h5, h6⟩ := hr j (by omega)
      exact h4 z (List.mem_of_mem_take hz)

end Go.Proofs.Ythnoeknalpnadaa
