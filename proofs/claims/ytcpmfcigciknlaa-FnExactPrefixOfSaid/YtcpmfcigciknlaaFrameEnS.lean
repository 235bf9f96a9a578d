/- An argument opened: a slice of entries. -/
import Derived.Lib.SmallJoins
import Derived.OpenShut
import Derived.Deep.Matrix
import Derived.Test.YtcpmfcigciknlaaLEnW
namespace Go.Proofs.Ytcpmfcigciknlaa
open Go.Joins Go.ChangeShapes Go.WideShapes Go.RowKit Go.Deep
set_option linter.unusedVariables false
variable {H : Type} {enc : TypeId × Value → H} {w : World} {base : Nat} {held : Bool}

theorem spot_noneE {a : Addr} {v : Value} (h : w.cell? (a.add 0) = some v) : ∃ b off, a = ⟨b, off, none⟩ := by
  obtain ⟨b, off, spot⟩ := a
  have hspot : spot = none := by simpa [Addr.add] using World.cell?_spot h
  subst hspot
  exact ⟨b, off, rfl⟩

theorem cell_intE {fuel : Nat} {c : Value} {y : DataW H × List MemPlace} (h : DataW.trod enc Try.prog w base (fun _ => true) held fuel 3 [c] = some y) : ∃ n : Int, c = .int .i64 n ∧ wf64 n := by
  obtain ⟨n0, e0, _, w0⟩ := DataW.trod_int Try.underlying3 h
  simp only [List.cons.injEq, and_true] at e0
  exact ⟨n0, e0, w0⟩
set_option maxRecDepth 100000 in
theorem cells_cmdE {fuel : Nat} {cs : List Value} {y : DataW H × List MemPlace} (h : DataW.trod enc Try.prog w base (fun _ => true) held fuel 46 cs = some y) (hl : cs.length = 5) :
    ∃ k i f t a : Int, cs = [.int .i64 k, .int .i64 i, .int .i64 f, .int .i64 t, .int .i64 a] := by
  obtain ⟨zs, n', _, _, _, hzl, hz⟩ := DataW.trod_struct Try.underlying46 h
  have q : Try.prog.cellsOf 3 = 1 := by kernel_rfl
  match cs, hl with
  | [c0, c1, c2, c3, c4], _ =>
    match zs, hzl with
    | [z0, z1, z2, z3, z4], _ =>
      obtain ⟨m0, rfl, _⟩ := cell_intE (by simpa [q] using hz 0 _ rfl)
      obtain ⟨m1, rfl, _⟩ := cell_intE (by simpa [q] using hz 1 _ rfl)
      obtain ⟨m2, rfl, _⟩ := cell_intE (by simpa [q] using hz 2 _ rfl)
      obtain ⟨m3, rfl, _⟩ := cell_intE (by simpa [q] using hz 3 _ rfl)
      obtain ⟨m4, rfl, _⟩ := cell_intE (by simpa [q] using hz 4 _ rfl)
      exact ⟨m0, m1, m2, m3, m4, rfl⟩
set_option maxRecDepth 100000 in
theorem cells_tld {fuel : Nat} {cs : List Value} {y : DataW H × List MemPlace} (h : DataW.trod enc Try.prog w base (fun _ => true) held fuel 47 cs = some y) :
    ∃ c s : Int, cs = [.int .i64 c, .int .i64 s] := by
  obtain ⟨xs, n, _, hx, hlen, hxl, hg⟩ := DataW.trod_struct Try.underlying47 h
  have q : Try.prog.cellsOf 3 = 1 := by kernel_rfl
  match cs, hlen.trans (show Try.prog.cellsOf 47 = 2 by kernel_rfl) with
  | [c0, c1], _ =>
    match xs, hxl with
    | [y0, y1], _ =>
      obtain ⟨n0, rfl, _⟩ := cell_intE (by simpa [q] using hg 0 _ rfl)
      obtain ⟨n1, rfl, _⟩ := cell_intE (by simpa [q] using hg 1 _ rfl)
      exact ⟨n0, n1, rfl⟩
set_option maxRecDepth 100000 in
theorem cells_en1 {fuel : Nat} {cs : List Value} {y : DataW H × List MemPlace} (h : DataW.trod enc Try.prog w base (fun _ => true) held fuel 49 cs = some y) :
    ∃ (d : EnD), cs = enVs d := by
  obtain ⟨xs, n, _, hx, hlen, hxl, hg⟩ := DataW.trod_struct Try.underlying49 h
  have q : Try.prog.cellsOf 3 = 1 := by kernel_rfl
  have q5 : Try.prog.cellsOf 46 = 5 := by kernel_rfl
  have q2 : Try.prog.cellsOf 47 = 2 := by kernel_rfl
  match cs, hlen.trans (show Try.prog.cellsOf 49 = 9 by kernel_rfl) with
  | [c0, c1, c2, c3, c4, c5, c6, c7, c8], _ =>
    match xs, hxl with
    | [y0, y1, y2, y3], _ =>
      obtain ⟨n0, rfl, _⟩ := cell_intE (by simpa [q] using hg 0 _ rfl)
      obtain ⟨n1, rfl, _⟩ := cell_intE (by simpa [q] using hg 1 _ rfl)
      have h2 := hg 2 _ rfl
      have h3 := hg 3 _ rfl
      simp [q5] at h2
      simp [q2] at h3
      obtain ⟨k, i, f, t, a, e2⟩ := cells_cmdE h2 rfl
      obtain ⟨c, s, e3⟩ := cells_tld h3
      simp only [List.cons.injEq, and_true] at e2 e3
      obtain ⟨rfl, rfl, rfl, rfl, rfl⟩ := e2
      obtain ⟨rfl, rfl⟩ := e3
      exact ⟨⟨n0, n1, k, i, f, t, a, c, s⟩, rfl⟩

set_option maxRecDepth 100000 in
theorem cells_ens {fuel : Nat} {c : Value} {y : DataW H × List MemPlace} (h : DataW.trod enc Try.prog w base (fun _ => true) held fuel 22 [c] = some y) : ∃ L, Enz w c L := by
  rcases open_slice Try.underlying22 h with ⟨hcs, _⟩ | ⟨a, len, cap', cap, n, D, Pl, hcs, _, hl, hm, hmm, _, hi⟩
  · simp at hcs
    subst hcs
    exact ⟨[], Enz.nil w⟩
  · simp at hcs hmm
    subst hcs hmm
    have q : Try.prog.cellsOf 49 = 9 := by kernel_rfl
    rw [q] at hi
    have hr : ∀ i, i < cap → ∃ ru : EnD, (∀ j, j < 9 → w.cell? ((a.add (i * 9)).add j) = (enVs ru )[j]?) := fun i hic => by
      obtain ⟨cs', h1, h2⟩ := hi i hic
      obtain ⟨_, _, hat⟩ := World.cells?_some h1
      obtain ⟨d, rfl⟩ := cells_en1 h2
      exact ⟨d, hat⟩
    have hinh : ∀ i, ∃ ru : EnD, i < cap → ((∀ j, j < 9 → w.cell? ((a.add (i * 9)).add j) = (enVs ru )[j]?)) := fun i => by
      by_cases hic : i < cap
      · obtain ⟨ru, h⟩ := hr i hic
        exact ⟨ru, fun _ => h⟩
      · exact ⟨⟨0, 0, 0, 0, 0, 0, 0, 0, 0⟩, fun h => absurd h hic⟩
    have hF := Classical.axiomOfChoice hinh
    obtain ⟨F, hF⟩ := hF
    have hlen : ((List.range len).map fun i => (F i)).length = len := by simp
    refine ⟨(List.range len).map fun i => (F i), some a, cap, by rw [hlen], by omega, ⟨by omega, hm, fun h => by cases h⟩, fun hp => ?_⟩
    rw [hlen] at hp
    have h0 := hF 0 (by omega) 0 (by omega)
    obtain ⟨b, off, rfl⟩ : ∃ b off, a = ⟨b, off, none⟩ := by
      rw [Go.Deep.add_add] at h0
      exact spot_noneE (v := .int .i64 (F 0).r) h0
    refine ⟨b, off, rfl, fun j hj => ?_⟩
    · rw [hlen] at hj
      have e : ((List.range len).map fun i => (F i))[j]'(by rw [hlen]; exact hj) = (F j) := by simp
      rw [e]
      have hc := hF j (by omega)
      have ha : ∀ t, (((⟨b, off, none⟩ : Addr).add (j * 9)).add t) = ⟨b, off + j * 9 + t, none⟩ := fun t => by
        rw [Go.Deep.add_add, Go.WideShapes.add_plain, Nat.add_assoc]
      simp only [ha] at hc
      intro i v hv
      have hi16 : i < 9 := (List.getElem?_eq_some_iff.1 hv).1
      rw [hc i hi16]
      exact hv

set_option maxRecDepth 100000 in
theorem open_entryS {r : Go.Reach} {b0 : Nat} {v : Value} {d : DataW H} {p : List MemPlace}
    (hv : Value.okWide Try.prog w r b0 22 v) (h : DataW.Trod enc Try.prog w base (fun _ => true) held 22 v d p) : ∃ R, Enz w v R := by
  obtain ⟨a, len, cap, rfl⟩ := okWide_slice Try.underlying22 hv
  obtain ⟨fuel, hf⟩ := h
  exact cells_ens (by simpa [Value.cells] using hf)
end Go.Proofs.Ytcpmfcigciknlaa
