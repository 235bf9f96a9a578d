/- Arguments opened: a row to its numbers and its list, a table to its lists of rows. -/
import Derived.Test.YthnoeknalpnadaaRow
import Derived.Lib.SmallJoins
import Derived.OpenShut
import Derived.Deep.Matrix
namespace Go.Proofs.Ythnoeknalpnadaa
open Go.Joins Go.ChangeShapes Go.WideShapes Go.RowKit Go.Deep
set_option linter.unusedVariables false

theorem ints_of {w : World} {ao : Option Addr} {len cap : Nat} {zs : List Int} (hl : len ≤ cap) (hm : cap ≤ maxLen) (hz : zs.length = cap) (hn : ao = none → cap = 0)
    (hc : ∀ a, ao = some a → ∀ i, i < zs.length → w.cell? (a.add i) = some (.int .i64 (zs.getD i 0))) : Ints w (.slice ao len cap) (zs.take len) := by
  have e : (zs.take len).length = len := by rw [List.length_take]; omega
  refine ⟨ao, cap, by rw [e], by omega, ⟨by omega, hm, hn⟩, fun hp => ?_⟩
  rw [e] at hp
  cases ao with
  | none => have := hn rfl; omega
  | some a =>
    obtain ⟨b, off, rfl, hcc⟩ := ints_at (hc a rfl) (by omega)
    refine ⟨b, off, rfl, fun j hj => ?_⟩
    rw [hcc j (by omega), List.getElem?_take, if_pos (by omega), List.getD_eq_getElem?_getD]

section
variable {H : Type} {enc : TypeId × Value → H} {w : World} {base : Nat} {held : Bool}

theorem cell_int {fuel : Nat} {c : Value} {y : DataW H × List MemPlace} (h : DataW.trod enc Try.prog w base (fun _ => true) held fuel 3 [c] = some y) : ∃ n : Int, c = .int .i64 n ∧ wf64 n := by
  obtain ⟨n0, e0, _, w0⟩ := DataW.trod_int Try.underlying3 h
  simp only [List.cons.injEq, and_true] at e0
  exact ⟨n0, e0, w0⟩
theorem cell_ints {fuel : Nat} {c : Value} {y : DataW H × List MemPlace} (h : DataW.trod enc Try.prog w base (fun _ => true) held fuel 37 [c] = some y) : ∃ l, Ints w c l := by
  rcases open_ints Try.underlying37 Try.underlying3 (by kernel_rfl) h with ⟨hcs, _⟩ | ⟨x, len, cp, zs, hcs, _, hl, hm, hz, _, hcell, hwz⟩
  · simp at hcs
    subst hcs
    exact ⟨[], Ints.nil w⟩
  · simp at hcs
    subst hcs
    exact ⟨zs.take len, ints_of hl hm (by simpa using hz) (fun h => by cases h) (fun a' ha => by cases ha; exact hcell)⟩

set_option maxRecDepth 100000 in
set_option maxHeartbeats 1000000 in
theorem cells_row {fuel : Nat} {cs : List Value} {y : DataW H × List MemPlace} (h : DataW.trod enc Try.prog w base (fun _ => true) held fuel 64 cs = some y) :
    ∃ (r : RowD) (u : Value), cs = [.int .i64 r.b, .int .i64 r.v, .int .i64 r.st, .int .i64 r.k, .int .i64 r.i, .int .i64 r.f, .int .i64 r.t, .int .i64 r.a, .int .i64 r.s, u] ∧ Ints w u r.l := by
  obtain ⟨xs, n, _, hx, hlen, hxl, hg⟩ := DataW.trod_struct Try.underlying64 h
  have q : Try.prog.cellsOf 3 = 1 := by kernel_rfl
  have q2 : Try.prog.cellsOf 37 = 1 := by kernel_rfl
  have q5 : Try.prog.cellsOf 61 = 5 := by kernel_rfl
  have q6 : Try.prog.cellsOf 62 = 2 := by kernel_rfl
  match cs, hlen.trans (show Try.prog.cellsOf 64 = 10 by kernel_rfl) with
  | [c0, c1, c2, c3, c4, c5, c6, c7, c8, c9], _ =>
    match xs, hxl with
    | [y0, y1, y2, y3, y4], _ =>
      obtain ⟨n0, rfl, _⟩ := cell_int (by simpa [q] using hg 0 _ rfl)
      obtain ⟨n1, rfl, _⟩ := cell_int (by simpa [q] using hg 1 _ rfl)
      obtain ⟨n2, rfl, _⟩ := cell_int (by simpa [q] using hg 2 _ rfl)
      have h3 := hg 3 _ rfl
      have h4 := hg 4 _ rfl
      simp [q5] at h3
      simp [q6] at h4
      obtain ⟨zs, n', _, _, _, hzl, hz⟩ := DataW.trod_struct Try.underlying61 h3
      obtain ⟨vs, n'', _, _, _, hvl, hv⟩ := DataW.trod_struct Try.underlying62 h4
      match zs, hzl with
      | [z0, z1, z2, z3, z4], _ =>
        match vs, hvl with
        | [v0, v1], _ =>
          obtain ⟨m0, rfl, _⟩ := cell_int (by simpa [q] using hz 0 _ rfl)
          obtain ⟨m1, rfl, _⟩ := cell_int (by simpa [q] using hz 1 _ rfl)
          obtain ⟨m2, rfl, _⟩ := cell_int (by simpa [q] using hz 2 _ rfl)
          obtain ⟨m3, rfl, _⟩ := cell_int (by simpa [q] using hz 3 _ rfl)
          obtain ⟨m4, rfl, _⟩ := cell_int (by simpa [q] using hz 4 _ rfl)
          obtain ⟨p0, rfl, _⟩ := cell_int (by simpa [q] using hv 0 _ rfl)
          obtain ⟨l, hl⟩ := cell_ints (by simpa [q2] using hv 1 _ rfl)
          exact ⟨⟨n0, n1, n2, m0, m1, m2, m3, m4, p0, l⟩, c9, rfl, hl⟩

theorem spot_none {a : Addr} {v : Value} (h : w.cell? (a.add 0) = some v) : ∃ b off, a = ⟨b, off, none⟩ := by
  obtain ⟨b, off, spot⟩ := a
  have hspot : spot = none := by simpa [Addr.add] using World.cell?_spot h
  subst hspot
  exact ⟨b, off, rfl⟩

theorem cells_rows {fuel : Nat} {c : Value} {y : DataW H × List MemPlace} (h : DataW.trod enc Try.prog w base (fun _ => true) held fuel 33 [c] = some y) : ∃ R, Rowz w c R := by
  rcases open_slice Try.underlying33 h with ⟨hcs, _⟩ | ⟨a, len, cap', cap, n, D, Pl, hcs, _, hl, hm, hmm, _, hi⟩
  · simp at hcs
    subst hcs
    exact ⟨[], Rowz.nil w⟩
  · simp at hcs hmm
    subst hcs hmm
    have q : Try.prog.cellsOf 64 = 10 := by kernel_rfl
    rw [q] at hi
    have hr : ∀ i, i < cap → ∃ ru : RowD × Value, (∀ j, j < 10 → w.cell? ((a.add (i * 10)).add j) = [Value.int .i64 ru.1.b, .int .i64 ru.1.v, .int .i64 ru.1.st, .int .i64 ru.1.k, .int .i64 ru.1.i, .int .i64 ru.1.f, .int .i64 ru.1.t, .int .i64 ru.1.a, .int .i64 ru.1.s, ru.2][j]?) ∧ Ints w ru.2 ru.1.l := fun i hic => by
      obtain ⟨cs', h1, h2⟩ := hi i hic
      obtain ⟨_, _, hat⟩ := World.cells?_some h1
      obtain ⟨r, u, rfl, hl⟩ := cells_row h2
      exact ⟨(r, u), hat, hl⟩
    have hinh : ∀ i, ∃ ru : RowD × Value, i < cap → ((∀ j, j < 10 → w.cell? ((a.add (i * 10)).add j) = [Value.int .i64 ru.1.b, .int .i64 ru.1.v, .int .i64 ru.1.st, .int .i64 ru.1.k, .int .i64 ru.1.i, .int .i64 ru.1.f, .int .i64 ru.1.t, .int .i64 ru.1.a, .int .i64 ru.1.s, ru.2][j]?) ∧ Ints w ru.2 ru.1.l) := fun i => by
      by_cases hic : i < cap
      · obtain ⟨ru, h⟩ := hr i hic
        exact ⟨ru, fun _ => h⟩
      · exact ⟨(⟨0, 0, 0, 0, 0, 0, 0, 0, 0, []⟩, .slice none 0 0), fun h => absurd h hic⟩
    have hF := Classical.axiomOfChoice hinh
    obtain ⟨F, hF⟩ := hF
    have hlen : ((List.range len).map fun i => (F i).1).length = len := by simp
    refine ⟨(List.range len).map fun i => (F i).1, some a, cap, by rw [hlen], by omega, ⟨by omega, hm, fun h => by cases h⟩, fun hp => ?_⟩
    rw [hlen] at hp
    have h0 := (hF 0 (by omega)).1 0 (by omega)
    obtain ⟨b, off, rfl⟩ : ∃ b off, a = ⟨b, off, none⟩ := by
      rw [Go.Deep.add_add] at h0
      exact spot_none (v := .int .i64 (F 0).1.b) h0
    refine ⟨b, off, rfl, fun j hj => ⟨(F j).2, ?_, ?_⟩⟩
    · rw [hlen] at hj
      have e : ((List.range len).map fun i => (F i).1)[j]'(by rw [hlen]; exact hj) = (F j).1 := by simp
      rw [e]
      have hc := (hF j (by omega)).1
      have ha : ∀ t, (((⟨b, off, none⟩ : Addr).add (j * 10)).add t) = ⟨b, off + j * 10 + t, none⟩ := fun t => by
        rw [Go.Deep.add_add, Go.WideShapes.add_plain, Nat.add_assoc]
      simp only [ha] at hc
      exact ⟨hc 0 (by omega), hc 1 (by omega), hc 2 (by omega), hc 3 (by omega), hc 4 (by omega), hc 5 (by omega), hc 6 (by omega), hc 7 (by omega), hc 8 (by omega), hc 9 (by omega)⟩
    · rw [hlen] at hj
      have e : ((List.range len).map fun i => (F i).1)[j]'(by rw [hlen]; exact hj) = (F j).1 := by simp
      rw [e]
      exact (hF j (by omega)).2

theorem cells_tab {fuel : Nat} {c : Value} {y : DataW H × List MemPlace} (h : DataW.trod enc Try.prog w base (fun _ => true) held fuel 50 [c] = some y) : ∃ T, Rowzz w c T := by
  rcases open_slice1 Try.underlying50 (by kernel_rfl) h with ⟨hcs, _⟩ | ⟨a, len, cap', cap, n, V, D, Pl, hcs, _, hl, hm, hmm, _, hi⟩
  · simp at hcs
    subst hcs
    exact ⟨[], Rowzz.nil w⟩
  · simp at hcs hmm
    subst hcs hmm
    have hinh : ∀ i, ∃ R : List RowD, i < cap → Rowz w (V i) R := fun i => by
      by_cases hic : i < cap
      · obtain ⟨R, h⟩ := cells_rows (hi i hic).2
        exact ⟨R, fun _ => h⟩
      · exact ⟨[], fun h => absurd h hic⟩
    obtain ⟨F, hF⟩ := Classical.axiomOfChoice hinh
    have hlen : ((List.range len).map F).length = len := by simp
    refine ⟨(List.range len).map F, some a, cap, by rw [hlen], by omega, ⟨by omega, hm, fun h => by cases h⟩, fun hp => ?_⟩
    rw [hlen] at hp
    obtain ⟨b, off, rfl⟩ : ∃ b off, a = ⟨b, off, none⟩ := spot_none (hi 0 (by omega)).1
    refine ⟨b, off, rfl, fun j hj => ⟨V j, ?_, ?_⟩⟩
    · rw [hlen] at hj
      rw [← Go.WideShapes.add_plain]; exact (hi j (by omega)).1
    · rw [hlen] at hj
      have e : ((List.range len).map F)[j]'(by rw [hlen]; exact hj) = F j := by simp
      rw [e]
      exact hF j (by omega)

set_option maxRecDepth 100000 in
theorem open_table {r : Reach} {b0 : Nat} {v : Value} {d : DataW H} {p : List MemPlace}
    (hv : Value.okWide Try.prog w r b0 52 v) (h : DataW.Trod enc Try.prog w base (fun _ => true) held 52 v d p) :
    ∃ (n : Int) (u : Value) (T : List (List RowD)), v = .agg #[.int .i64 n, u] ∧ wf64 n ∧ Rowzz w u T := by
  obtain ⟨cs, rfl, hsz⟩ := okWide_struct Try.underlying52 hv
  obtain ⟨l⟩ := cs
  match l, hsz.trans (show Try.prog.cellsOf 52 = 2 by kernel_rfl) with
  | [c0, c1], _ =>
    obtain ⟨fuel, hf⟩ := h
    obtain ⟨xs, n, _, hx, _, hlen, hg⟩ := DataW.trod_struct Try.underlying52 hf
    have q : Try.prog.cellsOf 3 = 1 := by kernel_rfl
    have q2 : Try.prog.cellsOf 50 = 1 := by kernel_rfl
    match xs, hlen with
    | [y0, y1], _ =>
      obtain ⟨n0, rfl, w0⟩ := cell_int (by simpa [Value.cells, q] using hg 0 _ rfl)
      obtain ⟨T, hT⟩ := cells_tab (by simpa [Value.cells, q2] using hg 1 _ rfl)
      exact ⟨n0, c1, T, rfl, w0, hT⟩
end

end Go.Proofs.Ythnoeknalpnadaa
