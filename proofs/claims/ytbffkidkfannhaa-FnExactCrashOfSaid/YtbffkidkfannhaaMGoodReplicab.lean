/- Texts of this proof, part b: words, plain facts, contracts. -/
import Derived.Test.YtbffkidkfannhaaMGoodReplicaa

namespace Go.Proofs.Ytbffkidkfannhaa
open Go.RowKit
set_option linter.unusedVariables false

/-- The block b holds vs from its first cell on, and may be written. -/
structure BoxV (w : World) (b : Nat) (vs : List Value) : Prop where
  cell : ∀ j v, vs[j]? = some v → w.cell? ⟨b, j, none⟩ = some v
  free : ∀ j, j < vs.length → w.frozen? ⟨b, j, none⟩ = false
  lt : b < w.heap.size
theorem BoxV.ext {w w' : World} {b : Nat} {vs : List Value} (h : BoxV w b vs) (e : Ext w w') : BoxV w' b vs :=
  ⟨fun j v hj => e.cell (h.cell j v hj), fun j hj => by
    have hb := Below.block e b h.lt
    have := h.free j hj
    unfold World.frozen? at this ⊢
    rw [hb]
    exact this, Nat.lt_of_lt_of_le h.lt e.size⟩
theorem BoxV.set {w : World} {b : Nat} {vs : List Value} (h : BoxV w b vs) (i : Nat) (x : Value) (hi : i < vs.length) : BoxV (w.setCell ⟨b, i, none⟩ x) b (vs.set i x) := by
  refine ⟨fun j v hj => ?_, fun j hj => ?_, by simpa using h.lt⟩
  · by_cases e : j = i
    · subst e
      rw [List.getElem?_set_self hi] at hj
      have hc : ∃ y, w.cell? ⟨b, j, none⟩ = some y := ⟨_, h.cell j _ (List.getElem?_eq_getElem hi)⟩
      obtain ⟨y, hy⟩ := hc
      rw [← hj]
      exact World.cell?_setCell_same _ _ _ hy
    · rw [List.getElem?_set_ne (fun h => e h.symm)] at hj
      rw [World.cell?_setCell_other _ _ _ _ (fun q => e (by cases q; rfl))]
      exact h.cell j v hj
  · rw [World.frozen?_setCell]
    rw [List.length_set] at hj
    exact h.free j hj
theorem BoxV.other {w : World} {b : Nat} {vs : List Value} (h : BoxV w b vs) (a : Addr) (x : Value) (hne : a.block ≠ b) : BoxV (w.setCell a x) b vs :=
  ⟨fun j v hj => by rw [World.cell?_setCell_other _ _ _ _ (fun q => hne (by rw [q]))]; exact h.cell j v hj, fun j hj => by rw [World.frozen?_setCell]; exact h.free j hj, by simpa using h.lt⟩
theorem boxV_new (w : World) (vs : List Value) (T : TypeId) : BoxV (w.alloc (.cells vs.toArray T)) w.heap.size vs :=
  ⟨fun j v hj => by rw [World.cell?_alloc_new]; simpa using hj, fun j hj => by simp [go_sem], by simp⟩
end Go.Proofs.Ytbffkidkfannhaa

namespace Go.Proofs.Ytbffkidkfannhaa
open Go.RowKit
set_option linter.unusedVariables false

structure LeadD where
  rp : Int
  no : Int
  bl : Int
  ph : Int
  k : Int
  i : Int
  f : Int
  t : Int
  a : Int
  s1 : Int
  l1 : List Int
  s2 : Int
  l2 : List Int
  sm : Bool
  who : List Int
  seen : List RowD
/-- Its cells, the lists in the slices u1 .. u4. -/
def leadVs (d : LeadD) (u1 u2 u3 u4 : Value) : List Value := [.int .i64 d.rp, .int .i64 d.no, .int .i64 d.bl, .int .i64 d.ph, .int .i64 d.k, .int .i64 d.i, .int .i64 d.f, .int .i64 d.t, .int .i64 d.a, .int .i64 d.s1, u1, .int .i64 d.s2, u2, .bool d.sm, u3, u4]
/-- Its lists read so. -/
structure LeadL (w : World) (d : LeadD) (u1 u2 u3 u4 : Value) : Prop where
  i1 : Ints w u1 d.l1
  i2 : Ints w u2 d.l2
  i3 : Ints w u3 d.who
  i4 : Rowz w u4 d.seen
theorem LeadL.ext {w w' : World} {d : LeadD} {u1 u2 u3 u4 : Value} (h : LeadL w d u1 u2 u3 u4) (e : Ext w w') : LeadL w' d u1 u2 u3 u4 := ⟨h.i1.ext e, h.i2.ext e, h.i3.ext e, h.i4.ext e⟩
/-- The cells lie in block b from o on. -/
def LeadIn (w : World) (b o : Nat) (d : LeadD) (u1 u2 u3 u4 : Value) : Prop := ∀ j v, (leadVs d u1 u2 u3 u4)[j]? = some v → w.cell? ⟨b, o + j, none⟩ = some v
theorem LeadIn.ext {w w' : World} {b o : Nat} {d : LeadD} {u1 u2 u3 u4 : Value} (h : LeadIn w b o d u1 u2 u3 u4) (e : Ext w w') : LeadIn w' b o d u1 u2 u3 u4 := fun j v hj => e.cell (h j v hj)
/-- v is a slice that reads as the leads L in w. -/
def Leadz (w : World) (v : Value) (L : List LeadD) : Prop :=
  ∃ ao cap, v = .slice ao L.length cap ∧ L.length ≤ maxLen ∧ (L.length ≤ cap ∧ cap ≤ maxLen ∧ (ao = none → cap = 0)) ∧
    (0 < L.length → ∃ b off, ao = some ⟨b, off, none⟩ ∧ ∀ j (h : j < L.length), ∃ u1 u2 u3 u4, LeadIn w b (off + j * 16) L[j] u1 u2 u3 u4 ∧ LeadL w L[j] u1 u2 u3 u4)
theorem Leadz.ext {w w' : World} {v : Value} {L : List LeadD} (h : Leadz w v L) (e : Ext w w') : Leadz w' v L := by
  obtain ⟨ao, cap, hv, hm, hcap, hc⟩ := h
  refine ⟨ao, cap, hv, hm, hcap, fun hp => ?_⟩
  obtain ⟨b, off, ha, hc⟩ := hc hp
  refine ⟨b, off, ha, fun j hj => ?_⟩
  obtain ⟨u1, u2, u3, u4, hu, hi⟩ := hc j hj
  exact ⟨u1, u2, u3, u4, hu.ext e, hi.ext e⟩
theorem Leadz.nil (w : World) : Leadz w (.slice none 0 0) [] := ⟨none, 0, rfl, by simp, ⟨by simp, by simp, fun _ => rfl⟩, fun h => by simp at h⟩
/-- How much a lead, leads weigh. -/
def bulkD (d : LeadD) : Nat := d.l1.length + d.l2.length + d.who.length + bulkR d.seen
def bulkL (L : List LeadD) : Nat := L.length + (L.map bulkD).sum
theorem bulkL_lead {L : List LeadD} {j : Nat} (h : j < L.length) : bulkD L[j] ≤ bulkL L := by
  unfold bulkL
  have := len_le_sum (L.map bulkD) _ (List.mem_map.2 ⟨L[j], List.getElem_mem h, rfl⟩)
  omega
theorem lead_box (w : World) (T : TypeId) (d : LeadD) (u1 u2 u3 u4 : Value) : BoxV (w.alloc (.cells #[.int .i64 d.rp, .int .i64 d.no, .int .i64 d.bl, .int .i64 d.ph, .int .i64 d.k, .int .i64 d.i, .int .i64 d.f, .int .i64 d.t, .int .i64 d.a, .int .i64 d.s1, u1, .int .i64 d.s2, u2, .bool d.sm, u3, u4] T)) w.heap.size (leadVs d u1 u2 u3 u4) := boxV_new w (leadVs d u1 u2 u3 u4) T
end Go.Proofs.Ytbffkidkfannhaa

namespace Go.Proofs.Ytbffkidkfannhaa
open Go.Joins Go.ChangeShapes Go.WideShapes Go.RowKit Go.Deep
set_option linter.unusedVariables false

theorem keep8 {wb W W' : World} {a b c d a' b' c' d' : Addr} {u v r s u' v' r' s' : Value} (x : Ext W W') (h : Ext wb W ∧ W.cell? a = some u ∧ W.cell? b = some v ∧ W.cell? c = some r ∧ W.cell? d = some s ∧ W.cell? a' = some u' ∧ W.cell? b' = some v' ∧ W.cell? c' = some r' ∧ W.cell? d' = some s') : Ext wb W' ∧ W'.cell? a = some u ∧ W'.cell? b = some v ∧ W'.cell? c = some r ∧ W'.cell? d = some s ∧ W'.cell? a' = some u' ∧ W'.cell? b' = some v' ∧ W'.cell? c' = some r' ∧ W'.cell? d' = some s' :=
  ⟨h.1.trans x, x.cell h.2.1, x.cell h.2.2.1, x.cell h.2.2.2.1, x.cell h.2.2.2.2.1, x.cell h.2.2.2.2.2.1, x.cell h.2.2.2.2.2.2.1, x.cell h.2.2.2.2.2.2.2.1, x.cell h.2.2.2.2.2.2.2.2⟩

section
variable {H : Type} {enc : TypeId × Value → H} {w : World} {base : Nat} {held : Bool}

theorem cell_bool {fuel : Nat} {c : Value} {y : DataW H × List MemPlace} (h : DataW.trod enc Try.prog w base (fun _ => true) held fuel 4 [c] = some y) : ∃ b : Bool, c = .bool b := by
  obtain ⟨b0, e0, _⟩ := DataW.trod_bool Try.underlying4 h
  simp only [List.cons.injEq, and_true] at e0
  exact ⟨b0, e0⟩
set_option maxRecDepth 100000 in
theorem cells_cmd {fuel : Nat} {cs : List Value} {y : DataW H × List MemPlace} (h : DataW.trod enc Try.prog w base (fun _ => true) held fuel 43 cs = some y) (hl : cs.length = 5) :
    ∃ k i f t a : Int, cs = [.int .i64 k, .int .i64 i, .int .i64 f, .int .i64 t, .int .i64 a] := by
  obtain ⟨zs, n', _, _, _, hzl, hz⟩ := DataW.trod_struct Try.underlying43 h
  have q : Try.prog.cellsOf 3 = 1 := by kernel_rfl
  match cs, hl with
  | [c0, c1, c2, c3, c4], _ =>
    match zs, hzl with
    | [z0, z1, z2, z3, z4], _ =>
      obtain ⟨m0, rfl, _⟩ := cell_int (by simpa [q] using hz 0 _ rfl)
      obtain ⟨m1, rfl, _⟩ := cell_int (by simpa [q] using hz 1 _ rfl)
      obtain ⟨m2, rfl, _⟩ := cell_int (by simpa [q] using hz 2 _ rfl)
      obtain ⟨m3, rfl, _⟩ := cell_int (by simpa [q] using hz 3 _ rfl)
      obtain ⟨m4, rfl, _⟩ := cell_int (by simpa [q] using hz 4 _ rfl)
      exact ⟨m0, m1, m2, m3, m4, rfl⟩
set_option maxRecDepth 100000 in
theorem cells_attr {fuel : Nat} {cs : List Value} {y : DataW H × List MemPlace} (h : DataW.trod enc Try.prog w base (fun _ => true) held fuel 46 cs = some y) (hl : cs.length = 2) :
    ∃ (s : Int) (u : Value) (l : List Int), cs = [.int .i64 s, u] ∧ Ints w u l := by
  obtain ⟨zs, n', _, _, _, hzl, hz⟩ := DataW.trod_struct Try.underlying46 h
  have q : Try.prog.cellsOf 3 = 1 := by kernel_rfl
  have q2 : Try.prog.cellsOf 44 = 1 := by kernel_rfl
  match cs, hl with
  | [c0, c1], _ =>
    match zs, hzl with
    | [z0, z1], _ =>
      obtain ⟨m0, rfl, _⟩ := cell_int (by simpa [q] using hz 0 _ rfl)
      obtain ⟨l, hl⟩ := cell_ints (by simpa [q2] using hz 1 _ rfl)
      exact ⟨m0, c1, l, rfl, hl⟩

set_option maxRecDepth 100000 in
set_option maxHeartbeats 2000000 in
theorem cells_lead {fuel : Nat} {cs : List Value} {y : DataW H × List MemPlace} (h : DataW.trod enc Try.prog w base (fun _ => true) held fuel 96 cs = some y) :
    ∃ (d : LeadD) (u1 u2 u3 u4 : Value), cs = leadVs d u1 u2 u3 u4 ∧ LeadL w d u1 u2 u3 u4 := by
  obtain ⟨xs, n, _, hx, hlen, hxl, hg⟩ := DataW.trod_struct Try.underlying96 h
  have q : Try.prog.cellsOf 3 = 1 := by kernel_rfl
  have q1 : Try.prog.cellsOf 4 = 1 := by kernel_rfl
  have q2 : Try.prog.cellsOf 44 = 1 := by kernel_rfl
  have q3 : Try.prog.cellsOf 94 = 1 := by kernel_rfl
  have q5 : Try.prog.cellsOf 43 = 5 := by kernel_rfl
  have q6 : Try.prog.cellsOf 46 = 2 := by kernel_rfl
  match cs, hlen.trans (show Try.prog.cellsOf 96 = 16 by kernel_rfl) with
  | [c0, c1, c2, c3, c4, c5, c6, c7, c8, c9, c10, c11, c12, c13, c14, c15], _ =>
    match xs, hxl with
    | [y0, y1, y2, y3, y4, y5, y6, y7, y8, y9], _ =>
      obtain ⟨n0, rfl, _⟩ := cell_int (by simpa [q] using hg 0 _ rfl)
      obtain ⟨n1, rfl, _⟩ := cell_int (by simpa [q] using hg 1 _ rfl)
      obtain ⟨n2, rfl, _⟩ := cell_int (by simpa [q] using hg 2 _ rfl)
      obtain ⟨n3, rfl, _⟩ := cell_int (by simpa [q] using hg 3 _ rfl)
      have h4 := hg 4 _ rfl
      have h5 := hg 5 _ rfl
      have h6 := hg 6 _ rfl
      have h7 := hg 7 _ rfl
      have h8 := hg 8 _ rfl
      have h9 := hg 9 _ rfl
      simp [q5] at h4
      simp [q6] at h5
      simp [q6] at h6
      simp [q1] at h7
      simp [q2] at h8
      simp [q3] at h9
      obtain ⟨k, i, f, t, a, e4⟩ := cells_cmd h4 rfl
      obtain ⟨s1, u1, l1, e5, i1⟩ := cells_attr h5 rfl
      obtain ⟨s2, u2, l2, e6, i2⟩ := cells_attr h6 rfl
      obtain ⟨b, rfl⟩ := cell_bool h7
      obtain ⟨l3, i3⟩ := cell_ints h8
      obtain ⟨R, i4⟩ := cells_rows h9
      simp only [List.cons.injEq, and_true] at e4 e5 e6
      obtain ⟨rfl, rfl, rfl, rfl, rfl⟩ := e4
      obtain ⟨rfl, rfl⟩ := e5
      obtain ⟨rfl, rfl⟩ := e6
      exact ⟨⟨n0, n1, n2, n3, k, i, f, t, a, s1, l1, s2, l2, b, l3, R⟩, _, _, _, _, rfl, i1, i2, i3, i4⟩

def zeroLead : LeadD := ⟨0, 0, 0, 0, 0, 0, 0, 0, 0, 0, [], 0, [], false, [], []⟩
set_option maxRecDepth 100000 in
theorem cells_leads {fuel : Nat} {c : Value} {y : DataW H × List MemPlace} (h : DataW.trod enc Try.prog w base (fun _ => true) held fuel 25 [c] = some y) : ∃ L, Leadz w c L := by
  rcases open_slice Try.underlying25 h with ⟨hcs, _⟩ | ⟨a, len, cap', cap, n, D, Pl, hcs, _, hl, hm, hmm, _, hi⟩
  · simp at hcs
    subst hcs
    exact ⟨[], Leadz.nil w⟩
  · simp at hcs hmm
    subst hcs hmm
    have q : Try.prog.cellsOf 96 = 16 := by kernel_rfl
    rw [q] at hi
    have hr : ∀ i, i < cap → ∃ ru : LeadD × Value × Value × Value × Value, (∀ j, j < 16 → w.cell? ((a.add (i * 16)).add j) = (leadVs ru.1 ru.2.1 ru.2.2.1 ru.2.2.2.1 ru.2.2.2.2)[j]?) ∧ LeadL w ru.1 ru.2.1 ru.2.2.1 ru.2.2.2.1 ru.2.2.2.2 := fun i hic => by
      obtain ⟨cs', h1, h2⟩ := hi i hic
      obtain ⟨_, _, hat⟩ := World.cells?_some h1
      obtain ⟨d, u1, u2, u3, u4, rfl, hl⟩ := cells_lead h2
      exact ⟨(d, u1, u2, u3, u4), hat, hl⟩
    have hinh : ∀ i, ∃ ru : LeadD × Value × Value × Value × Value, i < cap → ((∀ j, j < 16 → w.cell? ((a.add (i * 16)).add j) = (leadVs ru.1 ru.2.1 ru.2.2.1 ru.2.2.2.1 ru.2.2.2.2)[j]?) ∧ LeadL w ru.1 ru.2.1 ru.2.2.1 ru.2.2.2.1 ru.2.2.2.2) := fun i => by
      by_cases hic : i < cap
      · obtain ⟨ru, h⟩ := hr i hic
        exact ⟨ru, fun _ => h⟩
      · exact ⟨(zeroLead, .slice none 0 0, .slice none 0 0, .slice none 0 0, .slice none 0 0), fun h => absurd h hic⟩
    have hF := Classical.axiomOfChoice hinh
    obtain ⟨F, hF⟩ := hF
    have hlen : ((List.range len).map fun i => (F i).1).length = len := by simp
    refine ⟨(List.range len).map fun i => (F i).1, some a, cap, by rw [hlen], by omega, ⟨by omega, hm, fun h => by cases h⟩, fun hp => ?_⟩
    rw [hlen] at hp
    have h0 := (hF 0 (by omega)).1 0 (by omega)
    obtain ⟨b, off, rfl⟩ : ∃ b off, a = ⟨b, off, none⟩ := by
      rw [Go.Deep.add_add] at h0
      exact spot_none (v := .int .i64 (F 0).1.rp) h0
    refine ⟨b, off, rfl, fun j hj => ⟨(F j).2.1, (F j).2.2.1, (F j).2.2.2.1, (F j).2.2.2.2, ?_, ?_⟩⟩
    · rw [hlen] at hj
      have e : ((List.range len).map fun i => (F i).1)[j]'(by rw [hlen]; exact hj) = (F j).1 := by simp
      rw [e]
      have hc := (hF j (by omega)).1
      have ha : ∀ t, (((⟨b, off, none⟩ : Addr).add (j * 16)).add t) = ⟨b, off + j * 16 + t, none⟩ := fun t => by
        rw [Go.Deep.add_add, Go.WideShapes.add_plain, Nat.add_assoc]
      simp only [ha] at hc
      intro i v hv
      have hi16 : i < 16 := (List.getElem?_eq_some_iff.1 hv).1
      rw [hc i hi16]
      exact hv
    · rw [hlen] at hj
      have e : ((List.range len).map fun i => (F i).1)[j]'(by rw [hlen]; exact hj) = (F j).1 := by simp
      rw [e]
      exact (hF j (by omega)).2

set_option maxRecDepth 100000 in
theorem cells_rep {fuel : Nat} {cs : List Value} {y : DataW H × List MemPlace} (h : DataW.trod enc Try.prog w base (fun _ => true) held fuel 27 cs = some y) :
    ∃ (me n : Int) (u v : Value) (T : List (List RowD)) (L : List LeadD), cs = [.int .i64 me, .int .i64 n, u, v] ∧ wf64 me ∧ wf64 n ∧ Rowzz w u T ∧ Leadz w v L := by
  obtain ⟨xs, n, _, hx, hlen, hxl, hg⟩ := DataW.trod_struct Try.underlying27 h
  have q : Try.prog.cellsOf 3 = 1 := by kernel_rfl
  have q2 : Try.prog.cellsOf 22 = 1 := by kernel_rfl
  have q3 : Try.prog.cellsOf 25 = 1 := by kernel_rfl
  have q4 : Try.prog.cellsOf 24 = 2 := by kernel_rfl
  match cs, hlen.trans (show Try.prog.cellsOf 27 = 4 by kernel_rfl) with
  | [c0, c1, c2, c3], _ =>
    match xs, hxl with
    | [y0, y1, y2], _ =>
      obtain ⟨n0, rfl, w0⟩ := cell_int (by simpa [q] using hg 0 _ rfl)
      have h1 := hg 1 _ rfl
      have h2 := hg 2 _ rfl
      simp [q4] at h1
      simp [q3] at h2
      obtain ⟨zs, n', _, _, _, hzl, hz⟩ := DataW.trod_struct Try.underlying24 h1
      match zs, hzl with
      | [z0, z1], _ =>
        obtain ⟨n1, rfl, w1⟩ := cell_int (by simpa [q] using hz 0 _ rfl)
        obtain ⟨T, hT⟩ := cells_tab (by simpa [q, q2] using hz 1 _ rfl)
        obtain ⟨L, hL⟩ := cells_leads h2
        exact ⟨n0, n1, c2, c3, T, L, rfl, w0, w1, hT, hL⟩

set_option maxRecDepth 100000 in
theorem open_rep {r : Reach} {b0 : Nat} {v : Value} {d : DataW H} {p : List MemPlace}
    (hv : Value.okWide Try.prog w r b0 27 v) (h : DataW.Trod enc Try.prog w base (fun _ => true) held 27 v d p) :
    ∃ (me n : Int) (u v' : Value) (T : List (List RowD)) (L : List LeadD), v = .agg #[.int .i64 me, .int .i64 n, u, v'] ∧ wf64 me ∧ wf64 n ∧ Rowzz w u T ∧ Leadz w v' L := by
  obtain ⟨cs, rfl, hsz⟩ := okWide_struct Try.underlying27 hv
  obtain ⟨fuel, hf⟩ := h
  obtain ⟨me, n, u, v', T, L, e, h1, h2, h3, h4⟩ := cells_rep hf
  obtain ⟨l⟩ := cs
  have e' : l = [.int .i64 me, .int .i64 n, u, v'] := by simpa [Value.cells] using e
  subst e'
  exact ⟨me, n, u, v', T, L, rfl, h1, h2, h3, h4⟩
end

end Go.Proofs.Ytbffkidkfannhaa

namespace Go.Proofs.Ytbffkidkfannhaa
open Go.RowKit
set_option linter.unusedVariables false

set_option maxHeartbeats 1000000 in
theorem szRow_any (r : RowD) (u : Value) (left : Int) (w : World) (hv : Ints w u r.l) (h0 : 0 ≤ left) (h1 : left ≤ 1099511627776) :
    Calls Try.prog 16 #[.agg #[.int .i64 r.b, .int .i64 r.v, .int .i64 r.st, .int .i64 r.k, .int .i64 r.i, .int .i64 r.f, .int .i64 r.t, .int .i64 r.a, .int .i64 r.s, u], .int .i64 left] w (IntExt (lessened left r.l.length) w) := by
  have HB := rowAt_new w 48 r u
  by_cases hlt : left < r.l.length
  · have L := Lib.hid (lessened_no hlt)
    clear hlt
    go_enter Try.func16, Try.ntmps16
    go_wp2_with fail
    refine (szAttr_any _ _ _ _ _ (hv.ext (Ext.alloc (Ext.refl _) _)) h0 h1).mono ?_
    rintro e w1 ⟨rfl, x1⟩
    have hx := (Ext.alloc (Ext.refl w) _).trans x1
    clear x1 HB
    rw [L.out]
    go_wp2
    go_ret
    exact ⟨by rw [L.out]; rfl, hx⟩
  · obtain ⟨q, hq⟩ : ∃ q, q = left - (r.l.length : Int) := ⟨_, rfl⟩
    have hq0 : 0 ≤ q := by omega
    have LR : Hid (lessened left r.l.length = q) := Lib.hid (by rw [hq]; exact lessened_yes (by omega))
    clear hlt hq
    rw [LR.out]
    go_enter Try.func16, Try.ntmps16
    go_wp2_with fail
    refine (szAttr_any _ _ _ _ _ (hv.ext (Ext.alloc (Ext.refl _) _)) h0 h1).mono ?_
    rintro e w1 ⟨rfl, x1⟩
    have hx := (Ext.alloc (Ext.refl w) _).trans x1
    clear x1 HB
    rw [LR.out]
    go_wp2
    go_ret
    exact ⟨rfl, hx⟩

end Go.Proofs.Ytbffkidkfannhaa

namespace Go.Proofs.Ytbffkidkfannhaa
open Go.RowKit
set_option linter.unusedVariables false

def lensR (R : List RowD) : List Nat := R.map fun r => r.l.length
theorem lensR_len (R : List RowD) : (lensR R).length = R.length := by simp [lensR]
theorem lensR_get {R : List RowD} {k : Nat} (h : k < R.length) : (lensR R)[k]'(by rw [lensR_len]; exact h) = R[k].l.length := by simp [lensR]

set_option maxHeartbeats 1000000 in
theorem szRowS_any (v : Value) (R : List RowD) (left : Int) (w : World) (hv : Rowz w v R) (h0 : 0 ≤ left) (h1 : left ≤ 1099511627776) :
    Calls Try.prog 85 #[v, .int .i64 left] w (IntExt (lessened left (bulkR R)) w) := by
  obtain ⟨av, cv, rfl, hlv, _, hcv⟩ := hv
  unfold maxLen at hlv
  have hb : bulkR R = R.length + (lensR R).sum := rfl
  by_cases hlt : left < R.length
  · rw [lessened_no (by omega)]
    clear hb hcv
    go_enter Try.func85, Try.ntmps85
    go_wp2
    go_ret
    exact ⟨rfl, Ext.refl _⟩
  · have HBK := Lib.hid hb
    have hle : (R.length : Int) ≤ left := by omega
    clear hb hlt
    go_enter Try.func85, Try.ntmps85
    go_wp2
    go_loopw [1, 5] (fun m i wr => ∃ (k : Nat) (r : Int), k ≤ R.length ∧ i = .int .i64 k ∧ m = .int .i64 r ∧ 0 ≤ r ∧ Hid (r = left - R.length - sumN (lensR R) k) ∧ Ext w wr) (fun _ i _ => R.length - (intOf i).toNat)
    case atStart => exact ⟨0, left - R.length, Nat.zero_le _, rfl, rfl, by omega, Lib.hid (by rw [sumN_zero]; simp), Ext.refl _⟩
    case round =>
      obtain ⟨k, r, hk, rfl, rfl, hr0, hr, hx⟩ := hrel
      have hr1 : r ≤ 1099511627776 := by have := hr.out; omega
      by_cases hlt : k < R.length
      · obtain ⟨b, off, rfl, dv⟩ := hcv (by omega)
        obtain ⟨u, hu, iu⟩ := dv k hlt
        have hs := sumN_succ (g := lensR R) (k := k) (by rw [lensR_len]; exact hlt)
        rw [lensR_get hlt] at hs
        obtain ⟨d, hd⟩ : ∃ d, d = R[k] := ⟨_, rfl⟩
        rw [← hd] at hu iu hs
        obtain ⟨c0, c1, c2, c3, c4, c5, c6, c7, c8, c9⟩ := hu.ext hx
        have IU := Lib.hid (iu.ext hx)
        have HS := Lib.hid hs
        clear hcv dv hu iu hs hd
        by_cases hl : r < d.l.length
        · have L := Lib.hid (lessened_no hl)
          have hsum := sumN_mono (g := lensR R) (k := k + 1) (by rw [lensR_len]; omega)
          have HL := Lib.hid (show lessened left (bulkR R) = -1 from lessened_no (by have h1 := hr.out; have h2 := HS.out; have h3 := HBK.out; omega))
          clear hl hsum
          go_wp2_with fail
          refine (szRow_any d _ _ _ IU.out hr0 (by omega)).mono ?_
          rintro e w2 ⟨rfl, x2⟩
          have hx2 := hx.trans x2
          clear x2 hx c0 c1 c2 c3 c4 c5 c6 c7 c8 c9
          rw [L.out]
          go_wp2
          go_ret
          exact ⟨by rw [HL.out]; rfl, hx2⟩
        · obtain ⟨q, hq⟩ : ∃ q, q = r - (d.l.length : Int) := ⟨_, rfl⟩
          have hq0 : 0 ≤ q := by omega
          have L : Hid (lessened r d.l.length = q) := Lib.hid (by rw [hq]; exact lessened_yes (by omega))
          have HQ := Lib.hid hq
          clear hl hq
          go_wp2_with fail
          refine (szRow_any d _ _ _ IU.out hr0 (by omega)).mono ?_
          rintro e w2 ⟨rfl, x2⟩
          have hx2 := hx.trans x2
          clear x2 hx c0 c1 c2 c3 c4 c5 c6 c7 c8 c9
          rw [L.out]
          go_wp2
          go_roundw
          case rel => exact ⟨k + 1, q, by omega, by go_num, rfl, hq0, Lib.hid (by have h1 := hr.out; have h2 := HS.out; have h3 := HQ.out; omega), hx2⟩
          case measure => simp [intOf]; omega
      · obtain rfl : k = R.length := by omega
        go_wp2
        go_ret
        refine ⟨?_, hx⟩
        have h1 := hr.out
        have h3 := HBK.out
        have h4 := sumN_all (lensR R)
        rw [lensR_len] at h4
        have he : lessened left (bulkR R) = r := by rw [lessened_yes (by omega)]; omega
        rw [he]; rfl

def bulks (T : List (List RowD)) : List Nat := T.map bulkR
theorem bulks_len (T : List (List RowD)) : (bulks T).length = T.length := by simp [bulks]
theorem bulks_get {T : List (List RowD)} {k : Nat} (h : k < T.length) : (bulks T)[k]'(by rw [bulks_len]; exact h) = bulkR T[k] := by simp [bulks]

set_option maxHeartbeats 1000000 in
theorem szRowSS_any (v : Value) (T : List (List RowD)) (left : Int) (w : World) (hv : Rowzz w v T) (h0 : 0 ≤ left) (h1 : left ≤ 1099511627776) :
    Calls Try.prog 40 #[v, .int .i64 left] w (IntExt (lessened left (bulkT T)) w) := by
  obtain ⟨av, cv, rfl, hlv, _, hcv⟩ := hv
  unfold maxLen at hlv
  have hb : bulkT T = T.length + (bulks T).sum := rfl
  by_cases hlt : left < T.length
  · rw [lessened_no (by omega)]
    clear hb hcv
    go_enter Try.func40, Try.ntmps40
    go_wp2
    go_ret
    exact ⟨rfl, Ext.refl _⟩
  · have HBK := Lib.hid hb
    have hle : (T.length : Int) ≤ left := by omega
    clear hb hlt
    go_enter Try.func40, Try.ntmps40
    go_wp2
    go_loopw [1, 5] (fun m i wr => ∃ (k : Nat) (r : Int), k ≤ T.length ∧ i = .int .i64 k ∧ m = .int .i64 r ∧ 0 ≤ r ∧ Hid (r = left - T.length - sumN (bulks T) k) ∧ Ext w wr) (fun _ i _ => T.length - (intOf i).toNat)
    case atStart => exact ⟨0, left - T.length, Nat.zero_le _, rfl, rfl, by omega, Lib.hid (by rw [sumN_zero]; simp), Ext.refl _⟩
    case round =>
      obtain ⟨k, r, hk, rfl, rfl, hr0, hr, hx⟩ := hrel
      have hr1 : r ≤ 1099511627776 := by have := hr.out; omega
      by_cases hlt : k < T.length
      · obtain ⟨b, off, rfl, dv⟩ := hcv (by omega)
        obtain ⟨u, hu, iu⟩ := dv k hlt
        have hs := sumN_succ (g := bulks T) (k := k) (by rw [bulks_len]; exact hlt)
        rw [bulks_get hlt] at hs
        obtain ⟨d, hd⟩ : ∃ d, d = T[k] := ⟨_, rfl⟩
        rw [← hd] at iu hs
        have c0 := hx.cell hu
        have IU := Lib.hid (iu.ext hx)
        have HS := Lib.hid hs
        clear hcv dv hu iu hs hd
        by_cases hl : r < bulkR d
        · have L := Lib.hid (lessened_no hl)
          have hsum := sumN_mono (g := bulks T) (k := k + 1) (by rw [bulks_len]; omega)
          have HL := Lib.hid (show lessened left (bulkT T) = -1 from lessened_no (by have h1 := hr.out; have h2 := HS.out; have h3 := HBK.out; omega))
          clear hl hsum
          go_wp2_with fail
          refine (szRowS_any _ d _ _ IU.out hr0 (by omega)).mono ?_
          rintro e w2 ⟨rfl, x2⟩
          have hx2 := hx.trans x2
          clear x2 hx c0
          rw [L.out]
          go_wp2
          go_ret
          exact ⟨by rw [HL.out]; rfl, hx2⟩
        · obtain ⟨q, hq⟩ : ∃ q, q = r - (bulkR d : Int) := ⟨_, rfl⟩
          have hq0 : 0 ≤ q := by omega
          have L : Hid (lessened r (bulkR d) = q) := Lib.hid (by rw [hq]; exact lessened_yes (by omega))
          have HQ := Lib.hid hq
          clear hl hq
          go_wp2_with fail
          refine (szRowS_any _ d _ _ IU.out hr0 (by omega)).mono ?_
          rintro e w2 ⟨rfl, x2⟩
          have hx2 := hx.trans x2
          clear x2 hx c0
          rw [L.out]
          go_wp2
          go_roundw
          case rel => exact ⟨k + 1, q, by omega, by go_num, rfl, hq0, Lib.hid (by have h1 := hr.out; have h2 := HS.out; have h3 := HQ.out; omega), hx2⟩
          case measure => simp [intOf]; omega
      · obtain rfl : k = T.length := by omega
        go_wp2
        go_ret
        refine ⟨?_, hx⟩
        have h1 := hr.out
        have h3 := HBK.out
        have h4 := sumN_all (bulks T)
        rw [bulks_len] at h4
        have he : lessened left (bulkT T) = r := by rw [lessened_yes (by omega)]; omega
        rw [he]; rfl

set_option maxHeartbeats 1000000 in
theorem szTable_any (n : Int) (u : Value) (T : List (List RowD)) (left : Int) (w : World) (hv : Rowzz w u T) (h0 : 0 ≤ left) (h1 : left ≤ 1099511627776) :
    Calls Try.prog 15 #[.agg #[.int .i64 n, u], .int .i64 left] w (IntExt (lessened left (bulkT T)) w) := by
  have HB := attrAt_new w 24 n u
  by_cases hlt : left < bulkT T
  · have L := Lib.hid (lessened_no hlt)
    clear hlt
    go_enter Try.func15, Try.ntmps15
    go_wp2_with fail
    refine (szRowSS_any _ _ _ _ (hv.ext (Ext.alloc (Ext.refl _) _)) h0 h1).mono ?_
    rintro e w1 ⟨rfl, x1⟩
    have hx := (Ext.alloc (Ext.refl w) _).trans x1
    clear x1 HB
    rw [L.out]
    go_wp2
    go_ret
    exact ⟨by rw [L.out]; rfl, hx⟩
  · obtain ⟨q, hq⟩ : ∃ q, q = left - (bulkT T : Int) := ⟨_, rfl⟩
    have hq0 : 0 ≤ q := by omega
    have LR : Hid (lessened left (bulkT T) = q) := Lib.hid (by rw [hq]; exact lessened_yes (by omega))
    clear hlt hq
    rw [LR.out]
    go_enter Try.func15, Try.ntmps15
    go_wp2_with fail
    refine (szRowSS_any _ _ _ _ (hv.ext (Ext.alloc (Ext.refl _) _)) h0 h1).mono ?_
    rintro e w1 ⟨rfl, x1⟩
    have hx := (Ext.alloc (Ext.refl w) _).trans x1
    clear x1 HB
    rw [LR.out]
    go_wp2
    go_ret
    exact ⟨rfl, hx⟩

end Go.Proofs.Ytbffkidkfannhaa

namespace Go.Proofs.Ytbffkidkfannhaa
open Go.RowKit

theorem l1In_any (n lo hi : Int) (w : World) :
    Calls Try.prog 28 #[.int .i64 n, .int .i64 lo, .int .i64 hi] w fun e w' => e = .returned (.bool (inB n lo hi)) ∧ w = w' := by
  by_cases h1 : lo ≤ n
  · by_cases h2 : n ≤ hi
    · go_enter Try.func28, Try.ntmps28
      go_wp2
      go_ret
      exact ⟨by rw [inB_yes h1 h2]; rfl, rfl⟩
    · go_enter Try.func28, Try.ntmps28
      go_wp2
      go_ret
      exact ⟨by rw [inB_no (by omega)]; rfl, rfl⟩
  · go_enter Try.func28, Try.ntmps28
    go_wp2
    go_ret
    exact ⟨by rw [inB_no (by omega)]; rfl, rfl⟩


end Go.Proofs.Ytbffkidkfannhaa

namespace Go.Proofs.Ytbffkidkfannhaa
open Go.RowKit

def acctB (n : Int) : Bool := inB n 0 3
theorem acctB_yes {n : Int} (h : acctB n = true) : 0 ≤ n ∧ n ≤ 3 := by unfold acctB inB at h; simpa using h

theorem l2Account_any (n : Int) (w : World) :
    Calls Try.prog 106 #[.int .i64 n] w fun e w' => e = .returned (.bool (acctB n)) ∧ w = w' := by
  go_enter Try.func106, Try.ntmps106
  go_wp2_with (go_at_call 28; refine (l1In_any _ _ _ _).mono ?_; rintro e w' ⟨rfl, rfl⟩)
  go_ret
  exact ⟨rfl, rfl⟩

theorem isAccount_any (n : Int) (w : World) :
    Calls Try.prog 109 #[.int .i64 n] w fun e w' => e = .returned (.bool (acctB n)) ∧ w = w' := by
  unfold acctB
  by_cases h1 : 0 ≤ n
  · by_cases h2 : n < 4
    · go_enter Try.func109, Try.ntmps109
      go_wp2
      go_ret
      exact ⟨by rw [inB_yes h1 (by omega)]; rfl, rfl⟩
    · go_enter Try.func109, Try.ntmps109
      go_wp2
      go_ret
      exact ⟨by rw [inB_no (by omega)]; rfl, rfl⟩
  · go_enter Try.func109, Try.ntmps109
    go_wp2
    go_ret
    exact ⟨by rw [inB_no (by omega)]; rfl, rfl⟩

theorem isCmdId_any (n : Int) (w : World) :
    Calls Try.prog 110 #[.int .i64 n] w fun e w' => e = .returned (.bool (inB n 1 999)) ∧ w = w' := by
  by_cases h1 : 1 ≤ n
  · by_cases h2 : n ≤ 999
    · go_enter Try.func110, Try.ntmps110
      go_wp2
      go_ret
      exact ⟨by rw [inB_yes h1 (by omega)]; rfl, rfl⟩
    · go_enter Try.func110, Try.ntmps110
      go_wp2
      go_ret
      exact ⟨by rw [inB_no (by omega)]; rfl, rfl⟩
  · go_enter Try.func110, Try.ntmps110
    go_wp2
    go_ret
    exact ⟨by rw [inB_no (by omega)]; rfl, rfl⟩

theorem isAmount_any (n : Int) (w : World) :
    Calls Try.prog 111 #[.int .i64 n] w fun e w' => e = .returned (.bool (inB n 1 1000)) ∧ w = w' := by
  by_cases h1 : 1 ≤ n
  · by_cases h2 : n ≤ 1000
    · go_enter Try.func111, Try.ntmps111
      go_wp2
      go_ret
      exact ⟨by rw [inB_yes h1 (by omega)]; rfl, rfl⟩
    · go_enter Try.func111, Try.ntmps111
      go_wp2
      go_ret
      exact ⟨by rw [inB_no (by omega)]; rfl, rfl⟩
  · go_enter Try.func111, Try.ntmps111
    go_wp2
    go_ret
    exact ⟨by rw [inB_no (by omega)]; rfl, rfl⟩

/-- What is wrong with a command that moves. -/
def codeM (i f t a : Int) : Int := if acctB f then (if acctB t then (if f == t then 5 else if inB i 1 999 then (if inB a 1 1000 then 0 else 6) else 6) else 4) else 4
/-- What is wrong with another one. -/
def codeR (i f : Int) : Int := if acctB f then (if inB i 1 999 then 0 else 6) else 4

set_option maxHeartbeats 1000000 in
theorem l2Code_move (i f t a : Int) (w : World) :
    Calls Try.prog 95 #[.agg #[.int .i64 1, .int .i64 i, .int .i64 f, .int .i64 t, .int .i64 a]] w (IntExt (codeM i f t a) w) := by
  unfold codeM
  cases h0 : acctB f with
  | false =>
    go_enter Try.func95, Try.ntmps95
    go_wp2_with (first | (go_at_call 106; refine (l2Account_any _ _).mono ?_; rintro e w' ⟨rfl, rfl⟩) | (go_at_call 28; refine (l1In_any _ _ _ _).mono ?_; rintro e w' ⟨rfl, rfl⟩))
    go_ret
    exact ⟨rfl, by repeat (first | exact Ext.refl _ | apply Ext.drew | apply Ext.alloc)⟩
  | true =>
    cases h1 : acctB t with
    | false =>
      go_enter Try.func95, Try.ntmps95
      go_wp2_with (first | (go_at_call 106; refine (l2Account_any _ _).mono ?_; rintro e w' ⟨rfl, rfl⟩) | (go_at_call 28; refine (l1In_any _ _ _ _).mono ?_; rintro e w' ⟨rfl, rfl⟩))
      go_ret
      exact ⟨rfl, by repeat (first | exact Ext.refl _ | apply Ext.drew | apply Ext.alloc)⟩
    | true =>
      cases h2 : (f == t) with
      | true =>
        go_enter Try.func95, Try.ntmps95
        go_wp2_with (first | (go_at_call 106; refine (l2Account_any _ _).mono ?_; rintro e w' ⟨rfl, rfl⟩) | (go_at_call 28; refine (l1In_any _ _ _ _).mono ?_; rintro e w' ⟨rfl, rfl⟩))
        go_ret
        exact ⟨rfl, by repeat (first | exact Ext.refl _ | apply Ext.drew | apply Ext.alloc)⟩
      | false =>
        cases h3 : inB i 1 999 with
        | false =>
          go_enter Try.func95, Try.ntmps95
          go_wp2_with (first | (go_at_call 106; refine (l2Account_any _ _).mono ?_; rintro e w' ⟨rfl, rfl⟩) | (go_at_call 28; refine (l1In_any _ _ _ _).mono ?_; rintro e w' ⟨rfl, rfl⟩))
          go_ret
          exact ⟨rfl, by repeat (first | exact Ext.refl _ | apply Ext.drew | apply Ext.alloc)⟩
        | true =>
          cases h4 : inB a 1 1000 with
          | false =>
            go_enter Try.func95, Try.ntmps95
            go_wp2_with (first | (go_at_call 106; refine (l2Account_any _ _).mono ?_; rintro e w' ⟨rfl, rfl⟩) | (go_at_call 28; refine (l1In_any _ _ _ _).mono ?_; rintro e w' ⟨rfl, rfl⟩))
            go_ret
            exact ⟨rfl, by repeat (first | exact Ext.refl _ | apply Ext.drew | apply Ext.alloc)⟩
          | true =>
            go_enter Try.func95, Try.ntmps95
            go_wp2_with (first | (go_at_call 106; refine (l2Account_any _ _).mono ?_; rintro e w' ⟨rfl, rfl⟩) | (go_at_call 28; refine (l1In_any _ _ _ _).mono ?_; rintro e w' ⟨rfl, rfl⟩))
            go_ret
            exact ⟨rfl, by repeat (first | exact Ext.refl _ | apply Ext.drew | apply Ext.alloc)⟩

set_option maxHeartbeats 1000000 in
theorem l2Code_read (k i f t a : Int) (w : World) (hk : (k == 1) = false) (_hk0 : (k == 0) = false) :
    Calls Try.prog 95 #[.agg #[.int .i64 k, .int .i64 i, .int .i64 f, .int .i64 t, .int .i64 a]] w (IntExt (codeR i f) w) := by
  unfold codeR
  cases h0 : acctB f with
  | false =>
    go_enter Try.func95, Try.ntmps95
    go_wp2_with (first | (go_at_call 106; refine (l2Account_any _ _).mono ?_; rintro e w' ⟨rfl, rfl⟩) | (go_at_call 28; refine (l1In_any _ _ _ _).mono ?_; rintro e w' ⟨rfl, rfl⟩))
    go_ret
    exact ⟨rfl, by repeat (first | exact Ext.refl _ | apply Ext.drew | apply Ext.alloc)⟩
  | true =>
    cases h1 : inB i 1 999 with
    | false =>
      go_enter Try.func95, Try.ntmps95
      go_wp2_with (first | (go_at_call 106; refine (l2Account_any _ _).mono ?_; rintro e w' ⟨rfl, rfl⟩) | (go_at_call 28; refine (l1In_any _ _ _ _).mono ?_; rintro e w' ⟨rfl, rfl⟩))
      go_ret
      exact ⟨rfl, by repeat (first | exact Ext.refl _ | apply Ext.drew | apply Ext.alloc)⟩
    | true =>
      go_enter Try.func95, Try.ntmps95
      go_wp2_with (first | (go_at_call 106; refine (l2Account_any _ _).mono ?_; rintro e w' ⟨rfl, rfl⟩) | (go_at_call 28; refine (l1In_any _ _ _ _).mono ?_; rintro e w' ⟨rfl, rfl⟩))
      go_ret
      exact ⟨rfl, by repeat (first | exact Ext.refl _ | apply Ext.drew | apply Ext.alloc)⟩

set_option maxHeartbeats 1000000 in
theorem faultOfCmd_move (i f t a : Int) (w : World) :
    Calls Try.prog 105 #[.agg #[.int .i64 1, .int .i64 i, .int .i64 f, .int .i64 t, .int .i64 a]] w (IntExt (codeM i f t a) w) := by
  unfold codeM
  cases h0 : acctB f with
  | false =>
    go_enter Try.func105, Try.ntmps105
    go_wp2_with (first | (go_at_call 109; refine (isAccount_any _ _).mono ?_; rintro e w' ⟨rfl, rfl⟩) | (go_at_call 110; refine (isCmdId_any _ _).mono ?_; rintro e w' ⟨rfl, rfl⟩) | (go_at_call 111; refine (isAmount_any _ _).mono ?_; rintro e w' ⟨rfl, rfl⟩))
    go_ret
    exact ⟨rfl, by repeat (first | exact Ext.refl _ | apply Ext.drew | apply Ext.alloc)⟩
  | true =>
    cases h1 : acctB t with
    | false =>
      go_enter Try.func105, Try.ntmps105
      go_wp2_with (first | (go_at_call 109; refine (isAccount_any _ _).mono ?_; rintro e w' ⟨rfl, rfl⟩) | (go_at_call 110; refine (isCmdId_any _ _).mono ?_; rintro e w' ⟨rfl, rfl⟩) | (go_at_call 111; refine (isAmount_any _ _).mono ?_; rintro e w' ⟨rfl, rfl⟩))
      go_ret
      exact ⟨rfl, by repeat (first | exact Ext.refl _ | apply Ext.drew | apply Ext.alloc)⟩
    | true =>
      cases h2 : (f == t) with
      | true =>
        go_enter Try.func105, Try.ntmps105
        go_wp2_with (first | (go_at_call 109; refine (isAccount_any _ _).mono ?_; rintro e w' ⟨rfl, rfl⟩) | (go_at_call 110; refine (isCmdId_any _ _).mono ?_; rintro e w' ⟨rfl, rfl⟩) | (go_at_call 111; refine (isAmount_any _ _).mono ?_; rintro e w' ⟨rfl, rfl⟩))
        go_ret
        exact ⟨rfl, by repeat (first | exact Ext.refl _ | apply Ext.drew | apply Ext.alloc)⟩
      | false =>
        cases h3 : inB i 1 999 with
        | false =>
          go_enter Try.func105, Try.ntmps105
          go_wp2_with (first | (go_at_call 109; refine (isAccount_any _ _).mono ?_; rintro e w' ⟨rfl, rfl⟩) | (go_at_call 110; refine (isCmdId_any _ _).mono ?_; rintro e w' ⟨rfl, rfl⟩) | (go_at_call 111; refine (isAmount_any _ _).mono ?_; rintro e w' ⟨rfl, rfl⟩))
          go_ret
          exact ⟨rfl, by repeat (first | exact Ext.refl _ | apply Ext.drew | apply Ext.alloc)⟩
        | true =>
          cases h4 : inB a 1 1000 with
          | false =>
            go_enter Try.func105, Try.ntmps105
            go_wp2_with (first | (go_at_call 109; refine (isAccount_any _ _).mono ?_; rintro e w' ⟨rfl, rfl⟩) | (go_at_call 110; refine (isCmdId_any _ _).mono ?_; rintro e w' ⟨rfl, rfl⟩) | (go_at_call 111; refine (isAmount_any _ _).mono ?_; rintro e w' ⟨rfl, rfl⟩))
            go_ret
            exact ⟨rfl, by repeat (first | exact Ext.refl _ | apply Ext.drew | apply Ext.alloc)⟩
          | true =>
            go_enter Try.func105, Try.ntmps105
            go_wp2_with (first | (go_at_call 109; refine (isAccount_any _ _).mono ?_; rintro e w' ⟨rfl, rfl⟩) | (go_at_call 110; refine (isCmdId_any _ _).mono ?_; rintro e w' ⟨rfl, rfl⟩) | (go_at_call 111; refine (isAmount_any _ _).mono ?_; rintro e w' ⟨rfl, rfl⟩))
            go_ret
            exact ⟨rfl, by repeat (first | exact Ext.refl _ | apply Ext.drew | apply Ext.alloc)⟩

set_option maxHeartbeats 1000000 in
theorem faultOfCmd_read (k i f t a : Int) (w : World) (hk : (k == 1) = false) (_hk0 : (k == 0) = false) :
    Calls Try.prog 105 #[.agg #[.int .i64 k, .int .i64 i, .int .i64 f, .int .i64 t, .int .i64 a]] w (IntExt (codeR i f) w) := by
  unfold codeR
  cases h0 : acctB f with
  | false =>
    go_enter Try.func105, Try.ntmps105
    go_wp2_with (first | (go_at_call 109; refine (isAccount_any _ _).mono ?_; rintro e w' ⟨rfl, rfl⟩) | (go_at_call 110; refine (isCmdId_any _ _).mono ?_; rintro e w' ⟨rfl, rfl⟩) | (go_at_call 111; refine (isAmount_any _ _).mono ?_; rintro e w' ⟨rfl, rfl⟩))
    go_ret
    exact ⟨rfl, by repeat (first | exact Ext.refl _ | apply Ext.drew | apply Ext.alloc)⟩
  | true =>
    cases h1 : inB i 1 999 with
    | false =>
      go_enter Try.func105, Try.ntmps105
      go_wp2_with (first | (go_at_call 109; refine (isAccount_any _ _).mono ?_; rintro e w' ⟨rfl, rfl⟩) | (go_at_call 110; refine (isCmdId_any _ _).mono ?_; rintro e w' ⟨rfl, rfl⟩) | (go_at_call 111; refine (isAmount_any _ _).mono ?_; rintro e w' ⟨rfl, rfl⟩))
      go_ret
      exact ⟨rfl, by repeat (first | exact Ext.refl _ | apply Ext.drew | apply Ext.alloc)⟩
    | true =>
      go_enter Try.func105, Try.ntmps105
      go_wp2_with (first | (go_at_call 109; refine (isAccount_any _ _).mono ?_; rintro e w' ⟨rfl, rfl⟩) | (go_at_call 110; refine (isCmdId_any _ _).mono ?_; rintro e w' ⟨rfl, rfl⟩) | (go_at_call 111; refine (isAmount_any _ _).mono ?_; rintro e w' ⟨rfl, rfl⟩))
      go_ret
      exact ⟨rfl, by repeat (first | exact Ext.refl _ | apply Ext.drew | apply Ext.alloc)⟩

end Go.Proofs.Ytbffkidkfannhaa

namespace Go.Proofs.Ytbffkidkfannhaa
open Go.RowKit
set_option linter.unusedVariables false

def zeroB (i f t a : Int) : Bool := i == 0 && (f == 0 && (t == 0 && a == 0))
/-- Whether a command is good. -/
def goodB (k i f t a : Int) : Bool := if k == 0 then zeroB i f t a else if k == 1 then codeM i f t a == 0 else if k == 2 then (codeR i f == 0 && t == 0) && a == 0 else false
theorem goodB_0 (i f t a : Int) : goodB 0 i f t a = zeroB i f t a := rfl
theorem goodB_1 (i f t a : Int) : goodB 1 i f t a = (codeM i f t a == 0) := rfl
theorem goodB_2 (i f t a : Int) : goodB 2 i f t a = ((codeR i f == 0 && t == 0) && a == 0) := rfl
theorem goodB_else {k : Int} (i f t a : Int) (h0 : (k == 0) = false) (h1 : (k == 1) = false) (h2 : (k == 2) = false) : goodB k i f t a = false := by
  unfold goodB; simp [h0, h1, h2]

set_option maxHeartbeats 1000000 in
theorem specGood_0 (i f t a : Int) (w : World) :
    Calls Try.prog 63 #[.agg #[.int .i64 0, .int .i64 i, .int .i64 f, .int .i64 t, .int .i64 a]] w (BoolExt (zeroB i f t a) w) := by
  unfold zeroB
  go_enter Try.func63, Try.ntmps63
  go_wp2
  all_goals go_ret
  all_goals refine ⟨?_, by repeat (first | assumption | exact Ext.refl _ | apply Ext.drew | apply Ext.alloc)⟩
  all_goals first | rfl | simp [*]

set_option maxHeartbeats 1000000 in
theorem specGood_1 (i f t a : Int) (w : World) :
    Calls Try.prog 63 #[.agg #[.int .i64 1, .int .i64 i, .int .i64 f, .int .i64 t, .int .i64 a]] w (BoolExt (codeM i f t a == 0) w) := by
  go_enter Try.func63, Try.ntmps63
  go_wp2_with fail
  refine (l2Code_move _ _ _ _ _).mono ?_
  rintro e w' ⟨rfl, hx⟩
  go_wp2
  go_ret
  exact ⟨rfl, Ext.trans (Ext.alloc (Ext.refl _) _) hx⟩

set_option maxHeartbeats 1000000 in
theorem specGood_2 (i f t a : Int) (w : World) :
    Calls Try.prog 63 #[.agg #[.int .i64 2, .int .i64 i, .int .i64 f, .int .i64 t, .int .i64 a]] w (BoolExt ((codeR i f == 0 && t == 0) && a == 0) w) := by
  by_cases ht : t = 0
  · by_cases ha : a = 0
    · subst ht; subst ha
      cases hc : (codeR i f == 0) with
      | false =>
        go_enter Try.func63, Try.ntmps63
        go_wp2_with fail
        refine (l2Code_read 2 _ _ _ _ _ rfl rfl).mono ?_
        rintro e w' ⟨rfl, hx⟩
        go_wp2
        go_ret
        exact ⟨rfl, Ext.trans (Ext.alloc (Ext.refl _) _) hx⟩
      | true =>
        go_enter Try.func63, Try.ntmps63
        go_wp2_with fail
        refine (l2Code_read 2 _ _ _ _ _ rfl rfl).mono ?_
        rintro e w' ⟨rfl, hx⟩
        have c1 := hx.cell (a := ⟨w.heap.size, 3, none⟩) (v := .int .i64 0) (by go_simp)
        have c2 := hx.cell (a := ⟨w.heap.size, 4, none⟩) (v := .int .i64 0) (by go_simp)
        go_wp2
        go_ret
        exact ⟨rfl, Ext.trans (Ext.alloc (Ext.refl _) _) hx⟩
    · have e2 : (a == 0) = false := by simp [ha]
      subst ht
      cases hc : (codeR i f == 0) with
      | false =>
        go_enter Try.func63, Try.ntmps63
        go_wp2_with fail
        refine (l2Code_read 2 _ _ _ _ _ rfl rfl).mono ?_
        rintro e w' ⟨rfl, hx⟩
        go_wp2
        go_ret
        exact ⟨rfl, Ext.trans (Ext.alloc (Ext.refl _) _) hx⟩
      | true =>
        go_enter Try.func63, Try.ntmps63
        go_wp2_with fail
        refine (l2Code_read 2 _ _ _ _ _ rfl rfl).mono ?_
        rintro e w' ⟨rfl, hx⟩
        have c1 := hx.cell (a := ⟨w.heap.size, 3, none⟩) (v := .int .i64 0) (by go_simp)
        have c2 := hx.cell (a := ⟨w.heap.size, 4, none⟩) (v := .int .i64 a) (by go_simp)
        go_wp2
        go_ret
        exact ⟨by rw [e2]; rfl, Ext.trans (Ext.alloc (Ext.refl _) _) hx⟩
  · have e1 : (t == 0) = false := by simp [ht]
    cases hc : (codeR i f == 0) with
    | false =>
      go_enter Try.func63, Try.ntmps63
      go_wp2_with fail
      refine (l2Code_read 2 _ _ _ _ _ rfl rfl).mono ?_
      rintro e w' ⟨rfl, hx⟩
      go_wp2
      go_ret
      exact ⟨rfl, Ext.trans (Ext.alloc (Ext.refl _) _) hx⟩
    | true =>
      go_enter Try.func63, Try.ntmps63
      go_wp2_with fail
      refine (l2Code_read 2 _ _ _ _ _ rfl rfl).mono ?_
      rintro e w' ⟨rfl, hx⟩
      have c1 := hx.cell (a := ⟨w.heap.size, 3, none⟩) (v := .int .i64 t) (by go_simp)
      go_wp2
      go_ret
      exact ⟨by rw [e1]; rfl, Ext.trans (Ext.alloc (Ext.refl _) _) hx⟩

set_option maxHeartbeats 1000000 in
theorem specGood_else (k i f t a : Int) (w : World) (h0 : (k == 0) = false) (h1 : (k == 1) = false) (h2 : (k == 2) = false) :
    Calls Try.prog 63 #[.agg #[.int .i64 k, .int .i64 i, .int .i64 f, .int .i64 t, .int .i64 a]] w (BoolExt false w) := by
  go_enter Try.func63, Try.ntmps63
  go_wp2
  go_ret
  exact ⟨rfl, by repeat (first | assumption | exact Ext.refl _ | apply Ext.drew | apply Ext.alloc)⟩

theorem specGood_any (k i f t a : Int) (w : World) :
    Calls Try.prog 63 #[.agg #[.int .i64 k, .int .i64 i, .int .i64 f, .int .i64 t, .int .i64 a]] w (BoolExt (goodB k i f t a) w) := by
  by_cases h0 : k = 0
  · subst h0; exact specGood_0 i f t a w
  · by_cases h1 : k = 1
    · subst h1; exact specGood_1 i f t a w
    · by_cases h2 : k = 2
      · subst h2; exact specGood_2 i f t a w
      · have g0 : (k == 0) = false := by simp [h0]
        have g1 : (k == 1) = false := by simp [h1]
        have g2 : (k == 2) = false := by simp [h2]
        rw [goodB_else i f t a g0 g1 g2]
        exact specGood_else k i f t a w g0 g1 g2

set_option maxHeartbeats 1000000 in
theorem implGood_0 (i f t a : Int) (w : World) :
    Calls Try.prog 89 #[.agg #[.int .i64 0, .int .i64 i, .int .i64 f, .int .i64 t, .int .i64 a]] w (BoolExt (zeroB i f t a) w) := by
  unfold zeroB
  go_enter Try.func89, Try.ntmps89
  go_wp2
  all_goals go_ret
  all_goals refine ⟨?_, by repeat (first | assumption | exact Ext.refl _ | apply Ext.drew | apply Ext.alloc)⟩
  all_goals first | rfl | simp [*]

set_option maxHeartbeats 1000000 in
theorem implGood_1 (i f t a : Int) (w : World) :
    Calls Try.prog 89 #[.agg #[.int .i64 1, .int .i64 i, .int .i64 f, .int .i64 t, .int .i64 a]] w (BoolExt (codeM i f t a == 0) w) := by
  go_enter Try.func89, Try.ntmps89
  go_wp2_with fail
  refine (faultOfCmd_move _ _ _ _ _).mono ?_
  rintro e w' ⟨rfl, hx⟩
  go_wp2
  go_ret
  exact ⟨rfl, Ext.trans (Ext.alloc (Ext.refl _) _) hx⟩

set_option maxHeartbeats 1000000 in
theorem implGood_2 (i f t a : Int) (w : World) :
    Calls Try.prog 89 #[.agg #[.int .i64 2, .int .i64 i, .int .i64 f, .int .i64 t, .int .i64 a]] w (BoolExt ((codeR i f == 0 && t == 0) && a == 0) w) := by
  by_cases ht : t = 0
  · by_cases ha : a = 0
    · subst ht; subst ha
      go_enter Try.func89, Try.ntmps89
      go_wp2_with fail
      refine (faultOfCmd_read 2 _ _ _ _ _ rfl rfl).mono ?_
      rintro e w' ⟨rfl, hx⟩
      go_wp2
      go_ret
      exact ⟨by simp, Ext.trans (Ext.alloc (Ext.refl _) _) hx⟩
    · have e2 : (a != 0) = true := by simp [ha]
      have e3 : (a == 0) = false := by simp [ha]
      subst ht
      go_enter Try.func89, Try.ntmps89
      go_wp2
      go_ret
      exact ⟨by simp [ha], by repeat (first | assumption | exact Ext.refl _ | apply Ext.drew | apply Ext.alloc)⟩
  · have e1 : (t != 0) = true := by simp [ht]
    go_enter Try.func89, Try.ntmps89
    go_wp2
    go_ret
    exact ⟨by simp [ht], by repeat (first | assumption | exact Ext.refl _ | apply Ext.drew | apply Ext.alloc)⟩

set_option maxHeartbeats 1000000 in
theorem implGood_else (k i f t a : Int) (w : World) (h0 : (k == 0) = false) (h1 : (k == 1) = false) (h2 : (k == 2) = false) :
    Calls Try.prog 89 #[.agg #[.int .i64 k, .int .i64 i, .int .i64 f, .int .i64 t, .int .i64 a]] w (BoolExt false w) := by
  go_enter Try.func89, Try.ntmps89
  go_wp2
  go_ret
  exact ⟨rfl, by repeat (first | assumption | exact Ext.refl _ | apply Ext.drew | apply Ext.alloc)⟩

theorem implGood_any (k i f t a : Int) (w : World) :
    Calls Try.prog 89 #[.agg #[.int .i64 k, .int .i64 i, .int .i64 f, .int .i64 t, .int .i64 a]] w (BoolExt (goodB k i f t a) w) := by
  by_cases h0 : k = 0
  · subst h0; exact implGood_0 i f t a w
  · by_cases h1 : k = 1
    · subst h1; exact implGood_1 i f t a w
    · by_cases h2 : k = 2
      · subst h2; exact implGood_2 i f t a w
      · have g0 : (k == 0) = false := by simp [h0]
        have g1 : (k == 1) = false := by simp [h1]
        have g2 : (k == 2) = false := by simp [h2]
        rw [goodB_else i f t a g0 g1 g2]
        exact implGood_else k i f t a w g0 g1 g2

end Go.Proofs.Ytbffkidkfannhaa

namespace Go.Proofs.Ytbffkidkfannhaa
open Go.RowKit

def isGrp (n : Int) : Bool := n == 3 || n == 5
theorem isGrp_of {n : Int} (h : isGrp n = true) : n = 3 ∨ n = 5 := by simpa [isGrp] using h
theorem isGrp_no {n : Int} (h : isGrp n = false) : (n == 3) = false ∧ (n == 5) = false := by simpa [isGrp] using h

theorem specIsGroup_any (n : Int) (w : World) : Calls Try.prog 58 #[.int .i64 n] w (fun e w' => e = .returned (.bool (isGrp n)) ∧ w = w') := by
  cases h : isGrp n with
  | true =>
    rcases isGrp_of h with rfl | rfl
    all_goals
      clear h
      go_enter Try.func58, Try.ntmps58
      go_wp2
      go_ret
      exact ⟨rfl, rfl⟩
  | false =>
    obtain ⟨h3, h5⟩ := isGrp_no h
    clear h
    go_enter Try.func58, Try.ntmps58
    go_wp2
    go_ret
    exact ⟨rfl, rfl⟩
theorem implIsGroup_any (n : Int) (w : World) : Calls Try.prog 67 #[.int .i64 n] w (fun e w' => e = .returned (.bool (isGrp n)) ∧ w = w') := by
  cases h : isGrp n with
  | true =>
    rcases isGrp_of h with rfl | rfl
    all_goals
      clear h
      go_enter Try.func67, Try.ntmps67
      go_wp2
      go_ret
      exact ⟨rfl, rfl⟩
  | false =>
    obtain ⟨h3, h5⟩ := isGrp_no h
    clear h
    go_enter Try.func67, Try.ntmps67
    go_wp2
    go_ret
    exact ⟨rfl, rfl⟩

end Go.Proofs.Ytbffkidkfannhaa

namespace Go.Proofs.Ytbffkidkfannhaa
open Go.RowKit

set_option maxHeartbeats 400000 in
theorem l1All_any (v : Value) (l : List Int) (lo hi : Int) (w : World) (hv : Ints w v l) :
    Calls Try.prog 94 #[v, .int .i64 lo, .int .i64 hi] w (BoolExt (allIn l lo hi) w) := by
  obtain ⟨av, cv, rfl, hlv, _, hcv⟩ := hv
  unfold maxLen at hlv
  go_enter Try.func94, Try.ntmps94
  go_wp2
  go_loopw [8, 11] (fun _ i wr => ∃ k : Nat, k ≤ l.length ∧ i = .int .i64 k ∧ (l.take k).all (fun x => inB x lo hi) = true ∧ Ext w wr) (fun _ i _ => l.length - (intOf i).toNat)
  case atStart => exact ⟨0, Nat.zero_le _, rfl, by simp, Ext.refl _⟩
  case round =>
    obtain ⟨k, hk, rfl, ht, hx⟩ := hrel
    have HT := Lib.hid ht
    clear ht
    by_cases hlt : k < l.length
    · obtain ⟨bv, ov, rfl, dv⟩ := hcv (by omega)
      have gv := hx.cell (dv k hlt)
      clear hcv dv
      cases hp : inB l[k] lo hi with
      | true =>
        go_wp2_with (go_at_call 28; refine (l1In_any _ _ _ _).mono ?_; rintro e w' ⟨rfl, rfl⟩)
        go_roundw
        case rel => exact ⟨k + 1, by omega, by go_num, all_take_succ hlt _ HT.out (by simpa [hlt] using hp), hx⟩
        case measure => simp [intOf]; omega
      | false =>
        go_wp2_with (go_at_call 28; refine (l1In_any _ _ _ _).mono ?_; rintro e w' ⟨rfl, rfl⟩)
        go_ret
        refine ⟨?_, hx⟩
        have hf : allIn l lo hi = false := all_false_at hlt _ (by simpa [hlt] using hp)
        rw [hf]; rfl
    · obtain rfl : k = l.length := by omega
      go_wp2
      go_ret
      refine ⟨?_, hx⟩
      have hf : allIn l lo hi = true := by have h := HT.out; rwa [List.take_length] at h
      rw [hf]; rfl


end Go.Proofs.Ytbffkidkfannhaa
