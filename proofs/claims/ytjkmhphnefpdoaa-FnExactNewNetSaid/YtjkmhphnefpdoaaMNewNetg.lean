/- Texts of this proof, part g: words, plain facts, contracts. -/
import Derived.Test.YtjkmhphnefpdoaaMNewNetf
import Derived.Test.YtjkmhphnefpdoaaMNewNeta
import Derived.Test.YtjkmhphnefpdoaaMNewNetc

namespace Go.Proofs.Ytjkmhphnefpdoaa
open Go.Joins Go.ChangeShapes Go.WideShapes Go.RowKit Go.Deep
set_option linter.unusedVariables false

theorem keep8 {wb W W' : World} {a b c d a' b' c' d' : Addr} {u v r s u' v' r' s' : Value} (x : Ext W W') (h : Ext wb W ∧ W.cell? a = some u ∧ W.cell? b = some v ∧ W.cell? c = some r ∧ W.cell? d = some s ∧ W.cell? a' = some u' ∧ W.cell? b' = some v' ∧ W.cell? c' = some r' ∧ W.cell? d' = some s') : Ext wb W' ∧ W'.cell? a = some u ∧ W'.cell? b = some v ∧ W'.cell? c = some r ∧ W'.cell? d = some s ∧ W'.cell? a' = some u' ∧ W'.cell? b' = some v' ∧ W'.cell? c' = some r' ∧ W'.cell? d' = some s' :=
  ⟨h.1.trans x, x.cell h.2.1, x.cell h.2.2.1, x.cell h.2.2.2.1, x.cell h.2.2.2.2.1, x.cell h.2.2.2.2.2.1, x.cell h.2.2.2.2.2.2.1, x.cell h.2.2.2.2.2.2.2.1, x.cell h.2.2.2.2.2.2.2.2⟩

section
variable {H : Type} {enc : TypeId × Value → H} {w : World} {base : Nat} {held : Bool}

theorem cell_bool {fuel : Nat} {c : Value} {y : DataW H × List MemPlace} (h : DataW.trod enc Try.prog w base (fun _ => true) held fuel 4 [c] = some y) : ∃ b : Bool, c = .bool b := by
  obtain ⟨b0, e0, _⟩ := DataW.trod_bool Try.underlying4 h
  simp only [List.cons.injEq, and_true] at e0
  exact ⟨b0, e0⟩
set_option maxRecDepth 100000 in
theorem cells_cmd {fuel : Nat} {cs : List Value} {y : DataW H × List MemPlace} (h : DataW.trod enc Try.prog w base (fun _ => true) held fuel 43 cs = some y) (hl : cs.length = 5) :
    ∃ k i f t a : Int, cs = [.int .i64 k, .int .i64 i, .int .i64 f, .int .i64 t, .int .i64 a] := by
  obtain ⟨zs, n', _, _, _, hzl, hz⟩ := DataW.trod_struct Try.underlying43 h
  have q : Try.prog.cellsOf 3 = 1 := by kernel_rfl
  match cs, hl with
  | [c0, c1, c2, c3, c4], _ =>
    match zs, hzl with
    | [z0, z1, z2, z3, z4], _ =>
      obtain ⟨m0, rfl, _⟩ := cell_int (by simpa [q] using hz 0 _ rfl)
      obtain ⟨m1, rfl, _⟩ := cell_int (by simpa [q] using hz 1 _ rfl)
      obtain ⟨m2, rfl, _⟩ := cell_int (by simpa [q] using hz 2 _ rfl)
      obtain ⟨m3, rfl, _⟩ := cell_int (by simpa [q] using hz 3 _ rfl)
      obtain ⟨m4, rfl, _⟩ := cell_int (by simpa [q] using hz 4 _ rfl)
      exact ⟨m0, m1, m2, m3, m4, rfl⟩
set_option maxRecDepth 100000 in
theorem cells_attr {fuel : Nat} {cs : List Value} {y : DataW H × List MemPlace} (h : DataW.trod enc Try.prog w base (fun _ => true) held fuel 46 cs = some y) (hl : cs.length = 2) :
    ∃ (s : Int) (u : Value) (l : List Int), cs = [.int .i64 s, u] ∧ Ints w u l := by
  obtain ⟨zs, n', _, _, _, hzl, hz⟩ := DataW.trod_struct Try.underlying46 h
  have q : Try.prog.cellsOf 3 = 1 := by kernel_rfl
  have q2 : Try.prog.cellsOf 44 = 1 := by kernel_rfl
  match cs, hl with
  | [c0, c1], _ =>
    match zs, hzl with
    | [z0, z1], _ =>
      obtain ⟨m0, rfl, _⟩ := cell_int (by simpa [q] using hz 0 _ rfl)
      obtain ⟨l, hl⟩ := cell_ints (by simpa [q2] using hz 1 _ rfl)
      exact ⟨m0, c1, l, rfl, hl⟩

set_option maxRecDepth 100000 in
set_option maxHeartbeats 2000000 in
theorem cells_lead {fuel : Nat} {cs : List Value} {y : DataW H × List MemPlace} (h : DataW.trod enc Try.prog w base (fun _ => true) held fuel 114 cs = some y) :
    ∃ (d : LeadD) (u1 u2 u3 u4 : Value), cs = leadVs d u1 u2 u3 u4 ∧ LeadL w d u1 u2 u3 u4 := by
  obtain ⟨xs, n, _, hx, hlen, hxl, hg⟩ := DataW.trod_struct Try.underlying114 h
  have q : Try.prog.cellsOf 3 = 1 := by kernel_rfl
  have q1 : Try.prog.cellsOf 4 = 1 := by kernel_rfl
  have q2 : Try.prog.cellsOf 44 = 1 := by kernel_rfl
  have q3 : Try.prog.cellsOf 112 = 1 := by kernel_rfl
  have q5 : Try.prog.cellsOf 43 = 5 := by kernel_rfl
  have q6 : Try.prog.cellsOf 46 = 2 := by kernel_rfl
  match cs, hlen.trans (show Try.prog.cellsOf 114 = 16 by kernel_rfl) with
  | [c0, c1, c2, c3, c4, c5, c6, c7, c8, c9, c10, c11, c12, c13, c14, c15], _ =>
    match xs, hxl with
    | [y0, y1, y2, y3, y4, y5, y6, y7, y8, y9], _ =>
      obtain ⟨n0, rfl, _⟩ := cell_int (by simpa [q] using hg 0 _ rfl)
      obtain ⟨n1, rfl, _⟩ := cell_int (by simpa [q] using hg 1 _ rfl)
      obtain ⟨n2, rfl, _⟩ := cell_int (by simpa [q] using hg 2 _ rfl)
      obtain ⟨n3, rfl, _⟩ := cell_int (by simpa [q] using hg 3 _ rfl)
      have h4 := hg 4 _ rfl
      have h5 := hg 5 _ rfl
      have h6 := hg 6 _ rfl
      have h7 := hg 7 _ rfl
      have h8 := hg 8 _ rfl
      have h9 := hg 9 _ rfl
      simp [q5] at h4
      simp [q6] at h5
      simp [q6] at h6
      simp [q1] at h7
      simp [q2] at h8
      simp [q3] at h9
      obtain ⟨k, i, f, t, a, e4⟩ := cells_cmd h4 rfl
      obtain ⟨s1, u1, l1, e5, i1⟩ := cells_attr h5 rfl
      obtain ⟨s2, u2, l2, e6, i2⟩ := cells_attr h6 rfl
      obtain ⟨b, rfl⟩ := cell_bool h7
      obtain ⟨l3, i3⟩ := cell_ints h8
      obtain ⟨R, i4⟩ := cells_rows h9
      simp only [List.cons.injEq, and_true] at e4 e5 e6
      obtain ⟨rfl, rfl, rfl, rfl, rfl⟩ := e4
      obtain ⟨rfl, rfl⟩ := e5
      obtain ⟨rfl, rfl⟩ := e6
      exact ⟨⟨n0, n1, n2, n3, k, i, f, t, a, s1, l1, s2, l2, b, l3, R⟩, _, _, _, _, rfl, i1, i2, i3, i4⟩

def zeroLead : LeadD := ⟨0, 0, 0, 0, 0, 0, 0, 0, 0, 0, [], 0, [], false, [], []⟩
set_option maxRecDepth 100000 in
theorem cells_leads {fuel : Nat} {c : Value} {y : DataW H × List MemPlace} (h : DataW.trod enc Try.prog w base (fun _ => true) held fuel 25 [c] = some y) : ∃ L, Leadz w c L := by
  rcases open_slice Try.underlying25 h with ⟨hcs, _⟩ | ⟨a, len, cap', cap, n, D, Pl, hcs, _, hl, hm, hmm, _, hi⟩
  · simp at hcs
    subst hcs
    exact ⟨[], Leadz.nil w⟩
  · simp at hcs hmm
    subst hcs hmm
    have q : Try.prog.cellsOf 114 = 16 := by kernel_rfl
    rw [q] at hi
    have hr : ∀ i, i < cap → ∃ ru : LeadD × Value × Value × Value × Value, (∀ j, j < 16 → w.cell? ((a.add (i * 16)).add j) = (leadVs ru.1 ru.2.1 ru.2.2.1 ru.2.2.2.1 ru.2.2.2.2)[j]?) ∧ LeadL w ru.1 ru.2.1 ru.2.2.1 ru.2.2.2.1 ru.2.2.2.2 := fun i hic => by
      obtain ⟨cs', h1, h2⟩ := hi i hic
      obtain ⟨_, _, hat⟩ := World.cells?_some h1
      obtain ⟨d, u1, u2, u3, u4, rfl, hl⟩ := cells_lead h2
      exact ⟨(d, u1, u2, u3, u4), hat, hl⟩
    have hinh : ∀ i, ∃ ru : LeadD × Value × Value × Value × Value, i < cap → ((∀ j, j < 16 → w.cell? ((a.add (i * 16)).add j) = (leadVs ru.1 ru.2.1 ru.2.2.1 ru.2.2.2.1 ru.2.2.2.2)[j]?) ∧ LeadL w ru.1 ru.2.1 ru.2.2.1 ru.2.2.2.1 ru.2.2.2.2) := fun i => by
      by_cases hic : i < cap
      · obtain ⟨ru, h⟩ := hr i hic
        exact ⟨ru, fun _ => h⟩
      · exact ⟨(zeroLead, .slice none 0 0, .slice none 0 0, .slice none 0 0, .slice none 0 0), fun h => absurd h hic⟩
    have hF := Classical.axiomOfChoice hinh
    obtain ⟨F, hF⟩ := hF
    have hlen : ((List.range len).map fun i => (F i).1).length = len := by simp
    refine ⟨(List.range len).map fun i => (F i).1, some a, cap, by rw [hlen], by omega, ⟨by omega, hm, fun h => by cases h⟩, fun hp => ?_⟩
    rw [hlen] at hp
    have h0 := (hF 0 (by omega)).1 0 (by omega)
    obtain ⟨b, off, rfl⟩ : ∃ b off, a = ⟨b, off, none⟩ := by
      rw [Go.Deep.add_add] at h0
      exact spot_none (v := .int .i64 (F 0).1.rp) h0
    refine ⟨b, off, rfl, fun j hj => ⟨(F j).2.1, (F j).2.2.1, (F j).2.2.2.1, (F j).2.2.2.2, ?_, ?_⟩⟩
    · rw [hlen] at hj
      have e : ((List.range len).map fun i => (F i).1)[j]'(by rw [hlen]; exact hj) = (F j).1 := by simp
      rw [e]
      have hc := (hF j (by omega)).1
      have ha : ∀ t, (((⟨b, off, none⟩ : Addr).add (j * 16)).add t) = ⟨b, off + j * 16 + t, none⟩ := fun t => by
        rw [Go.Deep.add_add, Go.WideShapes.add_plain, Nat.add_assoc]
      simp only [ha] at hc
      intro i v hv
      have hi16 : i < 16 := (List.getElem?_eq_some_iff.1 hv).1
      rw [hc i hi16]
      exact hv
    · rw [hlen] at hj
      have e : ((List.range len).map fun i => (F i).1)[j]'(by rw [hlen]; exact hj) = (F j).1 := by simp
      rw [e]
      exact (hF j (by omega)).2

set_option maxRecDepth 100000 in
theorem cells_rep {fuel : Nat} {cs : List Value} {y : DataW H × List MemPlace} (h : DataW.trod enc Try.prog w base (fun _ => true) held fuel 27 cs = some y) :
    ∃ (me n : Int) (u v : Value) (T : List (List RowD)) (L : List LeadD), cs = [.int .i64 me, .int .i64 n, u, v] ∧ wf64 me ∧ wf64 n ∧ Rowzz w u T ∧ Leadz w v L := by
  obtain ⟨xs, n, _, hx, hlen, hxl, hg⟩ := DataW.trod_struct Try.underlying27 h
  have q : Try.prog.cellsOf 3 = 1 := by kernel_rfl
  have q2 : Try.prog.cellsOf 22 = 1 := by kernel_rfl
  have q3 : Try.prog.cellsOf 25 = 1 := by kernel_rfl
  have q4 : Try.prog.cellsOf 24 = 2 := by kernel_rfl
  match cs, hlen.trans (show Try.prog.cellsOf 27 = 4 by kernel_rfl) with
  | [c0, c1, c2, c3], _ =>
    match xs, hxl with
    | [y0, y1, y2], _ =>
      obtain ⟨n0, rfl, w0⟩ := cell_int (by simpa [q] using hg 0 _ rfl)
      have h1 := hg 1 _ rfl
      have h2 := hg 2 _ rfl
      simp [q4] at h1
      simp [q3] at h2
      obtain ⟨zs, n', _, _, _, hzl, hz⟩ := DataW.trod_struct Try.underlying24 h1
      match zs, hzl with
      | [z0, z1], _ =>
        obtain ⟨n1, rfl, w1⟩ := cell_int (by simpa [q] using hz 0 _ rfl)
        obtain ⟨T, hT⟩ := cells_tab (by simpa [q, q2] using hz 1 _ rfl)
        obtain ⟨L, hL⟩ := cells_leads h2
        exact ⟨n0, n1, c2, c3, T, L, rfl, w0, w1, hT, hL⟩

set_option maxRecDepth 100000 in
theorem open_rep {r : Reach} {b0 : Nat} {v : Value} {d : DataW H} {p : List MemPlace}
    (hv : Value.okWide Try.prog w r b0 27 v) (h : DataW.Trod enc Try.prog w base (fun _ => true) held 27 v d p) :
    ∃ (me n : Int) (u v' : Value) (T : List (List RowD)) (L : List LeadD), v = .agg #[.int .i64 me, .int .i64 n, u, v'] ∧ wf64 me ∧ wf64 n ∧ Rowzz w u T ∧ Leadz w v' L := by
  obtain ⟨cs, rfl, hsz⟩ := okWide_struct Try.underlying27 hv
  obtain ⟨fuel, hf⟩ := h
  obtain ⟨me, n, u, v', T, L, e, h1, h2, h3, h4⟩ := cells_rep hf
  obtain ⟨l⟩ := cs
  have e' : l = [.int .i64 me, .int .i64 n, u, v'] := by simpa [Value.cells] using e
  subst e'
  exact ⟨me, n, u, v', T, L, rfl, h1, h2, h3, h4⟩
end

end Go.Proofs.Ytjkmhphnefpdoaa

namespace Go.Proofs.Ytjkmhphnefpdoaa
open Go.RowKit
set_option linter.unusedVariables false

structure RepD where
  me : Int
  n : Int
  T : List (List RowD)
  L : List LeadD
def repVs (d : RepD) (u1 u2 : Value) : List Value := [.int .i64 d.me, .int .i64 d.n, u1, u2]
theorem repVs_len (d : RepD) (u1 u2 : Value) : (repVs d u1 u2).length = 4 := rfl
structure RepL (w : World) (d : RepD) (u1 u2 : Value) : Prop where
  i1 : Rowzz w u1 d.T
  i2 : Leadz w u2 d.L
theorem RepL.ext {w w' : World} {d : RepD} {u1 u2 : Value} (h : RepL w d u1 u2) (e : Ext w w') : RepL w' d u1 u2 := ⟨h.i1.ext e, h.i2.ext e⟩
def RepIn (w : World) (b o : Nat) (d : RepD) (u1 u2 : Value) : Prop := ∀ j v, (repVs d u1 u2)[j]? = some v → w.cell? ⟨b, o + j, none⟩ = some v
theorem RepIn.ext {w w' : World} {b o : Nat} {d : RepD} {u1 u2 : Value} (h : RepIn w b o d u1 u2) (e : Ext w w') : RepIn w' b o d u1 u2 := fun j v hj => e.cell (h j v hj)
theorem repIn_cells {w : World} {b o : Nat} {d : RepD} {u1 u2 : Value} (h : RepIn w b o d u1 u2) :
    w.cell? ⟨b, o, none⟩ = some (.int .i64 d.me) ∧ w.cell? ⟨b, o + 1, none⟩ = some (.int .i64 d.n) ∧ w.cell? ⟨b, o + 2, none⟩ = some (u1) ∧ w.cell? ⟨b, o + 3, none⟩ = some (u2) :=
  ⟨h 0 _ rfl, h 1 _ rfl, h 2 _ rfl, h 3 _ rfl⟩
theorem rep_cells {w : World} {b : Nat} {d : RepD} {u1 u2 : Value} (h : BoxV w b (repVs d u1 u2)) :
    w.cell? ⟨b, 0, none⟩ = some (.int .i64 d.me) ∧ w.cell? ⟨b, 1, none⟩ = some (.int .i64 d.n) ∧ w.cell? ⟨b, 2, none⟩ = some (u1) ∧ w.cell? ⟨b, 3, none⟩ = some (u2) :=
  ⟨h.cell 0 _ rfl, h.cell 1 _ rfl, h.cell 2 _ rfl, h.cell 3 _ rfl⟩
theorem rep_box (w : World) (T : TypeId) (d : RepD) (u1 u2 : Value) : BoxV (w.alloc (.cells #[.int .i64 d.me, .int .i64 d.n, u1, u2] T)) w.heap.size (repVs d u1 u2) := boxV_new w (repVs d u1 u2) T
/-- v is a slice that reads as L in w. -/
def Repz (w : World) (v : Value) (L : List RepD) : Prop :=
  ∃ ao cap, v = .slice ao L.length cap ∧ L.length ≤ maxLen ∧ (L.length ≤ cap ∧ cap ≤ maxLen ∧ (ao = none → cap = 0)) ∧
    (0 < L.length → ∃ b off, ao = some ⟨b, off, none⟩ ∧ ∀ j (h : j < L.length), ∃ u1 u2, RepIn w b (off + j * 4) L[j] u1 u2 ∧ RepL w L[j] u1 u2)
theorem Repz.ext {w w' : World} {v : Value} {L : List RepD} (h : Repz w v L) (e : Ext w w') : Repz w' v L := by
  obtain ⟨ao, cap, hv, hm, hcap, hc⟩ := h
  refine ⟨ao, cap, hv, hm, hcap, fun hp => ?_⟩
  obtain ⟨b, off, ha, hc⟩ := hc hp
  refine ⟨b, off, ha, fun j hj => ?_⟩
  obtain ⟨u1, u2, hu, hi⟩ := hc j hj
  exact ⟨u1, u2, hu.ext e, hi.ext e⟩
theorem Repz.nil (w : World) : Repz w (.slice none 0 0) [] := ⟨none, 0, rfl, by simp, ⟨by simp, by simp, fun _ => rfl⟩, fun h => by simp at h⟩
def bulk1Rep (d : RepD) : Nat := bulkT d.T + bulkL d.L
def weighRep (L : List RepD) : List Nat := L.map bulk1Rep
theorem weighRep_len (L : List RepD) : (weighRep L).length = L.length := by simp [weighRep]
theorem weighRep_get {L : List RepD} {k : Nat} (h : k < L.length) : (weighRep L)[k]'(by rw [weighRep_len]; exact h) = bulk1Rep L[k] := by simp [weighRep]
def bulkRep (L : List RepD) : Nat := L.length + (weighRep L).sum
theorem bulkRep_at {L : List RepD} {j : Nat} (h : j < L.length) : bulk1Rep L[j] ≤ bulkRep L := by
  unfold bulkRep weighRep
  have := len_le_sum (L.map bulk1Rep) _ (List.mem_map.2 ⟨L[j], List.getElem_mem h, rfl⟩)
  omega
/-- From o on the list xs has the cells of the element. -/
def XRep (xs : List Value) (o : Nat) (d : RepD) (u1 u2 : Value) : Prop := ∀ q v, (repVs d u1 u2)[q]? = some v → xs[o + q]? = some v
theorem rep_lt {d : RepD} {u1 u2 : Value} {v : Value} {q : Nat} (h : (repVs d u1 u2)[q]? = some v) : q < 4 := by
  have := (List.getElem?_eq_some_iff.1 h).1
  rwa [repVs_len] at this
theorem XRep.put_other {xs vs : List Value} {o p : Nat} {d : RepD} {u1 u2 : Value} (h : XRep xs o d u1 u2) (hv : vs.length = 4) (hap : o + 4 ≤ p ∨ p + 4 ≤ o) : XRep (putL xs p vs) o d u1 u2 := by
  intro q v hq
  have := rep_lt hq
  rw [putL_out _ _ _ _ (by omega)]
  exact h q v hq
theorem XRep.put {xs : List Value} {o : Nat} {d : RepD} {u1 u2 : Value} (h : o + 4 ≤ xs.length) : XRep (putL xs o (repVs d u1 u2)) o d u1 u2 := by
  intro q v hq
  have := rep_lt hq
  rw [putL_in _ o xs q (by rw [repVs_len]; exact this) (by rw [repVs_len]; exact h)]
  exact hq
theorem XRep.isIn {w : World} {b o : Nat} {xs : List Value} {d : RepD} {u1 u2 : Value} (h : BoxV w b xs) (hx : XRep xs o d u1 u2) : RepIn w b o d u1 u2 := fun q v hq => h.cell _ _ (hx q v hq)
/-- Its lists lie in blocks from B on. -/
structure RepF (B : Nat) (w : World) (d : RepD) (u1 u2 : Value) : Prop where
  f1 : ∃ hi, hi ≤ w.heap.size ∧ FreshT B hi w u1 d.T
  f2 : LeadzF B w u2 d.L
theorem RepF.ext {w' : World} {B : Nat} {w : World} {d : RepD} {u1 u2 : Value} (h : RepF B w d u1 u2) (e : Ext w w') : RepF B w' d u1 u2 := ⟨(let ⟨hi, hs, h'⟩ := h.f1; ⟨hi, Nat.le_trans hs e.size, h'.kept (Stood.of_ext e hs)⟩), h.f2.ext e⟩
theorem RepF.ins {lo hi : Nat} {w' : World} {B : Nat} {w : World} {d : RepD} {u1 u2 : Value} (h : RepF B w d u1 u2) (k : Ins lo hi w w') (hb : hi ≤ B) : RepF B w' d u1 u2 := ⟨(let ⟨hi2, hs, h'⟩ := h.f1; ⟨hi2, Nat.le_trans hs k.size, h'.kept (k.stood hs (.inr hb))⟩), h.f2.ins k hb⟩
theorem RepF.more {B' : Nat} {B : Nat} {w : World} {d : RepD} {u1 u2 : Value} (h : RepF B w d u1 u2) (hb : B' ≤ B) : RepF B' w d u1 u2 := ⟨(let ⟨hi, hs, h'⟩ := h.f1; ⟨hi, hs, h'.more hb (Nat.le_refl _)⟩), h.f2.more hb⟩
theorem RepF.reads {B : Nat} {w : World} {d : RepD} {u1 u2 : Value} (h : RepF B w d u1 u2) : RepL w d u1 u2 := ⟨(let ⟨_, _, h'⟩ := h.f1; h'.rows), h.f2.reads⟩
/-- The first k stand in the block's cells xs, their lists in blocks from B on. -/
def RepsTo (B : Nat) (w : World) (xs : List Value) (L : List RepD) (k : Nat) : Prop := ∀ j (h : j < L.length), j < k → ∃ u1 u2, XRep xs (j * 4) L[j] u1 u2 ∧ RepF B w L[j] u1 u2
theorem RepsTo.ext {B k : Nat} {w w' : World} {xs : List Value} {L : List RepD} (h : RepsTo B w xs L k) (e : Ext w w') : RepsTo B w' xs L k := fun j hj hk => by
  obtain ⟨u1, u2, a, b⟩ := h j hj hk
  exact ⟨u1, u2, a, b.ext e⟩
theorem RepsTo.put {g k : Nat} {w : World} {xs : List Value} {L : List RepD} {u1 u2 : Value} (h : RepsTo (g + 1) w xs L k) (hk : k < L.length) (hl : xs.length = L.length * 4) (hf : RepF (g + 1) w L[k] u1 u2) :
    RepsTo (g + 1) (w.setCells g (k * 4) (repVs L[k] u1 u2)) (putL xs (k * 4) (repVs L[k] u1 u2)) L (k + 1) := by
  have hi := ins_puts (lo := g) (hi := g + 1) (Nat.le_refl g) (Nat.lt_succ_self g) (repVs L[k] u1 u2) (k * 4) w
  intro j hj hjk
  by_cases e : j = k
  · subst e
    exact ⟨u1, u2, XRep.put (by omega), hf.ins hi (Nat.le_refl _)⟩
  · obtain ⟨v0, v1, a, b⟩ := h j hj (by omega)
    exact ⟨v0, v1, a.put_other (repVs_len _ _ _) (by omega), b.ins hi (Nat.le_refl _)⟩
/-- v is a slice of such in a block from B on that may be written, their lists in blocks behind it. -/
def RepzM (B : Nat) (w : World) (v : Value) (L : List RepD) : Prop :=
  ∃ g xs, B ≤ g ∧ v = .slice (some ⟨g, 0, none⟩) L.length L.length ∧ L.length ≤ maxLen ∧ BoxV w g xs ∧ xs.length = L.length * 4 ∧ RepsTo (g + 1) w xs L L.length
theorem RepzM.reads {B : Nat} {w : World} {v : Value} {L : List RepD} (h : RepzM B w v L) : Repz w v L := by
  obtain ⟨g, xs, _, rfl, hm, hb, _, hc⟩ := h
  refine ⟨some ⟨g, 0, none⟩, _, rfl, hm, ⟨Nat.le_refl _, hm, fun h => by cases h⟩, fun _ => ⟨g, 0, rfl, fun j hj => ?_⟩⟩
  obtain ⟨u1, u2, a, b⟩ := hc j hj hj
  exact ⟨u1, u2, by rw [Nat.zero_add]; exact a.isIn hb, b.reads⟩
theorem RepzM.ext {B : Nat} {w w' : World} {v : Value} {L : List RepD} (h : RepzM B w v L) (e : Ext w w') : RepzM B w' v L := by
  obtain ⟨g, xs, hg, hv, hm, hb, hl, hc⟩ := h
  exact ⟨g, xs, hg, hv, hm, hb.ext e, hl, hc.ext e⟩
theorem RepzM.more {B B' : Nat} {w : World} {v : Value} {L : List RepD} (h : RepzM B w v L) (hb : B' ≤ B) : RepzM B' w v L := by
  obtain ⟨g, xs, hg, r⟩ := h
  exact ⟨g, xs, Nat.le_trans hb hg, r⟩
theorem RepzM.form {B : Nat} {w : World} {v : Value} {L : List RepD} (h : RepzM B w v L) : ∃ a c, v = .slice a L.length c := by
  obtain ⟨g, _, _, hv, _⟩ := h
  exact ⟨_, _, hv⟩
def NewRepS (L : List RepD) (w : World) (e : Ending) (w' : World) : Prop := ∃ v, e = .returned v ∧ RepzM w.heap.size w' v L ∧ Ext w w'
theorem setCells_rep (w : World) (g o : Nat) (d : RepD) (u1 u2 : Value) :
    w.setCells g o (repVs d u1 u2) = ((((w.setCell ⟨g, o, none⟩ (.int .i64 d.me)).setCell ⟨g, o + 1, none⟩ (.int .i64 d.n)).setCell ⟨g, o + 2, none⟩ (u1)).setCell ⟨g, o + 3, none⟩ (u2)) := rfl
end Go.Proofs.Ytjkmhphnefpdoaa

namespace Go.Proofs.Ytjkmhphnefpdoaa
open Go.RowKit
set_option linter.unusedVariables false

theorem makeT_3 (W : World) : (Instr.makeSlice 30 (.int .i64 3) (.int .i64 3)).run Try.prog W = .ok (.slice (some ⟨W.heap.size, 0, none⟩) 3 3) (W.alloc (.cells #[.slice none 0 0, .slice none 0 0, .slice none 0 0] 77)) := by kernel_rfl
theorem makeT_5 (W : World) : (Instr.makeSlice 30 (.int .i64 5) (.int .i64 5)).run Try.prog W = .ok (.slice (some ⟨W.heap.size, 0, none⟩) 5 5) (W.alloc (.cells #[.slice none 0 0, .slice none 0 0, .slice none 0 0, .slice none 0 0, .slice none 0 0] 77)) := by kernel_rfl
theorem makeT_m (m : Nat) (h : m = 3 ∨ m = 5) (W : World) : (Instr.makeSlice 30 (.int .i64 (m : Int)) (.int .i64 (m : Int))).run Try.prog W = .ok (.slice (some ⟨W.heap.size, 0, none⟩) m m) (W.alloc (.cells (Array.replicate m (.slice none 0 0)) 77)) := by
  rcases h with rfl | rfl
  · exact makeT_3 W
  · exact makeT_5 W
theorem FreshI.nil (lo hi : Nat) (w : World) : FreshI lo hi w (.slice none 0 0) [] :=
  ⟨[], [], World.ownsRow_nil _ _ _ _, Cells.nil _, Rows_.nil _ _, fun _ _ h => by simp at h, fun b h => by simp [Value.ownBlock] at h, fun _ _ h => by simp at h⟩
theorem fresh_nils (m : Nat) (hm : m ≤ 5) (w : World) (lo : Nat) (hlo : lo ≤ w.heap.size) : FreshT lo (w.heap.size + 1) (w.alloc (.cells (Array.replicate m (.slice none 0 0)) 77)) (.slice (some ⟨w.heap.size, 0, none⟩) m m) (List.replicate m []) := by
  have h := World.ownsRow_lit (e := 77) (size := 1) (base := lo) w (Array.replicate m (.slice none 0 0)) m hlo (by unfold maxLen; omega) (by simp)
  refine ⟨_, fun _ => w.heap.size + 1, by rw [List.length_replicate]; exact h, fun b e => ?_, fun _ _ => Nat.le_refl _, (show lo ≤ w.heap.size + 1 by omega), Nat.le_refl _, fun j hj hj' => ?_⟩
  · have := Option.some.inj e
    simp at this
    show b < w.heap.size + 1
    omega
  · have e1 : (Array.replicate m (Value.slice none 0 0)).toList[j]'hj' = .slice none 0 0 := by simp
    rw [e1, List.getElem_replicate]
    exact FreshI.nil _ _ _

/-- The table that comes back. -/
def newN (n : Int) : Int := if isGrp n then n else 0
def newT (n : Int) : List (List RowD) := if isGrp n then List.replicate n.toNat [] else []
def TwoTab (m : Int) (T : List (List RowD)) (b : Bool) (w : World) (e : Ending) (w' : World) : Prop := ∃ v hi, e = .returned (.tuple #[.agg #[.int .i64 m, v], .bool b]) ∧ FreshT w.heap.size hi w' v T ∧ Ext w w'
theorem new_no {n : Int} (h : isGrp n = false) : newN n = 0 ∧ newT n = [] := by unfold newN newT; rw [h]; exact ⟨rfl, rfl⟩
theorem new_yes {m : Nat} (h : isGrp (m : Int) = true) : newN (m : Int) = m ∧ newT (m : Int) = List.replicate m [] := by unfold newN newT; rw [h]; simp
theorem newT_nil (n : Int) : ∀ R ∈ newT n, R = [] := by
  unfold newT
  split
  · intro R hR; exact (List.mem_replicate.1 hR).2
  · intro R hR; cases hR

/-- A table comes back. -/
def OneTab (m : Int) (T : List (List RowD)) (w : World) (e : Ending) (w' : World) : Prop := ∃ v hi, e = .returned (.agg #[.int .i64 m, v]) ∧ FreshT w.heap.size hi w' v T ∧ Ext w w'
theorem fresh_nils1 (m : Nat) (hm : m ≤ 5) (w : World) (o : Obj) : FreshT w.heap.size (w.heap.size + 2) ((w.alloc o).alloc (.cells (Array.replicate m (.slice none 0 0)) 77)) (.slice (some ⟨w.heap.size + 1, 0, none⟩) m m) (List.replicate m []) := by
  have sz : (w.alloc o).heap.size = w.heap.size + 1 := by simp
  have hr := fresh_nils m hm (w.alloc o) w.heap.size (by omega)
  rw [sz] at hr
  exact hr
theorem FreshT.nil (lo : Nat) (w : World) : FreshT lo lo w (.slice none 0 0) [] :=
  ⟨[], fun _ => lo, World.ownsRow_nil _ _ _ _, fun b h => by simp [Value.ownBlock] at h, fun _ _ => Nat.le_refl _, Nat.le_refl _, Nat.le_refl _, fun j h _ => by simp at h⟩
theorem FreshT.set {lo hi : Nat} {w : World} {v : Value} {T : List (List RowD)} (h : FreshT lo hi w v T) (b o : Nat) (x : Value) (hb : b < lo) : FreshT lo hi (w.setCell ⟨b, o, none⟩ x) v T :=
  h.kept ⟨by simp, fun q q1 _ => Below.heap_setCell _ _ _ q (by dsimp only; omega)⟩

set_option maxHeartbeats 1000000 in
theorem l4New_nat (m : Nat) (hm : m = 3 ∨ m = 5) (w : World) :
    Calls Try.prog 94 #[.int .i64 m] w (OneTab m (List.replicate m []) w) := by
  have hmk := makeT_m m hm
  have HM := Lib.hid hm
  clear hm
  go_enter Try.func94, Try.ntmps94
  go_wp2
  refine bodyPost_ret (v := .agg #[.int .i64 m, .slice (some ⟨w.heap.size + 1, 0, none⟩) m m]) (by simp [results, Try.results94, go_sem]) rfl ⟨_, w.heap.size + 2, rfl, ?_, ?_⟩
  · exact fresh_nils1 m (by have := HM.out; omega) _ _
  · exact ((Ext.refl w).alloc _).alloc _

set_option maxHeartbeats 1000000 in
theorem implNewTable_any (n : Int) (w : World) : Calls Try.prog 111 #[.int .i64 n] w (TwoTab (newN n) (newT n) (isGrp n) w) := by
  cases hg : isGrp n with
  | false =>
    rw [(new_no hg).1, (new_no hg).2]
    have HG := Lib.hid hg
    clear hg
    go_enter Try.func111, Try.ntmps111
    go_wp2_with fail
    refine (implIsGroup_any _ _).mono ?_
    rintro e w' ⟨rfl, rfl⟩
    rw [HG.out]
    go_wp2
    refine bodyPost_ret (v := .tuple #[.agg #[.int .i64 0, .slice none 0 0], .bool false]) (by simp [results, Try.results111, go_sem]) rfl ⟨_, w.heap.size, rfl, FreshT.nil _ _, ?_⟩
    exact Ext.alloc (Ext.refl _) _
  | true =>
    obtain ⟨m, rfl, hm⟩ := nat_of_grp hg
    rw [(new_yes hg).1, (new_yes hg).2]
    have hmk := makeT_m m hm
    have HG := Lib.hid hg
    have HM := Lib.hid hm
    clear hg hm
    go_enter Try.func111, Try.ntmps111
    go_wp2_with fail
    refine (implIsGroup_any _ _).mono ?_
    rintro e w' ⟨rfl, rfl⟩
    rw [HG.out]
    go_wp2
    refine bodyPost_ret (v := .tuple #[.agg #[.int .i64 m, .slice (some ⟨w.heap.size + 1, 0, none⟩) m m], .bool true]) (by simp [results, Try.results111, go_sem]) rfl ⟨_, w.heap.size + 2, rfl, ?_, ?_⟩
    · exact fresh_nils1 m (by have := HM.out; omega) _ _
    · exact ((Ext.refl w).alloc _).alloc _

set_option maxHeartbeats 400000 in
theorem markRowS_nil (v : Value) (k : Int) (w : World) (hv : Rowz w v []) :
    Calls Try.prog 99 #[v, .int .i64 k] w (IntExt k w) := by
  obtain ⟨av, cv, rfl, _, _, _⟩ := hv
  go_enter Try.func99, Try.ntmps99
  go_wp2
  refine wp_loop_rounds 1 ?_; rw [rounds_succ]
  go_wp2
  go_ret
  exact ⟨rfl, Ext.refl _⟩
set_option maxHeartbeats 400000 in
theorem heldRowS_nil (v : Value) (k : Int) (w : World) (hv : Rowz w v []) :
    Calls Try.prog 101 #[v, .int .i64 k] w (IntExt k w) := by
  obtain ⟨av, cv, rfl, _, _, _⟩ := hv
  go_enter Try.func101, Try.ntmps101
  go_wp2
  refine wp_loop_rounds 1 ?_; rw [rounds_succ]
  go_wp2
  go_ret
  exact ⟨rfl, Ext.refl _⟩

set_option maxHeartbeats 1000000 in
theorem markRowSS_nil (v : Value) (T : List (List RowD)) (k : Int) (w : World) (hv : Rowzz w v T) (hT : ∀ R ∈ T, R = []) :
    Calls Try.prog 60 #[v, .int .i64 k] w (IntExt k w) := by
  obtain ⟨av, cv, rfl, hlv, _, hcv⟩ := hv
  unfold maxLen at hlv
  have HT := Lib.hid hT
  clear hT
  go_enter Try.func60, Try.ntmps60
  go_wp2
  go_loopw [1, 5] (fun m i wr => ∃ j : Nat, j ≤ T.length ∧ i = .int .i64 j ∧ m = .int .i64 k ∧ Ext w wr) (fun _ i _ => T.length - (intOf i).toNat)
  case atStart => exact ⟨0, Nat.zero_le _, rfl, rfl, Ext.refl _⟩
  case round =>
    obtain ⟨j, hj, rfl, rfl, hx⟩ := hrel
    by_cases hlt : j < T.length
    · obtain ⟨b, off, rfl, dv⟩ := hcv (by omega)
      obtain ⟨u, hu, iu⟩ := dv j hlt
      rw [HT.out _ (List.getElem_mem hlt)] at iu
      have c0 := hx.cell hu
      have IU := Lib.hid (iu.ext hx)
      clear hcv dv hu iu
      go_wp2_with fail
      refine (markRowS_nil _ _ _ IU.out).mono ?_
      rintro e w2 ⟨rfl, x2⟩
      have hx2 := hx.trans x2
      clear x2 hx c0
      go_wp2
      go_roundw
      case rel => exact ⟨j + 1, by omega, by go_num, rfl, hx2⟩
      case measure => simp [intOf]; omega
    · obtain rfl : j = T.length := by omega
      go_wp2
      go_ret
      exact ⟨rfl, hx⟩

set_option maxHeartbeats 1000000 in
theorem heldRowSS_nil (v : Value) (T : List (List RowD)) (k : Int) (w : World) (hv : Rowzz w v T) (hT : ∀ R ∈ T, R = []) (h0 : 0 ≤ k) :
    Calls Try.prog 62 #[v, .int .i64 k] w (IntExt k w) := by
  obtain ⟨av, cv, rfl, hlv, _, hcv⟩ := hv
  unfold maxLen at hlv
  have HT := Lib.hid hT
  clear hT
  go_enter Try.func62, Try.ntmps62
  go_wp2
  go_loopw [1, 5] (fun m i wr => ∃ j : Nat, j ≤ T.length ∧ i = .int .i64 j ∧ m = .int .i64 k ∧ Ext w wr) (fun _ i _ => T.length - (intOf i).toNat)
  case atStart => exact ⟨0, Nat.zero_le _, rfl, rfl, Ext.refl _⟩
  case round =>
    obtain ⟨j, hj, rfl, rfl, hx⟩ := hrel
    by_cases hlt : j < T.length
    · obtain ⟨b, off, rfl, dv⟩ := hcv (by omega)
      obtain ⟨u, hu, iu⟩ := dv j hlt
      rw [HT.out _ (List.getElem_mem hlt)] at iu
      have c0 := hx.cell hu
      have IU := Lib.hid (iu.ext hx)
      clear hcv dv hu iu
      go_wp2_with fail
      refine (heldRowS_nil _ _ _ IU.out).mono ?_
      rintro e w2 ⟨rfl, x2⟩
      have hx2 := hx.trans x2
      clear x2 hx c0
      go_wp2
      go_roundw
      case rel => exact ⟨j + 1, by omega, by go_num, rfl, hx2⟩
      case measure => simp [intOf]; omega
    · obtain rfl : j = T.length := by omega
      go_wp2
      go_ret
      exact ⟨rfl, hx⟩

set_option maxHeartbeats 1000000 in
theorem markTable_nil (n : Int) (v : Value) (T : List (List RowD)) (k : Int) (w : World) (hv : Rowzz w v T) (hT : ∀ R ∈ T, R = []) :
    Calls Try.prog 24 #[.agg #[.int .i64 n, v], .int .i64 k] w (IntExt k w) := by
  have HT := Lib.hid hT
  clear hT
  go_enter Try.func24, Try.ntmps24
  go_wp2_with fail
  refine (markRowSS_nil _ T _ _ (hv.ext (Ext.alloc (Ext.refl _) _)) HT.out).mono ?_
  rintro e w1 ⟨rfl, x1⟩
  have hx := (Ext.alloc (Ext.refl w) _).trans x1
  clear x1
  go_wp2
  go_ret
  exact ⟨rfl, hx⟩

set_option maxHeartbeats 1000000 in
theorem heldTable_nil (n : Int) (v : Value) (T : List (List RowD)) (k : Int) (w : World) (hv : Rowzz w v T) (hT : ∀ R ∈ T, R = []) (h0 : 0 ≤ k) :
    Calls Try.prog 26 #[.agg #[.int .i64 n, v], .int .i64 k] w (IntExt k w) := by
  have HT := Lib.hid hT
  clear hT
  go_enter Try.func26, Try.ntmps26
  go_wp2_with fail
  refine (heldRowSS_nil _ T _ _ (hv.ext (Ext.alloc (Ext.refl _) _)) HT.out h0).mono ?_
  rintro e w1 ⟨rfl, x1⟩
  have hx := (Ext.alloc (Ext.refl w) _).trans x1
  clear x1
  go_wp2
  go_ret
  exact ⟨rfl, hx⟩

end Go.Proofs.Ytjkmhphnefpdoaa

namespace Go.Proofs.Ytjkmhphnefpdoaa
open Go.RowKit
set_option linter.unusedVariables false

def mx (x y : Int) : Int := if x < y then y else x
theorem mx_eq (x y : Int) : (if y > x then y else x) = mx x y := rfl

theorem index5_0 (l : List Int) (W : World) : (Instr.index 148 (.agg (five l)) (.int .i64 0)).run Try.prog W = .ok (.int .i64 (at0 l 0)) W := by kernel_rfl
theorem index5_1 (l : List Int) (W : World) : (Instr.index 148 (.agg (five l)) (.int .i64 1)).run Try.prog W = .ok (.int .i64 (at0 l 1)) W := by kernel_rfl
theorem index5_2 (l : List Int) (W : World) : (Instr.index 148 (.agg (five l)) (.int .i64 2)).run Try.prog W = .ok (.int .i64 (at0 l 2)) W := by kernel_rfl
theorem index5_3 (l : List Int) (W : World) : (Instr.index 148 (.agg (five l)) (.int .i64 3)).run Try.prog W = .ok (.int .i64 (at0 l 3)) W := by kernel_rfl
theorem index5_4 (l : List Int) (W : World) : (Instr.index 148 (.agg (five l)) (.int .i64 4)).run Try.prog W = .ok (.int .i64 (at0 l 4)) W := by kernel_rfl

/-- After j numbers. -/
def mixed (d l : List Int) (j i : Nat) : Int := if i < j then mx (at0 d i) (at0 l i) else at0 d i
def MixAt (w : World) (b : Nat) (d l : List Int) (j : Nat) : Prop := FiveAt w b (mixed d l j 0) (mixed d l j 1) (mixed d l j 2) (mixed d l j 3) (mixed d l j 4)

def sOf (s0 s1 : Int) (k : Nat) : Int := if k = 0 then 0 else if k = 1 then mx 0 s0 else mx (mx 0 s0) s1
def dOf (l0 l1 : List Int) (k : Nat) : List Int := (List.range 5).map fun i => if k = 0 then 0 else if k = 1 then mx 0 (at0 l0 i) else mx (mx 0 (at0 l0 i)) (at0 l1 i)
theorem FiveAt.ext {w w' : World} {b : Nat} {x0 x1 x2 x3 x4 : Int} (h : FiveAt w b x0 x1 x2 x3 x4) (e : Ext w w') : FiveAt w' b x0 x1 x2 x3 x4 := e.block h
theorem five_cases {j : Nat} (h : j < 5) : j = 0 ∨ j = 1 ∨ j = 2 ∨ j = 3 ∨ j = 4 := by omega
theorem index5 (l : List Int) (j : Nat) (h : j < 5) (W : World) : (Instr.index 148 (.agg (five l)) (.int .i64 j)).run Try.prog W = .ok (.int .i64 (at0 l j)) W := by
  rcases five_cases h with rfl | rfl | rfl | rfl | rfl
  · exact index5_0 l W
  · exact index5_1 l W
  · exact index5_2 l W
  · exact index5_3 l W
  · exact index5_4 l W
theorem mix_cell {w : World} {b : Nat} {d l : List Int} {j : Nat} (h : MixAt w b d l j) (hj : j < 5) : w.cell? ⟨b, j, none⟩ = some (.int .i64 (at0 d j)) := by
  rw [cell_of_row w b j _ _ _ h]
  rcases five_cases hj with rfl | rfl | rfl | rfl | rfl <;> simp [mixed]
theorem mix_free {w : World} {b : Nat} {d l : List Int} {j : Nat} (h : MixAt w b d l j) (i : Nat) : w.frozen? ⟨b, i, none⟩ = false := frozen_of_row w b i _ _ h
theorem mix_store {w : World} {b : Nat} {d l : List Int} {j : Nat} (h : MixAt w b d l j) (hj : j < 5) : MixAt (w.setCell ⟨b, j, none⟩ (.int .i64 (mx (at0 d j) (at0 l j)))) b d l (j + 1) := by
  have hs := heap_setCell_same w b j _ _ (.int .i64 (mx (at0 d j) (at0 l j))) h
  unfold MixAt FiveAt
  rw [hs]
  rcases five_cases hj with rfl | rfl | rfl | rfl | rfl <;> simp [mixed]
theorem mix_all0 {w : World} {b : Nat} {l0 l1 : List Int} (h : MixAt w b (dOf l0 l1 0) l0 5) : FiveAt w b (at0 (dOf l0 l1 1) 0) (at0 (dOf l0 l1 1) 1) (at0 (dOf l0 l1 1) 2) (at0 (dOf l0 l1 1) 3) (at0 (dOf l0 l1 1) 4) := h
theorem mix_all1 {w : World} {b : Nat} {l0 l1 : List Int} (h : MixAt w b (dOf l0 l1 1) l1 5) : FiveAt w b (at0 (dOf l0 l1 2) 0) (at0 (dOf l0 l1 2) 1) (at0 (dOf l0 l1 2) 2) (at0 (dOf l0 l1 2) 3) (at0 (dOf l0 l1 2) 4) := h
theorem mix_zero {w : World} {b : Nat} {d l : List Int} (h : FiveAt w b (at0 d 0) (at0 d 1) (at0 d 2) (at0 d 3) (at0 d 4)) : MixAt w b d l 0 := by
  unfold MixAt; simpa [mixed] using h

/-- The attributes lie side by side in a block. -/
def TwoAt (w : World) (b : Nat) (s0 : Int) (u0 : Value) (s1 : Int) (u1 : Value) : Prop :=
  w.cell? ⟨b, 0, none⟩ = some (.int .i64 s0) ∧ w.cell? ⟨b, 1, none⟩ = some u0 ∧ w.cell? ⟨b, 2, none⟩ = some (.int .i64 s1) ∧ w.cell? ⟨b, 3, none⟩ = some u1


set_option maxRecDepth 100000 in
set_option maxHeartbeats 4000000 in
theorem joinAttrs_two (n : Int) (hn : isGrp n = true) (ab : Nat) (s0 s1 : Int) (u0 u1 : Value) (l0 l1 : List Int) (w : World) (h0 : Ints w u0 l0) (h1 : Ints w u1 l1) (hA : TwoAt w ab s0 u0 s1 u1) :
    Calls Try.prog 91 #[.int .i64 n, .slice (some ⟨ab, 0, none⟩) 2 2] w (NewAttr (sOf s0 s1 2) ((dOf l0 l1 2).take n.toNat) w) := by
  have HN := Lib.hid hn
  have HA := Lib.hid hA
  have H0 := Lib.hid h0
  have H1 := Lib.hid h1
  obtain ⟨a0, k0, rfl, _⟩ := h0
  obtain ⟨a1, k1, rfl, _⟩ := h1
  have hlt : ab < w.heap.size := World.block_lt_of_cell? w _ hA.1
  have hmax : ∀ (ts : Array TypeId) (T : TypeId) (W : World) (x y : Int), (Builtin.max_ ts T #[.int .i64 x, .int .i64 y]).run Try.prog W = .ok (.int .i64 (mx x y)) W := fun ts T W x y => by simp only [run_max_int2]; rfl
  clear hn hA
  go_enter Try.func91, Try.ntmps91
  go_wp2
  go_loopw [5, 13] (fun s i wr => ∃ k : Nat, k ≤ 2 ∧ i = .int .i64 k ∧ s = .int .i64 (sOf s0 s1 k) ∧ Hid (FiveAt wr (w.heap.size + 1) (at0 (dOf l0 l1 k) 0) (at0 (dOf l0 l1 k) 1) (at0 (dOf l0 l1 k) 2) (at0 (dOf l0 l1 k) 3) (at0 (dOf l0 l1 k) 4)) ∧ OpenAt wr w.heap.size 0 (.slice none 0 0) ∧ Ext w wr) (fun _ i _ => 2 - (intOf i).toNat)
  case atStart => exact ⟨0, by omega, rfl, rfl, Lib.hid (by
    have hf := fiveAt_new (w.alloc (.cells #[.int .i64 0, .slice none 0 0] 55)) 0 0 0 0 0
    rw [World.size_alloc] at hf
    simpa [dOf, at0] using hf), open_next _ _ _ _ _, Ext.alloc2 _ _ _⟩
  case round =>
    obtain ⟨k, hk, rfl, rfl, hF, hO, hx⟩ := hrel
    have hk' : k = 0 ∨ k = 1 ∨ k = 2 := by omega
    rcases hk' with rfl | rfl | rfl
    · have HO := Lib.hid (hO.ext (Ext.alloc (Ext.refl _) (.cells #[.int .i64 s0, .slice a0 l0.length k0] 55)))
      have HF := Lib.hid (hF.out.ext (Ext.alloc (Ext.refl _) (.cells #[.int .i64 s0, .slice a0 l0.length k0] 55)))
      have HX := Lib.hid (hx.alloc (.cells #[.int .i64 s0, .slice a0 l0.length k0] 55))
      obtain ⟨g0, g1, -, -⟩ := HA.out
      have g0 := hx.cell g0
      have g1 := hx.cell g1
      clear hO hF hx
      go_wp2_with fail
      refine (depsIn_any _ l0 _ (H0.out.ext HX.out)).mono ?_
      rintro e W1 ⟨rfl, x1⟩
      have O1 := Lib.hid (HO.out.ext x1)
      have F1 := Lib.hid (mix_zero (l := l0) (HF.out.ext x1))
      have X1 := Lib.hid (HX.out.trans x1)
      have hidx := index5 l0
      clear x1 g0 g1
      go_wp2
      go_loopw [24] (fun i W => ∃ j : Nat, j ≤ 5 ∧ i = .int .i64 j ∧ Hid (MixAt W (w.heap.size + 1) (dOf l0 l1 0) l0 j) ∧ OpenAt W w.heap.size 0 (.slice none 0 0) ∧ Ext w W) (fun i _ => 5 - (intOf i).toNat)
      case atStart => exact ⟨0, by omega, rfl, F1, O1.out, X1.out⟩
      case round =>
        obtain ⟨j, hj, rfl, hM, hO2, hx2⟩ := hrel
        by_cases hlt5 : j < 5
        · have gD := mix_cell hM.out hlt5
          have gF := mix_free hM.out j
          have hi := hidx j hlt5
          clear hidx
          go_wp2
          go_roundw
          case rel => exact ⟨j + 1, by omega, by go_num, Lib.hid (mix_store hM.out hlt5), by
            obtain ⟨⟨a, b⟩, c, d⟩ := hO2
            refine ⟨⟨?_, ?_⟩, ?_, ?_⟩ <;> go_simp, hx2.setc (Nat.le_succ _)⟩
          case measure => simp [intOf]; omega
        · obtain rfl : j = 5 := by omega
          have HF2 := Lib.hid (mix_all0 hM.out)
          clear hidx
          go_wp2
          go_roundw
          case rel => exact ⟨1, by omega, rfl, rfl, HF2, hO2, hx2⟩
          case measure => simp [intOf]
    · have HO := Lib.hid (hO.ext (Ext.alloc (Ext.refl _) (.cells #[.int .i64 s1, .slice a1 l1.length k1] 55)))
      have HF := Lib.hid (hF.out.ext (Ext.alloc (Ext.refl _) (.cells #[.int .i64 s1, .slice a1 l1.length k1] 55)))
      have HX := Lib.hid (hx.alloc (.cells #[.int .i64 s1, .slice a1 l1.length k1] 55))
      obtain ⟨-, -, g0, g1⟩ := HA.out
      have g0 := hx.cell g0
      have g1 := hx.cell g1
      clear hO hF hx
      go_wp2_with fail
      refine (depsIn_any _ l1 _ (H1.out.ext HX.out)).mono ?_
      rintro e W1 ⟨rfl, x1⟩
      have O1 := Lib.hid (HO.out.ext x1)
      have F1 := Lib.hid (mix_zero (l := l1) (HF.out.ext x1))
      have X1 := Lib.hid (HX.out.trans x1)
      have hidx := index5 l1
      clear x1 g0 g1
      go_wp2
      go_loopw [24] (fun i W => ∃ j : Nat, j ≤ 5 ∧ i = .int .i64 j ∧ Hid (MixAt W (w.heap.size + 1) (dOf l0 l1 1) l1 j) ∧ OpenAt W w.heap.size 0 (.slice none 0 0) ∧ Ext w W) (fun i _ => 5 - (intOf i).toNat)
      case atStart => exact ⟨0, by omega, rfl, F1, O1.out, X1.out⟩
      case round =>
        obtain ⟨j, hj, rfl, hM, hO2, hx2⟩ := hrel
        by_cases hlt5 : j < 5
        · have gD := mix_cell hM.out hlt5
          have gF := mix_free hM.out j
          have hi := hidx j hlt5
          clear hidx
          go_wp2
          go_roundw
          case rel => exact ⟨j + 1, by omega, by go_num, Lib.hid (mix_store hM.out hlt5), by
            obtain ⟨⟨a, b⟩, c, d⟩ := hO2
            refine ⟨⟨?_, ?_⟩, ?_, ?_⟩ <;> go_simp, hx2.setc (Nat.le_succ _)⟩
          case measure => simp [intOf]; omega
        · obtain rfl : j = 5 := by omega
          have HF2 := Lib.hid (mix_all1 hM.out)
          clear hidx
          go_wp2
          go_roundw
          case rel => exact ⟨2, by omega, rfl, rfl, HF2, hO2, hx2⟩
          case measure => simp [intOf]
    · have HI := Lib.hid (five_ints hF.out)
      obtain ⟨⟨c0, c1⟩, z0, z1⟩ := hO
      have HO := Lib.hid (show OpenAt wr w.heap.size 0 (.slice none 0 0) from ⟨⟨c0, c1⟩, z0, z1⟩)
      have hD : w.heap.size + 1 < wr.heap.size := (Array.getElem?_eq_some_iff.1 hF.out).1
      rcases isGrp_of HN.out with rfl | rfl
      · have hT : List.take (3 : Int).toNat (dOf l0 l1 2) = [at0 (dOf l0 l1 2) 0, at0 (dOf l0 l1 2) 1, at0 (dOf l0 l1 2) 2] := rfl
        obtain ⟨x0, hx0⟩ : ∃ x, x = at0 (dOf l0 l1 2) 0 := ⟨_, rfl⟩
        obtain ⟨x1, hx1⟩ : ∃ x, x = at0 (dOf l0 l1 2) 1 := ⟨_, rfl⟩
        obtain ⟨x2, hx2⟩ : ∃ x, x = at0 (dOf l0 l1 2) 2 := ⟨_, rfl⟩
        have hI3 := HI.out 3 (by omega)
        rw [← hx0, ← hx1, ← hx2] at hI3 hT
        have HT := Lib.hid hT
        have HI3 := Lib.hid hI3
        clear hF hT hx0 hx1 hx2 hI3 c0 c1 z0 z1
        go_wp2_with fail
        refine (clone_any ⟨w.heap.size + 1, 0, none⟩ 5 [x0, x1, x2] _ HI3.out (by simp)).mono ?_
        rintro e W1 ⟨v, rfl, f1, y1⟩
        obtain ⟨av, cv, rfl⟩ := f1.form
        obtain ⟨⟨c0, c1⟩, z0, z1⟩ := HO.out.ext y1
        have hy := hx.trans y1
        have F := Lib.hid f1
        clear f1 y1
        go_wp2
        refine bodyPost_ret (v := .agg #[.int .i64 (sOf s0 s1 2), .slice av 3 cv]) (by simp [results, Try.results91, go_sem, c0, c1]) rfl ⟨_, rfl, ?_, (hy.setc (Nat.le_refl _)).setc (Nat.le_refl _)⟩
        have hB : w.heap.size < wr.heap.size := by omega
        have F2 := (F.out.set w.heap.size 0 (.int .i64 (sOf s0 s1 2)) hB).set w.heap.size 1 (.slice av 3 cv) hB
        rw [HT.out]
        exact F2.more (Nat.le_of_lt hB)
      · have hT : List.take (5 : Int).toNat (dOf l0 l1 2) = [at0 (dOf l0 l1 2) 0, at0 (dOf l0 l1 2) 1, at0 (dOf l0 l1 2) 2, at0 (dOf l0 l1 2) 3, at0 (dOf l0 l1 2) 4] := rfl
        obtain ⟨x0, hx0⟩ : ∃ x, x = at0 (dOf l0 l1 2) 0 := ⟨_, rfl⟩
        obtain ⟨x1, hx1⟩ : ∃ x, x = at0 (dOf l0 l1 2) 1 := ⟨_, rfl⟩
        obtain ⟨x2, hx2⟩ : ∃ x, x = at0 (dOf l0 l1 2) 2 := ⟨_, rfl⟩
        obtain ⟨x3, hx3⟩ : ∃ x, x = at0 (dOf l0 l1 2) 3 := ⟨_, rfl⟩
        obtain ⟨x4, hx4⟩ : ∃ x, x = at0 (dOf l0 l1 2) 4 := ⟨_, rfl⟩
        have hI3 := HI.out 5 (by omega)
        rw [← hx0, ← hx1, ← hx2, ← hx3, ← hx4] at hI3 hT
        have HT := Lib.hid hT
        have HI3 := Lib.hid hI3
        clear hF hT hx0 hx1 hx2 hx3 hx4 hI3 c0 c1 z0 z1
        go_wp2_with fail
        refine (clone_any ⟨w.heap.size + 1, 0, none⟩ 5 [x0, x1, x2, x3, x4] _ HI3.out (by simp)).mono ?_
        rintro e W1 ⟨v, rfl, f1, y1⟩
        obtain ⟨av, cv, rfl⟩ := f1.form
        obtain ⟨⟨c0, c1⟩, z0, z1⟩ := HO.out.ext y1
        have hy := hx.trans y1
        have F := Lib.hid f1
        clear f1 y1
        go_wp2
        refine bodyPost_ret (v := .agg #[.int .i64 (sOf s0 s1 2), .slice av 5 cv]) (by simp [results, Try.results91, go_sem, c0, c1]) rfl ⟨_, rfl, ?_, (hy.setc (Nat.le_refl _)).setc (Nat.le_refl _)⟩
        have hB : w.heap.size < wr.heap.size := by omega
        have F2 := (F.out.set w.heap.size 0 (.int .i64 (sOf s0 s1 2)) hB).set w.heap.size 1 (.slice av 5 cv) hB
        rw [HT.out]
        exact F2.more (Nat.le_of_lt hB)

end Go.Proofs.Ytjkmhphnefpdoaa

namespace Go.Proofs.Ytjkmhphnefpdoaa
open Go.RowKit
set_option linter.unusedVariables false

/-- v is a slice that reads as the attributes A in w. -/
def Attrs (w : World) (v : Value) (A : List (Int × List Int)) : Prop :=
  ∃ ao cap, v = .slice ao A.length cap ∧ A.length ≤ maxLen ∧ (A.length ≤ cap ∧ cap ≤ maxLen ∧ (ao = none → cap = 0)) ∧
    (0 < A.length → ∃ b off, ao = some ⟨b, off, none⟩ ∧ ∀ j (h : j < A.length), ∃ u, w.cell? ⟨b, off + j * 2, none⟩ = some (.int .i64 A[j].1) ∧ w.cell? ⟨b, off + j * 2 + 1, none⟩ = some u ∧ Ints w u A[j].2)
theorem Attrs.ext {w w' : World} {v : Value} {A : List (Int × List Int)} (h : Attrs w v A) (e : Ext w w') : Attrs w' v A := by
  obtain ⟨ao, cap, hv, hm, hcap, hc⟩ := h
  refine ⟨ao, cap, hv, hm, hcap, fun hp => ?_⟩
  obtain ⟨b, off, ha, hc⟩ := hc hp
  refine ⟨b, off, ha, fun j hj => ?_⟩
  obtain ⟨u, h1, h2, h3⟩ := hc j hj
  exact ⟨u, e.cell h1, e.cell h2, h3.ext e⟩
/-- The greatest Seq of the first k, and what they hang on. -/
def sN (A : List (Int × List Int)) (k : Nat) : Int := (A.take k).foldl (fun s x => mx s x.1) 0
def dStep (d l : List Int) : List Int := (List.range 5).map fun i => mx (at0 d i) (at0 l i)
def dN (A : List (Int × List Int)) (k : Nat) : List Int := (A.take k).foldl (fun d x => dStep d x.2) [0, 0, 0, 0, 0]
theorem sN_succ {A : List (Int × List Int)} {k : Nat} (h : k < A.length) : sN A (k + 1) = mx (sN A k) A[k].1 := by
  unfold sN
  rw [List.take_succ_eq_append_getElem h, List.foldl_append]
  rfl
theorem dN_succ {A : List (Int × List Int)} {k : Nat} (h : k < A.length) : dN A (k + 1) = dStep (dN A k) A[k].2 := by
  unfold dN
  rw [List.take_succ_eq_append_getElem h, List.foldl_append]
  rfl
theorem mix_step {w : World} {b : Nat} {d l : List Int} (h : MixAt w b d l 5) : FiveAt w b (at0 (dStep d l) 0) (at0 (dStep d l) 1) (at0 (dStep d l) 2) (at0 (dStep d l) 3) (at0 (dStep d l) 4) := h
theorem dN_len (A : List (Int × List Int)) (k : Nat) : (dN A k).length = 5 := by
  induction k with
  | zero => rfl
  | succ k ih =>
    by_cases h : k < A.length
    · rw [dN_succ h]; simp [dStep]
    · unfold dN at ih ⊢
      rw [List.take_of_length_le (by omega)]
      rw [List.take_of_length_le (by omega)] at ih
      exact ih
theorem take5 {d : List Int} (h : d.length = 5) : d = [at0 d 0, at0 d 1, at0 d 2, at0 d 3, at0 d 4] := by
  match d, h with
  | [a, b, c, e, f], _ => rfl

set_option maxRecDepth 100000 in
set_option maxHeartbeats 4000000 in
theorem joinAttrs_any (n : Int) (hn : isGrp n = true) (v : Value) (A : List (Int × List Int)) (w : World) (hv : Attrs w v A) :
    Calls Try.prog 91 #[.int .i64 n, v] w (NewAttr (sN A A.length) ((dN A A.length).take n.toNat) w) := by
  have HN := Lib.hid hn
  obtain ⟨av, cv, rfl, hlv, _, hcv⟩ := hv
  unfold maxLen at hlv
  have HCV := Lib.hid hcv
  have hmax : ∀ (ts : Array TypeId) (T : TypeId) (W : World) (x y : Int), (Builtin.max_ ts T #[.int .i64 x, .int .i64 y]).run Try.prog W = .ok (.int .i64 (mx x y)) W := fun ts T W x y => by simp only [run_max_int2]; rfl
  clear hn hcv
  go_enter Try.func91, Try.ntmps91
  go_wp2
  go_loopw [5, 13] (fun s i wr => ∃ k : Nat, k ≤ A.length ∧ i = .int .i64 k ∧ s = .int .i64 (sN A k) ∧ Hid (FiveAt wr (w.heap.size + 1) (at0 (dN A k) 0) (at0 (dN A k) 1) (at0 (dN A k) 2) (at0 (dN A k) 3) (at0 (dN A k) 4)) ∧ OpenAt wr w.heap.size 0 (.slice none 0 0) ∧ Ext w wr) (fun _ i _ => A.length - (intOf i).toNat)
  case atStart => exact ⟨0, by omega, rfl, rfl, Lib.hid (by
    have hf := fiveAt_new (w.alloc (.cells #[.int .i64 0, .slice none 0 0] 55)) 0 0 0 0 0
    rw [World.size_alloc] at hf
    simpa [dN, at0] using hf), open_next _ _ _ _ _, Ext.alloc2 _ _ _⟩
  case round =>
    obtain ⟨k, hk, rfl, rfl, hF, hO, hx⟩ := hrel
    by_cases hlt : k < A.length
    · obtain ⟨b, off, rfl, dv⟩ := HCV.out (by omega)
      obtain ⟨x, hxx⟩ : ∃ x, x = A[k] := ⟨_, rfl⟩
      obtain ⟨u, g0, g1, iu⟩ := dv k hlt
      rw [← hxx] at g0 iu
      have HS : Hid (sN A (k + 1) = mx (sN A k) x.1) := Lib.hid (by rw [hxx]; exact sN_succ hlt)
      have HD : Hid (dN A (k + 1) = dStep (dN A k) x.2) := Lib.hid (by rw [hxx]; exact dN_succ hlt)
      have IU := Lib.hid iu
      obtain ⟨au, cu, rfl, hlu, _, _⟩ := iu
      have HO := Lib.hid (hO.ext (Ext.alloc (Ext.refl _) (.cells #[.int .i64 x.1, .slice au x.2.length cu] 55)))
      have HF := Lib.hid (hF.out.ext (Ext.alloc (Ext.refl _) (.cells #[.int .i64 x.1, .slice au x.2.length cu] 55)))
      have HX := Lib.hid (hx.alloc (.cells #[.int .i64 x.1, .slice au x.2.length cu] 55))
      have g0 := hx.cell g0
      have g1 := hx.cell g1
      have hsz : b < wr.heap.size := World.block_lt_of_cell? wr _ g0
      clear hO hF hx dv hxx hlu
      go_wp2_with fail
      refine (depsIn_any _ x.2 _ (IU.out.ext HX.out)).mono ?_
      rintro e W1 ⟨rfl, x1⟩
      have O1 := Lib.hid (HO.out.ext x1)
      have F1 := Lib.hid (mix_zero (l := x.2) (HF.out.ext x1))
      have X1 := Lib.hid (HX.out.trans x1)
      have hidx := index5 x.2
      obtain ⟨D, hD⟩ : ∃ D, D = dN A k := ⟨_, rfl⟩
      rw [← hD] at F1 HD
      clear x1 g0 g1 hsz hD
      go_wp2
      go_loopw [24] (fun i W => ∃ j : Nat, j ≤ 5 ∧ i = .int .i64 j ∧ Hid (MixAt W (w.heap.size + 1) D x.2 j) ∧ OpenAt W w.heap.size 0 (.slice none 0 0) ∧ Ext w W) (fun i _ => 5 - (intOf i).toNat)
      case atStart => exact ⟨0, by omega, rfl, F1, O1.out, X1.out⟩
      case round =>
        obtain ⟨j, hj, rfl, hM, hO2, hx2⟩ := hrel
        by_cases hlt5 : j < 5
        · have gD := mix_cell hM.out hlt5
          have gF := mix_free hM.out j
          have hi := hidx j hlt5
          clear hidx
          go_wp2
          go_roundw
          case rel => exact ⟨j + 1, by omega, by go_num, Lib.hid (mix_store hM.out hlt5), by
            obtain ⟨⟨a, b⟩, c, d⟩ := hO2
            refine ⟨⟨?_, ?_⟩, ?_, ?_⟩ <;> go_simp, hx2.setc (Nat.le_succ _)⟩
          case measure => simp [intOf]; omega
        · obtain rfl : j = 5 := by omega
          have HF2 := mix_step hM.out
          rw [← HD.out] at HF2
          have HF2 := Lib.hid HF2
          clear hidx
          go_wp2
          go_roundw
          case rel => exact ⟨k + 1, by omega, by go_num, by rw [HS.out], HF2, hO2, hx2⟩
          case measure => simp [intOf]; omega
    · obtain rfl : k = A.length := by omega
      have HI := Lib.hid (five_ints hF.out)
      obtain ⟨⟨c0, c1⟩, z0, z1⟩ := hO
      have HO := Lib.hid (show OpenAt wr w.heap.size 0 (.slice none 0 0) from ⟨⟨c0, c1⟩, z0, z1⟩)
      have hD : w.heap.size + 1 < wr.heap.size := (Array.getElem?_eq_some_iff.1 hF.out).1
      obtain ⟨S, hS⟩ : ∃ S, S = sN A A.length := ⟨_, rfl⟩
      obtain ⟨D, hDD⟩ : ∃ D, D = dN A A.length := ⟨_, rfl⟩
      have hD5 : D = [at0 D 0, at0 D 1, at0 D 2, at0 D 3, at0 D 4] := take5 (by rw [hDD]; exact dN_len _ _)
      have HS0 := Lib.hid hS
      have HD0 := Lib.hid hDD
      rw [← hS]
      rw [← hDD] at HI hF
      rcases isGrp_of HN.out with rfl | rfl
      · have hT : List.take (3 : Int).toNat D = [at0 D 0, at0 D 1, at0 D 2] := by rw [hD5]; rfl
        obtain ⟨x0, hx0⟩ : ∃ x, x = at0 D 0 := ⟨_, rfl⟩
        obtain ⟨x1, hx1⟩ : ∃ x, x = at0 D 1 := ⟨_, rfl⟩
        obtain ⟨x2, hx2⟩ : ∃ x, x = at0 D 2 := ⟨_, rfl⟩
        have hI3 := HI.out 3 (by omega)
        rw [← hx0, ← hx1, ← hx2] at hI3 hT
        have HT := Lib.hid hT
        have HI3 := Lib.hid hI3
        clear hF hT hx0 hx1 hx2 hI3 c0 c1 z0 z1 hS hDD hD5
        go_wp2_with fail
        refine (clone_any ⟨w.heap.size + 1, 0, none⟩ 5 [x0, x1, x2] _ HI3.out (by simp)).mono ?_
        rintro e W1 ⟨v, rfl, f1, y1⟩
        obtain ⟨av, cv, rfl⟩ := f1.form
        obtain ⟨⟨c0, c1⟩, z0, z1⟩ := HO.out.ext y1
        have hy := hx.trans y1
        have F := Lib.hid f1
        clear f1 y1
        go_wp2
        refine bodyPost_ret (v := .agg #[.int .i64 S, .slice av 3 cv]) (by simp [results, Try.results91, go_sem, c0, c1]) rfl ⟨_, by rw [HS0.out], ?_, (hy.setc (Nat.le_refl _)).setc (Nat.le_refl _)⟩
        have hB : w.heap.size < wr.heap.size := by omega
        have F2 := (F.out.set w.heap.size 0 (.int .i64 S) hB).set w.heap.size 1 (.slice av 3 cv) hB
        rw [← HD0.out, HT.out]
        exact F2.more (Nat.le_of_lt hB)
      · have hT : List.take (5 : Int).toNat D = [at0 D 0, at0 D 1, at0 D 2, at0 D 3, at0 D 4] := by rw [hD5]; rfl
        obtain ⟨x0, hx0⟩ : ∃ x, x = at0 D 0 := ⟨_, rfl⟩
        obtain ⟨x1, hx1⟩ : ∃ x, x = at0 D 1 := ⟨_, rfl⟩
        obtain ⟨x2, hx2⟩ : ∃ x, x = at0 D 2 := ⟨_, rfl⟩
        obtain ⟨x3, hx3⟩ : ∃ x, x = at0 D 3 := ⟨_, rfl⟩
        obtain ⟨x4, hx4⟩ : ∃ x, x = at0 D 4 := ⟨_, rfl⟩
        have hI3 := HI.out 5 (by omega)
        rw [← hx0, ← hx1, ← hx2, ← hx3, ← hx4] at hI3 hT
        have HT := Lib.hid hT
        have HI3 := Lib.hid hI3
        clear hF hT hx0 hx1 hx2 hx3 hx4 hI3 c0 c1 z0 z1 hS hDD hD5
        go_wp2_with fail
        refine (clone_any ⟨w.heap.size + 1, 0, none⟩ 5 [x0, x1, x2, x3, x4] _ HI3.out (by simp)).mono ?_
        rintro e W1 ⟨v, rfl, f1, y1⟩
        obtain ⟨av, cv, rfl⟩ := f1.form
        obtain ⟨⟨c0, c1⟩, z0, z1⟩ := HO.out.ext y1
        have hy := hx.trans y1
        have F := Lib.hid f1
        clear f1 y1
        go_wp2
        refine bodyPost_ret (v := .agg #[.int .i64 S, .slice av 5 cv]) (by simp [results, Try.results91, go_sem, c0, c1]) rfl ⟨_, by rw [HS0.out], ?_, (hy.setc (Nat.le_refl _)).setc (Nat.le_refl _)⟩
        have hB : w.heap.size < wr.heap.size := by omega
        have F2 := (F.out.set w.heap.size 0 (.int .i64 S) hB).set w.heap.size 1 (.slice av 5 cv) hB
        rw [← HD0.out, HT.out]
        exact F2.more (Nat.le_of_lt hB)

end Go.Proofs.Ytjkmhphnefpdoaa
