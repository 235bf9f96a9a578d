/- Texts of this proof, part e: words, plain facts, contracts. -/
import Derived.Test.YtfffddhfagibpaaMPlayCmdsa
import Derived.Test.YtfffddhfagibpaaMPlayCmdsb
import Derived.Test.YtfffddhfagibpaaMPlayCmdsd
import Derived.Test.YtfffddhfagibpaaMPlayCmdsc
import Derived.BigRegion

namespace Go.Proofs.Ytfffddhfagibpaa
open Go.RowKit
set_option linter.unusedVariables false

structure CmdD where
  k : Int
  i : Int
  f : Int
  t : Int
  a : Int
def cdVs (d : CmdD) : List Value := [.int .i64 d.k, .int .i64 d.i, .int .i64 d.f, .int .i64 d.t, .int .i64 d.a]
theorem cdVs_len (d : CmdD) : (cdVs d ).length = 5 := rfl
def CdIn (w : World) (b o : Nat) (d : CmdD) : Prop := ∀ j v, (cdVs d )[j]? = some v → w.cell? ⟨b, o + j, none⟩ = some v
theorem CdIn.ext {w w' : World} {b o : Nat} {d : CmdD} (h : CdIn w b o d ) (e : Ext w w') : CdIn w' b o d  := fun j v hj => e.cell (h j v hj)
theorem cdIn_cells {w : World} {b o : Nat} {d : CmdD} (h : CdIn w b o d ) :
    w.cell? ⟨b, o, none⟩ = some (.int .i64 d.k) ∧ w.cell? ⟨b, o + 1, none⟩ = some (.int .i64 d.i) ∧ w.cell? ⟨b, o + 2, none⟩ = some (.int .i64 d.f) ∧ w.cell? ⟨b, o + 3, none⟩ = some (.int .i64 d.t) ∧ w.cell? ⟨b, o + 4, none⟩ = some (.int .i64 d.a) :=
  ⟨h 0 _ rfl, h 1 _ rfl, h 2 _ rfl, h 3 _ rfl, h 4 _ rfl⟩
theorem cd_cells {w : World} {b : Nat} {d : CmdD} (h : BoxV w b (cdVs d )) :
    w.cell? ⟨b, 0, none⟩ = some (.int .i64 d.k) ∧ w.cell? ⟨b, 1, none⟩ = some (.int .i64 d.i) ∧ w.cell? ⟨b, 2, none⟩ = some (.int .i64 d.f) ∧ w.cell? ⟨b, 3, none⟩ = some (.int .i64 d.t) ∧ w.cell? ⟨b, 4, none⟩ = some (.int .i64 d.a) :=
  ⟨h.cell 0 _ rfl, h.cell 1 _ rfl, h.cell 2 _ rfl, h.cell 3 _ rfl, h.cell 4 _ rfl⟩
theorem cd_box (w : World) (T : TypeId) (d : CmdD) : BoxV (w.alloc (.cells #[.int .i64 d.k, .int .i64 d.i, .int .i64 d.f, .int .i64 d.t, .int .i64 d.a] T)) w.heap.size (cdVs d ) := boxV_new w (cdVs d ) T
/-- v is a slice that reads as L in w. -/
def Cdz (w : World) (v : Value) (L : List CmdD) : Prop :=
  ∃ ao cap, v = .slice ao L.length cap ∧ L.length ≤ maxLen ∧ (L.length ≤ cap ∧ cap ≤ maxLen ∧ (ao = none → cap = 0)) ∧
    (0 < L.length → ∃ b off, ao = some ⟨b, off, none⟩ ∧ ∀ j (h : j < L.length), CdIn w b (off + j * 5) L[j] )
theorem Cdz.ext {w w' : World} {v : Value} {L : List CmdD} (h : Cdz w v L) (e : Ext w w') : Cdz w' v L := by
  obtain ⟨ao, cap, hv, hm, hcap, hc⟩ := h
  refine ⟨ao, cap, hv, hm, hcap, fun hp => ?_⟩
  obtain ⟨b, off, ha, hc⟩ := hc hp
  refine ⟨b, off, ha, fun j hj => ?_⟩
  have hu := hc j hj
  exact hu.ext e
theorem Cdz.nil (w : World) : Cdz w (.slice none 0 0) [] := ⟨none, 0, rfl, by simp, ⟨by simp, by simp, fun _ => rfl⟩, fun h => by simp at h⟩
def bulk1Cd (d : CmdD) : Nat := 0
def weighCd (L : List CmdD) : List Nat := L.map bulk1Cd
theorem weighCd_len (L : List CmdD) : (weighCd L).length = L.length := by simp [weighCd]
theorem weighCd_get {L : List CmdD} {k : Nat} (h : k < L.length) : (weighCd L)[k]'(by rw [weighCd_len]; exact h) = bulk1Cd L[k] := by simp [weighCd]
def bulkCd (L : List CmdD) : Nat := L.length + (weighCd L).sum
theorem bulkCd_at {L : List CmdD} {j : Nat} (h : j < L.length) : bulk1Cd L[j] ≤ bulkCd L := by
  unfold bulkCd weighCd
  have := len_le_sum (L.map bulk1Cd) _ (List.mem_map.2 ⟨L[j], List.getElem_mem h, rfl⟩)
  omega
/-- From o on the list xs has the cells of the element. -/
def XCd (xs : List Value) (o : Nat) (d : CmdD) : Prop := ∀ q v, (cdVs d )[q]? = some v → xs[o + q]? = some v
theorem cd_lt {d : CmdD} {v : Value} {q : Nat} (h : (cdVs d )[q]? = some v) : q < 5 := by
  have := (List.getElem?_eq_some_iff.1 h).1
  rwa [cdVs_len] at this
theorem XCd.put_other {xs vs : List Value} {o p : Nat} {d : CmdD} (h : XCd xs o d ) (hv : vs.length = 5) (hap : o + 5 ≤ p ∨ p + 5 ≤ o) : XCd (putL xs p vs) o d  := by
  intro q v hq
  have := cd_lt hq
  rw [putL_out _ _ _ _ (by omega)]
  exact h q v hq
theorem XCd.put {xs : List Value} {o : Nat} {d : CmdD} (h : o + 5 ≤ xs.length) : XCd (putL xs o (cdVs d )) o d  := by
  intro q v hq
  have := cd_lt hq
  rw [putL_in _ o xs q (by rw [cdVs_len]; exact this) (by rw [cdVs_len]; exact h)]
  exact hq
theorem XCd.isIn {w : World} {b o : Nat} {xs : List Value} {d : CmdD} (h : BoxV w b xs) (hx : XCd xs o d ) : CdIn w b o d  := fun q v hq => h.cell _ _ (hx q v hq)
/-- The first k stand in the block's cells xs. -/
def CdsTo (xs : List Value) (L : List CmdD) (k : Nat) : Prop := ∀ j (h : j < L.length), j < k → XCd xs (j * 5) L[j]
theorem CdsTo.put {k : Nat} {xs : List Value} {L : List CmdD} (h : CdsTo xs L k) (hk : k < L.length) (hl : xs.length = L.length * 5) : CdsTo (putL xs (k * 5) (cdVs L[k])) L (k + 1) := by
  intro j hj hjk
  by_cases e : j = k
  · subst e
    exact XCd.put (by omega)
  · exact XCd.put_other (h j hj (by omega)) (cdVs_len _) (by omega)
/-- v is a slice of such in a block from lo on, below hi, that may be written. -/
def CdzM (lo hi : Nat) (w : World) (v : Value) (L : List CmdD) : Prop :=
  ∃ g xs, lo ≤ g ∧ g < hi ∧ v = .slice (some ⟨g, 0, none⟩) L.length L.length ∧ L.length ≤ maxLen ∧ BoxV w g xs ∧ xs.length = L.length * 5 ∧ CdsTo xs L L.length
theorem CdzM.reads {lo hi : Nat} {w : World} {v : Value} {L : List CmdD} (h : CdzM lo hi w v L) : Cdz w v L := by
  obtain ⟨g, xs, _, _, rfl, hm, hb, _, hc⟩ := h
  refine ⟨some ⟨g, 0, none⟩, _, rfl, hm, ⟨Nat.le_refl _, hm, fun h => by cases h⟩, fun _ => ⟨g, 0, rfl, fun j hj => ?_⟩⟩
  have a := hc j hj hj
  rw [Nat.zero_add]; exact XCd.isIn hb a
theorem CdzM.kept {lo hi : Nat} {w w' : World} {v : Value} {L : List CmdD} (h : CdzM lo hi w v L) (s : Stood lo hi w w') : CdzM lo hi w' v L := by
  obtain ⟨g, xs, hg, hh, hv, hm, hb, hl, hc⟩ := h
  exact ⟨g, xs, hg, hh, hv, hm, hb.kept s hg hh, hl, hc⟩
theorem CdzM.more {lo lo' hi hi' : Nat} {w : World} {v : Value} {L : List CmdD} (h : CdzM lo hi w v L) (h1 : lo' ≤ lo) (h2 : hi ≤ hi') : CdzM lo' hi' w v L := by
  obtain ⟨g, xs, hg, hh, r⟩ := h
  exact ⟨g, xs, Nat.le_trans h1 hg, Nat.lt_of_lt_of_le hh h2, r⟩
theorem CdzM.form {lo hi : Nat} {w : World} {v : Value} {L : List CmdD} (h : CdzM lo hi w v L) : ∃ a c, v = .slice a L.length c := by
  obtain ⟨g, _, _, _, hv, _⟩ := h
  exact ⟨_, _, hv⟩
def NewCdS (L : List CmdD) (w : World) (e : Ending) (w' : World) : Prop := ∃ v, e = .returned v ∧ CdzM w.heap.size w'.heap.size w' v L ∧ Ext w w'
theorem setCells_cd (w : World) (g o : Nat) (d : CmdD) :
    w.setCells g o (cdVs d ) = (((((w.setCell ⟨g, o, none⟩ (.int .i64 d.k)).setCell ⟨g, o + 1, none⟩ (.int .i64 d.i)).setCell ⟨g, o + 2, none⟩ (.int .i64 d.f)).setCell ⟨g, o + 3, none⟩ (.int .i64 d.t)).setCell ⟨g, o + 4, none⟩ (.int .i64 d.a)) := rfl
end Go.Proofs.Ytfffddhfagibpaa

namespace Go.Proofs.Ytfffddhfagibpaa
open Go.Joins Go.ChangeShapes Go.WideShapes Go.RowKit Go.Deep
set_option linter.unusedVariables false
variable {H : Type} {enc : TypeId × Value → H} {w : World} {base : Nat} {held : Bool}

set_option maxRecDepth 100000 in
theorem cells_cmd1 {fuel : Nat} {cs : List Value} {y : DataW H × List MemPlace} (h : DataW.trod enc Try.prog w base (fun _ => true) held fuel 30 cs = some y) :
    ∃ (d : CmdD), cs = cdVs d := by
  obtain ⟨xs, n, _, hx, hlen, hxl, hg⟩ := DataW.trod_struct Try.underlying30 h
  have q : Try.prog.cellsOf 3 = 1 := by kernel_rfl
  match cs, hlen.trans (show Try.prog.cellsOf 30 = 5 by kernel_rfl) with
  | [c0, c1, c2, c3, c4], _ =>
    match xs, hxl with
    | [y0, y1, y2, y3, y4], _ =>
      obtain ⟨n0, e0, _, _⟩ := DataW.trod_int Try.underlying3 (by simpa [Value.cells, q] using hg 0 _ rfl)
      obtain ⟨n1, e1, _, _⟩ := DataW.trod_int Try.underlying3 (by simpa [Value.cells, q] using hg 1 _ rfl)
      obtain ⟨n2, e2, _, _⟩ := DataW.trod_int Try.underlying3 (by simpa [Value.cells, q] using hg 2 _ rfl)
      obtain ⟨n3, e3, _, _⟩ := DataW.trod_int Try.underlying3 (by simpa [Value.cells, q] using hg 3 _ rfl)
      obtain ⟨n4, e4, _, _⟩ := DataW.trod_int Try.underlying3 (by simpa [Value.cells, q] using hg 4 _ rfl)
      simp only [List.cons.injEq, and_true] at e0 e1 e2 e3 e4
      subst e0 e1 e2 e3 e4
      exact ⟨⟨n0, n1, n2, n3, n4⟩, rfl⟩

set_option maxRecDepth 100000 in
theorem cells_cmds {fuel : Nat} {c : Value} {y : DataW H × List MemPlace} (h : DataW.trod enc Try.prog w base (fun _ => true) held fuel 39 [c] = some y) : ∃ L, Cdz w c L := by
  rcases open_slice Try.underlying39 h with ⟨hcs, _⟩ | ⟨a, len, cap', cap, n, D, Pl, hcs, _, hl, hm, hmm, _, hi⟩
  · simp at hcs
    subst hcs
    exact ⟨[], Cdz.nil w⟩
  · simp at hcs hmm
    subst hcs hmm
    have q : Try.prog.cellsOf 30 = 5 := by kernel_rfl
    rw [q] at hi
    have hr : ∀ i, i < cap → ∃ ru : CmdD, (∀ j, j < 5 → w.cell? ((a.add (i * 5)).add j) = (cdVs ru )[j]?) := fun i hic => by
      obtain ⟨cs', h1, h2⟩ := hi i hic
      obtain ⟨_, _, hat⟩ := World.cells?_some h1
      obtain ⟨d, rfl⟩ := cells_cmd1 h2
      exact ⟨d, hat⟩
    have hinh : ∀ i, ∃ ru : CmdD, i < cap → ((∀ j, j < 5 → w.cell? ((a.add (i * 5)).add j) = (cdVs ru )[j]?)) := fun i => by
      by_cases hic : i < cap
      · obtain ⟨ru, h⟩ := hr i hic
        exact ⟨ru, fun _ => h⟩
      · exact ⟨⟨0, 0, 0, 0, 0⟩, fun h => absurd h hic⟩
    have hF := Classical.axiomOfChoice hinh
    obtain ⟨F, hF⟩ := hF
    have hlen : ((List.range len).map fun i => (F i)).length = len := by simp
    refine ⟨(List.range len).map fun i => (F i), some a, cap, by rw [hlen], by omega, ⟨by omega, hm, fun h => by cases h⟩, fun hp => ?_⟩
    rw [hlen] at hp
    have h0 := hF 0 (by omega) 0 (by omega)
    obtain ⟨b, off, rfl⟩ : ∃ b off, a = ⟨b, off, none⟩ := by
      rw [Go.Deep.add_add] at h0
      exact spot_none (v := .int .i64 (F 0).k) h0
    refine ⟨b, off, rfl, fun j hj => ?_⟩
    · rw [hlen] at hj
      have e : ((List.range len).map fun i => (F i))[j]'(by rw [hlen]; exact hj) = (F j) := by simp
      rw [e]
      have hc := hF j (by omega)
      have ha : ∀ t, (((⟨b, off, none⟩ : Addr).add (j * 5)).add t) = ⟨b, off + j * 5 + t, none⟩ := fun t => by
        rw [Go.Deep.add_add, Go.WideShapes.add_plain, Nat.add_assoc]
      simp only [ha] at hc
      intro i v hv
      have hi16 : i < 5 := (List.getElem?_eq_some_iff.1 hv).1
      rw [hc i hi16]
      exact hv

set_option maxRecDepth 100000 in
theorem open_cmdS {r : Go.Reach} {b0 : Nat} {v : Value} {d : DataW H} {p : List MemPlace}
    (hv : Value.okWide Try.prog w r b0 39 v) (h : DataW.Trod enc Try.prog w base (fun _ => true) held 39 v d p) : ∃ R, Cdz w v R := by
  obtain ⟨a, len, cap, rfl⟩ := okWide_slice Try.underlying39 hv
  obtain ⟨fuel, hf⟩ := h
  exact cells_cmds (by simpa [Value.cells] using hf)
end Go.Proofs.Ytfffddhfagibpaa

namespace Go.Proofs.Ytfffddhfagibpaa
open Go.RowKit
set_option linter.unusedVariables false

structure TldD where
  c : Int
  s : Int
def tdVs (d : TldD) : List Value := [.int .i64 d.c, .int .i64 d.s]
theorem tdVs_len (d : TldD) : (tdVs d ).length = 2 := rfl
def TdIn (w : World) (b o : Nat) (d : TldD) : Prop := ∀ j v, (tdVs d )[j]? = some v → w.cell? ⟨b, o + j, none⟩ = some v
theorem TdIn.ext {w w' : World} {b o : Nat} {d : TldD} (h : TdIn w b o d ) (e : Ext w w') : TdIn w' b o d  := fun j v hj => e.cell (h j v hj)
theorem tdIn_cells {w : World} {b o : Nat} {d : TldD} (h : TdIn w b o d ) :
    w.cell? ⟨b, o, none⟩ = some (.int .i64 d.c) ∧ w.cell? ⟨b, o + 1, none⟩ = some (.int .i64 d.s) :=
  ⟨h 0 _ rfl, h 1 _ rfl⟩
theorem td_cells {w : World} {b : Nat} {d : TldD} (h : BoxV w b (tdVs d )) :
    w.cell? ⟨b, 0, none⟩ = some (.int .i64 d.c) ∧ w.cell? ⟨b, 1, none⟩ = some (.int .i64 d.s) :=
  ⟨h.cell 0 _ rfl, h.cell 1 _ rfl⟩
theorem td_box (w : World) (T : TypeId) (d : TldD) : BoxV (w.alloc (.cells #[.int .i64 d.c, .int .i64 d.s] T)) w.heap.size (tdVs d ) := boxV_new w (tdVs d ) T
/-- v is a slice that reads as L in w. -/
def Tdz (w : World) (v : Value) (L : List TldD) : Prop :=
  ∃ ao cap, v = .slice ao L.length cap ∧ L.length ≤ maxLen ∧ (L.length ≤ cap ∧ cap ≤ maxLen ∧ (ao = none → cap = 0)) ∧
    (0 < L.length → ∃ b off, ao = some ⟨b, off, none⟩ ∧ ∀ j (h : j < L.length), TdIn w b (off + j * 2) L[j] )
theorem Tdz.ext {w w' : World} {v : Value} {L : List TldD} (h : Tdz w v L) (e : Ext w w') : Tdz w' v L := by
  obtain ⟨ao, cap, hv, hm, hcap, hc⟩ := h
  refine ⟨ao, cap, hv, hm, hcap, fun hp => ?_⟩
  obtain ⟨b, off, ha, hc⟩ := hc hp
  refine ⟨b, off, ha, fun j hj => ?_⟩
  have hu := hc j hj
  exact hu.ext e
theorem Tdz.nil (w : World) : Tdz w (.slice none 0 0) [] := ⟨none, 0, rfl, by simp, ⟨by simp, by simp, fun _ => rfl⟩, fun h => by simp at h⟩
def bulk1Td (d : TldD) : Nat := 0
def weighTd (L : List TldD) : List Nat := L.map bulk1Td
theorem weighTd_len (L : List TldD) : (weighTd L).length = L.length := by simp [weighTd]
theorem weighTd_get {L : List TldD} {k : Nat} (h : k < L.length) : (weighTd L)[k]'(by rw [weighTd_len]; exact h) = bulk1Td L[k] := by simp [weighTd]
def bulkTd (L : List TldD) : Nat := L.length + (weighTd L).sum
theorem bulkTd_at {L : List TldD} {j : Nat} (h : j < L.length) : bulk1Td L[j] ≤ bulkTd L := by
  unfold bulkTd weighTd
  have := len_le_sum (L.map bulk1Td) _ (List.mem_map.2 ⟨L[j], List.getElem_mem h, rfl⟩)
  omega
/-- From o on the list xs has the cells of the element. -/
def XTd (xs : List Value) (o : Nat) (d : TldD) : Prop := ∀ q v, (tdVs d )[q]? = some v → xs[o + q]? = some v
theorem td_lt {d : TldD} {v : Value} {q : Nat} (h : (tdVs d )[q]? = some v) : q < 2 := by
  have := (List.getElem?_eq_some_iff.1 h).1
  rwa [tdVs_len] at this
theorem XTd.put_other {xs vs : List Value} {o p : Nat} {d : TldD} (h : XTd xs o d ) (hv : vs.length = 2) (hap : o + 2 ≤ p ∨ p + 2 ≤ o) : XTd (putL xs p vs) o d  := by
  intro q v hq
  have := td_lt hq
  rw [putL_out _ _ _ _ (by omega)]
  exact h q v hq
theorem XTd.put {xs : List Value} {o : Nat} {d : TldD} (h : o + 2 ≤ xs.length) : XTd (putL xs o (tdVs d )) o d  := by
  intro q v hq
  have := td_lt hq
  rw [putL_in _ o xs q (by rw [tdVs_len]; exact this) (by rw [tdVs_len]; exact h)]
  exact hq
theorem XTd.isIn {w : World} {b o : Nat} {xs : List Value} {d : TldD} (h : BoxV w b xs) (hx : XTd xs o d ) : TdIn w b o d  := fun q v hq => h.cell _ _ (hx q v hq)
/-- The first k stand in the block's cells xs. -/
def TdsTo (xs : List Value) (L : List TldD) (k : Nat) : Prop := ∀ j (h : j < L.length), j < k → XTd xs (j * 2) L[j]
theorem TdsTo.put {k : Nat} {xs : List Value} {L : List TldD} (h : TdsTo xs L k) (hk : k < L.length) (hl : xs.length = L.length * 2) : TdsTo (putL xs (k * 2) (tdVs L[k])) L (k + 1) := by
  intro j hj hjk
  by_cases e : j = k
  · subst e
    exact XTd.put (by omega)
  · exact XTd.put_other (h j hj (by omega)) (tdVs_len _) (by omega)
/-- v is a slice of such in a block from lo on, below hi, that may be written. -/
def TdzM (lo hi : Nat) (w : World) (v : Value) (L : List TldD) : Prop :=
  ∃ g xs, lo ≤ g ∧ g < hi ∧ v = .slice (some ⟨g, 0, none⟩) L.length L.length ∧ L.length ≤ maxLen ∧ BoxV w g xs ∧ xs.length = L.length * 2 ∧ TdsTo xs L L.length
theorem TdzM.reads {lo hi : Nat} {w : World} {v : Value} {L : List TldD} (h : TdzM lo hi w v L) : Tdz w v L := by
  obtain ⟨g, xs, _, _, rfl, hm, hb, _, hc⟩ := h
  refine ⟨some ⟨g, 0, none⟩, _, rfl, hm, ⟨Nat.le_refl _, hm, fun h => by cases h⟩, fun _ => ⟨g, 0, rfl, fun j hj => ?_⟩⟩
  have a := hc j hj hj
  rw [Nat.zero_add]; exact XTd.isIn hb a
theorem TdzM.kept {lo hi : Nat} {w w' : World} {v : Value} {L : List TldD} (h : TdzM lo hi w v L) (s : Stood lo hi w w') : TdzM lo hi w' v L := by
  obtain ⟨g, xs, hg, hh, hv, hm, hb, hl, hc⟩ := h
  exact ⟨g, xs, hg, hh, hv, hm, hb.kept s hg hh, hl, hc⟩
theorem TdzM.more {lo lo' hi hi' : Nat} {w : World} {v : Value} {L : List TldD} (h : TdzM lo hi w v L) (h1 : lo' ≤ lo) (h2 : hi ≤ hi') : TdzM lo' hi' w v L := by
  obtain ⟨g, xs, hg, hh, r⟩ := h
  exact ⟨g, xs, Nat.le_trans h1 hg, Nat.lt_of_lt_of_le hh h2, r⟩
theorem TdzM.form {lo hi : Nat} {w : World} {v : Value} {L : List TldD} (h : TdzM lo hi w v L) : ∃ a c, v = .slice a L.length c := by
  obtain ⟨g, _, _, _, hv, _⟩ := h
  exact ⟨_, _, hv⟩
def NewTdS (L : List TldD) (w : World) (e : Ending) (w' : World) : Prop := ∃ v, e = .returned v ∧ TdzM w.heap.size w'.heap.size w' v L ∧ Ext w w'
theorem setCells_td (w : World) (g o : Nat) (d : TldD) :
    w.setCells g o (tdVs d ) = ((w.setCell ⟨g, o, none⟩ (.int .i64 d.c)).setCell ⟨g, o + 1, none⟩ (.int .i64 d.s)) := rfl
end Go.Proofs.Ytfffddhfagibpaa

namespace Go.Proofs.Ytfffddhfagibpaa
open Go.RowKit
set_option linter.unusedVariables false

/-- Whether sums are good: four of them, none below 0 or above all, 400 together. -/
def goodS (l : List Int) : Bool := decide (l.length = 4) && (allIn l 0 400 && decide (l.sum = 400))

theorem sum_take_succ {l : List Int} {k : Nat} (h : k < l.length) : (l.take (k + 1)).sum = (l.take k).sum + l[k] := by
  rw [List.take_add_one, List.getElem?_eq_getElem h, List.sum_append]; simp
theorem allIn_take_succ {l : List Int} {k : Nat} (h : k < l.length) {lo hi : Int} (ht : allIn (l.take k) lo hi = true) (hp : inB l[k] lo hi = true) : allIn (l.take (k + 1)) lo hi = true :=
  all_take_succ h _ ht (by simpa [h] using hp)
theorem sum_bounds (l : List Int) (h : allIn l 0 400 = true) : 0 ≤ l.sum ∧ l.sum ≤ 400 * l.length := by
  induction l with
  | nil => simp
  | cons a r ih =>
    have h1 : (inB a 0 400 && allIn r 0 400) = true := h
    obtain ⟨ha, hr⟩ := (Bool.and_eq_true _ _ ▸ h1 : inB a 0 400 = true ∧ allIn r 0 400 = true)
    have h2 := ih hr
    have h3 : 0 ≤ a ∧ a ≤ 400 := by simpa [inB] using ha
    rw [List.sum_cons, List.length_cons]
    omega
theorem sum_drop (l : List Int) (k : Nat) : l.sum = (l.take k).sum + (l.drop k).sum := by
  conv => lhs; rw [← List.take_append_drop k l]
  rw [List.sum_append]
theorem allIn_drop {l : List Int} {lo hi : Int} (h : allIn l lo hi = true) (k : Nat) : allIn (l.drop k) lo hi = true := by
  unfold allIn at *
  rw [List.all_eq_true] at *
  exact fun x hx => h x (List.mem_of_mem_drop hx)
theorem goodS_len {l : List Int} (h : l.length ≠ 4) : goodS l = false := by simp [goodS, h]
theorem goodS_out {l : List Int} {k : Nat} (h : k < l.length) (hp : inB l[k] 0 400 = false) : goodS l = false := by
  have : allIn l 0 400 = false := all_false_at h _ (by simpa [h] using hp)
  simp [goodS, this]
/-- A sum above what is left of the whole is too much. -/
theorem goodS_over {l : List Int} {k : Nat} (h : k < l.length) (ht : allIn (l.take k) 0 400 = true) (hp : 400 - (l.take k).sum < l[k]) : goodS l = false := by
  cases ha : allIn l 0 400 with
  | false => simp [goodS, ha]
  | true =>
    have h1 := sum_drop l (k + 1)
    rw [sum_take_succ h] at h1
    have h2 := (sum_bounds _ (allIn_drop ha (k + 1))).1
    have h3 : l.sum ≠ 400 := by omega
    simp [goodS, h3]
theorem goodS_get {l : List Int} (h : goodS l = true) : l.length = 4 ∧ allIn l 0 400 = true ∧ l.sum = 400 := by
  simpa [goodS] using h

set_option maxHeartbeats 1000000 in
theorem specGoodSums_any (v : Value) (l : List Int) (w : World) (hv : Ints w v l) (hs : l.length ≤ 1099511627776) :
    Calls Try.prog 10 #[v] w (BoolExt (goodS l) w) := by
  obtain ⟨av, cv, rfl, hlv, _, hcv⟩ := hv
  clear hlv
  go_enter Try.func10, Try.ntmps10
  go_wp2
  go_loopw [3, 5, 8] (fun n _ i wr => ∃ k : Nat, k ≤ l.length ∧ i = .int .i64 k ∧ n = .int .i64 (l.take k).sum ∧ allIn (l.take k) 0 400 = true ∧ Ext w wr) (fun _ _ i _ => l.length - (intOf i).toNat)
  case atStart => exact ⟨0, Nat.zero_le _, rfl, rfl, rfl, Ext.refl _⟩
  case round =>
    obtain ⟨k, hk, rfl, rfl, ht, hx⟩ := hrel
    have hb := sum_bounds _ ht
    rw [List.length_take] at hb
    have hb1 : 0 ≤ (l.take k).sum := hb.1
    have hb2 : (l.take k).sum ≤ 400 * 1099511627776 := by have := hb.2; omega
    have HT := Lib.hid ht
    clear ht hb
    by_cases hlt : k < l.length
    · obtain ⟨bv, ov, rfl, dv⟩ := hcv (by omega)
      have gv := hx.cell (dv k hlt)
      clear hcv dv
      cases hp : inB l[k] 0 400 with
      | true =>
        have hp2 : 0 ≤ l[k] ∧ l[k] ≤ 400 := by simpa [inB] using hp
        have hs1 := sum_take_succ hlt
        obtain ⟨n, hn⟩ : ∃ n, n = (l.take k).sum := ⟨_, rfl⟩
        rw [← hn] at hb1 hb2 hs1 ⊢
        have HS := Lib.hid hs1
        have HP := Lib.hid hp2
        have HN := Lib.hid hn
        have HW := Lib.hid (show wrap64 (n + l[k]) = n + l[k] by unfold wrap64; omega)
        clear hs1 hp2 hn
        go_wp2_with (go_at_call 46; refine (l1In_any _ _ _ _).mono ?_; rintro e w' ⟨rfl, rfl⟩)
        go_roundw
        case rel => exact ⟨k + 1, by omega, by go_num, by rw [HS.out] <;> (first | rfl | simp only [HW.out]), allIn_take_succ hlt HT.out hp, hx⟩
        case measure => simp [intOf]; omega
      | false =>
        go_wp2_with (go_at_call 46; refine (l1In_any _ _ _ _).mono ?_; rintro e w' ⟨rfl, rfl⟩)
        go_ret
        refine ⟨?_, hx⟩
        rw [goodS_out hlt hp]; rfl
    · obtain rfl : k = l.length := by omega
      have ht : allIn l 0 400 = true := by have h := HT.out; rwa [List.take_length] at h
      rw [List.take_length]
      obtain ⟨n, hn⟩ : ∃ n, n = l.sum := ⟨_, rfl⟩
      rw [← hn]
      by_cases h4 : l.length = 4
      · cases h5 : (n == 400) with
        | true =>
          have hg : goodS l = true := by simp at h5; simp [goodS, h4, ht, ← hn, h5]
          have HG := Lib.hid hg
          have e4 : ((l.length : Int) == 4) = true := by simp [h4]
          clear hg ht HT hb1 hb2 hn
          go_wp2
          go_ret
          exact ⟨by rw [HG.out]; rfl, hx⟩
        | false =>
          have hg : goodS l = false := by simp at h5; simp [goodS, ← hn, h5]
          have HG := Lib.hid hg
          have e4 : ((l.length : Int) == 4) = true := by simp [h4]
          clear hg ht HT hb1 hb2 hn
          go_wp2
          go_ret
          exact ⟨by rw [HG.out]; rfl, hx⟩
      · have e4 : ((l.length : Int) == 4) = false := by simp; omega
        have HG := Lib.hid (goodS_len h4)
        clear ht HT hb1 hb2
        go_wp2
        go_ret
        exact ⟨by rw [HG.out]; rfl, hx⟩

set_option maxHeartbeats 1000000 in
theorem implGoodSums_any (v : Value) (l : List Int) (w : World) (hv : Ints w v l) :
    Calls Try.prog 12 #[v] w (BoolExt (goodS l) w) := by
  obtain ⟨av, cv, rfl, hlv, _, hcv⟩ := hv
  clear hlv
  by_cases h4 : l.length = 4
  · have e4 : ((l.length : Int) != 4) = false := by simp [h4]
    go_enter Try.func12, Try.ntmps12
    go_wp2
    go_loopw [3, 5, 11] (fun n _ i wr => ∃ k : Nat, k ≤ l.length ∧ i = .int .i64 k ∧ n = .int .i64 (400 - (l.take k).sum) ∧ allIn (l.take k) 0 400 = true ∧ 0 ≤ 400 - (l.take k).sum ∧ Ext w wr) (fun _ _ i _ => l.length - (intOf i).toNat)
    case atStart => exact ⟨0, Nat.zero_le _, rfl, rfl, rfl, by simp, Ext.refl _⟩
    case round =>
      obtain ⟨k, hk, rfl, rfl, ht, h0, hx⟩ := hrel
      have hb1 : 0 ≤ (l.take k).sum := (sum_bounds _ ht).1
      have HT := Lib.hid ht
      clear ht
      by_cases hlt : k < l.length
      · obtain ⟨bv, ov, rfl, dv⟩ := hcv (by omega)
        have gv := hx.cell (dv k hlt)
        rw [List.getElem?_eq_getElem hlt, Option.getD_some] at gv
        clear hcv dv
        have hs1 := sum_take_succ hlt
        obtain ⟨x, hxx⟩ : ∃ x, x = l[k] := ⟨_, rfl⟩
        obtain ⟨n, hn⟩ : ∃ n, n = 400 - (l.take k).sum := ⟨_, rfl⟩
        have hn4 : n ≤ 400 := by omega
        have HO : n < x → Hid (goodS l = false) := fun h => Lib.hid (goodS_over hlt HT.out (by rw [← hn, ← hxx]; exact h))
        have HN : x < 0 → Hid (goodS l = false) := fun h => Lib.hid (goodS_out hlt (by rw [← hxx]; exact inB_no (by omega)))
        have HS : 0 ≤ x → x ≤ n → Hid (allIn (l.take (k + 1)) 0 400 = true) := fun h h' => Lib.hid (allIn_take_succ hlt HT.out (by rw [← hxx]; exact inB_yes h (by omega)))
        have HE : Hid (n - x = 400 - (l.take (k + 1)).sum) := Lib.hid (by rw [hs1]; omega)
        rw [← hxx] at gv
        rw [← hn] at h0 ⊢
        clear hs1 hxx hn HT hb1
        by_cases hx0 : x < 0
        · have H := HN hx0
          clear HO HN HS HE
          go_wp2
          go_ret
          exact ⟨by rw [H.out]; rfl, hx⟩
        · by_cases hxn : n < x
          · have H := HO hxn
            clear HO HN HS HE
            go_wp2
            go_ret
            exact ⟨by rw [H.out]; rfl, hx⟩
          · have H := HS (by omega) (by omega)
            clear HO HN HS
            go_wp2
            go_roundw
            case rel => exact ⟨k + 1, by omega, by go_num, by rw [← HE.out] <;> go_num, H.out, by rw [← HE.out]; omega, hx⟩
            case measure => simp [intOf]; omega
      · obtain rfl : k = l.length := by omega
        have ht : allIn l 0 400 = true := by have h := HT.out; rwa [List.take_length] at h
        rw [List.take_length] at h0 hb1 ⊢
        obtain ⟨n, hn⟩ : ∃ n, n = 400 - l.sum := ⟨_, rfl⟩
        rw [← hn] at h0 ⊢
        cases h5 : (n == 0) with
        | true =>
          have hg : goodS l = true := by simp at h5; have h6 : l.sum = 400 := by omega
                                         simp [goodS, h4, ht, h6]
          have HG := Lib.hid hg
          clear hg ht HT hb1 h0 hn
          go_wp2
          go_ret
          exact ⟨by rw [HG.out]; rfl, hx⟩
        | false =>
          have hg : goodS l = false := by simp at h5; have h6 : l.sum ≠ 400 := by omega
                                          simp [goodS, h6]
          have HG := Lib.hid hg
          clear hg ht HT hb1 h0 hn
          go_wp2
          go_ret
          exact ⟨by rw [HG.out]; rfl, hx⟩
  · have e4 : ((l.length : Int) != 4) = true := by simp; omega
    have HG := Lib.hid (goodS_len h4)
    clear hcv
    go_enter Try.func12, Try.ntmps12
    go_wp2
    go_ret
    exact ⟨by rw [HG.out]; rfl, Ext.refl _⟩

/-- A number and a Bool come back. -/
def IntB (n : Int) (b : Bool) (w : World) (e : Ending) (w' : World) : Prop := e = .returned (.tuple #[.int .i64 n, .bool b]) ∧ Ext w w'

def totS (l : List Int) : Int := if goodS l then 400 else 0

set_option maxHeartbeats 1000000 in
theorem specTotal_any (v : Value) (l : List Int) (w : World) (hv : Ints w v l) (hs : l.length ≤ 1099511627776) :
    Calls Try.prog 31 #[v] w (IntB (totS l) (goodS l) w) := by
  have HC := Lib.hid (specGoodSums_any v l w hv hs)
  unfold totS
  cases h : goodS l with
  | true =>
    rw [h] at HC
    go_enter Try.func31, Try.ntmps31
    go_wp2_with fail
    refine HC.out.mono ?_
    rintro e w1 ⟨rfl, x1⟩
    go_wp2
    go_ret2
    exact ⟨rfl, x1⟩
  | false =>
    rw [h] at HC
    go_enter Try.func31, Try.ntmps31
    go_wp2_with fail
    refine HC.out.mono ?_
    rintro e w1 ⟨rfl, x1⟩
    go_wp2
    go_ret2
    exact ⟨rfl, x1⟩

set_option maxRecDepth 100000 in
set_option maxHeartbeats 1000000 in
theorem implTotal_any (v : Value) (l : List Int) (w : World) (hv : Ints w v l) :
    Calls Try.prog 32 #[v] w (IntB (totS l) (goodS l) w) := by
  have HC := Lib.hid (implGoodSums_any v l w hv)
  unfold totS
  cases h : goodS l with
  | true =>
    rw [h] at HC
    obtain ⟨h4, ha, h5⟩ := goodS_get h
    have HA := Lib.hid ha
    have H5 := Lib.hid h5
    obtain ⟨av, cv, rfl, hlv, _, hcv⟩ := hv
    have H4 := Lib.hid h4
    have HV := Lib.hid hcv
    clear hlv h ha h5 h4 hcv
    go_enter Try.func32, Try.ntmps32
    go_wp2_with fail
    refine HC.out.mono ?_
    rintro e w1 ⟨rfl, x1⟩
    clear HC
    go_wp2_with fail
    go_loopw [4, 6, 12] (fun n _ i wr => ∃ k : Nat, k ≤ l.length ∧ i = .int .i64 k ∧ n = .int .i64 (l.take k).sum ∧ Ext w wr) (fun _ _ i _ => l.length - (intOf i).toNat)
    case atStart => exact ⟨0, Nat.zero_le _, rfl, rfl, x1⟩
    case round =>
      obtain ⟨k, hk, rfl, rfl, hx⟩ := hrel
      have h4 := H4.out
      by_cases hlt : k < l.length
      · obtain ⟨bv, ov, rfl, dv⟩ := HV.out (by omega)
        have gv := hx.cell (dv k hlt)
        rw [List.getElem?_eq_getElem hlt, Option.getD_some] at gv
        clear HV dv
        have h1 : allIn (l.take k) 0 400 = true := by
          have := HA.out; unfold allIn at *; rw [List.all_eq_true] at *; exact fun x hx => this x (List.mem_of_mem_take hx)
        have h2 := sum_bounds _ h1
        rw [List.length_take] at h2
        have h3 := sum_drop l k
        have h6 := (sum_bounds _ (allIn_drop HA.out k)).1
        have h7 := sum_take_succ hlt
        have h8 : 0 ≤ l[k] ∧ l[k] ≤ 400 := by
          have := (List.all_eq_true.1 HA.out) l[k] (List.getElem_mem hlt)
          simpa [inB] using this
        have h9 := H5.out
        obtain ⟨n, hn⟩ : ∃ n, n = (l.take k).sum := ⟨_, rfl⟩
        obtain ⟨x, hxx⟩ : ∃ x, x = l[k] := ⟨_, rfl⟩
        rw [← hn] at h2 h3 h7 ⊢
        rw [← hxx] at gv h7 h8
        have HS := Lib.hid h7
        have hn1 : 0 ≤ n ∧ n ≤ 1600 := by omega
        have HW := Lib.hid (show wrap64 (n + x) = n + x by unfold wrap64; omega)
        obtain ⟨hn2, hn3⟩ := hn1
        obtain ⟨hx2, hx3⟩ := h8
        clear h1 h2 h3 h6 h7 h9 hn hxx
        go_wp2
        go_roundw
        case rel => exact ⟨k + 1, by omega, by go_num, by rw [HS.out] <;> (first | rfl | simp only [HW.out]), hx⟩
        case measure => simp [intOf]; omega
      · obtain rfl : k = l.length := by omega
        rw [List.take_length, H5.out]
        go_wp2
        go_ret2
        exact ⟨rfl, hx⟩
  | false =>
    rw [h] at HC
    go_enter Try.func32, Try.ntmps32
    go_wp2_with fail
    refine HC.out.mono ?_
    rintro e w1 ⟨rfl, x1⟩
    go_wp2
    go_ret2
    exact ⟨rfl, x1⟩

end Go.Proofs.Ytfffddhfagibpaa

namespace Go.Proofs.Ytfffddhfagibpaa
open Go.RowKit
set_option linter.unusedVariables false

/-- A code and a sum come back; only the list's own block has turned. -/
def DidTo (B : Nat) (u : Value) (l : List Int) (c s : Int) (w : World) (e : Ending) (w' : World) : Prop :=
  e = .returned (.agg #[.int .i64 c, .int .i64 s]) ∧ Fresh B w' u l ∧ w.grownBy w' u.ownBlock

theorem fresh_at {B : Nat} {w : World} {u : Value} {l : List Int} (hf : Fresh B w u l) (h4 : l.length = 4) : ∃ g cap, u = .slice (some ⟨g, 0, none⟩) 4 cap ∧ B ≤ g ∧ g < w.heap.size := by
  rcases hf.2 with ⟨rfl, hn⟩ | ⟨g, cap, cur, rfl, hb, hg, _⟩
  · omega
  · rw [h4]
    exact ⟨g, cap, rfl, hb, (Array.getElem?_eq_some_iff.1 hg).1⟩
theorem fresh_own {B g cap : Nat} {w : World} {l : List Int} (hf : Fresh B w (.slice (some ⟨g, 0, none⟩) 4 cap) l) (h4 : l.length = 4) :
    w.ownsRow B 3 1 (.slice (some ⟨g, 0, none⟩) 4 cap) 4 (l.map (Value.int .i64)) := by
  unfold Fresh at hf
  rw [h4] at hf
  exact hf
theorem fresh_cell {B g cap F : Nat} {w : World} {l : List Int} {x : Int} (hf : Fresh B w (.slice (some ⟨g, 0, none⟩) 4 cap) l) (h4 : l.length = 4) (hx : l[F]? = some x) : w.cell? ⟨g, F, none⟩ = some (.int .i64 x) := by
  have hF := (List.getElem?_eq_some_iff.1 hx).1
  have h := World.ownsRow.cellAt (fresh_own hf h4) F (by omega)
  rw [h]
  simp [hx]
theorem fresh_frozen {B g cap : Nat} {w : World} {l : List Int} (hf : Fresh B w (.slice (some ⟨g, 0, none⟩) 4 cap) l) (h4 : l.length = 4) (F : Nat) : w.frozen? ⟨g, F, none⟩ = false := World.ownsRow.frozenAt (fresh_own hf h4) F
theorem fresh_put {B g cap : Nat} {w : World} {l : List Int} (hf : Fresh B w (.slice (some ⟨g, 0, none⟩) 4 cap) l) (h4 : l.length = 4) (F : Nat) (y : Int) :
    Fresh B (w.setCell ⟨g, F, none⟩ (.int .i64 y)) (.slice (some ⟨g, 0, none⟩) 4 cap) (l.set F y) ∧ w.grownBy (w.setCell ⟨g, F, none⟩ (.int .i64 y)) (some g) := by
  have h := World.ownsRow.stored (fresh_own hf h4) F (.int .i64 y)
  refine ⟨?_, h.2⟩
  unfold Fresh
  rw [List.length_set, h4, List.map_set]
  exact h.1

theorem fresh_other {B g cap : Nat} {w : World} {l : List Int} (hf : Fresh B w (.slice (some ⟨g, 0, none⟩) 4 cap) l) (b o : Nat) (v : Value) (hb : g ≠ b) : Fresh B (w.setCell ⟨b, o, none⟩ v) (.slice (some ⟨g, 0, none⟩) 4 cap) l := by
  refine ⟨hf.1, ?_⟩
  rcases hf.2 with ⟨h, _⟩ | ⟨g', cap', cur, h, hb', hg, rest⟩
  · cases h
  · injection h with h1 h2 h3
    injection h1 with h1
    injection h1 with h1
    subst h1
    exact .inr ⟨g, cap', cur, by rw [← h2, ← h3], hb', (Below.heap_setCell _ _ _ g hb).trans hg, rest⟩
theorem grown_put {w w1 : World} {r : Option Nat} (h : w.grownBy w1 r) (b o : Nat) (v : Value) (hb : w.heap.size ≤ b ∨ some b = r) : w.grownBy (w1.setCell ⟨b, o, none⟩ v) r := by
  have q : Below 0 w1 (w1.setCell ⟨b, o, none⟩ v) := Below.setCell (Below.refl _ _) (Nat.zero_le _) _
  refine ⟨q.os.trans h.os, q.tape.trans h.tape, q.output.trans h.output, Nat.le_trans h.size q.size, fun k hk hne => ?_⟩
  refine (Below.heap_setCell _ _ _ k ?_).trans (h.block k hk hne)
  intro e
  subst e
  rcases hb with hb | hb
  · omega
  · exact hne hb
theorem grown_of_ext {w w' : World} (h : Ext w w') (r : Option Nat) : w.grownBy w' r := ⟨h.os, h.tape, h.output, h.size, fun k hk _ => Below.block h k hk⟩

set_option maxRecDepth 100000 in
set_option maxHeartbeats 2000000 in
theorem transfer_poor (B : Nat) (u : Value) (l : List Int) (F T : Nat) (a x : Int) (w : World) (hf : Fresh B w u l) (h4 : l.length = 4) (hF : F < 4) (hx : l[F]? = some x) (hp : x < a) :
    Calls Try.prog 134 #[.agg #[.int .i64 F, .int .i64 T, .int .i64 a], u] w (DidTo B u l 2 0 w) := by
  obtain ⟨g, cap, rfl, hb, hg⟩ := fresh_at hf h4
  have gF := fresh_cell hf h4 hx
  have n1 : w.heap.size ≠ g := by omega
  have n2 : w.heap.size + 1 ≠ g := by omega
  have i1 : (0 : Int) ≤ (F : Int) := by omega
  have i2 : (F : Int) < 4 := by omega
  have FF := Lib.hid hf
  clear hf hx
  go_enter Try.func134, Try.ntmps134
  go_wp2
  go_quiet (fail)
  go_wp2
  have x : Ext w (((((w.alloc (.cells #[.int .i64 F, .int .i64 T, .int .i64 a] 117)).alloc (.cells #[.int .i64 0, .int .i64 0] 32)).drewN nq).setCell ⟨w.heap.size + 1, 0, none⟩ (.int .i64 2)).setCell ⟨w.heap.size + 1, 1, none⟩ (.int .i64 0)) :=
    Below.setCell (Below.setCell ((Ext.alloc (Ext.alloc (Ext.refl _) _) _).drewN nq) (Nat.le_succ _) _) (Nat.le_succ _) _
  exact bodyPost_ret (v := .agg #[.int .i64 2, .int .i64 0]) (by simp [results, Try.results134, go_sem]) rfl ⟨rfl, FF.out.ext x, grown_of_ext x _⟩

set_option maxRecDepth 100000 in
set_option maxHeartbeats 2000000 in
theorem transfer_done (B : Nat) (u : Value) (l : List Int) (F T : Nat) (a x y : Int) (w : World) (hf : Fresh B w u l) (h4 : l.length = 4) (hne : F ≠ T) (hF : F < 4) (hT : T < 4) (hx : l[F]? = some x) (hy : l[T]? = some y) (hp : a ≤ x) (ha0 : 1 ≤ a) (ha1 : a ≤ 1000) (hx1 : x ≤ 400) (hy0 : 0 ≤ y) (hy1 : y ≤ 400) :
    Calls Try.prog 134 #[.agg #[.int .i64 F, .int .i64 T, .int .i64 a], u] w (DidTo B u ((l.set F (x - a)).set T (y + a)) 1 0 w) := by
  obtain ⟨g, cap, rfl, hb, hg⟩ := fresh_at hf h4
  have gF := fresh_cell hf h4 hx
  have zF := fresh_frozen hf h4 F
  have gT := fresh_cell hf h4 hy
  have zT := fresh_frozen hf h4 T
  have hne' : T ≠ F := fun h => hne h.symm
  have n1 : w.heap.size ≠ g := by omega
  have n2 : w.heap.size + 1 ≠ g := by omega
  have i1 : (0 : Int) ≤ (F : Int) := by omega
  have i2 : (F : Int) < 4 := by omega
  have j1 : (0 : Int) ≤ (T : Int) := by omega
  have j2 : (T : Int) < 4 := by omega
  have w1 : wrap64 (x - a) = x - a := by unfold wrap64; omega
  have w2 : wrap64 (y + a) = y + a := by unfold wrap64; omega
  have FF := Lib.hid hf
  clear hf hx hy
  go_enter Try.func134, Try.ntmps134
  go_wp2
  go_quiet (fail)
  go_wp2
  go_region
  go_wp2
  go_region
  go_wp2
  have x0 : Ext w (((w.alloc (.cells #[.int .i64 F, .int .i64 T, .int .i64 a] 117)).alloc (.cells #[.int .i64 0, .int .i64 0] 32)).drewN (nq + 1)) :=
    (Ext.alloc (Ext.alloc (Ext.refl _) _) _).drewN _
  have f0 := FF.out.ext x0
  have f1 := (fresh_put f0 h4 F (x - a)).1
  have f2 := (fresh_put f1 (by simp [h4]) T (y + a)).1
  have f3 := fresh_other f2 (w.heap.size + 1) 0 (.int .i64 1) (by omega)
  have f4 := fresh_other f3 (w.heap.size + 1) 1 (.int .i64 0) (by omega)
  have g1 := grown_put (grown_put (grown_put (grown_put (grown_of_ext x0 (some g)) g F (.int .i64 (x - a)) (.inr rfl)) g T (.int .i64 (y + a)) (.inr rfl)) (w.heap.size + 1) 0 (.int .i64 1) (.inl (by omega))) (w.heap.size + 1) 1 (.int .i64 0) (.inl (by omega))
  exact bodyPost_ret (v := .agg #[.int .i64 1, .int .i64 0]) (by simp [results, Try.results134, go_sem]) rfl ⟨rfl, f4.ext (Ext.drew (Ext.refl _)), g1.trans (grown_of_ext (Ext.drew (Ext.refl _)) _)⟩

set_option maxRecDepth 100000 in
set_option maxHeartbeats 2000000 in
theorem inquiry_any (B : Nat) (u : Value) (l : List Int) (F : Nat) (x : Int) (w : World) (hf : Fresh B w u l) (h4 : l.length = 4) (hF : F < 4) (hx : l[F]? = some x) :
    Calls Try.prog 135 #[.agg #[.int .i64 F], u] w (DidTo B u l 3 x w) := by
  obtain ⟨g, cap, rfl, hb, hg⟩ := fresh_at hf h4
  have gF := fresh_cell hf h4 hx
  have n1 : w.heap.size ≠ g := by omega
  have n2 : w.heap.size + 1 ≠ g := by omega
  have i1 : (0 : Int) ≤ (F : Int) := by omega
  have i2 : (F : Int) < 4 := by omega
  have FF := Lib.hid hf
  clear hf hx
  go_enter Try.func135, Try.ntmps135
  go_wp2
  have x1 : Ext w ((w.alloc (.cells #[.int .i64 F] 119)).alloc (.cells #[.int .i64 3, .int .i64 x] 32)) := Ext.alloc (Ext.alloc (Ext.refl _) _) _
  exact bodyPost_ret (v := .agg #[.int .i64 3, .int .i64 x]) (by simp [results, Try.results135, go_sem]) rfl ⟨rfl, FF.out.ext x1, grown_of_ext x1 _⟩

set_option maxRecDepth 100000 in
set_option maxHeartbeats 2000000 in
theorem idleness_any (B : Nat) (u : Value) (l : List Int) (w : World) (hf : Fresh B w u l) :
    Calls Try.prog 136 #[.agg #[], u] w (DidTo B u l 0 0 w) := by
  go_enter Try.func136, Try.ntmps136
  go_wp2
  have x1 : Ext w ((w.alloc (.cells #[] 121)).alloc (.cells #[.int .i64 0, .int .i64 0] 32)) := Ext.alloc (Ext.alloc (Ext.refl _) _) _
  exact bodyPost_ret (v := .agg #[.int .i64 0, .int .i64 0]) (by simp [results, Try.results136, go_sem]) rfl ⟨rfl, hf.ext x1, grown_of_ext x1 _⟩

/-- What is done: a good command in its value. -/
def deedV (k f t a : Int) : Value := if k = 1 then .iface 117 (.agg #[.int .i64 f, .int .i64 t, .int .i64 a]) else if k = 2 then .iface 119 (.agg #[.int .i64 f]) else .iface 121 (.agg #[])

set_option maxHeartbeats 2000000 in
theorem deedOf_1 (i f t a : Int) (w : World) :
    Calls Try.prog 52 #[.agg #[.int .i64 1, .int .i64 i, .int .i64 f, .int .i64 t, .int .i64 a]] w fun e w' => e = .returned (deedV 1 f t a) ∧ Ext w w' := by
  go_enter Try.func52, Try.ntmps52
  go_wp2
  go_ret
  exact ⟨rfl, Ext.alloc (Ext.refl _) _⟩

set_option maxHeartbeats 2000000 in
theorem deedOf_2 (i f t a : Int) (w : World) :
    Calls Try.prog 52 #[.agg #[.int .i64 2, .int .i64 i, .int .i64 f, .int .i64 t, .int .i64 a]] w fun e w' => e = .returned (deedV 2 f t a) ∧ Ext w w' := by
  go_enter Try.func52, Try.ntmps52
  go_wp2
  go_ret
  exact ⟨rfl, Ext.alloc (Ext.refl _) _⟩

set_option maxHeartbeats 2000000 in
theorem deedOf_0 (i f t a : Int) (w : World) :
    Calls Try.prog 52 #[.agg #[.int .i64 0, .int .i64 i, .int .i64 f, .int .i64 t, .int .i64 a]] w fun e w' => e = .returned (deedV 0 f t a) ∧ Ext w w' := by
  go_enter Try.func52, Try.ntmps52
  go_wp2
  go_ret
  exact ⟨rfl, Ext.alloc (Ext.refl _) _⟩

/-- What good sums come to, and what is told: a good command done to them. -/
def didL (k f t a : Int) (l : List Int) : List Int := if k = 1 then (if (l[f.toNat]?.getD 0) < a then l else (l.set f.toNat ((l[f.toNat]?.getD 0) - a)).set t.toNat ((l[t.toNat]?.getD 0) + a)) else l
def didC (k f a : Int) (l : List Int) : Int := if k = 1 then (if (l[f.toNat]?.getD 0) < a then 2 else 1) else if k = 2 then 3 else 0
def didS (k f : Int) (l : List Int) : Int := if k = 2 then (l[f.toNat]?.getD 0) else 0

end Go.Proofs.Ytfffddhfagibpaa

namespace Go.Proofs.Ytfffddhfagibpaa
open Go.RowKit
set_option linter.unusedVariables false
set_option linter.unusedSimpArgs false

theorem acct_nat {f : Int} (h : acctB f = true) : ∃ F : Nat, f = (F : Int) ∧ F < 4 := by
  have := acctB_yes h
  exact ⟨f.toNat, by omega, by omega⟩
theorem good_1 {i f t a : Int} (h : goodB 1 i f t a = true) : ∃ F T : Nat, f = (F : Int) ∧ t = (T : Int) ∧ F < 4 ∧ T < 4 ∧ F ≠ T ∧ 1 ≤ a ∧ a ≤ 1000 := by
  rw [goodB_1] at h
  unfold codeM at h
  cases h1 : acctB f with
  | false => rw [h1] at h; simp at h
  | true =>
    cases h2 : acctB t with
    | false => rw [h1, h2] at h; simp at h
    | true =>
      obtain ⟨F, rfl, hF⟩ := acct_nat h1
      obtain ⟨T, rfl, hT⟩ := acct_nat h2
      rw [h1, h2] at h
      cases h3 : ((F : Int) == (T : Int)) with
      | true => rw [h3] at h; simp at h
      | false =>
        rw [h3] at h
        cases h4 : inB i 1 999 with
        | false => rw [h4] at h; simp at h
        | true =>
          rw [h4] at h
          cases h5 : inB a 1 1000 with
          | false => rw [h5] at h; simp at h
          | true =>
            have h6 : F ≠ T := by intro e; subst e; simp at h3
            have h7 : 1 ≤ a ∧ a ≤ 1000 := by simpa [inB] using h5
            exact ⟨F, T, rfl, rfl, hF, hT, h6, h7.1, h7.2⟩
theorem good_2 {i f t a : Int} (h : goodB 2 i f t a = true) : ∃ F : Nat, f = (F : Int) ∧ F < 4 := by
  rw [goodB_2] at h
  unfold codeR at h
  cases h1 : acctB f with
  | false => rw [h1] at h; simp at h
  | true => exact acct_nat h1
theorem good_kind {k i f t a : Int} (h : goodB k i f t a = true) : k = 0 ∨ k = 1 ∨ k = 2 := by
  by_cases h0 : k = 0
  · exact .inl h0
  · by_cases h1 : k = 1
    · exact .inr (.inl h1)
    · by_cases h2 : k = 2
      · exact .inr (.inr h2)
      · rw [goodB_else i f t a (by simp [h0]) (by simp [h1]) (by simp [h2])] at h
        cases h
theorem four_of {l : List Int} (h : l.length = 4) : ∃ p q r s, l = [p, q, r, s] := by
  match l, h with
  | [p, q, r, s], _ => exact ⟨p, q, r, s, rfl⟩
theorem goodS_4 {p q r s : Int} : goodS [p, q, r, s] = true ↔ (0 ≤ p ∧ p ≤ 400) ∧ (0 ≤ q ∧ q ≤ 400) ∧ (0 ≤ r ∧ r ≤ 400) ∧ (0 ≤ s ∧ s ≤ 400) ∧ p + (q + (r + s)) = 400 := by
  simp [goodS, allIn, inB, and_assoc]
theorem good_didL {k i f t a : Int} {l : List Int} (hg : goodS l = true) (hc : goodB k i f t a = true) : goodS (didL k f t a l) = true := by
  obtain ⟨p, q, r, s, rfl⟩ := four_of (goodS_get hg).1
  rcases good_kind hc with rfl | rfl | rfl
  · exact hg
  · obtain ⟨F, T, rfl, rfl, hF, hT, hne, ha, _⟩ := good_1 hc
    rw [goodS_4] at hg
    unfold didL
    rw [if_pos rfl]
    have e1 : ((F : Int)).toNat = F := rfl
    have e2 : ((T : Int)).toNat = T := rfl
    rw [e1, e2]
    split
    · rw [goodS_4]; exact hg
    · rename_i h
      match F, hF, T, hT, hne with
      | 0, _, 0, _, hne => exact absurd rfl hne
      | 0, _, 1, _, _ => simp at h; simp [goodS_4]; omega
      | 0, _, 2, _, _ => simp at h; simp [goodS_4]; omega
      | 0, _, 3, _, _ => simp at h; simp [goodS_4]; omega
      | 1, _, 0, _, _ => simp at h; simp [goodS_4]; omega
      | 1, _, 1, _, hne => exact absurd rfl hne
      | 1, _, 2, _, _ => simp at h; simp [goodS_4]; omega
      | 1, _, 3, _, _ => simp at h; simp [goodS_4]; omega
      | 2, _, 0, _, _ => simp at h; simp [goodS_4]; omega
      | 2, _, 1, _, _ => simp at h; simp [goodS_4]; omega
      | 2, _, 2, _, hne => exact absurd rfl hne
      | 2, _, 3, _, _ => simp at h; simp [goodS_4]; omega
      | 3, _, 0, _, _ => simp at h; simp [goodS_4]; omega
      | 3, _, 1, _, _ => simp at h; simp [goodS_4]; omega
      | 3, _, 2, _, _ => simp at h; simp [goodS_4]; omega
      | 3, _, 3, _, hne => exact absurd rfl hne
  · exact hg
theorem goodS_at {l : List Int} {F : Nat} (hg : goodS l = true) (hF : F < 4) : ∃ x, l[F]? = some x ∧ 0 ≤ x ∧ x ≤ 400 := by
  obtain ⟨h4, ha, _⟩ := goodS_get hg
  have hl : F < l.length := by omega
  have h := (List.all_eq_true.1 ha) l[F] (List.getElem_mem hl)
  exact ⟨l[F], List.getElem?_eq_getElem hl, by simpa [inB] using h⟩

theorem did_1 {B : Nat} {u : Value} {l : List Int} {i f t a : Int} {w : World} (hg : goodS l = true) (hc : goodB 1 i f t a = true) (hf : Fresh B w u l) :
    Calls Try.prog 134 #[.agg #[.int .i64 f, .int .i64 t, .int .i64 a], u] w (DidTo B u (didL 1 f t a l) (didC 1 f a l) (didS 1 f l) w) := by
  obtain ⟨F, T, rfl, rfl, hF, hT, hne, ha, ha1⟩ := good_1 hc
  obtain ⟨x, hx, hx0, hx1⟩ := goodS_at hg hF
  obtain ⟨y, hy, hy0, hy1⟩ := goodS_at hg hT
  have e1 : l[((F : Int)).toNat]? = some x := hx
  have e2 : l[((T : Int)).toNat]? = some y := hy
  have k1 : (1 : Int) = 1 ↔ True := by decide
  have k2 : (1 : Int) = 2 ↔ False := by decide
  simp only [didL, didC, didS, e1, e2, Option.getD_some, k1, k2, if_true, if_false]
  by_cases h : x < a
  · rw [if_pos h, if_pos h]
    exact transfer_poor B u l F T a x w hf (goodS_get hg).1 hF hx h
  · rw [if_neg h, if_neg h]
    exact transfer_done B u l F T a x y w hf (goodS_get hg).1 hne hF hT hx hy (by omega) ha ha1 hx1 hy0 hy1
theorem did_2 {B : Nat} {u : Value} {l : List Int} {i f t a : Int} {w : World} (hg : goodS l = true) (hc : goodB 2 i f t a = true) (hf : Fresh B w u l) :
    Calls Try.prog 135 #[.agg #[.int .i64 f], u] w (DidTo B u (didL 2 f t a l) (didC 2 f a l) (didS 2 f l) w) := by
  obtain ⟨F, rfl, hF⟩ := good_2 hc
  obtain ⟨x, hx, hx0, hx1⟩ := goodS_at hg hF
  have e1 : l[((F : Int)).toNat]? = some x := hx
  have k1 : (2 : Int) = 1 ↔ False := by decide
  have k2 : (2 : Int) = 2 ↔ True := by decide
  simp only [didL, didC, didS, e1, Option.getD_some, k1, k2, if_true, if_false]
  exact inquiry_any B u l F x w hf (goodS_get hg).1 hF hx
theorem did_0 {B : Nat} {u : Value} {l : List Int} {f t a : Int} {w : World} (hf : Fresh B w u l) :
    Calls Try.prog 136 #[.agg #[], u] w (DidTo B u (didL 0 f t a l) (didC 0 f a l) (didS 0 f l) w) := by
  exact idleness_any B u l w hf

/-- Sums in new memory, what is told, and a Bool come back. -/
def Applied (L : List Int) (c s : Int) (b : Bool) (w : World) (e : Ending) (w' : World) : Prop :=
  ∃ v, e = .returned (.tuple #[v, .agg #[.int .i64 c, .int .i64 s], .bool b]) ∧ Fresh w.heap.size w' v L ∧ Ext w w'

end Go.Proofs.Ytfffddhfagibpaa
