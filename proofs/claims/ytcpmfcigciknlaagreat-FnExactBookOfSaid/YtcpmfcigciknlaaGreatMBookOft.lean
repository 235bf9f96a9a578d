/- Texts of this proof, part t: words, plain facts, contracts. -/
import Derived.Test.YtcpmfcigciknlaaGreatMBookOfd
import Derived.Test.YtcpmfcigciknlaaGreatMBookOfa
import Derived.Test.YtcpmfcigciknlaaGreatMBookOfr
import Derived.Test.YtcpmfcigciknlaaGreatMBookOfs
import Derived.Test.YtcpmfcigciknlaaGreatMBookOfk
import Derived.Deep.RegionLaw
import Derived.Deep.RegionHeld3

namespace Go.Proofs.YtcpmfcigciknlaaGreat
open Go.RowKit
set_option linter.unusedVariables false

structure CmdD where
  k : Int
  i : Int
  f : Int
  t : Int
  a : Int
def cdVs (d : CmdD) : List Value := [.int .i64 d.k, .int .i64 d.i, .int .i64 d.f, .int .i64 d.t, .int .i64 d.a]
theorem cdVs_len (d : CmdD) : (cdVs d ).length = 5 := rfl
def CdIn (w : World) (b o : Nat) (d : CmdD) : Prop := ∀ j v, (cdVs d )[j]? = some v → w.cell? ⟨b, o + j, none⟩ = some v
theorem CdIn.ext {w w' : World} {b o : Nat} {d : CmdD} (h : CdIn w b o d ) (e : Ext w w') : CdIn w' b o d  := fun j v hj => e.cell (h j v hj)
theorem cdIn_cells {w : World} {b o : Nat} {d : CmdD} (h : CdIn w b o d ) :
    w.cell? ⟨b, o, none⟩ = some (.int .i64 d.k) ∧ w.cell? ⟨b, o + 1, none⟩ = some (.int .i64 d.i) ∧ w.cell? ⟨b, o + 2, none⟩ = some (.int .i64 d.f) ∧ w.cell? ⟨b, o + 3, none⟩ = some (.int .i64 d.t) ∧ w.cell? ⟨b, o + 4, none⟩ = some (.int .i64 d.a) :=
  ⟨h 0 _ rfl, h 1 _ rfl, h 2 _ rfl, h 3 _ rfl, h 4 _ rfl⟩
theorem cd_cells {w : World} {b : Nat} {d : CmdD} (h : BoxV w b (cdVs d )) :
    w.cell? ⟨b, 0, none⟩ = some (.int .i64 d.k) ∧ w.cell? ⟨b, 1, none⟩ = some (.int .i64 d.i) ∧ w.cell? ⟨b, 2, none⟩ = some (.int .i64 d.f) ∧ w.cell? ⟨b, 3, none⟩ = some (.int .i64 d.t) ∧ w.cell? ⟨b, 4, none⟩ = some (.int .i64 d.a) :=
  ⟨h.cell 0 _ rfl, h.cell 1 _ rfl, h.cell 2 _ rfl, h.cell 3 _ rfl, h.cell 4 _ rfl⟩
theorem cd_box (w : World) (T : TypeId) (d : CmdD) : BoxV (w.alloc (.cells #[.int .i64 d.k, .int .i64 d.i, .int .i64 d.f, .int .i64 d.t, .int .i64 d.a] T)) w.heap.size (cdVs d ) := boxV_new w (cdVs d ) T
/-- v is a slice that reads as L in w. -/
def Cdz (w : World) (v : Value) (L : List CmdD) : Prop :=
  ∃ ao cap, v = .slice ao L.length cap ∧ L.length ≤ maxLen ∧ (L.length ≤ cap ∧ cap ≤ maxLen ∧ (ao = none → cap = 0)) ∧
    (0 < L.length → ∃ b off, ao = some ⟨b, off, none⟩ ∧ ∀ j (h : j < L.length), CdIn w b (off + j * 5) L[j] )
theorem Cdz.ext {w w' : World} {v : Value} {L : List CmdD} (h : Cdz w v L) (e : Ext w w') : Cdz w' v L := by
  obtain ⟨ao, cap, hv, hm, hcap, hc⟩ := h
  refine ⟨ao, cap, hv, hm, hcap, fun hp => ?_⟩
  obtain ⟨b, off, ha, hc⟩ := hc hp
  refine ⟨b, off, ha, fun j hj => ?_⟩
  have hu := hc j hj
  exact hu.ext e
theorem Cdz.nil (w : World) : Cdz w (.slice none 0 0) [] := ⟨none, 0, rfl, by simp, ⟨by simp, by simp, fun _ => rfl⟩, fun h => by simp at h⟩
def bulk1Cd (d : CmdD) : Nat := 0
def weighCd (L : List CmdD) : List Nat := L.map bulk1Cd
theorem weighCd_len (L : List CmdD) : (weighCd L).length = L.length := by simp [weighCd]
theorem weighCd_get {L : List CmdD} {k : Nat} (h : k < L.length) : (weighCd L)[k]'(by rw [weighCd_len]; exact h) = bulk1Cd L[k] := by simp [weighCd]
def bulkCd (L : List CmdD) : Nat := L.length + (weighCd L).sum
theorem bulkCd_at {L : List CmdD} {j : Nat} (h : j < L.length) : bulk1Cd L[j] ≤ bulkCd L := by
  unfold bulkCd weighCd
  have := len_le_sum (L.map bulk1Cd) _ (List.mem_map.2 ⟨L[j], List.getElem_mem h, rfl⟩)
  omega
/-- From o on the list xs has the cells of the element. -/
def XCd (xs : List Value) (o : Nat) (d : CmdD) : Prop := ∀ q v, (cdVs d )[q]? = some v → xs[o + q]? = some v
theorem cd_lt {d : CmdD} {v : Value} {q : Nat} (h : (cdVs d )[q]? = some v) : q < 5 := by
  have := (List.getElem?_eq_some_iff.1 h).1
  rwa [cdVs_len] at this
theorem XCd.put_other {xs vs : List Value} {o p : Nat} {d : CmdD} (h : XCd xs o d ) (hv : vs.length = 5) (hap : o + 5 ≤ p ∨ p + 5 ≤ o) : XCd (putL xs p vs) o d  := by
  intro q v hq
  have := cd_lt hq
  rw [putL_out _ _ _ _ (by omega)]
  exact h q v hq
theorem XCd.put {xs : List Value} {o : Nat} {d : CmdD} (h : o + 5 ≤ xs.length) : XCd (putL xs o (cdVs d )) o d  := by
  intro q v hq
  have := cd_lt hq
  rw [putL_in _ o xs q (by rw [cdVs_len]; exact this) (by rw [cdVs_len]; exact h)]
  exact hq
theorem XCd.isIn {w : World} {b o : Nat} {xs : List Value} {d : CmdD} (h : BoxV w b xs) (hx : XCd xs o d ) : CdIn w b o d  := fun q v hq => h.cell _ _ (hx q v hq)
/-- The first k stand in the block's cells xs. -/
def CdsTo (xs : List Value) (L : List CmdD) (k : Nat) : Prop := ∀ j (h : j < L.length), j < k → XCd xs (j * 5) L[j]
theorem CdsTo.put {k : Nat} {xs : List Value} {L : List CmdD} (h : CdsTo xs L k) (hk : k < L.length) (hl : xs.length = L.length * 5) : CdsTo (putL xs (k * 5) (cdVs L[k])) L (k + 1) := by
  intro j hj hjk
  by_cases e : j = k
  · subst e
    exact XCd.put (by omega)
  · exact XCd.put_other (h j hj (by omega)) (cdVs_len _) (by omega)
/-- v is a slice of such in a block from lo on, below hi, that may be written. -/
def CdzM (lo hi : Nat) (w : World) (v : Value) (L : List CmdD) : Prop :=
  ∃ g xs, lo ≤ g ∧ g < hi ∧ v = .slice (some ⟨g, 0, none⟩) L.length L.length ∧ L.length ≤ maxLen ∧ BoxV w g xs ∧ xs.length = L.length * 5 ∧ CdsTo xs L L.length
theorem CdzM.reads {lo hi : Nat} {w : World} {v : Value} {L : List CmdD} (h : CdzM lo hi w v L) : Cdz w v L := by
  obtain ⟨g, xs, _, _, rfl, hm, hb, _, hc⟩ := h
  refine ⟨some ⟨g, 0, none⟩, _, rfl, hm, ⟨Nat.le_refl _, hm, fun h => by cases h⟩, fun _ => ⟨g, 0, rfl, fun j hj => ?_⟩⟩
  have a := hc j hj hj
  rw [Nat.zero_add]; exact XCd.isIn hb a
theorem CdzM.kept {lo hi : Nat} {w w' : World} {v : Value} {L : List CmdD} (h : CdzM lo hi w v L) (s : Stood lo hi w w') : CdzM lo hi w' v L := by
  obtain ⟨g, xs, hg, hh, hv, hm, hb, hl, hc⟩ := h
  exact ⟨g, xs, hg, hh, hv, hm, hb.kept s hg hh, hl, hc⟩
theorem CdzM.more {lo lo' hi hi' : Nat} {w : World} {v : Value} {L : List CmdD} (h : CdzM lo hi w v L) (h1 : lo' ≤ lo) (h2 : hi ≤ hi') : CdzM lo' hi' w v L := by
  obtain ⟨g, xs, hg, hh, r⟩ := h
  exact ⟨g, xs, Nat.le_trans h1 hg, Nat.lt_of_lt_of_le hh h2, r⟩
theorem CdzM.form {lo hi : Nat} {w : World} {v : Value} {L : List CmdD} (h : CdzM lo hi w v L) : ∃ a c, v = .slice a L.length c := by
  obtain ⟨g, _, _, _, hv, _⟩ := h
  exact ⟨_, _, hv⟩
def NewCdS (L : List CmdD) (w : World) (e : Ending) (w' : World) : Prop := ∃ v, e = .returned v ∧ CdzM w.heap.size w'.heap.size w' v L ∧ Ext w w'
theorem setCells_cd (w : World) (g o : Nat) (d : CmdD) :
    w.setCells g o (cdVs d ) = (((((w.setCell ⟨g, o, none⟩ (.int .i64 d.k)).setCell ⟨g, o + 1, none⟩ (.int .i64 d.i)).setCell ⟨g, o + 2, none⟩ (.int .i64 d.f)).setCell ⟨g, o + 3, none⟩ (.int .i64 d.t)).setCell ⟨g, o + 4, none⟩ (.int .i64 d.a)) := rfl
end Go.Proofs.YtcpmfcigciknlaaGreat

namespace Go.Proofs.YtcpmfcigciknlaaGreat
open Go.RowKit
set_option linter.unusedVariables false

/-- An instance's two cells. -/
def cellsTd (x : TldD) : List Value := [.int .i64 x.c, .int .i64 x.s]
def flatTd (L : List TldD) : List Value := L.flatMap cellsTd
theorem flatTd_len (L : List TldD) : (flatTd L).length = L.length * 2 := by
  unfold flatTd
  induction L with
  | nil => rfl
  | cons x t ih => rw [List.flatMap_cons, List.length_append, ih]; simp [cellsTd]; omega
theorem flatTd_at {L : List TldD} {j : Nat} (h : j < L.length) : (flatTd L)[j * 2]? = some (.int .i64 L[j].c) ∧ (flatTd L)[j * 2 + 1]? = some (.int .i64 L[j].s) := by
  induction L generalizing j with
  | nil => simp at h
  | cons x t ih =>
    unfold flatTd
    rw [List.flatMap_cons]
    cases j with
    | zero => simp [cellsTd]
    | succ j =>
      have h' : j < t.length := by simpa using h
      obtain ⟨i1, i2⟩ := ih h'
      unfold flatTd at i1 i2
      have e1 : (j + 1) * 2 = (cellsTd x).length + j * 2 := by simp [cellsTd]; omega
      refine ⟨?_, ?_⟩
      · rw [e1, List.getElem?_append_right (by omega), Nat.add_sub_cancel_left, i1]
        simp
      · rw [e1, Nat.add_assoc, List.getElem?_append_right (by omega), Nat.add_sub_cancel_left, i2]
        simp

/-- v is a slice of instances of a block that was made from block number B on. -/
def FreshTd (B : Nat) (w : World) (v : Value) (L : List TldD) : Prop := w.ownsRow B 42 2 v L.length (flatTd L)
theorem FreshTd.nil (B : Nat) (w : World) : FreshTd B w (.slice none 0 0) [] := ⟨rfl, .inl ⟨rfl, rfl⟩⟩
theorem FreshTd.ext {B : Nat} {w w' : World} {v : Value} {L : List TldD} (h : FreshTd B w v L) (e : Ext w w') : FreshTd B w' v L := e.ownsRow h

theorem FreshTd.at {B : Nat} {w : World} {v : Value} {L : List TldD} (h : FreshTd B w v L) : Tdz w v L := by
  rcases h.2 with ⟨rfl, hn⟩ | ⟨g, cap, cur, rfl, hb, hg, hnc, hcm, hcs, htake⟩
  · obtain rfl : L = [] := List.eq_nil_of_length_eq_zero hn
    exact Tdz.nil w
  · refine ⟨some ⟨g, 0, none⟩, cap, rfl, by omega, ⟨by omega, by omega, fun h => by cases h⟩, fun _ => ⟨g, 0, rfl, fun j hj => ?_⟩⟩
    have hc1 := World.ownsRow.cellAt h (j * 2) (by omega)
    have hc2 := World.ownsRow.cellAt h (j * 2 + 1) (by omega)
    obtain ⟨f1, f2⟩ := flatTd_at hj
    rw [Nat.zero_add]
    intro q x hq
    match q, td_lt hq, hq with
    | 0, _, hq => simp [tdVs] at hq; subst hq; exact hc1.trans f1
    | 1, _, hq => simp [tdVs] at hq; subst hq; exact hc2.trans f2

theorem Tryz.infoTold : (Tryz.prog.info? 42).map (fun i => (i.zero, i.size, i.bytes)) = some (some (.agg #[.int .i64 0, .int .i64 0]), 2, 16) := by kernel_rfl

/-- append(s, x), s of the call's own. -/
theorem wpList_pushTd {ops : Array Oper} {rest : List Oper} {o : Oper} {a : Act} {Q : Exit → Act → World → Prop} {w : World} (hgd : o.guard = none) (s x : Operand)
    (ho : o.op = .call { callee := .builtin .append, args := #[s, x], argTypes := #[120, 120] })
    (B : Nat) (v : Value) (L : List TldD) (y : TldD) (hs : a.eval s = v) (hf : FreshTd B w v L) (g : Nat) (c : Nat) (hx : a.eval x = .slice (some ⟨g, 0, none⟩) 1 c)
    (hc0 : w.cell? ⟨g, 0, none⟩ = some (.int .i64 y.c)) (hc1 : w.cell? ⟨g, 1, none⟩ = some (.int .i64 y.s)) (hl : L.length ≤ 1048576) (hB : B ≤ w.heap.size)
    (h : ∀ v' w', FreshTd B w' v' (L ++ [y]) → w.grownBy w' v.ownBlock → Kept B w w' → wpList Tryz.prog ops Q rest (a.put o.dst v') w') : wpList Tryz.prog ops Q (o :: rest) a w := by
  obtain ⟨i0, hi, hz0, hz1, hz2⟩ := info_parts Tryz.infoTold
  refine wpList_append_own _ hgd s x 120 ho B 42 i0 (.agg #[.int .i64 0, .int .i64 0]) 2 16 Tryz.underlying120 hi hz0 hz1 hz2 rfl (by decide) v L.length _ hs hf ⟨g, 0, none⟩ 1 c (cellsTd y) hx rfl ?_ ?_ ?_ ?_ hB ?_
  · intro j u hj
    match j, hj with
    | 0, hj => simp [cellsTd] at hj; subst hj; simpa [Addr.add] using hc0
    | 1, hj => simp [cellsTd] at hj; subst hj; simpa [Addr.add] using hc1
  · intro u hu
    simp [cellsTd] at hu
    rcases hu with rfl | rfl <;> rfl
  · unfold maxLen; omega
  · omega
  · intro v' w' ho' hg _
    refine h v' w' ?_ hg (fun w0 hx0 hB0 => Below.grown hx0 hg hx0.size (fun q hq => Nat.le_trans hB0 (World.ownsRow.lt hf q hq).1))
    unfold FreshTd
    have e : flatTd (L ++ [y]) = flatTd L ++ cellsTd y := by simp [flatTd]
    rw [e, List.length_append]
    exact ho'

/-- Whether commands can be played: good ones, sixty at most. -/
def goodCd (d : CmdD) : Bool := goodB d.k d.i d.f d.t d.a
def cmdsB (L : List CmdD) : Bool := decide (L.length ≤ 60) && L.all goodCd
theorem cmdsB_yes {L : List CmdD} (h : cmdsB L = true) : L.length ≤ 60 ∧ ∀ j (hj : j < L.length), goodB L[j].k L[j].i L[j].f L[j].t L[j].a = true := by
  unfold cmdsB at h
  simp only [Bool.and_eq_true, decide_eq_true_eq, List.all_eq_true] at h
  exact ⟨h.1, fun j hj => h.2 _ (List.getElem_mem hj)⟩
theorem cmdsB_bad {L : List CmdD} {j : Nat} (hj : j < L.length) (h : goodB L[j].k L[j].i L[j].f L[j].t L[j].a = false) : cmdsB L = false := by
  have : L.all goodCd = false := by
    rw [List.all_eq_false]
    exact ⟨L[j], List.getElem_mem hj, by unfold goodCd; rw [h]; simp⟩
  unfold cmdsB
  rw [this, Bool.and_false]
theorem cmdsB_all {L : List CmdD} (h : ∀ j (hj : j < L.length), goodB L[j].k L[j].i L[j].f L[j].t L[j].a = true) : cmdsB L = decide (L.length ≤ 60) := by
  have : L.all goodCd = true := by
    rw [List.all_eq_true]
    intro x hx
    obtain ⟨j, hj, rfl⟩ := List.mem_iff_getElem.1 hx
    exact h j hj
  unfold cmdsB
  rw [this, Bool.and_true]
/-- The sums behind the first j. -/
def didD (s : List Int) (d : CmdD) : List Int := didL d.k d.f d.t d.a s
def sumsAt (L : List CmdD) (j : Nat) : List Int := (L.take j).foldl didD [100, 100, 100, 100]
theorem sumsAt_succ {L : List CmdD} {j : Nat} (hj : j < L.length) : sumsAt L (j + 1) = didL L[j].k L[j].f L[j].t L[j].a (sumsAt L j) := by
  unfold sumsAt
  rw [List.take_add_one, List.getElem?_eq_getElem hj, List.foldl_append]
  rfl
theorem sumsAt_good {L : List CmdD} (h : ∀ j (hj : j < L.length), goodB L[j].k L[j].i L[j].f L[j].t L[j].a = true) : ∀ j, j ≤ L.length → goodS (sumsAt L j) = true
  | 0, _ => by unfold sumsAt; rfl
  | j + 1, hj => by
    rw [sumsAt_succ (by omega)]
    exact good_didL (sumsAt_good h j (by omega)) (h j (by omega))
/-- What each is told. -/
def toldOne (s : List Int) (d : CmdD) : TldD := ⟨didC d.k d.f d.a s, didS d.k d.f s⟩
def toldN (L : List CmdD) (n : Nat) : List TldD := (List.range n).map fun j => toldOne (sumsAt L j) ((L[j]?).getD ⟨0, 0, 0, 0, 0⟩)
theorem toldN_len (L : List CmdD) (n : Nat) : (toldN L n).length = n := by simp [toldN]
theorem toldN_succ {L : List CmdD} {j : Nat} (hj : j < L.length) : toldN L (j + 1) = toldN L j ++ [toldOne (sumsAt L j) L[j]] := by
  unfold toldN
  rw [List.range_succ, List.map_append, List.map_singleton, List.getElem?_eq_getElem hj]
  rfl
theorem toldN_at {L : List CmdD} {n j : Nat} (hj : j < L.length) (hn : j < (toldN L n).length) : (toldN L n)[j] = toldOne (sumsAt L j) L[j] := by
  simp [toldN, List.getElem?_eq_getElem hj]

end Go.Proofs.YtcpmfcigciknlaaGreat

namespace Go.Proofs.YtcpmfcigciknlaaGreat
open Go.RowKit
set_option linter.unusedVariables false

structure EnD where
  r : Int
  n : Int
  k : Int
  i : Int
  f : Int
  t : Int
  a : Int
  c : Int
  s : Int
def enVs (d : EnD) : List Value := [.int .i64 d.r, .int .i64 d.n, .int .i64 d.k, .int .i64 d.i, .int .i64 d.f, .int .i64 d.t, .int .i64 d.a, .int .i64 d.c, .int .i64 d.s]
theorem enVs_len (d : EnD) : (enVs d ).length = 9 := rfl
def EnIn (w : World) (b o : Nat) (d : EnD) : Prop := ∀ j v, (enVs d )[j]? = some v → w.cell? ⟨b, o + j, none⟩ = some v
theorem EnIn.ext {w w' : World} {b o : Nat} {d : EnD} (h : EnIn w b o d ) (e : Ext w w') : EnIn w' b o d  := fun j v hj => e.cell (h j v hj)
theorem enIn_cells {w : World} {b o : Nat} {d : EnD} (h : EnIn w b o d ) :
    w.cell? ⟨b, o, none⟩ = some (.int .i64 d.r) ∧ w.cell? ⟨b, o + 1, none⟩ = some (.int .i64 d.n) ∧ w.cell? ⟨b, o + 2, none⟩ = some (.int .i64 d.k) ∧ w.cell? ⟨b, o + 3, none⟩ = some (.int .i64 d.i) ∧ w.cell? ⟨b, o + 4, none⟩ = some (.int .i64 d.f) ∧ w.cell? ⟨b, o + 5, none⟩ = some (.int .i64 d.t) ∧ w.cell? ⟨b, o + 6, none⟩ = some (.int .i64 d.a) ∧ w.cell? ⟨b, o + 7, none⟩ = some (.int .i64 d.c) ∧ w.cell? ⟨b, o + 8, none⟩ = some (.int .i64 d.s) :=
  ⟨h 0 _ rfl, h 1 _ rfl, h 2 _ rfl, h 3 _ rfl, h 4 _ rfl, h 5 _ rfl, h 6 _ rfl, h 7 _ rfl, h 8 _ rfl⟩
theorem en_cells {w : World} {b : Nat} {d : EnD} (h : BoxV w b (enVs d )) :
    w.cell? ⟨b, 0, none⟩ = some (.int .i64 d.r) ∧ w.cell? ⟨b, 1, none⟩ = some (.int .i64 d.n) ∧ w.cell? ⟨b, 2, none⟩ = some (.int .i64 d.k) ∧ w.cell? ⟨b, 3, none⟩ = some (.int .i64 d.i) ∧ w.cell? ⟨b, 4, none⟩ = some (.int .i64 d.f) ∧ w.cell? ⟨b, 5, none⟩ = some (.int .i64 d.t) ∧ w.cell? ⟨b, 6, none⟩ = some (.int .i64 d.a) ∧ w.cell? ⟨b, 7, none⟩ = some (.int .i64 d.c) ∧ w.cell? ⟨b, 8, none⟩ = some (.int .i64 d.s) :=
  ⟨h.cell 0 _ rfl, h.cell 1 _ rfl, h.cell 2 _ rfl, h.cell 3 _ rfl, h.cell 4 _ rfl, h.cell 5 _ rfl, h.cell 6 _ rfl, h.cell 7 _ rfl, h.cell 8 _ rfl⟩
theorem en_box (w : World) (T : TypeId) (d : EnD) : BoxV (w.alloc (.cells #[.int .i64 d.r, .int .i64 d.n, .int .i64 d.k, .int .i64 d.i, .int .i64 d.f, .int .i64 d.t, .int .i64 d.a, .int .i64 d.c, .int .i64 d.s] T)) w.heap.size (enVs d ) := boxV_new w (enVs d ) T
/-- v is a slice that reads as L in w. -/
def Enz (w : World) (v : Value) (L : List EnD) : Prop :=
  ∃ ao cap, v = .slice ao L.length cap ∧ L.length ≤ maxLen ∧ (L.length ≤ cap ∧ cap ≤ maxLen ∧ (ao = none → cap = 0)) ∧
    (0 < L.length → ∃ b off, ao = some ⟨b, off, none⟩ ∧ ∀ j (h : j < L.length), EnIn w b (off + j * 9) L[j] )
theorem Enz.ext {w w' : World} {v : Value} {L : List EnD} (h : Enz w v L) (e : Ext w w') : Enz w' v L := by
  obtain ⟨ao, cap, hv, hm, hcap, hc⟩ := h
  refine ⟨ao, cap, hv, hm, hcap, fun hp => ?_⟩
  obtain ⟨b, off, ha, hc⟩ := hc hp
  refine ⟨b, off, ha, fun j hj => ?_⟩
  have hu := hc j hj
  exact hu.ext e
theorem Enz.nil (w : World) : Enz w (.slice none 0 0) [] := ⟨none, 0, rfl, by simp, ⟨by simp, by simp, fun _ => rfl⟩, fun h => by simp at h⟩
def bulk1En (d : EnD) : Nat := 0
def weighEn (L : List EnD) : List Nat := L.map bulk1En
theorem weighEn_len (L : List EnD) : (weighEn L).length = L.length := by simp [weighEn]
theorem weighEn_get {L : List EnD} {k : Nat} (h : k < L.length) : (weighEn L)[k]'(by rw [weighEn_len]; exact h) = bulk1En L[k] := by simp [weighEn]
def bulkEn (L : List EnD) : Nat := L.length + (weighEn L).sum
theorem bulkEn_at {L : List EnD} {j : Nat} (h : j < L.length) : bulk1En L[j] ≤ bulkEn L := by
  unfold bulkEn weighEn
  have := len_le_sum (L.map bulk1En) _ (List.mem_map.2 ⟨L[j], List.getElem_mem h, rfl⟩)
  omega
/-- From o on the list xs has the cells of the element. -/
def XEn (xs : List Value) (o : Nat) (d : EnD) : Prop := ∀ q v, (enVs d )[q]? = some v → xs[o + q]? = some v
theorem en_lt {d : EnD} {v : Value} {q : Nat} (h : (enVs d )[q]? = some v) : q < 9 := by
  have := (List.getElem?_eq_some_iff.1 h).1
  rwa [enVs_len] at this
theorem XEn.put_other {xs vs : List Value} {o p : Nat} {d : EnD} (h : XEn xs o d ) (hv : vs.length = 9) (hap : o + 9 ≤ p ∨ p + 9 ≤ o) : XEn (putL xs p vs) o d  := by
  intro q v hq
  have := en_lt hq
  rw [putL_out _ _ _ _ (by omega)]
  exact h q v hq
theorem XEn.put {xs : List Value} {o : Nat} {d : EnD} (h : o + 9 ≤ xs.length) : XEn (putL xs o (enVs d )) o d  := by
  intro q v hq
  have := en_lt hq
  rw [putL_in _ o xs q (by rw [enVs_len]; exact this) (by rw [enVs_len]; exact h)]
  exact hq
theorem XEn.isIn {w : World} {b o : Nat} {xs : List Value} {d : EnD} (h : BoxV w b xs) (hx : XEn xs o d ) : EnIn w b o d  := fun q v hq => h.cell _ _ (hx q v hq)
/-- The first k stand in the block's cells xs. -/
def EnsTo (xs : List Value) (L : List EnD) (k : Nat) : Prop := ∀ j (h : j < L.length), j < k → XEn xs (j * 9) L[j]
theorem EnsTo.put {k : Nat} {xs : List Value} {L : List EnD} (h : EnsTo xs L k) (hk : k < L.length) (hl : xs.length = L.length * 9) : EnsTo (putL xs (k * 9) (enVs L[k])) L (k + 1) := by
  intro j hj hjk
  by_cases e : j = k
  · subst e
    exact XEn.put (by omega)
  · exact XEn.put_other (h j hj (by omega)) (enVs_len _) (by omega)
/-- v is a slice of such in a block from lo on, below hi, that may be written. -/
def EnzM (lo hi : Nat) (w : World) (v : Value) (L : List EnD) : Prop :=
  ∃ g xs, lo ≤ g ∧ g < hi ∧ v = .slice (some ⟨g, 0, none⟩) L.length L.length ∧ L.length ≤ maxLen ∧ BoxV w g xs ∧ xs.length = L.length * 9 ∧ EnsTo xs L L.length
theorem EnzM.reads {lo hi : Nat} {w : World} {v : Value} {L : List EnD} (h : EnzM lo hi w v L) : Enz w v L := by
  obtain ⟨g, xs, _, _, rfl, hm, hb, _, hc⟩ := h
  refine ⟨some ⟨g, 0, none⟩, _, rfl, hm, ⟨Nat.le_refl _, hm, fun h => by cases h⟩, fun _ => ⟨g, 0, rfl, fun j hj => ?_⟩⟩
  have a := hc j hj hj
  rw [Nat.zero_add]; exact XEn.isIn hb a
theorem EnzM.kept {lo hi : Nat} {w w' : World} {v : Value} {L : List EnD} (h : EnzM lo hi w v L) (s : Stood lo hi w w') : EnzM lo hi w' v L := by
  obtain ⟨g, xs, hg, hh, hv, hm, hb, hl, hc⟩ := h
  exact ⟨g, xs, hg, hh, hv, hm, hb.kept s hg hh, hl, hc⟩
theorem EnzM.more {lo lo' hi hi' : Nat} {w : World} {v : Value} {L : List EnD} (h : EnzM lo hi w v L) (h1 : lo' ≤ lo) (h2 : hi ≤ hi') : EnzM lo' hi' w v L := by
  obtain ⟨g, xs, hg, hh, r⟩ := h
  exact ⟨g, xs, Nat.le_trans h1 hg, Nat.lt_of_lt_of_le hh h2, r⟩
theorem EnzM.form {lo hi : Nat} {w : World} {v : Value} {L : List EnD} (h : EnzM lo hi w v L) : ∃ a c, v = .slice a L.length c := by
  obtain ⟨g, _, _, _, hv, _⟩ := h
  exact ⟨_, _, hv⟩
def NewEnS (L : List EnD) (w : World) (e : Ending) (w' : World) : Prop := ∃ v, e = .returned v ∧ EnzM w.heap.size w'.heap.size w' v L ∧ Ext w w'
theorem setCells_en (w : World) (g o : Nat) (d : EnD) :
    w.setCells g o (enVs d ) = (((((((((w.setCell ⟨g, o, none⟩ (.int .i64 d.r)).setCell ⟨g, o + 1, none⟩ (.int .i64 d.n)).setCell ⟨g, o + 2, none⟩ (.int .i64 d.k)).setCell ⟨g, o + 3, none⟩ (.int .i64 d.i)).setCell ⟨g, o + 4, none⟩ (.int .i64 d.f)).setCell ⟨g, o + 5, none⟩ (.int .i64 d.t)).setCell ⟨g, o + 6, none⟩ (.int .i64 d.a)).setCell ⟨g, o + 7, none⟩ (.int .i64 d.c)).setCell ⟨g, o + 8, none⟩ (.int .i64 d.s)) := rfl
end Go.Proofs.YtcpmfcigciknlaaGreat

namespace Go.Proofs.YtcpmfcigciknlaaGreat
open Go.RowKit
set_option linter.unusedVariables false

def cmdR (r : RowD) : CmdD := ⟨r.k, r.i, r.f, r.t, r.a⟩
noncomputable def bookC (n : Int) (T : List (List RowD)) : List CmdD := (ordPts n T).map fun x => cmdR (rowOf n T x.1 x.2)
theorem bookC_len (n : Int) (T : List (List RowD)) : (bookC n T).length = (ordPts n T).length := by simp [bookC]
def entE (x : Nat × Nat) (d : CmdD) (t : TldD) : EnD := ⟨(x.1 : Int), (x.2 : Int) + 1, d.k, d.i, d.f, d.t, d.a, t.c, t.s⟩
/-- The entries of the first k. -/
def entsTo (P : List (Nat × Nat)) (C : List CmdD) (k : Nat) : List EnD := (List.range k).map fun j => entE (P[j]?.getD (0, 0)) (C[j]?.getD ⟨0, 0, 0, 0, 0⟩) (toldOne (sumsAt C j) (C[j]?.getD ⟨0, 0, 0, 0, 0⟩))
theorem entsTo_len (P : List (Nat × Nat)) (C : List CmdD) (k : Nat) : (entsTo P C k).length = k := by simp [entsTo]
theorem entsTo_at {P : List (Nat × Nat)} {C : List CmdD} {m k : Nat} (hk : k < (entsTo P C m).length) (hP : k < P.length) (hC : k < C.length) : (entsTo P C m)[k] = entE P[k] C[k] (toldOne (sumsAt C k) C[k]) := by
  simp [entsTo, List.getElem?_eq_getElem hP, List.getElem?_eq_getElem hC]
theorem entsTo_succ {P : List (Nat × Nat)} {C : List CmdD} {k : Nat} (hP : k < P.length) (hC : k < C.length) : entsTo P C (k + 1) = entsTo P C k ++ [entE P[k] C[k] (toldOne (sumsAt C k) C[k])] := by
  unfold entsTo
  rw [List.range_succ, List.map_append, List.map_singleton, List.getElem?_eq_getElem hP, List.getElem?_eq_getElem hC]
  rfl
noncomputable def bookE (n : Int) (T : List (List RowD)) : List EnD := entsTo (ordPts n T) (bookC n T) (ordPts n T).length
noncomputable def bookS (n : Int) (T : List (List RowD)) : List Int := sumsAt (bookC n T) (bookC n T).length
noncomputable def bookER (n : Int) (T : List (List RowD)) : List EnD := if goodTab n T then bookE n T else []
noncomputable def bookSR (n : Int) (T : List (List RowD)) : List Int := if goodTab n T then bookS n T else []
theorem ordPts_mem {n : Int} {T : List (List RowD)} (hg : goodTab n T = true) {x : Nat × Nat} (hx : x ∈ ordPts n T) : x ∈ readyL n T := by
  unfold ordPts at hx
  obtain ⟨z, hz, rfl⟩ := List.mem_map.1 hx
  have hpm := orderL_perm (goodG_of (keysB_of (keysP_good hg)).1).1 (keysP n T (readyL n T))
  have h1 := (rangeI_mem _ _).1 (hpm.mem_iff.1 hz)
  have h2 : (graphP n T (readyL n T)).length = (readyL n T).length := by simp [graphP]
  have h3 : z.toNat < (readyL n T).length := by omega
  rw [List.getElem?_eq_getElem h3]
  exact List.getElem_mem h3
theorem ordPts_len {n : Int} {T : List (List RowD)} (hg : goodTab n T = true) : (ordPts n T).length ≤ 30 := by
  have h0 := orderL_perm (goodG_of (keysB_of (keysP_good hg)).1).1 (keysP n T (readyL n T))
  have h1 := h0.length_eq
  have h2 : (graphP n T (readyL n T)).length = (readyL n T).length := by simp [graphP]
  have h3 := readyL_short hg
  unfold ordPts
  rw [List.length_map, h1, rangeI_len]
  omega
theorem ordPts_row {n : Int} {T : List (List RowD)} (hg : goodTab n T = true) {x : Nat × Nat} (hx : x ∈ ordPts n T) :
    goodB (rowOf n T x.1 x.2).k (rowOf n T x.1 x.2).i (rowOf n T x.1 x.2).f (rowOf n T x.1 x.2).t (rowOf n T x.1 x.2).a = true ∧ x.1 < T.length ∧ x.2 ≤ 5 := by
  have h := com_row hg (readyB_com (ready_low hg (ordPts_mem hg hx)).1)
  exact ⟨h.1, h.2.2.1, h.2.2.2⟩
theorem bookC_good {n : Int} {T : List (List RowD)} (hg : goodTab n T = true) : ∀ j (hj : j < (bookC n T).length), goodB (bookC n T)[j].k (bookC n T)[j].i (bookC n T)[j].f (bookC n T)[j].t (bookC n T)[j].a = true := fun j hj => by
  have hm := List.getElem_mem hj
  obtain ⟨x, hx, e⟩ := List.mem_map.1 hm
  have h := (ordPts_row hg hx).1
  rw [← e]
  exact h
theorem bookC_ok {n : Int} {T : List (List RowD)} (hg : goodTab n T = true) : cmdsB (bookC n T) = true := by
  rw [cmdsB_all (bookC_good hg)]
  have := ordPts_len hg
  rw [bookC_len]
  exact decide_eq_true (by omega)
end Go.Proofs.YtcpmfcigciknlaaGreat

namespace Go.Proofs.YtcpmfcigciknlaaGreat
open Go.RowKit

theorem boxV_other_puts {b b' : Nat} (hne : b' ≠ b) : ∀ (vs : List Value) (o : Nat) (w : World) (xs : List Value), BoxV w b xs → BoxV (w.setCells b' o vs) b xs
  | [], _, _, _, h => h
  | v :: r, o, w, xs, h => boxV_other_puts hne r (o + 1) _ _ (h.other _ _ hne)
end Go.Proofs.YtcpmfcigciknlaaGreat

namespace Go.Proofs.YtcpmfcigciknlaaGreat
open Go.RowKit
set_option linter.unusedVariables false

/-- The entry, the sums as they are then: only these have turned. -/
def EnterTo (B : Nat) (u : Value) (l : List Int) (r n k i f t a c s : Int) (w : World) (e : Ending) (w' : World) : Prop :=
  e = .returned (.agg #[.int .i64 r, .int .i64 n, .int .i64 k, .int .i64 i, .int .i64 f, .int .i64 t, .int .i64 a, .int .i64 c, .int .i64 s]) ∧ Fresh B w' u l ∧ w.grownBy w' u.ownBlock
theorem BoxV.but {w w' : World} {b : Nat} {vs : List Value} {r : Option Nat} (h : BoxV w b vs) (t : w.grownBy w' r) (hne : r ≠ some b) : BoxV w' b vs := by
  have hb := t.block b h.lt (fun e => hne e.symm)
  refine ⟨fun j v hj => ?_, fun j hj => ?_, Nat.lt_of_lt_of_le h.lt t.size⟩
  · have := h.cell j v hj
    unfold World.cell? at this ⊢
    rw [hb]
    exact this
  · have := h.free j hj
    unfold World.frozen? at this ⊢
    rw [hb]
    exact this
theorem grown_ext {w w' : World} (h : Ext w w') (r : Option Nat) : w.grownBy w' r := ⟨h.os, h.tape, h.output, h.size, fun k hk _ => Below.block h k hk⟩
theorem cell_but {w w' : World} {a : Addr} {v : Value} {r : Option Nat} (h : w.cell? a = some v) (t : w.grownBy w' r) (hne : r ≠ some a.block) : w'.cell? a = some v := by
  have hb := t.block a.block (block_lt_of_cell h) (fun e => hne e.symm)
  exact (World.cell?_of_block hb).trans h
theorem cell_puts {g : Nat} {a : Addr} {v : Value} (hne : a.block ≠ g) : ∀ (vs : List Value) (o : Nat) {w : World}, w.cell? a = some v → (w.setCells g o vs).cell? a = some v
  | [], _, _, h => h
  | x :: r, o, w, h => cell_puts hne r (o + 1) (by
    have e := Below.heap_setCell w ⟨g, o, none⟩ x a.block (fun e => hne (by first | exact e | exact e.symm))
    exact (World.cell?_of_block e).trans h)
theorem grown_puts {w : World} {g : Nat} {r : Option Nat} (hg : w.heap.size ≤ g) : ∀ (vs : List Value) (o : Nat) {w1 : World}, w.grownBy w1 r → w.grownBy (w1.setCells g o vs) r
  | [], _, _, h => h
  | x :: t, o, w1, h => grown_puts hg t (o + 1) (grown_putD h g o x (.inl hg))
theorem fresh_puts {B g : Nat} {u : Value} {l : List Int} (hne : u.ownBlock ≠ some g) : ∀ (vs : List Value) (o : Nat) {w : World}, Fresh B w u l → Fresh B (w.setCells g o vs) u l
  | [], _, _, h => h
  | x :: t, o, w, h => fresh_puts hne t (o + 1) (World.ownsRow.kept h (grownBy_set w g o x) (by
    cases hu : u.ownBlock with
    | none => exact .inl rfl
    | some q => exact .inr (by rw [← hu]; exact hne)))
theorem grown_trans {w w1 w2 : World} {r : Option Nat} (a : w.grownBy w1 r) (b : w1.grownBy w2 r) : w.grownBy w2 r :=
  ⟨b.os.trans a.os, b.tape.trans a.tape, b.output.trans a.output, Nat.le_trans a.size b.size, fun k hk hne => (b.block k (Nat.lt_of_lt_of_le hk a.size) hne).trans (a.block k hk hne)⟩

set_option maxHeartbeats 4000000 in
set_option maxRecDepth 100000 in
theorem enter_0 (B bm : Nat) (u : Value) (l : List Int) (r n i f t a : Int) (w : World) (hf : Fresh B w u l) (hg : goodS l = true) (hc : goodB 0 i f t a = true) (hb : w.cell? ⟨bm, 0, none⟩ = some u) (hbu : u.ownBlock ≠ some bm) :
    Calls Tryz.prog 69 #[.int .i64 r, .int .i64 n, .agg #[.int .i64 0, .int .i64 i, .int .i64 f, .int .i64 t, .int .i64 a], .pointer (some ⟨bm, 0, none⟩)] w (EnterTo B u (didL 0 f t a l) r n 0 i f t a (didC 0 f a l) (didS 0 f l) w) := by
  obtain ⟨wb, hwb⟩ : ∃ wb, wb = (w.alloc (.cells #[.int .i64 0, .int .i64 i, .int .i64 f, .int .i64 t, .int .i64 a] 77)).alloc (.cells #[.int .i64 0, .int .i64 0, .int .i64 0, .int .i64 0, .int .i64 0, .int .i64 0, .int .i64 0, .int .i64 0, .int .i64 0] 79) := ⟨_, rfl⟩
  have xb : Ext w wb := by rw [hwb]; exact (Ext.alloc (Ext.refl _) _).alloc _
  have sb : wb.heap.size = w.heap.size + 2 := by rw [hwb]; simp
  have bc : BoxV wb w.heap.size [.int .i64 0, .int .i64 i, .int .i64 f, .int .i64 t, .int .i64 a] := by rw [hwb]; exact (boxV_new w [.int .i64 0, .int .i64 i, .int .i64 f, .int .i64 t, .int .i64 a] 77).ext (Ext.alloc (Ext.refl _) _)
  have br : BoxV wb (w.heap.size + 1) [.int .i64 0, .int .i64 0, .int .i64 0, .int .i64 0, .int .i64 0, .int .i64 0, .int .i64 0, .int .i64 0, .int .i64 0] := by
    have h := boxV_new (w.alloc (.cells #[.int .i64 0, .int .i64 i, .int .i64 f, .int .i64 t, .int .i64 a] 77)) [.int .i64 0, .int .i64 0, .int .i64 0, .int .i64 0, .int .i64 0, .int .i64 0, .int .i64 0, .int .i64 0, .int .i64 0] 79
    rw [World.size_alloc, ← hwb] at h
    exact h
  have hbl := block_lt_of_cell hb
  dsimp only at hbl
  have hul : ∀ q, u.ownBlock = some q → q < w.heap.size := fun q hq => (World.ownsRow.lt hf q hq).2
  have HUL := Lib.hid hul
  have HBU := Lib.hid hbu
  have HWB := Lib.hid hwb
  have XB := Lib.hid xb
  have BC := Lib.hid bc
  have BR := Lib.hid br
  have HF := Lib.hid (hf.ext xb)
  have HG := Lib.hid hg
  have HC := Lib.hid hc
  have hb0 := xb.cell hb
  obtain ⟨c, hcc⟩ : ∃ c, c = didC 0 f a l := ⟨_, rfl⟩
  obtain ⟨s, hss⟩ : ∃ s, s = didS 0 f l := ⟨_, rfl⟩
  have HCC := Lib.hid hcc
  have HSS := Lib.hid hss
  have NR : Hid (u.ownBlock ≠ some (w.heap.size + 1)) := Lib.hid (fun e => by have := hul _ e; omega)
  have NC : Hid (u.ownBlock ≠ some w.heap.size) := Lib.hid (fun e => by have := hul _ e; omega)
  rw [← hcc, ← hss]
  clear hf hg hc hb hbu hwb xb bc br hul hcc hss
  go_enter Tryz.func69, Tryz.ntmps69
  go_wp2
  rw [← HWB.out]
  have hm := meth_0
  have KS : Hid (∀ V, Ext wb V → V.cell? ⟨w.heap.size, 0, none⟩ = some (.int .i64 0) ∧ V.cell? ⟨w.heap.size, 1, none⟩ = some (.int .i64 i) ∧ V.cell? ⟨w.heap.size, 2, none⟩ = some (.int .i64 f) ∧ V.cell? ⟨w.heap.size, 3, none⟩ = some (.int .i64 t) ∧ V.cell? ⟨w.heap.size, 4, none⟩ = some (.int .i64 a) ∧ V.cell? ⟨bm, 0, none⟩ = some u) := Lib.hid (fun V hV => by
    have h := BC.out.ext hV
    exact ⟨h.cell 0 _ rfl, h.cell 1 _ rfl, h.cell 2 _ rfl, h.cell 3 _ rfl, h.cell 4 _ rfl, hV.cell hb0⟩)
  have HR := Lib.hid (Ext.drew (Ext.refl wb))
  have HB0 := Lib.hid hb0
  have HBM := Lib.hid hbl
  clear hb0 hbl
  go_region_held3 (fun V => V.cell? ⟨w.heap.size, 0, none⟩ = some (.int .i64 0) ∧ V.cell? ⟨w.heap.size, 1, none⟩ = some (.int .i64 i) ∧ V.cell? ⟨w.heap.size, 2, none⟩ = some (.int .i64 f) ∧ V.cell? ⟨w.heap.size, 3, none⟩ = some (.int .i64 t) ∧ V.cell? ⟨w.heap.size, 4, none⟩ = some (.int .i64 a) ∧ V.cell? ⟨bm, 0, none⟩ = some u) (first | (with_reducible exact KS.out _ HR.out) | (with_reducible exact KS.out _ X4.out) | (with_reducible exact K5.out) | (exact K6.out)) (first
    | (go_at_call 70; refine (deedOf_0 _ _ _ _ _).mono ?_; rintro e w4 ⟨rfl, x4'⟩; unfold deedV; rw [if_neg (by decide), if_neg (by decide)]; have x4 : Ext wb w4 := (Ext.drew (Ext.refl _)).trans x4'; have X4 := Lib.hid x4)
    | (go_at_call 282; have F4 := Lib.hid (Fresh.ext HF.out x4); refine (did_0 (f := f) (t := t) (a := a) F4.out).mono ?_; rintro e w5 ⟨rfl, f5, g5⟩; rw [← HCC.out, ← HSS.out]; have B5 := BoxV.but (BC.out.ext x4) g5 NC.out; have R5 := BoxV.but (BR.out.ext x4) g5 NR.out; have hu5 := cell_but (x4.cell HB0.out) g5 HBU.out; have K5 := Lib.hid (And.intro (B5.cell 0 _ rfl) (And.intro (B5.cell 1 _ rfl) (And.intro (B5.cell 2 _ rfl) (And.intro (B5.cell 3 _ rfl) (And.intro (B5.cell 4 _ rfl) hu5))))); have B6 := boxV_other_puts (b := w.heap.size) (b' := w.heap.size + 1) (by omega) [.int .i64 r, .int .i64 n, .int .i64 0, .int .i64 i, .int .i64 f, .int .i64 t, .int .i64 a, .int .i64 c, .int .i64 s] 0 _ _ B5; have K6 := Lib.hid (And.intro (B6.cell 0 _ rfl) (And.intro (B6.cell 1 _ rfl) (And.intro (B6.cell 2 _ rfl) (And.intro (B6.cell 3 _ rfl) (And.intro (B6.cell 4 _ rfl) (cell_puts (g := w.heap.size + 1) (by dsimp only; have := HBM.out; omega) [.int .i64 r, .int .i64 n, .int .i64 0, .int .i64 i, .int .i64 f, .int .i64 t, .int .i64 a, .int .i64 c, .int .i64 s] 0 hu5)))))); have y0 := R5.cell 0 _ rfl; have z0 := R5.free 0 (of_decide_eq_true rfl); have y1 := R5.cell 1 _ rfl; have z1 := R5.free 1 (of_decide_eq_true rfl); have y2 := R5.cell 2 _ rfl; have z2 := R5.free 2 (of_decide_eq_true rfl); have y3 := R5.cell 3 _ rfl; have z3 := R5.free 3 (of_decide_eq_true rfl); have y4 := R5.cell 4 _ rfl; have z4 := R5.free 4 (of_decide_eq_true rfl); have y5 := R5.cell 5 _ rfl; have z5 := R5.free 5 (of_decide_eq_true rfl); have y6 := R5.cell 6 _ rfl; have z6 := R5.free 6 (of_decide_eq_true rfl); have y7 := R5.cell 7 _ rfl; have z7 := R5.free 7 (of_decide_eq_true rfl); have y8 := R5.cell 8 _ rfl; have z8 := R5.free 8 (of_decide_eq_true rfl)))
  have R6 := boxV_puts [.int .i64 r, .int .i64 n, .int .i64 0, .int .i64 i, .int .i64 f, .int .i64 t, .int .i64 a, .int .i64 c, .int .i64 s] 0 _ _ R5 (of_decide_eq_true rfl)
  have hgr : w.grownBy (w5.setCells (w.heap.size + 1) 0 [.int .i64 r, .int .i64 n, .int .i64 0, .int .i64 i, .int .i64 f, .int .i64 t, .int .i64 a, .int .i64 c, .int .i64 s]) u.ownBlock := grown_puts (by omega) [.int .i64 r, .int .i64 n, .int .i64 0, .int .i64 i, .int .i64 f, .int .i64 t, .int .i64 a, .int .i64 c, .int .i64 s] 0 (grown_trans (grown_ext (XB.out.trans x4) _) g5)
  have hfr : Fresh B (w5.setCells (w.heap.size + 1) 0 [.int .i64 r, .int .i64 n, .int .i64 0, .int .i64 i, .int .i64 f, .int .i64 t, .int .i64 a, .int .i64 c, .int .i64 s]) u (didL 0 f t a l) := fresh_puts NR.out [.int .i64 r, .int .i64 n, .int .i64 0, .int .i64 i, .int .i64 f, .int .i64 t, .int .i64 a, .int .i64 c, .int .i64 s] 0 f5
  obtain ⟨wz, hwz⟩ : ∃ wz, wz = w5.setCells (w.heap.size + 1) 0 [.int .i64 r, .int .i64 n, .int .i64 0, .int .i64 i, .int .i64 f, .int .i64 t, .int .i64 a, .int .i64 c, .int .i64 s] := ⟨_, rfl⟩
  have HWZ := hwz
  simp only [World.setCells] at HWZ
  rw [← hwz] at R6 hgr hfr
  have r0 := R6.cell 0 _ rfl
  have r1 := R6.cell 1 _ rfl
  have r2 := R6.cell 2 _ rfl
  have r3 := R6.cell 3 _ rfl
  have r4 := R6.cell 4 _ rfl
  have r5 := R6.cell 5 _ rfl
  have r6 := R6.cell 6 _ rfl
  have r7 := R6.cell 7 _ rfl
  have r8 := R6.cell 8 _ rfl
  clear K5 K6 B5 B6 R5 f5 g5 hu5 y0 z0 y1 z1 y2 z2 y3 z3 y4 z4 y5 z5 y6 z6 y7 z7 y8 z8
  go_wp2
  first | rw [← HWZ] | skip
  exact bodyPost_ret (v := .agg #[.int .i64 r, .int .i64 n, .int .i64 0, .int .i64 i, .int .i64 f, .int .i64 t, .int .i64 a, .int .i64 c, .int .i64 s]) (by simp [results, Tryz.results69, go_sem, r0, r1, r2, r3, r4, r5, r6, r7, r8]) rfl ⟨rfl, hfr, hgr⟩

set_option maxHeartbeats 4000000 in
set_option maxRecDepth 100000 in
theorem enter_1 (B bm : Nat) (u : Value) (l : List Int) (r n i f t a : Int) (w : World) (hf : Fresh B w u l) (hg : goodS l = true) (hc : goodB 1 i f t a = true) (hb : w.cell? ⟨bm, 0, none⟩ = some u) (hbu : u.ownBlock ≠ some bm) :
    Calls Tryz.prog 69 #[.int .i64 r, .int .i64 n, .agg #[.int .i64 1, .int .i64 i, .int .i64 f, .int .i64 t, .int .i64 a], .pointer (some ⟨bm, 0, none⟩)] w (EnterTo B u (didL 1 f t a l) r n 1 i f t a (didC 1 f a l) (didS 1 f l) w) := by
  obtain ⟨wb, hwb⟩ : ∃ wb, wb = (w.alloc (.cells #[.int .i64 1, .int .i64 i, .int .i64 f, .int .i64 t, .int .i64 a] 77)).alloc (.cells #[.int .i64 0, .int .i64 0, .int .i64 0, .int .i64 0, .int .i64 0, .int .i64 0, .int .i64 0, .int .i64 0, .int .i64 0] 79) := ⟨_, rfl⟩
  have xb : Ext w wb := by rw [hwb]; exact (Ext.alloc (Ext.refl _) _).alloc _
  have sb : wb.heap.size = w.heap.size + 2 := by rw [hwb]; simp
  have bc : BoxV wb w.heap.size [.int .i64 1, .int .i64 i, .int .i64 f, .int .i64 t, .int .i64 a] := by rw [hwb]; exact (boxV_new w [.int .i64 1, .int .i64 i, .int .i64 f, .int .i64 t, .int .i64 a] 77).ext (Ext.alloc (Ext.refl _) _)
  have br : BoxV wb (w.heap.size + 1) [.int .i64 0, .int .i64 0, .int .i64 0, .int .i64 0, .int .i64 0, .int .i64 0, .int .i64 0, .int .i64 0, .int .i64 0] := by
    have h := boxV_new (w.alloc (.cells #[.int .i64 1, .int .i64 i, .int .i64 f, .int .i64 t, .int .i64 a] 77)) [.int .i64 0, .int .i64 0, .int .i64 0, .int .i64 0, .int .i64 0, .int .i64 0, .int .i64 0, .int .i64 0, .int .i64 0] 79
    rw [World.size_alloc, ← hwb] at h
    exact h
  have hbl := block_lt_of_cell hb
  dsimp only at hbl
  have hul : ∀ q, u.ownBlock = some q → q < w.heap.size := fun q hq => (World.ownsRow.lt hf q hq).2
  have HUL := Lib.hid hul
  have HBU := Lib.hid hbu
  have HWB := Lib.hid hwb
  have XB := Lib.hid xb
  have BC := Lib.hid bc
  have BR := Lib.hid br
  have HF := Lib.hid (hf.ext xb)
  have HG := Lib.hid hg
  have HC := Lib.hid hc
  have hb0 := xb.cell hb
  obtain ⟨c, hcc⟩ : ∃ c, c = didC 1 f a l := ⟨_, rfl⟩
  obtain ⟨s, hss⟩ : ∃ s, s = didS 1 f l := ⟨_, rfl⟩
  have HCC := Lib.hid hcc
  have HSS := Lib.hid hss
  have NR : Hid (u.ownBlock ≠ some (w.heap.size + 1)) := Lib.hid (fun e => by have := hul _ e; omega)
  have NC : Hid (u.ownBlock ≠ some w.heap.size) := Lib.hid (fun e => by have := hul _ e; omega)
  rw [← hcc, ← hss]
  clear hf hg hc hb hbu hwb xb bc br hul hcc hss
  go_enter Tryz.func69, Tryz.ntmps69
  go_wp2
  rw [← HWB.out]
  have hm := meth_1 f t a
  have KS : Hid (∀ V, Ext wb V → V.cell? ⟨w.heap.size, 0, none⟩ = some (.int .i64 1) ∧ V.cell? ⟨w.heap.size, 1, none⟩ = some (.int .i64 i) ∧ V.cell? ⟨w.heap.size, 2, none⟩ = some (.int .i64 f) ∧ V.cell? ⟨w.heap.size, 3, none⟩ = some (.int .i64 t) ∧ V.cell? ⟨w.heap.size, 4, none⟩ = some (.int .i64 a) ∧ V.cell? ⟨bm, 0, none⟩ = some u) := Lib.hid (fun V hV => by
    have h := BC.out.ext hV
    exact ⟨h.cell 0 _ rfl, h.cell 1 _ rfl, h.cell 2 _ rfl, h.cell 3 _ rfl, h.cell 4 _ rfl, hV.cell hb0⟩)
  have HR := Lib.hid (Ext.drew (Ext.refl wb))
  have HB0 := Lib.hid hb0
  have HBM := Lib.hid hbl
  clear hb0 hbl
  go_region_held3 (fun V => V.cell? ⟨w.heap.size, 0, none⟩ = some (.int .i64 1) ∧ V.cell? ⟨w.heap.size, 1, none⟩ = some (.int .i64 i) ∧ V.cell? ⟨w.heap.size, 2, none⟩ = some (.int .i64 f) ∧ V.cell? ⟨w.heap.size, 3, none⟩ = some (.int .i64 t) ∧ V.cell? ⟨w.heap.size, 4, none⟩ = some (.int .i64 a) ∧ V.cell? ⟨bm, 0, none⟩ = some u) (first | (with_reducible exact KS.out _ HR.out) | (with_reducible exact KS.out _ X4.out) | (with_reducible exact K5.out) | (exact K6.out)) (first
    | (go_at_call 70; refine (deedOf_1 _ _ _ _ _).mono ?_; rintro e w4 ⟨rfl, x4'⟩; unfold deedV; rw [if_pos rfl]; have x4 : Ext wb w4 := (Ext.drew (Ext.refl _)).trans x4'; have X4 := Lib.hid x4)
    | (go_at_call 280; have F4 := Lib.hid (Fresh.ext HF.out x4); refine (did_1 HG.out HC.out F4.out).mono ?_; rintro e w5 ⟨rfl, f5, g5⟩; rw [← HCC.out, ← HSS.out]; have B5 := BoxV.but (BC.out.ext x4) g5 NC.out; have R5 := BoxV.but (BR.out.ext x4) g5 NR.out; have hu5 := cell_but (x4.cell HB0.out) g5 HBU.out; have K5 := Lib.hid (And.intro (B5.cell 0 _ rfl) (And.intro (B5.cell 1 _ rfl) (And.intro (B5.cell 2 _ rfl) (And.intro (B5.cell 3 _ rfl) (And.intro (B5.cell 4 _ rfl) hu5))))); have B6 := boxV_other_puts (b := w.heap.size) (b' := w.heap.size + 1) (by omega) [.int .i64 r, .int .i64 n, .int .i64 1, .int .i64 i, .int .i64 f, .int .i64 t, .int .i64 a, .int .i64 c, .int .i64 s] 0 _ _ B5; have K6 := Lib.hid (And.intro (B6.cell 0 _ rfl) (And.intro (B6.cell 1 _ rfl) (And.intro (B6.cell 2 _ rfl) (And.intro (B6.cell 3 _ rfl) (And.intro (B6.cell 4 _ rfl) (cell_puts (g := w.heap.size + 1) (by dsimp only; have := HBM.out; omega) [.int .i64 r, .int .i64 n, .int .i64 1, .int .i64 i, .int .i64 f, .int .i64 t, .int .i64 a, .int .i64 c, .int .i64 s] 0 hu5)))))); have y0 := R5.cell 0 _ rfl; have z0 := R5.free 0 (of_decide_eq_true rfl); have y1 := R5.cell 1 _ rfl; have z1 := R5.free 1 (of_decide_eq_true rfl); have y2 := R5.cell 2 _ rfl; have z2 := R5.free 2 (of_decide_eq_true rfl); have y3 := R5.cell 3 _ rfl; have z3 := R5.free 3 (of_decide_eq_true rfl); have y4 := R5.cell 4 _ rfl; have z4 := R5.free 4 (of_decide_eq_true rfl); have y5 := R5.cell 5 _ rfl; have z5 := R5.free 5 (of_decide_eq_true rfl); have y6 := R5.cell 6 _ rfl; have z6 := R5.free 6 (of_decide_eq_true rfl); have y7 := R5.cell 7 _ rfl; have z7 := R5.free 7 (of_decide_eq_true rfl); have y8 := R5.cell 8 _ rfl; have z8 := R5.free 8 (of_decide_eq_true rfl)))
  have R6 := boxV_puts [.int .i64 r, .int .i64 n, .int .i64 1, .int .i64 i, .int .i64 f, .int .i64 t, .int .i64 a, .int .i64 c, .int .i64 s] 0 _ _ R5 (of_decide_eq_true rfl)
  have hgr : w.grownBy (w5.setCells (w.heap.size + 1) 0 [.int .i64 r, .int .i64 n, .int .i64 1, .int .i64 i, .int .i64 f, .int .i64 t, .int .i64 a, .int .i64 c, .int .i64 s]) u.ownBlock := grown_puts (by omega) [.int .i64 r, .int .i64 n, .int .i64 1, .int .i64 i, .int .i64 f, .int .i64 t, .int .i64 a, .int .i64 c, .int .i64 s] 0 (grown_trans (grown_ext (XB.out.trans x4) _) g5)
  have hfr : Fresh B (w5.setCells (w.heap.size + 1) 0 [.int .i64 r, .int .i64 n, .int .i64 1, .int .i64 i, .int .i64 f, .int .i64 t, .int .i64 a, .int .i64 c, .int .i64 s]) u (didL 1 f t a l) := fresh_puts NR.out [.int .i64 r, .int .i64 n, .int .i64 1, .int .i64 i, .int .i64 f, .int .i64 t, .int .i64 a, .int .i64 c, .int .i64 s] 0 f5
  obtain ⟨wz, hwz⟩ : ∃ wz, wz = w5.setCells (w.heap.size + 1) 0 [.int .i64 r, .int .i64 n, .int .i64 1, .int .i64 i, .int .i64 f, .int .i64 t, .int .i64 a, .int .i64 c, .int .i64 s] := ⟨_, rfl⟩
  have HWZ := hwz
  simp only [World.setCells] at HWZ
  rw [← hwz] at R6 hgr hfr
  have r0 := R6.cell 0 _ rfl
  have r1 := R6.cell 1 _ rfl
  have r2 := R6.cell 2 _ rfl
  have r3 := R6.cell 3 _ rfl
  have r4 := R6.cell 4 _ rfl
  have r5 := R6.cell 5 _ rfl
  have r6 := R6.cell 6 _ rfl
  have r7 := R6.cell 7 _ rfl
  have r8 := R6.cell 8 _ rfl
  clear K5 K6 B5 B6 R5 f5 g5 hu5 y0 z0 y1 z1 y2 z2 y3 z3 y4 z4 y5 z5 y6 z6 y7 z7 y8 z8
  go_wp2
  first | rw [← HWZ] | skip
  exact bodyPost_ret (v := .agg #[.int .i64 r, .int .i64 n, .int .i64 1, .int .i64 i, .int .i64 f, .int .i64 t, .int .i64 a, .int .i64 c, .int .i64 s]) (by simp [results, Tryz.results69, go_sem, r0, r1, r2, r3, r4, r5, r6, r7, r8]) rfl ⟨rfl, hfr, hgr⟩

set_option maxHeartbeats 4000000 in
set_option maxRecDepth 100000 in
theorem enter_2 (B bm : Nat) (u : Value) (l : List Int) (r n i f t a : Int) (w : World) (hf : Fresh B w u l) (hg : goodS l = true) (hc : goodB 2 i f t a = true) (hb : w.cell? ⟨bm, 0, none⟩ = some u) (hbu : u.ownBlock ≠ some bm) :
    Calls Tryz.prog 69 #[.int .i64 r, .int .i64 n, .agg #[.int .i64 2, .int .i64 i, .int .i64 f, .int .i64 t, .int .i64 a], .pointer (some ⟨bm, 0, none⟩)] w (EnterTo B u (didL 2 f t a l) r n 2 i f t a (didC 2 f a l) (didS 2 f l) w) := by
  obtain ⟨wb, hwb⟩ : ∃ wb, wb = (w.alloc (.cells #[.int .i64 2, .int .i64 i, .int .i64 f, .int .i64 t, .int .i64 a] 77)).alloc (.cells #[.int .i64 0, .int .i64 0, .int .i64 0, .int .i64 0, .int .i64 0, .int .i64 0, .int .i64 0, .int .i64 0, .int .i64 0] 79) := ⟨_, rfl⟩
  have xb : Ext w wb := by rw [hwb]; exact (Ext.alloc (Ext.refl _) _).alloc _
  have sb : wb.heap.size = w.heap.size + 2 := by rw [hwb]; simp
  have bc : BoxV wb w.heap.size [.int .i64 2, .int .i64 i, .int .i64 f, .int .i64 t, .int .i64 a] := by rw [hwb]; exact (boxV_new w [.int .i64 2, .int .i64 i, .int .i64 f, .int .i64 t, .int .i64 a] 77).ext (Ext.alloc (Ext.refl _) _)
  have br : BoxV wb (w.heap.size + 1) [.int .i64 0, .int .i64 0, .int .i64 0, .int .i64 0, .int .i64 0, .int .i64 0, .int .i64 0, .int .i64 0, .int .i64 0] := by
    have h := boxV_new (w.alloc (.cells #[.int .i64 2, .int .i64 i, .int .i64 f, .int .i64 t, .int .i64 a] 77)) [.int .i64 0, .int .i64 0, .int .i64 0, .int .i64 0, .int .i64 0, .int .i64 0, .int .i64 0, .int .i64 0, .int .i64 0] 79
    rw [World.size_alloc, ← hwb] at h
    exact h
  have hbl := block_lt_of_cell hb
  dsimp only at hbl
  have hul : ∀ q, u.ownBlock = some q → q < w.heap.size := fun q hq => (World.ownsRow.lt hf q hq).2
  have HUL := Lib.hid hul
  have HBU := Lib.hid hbu
  have HWB := Lib.hid hwb
  have XB := Lib.hid xb
  have BC := Lib.hid bc
  have BR := Lib.hid br
  have HF := Lib.hid (hf.ext xb)
  have HG := Lib.hid hg
  have HC := Lib.hid hc
  have hb0 := xb.cell hb
  obtain ⟨c, hcc⟩ : ∃ c, c = didC 2 f a l := ⟨_, rfl⟩
  obtain ⟨s, hss⟩ : ∃ s, s = didS 2 f l := ⟨_, rfl⟩
  have HCC := Lib.hid hcc
  have HSS := Lib.hid hss
  have NR : Hid (u.ownBlock ≠ some (w.heap.size + 1)) := Lib.hid (fun e => by have := hul _ e; omega)
  have NC : Hid (u.ownBlock ≠ some w.heap.size) := Lib.hid (fun e => by have := hul _ e; omega)
  rw [← hcc, ← hss]
  clear hf hg hc hb hbu hwb xb bc br hul hcc hss
  go_enter Tryz.func69, Tryz.ntmps69
  go_wp2
  rw [← HWB.out]
  have hm := meth_2 f
  have KS : Hid (∀ V, Ext wb V → V.cell? ⟨w.heap.size, 0, none⟩ = some (.int .i64 2) ∧ V.cell? ⟨w.heap.size, 1, none⟩ = some (.int .i64 i) ∧ V.cell? ⟨w.heap.size, 2, none⟩ = some (.int .i64 f) ∧ V.cell? ⟨w.heap.size, 3, none⟩ = some (.int .i64 t) ∧ V.cell? ⟨w.heap.size, 4, none⟩ = some (.int .i64 a) ∧ V.cell? ⟨bm, 0, none⟩ = some u) := Lib.hid (fun V hV => by
    have h := BC.out.ext hV
    exact ⟨h.cell 0 _ rfl, h.cell 1 _ rfl, h.cell 2 _ rfl, h.cell 3 _ rfl, h.cell 4 _ rfl, hV.cell hb0⟩)
  have HR := Lib.hid (Ext.drew (Ext.refl wb))
  have HB0 := Lib.hid hb0
  have HBM := Lib.hid hbl
  clear hb0 hbl
  go_region_held3 (fun V => V.cell? ⟨w.heap.size, 0, none⟩ = some (.int .i64 2) ∧ V.cell? ⟨w.heap.size, 1, none⟩ = some (.int .i64 i) ∧ V.cell? ⟨w.heap.size, 2, none⟩ = some (.int .i64 f) ∧ V.cell? ⟨w.heap.size, 3, none⟩ = some (.int .i64 t) ∧ V.cell? ⟨w.heap.size, 4, none⟩ = some (.int .i64 a) ∧ V.cell? ⟨bm, 0, none⟩ = some u) (first | (with_reducible exact KS.out _ HR.out) | (with_reducible exact KS.out _ X4.out) | (with_reducible exact K5.out) | (exact K6.out)) (first
    | (go_at_call 70; refine (deedOf_2 _ _ _ _ _).mono ?_; rintro e w4 ⟨rfl, x4'⟩; unfold deedV; rw [if_neg (by decide), if_pos rfl]; have x4 : Ext wb w4 := (Ext.drew (Ext.refl _)).trans x4'; have X4 := Lib.hid x4)
    | (go_at_call 281; have F4 := Lib.hid (Fresh.ext HF.out x4); refine (did_2 HG.out HC.out F4.out).mono ?_; rintro e w5 ⟨rfl, f5, g5⟩; rw [← HCC.out, ← HSS.out]; have B5 := BoxV.but (BC.out.ext x4) g5 NC.out; have R5 := BoxV.but (BR.out.ext x4) g5 NR.out; have hu5 := cell_but (x4.cell HB0.out) g5 HBU.out; have K5 := Lib.hid (And.intro (B5.cell 0 _ rfl) (And.intro (B5.cell 1 _ rfl) (And.intro (B5.cell 2 _ rfl) (And.intro (B5.cell 3 _ rfl) (And.intro (B5.cell 4 _ rfl) hu5))))); have B6 := boxV_other_puts (b := w.heap.size) (b' := w.heap.size + 1) (by omega) [.int .i64 r, .int .i64 n, .int .i64 2, .int .i64 i, .int .i64 f, .int .i64 t, .int .i64 a, .int .i64 c, .int .i64 s] 0 _ _ B5; have K6 := Lib.hid (And.intro (B6.cell 0 _ rfl) (And.intro (B6.cell 1 _ rfl) (And.intro (B6.cell 2 _ rfl) (And.intro (B6.cell 3 _ rfl) (And.intro (B6.cell 4 _ rfl) (cell_puts (g := w.heap.size + 1) (by dsimp only; have := HBM.out; omega) [.int .i64 r, .int .i64 n, .int .i64 2, .int .i64 i, .int .i64 f, .int .i64 t, .int .i64 a, .int .i64 c, .int .i64 s] 0 hu5)))))); have y0 := R5.cell 0 _ rfl; have z0 := R5.free 0 (of_decide_eq_true rfl); have y1 := R5.cell 1 _ rfl; have z1 := R5.free 1 (of_decide_eq_true rfl); have y2 := R5.cell 2 _ rfl; have z2 := R5.free 2 (of_decide_eq_true rfl); have y3 := R5.cell 3 _ rfl; have z3 := R5.free 3 (of_decide_eq_true rfl); have y4 := R5.cell 4 _ rfl; have z4 := R5.free 4 (of_decide_eq_true rfl); have y5 := R5.cell 5 _ rfl; have z5 := R5.free 5 (of_decide_eq_true rfl); have y6 := R5.cell 6 _ rfl; have z6 := R5.free 6 (of_decide_eq_true rfl); have y7 := R5.cell 7 _ rfl; have z7 := R5.free 7 (of_decide_eq_true rfl); have y8 := R5.cell 8 _ rfl; have z8 := R5.free 8 (of_decide_eq_true rfl)))
  have R6 := boxV_puts [.int .i64 r, .int .i64 n, .int .i64 2, .int .i64 i, .int .i64 f, .int .i64 t, .int .i64 a, .int .i64 c, .int .i64 s] 0 _ _ R5 (of_decide_eq_true rfl)
  have hgr : w.grownBy (w5.setCells (w.heap.size + 1) 0 [.int .i64 r, .int .i64 n, .int .i64 2, .int .i64 i, .int .i64 f, .int .i64 t, .int .i64 a, .int .i64 c, .int .i64 s]) u.ownBlock := grown_puts (by omega) [.int .i64 r, .int .i64 n, .int .i64 2, .int .i64 i, .int .i64 f, .int .i64 t, .int .i64 a, .int .i64 c, .int .i64 s] 0 (grown_trans (grown_ext (XB.out.trans x4) _) g5)
  have hfr : Fresh B (w5.setCells (w.heap.size + 1) 0 [.int .i64 r, .int .i64 n, .int .i64 2, .int .i64 i, .int .i64 f, .int .i64 t, .int .i64 a, .int .i64 c, .int .i64 s]) u (didL 2 f t a l) := fresh_puts NR.out [.int .i64 r, .int .i64 n, .int .i64 2, .int .i64 i, .int .i64 f, .int .i64 t, .int .i64 a, .int .i64 c, .int .i64 s] 0 f5
  obtain ⟨wz, hwz⟩ : ∃ wz, wz = w5.setCells (w.heap.size + 1) 0 [.int .i64 r, .int .i64 n, .int .i64 2, .int .i64 i, .int .i64 f, .int .i64 t, .int .i64 a, .int .i64 c, .int .i64 s] := ⟨_, rfl⟩
  have HWZ := hwz
  simp only [World.setCells] at HWZ
  rw [← hwz] at R6 hgr hfr
  have r0 := R6.cell 0 _ rfl
  have r1 := R6.cell 1 _ rfl
  have r2 := R6.cell 2 _ rfl
  have r3 := R6.cell 3 _ rfl
  have r4 := R6.cell 4 _ rfl
  have r5 := R6.cell 5 _ rfl
  have r6 := R6.cell 6 _ rfl
  have r7 := R6.cell 7 _ rfl
  have r8 := R6.cell 8 _ rfl
  clear K5 K6 B5 B6 R5 f5 g5 hu5 y0 z0 y1 z1 y2 z2 y3 z3 y4 z4 y5 z5 y6 z6 y7 z7 y8 z8
  go_wp2
  first | rw [← HWZ] | skip
  exact bodyPost_ret (v := .agg #[.int .i64 r, .int .i64 n, .int .i64 2, .int .i64 i, .int .i64 f, .int .i64 t, .int .i64 a, .int .i64 c, .int .i64 s]) (by simp [results, Tryz.results69, go_sem, r0, r1, r2, r3, r4, r5, r6, r7, r8]) rfl ⟨rfl, hfr, hgr⟩

theorem enter_any (B bm : Nat) (u : Value) (l : List Int) (r n k i f t a : Int) (w : World) (hf : Fresh B w u l) (hg : goodS l = true) (hc : goodB k i f t a = true) (hb : w.cell? ⟨bm, 0, none⟩ = some u) (hbu : u.ownBlock ≠ some bm) :
    Calls Tryz.prog 69 #[.int .i64 r, .int .i64 n, .agg #[.int .i64 k, .int .i64 i, .int .i64 f, .int .i64 t, .int .i64 a], .pointer (some ⟨bm, 0, none⟩)] w (EnterTo B u (didL k f t a l) r n k i f t a (didC k f a l) (didS k f l) w) := by
  rcases good_kind hc with rfl | rfl | rfl
  · exact enter_0 B bm u l r n i f t a w hf hg hc hb hbu
  · exact enter_1 B bm u l r n i f t a w hf hg hc hb hbu
  · exact enter_2 B bm u l r n i f t a w hf hg hc hb hbu
end Go.Proofs.YtcpmfcigciknlaaGreat
