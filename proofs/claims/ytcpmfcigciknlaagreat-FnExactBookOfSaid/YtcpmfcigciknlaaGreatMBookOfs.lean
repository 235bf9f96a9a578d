/- Texts of this proof, part s: words, plain facts, contracts. -/
import Derived.Test.YtcpmfcigciknlaaGreatMBookOfa
import Derived.Test.YtcpmfcigciknlaaGreatMBookOfr
import Derived.Test.YtcpmfcigciknlaaGreatMBookOfb
import Derived.Test.YtcpmfcigciknlaaGreatMBookOfc
import Derived.BigRegion
import Derived.Deep.DeepCutAuto
import Derived.Test.YtcpmfcigciknlaaGreatMBookOfe
import Derived.Test.YtcpmfcigciknlaaGreatMBookOfd
import Derived.Test.YtcpmfcigciknlaaGreatMBookOfg

namespace Go.Proofs.YtcpmfcigciknlaaGreat
open Go.RowKit
set_option linter.unusedVariables false

structure TldD where
  c : Int
  s : Int
def tdVs (d : TldD) : List Value := [.int .i64 d.c, .int .i64 d.s]
theorem tdVs_len (d : TldD) : (tdVs d ).length = 2 := rfl
def TdIn (w : World) (b o : Nat) (d : TldD) : Prop := ∀ j v, (tdVs d )[j]? = some v → w.cell? ⟨b, o + j, none⟩ = some v
theorem TdIn.ext {w w' : World} {b o : Nat} {d : TldD} (h : TdIn w b o d ) (e : Ext w w') : TdIn w' b o d  := fun j v hj => e.cell (h j v hj)
theorem tdIn_cells {w : World} {b o : Nat} {d : TldD} (h : TdIn w b o d ) :
    w.cell? ⟨b, o, none⟩ = some (.int .i64 d.c) ∧ w.cell? ⟨b, o + 1, none⟩ = some (.int .i64 d.s) :=
  ⟨h 0 _ rfl, h 1 _ rfl⟩
theorem td_cells {w : World} {b : Nat} {d : TldD} (h : BoxV w b (tdVs d )) :
    w.cell? ⟨b, 0, none⟩ = some (.int .i64 d.c) ∧ w.cell? ⟨b, 1, none⟩ = some (.int .i64 d.s) :=
  ⟨h.cell 0 _ rfl, h.cell 1 _ rfl⟩
theorem td_box (w : World) (T : TypeId) (d : TldD) : BoxV (w.alloc (.cells #[.int .i64 d.c, .int .i64 d.s] T)) w.heap.size (tdVs d ) := boxV_new w (tdVs d ) T
/-- v is a slice that reads as L in w. -/
def Tdz (w : World) (v : Value) (L : List TldD) : Prop :=
  ∃ ao cap, v = .slice ao L.length cap ∧ L.length ≤ maxLen ∧ (L.length ≤ cap ∧ cap ≤ maxLen ∧ (ao = none → cap = 0)) ∧
    (0 < L.length → ∃ b off, ao = some ⟨b, off, none⟩ ∧ ∀ j (h : j < L.length), TdIn w b (off + j * 2) L[j] )
theorem Tdz.ext {w w' : World} {v : Value} {L : List TldD} (h : Tdz w v L) (e : Ext w w') : Tdz w' v L := by
  obtain ⟨ao, cap, hv, hm, hcap, hc⟩ := h
  refine ⟨ao, cap, hv, hm, hcap, fun hp => ?_⟩
  obtain ⟨b, off, ha, hc⟩ := hc hp
  refine ⟨b, off, ha, fun j hj => ?_⟩
  have hu := hc j hj
  exact hu.ext e
theorem Tdz.nil (w : World) : Tdz w (.slice none 0 0) [] := ⟨none, 0, rfl, by simp, ⟨by simp, by simp, fun _ => rfl⟩, fun h => by simp at h⟩
def bulk1Td (d : TldD) : Nat := 0
def weighTd (L : List TldD) : List Nat := L.map bulk1Td
theorem weighTd_len (L : List TldD) : (weighTd L).length = L.length := by simp [weighTd]
theorem weighTd_get {L : List TldD} {k : Nat} (h : k < L.length) : (weighTd L)[k]'(by rw [weighTd_len]; exact h) = bulk1Td L[k] := by simp [weighTd]
def bulkTd (L : List TldD) : Nat := L.length + (weighTd L).sum
theorem bulkTd_at {L : List TldD} {j : Nat} (h : j < L.length) : bulk1Td L[j] ≤ bulkTd L := by
  unfold bulkTd weighTd
  have := len_le_sum (L.map bulk1Td) _ (List.mem_map.2 ⟨L[j], List.getElem_mem h, rfl⟩)
  omega
/-- From o on the list xs has the cells of the element. -/
def XTd (xs : List Value) (o : Nat) (d : TldD) : Prop := ∀ q v, (tdVs d )[q]? = some v → xs[o + q]? = some v
theorem td_lt {d : TldD} {v : Value} {q : Nat} (h : (tdVs d )[q]? = some v) : q < 2 := by
  have := (List.getElem?_eq_some_iff.1 h).1
  rwa [tdVs_len] at this
theorem XTd.put_other {xs vs : List Value} {o p : Nat} {d : TldD} (h : XTd xs o d ) (hv : vs.length = 2) (hap : o + 2 ≤ p ∨ p + 2 ≤ o) : XTd (putL xs p vs) o d  := by
  intro q v hq
  have := td_lt hq
  rw [putL_out _ _ _ _ (by omega)]
  exact h q v hq
theorem XTd.put {xs : List Value} {o : Nat} {d : TldD} (h : o + 2 ≤ xs.length) : XTd (putL xs o (tdVs d )) o d  := by
  intro q v hq
  have := td_lt hq
  rw [putL_in _ o xs q (by rw [tdVs_len]; exact this) (by rw [tdVs_len]; exact h)]
  exact hq
theorem XTd.isIn {w : World} {b o : Nat} {xs : List Value} {d : TldD} (h : BoxV w b xs) (hx : XTd xs o d ) : TdIn w b o d  := fun q v hq => h.cell _ _ (hx q v hq)
/-- The first k stand in the block's cells xs. -/
def TdsTo (xs : List Value) (L : List TldD) (k : Nat) : Prop := ∀ j (h : j < L.length), j < k → XTd xs (j * 2) L[j]
theorem TdsTo.put {k : Nat} {xs : List Value} {L : List TldD} (h : TdsTo xs L k) (hk : k < L.length) (hl : xs.length = L.length * 2) : TdsTo (putL xs (k * 2) (tdVs L[k])) L (k + 1) := by
  intro j hj hjk
  by_cases e : j = k
  · subst e
    exact XTd.put (by omega)
  · exact XTd.put_other (h j hj (by omega)) (tdVs_len _) (by omega)
/-- v is a slice of such in a block from lo on, below hi, that may be written. -/
def TdzM (lo hi : Nat) (w : World) (v : Value) (L : List TldD) : Prop :=
  ∃ g xs, lo ≤ g ∧ g < hi ∧ v = .slice (some ⟨g, 0, none⟩) L.length L.length ∧ L.length ≤ maxLen ∧ BoxV w g xs ∧ xs.length = L.length * 2 ∧ TdsTo xs L L.length
theorem TdzM.reads {lo hi : Nat} {w : World} {v : Value} {L : List TldD} (h : TdzM lo hi w v L) : Tdz w v L := by
  obtain ⟨g, xs, _, _, rfl, hm, hb, _, hc⟩ := h
  refine ⟨some ⟨g, 0, none⟩, _, rfl, hm, ⟨Nat.le_refl _, hm, fun h => by cases h⟩, fun _ => ⟨g, 0, rfl, fun j hj => ?_⟩⟩
  have a := hc j hj hj
  rw [Nat.zero_add]; exact XTd.isIn hb a
theorem TdzM.kept {lo hi : Nat} {w w' : World} {v : Value} {L : List TldD} (h : TdzM lo hi w v L) (s : Stood lo hi w w') : TdzM lo hi w' v L := by
  obtain ⟨g, xs, hg, hh, hv, hm, hb, hl, hc⟩ := h
  exact ⟨g, xs, hg, hh, hv, hm, hb.kept s hg hh, hl, hc⟩
theorem TdzM.more {lo lo' hi hi' : Nat} {w : World} {v : Value} {L : List TldD} (h : TdzM lo hi w v L) (h1 : lo' ≤ lo) (h2 : hi ≤ hi') : TdzM lo' hi' w v L := by
  obtain ⟨g, xs, hg, hh, r⟩ := h
  exact ⟨g, xs, Nat.le_trans h1 hg, Nat.lt_of_lt_of_le hh h2, r⟩
theorem TdzM.form {lo hi : Nat} {w : World} {v : Value} {L : List TldD} (h : TdzM lo hi w v L) : ∃ a c, v = .slice a L.length c := by
  obtain ⟨g, _, _, _, hv, _⟩ := h
  exact ⟨_, _, hv⟩
def NewTdS (L : List TldD) (w : World) (e : Ending) (w' : World) : Prop := ∃ v, e = .returned v ∧ TdzM w.heap.size w'.heap.size w' v L ∧ Ext w w'
theorem setCells_td (w : World) (g o : Nat) (d : TldD) :
    w.setCells g o (tdVs d ) = ((w.setCell ⟨g, o, none⟩ (.int .i64 d.c)).setCell ⟨g, o + 1, none⟩ (.int .i64 d.s)) := rfl
end Go.Proofs.YtcpmfcigciknlaaGreat

namespace Go.Proofs.YtcpmfcigciknlaaGreat
open Go.RowKit
set_option linter.unusedVariables false

set_option maxHeartbeats 1000000 in
theorem eqTold_same (c s : Int) (w : World) :
    Calls Tryz.prog 21 #[.agg #[.int .i64 c, .int .i64 s], .agg #[.int .i64 c, .int .i64 s]] w (BoolExt true w) := by
  have e0 : (c != c) = false := by simp
  have e1 : (s != s) = false := by simp
  go_enter Tryz.func21, Tryz.ntmps21
  go_wp2
  go_ret
  exact ⟨rfl, Ext.alloc (Ext.alloc (Ext.refl _) _) _⟩

end Go.Proofs.YtcpmfcigciknlaaGreat

namespace Go.Proofs.YtcpmfcigciknlaaGreat
open Go.RowKit
set_option linter.unusedVariables false

/-- Whether sums are good: four of them, none below 0 or above all, 400 together. -/
def goodS (l : List Int) : Bool := decide (l.length = 4) && (allIn l 0 400 && decide (l.sum = 400))

theorem sum_take_succ {l : List Int} {k : Nat} (h : k < l.length) : (l.take (k + 1)).sum = (l.take k).sum + l[k] := by
  rw [List.take_add_one, List.getElem?_eq_getElem h, List.sum_append]; simp
theorem allIn_take_succ {l : List Int} {k : Nat} (h : k < l.length) {lo hi : Int} (ht : allIn (l.take k) lo hi = true) (hp : inB l[k] lo hi = true) : allIn (l.take (k + 1)) lo hi = true :=
  all_take_succ h _ ht (by simpa [h] using hp)
theorem sum_bounds (l : List Int) (h : allIn l 0 400 = true) : 0 ≤ l.sum ∧ l.sum ≤ 400 * l.length := by
  induction l with
  | nil => simp
  | cons a r ih =>
    have h1 : (inB a 0 400 && allIn r 0 400) = true := h
    obtain ⟨ha, hr⟩ := (Bool.and_eq_true _ _ ▸ h1 : inB a 0 400 = true ∧ allIn r 0 400 = true)
    have h2 := ih hr
    have h3 : 0 ≤ a ∧ a ≤ 400 := by simpa [inB] using ha
    rw [List.sum_cons, List.length_cons]
    omega
theorem sum_drop (l : List Int) (k : Nat) : l.sum = (l.take k).sum + (l.drop k).sum := by
  conv => lhs; rw [← List.take_append_drop k l]
  rw [List.sum_append]
theorem allIn_drop {l : List Int} {lo hi : Int} (h : allIn l lo hi = true) (k : Nat) : allIn (l.drop k) lo hi = true := by
  unfold allIn at *
  rw [List.all_eq_true] at *
  exact fun x hx => h x (List.mem_of_mem_drop hx)
theorem goodS_len {l : List Int} (h : l.length ≠ 4) : goodS l = false := by simp [goodS, h]
theorem goodS_out {l : List Int} {k : Nat} (h : k < l.length) (hp : inB l[k] 0 400 = false) : goodS l = false := by
  have : allIn l 0 400 = false := all_false_at h _ (by simpa [h] using hp)
  simp [goodS, this]
/-- A sum above what is left of the whole is too much. -/
theorem goodS_over {l : List Int} {k : Nat} (h : k < l.length) (ht : allIn (l.take k) 0 400 = true) (hp : 400 - (l.take k).sum < l[k]) : goodS l = false := by
  cases ha : allIn l 0 400 with
  | false => simp [goodS, ha]
  | true =>
    have h1 := sum_drop l (k + 1)
    rw [sum_take_succ h] at h1
    have h2 := (sum_bounds _ (allIn_drop ha (k + 1))).1
    have h3 : l.sum ≠ 400 := by omega
    simp [goodS, h3]
theorem goodS_get {l : List Int} (h : goodS l = true) : l.length = 4 ∧ allIn l 0 400 = true ∧ l.sum = 400 := by
  simpa [goodS] using h

/-- A number and a Bool come back. -/
def IntB (n : Int) (b : Bool) (w : World) (e : Ending) (w' : World) : Prop := e = .returned (.tuple #[.int .i64 n, .bool b]) ∧ Ext w w'

def totS (l : List Int) : Int := if goodS l then 400 else 0

end Go.Proofs.YtcpmfcigciknlaaGreat

namespace Go.Proofs.YtcpmfcigciknlaaGreat
open Go.RowKit
set_option linter.unusedVariables false

/-- A code and a sum come back; only the list's own block has turned. -/
def DidTo (B : Nat) (u : Value) (l : List Int) (c s : Int) (w : World) (e : Ending) (w' : World) : Prop :=
  e = .returned (.agg #[.int .i64 c, .int .i64 s]) ∧ Fresh B w' u l ∧ w.grownBy w' u.ownBlock

theorem fresh_at {B : Nat} {w : World} {u : Value} {l : List Int} (hf : Fresh B w u l) (h4 : l.length = 4) : ∃ g cap, u = .slice (some ⟨g, 0, none⟩) 4 cap ∧ B ≤ g ∧ g < w.heap.size := by
  rcases hf.2 with ⟨rfl, hn⟩ | ⟨g, cap, cur, rfl, hb, hg, _⟩
  · omega
  · rw [h4]
    exact ⟨g, cap, rfl, hb, (Array.getElem?_eq_some_iff.1 hg).1⟩
theorem fresh_own {B g cap : Nat} {w : World} {l : List Int} (hf : Fresh B w (.slice (some ⟨g, 0, none⟩) 4 cap) l) (h4 : l.length = 4) :
    w.ownsRow B 3 1 (.slice (some ⟨g, 0, none⟩) 4 cap) 4 (l.map (Value.int .i64)) := by
  unfold Fresh at hf
  rw [h4] at hf
  exact hf
theorem fresh_cell {B g cap F : Nat} {w : World} {l : List Int} {x : Int} (hf : Fresh B w (.slice (some ⟨g, 0, none⟩) 4 cap) l) (h4 : l.length = 4) (hx : l[F]? = some x) : w.cell? ⟨g, F, none⟩ = some (.int .i64 x) := by
  have hF := (List.getElem?_eq_some_iff.1 hx).1
  have h := World.ownsRow.cellAt (fresh_own hf h4) F (by omega)
  rw [h]
  simp [hx]
theorem fresh_frozen {B g cap : Nat} {w : World} {l : List Int} (hf : Fresh B w (.slice (some ⟨g, 0, none⟩) 4 cap) l) (h4 : l.length = 4) (F : Nat) : w.frozen? ⟨g, F, none⟩ = false := World.ownsRow.frozenAt (fresh_own hf h4) F
theorem fresh_put {B g cap : Nat} {w : World} {l : List Int} (hf : Fresh B w (.slice (some ⟨g, 0, none⟩) 4 cap) l) (h4 : l.length = 4) (F : Nat) (y : Int) :
    Fresh B (w.setCell ⟨g, F, none⟩ (.int .i64 y)) (.slice (some ⟨g, 0, none⟩) 4 cap) (l.set F y) ∧ w.grownBy (w.setCell ⟨g, F, none⟩ (.int .i64 y)) (some g) := by
  have h := World.ownsRow.stored (fresh_own hf h4) F (.int .i64 y)
  refine ⟨?_, h.2⟩
  unfold Fresh
  rw [List.length_set, h4, List.map_set]
  exact h.1

theorem fresh_other {B g cap : Nat} {w : World} {l : List Int} (hf : Fresh B w (.slice (some ⟨g, 0, none⟩) 4 cap) l) (b o : Nat) (v : Value) (hb : g ≠ b) : Fresh B (w.setCell ⟨b, o, none⟩ v) (.slice (some ⟨g, 0, none⟩) 4 cap) l := by
  refine ⟨hf.1, ?_⟩
  rcases hf.2 with ⟨h, _⟩ | ⟨g', cap', cur, h, hb', hg, rest⟩
  · cases h
  · injection h with h1 h2 h3
    injection h1 with h1
    injection h1 with h1
    subst h1
    exact .inr ⟨g, cap', cur, by rw [← h2, ← h3], hb', (Below.heap_setCell _ _ _ g hb).trans hg, rest⟩
theorem grown_putD {w w1 : World} {r : Option Nat} (h : w.grownBy w1 r) (b o : Nat) (v : Value) (hb : w.heap.size ≤ b ∨ some b = r) : w.grownBy (w1.setCell ⟨b, o, none⟩ v) r := by
  have q : Below 0 w1 (w1.setCell ⟨b, o, none⟩ v) := Below.setCell (Below.refl _ _) (Nat.zero_le _) _
  refine ⟨q.os.trans h.os, q.tape.trans h.tape, q.output.trans h.output, Nat.le_trans h.size q.size, fun k hk hne => ?_⟩
  refine (Below.heap_setCell _ _ _ k ?_).trans (h.block k hk hne)
  intro e
  subst e
  rcases hb with hb | hb
  · omega
  · exact hne hb
theorem grown_of_ext {w w' : World} (h : Ext w w') (r : Option Nat) : w.grownBy w' r := ⟨h.os, h.tape, h.output, h.size, fun k hk _ => Below.block h k hk⟩

set_option maxRecDepth 100000 in
set_option maxHeartbeats 2000000 in
theorem transfer_poor (B : Nat) (u : Value) (l : List Int) (F T : Nat) (a x : Int) (w : World) (hf : Fresh B w u l) (h4 : l.length = 4) (hF : F < 4) (hx : l[F]? = some x) (hp : x < a) :
    Calls Tryz.prog 280 #[.agg #[.int .i64 F, .int .i64 T, .int .i64 a], u] w (DidTo B u l 2 0 w) := by
  obtain ⟨g, cap, rfl, hb, hg⟩ := fresh_at hf h4
  have gF := fresh_cell hf h4 hx
  have n1 : w.heap.size ≠ g := by omega
  have n2 : w.heap.size + 1 ≠ g := by omega
  have i1 : (0 : Int) ≤ (F : Int) := by omega
  have i2 : (F : Int) < 4 := by omega
  have FF := Lib.hid hf
  clear hf hx
  go_enter Tryz.func280, Tryz.ntmps280
  go_wp2
  go_quiet (fail)
  go_wp2
  have x : Ext w (((((w.alloc (.cells #[.int .i64 F, .int .i64 T, .int .i64 a] 191)).alloc (.cells #[.int .i64 0, .int .i64 0] 42)).drewN nq).setCell ⟨w.heap.size + 1, 0, none⟩ (.int .i64 2)).setCell ⟨w.heap.size + 1, 1, none⟩ (.int .i64 0)) :=
    Below.setCell (Below.setCell ((Ext.alloc (Ext.alloc (Ext.refl _) _) _).drewN nq) (Nat.le_succ _) _) (Nat.le_succ _) _
  exact bodyPost_ret (v := .agg #[.int .i64 2, .int .i64 0]) (by simp [results, Tryz.results280, go_sem]) rfl ⟨rfl, FF.out.ext x, grown_of_ext x _⟩

set_option maxRecDepth 100000 in
set_option maxHeartbeats 2000000 in
theorem transfer_done (B : Nat) (u : Value) (l : List Int) (F T : Nat) (a x y : Int) (w : World) (hf : Fresh B w u l) (h4 : l.length = 4) (hne : F ≠ T) (hF : F < 4) (hT : T < 4) (hx : l[F]? = some x) (hy : l[T]? = some y) (hp : a ≤ x) (ha0 : 1 ≤ a) (ha1 : a ≤ 1000) (hx1 : x ≤ 400) (hy0 : 0 ≤ y) (hy1 : y ≤ 400) :
    Calls Tryz.prog 280 #[.agg #[.int .i64 F, .int .i64 T, .int .i64 a], u] w (DidTo B u ((l.set F (x - a)).set T (y + a)) 1 0 w) := by
  obtain ⟨g, cap, rfl, hb, hg⟩ := fresh_at hf h4
  have gF := fresh_cell hf h4 hx
  have zF := fresh_frozen hf h4 F
  have gT := fresh_cell hf h4 hy
  have zT := fresh_frozen hf h4 T
  have hne' : T ≠ F := fun h => hne h.symm
  have n1 : w.heap.size ≠ g := by omega
  have n2 : w.heap.size + 1 ≠ g := by omega
  have i1 : (0 : Int) ≤ (F : Int) := by omega
  have i2 : (F : Int) < 4 := by omega
  have j1 : (0 : Int) ≤ (T : Int) := by omega
  have j2 : (T : Int) < 4 := by omega
  have w1 : wrap64 (x - a) = x - a := by unfold wrap64; omega
  have w2 : wrap64 (y + a) = y + a := by unfold wrap64; omega
  have FF := Lib.hid hf
  clear hf hx hy
  go_enter Tryz.func280, Tryz.ntmps280
  go_wp2
  go_quiet (fail)
  go_wp2
  go_region
  go_wp2
  go_region
  go_wp2
  have x0 : Ext w (((w.alloc (.cells #[.int .i64 F, .int .i64 T, .int .i64 a] 191)).alloc (.cells #[.int .i64 0, .int .i64 0] 42)).drewN (nq + 1)) :=
    (Ext.alloc (Ext.alloc (Ext.refl _) _) _).drewN _
  have f0 := FF.out.ext x0
  have f1 := (fresh_put f0 h4 F (x - a)).1
  have f2 := (fresh_put f1 (by simp [h4]) T (y + a)).1
  have f3 := fresh_other f2 (w.heap.size + 1) 0 (.int .i64 1) (by omega)
  have f4 := fresh_other f3 (w.heap.size + 1) 1 (.int .i64 0) (by omega)
  have g1 := grown_putD (grown_putD (grown_putD (grown_putD (grown_of_ext x0 (some g)) g F (.int .i64 (x - a)) (.inr rfl)) g T (.int .i64 (y + a)) (.inr rfl)) (w.heap.size + 1) 0 (.int .i64 1) (.inl (by omega))) (w.heap.size + 1) 1 (.int .i64 0) (.inl (by omega))
  exact bodyPost_ret (v := .agg #[.int .i64 1, .int .i64 0]) (by simp [results, Tryz.results280, go_sem]) rfl ⟨rfl, f4.ext (Ext.drew (Ext.refl _)), g1.trans (grown_of_ext (Ext.drew (Ext.refl _)) _)⟩

set_option maxRecDepth 100000 in
set_option maxHeartbeats 2000000 in
theorem inquiry_any (B : Nat) (u : Value) (l : List Int) (F : Nat) (x : Int) (w : World) (hf : Fresh B w u l) (h4 : l.length = 4) (hF : F < 4) (hx : l[F]? = some x) :
    Calls Tryz.prog 281 #[.agg #[.int .i64 F], u] w (DidTo B u l 3 x w) := by
  obtain ⟨g, cap, rfl, hb, hg⟩ := fresh_at hf h4
  have gF := fresh_cell hf h4 hx
  have n1 : w.heap.size ≠ g := by omega
  have n2 : w.heap.size + 1 ≠ g := by omega
  have i1 : (0 : Int) ≤ (F : Int) := by omega
  have i2 : (F : Int) < 4 := by omega
  have FF := Lib.hid hf
  clear hf hx
  go_enter Tryz.func281, Tryz.ntmps281
  go_wp2
  have x1 : Ext w ((w.alloc (.cells #[.int .i64 F] 193)).alloc (.cells #[.int .i64 3, .int .i64 x] 42)) := Ext.alloc (Ext.alloc (Ext.refl _) _) _
  exact bodyPost_ret (v := .agg #[.int .i64 3, .int .i64 x]) (by simp [results, Tryz.results281, go_sem]) rfl ⟨rfl, FF.out.ext x1, grown_of_ext x1 _⟩

set_option maxRecDepth 100000 in
set_option maxHeartbeats 2000000 in
theorem idleness_any (B : Nat) (u : Value) (l : List Int) (w : World) (hf : Fresh B w u l) :
    Calls Tryz.prog 282 #[.agg #[], u] w (DidTo B u l 0 0 w) := by
  go_enter Tryz.func282, Tryz.ntmps282
  go_wp2
  have x1 : Ext w ((w.alloc (.cells #[] 195)).alloc (.cells #[.int .i64 0, .int .i64 0] 42)) := Ext.alloc (Ext.alloc (Ext.refl _) _) _
  exact bodyPost_ret (v := .agg #[.int .i64 0, .int .i64 0]) (by simp [results, Tryz.results282, go_sem]) rfl ⟨rfl, hf.ext x1, grown_of_ext x1 _⟩

/-- What is done: a good command in its value. -/
def deedV (k f t a : Int) : Value := if k = 1 then .iface 191 (.agg #[.int .i64 f, .int .i64 t, .int .i64 a]) else if k = 2 then .iface 193 (.agg #[.int .i64 f]) else .iface 195 (.agg #[])

set_option maxHeartbeats 2000000 in
theorem deedOf_1 (i f t a : Int) (w : World) :
    Calls Tryz.prog 70 #[.agg #[.int .i64 1, .int .i64 i, .int .i64 f, .int .i64 t, .int .i64 a]] w fun e w' => e = .returned (deedV 1 f t a) ∧ Ext w w' := by
  go_enter Tryz.func70, Tryz.ntmps70
  go_wp2
  go_ret
  exact ⟨rfl, Ext.alloc (Ext.refl _) _⟩

set_option maxHeartbeats 2000000 in
theorem deedOf_2 (i f t a : Int) (w : World) :
    Calls Tryz.prog 70 #[.agg #[.int .i64 2, .int .i64 i, .int .i64 f, .int .i64 t, .int .i64 a]] w fun e w' => e = .returned (deedV 2 f t a) ∧ Ext w w' := by
  go_enter Tryz.func70, Tryz.ntmps70
  go_wp2
  go_ret
  exact ⟨rfl, Ext.alloc (Ext.refl _) _⟩

set_option maxHeartbeats 2000000 in
theorem deedOf_0 (i f t a : Int) (w : World) :
    Calls Tryz.prog 70 #[.agg #[.int .i64 0, .int .i64 i, .int .i64 f, .int .i64 t, .int .i64 a]] w fun e w' => e = .returned (deedV 0 f t a) ∧ Ext w w' := by
  go_enter Tryz.func70, Tryz.ntmps70
  go_wp2
  go_ret
  exact ⟨rfl, Ext.alloc (Ext.refl _) _⟩

/-- What good sums come to, and what is told: a good command done to them. -/
def didL (k f t a : Int) (l : List Int) : List Int := if k = 1 then (if (l[f.toNat]?.getD 0) < a then l else (l.set f.toNat ((l[f.toNat]?.getD 0) - a)).set t.toNat ((l[t.toNat]?.getD 0) + a)) else l
def didC (k f a : Int) (l : List Int) : Int := if k = 1 then (if (l[f.toNat]?.getD 0) < a then 2 else 1) else if k = 2 then 3 else 0
def didS (k f : Int) (l : List Int) : Int := if k = 2 then (l[f.toNat]?.getD 0) else 0

end Go.Proofs.YtcpmfcigciknlaaGreat

namespace Go.Proofs.YtcpmfcigciknlaaGreat
open Go.RowKit
set_option linter.unusedVariables false

theorem meth_1 (f t a : Int) (w : World) : (method 435 191 (.agg #[.int .i64 f, .int .i64 t, .int .i64 a]) "loop.example/g00698/impl.doTo").run Tryz.prog w = .ok (280, .agg #[.int .i64 f, .int .i64 t, .int .i64 a]) w := by kernel_rfl
theorem meth_2 (f : Int) (w : World) : (method 435 193 (.agg #[.int .i64 f]) "loop.example/g00698/impl.doTo").run Tryz.prog w = .ok (281, .agg #[.int .i64 f]) w := by kernel_rfl
theorem meth_0 (w : World) : (method 435 195 (.agg #[]) "loop.example/g00698/impl.doTo").run Tryz.prog w = .ok (282, .agg #[]) w := by kernel_rfl
end Go.Proofs.YtcpmfcigciknlaaGreat

namespace Go.Proofs.YtcpmfcigciknlaaGreat
open Go.RowKit
set_option linter.unusedVariables false
set_option linter.unusedSimpArgs false

theorem acct_nat {f : Int} (h : acctB f = true) : ∃ F : Nat, f = (F : Int) ∧ F < 4 := by
  have := acctB_yes h
  exact ⟨f.toNat, by omega, by omega⟩
theorem good_1 {i f t a : Int} (h : goodB 1 i f t a = true) : ∃ F T : Nat, f = (F : Int) ∧ t = (T : Int) ∧ F < 4 ∧ T < 4 ∧ F ≠ T ∧ 1 ≤ a ∧ a ≤ 1000 := by
  rw [goodB_1] at h
  unfold codeM at h
  cases h1 : acctB f with
  | false => rw [h1] at h; simp at h
  | true =>
    cases h2 : acctB t with
    | false => rw [h1, h2] at h; simp at h
    | true =>
      obtain ⟨F, rfl, hF⟩ := acct_nat h1
      obtain ⟨T, rfl, hT⟩ := acct_nat h2
      rw [h1, h2] at h
      cases h3 : ((F : Int) == (T : Int)) with
      | true => rw [h3] at h; simp at h
      | false =>
        rw [h3] at h
        cases h4 : inB i 1 999 with
        | false => rw [h4] at h; simp at h
        | true =>
          rw [h4] at h
          cases h5 : inB a 1 1000 with
          | false => rw [h5] at h; simp at h
          | true =>
            have h6 : F ≠ T := by intro e; subst e; simp at h3
            have h7 : 1 ≤ a ∧ a ≤ 1000 := by simpa [inB] using h5
            exact ⟨F, T, rfl, rfl, hF, hT, h6, h7.1, h7.2⟩
theorem good_2 {i f t a : Int} (h : goodB 2 i f t a = true) : ∃ F : Nat, f = (F : Int) ∧ F < 4 := by
  rw [goodB_2] at h
  unfold codeR at h
  cases h1 : acctB f with
  | false => rw [h1] at h; simp at h
  | true => exact acct_nat h1
theorem good_kind {k i f t a : Int} (h : goodB k i f t a = true) : k = 0 ∨ k = 1 ∨ k = 2 := by
  by_cases h0 : k = 0
  · exact .inl h0
  · by_cases h1 : k = 1
    · exact .inr (.inl h1)
    · by_cases h2 : k = 2
      · exact .inr (.inr h2)
      · rw [goodB_else i f t a (by simp [h0]) (by simp [h1]) (by simp [h2])] at h
        cases h
theorem four_of {l : List Int} (h : l.length = 4) : ∃ p q r s, l = [p, q, r, s] := by
  match l, h with
  | [p, q, r, s], _ => exact ⟨p, q, r, s, rfl⟩
theorem goodS_4 {p q r s : Int} : goodS [p, q, r, s] = true ↔ (0 ≤ p ∧ p ≤ 400) ∧ (0 ≤ q ∧ q ≤ 400) ∧ (0 ≤ r ∧ r ≤ 400) ∧ (0 ≤ s ∧ s ≤ 400) ∧ p + (q + (r + s)) = 400 := by
  simp [goodS, allIn, inB, and_assoc]
theorem good_didL {k i f t a : Int} {l : List Int} (hg : goodS l = true) (hc : goodB k i f t a = true) : goodS (didL k f t a l) = true := by
  obtain ⟨p, q, r, s, rfl⟩ := four_of (goodS_get hg).1
  rcases good_kind hc with rfl | rfl | rfl
  · exact hg
  · obtain ⟨F, T, rfl, rfl, hF, hT, hne, ha, _⟩ := good_1 hc
    rw [goodS_4] at hg
    unfold didL
    rw [if_pos rfl]
    have e1 : ((F : Int)).toNat = F := rfl
    have e2 : ((T : Int)).toNat = T := rfl
    rw [e1, e2]
    split
    · rw [goodS_4]; exact hg
    · rename_i h
      match F, hF, T, hT, hne with
      | 0, _, 0, _, hne => exact absurd rfl hne
      | 0, _, 1, _, _ => simp at h; simp [goodS_4]; omega
      | 0, _, 2, _, _ => simp at h; simp [goodS_4]; omega
      | 0, _, 3, _, _ => simp at h; simp [goodS_4]; omega
      | 1, _, 0, _, _ => simp at h; simp [goodS_4]; omega
      | 1, _, 1, _, hne => exact absurd rfl hne
      | 1, _, 2, _, _ => simp at h; simp [goodS_4]; omega
      | 1, _, 3, _, _ => simp at h; simp [goodS_4]; omega
      | 2, _, 0, _, _ => simp at h; simp [goodS_4]; omega
      | 2, _, 1, _, _ => simp at h; simp [goodS_4]; omega
      | 2, _, 2, _, hne => exact absurd rfl hne
      | 2, _, 3, _, _ => simp at h; simp [goodS_4]; omega
      | 3, _, 0, _, _ => simp at h; simp [goodS_4]; omega
      | 3, _, 1, _, _ => simp at h; simp [goodS_4]; omega
      | 3, _, 2, _, _ => simp at h; simp [goodS_4]; omega
      | 3, _, 3, _, hne => exact absurd rfl hne
  · exact hg
theorem goodS_at {l : List Int} {F : Nat} (hg : goodS l = true) (hF : F < 4) : ∃ x, l[F]? = some x ∧ 0 ≤ x ∧ x ≤ 400 := by
  obtain ⟨h4, ha, _⟩ := goodS_get hg
  have hl : F < l.length := by omega
  have h := (List.all_eq_true.1 ha) l[F] (List.getElem_mem hl)
  exact ⟨l[F], List.getElem?_eq_getElem hl, by simpa [inB] using h⟩

theorem did_1 {B : Nat} {u : Value} {l : List Int} {i f t a : Int} {w : World} (hg : goodS l = true) (hc : goodB 1 i f t a = true) (hf : Fresh B w u l) :
    Calls Tryz.prog 280 #[.agg #[.int .i64 f, .int .i64 t, .int .i64 a], u] w (DidTo B u (didL 1 f t a l) (didC 1 f a l) (didS 1 f l) w) := by
  obtain ⟨F, T, rfl, rfl, hF, hT, hne, ha, ha1⟩ := good_1 hc
  obtain ⟨x, hx, hx0, hx1⟩ := goodS_at hg hF
  obtain ⟨y, hy, hy0, hy1⟩ := goodS_at hg hT
  have e1 : l[((F : Int)).toNat]? = some x := hx
  have e2 : l[((T : Int)).toNat]? = some y := hy
  have k1 : (1 : Int) = 1 ↔ True := by decide
  have k2 : (1 : Int) = 2 ↔ False := by decide
  simp only [didL, didC, didS, e1, e2, Option.getD_some, k1, k2, if_true, if_false]
  by_cases h : x < a
  · rw [if_pos h, if_pos h]
    exact transfer_poor B u l F T a x w hf (goodS_get hg).1 hF hx h
  · rw [if_neg h, if_neg h]
    exact transfer_done B u l F T a x y w hf (goodS_get hg).1 hne hF hT hx hy (by omega) ha ha1 hx1 hy0 hy1
theorem did_2 {B : Nat} {u : Value} {l : List Int} {i f t a : Int} {w : World} (hg : goodS l = true) (hc : goodB 2 i f t a = true) (hf : Fresh B w u l) :
    Calls Tryz.prog 281 #[.agg #[.int .i64 f], u] w (DidTo B u (didL 2 f t a l) (didC 2 f a l) (didS 2 f l) w) := by
  obtain ⟨F, rfl, hF⟩ := good_2 hc
  obtain ⟨x, hx, hx0, hx1⟩ := goodS_at hg hF
  have e1 : l[((F : Int)).toNat]? = some x := hx
  have k1 : (2 : Int) = 1 ↔ False := by decide
  have k2 : (2 : Int) = 2 ↔ True := by decide
  simp only [didL, didC, didS, e1, Option.getD_some, k1, k2, if_true, if_false]
  exact inquiry_any B u l F x w hf (goodS_get hg).1 hF hx
theorem did_0 {B : Nat} {u : Value} {l : List Int} {f t a : Int} {w : World} (hf : Fresh B w u l) :
    Calls Tryz.prog 282 #[.agg #[], u] w (DidTo B u (didL 0 f t a l) (didC 0 f a l) (didS 0 f l) w) := by
  exact idleness_any B u l w hf

/-- Sums in new memory, what is told, and a Bool come back. -/
def Applied (L : List Int) (c s : Int) (b : Bool) (w : World) (e : Ending) (w' : World) : Prop :=
  ∃ v, e = .returned (.tuple #[v, .agg #[.int .i64 c, .int .i64 s], .bool b]) ∧ Fresh w.heap.size w' v L ∧ Ext w w'

end Go.Proofs.YtcpmfcigciknlaaGreat

namespace Go.Proofs.YtcpmfcigciknlaaGreat
open Go.RowKit
set_option linter.unusedVariables false

def okA (l : List Int) (k i f t a : Int) : Bool := goodS l && goodB k i f t a

theorem apply_boxes (w : World) (k i f t a : Int) (T T' : TypeId) :
    let W := (w.alloc (.cells #[.int .i64 k, .int .i64 i, .int .i64 f, .int .i64 t, .int .i64 a] T)).alloc (.cells #[.int .i64 0, .int .i64 0] T')
    Ext w W ∧ BoxV W w.heap.size [.int .i64 k, .int .i64 i, .int .i64 f, .int .i64 t, .int .i64 a] ∧ BoxV W (w.heap.size + 1) [.int .i64 0, .int .i64 0] ∧ W.heap.size = w.heap.size + 2 := by
  intro W
  have h1 := boxV_new w [.int .i64 k, .int .i64 i, .int .i64 f, .int .i64 t, .int .i64 a] T
  have h2 := boxV_new (w.alloc (.cells #[.int .i64 k, .int .i64 i, .int .i64 f, .int .i64 t, .int .i64 a] T)) [.int .i64 0, .int .i64 0] T'
  rw [World.size_alloc] at h2
  exact ⟨Ext.alloc (Ext.alloc (Ext.refl _) _) _, h1.ext (Ext.alloc (Ext.refl _) _), h2, by simp [W]⟩

theorem slice_of {v : Value} {l : List Int} {w : World} (hv : Ints w v l) (h4 : l.length = 4) : ∃ ad cap, v = .slice (some ad) l.length cap := by
  obtain ⟨av, cv, rfl, _, _, hc⟩ := hv
  obtain ⟨b, off, rfl, _⟩ := hc (by omega)
  exact ⟨_, _, rfl⟩

end Go.Proofs.YtcpmfcigciknlaaGreat

namespace Go.Proofs.YtcpmfcigciknlaaGreat
open Go.RowKit
set_option linter.unusedVariables false
set_option linter.unusedSimpArgs false

/-- Sums in new memory and what is told come back. -/
def Applied2 (L : List Int) (c s : Int) (w : World) (e : Ending) (w' : World) : Prop :=
  ∃ v, e = .returned (.tuple #[v, .agg #[.int .i64 c, .int .i64 s]]) ∧ Fresh w.heap.size w' v L ∧ Ext w w'

theorem ints_cell {b off cap F : Nat} {w : World} {l : List Int} {x : Int} (hv : Ints w (.slice (some ⟨b, off, none⟩) l.length cap) l) (hx : l[F]? = some x) : w.cell? ⟨b, off + F, none⟩ = some (.int .i64 x) := by
  have hF := (List.getElem?_eq_some_iff.1 hx).1
  obtain ⟨ao, c, h, _, _, hc⟩ := hv
  obtain ⟨b', off', rfl, hd⟩ := hc (by omega)
  injection h with h1
  injection h1 with h1
  injection h1 with h2 h3
  subst h2
  subst h3
  rw [hd F hF, hx]
  rfl
theorem slice_at {v : Value} {l : List Int} {w : World} (hv : Ints w v l) (h4 : l.length = 4) : ∃ b off cap, v = .slice (some ⟨b, off, none⟩) l.length cap ∧ b < w.heap.size := by
  obtain ⟨av, cv, rfl, _, _, hc⟩ := hv
  obtain ⟨b, off, rfl, hd⟩ := hc (by omega)
  exact ⟨_, _, _, rfl, World.block_lt_of_cell? w _ (hd 0 (by omega))⟩

set_option maxRecDepth 100000 in
set_option maxHeartbeats 4000000 in
theorem l11Apply_2 (v : Value) (l : List Int) (i t a : Int) (F : Nat) (x : Int) (w : World) (hv : Ints w v l) (h4 : l.length = 4) (hF : F < 4) (hx : l[F]? = some x) :
    Calls Tryz.prog 116 #[v, .agg #[.int .i64 2, .int .i64 i, .int .i64 F, .int .i64 t, .int .i64 a]] w (Applied2 l 3 x w) := by
  obtain ⟨xa, ba, bt, _⟩ := apply_boxes w 2 i F t a 77 42
  have HV := Lib.hid (hv.ext xa)
  have HO := Lib.hid hv
  have XA := Lib.hid xa
  have BA := Lib.hid ba
  have BT := Lib.hid bt
  obtain ⟨b, off, cap, rfl, hbl⟩ := slice_at hv h4
  have HL : Hid (l.length ≤ 1048576) := Lib.hid (by omega)
  have H4 := Lib.hid h4
  rw [h4]
  have HX := Lib.hid hx
  clear hv xa ba bt h4 hx
  go_enter Tryz.func116, Tryz.ntmps116
  go_wp2_with fail
  refine (l1Own_any _ l _ (by rw [← H4.out]; exact HV.out) HL.out).mono ?_
  rintro e w1 ⟨v1, rfl, f1, x1⟩
  have F1 := Lib.hid f1
  have X1 := Lib.hid x1
  have ha := BA.out.ext x1
  have a0 := ha.cell 0 _ rfl
  have a2 := ha.cell 2 _ rfl
  have hb := BT.out.ext x1
  have d0 := hb.cell 0 _ rfl
  have d1 := hb.cell 1 _ rfl
  have z0 := hb.free 0 (of_decide_eq_true rfl)
  have z1 := hb.free 1 (of_decide_eq_true rfl)
  have gF := ints_cell (HO.out.ext (XA.out.trans x1)) HX.out
  have i1 : (0 : Int) ≤ (F : Int) := by omega
  have i2 : (F : Int) < 4 := by omega
  clear f1 x1 ha hb
  go_wp2
  go_region
  go_wp2
  have x7 : Ext w (((w1.setCell ⟨w.heap.size + 1, 0, none⟩ (.int .i64 3)).setCell ⟨w.heap.size + 1, 1, none⟩ (.int .i64 x)).drew) := Ext.drew (Below.setCell (Below.setCell (XA.out.trans X1.out) (Nat.le_succ _) _) (Nat.le_succ _) _)
  have hl2 : w.heap.size + 1 < ((w.alloc (.cells #[.int .i64 2, .int .i64 i, .int .i64 F, .int .i64 t, .int .i64 a] 77)).alloc (.cells #[.int .i64 0, .int .i64 0] 42)).heap.size := by simp
  have f7 := (((F1.out.set (w.heap.size + 1) 0 (.int .i64 3) hl2).set (w.heap.size + 1) 1 (.int .i64 x) hl2).ext (Ext.drew (Ext.refl _))).more (Nat.le_of_lt (Nat.lt_of_succ_lt hl2))
  exact bodyPost_ret (v := .tuple #[v1, .agg #[.int .i64 3, .int .i64 x]]) (by simp [results, Tryz.results116, go_sem, d0, d1]) rfl ⟨_, rfl, f7, x7⟩

set_option maxRecDepth 100000 in
set_option maxHeartbeats 4000000 in
theorem l11Apply_0 (v : Value) (l : List Int) (i t a : Int) (f : Int) (w : World) (hv : Ints w v l) (h4 : l.length = 4) :
    Calls Tryz.prog 116 #[v, .agg #[.int .i64 0, .int .i64 i, .int .i64 f, .int .i64 t, .int .i64 a]] w (Applied2 l 0 0 w) := by
  obtain ⟨xa, ba, bt, _⟩ := apply_boxes w 0 i f t a 77 42
  have HV := Lib.hid (hv.ext xa)
  have HO := Lib.hid hv
  have XA := Lib.hid xa
  have BA := Lib.hid ba
  have BT := Lib.hid bt
  obtain ⟨b, off, cap, rfl, hbl⟩ := slice_at hv h4
  have HL : Hid (l.length ≤ 1048576) := Lib.hid (by omega)
  have H4 := Lib.hid h4
  rw [h4]
  clear hv xa ba bt h4
  go_enter Tryz.func116, Tryz.ntmps116
  go_wp2_with fail
  refine (l1Own_any _ l _ (by rw [← H4.out]; exact HV.out) HL.out).mono ?_
  rintro e w1 ⟨v1, rfl, f1, x1⟩
  have F1 := Lib.hid f1
  have X1 := Lib.hid x1
  have ha := BA.out.ext x1
  have a0 := ha.cell 0 _ rfl
  have a2 := ha.cell 2 _ rfl
  have hb := BT.out.ext x1
  have d0 := hb.cell 0 _ rfl
  have d1 := hb.cell 1 _ rfl
  have z0 := hb.free 0 (of_decide_eq_true rfl)
  have z1 := hb.free 1 (of_decide_eq_true rfl)
  clear f1 x1 ha hb
  go_wp2
  have x7 : Ext w (((w1.setCell ⟨w.heap.size + 1, 0, none⟩ (.int .i64 0)).setCell ⟨w.heap.size + 1, 1, none⟩ (.int .i64 0))) := (Below.setCell (Below.setCell (XA.out.trans X1.out) (Nat.le_succ _) _) (Nat.le_succ _) _)
  have hl2 : w.heap.size + 1 < ((w.alloc (.cells #[.int .i64 0, .int .i64 i, .int .i64 f, .int .i64 t, .int .i64 a] 77)).alloc (.cells #[.int .i64 0, .int .i64 0] 42)).heap.size := by simp
  have f7 := (((F1.out.set (w.heap.size + 1) 0 (.int .i64 0) hl2).set (w.heap.size + 1) 1 (.int .i64 0) hl2)).more (Nat.le_of_lt (Nat.lt_of_succ_lt hl2))
  exact bodyPost_ret (v := .tuple #[v1, .agg #[.int .i64 0, .int .i64 0]]) (by simp [results, Tryz.results116, go_sem, d0, d1]) rfl ⟨_, rfl, f7, x7⟩

set_option maxRecDepth 100000 in
set_option maxHeartbeats 4000000 in
theorem l11Apply_poor (v : Value) (l : List Int) (i a : Int) (F T : Nat) (x : Int) (w : World) (hv : Ints w v l) (h4 : l.length = 4) (hF : F < 4) (hT : T < 4) (hx : l[F]? = some x) (hp : x < a) :
    Calls Tryz.prog 116 #[v, .agg #[.int .i64 1, .int .i64 i, .int .i64 F, .int .i64 T, .int .i64 a]] w (Applied2 l 2 0 w) := by
  obtain ⟨xa, ba, bt, _⟩ := apply_boxes w 1 i F T a 77 42
  have HV := Lib.hid (hv.ext xa)
  have HO := Lib.hid hv
  have XA := Lib.hid xa
  have BA := Lib.hid ba
  have BT := Lib.hid bt
  obtain ⟨b, off, cap, rfl, hbl⟩ := slice_at hv h4
  have HL : Hid (l.length ≤ 1048576) := Lib.hid (by omega)
  have H4 := Lib.hid h4
  rw [h4]
  have HX := Lib.hid hx
  clear hv xa ba bt h4 hx
  go_enter Tryz.func116, Tryz.ntmps116
  go_wp2_with fail
  refine (l1Own_any _ l _ (by rw [← H4.out]; exact HV.out) HL.out).mono ?_
  rintro e w1 ⟨v1, rfl, f1, x1⟩
  have F1 := Lib.hid f1
  have X1 := Lib.hid x1
  have ha := BA.out.ext x1
  have a0 := ha.cell 0 _ rfl
  have a2 := ha.cell 2 _ rfl
  have a3 := ha.cell 3 _ rfl
  have a4 := ha.cell 4 _ rfl
  have hb := BT.out.ext x1
  have d0 := hb.cell 0 _ rfl
  have d1 := hb.cell 1 _ rfl
  have z0 := hb.free 0 (of_decide_eq_true rfl)
  have z1 := hb.free 1 (of_decide_eq_true rfl)
  have gF := ints_cell (HO.out.ext (XA.out.trans x1)) HX.out
  have i1 : (0 : Int) ≤ (F : Int) := by omega
  have i2 : (F : Int) < 4 := by omega
  clear f1 x1 ha hb
  go_wp2
  go_quiet (fail)
  go_wp2
  have x7 : Ext w ((((w1.drewN nq).setCell ⟨w.heap.size + 1, 0, none⟩ (.int .i64 2)).setCell ⟨w.heap.size + 1, 1, none⟩ (.int .i64 0))) := (Below.setCell (Below.setCell ((XA.out.trans X1.out).drewN nq) (Nat.le_succ _) _) (Nat.le_succ _) _)
  have hl2 : w.heap.size + 1 < ((w.alloc (.cells #[.int .i64 1, .int .i64 i, .int .i64 F, .int .i64 T, .int .i64 a] 77)).alloc (.cells #[.int .i64 0, .int .i64 0] 42)).heap.size := by simp
  have f7 := (((F1.out.ext (Ext.drewN (Ext.refl _) nq)).set (w.heap.size + 1) 0 (.int .i64 2) hl2).set (w.heap.size + 1) 1 (.int .i64 0) hl2).more (Nat.le_of_lt (Nat.lt_of_succ_lt hl2))
  exact bodyPost_ret (v := .tuple #[v1, .agg #[.int .i64 2, .int .i64 0]]) (by simp [results, Tryz.results116, go_sem, d0, d1]) rfl ⟨_, rfl, f7, x7⟩

set_option maxRecDepth 100000 in
set_option maxHeartbeats 4000000 in
theorem l11Apply_done (v : Value) (l : List Int) (i a : Int) (F T : Nat) (x y : Int) (w : World) (hv : Ints w v l) (h4 : l.length = 4) (hF : F < 4) (hT : T < 4) (hx : l[F]? = some x) (hy : l[T]? = some y) (hne : F ≠ T) (hp : a ≤ x) (ha0 : 1 ≤ a) (ha1 : a ≤ 1000) (hx1 : x ≤ 400) (hy0 : 0 ≤ y) (hy1 : y ≤ 400) :
    Calls Tryz.prog 116 #[v, .agg #[.int .i64 1, .int .i64 i, .int .i64 F, .int .i64 T, .int .i64 a]] w (Applied2 ((l.set F (x - a)).set T (y + a)) 1 0 w) := by
  obtain ⟨xa, ba, bt, _⟩ := apply_boxes w 1 i F T a 77 42
  have HV := Lib.hid (hv.ext xa)
  have HO := Lib.hid hv
  have XA := Lib.hid xa
  have BA := Lib.hid ba
  have BT := Lib.hid bt
  obtain ⟨b, off, cap, rfl, hbl⟩ := slice_at hv h4
  have HL : Hid (l.length ≤ 1048576) := Lib.hid (by omega)
  have H4 := Lib.hid h4
  rw [h4]
  have HX := Lib.hid hx
  have HY := Lib.hid hy
  clear hv xa ba bt h4 hx hy
  go_enter Tryz.func116, Tryz.ntmps116
  go_wp2_with fail
  refine (l1Own_any _ l _ (by rw [← H4.out]; exact HV.out) HL.out).mono ?_
  rintro e w1 ⟨v1, rfl, f1, x1⟩
  have F1 := Lib.hid f1
  have X1 := Lib.hid x1
  have ha := BA.out.ext x1
  have a0 := ha.cell 0 _ rfl
  have a2 := ha.cell 2 _ rfl
  have a3 := ha.cell 3 _ rfl
  have a4 := ha.cell 4 _ rfl
  have hb := BT.out.ext x1
  have d0 := hb.cell 0 _ rfl
  have d1 := hb.cell 1 _ rfl
  have z0 := hb.free 0 (of_decide_eq_true rfl)
  have z1 := hb.free 1 (of_decide_eq_true rfl)
  have gF := ints_cell (HO.out.ext (XA.out.trans x1)) HX.out
  have i1 : (0 : Int) ≤ (F : Int) := by omega
  have i2 : (F : Int) < 4 := by omega
  obtain ⟨g, cg, rfl, hg1, hg2⟩ := fresh_at f1 H4.out
  have hg3 : w.heap.size + 1 < g := by simp at hg1; omega
  have n1 : w.heap.size ≠ g := by omega
  have n2 : w.heap.size + 1 ≠ g := by omega
  have hne' : T ≠ F := fun h => hne h.symm
  have j1 : (0 : Int) ≤ (T : Int) := by omega
  have j2 : (T : Int) < 4 := by omega
  have w1' : wrap64 (x - a) = x - a := by unfold wrap64; omega
  have w2' : wrap64 (y + a) = y + a := by unfold wrap64; omega
  have q1 := fresh_cell f1 H4.out HX.out
  have q2 := fresh_frozen f1 H4.out F
  have q3 := fresh_cell f1 H4.out HY.out
  have q4 := fresh_frozen f1 H4.out T
  clear f1 x1 ha hb
  go_wp2
  go_quiet (fail)
  go_wp2
  go_region
  go_wp2
  go_region
  go_wp2
  have x7 : Ext w ((((((w1.drewN (nq + 1)).setCell ⟨g, F, none⟩ (.int .i64 (x - a))).setCell ⟨g, T, none⟩ (.int .i64 (y + a))).setCell ⟨w.heap.size + 1, 0, none⟩ (.int .i64 1)).setCell ⟨w.heap.size + 1, 1, none⟩ (.int .i64 0)).drew) :=
    Ext.drew (Below.setCell (Below.setCell (Below.setCell (Below.setCell ((XA.out.trans X1.out).drewN (nq + 1)) (Nat.le_of_lt (Nat.lt_of_succ_lt hg3)) _) (Nat.le_of_lt (Nat.lt_of_succ_lt hg3)) _) (Nat.le_succ _) _) (Nat.le_succ _) _)
  have hl2 : w.heap.size + 1 < ((w.alloc (.cells #[.int .i64 1, .int .i64 i, .int .i64 F, .int .i64 T, .int .i64 a] 77)).alloc (.cells #[.int .i64 0, .int .i64 0] 42)).heap.size := by simp
  have f5 := (fresh_put (fresh_put (F1.out.ext (Ext.drewN (Ext.refl _) (nq + 1))) H4.out F (x - a)).1 (by simp [H4.out]) T (y + a)).1
  have f7 := (((f5.set (w.heap.size + 1) 0 (.int .i64 1) hl2).set (w.heap.size + 1) 1 (.int .i64 0) hl2).ext (Ext.drew (Ext.refl _))).more (Nat.le_of_lt (Nat.lt_of_succ_lt hl2))
  exact bodyPost_ret (v := .tuple #[.slice (some ⟨g, 0, none⟩) 4 cg, .agg #[.int .i64 1, .int .i64 0]]) (by simp [results, Tryz.results116, go_sem, d0, d1, n1, n2, hne, hne']) rfl ⟨_, rfl, f7, x7⟩

theorem l11Apply_any (v : Value) (l : List Int) (k i f t a : Int) (w : World) (hv : Ints w v l) (hg : goodS l = true) (hc : goodB k i f t a = true) :
    Calls Tryz.prog 116 #[v, .agg #[.int .i64 k, .int .i64 i, .int .i64 f, .int .i64 t, .int .i64 a]] w (Applied2 (didL k f t a l) (didC k f a l) (didS k f l) w) := by
  have h4 := (goodS_get hg).1
  rcases good_kind hc with rfl | rfl | rfl
  · exact l11Apply_0 v l i t a f w hv h4
  · obtain ⟨F, T, rfl, rfl, hF, hT, hne, ha, ha1⟩ := good_1 hc
    obtain ⟨x, hx, hx0, hx1⟩ := goodS_at hg hF
    obtain ⟨y, hy, hy0, hy1⟩ := goodS_at hg hT
    have e1 : l[((F : Int)).toNat]? = some x := hx
    have e2 : l[((T : Int)).toNat]? = some y := hy
    have k1 : (1 : Int) = 1 ↔ True := by decide
    have k2 : (1 : Int) = 2 ↔ False := by decide
    simp only [didL, didC, didS, e1, e2, Option.getD_some, k1, k2, if_true, if_false]
    by_cases h : x < a
    · rw [if_pos h, if_pos h]
      exact l11Apply_poor v l i a F T x w hv h4 hF hT hx h
    · rw [if_neg h, if_neg h]
      exact l11Apply_done v l i a F T x y w hv h4 hF hT hx hy hne (by omega) ha ha1 hx1 hy0 hy1
  · obtain ⟨F, rfl, hF⟩ := good_2 hc
    obtain ⟨x, hx, hx0, hx1⟩ := goodS_at hg hF
    have e1 : l[((F : Int)).toNat]? = some x := hx
    have k1 : (2 : Int) = 1 ↔ False := by decide
    have k2 : (2 : Int) = 2 ↔ True := by decide
    simp only [didL, didC, didS, e1, Option.getD_some, k1, k2, if_true, if_false]
    exact l11Apply_2 v l i t a F x w hv h4 hF hx

end Go.Proofs.YtcpmfcigciknlaaGreat

namespace Go.Proofs.YtcpmfcigciknlaaGreat
open Go.RowKit
set_option linter.unusedVariables false

theorem endT_alloc {W K : World} {c s : Int} {v : Value} {L : List Int} {n0 : Nat} {T : TypeId} (h1 : Ext W K) (h2 : Fresh n0 K v L) (h3 : W.heap.size ≤ n0) :
    Fresh W.heap.size (K.alloc (.cells #[.int .i64 c, .int .i64 s] T)) v L ∧ BoxV (K.alloc (.cells #[.int .i64 c, .int .i64 s] T)) K.heap.size [.int .i64 c, .int .i64 s] ∧ Ext W (K.alloc (.cells #[.int .i64 c, .int .i64 s] T)) ∧ W.heap.size ≤ K.heap.size :=
  ⟨(h2.ext (Ext.alloc (Ext.refl _) _)).more h3, boxV_new _ _ _, h1.alloc _, h1.size⟩
theorem endT_set {W K : World} {g n0 : Nat} {c s : Int} {a b : Value} {v : Value} {L : List Int} (hp : BoxV K g [a, b]) (h1 : Ext W K) (h2 : Fresh n0 K v L) (h3 : W.heap.size ≤ n0) (h4 : W.heap.size ≤ g) (h5 : g < n0) :
    Fresh W.heap.size ((K.setCell ⟨g, 0, none⟩ (.int .i64 c)).setCell ⟨g, 1, none⟩ (.int .i64 s)) v L ∧ BoxV ((K.setCell ⟨g, 0, none⟩ (.int .i64 c)).setCell ⟨g, 1, none⟩ (.int .i64 s)) g [.int .i64 c, .int .i64 s] ∧ Ext W ((K.setCell ⟨g, 0, none⟩ (.int .i64 c)).setCell ⟨g, 1, none⟩ (.int .i64 s)) ∧ W.heap.size ≤ g :=
  ⟨((h2.set g 0 _ h5).set g 1 _ h5).more h3, (hp.set 0 (.int .i64 c) (by simp)).set 1 (.int .i64 s) (by simp), (h1.setc h4).setc h4, h4⟩

theorem BoxV.grown {w w' : World} {b : Nat} {vs : List Value} {r : Option Nat} (h : BoxV w b vs) (t : w.grownBy w' r) (hne : r ≠ some b) : BoxV w' b vs := by
  have hb := t.block b h.lt (fun e => hne e.symm)
  refine ⟨fun j v hj => ?_, fun j hj => ?_, Nat.lt_of_lt_of_le h.lt t.size⟩
  · have := h.cell j v hj
    unfold World.cell? at this ⊢
    rw [hb]
    exact this
  · have := h.free j hj
    unfold World.frozen? at this ⊢
    rw [hb]
    exact this

end Go.Proofs.YtcpmfcigciknlaaGreat

namespace Go.Proofs.YtcpmfcigciknlaaGreat
open Go.RowKit
set_option linter.unusedVariables false

end Go.Proofs.YtcpmfcigciknlaaGreat

namespace Go.Proofs.YtcpmfcigciknlaaGreat
open Go.RowKit
set_option linter.unusedVariables false

/-- How many marks rows bear. -/
def weigh (R : List RowD) : List Nat := R.map fun r => 9 + r.l.length
theorem weigh_len (R : List RowD) : (weigh R).length = R.length := by simp [weigh]
theorem weigh_get {R : List RowD} {k : Nat} (h : k < R.length) : (weigh R)[k]'(by rw [weigh_len]; exact h) = 9 + R[k].l.length := by simp [weigh]
theorem weigh_sum (R : List RowD) : (weigh R).sum ≤ 10 * bulkR R := by
  unfold weigh bulkR
  induction R with
  | nil => simp
  | cons r R ih => simp at ih ⊢; omega

set_option maxHeartbeats 4000000 in
set_option maxRecDepth 100000 in
theorem markRowS_any (lo hi : Nat) (v : Value) (R : List RowD) (k : Int) (w : World) (hv : FreshI lo hi w v R) (h0 : 0 ≤ k) (hk : k ≤ 1099511627776) (h1 : bulkR R ≤ 1099511627776) :
    Calls Tryz.prog 75 #[v, .int .i64 k] w (fun e w' => e = .returned (.int .i64 (k + (weigh R).sum)) ∧ Ins lo hi w w') := by
  obtain ⟨xs, us, ho, hC, hR, hout, hU, hUs⟩ := hv
  have hul : us.length = R.length := by have := hR.len; simpa using this
  have hws := weigh_sum R
  rcases ho.2 with ⟨rfl, hn⟩ | ⟨g, cap, cur, rfl, hb, hg, hnc, hcm, hcs, htake⟩
  · obtain rfl : R = [] := List.eq_nil_of_length_eq_zero hn
    clear h1 hws
    go_enter Tryz.func75, Tryz.ntmps75
    go_wp2
    refine wp_loop_rounds 1 ?_; rw [rounds_succ]
    go_wp2
    go_ret
    exact ⟨by simp [weigh], Ins.refl _ _ _⟩
  · have hout' : ∀ (j : Nat) (u : Value), us[j]? = some u → u.ownBlock = none ∨ u.ownBlock ≠ some g := hout
    have hgi : lo ≤ g ∧ g < hi := ⟨hb, hU g rfl⟩
    have hfr : Hid (∀ i (h : i < R.length) (h' : i < us.length), 0 ≤ i → Fresh lo w us[i] R[i].l) := Lib.hid fun i h h' _ => hR.row i _ _ (List.getElem?_eq_getElem h') (by simp [List.getElem?_eq_getElem h])
    have hxr : Hid (∀ i (h : i < R.length) (h' : i < us.length), 0 ≤ i → XRow xs (i * 10) R[i] us[i]) := Lib.hid fun i h h' _ => hC i h h'
    have HOUT := Lib.hid hout'
    have HAP := Lib.hid hR.apart
    have HUS := Lib.hid hUs
    have HUL := Lib.hid hul
    have HWS := Lib.hid hws
    have HGI := Lib.hid hgi
    have H1 := Lib.hid h1
    have hLen : R.length ≤ 1099511627776 := by unfold bulkR at h1; omega
    clear hg hnc hcm hcs htake cur hb hout hout' hU hUs hul hR hC hws hgi h1
    go_enter Tryz.func75, Tryz.ntmps75
    go_wp2
    go_loopw [1, 5] (fun m i wr => ∃ (j : Nat) (r : Int) (ys : List Value), j ≤ R.length ∧ i = .int .i64 j ∧ m = .int .i64 r ∧ Hid (r = k + sumN (weigh R) j) ∧ wr.ownsRow lo 83 10 (.slice (some ⟨g, 0, none⟩) R.length cap) R.length ys ∧ Hid (∀ i (h : i < R.length) (h' : i < us.length), j ≤ i → Fresh lo wr us[i] R[i].l) ∧ Hid (∀ i (h : i < R.length) (h' : i < us.length), j ≤ i → XRow ys (i * 10) R[i] us[i]) ∧ Ins lo hi w wr) (fun _ i _ => R.length - (intOf i).toNat)
    case atStart => exact ⟨0, k, xs, Nat.zero_le _, rfl, rfl, Lib.hid (by rw [sumN_zero]; simp), ho, hfr, hxr, Ins.refl _ _ _⟩
    case round =>
      clear ho hfr hxr
      obtain ⟨j, r, ys, hj, rfl, rfl, hr, ho, hF, hX, hI⟩ := hrel
      by_cases hlt : j < R.length
      · have hju : j < us.length := by rw [HUL.out]; exact hlt
        obtain ⟨d, hd⟩ : ∃ d, d = R[j] := ⟨_, rfl⟩
        obtain ⟨u, hu⟩ : ∃ u, u = us[j] := ⟨_, rfl⟩
        have hx := hX.out j hlt hju (Nat.le_refl _)
        have hf := hF.out j hlt hju (Nat.le_refl _)
        rw [← hd, ← hu] at hx hf
        have hlen : d.l.length ≤ 1099511627776 := by rw [hd]; have := bulkR_row hlt; have := H1.out; omega
        have hr0 : 0 ≤ r := by have := hr.out; omega
        have hr1 : r ≤ 21990232555520 := by
          have h := hr.out
          have h2 := sumN_mono (g := weigh R) (k := j) (by rw [weigh_len]; omega)
          have := HWS.out; have := H1.out; omega
        obtain ⟨g0, g1, g2, g3, g4, g5, g6, g7, g8, g9⟩ := hx.rowIn ho hlt
        have gf : ∀ q, wr.frozen? ⟨g, q, none⟩ = false := fun q => ho.frozenAt q
        obtain ⟨au, cu, rfl⟩ := hf.form
        have HO := Lib.hid ho
        have HFF := Lib.hid hf
        have HD := Lib.hid hd
        have HU := Lib.hid hu
        clear ho hf hx hd hu
        have hst := ownsRow_stores [.int .i64 r, .int .i64 (r + 1), .int .i64 (r + 1 + 1), .int .i64 (r + 1 + 1 + 1), .int .i64 (r + 1 + 1 + 1 + 1), .int .i64 (r + 1 + 1 + 1 + 1 + 1), .int .i64 (r + 1 + 1 + 1 + 1 + 1 + 1), .int .i64 (r + 1 + 1 + 1 + 1 + 1 + 1 + 1), .int .i64 (r + 1 + 1 + 1 + 1 + 1 + 1 + 1 + 1)] (j * 10) wr ys HO.out
        have hub : ∀ b, (Value.slice au d.l.length cu).ownBlock = some b → lo ≤ b ∧ b < hi ∧ b ≠ g := fun b e => by
          have h1 := (World.ownsRow.lt HFF.out b e).1
          have hju' : us[j]? = some (.slice au d.l.length cu) := by rw [List.getElem?_eq_getElem hju, HU.out]
          have h2 := HUS.out j _ hju' b e
          refine ⟨h1, h2, fun e' => ?_⟩
          rcases HOUT.out j _ hju' with h | h
          · rw [h] at e; cases e
          · exact h (by rw [e, e'])
        have hf9 : Fresh lo (wr.setCells g (j * 10) [.int .i64 r, .int .i64 (r + 1), .int .i64 (r + 1 + 1), .int .i64 (r + 1 + 1 + 1), .int .i64 (r + 1 + 1 + 1 + 1), .int .i64 (r + 1 + 1 + 1 + 1 + 1), .int .i64 (r + 1 + 1 + 1 + 1 + 1 + 1), .int .i64 (r + 1 + 1 + 1 + 1 + 1 + 1 + 1), .int .i64 (r + 1 + 1 + 1 + 1 + 1 + 1 + 1 + 1)]) (.slice au d.l.length cu) d.l := World.ownsRow.kept HFF.out hst.2 (by
          cases hob : (Value.slice au d.l.length cu).ownBlock with
          | none => exact .inl rfl
          | some b => exact .inr fun e => (hub b hob).2.2 (Option.some.inj e))
        have hi9 : Ins lo hi wr (wr.setCells g (j * 10) [.int .i64 r, .int .i64 (r + 1), .int .i64 (r + 1 + 1), .int .i64 (r + 1 + 1 + 1), .int .i64 (r + 1 + 1 + 1 + 1), .int .i64 (r + 1 + 1 + 1 + 1 + 1), .int .i64 (r + 1 + 1 + 1 + 1 + 1 + 1), .int .i64 (r + 1 + 1 + 1 + 1 + 1 + 1 + 1), .int .i64 (r + 1 + 1 + 1 + 1 + 1 + 1 + 1 + 1)]) := Ins.of_grown hst.2 (fun q e => by rw [← Option.some.inj e]; exact HGI.out)
        have HST := Lib.hid hst
        have HUB := Lib.hid hub
        have HF9 := Lib.hid hf9
        have HI9 := Lib.hid hi9
        clear hst hub hf9 hi9
        go_wp2_with fail
        refine (markIntS_any lo _ d.l _ (wr.setCells g (j * 10) [.int .i64 r, .int .i64 (r + 1), .int .i64 (r + 1 + 1), .int .i64 (r + 1 + 1 + 1), .int .i64 (r + 1 + 1 + 1 + 1), .int .i64 (r + 1 + 1 + 1 + 1 + 1), .int .i64 (r + 1 + 1 + 1 + 1 + 1 + 1), .int .i64 (r + 1 + 1 + 1 + 1 + 1 + 1 + 1), .int .i64 (r + 1 + 1 + 1 + 1 + 1 + 1 + 1 + 1)]) HF9.out (by omega) (by omega)).mono ?_
        rintro e w3 ⟨rfl, f3, t3⟩
        have T3 := Lib.hid t3
        have hs := sumN_succ (g := weigh R) (k := j) (by rw [weigh_len]; exact hlt)
        rw [weigh_get hlt, ← HD.out] at hs
        have HS := Lib.hid hs
        clear f3 t3 hs g0 g1 g2 g3 g4 g5 g6 g7 g8 g9 gf
        obtain ⟨q, hq⟩ : ∃ q, q = r + 1 + 1 + 1 + 1 + 1 + 1 + 1 + 1 + 1 + (d.l.length : Int) := ⟨_, rfl⟩
        have hq0 : 0 ≤ q := by omega
        rw [← hq]
        have HQ := Lib.hid hq
        clear hq
        go_wp2
        go_roundw
        case rel =>
          have hju' : us[j]? = some (.slice au d.l.length cu) := by rw [List.getElem?_eq_getElem hju, HU.out]
          refine ⟨j + 1, q, _, by omega, by go_num, rfl, Lib.hid (by have h1 := hr.out; have h2 := HS.out; have h3 := HQ.out; omega), World.ownsRow.kept HST.out.1 T3.out ?_, Lib.hid fun i h h' hij => ?_, Lib.hid fun i h h' hij => ?_, (hI.trans HI9.out).trans (Ins.of_grown T3.out (fun b e => ⟨(HUB.out b e).1, (HUB.out b e).2.1⟩))⟩
          · refine .inr fun e => ?_
            have := (HUB.out g e.symm).2.2
            exact this rfl
          · have h9 : Fresh lo (wr.setCells g (j * 10) [.int .i64 r, .int .i64 (r + 1), .int .i64 (r + 1 + 1), .int .i64 (r + 1 + 1 + 1), .int .i64 (r + 1 + 1 + 1 + 1), .int .i64 (r + 1 + 1 + 1 + 1 + 1), .int .i64 (r + 1 + 1 + 1 + 1 + 1 + 1), .int .i64 (r + 1 + 1 + 1 + 1 + 1 + 1 + 1), .int .i64 (r + 1 + 1 + 1 + 1 + 1 + 1 + 1 + 1)]) us[i] R[i].l := World.ownsRow.kept (hF.out i h h' (by omega)) HST.out.2 (HOUT.out i _ (List.getElem?_eq_getElem h'))
            exact World.ownsRow.kept h9 T3.out (HAP.out i j _ _ (by omega) (List.getElem?_eq_getElem h') hju')
          · have hl9 : ∀ (vs : List Value), vs.length = 9 → XRow (putL ys (j * 10) vs) (i * 10) R[i] us[i] := fun vs hvs => by
              obtain ⟨p0, p1, p2, p3, p4, p5, p6, p7, p8, p9⟩ := hX.out i h h' (by omega)
              refine ⟨?_, ?_, ?_, ?_, ?_, ?_, ?_, ?_, ?_, ?_⟩ <;> (rw [putL_out _ _ _ _ (by rw [hvs]; omega)]; assumption)
            exact hl9 _ rfl
        case measure => simp [intOf]; omega
      · obtain rfl : j = R.length := by omega
        go_wp2
        go_ret
        refine ⟨?_, hI⟩
        have h := hr.out
        have h2 := sumN_all (weigh R)
        rw [weigh_len] at h2
        rw [h2] at h
        rw [h]; rfl

end Go.Proofs.YtcpmfcigciknlaaGreat

namespace Go.Proofs.YtcpmfcigciknlaaGreat
open Go.RowKit
set_option linter.unusedVariables false

/-- The marks k, k + 1, .., two for each. -/
def marksT (k : Int) (n : Nat) : List TldD := (List.range n).map fun (j : Nat) => ⟨k + 2 * (j : Int), k + 2 * (j : Int) + 1⟩
theorem marksT_len (k : Int) (n : Nat) : (marksT k n).length = n := by simp [marksT]
theorem marksT_at {k : Int} {n j : Nat} (h : j < (marksT k n).length) : (marksT k n)[j] = ⟨k + 2 * (j : Int), k + 2 * (j : Int) + 1⟩ := by simp [marksT]

/-- What is told, in a block of its own from lo on, below hi, or nothing. -/
def AnsTd (lo hi : Nat) (w : World) (v : Value) (L : List TldD) : Prop := (L = [] ∧ v = .slice none 0 0) ∨ TdzM lo hi w v L
theorem AnsTd.reads {lo hi : Nat} {w : World} {v : Value} {L : List TldD} (h : AnsTd lo hi w v L) : Tdz w v L := by
  rcases h with ⟨rfl, rfl⟩ | h
  · exact Tdz.nil w
  · exact h.reads
theorem AnsTd.kept {lo hi : Nat} {w w' : World} {v : Value} {L : List TldD} (h : AnsTd lo hi w v L) (s : Stood lo hi w w') : AnsTd lo hi w' v L := by
  rcases h with h | h
  · exact .inl h
  · exact .inr (h.kept s)
end Go.Proofs.YtcpmfcigciknlaaGreat
