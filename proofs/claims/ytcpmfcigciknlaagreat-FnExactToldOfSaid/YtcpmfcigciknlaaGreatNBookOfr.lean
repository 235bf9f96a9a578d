/- Texts of this proof, part r: words, plain facts, contracts. -/
import Derived.Test.YtcpmfcigciknlaaGreatNBookOfq
import Derived.Test.YtcpmfcigciknlaaGreatNBookOfp
import Derived.Deep.RegionLaw
import Derived.Deep.RegionHeld3
import Derived.Test.YtcpmfcigciknlaaGreatNBookOfc
import Derived.Laws.CopyOwn
import Derived.StillTailTactics
import Derived.Test.YtcpmfcigciknlaaGreatNBookOfj
import Derived.IntWalk
import Derived.OwnWalk
set_option linter.unusedVariables false
set_option linter.unusedSimpArgs false

namespace Go.Proofs.YtcpmfcigciknlaaGreat
open Go.RowKit
set_option linter.unusedVariables false
def EnterTo (B : Nat) (u : Value) (l : List Int) (r n k i f t a c s : Int) (w : World) (e : Ending) (w' : World) : Prop :=
  e = .returned (.agg #[.int .i64 r, .int .i64 n, .int .i64 k, .int .i64 i, .int .i64 f, .int .i64 t, .int .i64 a, .int .i64 c, .int .i64 s]) ∧ Fresh B w' u l ∧ w.grownBy w' u.ownBlock
theorem BoxV.but {w w' : World} {b : Nat} {vs : List Value} {r : Option Nat} (h : BoxV w b vs) (t : w.grownBy w' r) (hne : r ≠ some b) : BoxV w' b vs := by
  have hb := t.block b h.lt (fun e => hne e.symm)
  refine ⟨fun j v hj => ?_, fun j hj => ?_, Nat.lt_of_lt_of_le h.lt t.size⟩
  · have := h.cell j v hj
    unfold World.cell? at this ⊢
    rw [hb]
    exact this
  · have := h.free j hj
    unfold World.frozen? at this ⊢
    rw [hb]
    exact this
theorem grown_ext {w w' : World} (h : Ext w w') (r : Option Nat) : w.grownBy w' r := ⟨h.os, h.tape, h.output, h.size, fun k hk _ => Below.block h k hk⟩
theorem cell_but {w w' : World} {a : Addr} {v : Value} {r : Option Nat} (h : w.cell? a = some v) (t : w.grownBy w' r) (hne : r ≠ some a.block) : w'.cell? a = some v := by
  have hb := t.block a.block (block_lt_of_cell h) (fun e => hne e.symm)
  exact (World.cell?_of_block hb).trans h
theorem cell_puts {g : Nat} {a : Addr} {v : Value} (hne : a.block ≠ g) : ∀ (vs : List Value) (o : Nat) {w : World}, w.cell? a = some v → (w.setCells g o vs).cell? a = some v
  | [], _, _, h => h
  | x :: r, o, w, h => cell_puts hne r (o + 1) (by
    have e := Below.heap_setCell w ⟨g, o, none⟩ x a.block (fun e => hne (by first | exact e | exact e.symm))
    exact (World.cell?_of_block e).trans h)
theorem grown_puts {w : World} {g : Nat} {r : Option Nat} (hg : w.heap.size ≤ g) : ∀ (vs : List Value) (o : Nat) {w1 : World}, w.grownBy w1 r → w.grownBy (w1.setCells g o vs) r
  | [], _, _, h => h
  | x :: t, o, w1, h => grown_puts hg t (o + 1) (grown_putD h g o x (.inl hg))
theorem fresh_puts {B g : Nat} {u : Value} {l : List Int} (hne : u.ownBlock ≠ some g) : ∀ (vs : List Value) (o : Nat) {w : World}, Fresh B w u l → Fresh B (w.setCells g o vs) u l
  | [], _, _, h => h
  | x :: t, o, w, h => fresh_puts hne t (o + 1) (World.ownsRow.kept h (grownBy_set w g o x) (by
    cases hu : u.ownBlock with
    | none => exact .inl rfl
    | some q => exact .inr (by rw [← hu]; exact hne)))
theorem grown_transE {w w1 w2 : World} {r : Option Nat} (a : w.grownBy w1 r) (b : w1.grownBy w2 r) : w.grownBy w2 r :=
  ⟨b.os.trans a.os, b.tape.trans a.tape, b.output.trans a.output, Nat.le_trans a.size b.size, fun k hk hne => (b.block k (Nat.lt_of_lt_of_le hk a.size) hne).trans (a.block k hk hne)⟩
set_option maxHeartbeats 4000000 in
set_option maxRecDepth 100000 in
theorem enter_0 (B bm : Nat) (u : Value) (l : List Int) (r n i f t a : Int) (w : World) (hf : Fresh B w u l) (hg : goodS l = true) (hc : goodB 0 i f t a = true) (hb : w.cell? ⟨bm, 0, none⟩ = some u) (hbu : u.ownBlock ≠ some bm) :
    Calls Tryz.prog 69 #[.int .i64 r, .int .i64 n, .agg #[.int .i64 0, .int .i64 i, .int .i64 f, .int .i64 t, .int .i64 a], .pointer (some ⟨bm, 0, none⟩)] w (EnterTo B u (didL 0 f t a l) r n 0 i f t a (didC 0 f a l) (didS 0 f l) w) := by
  obtain ⟨wb, hwb⟩ : ∃ wb, wb = (w.alloc (.cells #[.int .i64 0, .int .i64 i, .int .i64 f, .int .i64 t, .int .i64 a] 77)).alloc (.cells #[.int .i64 0, .int .i64 0, .int .i64 0, .int .i64 0, .int .i64 0, .int .i64 0, .int .i64 0, .int .i64 0, .int .i64 0] 79) := ⟨_, rfl⟩
  have xb : Ext w wb := by rw [hwb]; exact (Ext.alloc (Ext.refl _) _).alloc _
  have sb : wb.heap.size = w.heap.size + 2 := by rw [hwb]; simp
  have bc : BoxV wb w.heap.size [.int .i64 0, .int .i64 i, .int .i64 f, .int .i64 t, .int .i64 a] := by rw [hwb]; exact (boxV_new w [.int .i64 0, .int .i64 i, .int .i64 f, .int .i64 t, .int .i64 a] 77).ext (Ext.alloc (Ext.refl _) _)
  have br : BoxV wb (w.heap.size + 1) [.int .i64 0, .int .i64 0, .int .i64 0, .int .i64 0, .int .i64 0, .int .i64 0, .int .i64 0, .int .i64 0, .int .i64 0] := by
    have h := boxV_new (w.alloc (.cells #[.int .i64 0, .int .i64 i, .int .i64 f, .int .i64 t, .int .i64 a] 77)) [.int .i64 0, .int .i64 0, .int .i64 0, .int .i64 0, .int .i64 0, .int .i64 0, .int .i64 0, .int .i64 0, .int .i64 0] 79
    rw [World.size_alloc, ← hwb] at h
    exact h
  have hbl := block_lt_of_cell hb
  dsimp only at hbl
  have hul : ∀ q, u.ownBlock = some q → q < w.heap.size := fun q hq => (World.ownsRow.lt hf q hq).2
  have HUL := Lib.hid hul
  have HBU := Lib.hid hbu
  have HWB := Lib.hid hwb
  have XB := Lib.hid xb
  have BC := Lib.hid bc
  have BR := Lib.hid br
  have HF := Lib.hid (hf.ext xb)
  have HG := Lib.hid hg
  have HC := Lib.hid hc
  have hb0 := xb.cell hb
  obtain ⟨c, hcc⟩ : ∃ c, c = didC 0 f a l := ⟨_, rfl⟩
  obtain ⟨s, hss⟩ : ∃ s, s = didS 0 f l := ⟨_, rfl⟩
  have HCC := Lib.hid hcc
  have HSS := Lib.hid hss
  have NR : Hid (u.ownBlock ≠ some (w.heap.size + 1)) := Lib.hid (fun e => by have := hul _ e; omega)
  have NC : Hid (u.ownBlock ≠ some w.heap.size) := Lib.hid (fun e => by have := hul _ e; omega)
  rw [← hcc, ← hss]
  clear hf hg hc hb hbu hwb xb bc br hul hcc hss
  go_enter Tryz.func69, Tryz.ntmps69
  go_wp2
  rw [← HWB.out]
  have hm := meth_0
  have KS : Hid (∀ V, Ext wb V → V.cell? ⟨w.heap.size, 0, none⟩ = some (.int .i64 0) ∧ V.cell? ⟨w.heap.size, 1, none⟩ = some (.int .i64 i) ∧ V.cell? ⟨w.heap.size, 2, none⟩ = some (.int .i64 f) ∧ V.cell? ⟨w.heap.size, 3, none⟩ = some (.int .i64 t) ∧ V.cell? ⟨w.heap.size, 4, none⟩ = some (.int .i64 a) ∧ V.cell? ⟨bm, 0, none⟩ = some u) := Lib.hid (fun V hV => by
    have h := BC.out.ext hV
    exact ⟨h.cell 0 _ rfl, h.cell 1 _ rfl, h.cell 2 _ rfl, h.cell 3 _ rfl, h.cell 4 _ rfl, hV.cell hb0⟩)
  have HR := Lib.hid (Ext.drew (Ext.refl wb))
  have HB0 := Lib.hid hb0
  have HBM := Lib.hid hbl
  clear hb0 hbl
  go_region_held3 (fun V => V.cell? ⟨w.heap.size, 0, none⟩ = some (.int .i64 0) ∧ V.cell? ⟨w.heap.size, 1, none⟩ = some (.int .i64 i) ∧ V.cell? ⟨w.heap.size, 2, none⟩ = some (.int .i64 f) ∧ V.cell? ⟨w.heap.size, 3, none⟩ = some (.int .i64 t) ∧ V.cell? ⟨w.heap.size, 4, none⟩ = some (.int .i64 a) ∧ V.cell? ⟨bm, 0, none⟩ = some u) (first | (with_reducible exact KS.out _ HR.out) | (with_reducible exact KS.out _ X4.out) | (with_reducible exact K5.out) | (exact K6.out)) (first
    | (go_at_call 70; refine (deedOf_0 _ _ _ _ _).mono ?_; rintro e w4 ⟨rfl, x4'⟩; unfold deedV; rw [if_neg (by decide), if_neg (by decide)]; have x4 : Ext wb w4 := (Ext.drew (Ext.refl _)).trans x4'; have X4 := Lib.hid x4)
    | (go_at_call 282; have F4 := Lib.hid (Fresh.ext HF.out x4); refine (did_0 (f := f) (t := t) (a := a) F4.out).mono ?_; rintro e w5 ⟨rfl, f5, g5⟩; rw [← HCC.out, ← HSS.out]; have B5 := BoxV.but (BC.out.ext x4) g5 NC.out; have R5 := BoxV.but (BR.out.ext x4) g5 NR.out; have hu5 := cell_but (x4.cell HB0.out) g5 HBU.out; have K5 := Lib.hid (And.intro (B5.cell 0 _ rfl) (And.intro (B5.cell 1 _ rfl) (And.intro (B5.cell 2 _ rfl) (And.intro (B5.cell 3 _ rfl) (And.intro (B5.cell 4 _ rfl) hu5))))); have B6 := boxV_other_puts (b := w.heap.size) (b' := w.heap.size + 1) (by omega) [.int .i64 r, .int .i64 n, .int .i64 0, .int .i64 i, .int .i64 f, .int .i64 t, .int .i64 a, .int .i64 c, .int .i64 s] 0 _ _ B5; have K6 := Lib.hid (And.intro (B6.cell 0 _ rfl) (And.intro (B6.cell 1 _ rfl) (And.intro (B6.cell 2 _ rfl) (And.intro (B6.cell 3 _ rfl) (And.intro (B6.cell 4 _ rfl) (cell_puts (g := w.heap.size + 1) (by dsimp only; have := HBM.out; omega) [.int .i64 r, .int .i64 n, .int .i64 0, .int .i64 i, .int .i64 f, .int .i64 t, .int .i64 a, .int .i64 c, .int .i64 s] 0 hu5)))))); have y0 := R5.cell 0 _ rfl; have z0 := R5.free 0 (of_decide_eq_true rfl); have y1 := R5.cell 1 _ rfl; have z1 := R5.free 1 (of_decide_eq_true rfl); have y2 := R5.cell 2 _ rfl; have z2 := R5.free 2 (of_decide_eq_true rfl); have y3 := R5.cell 3 _ rfl; have z3 := R5.free 3 (of_decide_eq_true rfl); have y4 := R5.cell 4 _ rfl; have z4 := R5.free 4 (of_decide_eq_true rfl); have y5 := R5.cell 5 _ rfl; have z5 := R5.free 5 (of_decide_eq_true rfl); have y6 := R5.cell 6 _ rfl; have z6 := R5.free 6 (of_decide_eq_true rfl); have y7 := R5.cell 7 _ rfl; have z7 := R5.free 7 (of_decide_eq_true rfl); have y8 := R5.cell 8 _ rfl; have z8 := R5.free 8 (of_decide_eq_true rfl)))
  have R6 := boxV_puts [.int .i64 r, .int .i64 n, .int .i64 0, .int .i64 i, .int .i64 f, .int .i64 t, .int .i64 a, .int .i64 c, .int .i64 s] 0 _ _ R5 (of_decide_eq_true rfl)
  have hgr : w.grownBy (w5.setCells (w.heap.size + 1) 0 [.int .i64 r, .int .i64 n, .int .i64 0, .int .i64 i, .int .i64 f, .int .i64 t, .int .i64 a, .int .i64 c, .int .i64 s]) u.ownBlock := grown_puts (by omega) [.int .i64 r, .int .i64 n, .int .i64 0, .int .i64 i, .int .i64 f, .int .i64 t, .int .i64 a, .int .i64 c, .int .i64 s] 0 (grown_transE (grown_ext (XB.out.trans x4) _) g5)
  have hfr : Fresh B (w5.setCells (w.heap.size + 1) 0 [.int .i64 r, .int .i64 n, .int .i64 0, .int .i64 i, .int .i64 f, .int .i64 t, .int .i64 a, .int .i64 c, .int .i64 s]) u (didL 0 f t a l) := fresh_puts NR.out [.int .i64 r, .int .i64 n, .int .i64 0, .int .i64 i, .int .i64 f, .int .i64 t, .int .i64 a, .int .i64 c, .int .i64 s] 0 f5
  obtain ⟨wz, hwz⟩ : ∃ wz, wz = w5.setCells (w.heap.size + 1) 0 [.int .i64 r, .int .i64 n, .int .i64 0, .int .i64 i, .int .i64 f, .int .i64 t, .int .i64 a, .int .i64 c, .int .i64 s] := ⟨_, rfl⟩
  have HWZ := hwz
  simp only [World.setCells] at HWZ
  rw [← hwz] at R6 hgr hfr
  have r0 := R6.cell 0 _ rfl
  have r1 := R6.cell 1 _ rfl
  have r2 := R6.cell 2 _ rfl
  have r3 := R6.cell 3 _ rfl
  have r4 := R6.cell 4 _ rfl
  have r5 := R6.cell 5 _ rfl
  have r6 := R6.cell 6 _ rfl
  have r7 := R6.cell 7 _ rfl
  have r8 := R6.cell 8 _ rfl
  clear K5 K6 B5 B6 R5 f5 g5 hu5 y0 z0 y1 z1 y2 z2 y3 z3 y4 z4 y5 z5 y6 z6 y7 z7 y8 z8
  go_wp2
  first | rw [← HWZ] | skip
  exact bodyPost_ret (v := .agg #[.int .i64 r, .int .i64 n, .int .i64 0, .int .i64 i, .int .i64 f, .int .i64 t, .int .i64 a, .int .i64 c, .int .i64 s]) (by simp [results, Tryz.results69, go_sem, r0, r1, r2, r3, r4, r5, r6, r7, r8]) rfl ⟨rfl, hfr, hgr⟩
set_option maxHeartbeats 4000000 in
set_option maxRecDepth 100000 in
theorem enter_1 (B bm : Nat) (u : Value) (l : List Int) (r n i f t a : Int) (w : World) (hf : Fresh B w u l) (hg : goodS l = true) (hc : goodB 1 i f t a = true) (hb : w.cell? ⟨bm, 0, none⟩ = some u) (hbu : u.ownBlock ≠ some bm) :
    Calls Tryz.prog 69 #[.int .i64 r, .int .i64 n, .agg #[.int .i64 1, .int .i64 i, .int .i64 f, .int .i64 t, .int .i64 a], .pointer (some ⟨bm, 0, none⟩)] w (EnterTo B u (didL 1 f t a l) r n 1 i f t a (didC 1 f a l) (didS 1 f l) w) := by
  obtain ⟨wb, hwb⟩ : ∃ wb, wb = (w.alloc (.cells #[.int .i64 1, .int .i64 i, .int .i64 f, .int .i64 t, .int .i64 a] 77)).alloc (.cells #[.int .i64 0, .int .i64 0, .int .i64 0, .int .i64 0, .int .i64 0, .int .i64 0, .int .i64 0, .int .i64 0, .int .i64 0] 79) := ⟨_, rfl⟩
  have xb : Ext w wb := by rw [hwb]; exact (Ext.alloc (Ext.refl _) _).alloc _
  have sb : wb.heap.size = w.heap.size + 2 := by rw [hwb]; simp
  have bc : BoxV wb w.heap.size [.int .i64 1, .int .i64 i, .int .i64 f, .int .i64 t, .int .i64 a] := by rw [hwb]; exact (boxV_new w [.int .i64 1, .int .i64 i, .int .i64 f, .int .i64 t, .int .i64 a] 77).ext (Ext.alloc (Ext.refl _) _)
  have br : BoxV wb (w.heap.size + 1) [.int .i64 0, .int .i64 0, .int .i64 0, .int .i64 0, .int .i64 0, .int .i64 0, .int .i64 0, .int .i64 0, .int .i64 0] := by
    have h := boxV_new (w.alloc (.cells #[.int .i64 1, .int .i64 i, .int .i64 f, .int .i64 t, .int .i64 a] 77)) [.int .i64 0, .int .i64 0, .int .i64 0, .int .i64 0, .int .i64 0, .int .i64 0, .int .i64 0, .int .i64 0, .int .i64 0] 79
    rw [World.size_alloc, ← hwb] at h
    exact h
  have hbl := block_lt_of_cell hb
  dsimp only at hbl
  have hul : ∀ q, u.ownBlock = some q → q < w.heap.size := fun q hq => (World.ownsRow.lt hf q hq).2
  have HUL := Lib.hid hul
  have HBU := Lib.hid hbu
  have HWB := Lib.hid hwb
  have XB := Lib.hid xb
  have BC := Lib.hid bc
  have BR := Lib.hid br
  have HF := Lib.hid (hf.ext xb)
  have HG := Lib.hid hg
  have HC := Lib.hid hc
  have hb0 := xb.cell hb
  obtain ⟨c, hcc⟩ : ∃ c, c = didC 1 f a l := ⟨_, rfl⟩
  obtain ⟨s, hss⟩ : ∃ s, s = didS 1 f l := ⟨_, rfl⟩
  have HCC := Lib.hid hcc
  have HSS := Lib.hid hss
  have NR : Hid (u.ownBlock ≠ some (w.heap.size + 1)) := Lib.hid (fun e => by have := hul _ e; omega)
  have NC : Hid (u.ownBlock ≠ some w.heap.size) := Lib.hid (fun e => by have := hul _ e; omega)
  rw [← hcc, ← hss]
  clear hf hg hc hb hbu hwb xb bc br hul hcc hss
  go_enter Tryz.func69, Tryz.ntmps69
  go_wp2
  rw [← HWB.out]
  have hm := meth_1 f t a
  have KS : Hid (∀ V, Ext wb V → V.cell? ⟨w.heap.size, 0, none⟩ = some (.int .i64 1) ∧ V.cell? ⟨w.heap.size, 1, none⟩ = some (.int .i64 i) ∧ V.cell? ⟨w.heap.size, 2, none⟩ = some (.int .i64 f) ∧ V.cell? ⟨w.heap.size, 3, none⟩ = some (.int .i64 t) ∧ V.cell? ⟨w.heap.size, 4, none⟩ = some (.int .i64 a) ∧ V.cell? ⟨bm, 0, none⟩ = some u) := Lib.hid (fun V hV => by
    have h := BC.out.ext hV
    exact ⟨h.cell 0 _ rfl, h.cell 1 _ rfl, h.cell 2 _ rfl, h.cell 3 _ rfl, h.cell 4 _ rfl, hV.cell hb0⟩)
  have HR := Lib.hid (Ext.drew (Ext.refl wb))
  have HB0 := Lib.hid hb0
  have HBM := Lib.hid hbl
  clear hb0 hbl
  go_region_held3 (fun V => V.cell? ⟨w.heap.size, 0, none⟩ = some (.int .i64 1) ∧ V.cell? ⟨w.heap.size, 1, none⟩ = some (.int .i64 i) ∧ V.cell? ⟨w.heap.size, 2, none⟩ = some (.int .i64 f) ∧ V.cell? ⟨w.heap.size, 3, none⟩ = some (.int .i64 t) ∧ V.cell? ⟨w.heap.size, 4, none⟩ = some (.int .i64 a) ∧ V.cell? ⟨bm, 0, none⟩ = some u) (first | (with_reducible exact KS.out _ HR.out) | (with_reducible exact KS.out _ X4.out) | (with_reducible exact K5.out) | (exact K6.out)) (first
    | (go_at_call 70; refine (deedOf_1 _ _ _ _ _).mono ?_; rintro e w4 ⟨rfl, x4'⟩; unfold deedV; rw [if_pos rfl]; have x4 : Ext wb w4 := (Ext.drew (Ext.refl _)).trans x4'; have X4 := Lib.hid x4)
    | (go_at_call 280; have F4 := Lib.hid (Fresh.ext HF.out x4); refine (did_1 HG.out HC.out F4.out).mono ?_; rintro e w5 ⟨rfl, f5, g5⟩; rw [← HCC.out, ← HSS.out]; have B5 := BoxV.but (BC.out.ext x4) g5 NC.out; have R5 := BoxV.but (BR.out.ext x4) g5 NR.out; have hu5 := cell_but (x4.cell HB0.out) g5 HBU.out; have K5 := Lib.hid (And.intro (B5.cell 0 _ rfl) (And.intro (B5.cell 1 _ rfl) (And.intro (B5.cell 2 _ rfl) (And.intro (B5.cell 3 _ rfl) (And.intro (B5.cell 4 _ rfl) hu5))))); have B6 := boxV_other_puts (b := w.heap.size) (b' := w.heap.size + 1) (by omega) [.int .i64 r, .int .i64 n, .int .i64 1, .int .i64 i, .int .i64 f, .int .i64 t, .int .i64 a, .int .i64 c, .int .i64 s] 0 _ _ B5; have K6 := Lib.hid (And.intro (B6.cell 0 _ rfl) (And.intro (B6.cell 1 _ rfl) (And.intro (B6.cell 2 _ rfl) (And.intro (B6.cell 3 _ rfl) (And.intro (B6.cell 4 _ rfl) (cell_puts (g := w.heap.size + 1) (by dsimp only; have := HBM.out; omega) [.int .i64 r, .int .i64 n, .int .i64 1, .int .i64 i, .int .i64 f, .int .i64 t, .int .i64 a, .int .i64 c, .int .i64 s] 0 hu5)))))); have y0 := R5.cell 0 _ rfl; have z0 := R5.free 0 (of_decide_eq_true rfl); have y1 := R5.cell 1 _ rfl; have z1 := R5.free 1 (of_decide_eq_true rfl); have y2 := R5.cell 2 _ rfl; have z2 := R5.free 2 (of_decide_eq_true rfl); have y3 := R5.cell 3 _ rfl; have z3 := R5.free 3 (of_decide_eq_true rfl); have y4 := R5.cell 4 _ rfl; have z4 := R5.free 4 (of_decide_eq_true rfl); have y5 := R5.cell 5 _ rfl; have z5 := R5.free 5 (of_decide_eq_true rfl); have y6 := R5.cell 6 _ rfl; have z6 := R5.free 6 (of_decide_eq_true rfl); have y7 := R5.cell 7 _ rfl; have z7 := R5.free 7 (of_decide_eq_true rfl); have y8 := R5.cell 8 _ rfl; have z8 := R5.free 8 (of_decide_eq_true rfl)))
  have R6 := boxV_puts [.int .i64 r, .int .i64 n, .int .i64 1, .int .i64 i, .int .i64 f, .int .i64 t, .int .i64 a, .int .i64 c, .int .i64 s] 0 _ _ R5 (of_decide_eq_true rfl)
  have hgr : w.grownBy (w5.setCells (w.heap.size + 1) 0 [.int .i64 r, .int .i64 n, .int .i64 1, .int .i64 i, .int .i64 f, .int .i64 t, .int .i64 a, .int .i64 c, .int .i64 s]) u.ownBlock := grown_puts (by omega) [.int .i64 r, .int .i64 n, .int .i64 1, .int .i64 i, .int .i64 f, .int .i64 t, .int .i64 a, .int .i64 c, .int .i64 s] 0 (grown_transE (grown_ext (XB.out.trans x4) _) g5)
  have hfr : Fresh B (w5.setCells (w.heap.size + 1) 0 [.int .i64 r, .int .i64 n, .int .i64 1, .int .i64 i, .int .i64 f, .int .i64 t, .int .i64 a, .int .i64 c, .int .i64 s]) u (didL 1 f t a l) := fresh_puts NR.out [.int .i64 r, .int .i64 n, .int .i64 1, .int .i64 i, .int .i64 f, .int .i64 t, .int .i64 a, .int .i64 c, .int .i64 s] 0 f5
  obtain ⟨wz, hwz⟩ : ∃ wz, wz = w5.setCells (w.heap.size + 1) 0 [.int .i64 r, .int .i64 n, .int .i64 1, .int .i64 i, .int .i64 f, .int .i64 t, .int .i64 a, .int .i64 c, .int .i64 s] := ⟨_, rfl⟩
  have HWZ := hwz
  simp only [World.setCells] at HWZ
  rw [← hwz] at R6 hgr hfr
  have r0 := R6.cell 0 _ rfl
  have r1 := R6.cell 1 _ rfl
  have r2 := R6.cell 2 _ rfl
  have r3 := R6.cell 3 _ rfl
  have r4 := R6.cell 4 _ rfl
  have r5 := R6.cell 5 _ rfl
  have r6 := R6.cell 6 _ rfl
  have r7 := R6.cell 7 _ rfl
  have r8 := R6.cell 8 _ rfl
  clear K5 K6 B5 B6 R5 f5 g5 hu5 y0 z0 y1 z1 y2 z2 y3 z3 y4 z4 y5 z5 y6 z6 y7 z7 y8 z8
  go_wp2
  first | rw [← HWZ] | skip
  exact bodyPost_ret (v := .agg #[.int .i64 r, .int .i64 n, .int .i64 1, .int .i64 i, .int .i64 f, .int .i64 t, .int .i64 a, .int .i64 c, .int .i64 s]) (by simp [results, Tryz.results69, go_sem, r0, r1, r2, r3, r4, r5, r6, r7, r8]) rfl ⟨rfl, hfr, hgr⟩
set_option maxHeartbeats 4000000 in
set_option maxRecDepth 100000 in
theorem enter_2 (B bm : Nat) (u : Value) (l : List Int) (r n i f t a : Int) (w : World) (hf : Fresh B w u l) (hg : goodS l = true) (hc : goodB 2 i f t a = true) (hb : w.cell? ⟨bm, 0, none⟩ = some u) (hbu : u.ownBlock ≠ some bm) :
    Calls Tryz.prog 69 #[.int .i64 r, .int .i64 n, .agg #[.int .i64 2, .int .i64 i, .int .i64 f, .int .i64 t, .int .i64 a], .pointer (some ⟨bm, 0, none⟩)] w (EnterTo B u (didL 2 f t a l) r n 2 i f t a (didC 2 f a l) (didS 2 f l) w) := by
  obtain ⟨wb, hwb⟩ : ∃ wb, wb = (w.alloc (.cells #[.int .i64 2, .int .i64 i, .int .i64 f, .int .i64 t, .int .i64 a] 77)).alloc (.cells #[.int .i64 0, .int .i64 0, .int .i64 0, .int .i64 0, .int .i64 0, .int .i64 0, .int .i64 0, .int .i64 0, .int .i64 0] 79) := ⟨_, rfl⟩
  have xb : Ext w wb := by rw [hwb]; exact (Ext.alloc (Ext.refl _) _).alloc _
  have sb : wb.heap.size = w.heap.size + 2 := by rw [hwb]; simp
  have bc : BoxV wb w.heap.size [.int .i64 2, .int .i64 i, .int .i64 f, .int .i64 t, .int .i64 a] := by rw [hwb]; exact (boxV_new w [.int .i64 2, .int .i64 i, .int .i64 f, .int .i64 t, .int .i64 a] 77).ext (Ext.alloc (Ext.refl _) _)
  have br : BoxV wb (w.heap.size + 1) [.int .i64 0, .int .i64 0, .int .i64 0, .int .i64 0, .int .i64 0, .int .i64 0, .int .i64 0, .int .i64 0, .int .i64 0] := by
    have h := boxV_new (w.alloc (.cells #[.int .i64 2, .int .i64 i, .int .i64 f, .int .i64 t, .int .i64 a] 77)) [.int .i64 0, .int .i64 0, .int .i64 0, .int .i64 0, .int .i64 0, .int .i64 0, .int .i64 0, .int .i64 0, .int .i64 0] 79
    rw [World.size_alloc, ← hwb] at h
    exact h
  have hbl := block_lt_of_cell hb
  dsimp only at hbl
  have hul : ∀ q, u.ownBlock = some q → q < w.heap.size := fun q hq => (World.ownsRow.lt hf q hq).2
  have HUL := Lib.hid hul
  have HBU := Lib.hid hbu
  have HWB := Lib.hid hwb
  have XB := Lib.hid xb
  have BC := Lib.hid bc
  have BR := Lib.hid br
  have HF := Lib.hid (hf.ext xb)
  have HG := Lib.hid hg
  have HC := Lib.hid hc
  have hb0 := xb.cell hb
  obtain ⟨c, hcc⟩ : ∃ c, c = didC 2 f a l := ⟨_, rfl⟩
  obtain ⟨s, hss⟩ : ∃ s, s = didS 2 f l := ⟨_, rfl⟩
  have HCC := Lib.hid hcc
  have HSS := Lib.hid hss
  have NR : Hid (u.ownBlock ≠ some (w.heap.size + 1)) := Lib.hid (fun e => by have := hul _ e; omega)
  have NC : Hid (u.ownBlock ≠ some w.heap.size) := Lib.hid (fun e => by have := hul _ e; omega)
  rw [← hcc, ← hss]
  clear hf hg hc hb hbu hwb xb bc br hul hcc hss
  go_enter Tryz.func69, Tryz.ntmps69
  go_wp2
  rw [← HWB.out]
  have hm := meth_2 f
  have KS : Hid (∀ V, Ext wb V → V.cell? ⟨w.heap.size, 0, none⟩ = some (.int .i64 2) ∧ V.cell? ⟨w.heap.size, 1, none⟩ = some (.int .i64 i) ∧ V.cell? ⟨w.heap.size, 2, none⟩ = some (.int .i64 f) ∧ V.cell? ⟨w.heap.size, 3, none⟩ = some (.int .i64 t) ∧ V.cell? ⟨w.heap.size, 4, none⟩ = some (.int .i64 a) ∧ V.cell? ⟨bm, 0, none⟩ = some u) := Lib.hid (fun V hV => by
    have h := BC.out.ext hV
    exact ⟨h.cell 0 _ rfl, h.cell 1 _ rfl, h.cell 2 _ rfl, h.cell 3 _ rfl, h.cell 4 _ rfl, hV.cell hb0⟩)
  have HR := Lib.hid (Ext.drew (Ext.refl wb))
  have HB0 := Lib.hid hb0
  have HBM := Lib.hid hbl
  clear hb0 hbl
  go_region_held3 (fun V => V.cell? ⟨w.heap.size, 0, none⟩ = some (.int .i64 2) ∧ V.cell? ⟨w.heap.size, 1, none⟩ = some (.int .i64 i) ∧ V.cell? ⟨w.heap.size, 2, none⟩ = some (.int .i64 f) ∧ V.cell? ⟨w.heap.size, 3, none⟩ = some (.int .i64 t) ∧ V.cell? ⟨w.heap.size, 4, none⟩ = some (.int .i64 a) ∧ V.cell? ⟨bm, 0, none⟩ = some u) (first | (with_reducible exact KS.out _ HR.out) | (with_reducible exact KS.out _ X4.out) | (with_reducible exact K5.out) | (exact K6.out)) (first
    | (go_at_call 70; refine (deedOf_2 _ _ _ _ _).mono ?_; rintro e w4 ⟨rfl, x4'⟩; unfold deedV; rw [if_neg (by decide), if_pos rfl]; have x4 : Ext wb w4 := (Ext.drew (Ext.refl _)).trans x4'; have X4 := Lib.hid x4)
    | (go_at_call 281; have F4 := Lib.hid (Fresh.ext HF.out x4); refine (did_2 HG.out HC.out F4.out).mono ?_; rintro e w5 ⟨rfl, f5, g5⟩; rw [← HCC.out, ← HSS.out]; have B5 := BoxV.but (BC.out.ext x4) g5 NC.out; have R5 := BoxV.but (BR.out.ext x4) g5 NR.out; have hu5 := cell_but (x4.cell HB0.out) g5 HBU.out; have K5 := Lib.hid (And.intro (B5.cell 0 _ rfl) (And.intro (B5.cell 1 _ rfl) (And.intro (B5.cell 2 _ rfl) (And.intro (B5.cell 3 _ rfl) (And.intro (B5.cell 4 _ rfl) hu5))))); have B6 := boxV_other_puts (b := w.heap.size) (b' := w.heap.size + 1) (by omega) [.int .i64 r, .int .i64 n, .int .i64 2, .int .i64 i, .int .i64 f, .int .i64 t, .int .i64 a, .int .i64 c, .int .i64 s] 0 _ _ B5; have K6 := Lib.hid (And.intro (B6.cell 0 _ rfl) (And.intro (B6.cell 1 _ rfl) (And.intro (B6.cell 2 _ rfl) (And.intro (B6.cell 3 _ rfl) (And.intro (B6.cell 4 _ rfl) (cell_puts (g := w.heap.size + 1) (by dsimp only; have := HBM.out; omega) [.int .i64 r, .int .i64 n, .int .i64 2, .int .i64 i, .int .i64 f, .int .i64 t, .int .i64 a, .int .i64 c, .int .i64 s] 0 hu5)))))); have y0 := R5.cell 0 _ rfl; have z0 := R5.free 0 (of_decide_eq_true rfl); have y1 := R5.cell 1 _ rfl; have z1 := R5.free 1 (of_decide_eq_true rfl); have y2 := R5.cell 2 _ rfl; have z2 := R5.free 2 (of_decide_eq_true rfl); have y3 := R5.cell 3 _ rfl; have z3 := R5.free 3 (of_decide_eq_true rfl); have y4 := R5.cell 4 _ rfl; have z4 := R5.free 4 (of_decide_eq_true rfl); have y5 := R5.cell 5 _ rfl; have z5 := R5.free 5 (of_decide_eq_true rfl); have y6 := R5.cell 6 _ rfl; have z6 := R5.free 6 (of_decide_eq_true rfl); have y7 := R5.cell 7 _ rfl; have z7 := R5.free 7 (of_decide_eq_true rfl); have y8 := R5.cell 8 _ rfl; have z8 := R5.free 8 (of_decide_eq_true rfl)))
  have R6 := boxV_puts [.int .i64 r, .int .i64 n, .int .i64 2, .int .i64 i, .int .i64 f, .int .i64 t, .int .i64 a, .int .i64 c, .int .i64 s] 0 _ _ R5 (of_decide_eq_true rfl)
  have hgr : w.grownBy (w5.setCells (w.heap.size + 1) 0 [.int .i64 r, .int .i64 n, .int .i64 2, .int .i64 i, .int .i64 f, .int .i64 t, .int .i64 a, .int .i64 c, .int .i64 s]) u.ownBlock := grown_puts (by omega) [.int .i64 r, .int .i64 n, .int .i64 2, .int .i64 i, .int .i64 f, .int .i64 t, .int .i64 a, .int .i64 c, .int .i64 s] 0 (grown_transE (grown_ext (XB.out.trans x4) _) g5)
  have hfr : Fresh B (w5.setCells (w.heap.size + 1) 0 [.int .i64 r, .int .i64 n, .int .i64 2, .int .i64 i, .int .i64 f, .int .i64 t, .int .i64 a, .int .i64 c, .int .i64 s]) u (didL 2 f t a l) := fresh_puts NR.out [.int .i64 r, .int .i64 n, .int .i64 2, .int .i64 i, .int .i64 f, .int .i64 t, .int .i64 a, .int .i64 c, .int .i64 s] 0 f5
  obtain ⟨wz, hwz⟩ : ∃ wz, wz = w5.setCells (w.heap.size + 1) 0 [.int .i64 r, .int .i64 n, .int .i64 2, .int .i64 i, .int .i64 f, .int .i64 t, .int .i64 a, .int .i64 c, .int .i64 s] := ⟨_, rfl⟩
  have HWZ := hwz
  simp only [World.setCells] at HWZ
  rw [← hwz] at R6 hgr hfr
  have r0 := R6.cell 0 _ rfl
  have r1 := R6.cell 1 _ rfl
  have r2 := R6.cell 2 _ rfl
  have r3 := R6.cell 3 _ rfl
  have r4 := R6.cell 4 _ rfl
  have r5 := R6.cell 5 _ rfl
  have r6 := R6.cell 6 _ rfl
  have r7 := R6.cell 7 _ rfl
  have r8 := R6.cell 8 _ rfl
  clear K5 K6 B5 B6 R5 f5 g5 hu5 y0 z0 y1 z1 y2 z2 y3 z3 y4 z4 y5 z5 y6 z6 y7 z7 y8 z8
  go_wp2
  first | rw [← HWZ] | skip
  exact bodyPost_ret (v := .agg #[.int .i64 r, .int .i64 n, .int .i64 2, .int .i64 i, .int .i64 f, .int .i64 t, .int .i64 a, .int .i64 c, .int .i64 s]) (by simp [results, Tryz.results69, go_sem, r0, r1, r2, r3, r4, r5, r6, r7, r8]) rfl ⟨rfl, hfr, hgr⟩
theorem enter_any (B bm : Nat) (u : Value) (l : List Int) (r n k i f t a : Int) (w : World) (hf : Fresh B w u l) (hg : goodS l = true) (hc : goodB k i f t a = true) (hb : w.cell? ⟨bm, 0, none⟩ = some u) (hbu : u.ownBlock ≠ some bm) :
    Calls Tryz.prog 69 #[.int .i64 r, .int .i64 n, .agg #[.int .i64 k, .int .i64 i, .int .i64 f, .int .i64 t, .int .i64 a], .pointer (some ⟨bm, 0, none⟩)] w (EnterTo B u (didL k f t a l) r n k i f t a (didC k f a l) (didS k f l) w) := by
  rcases good_kind hc with rfl | rfl | rfl
  · exact enter_0 B bm u l r n i f t a w hf hg hc hb hbu
  · exact enter_1 B bm u l r n i f t a w hf hg hc hb hbu
  · exact enter_2 B bm u l r n i f t a w hf hg hc hb hbu
end Go.Proofs.YtcpmfcigciknlaaGreat

namespace Go.Proofs.YtcpmfcigciknlaaGreat
open Go.RowKit
set_option linter.unusedVariables false
theorem mul64_14 (w : World) :
    Calls Tryz.prog 158 #[.int .u64 1, .int .u64 4] w fun e w' => e = .returned (.tuple #[.int .u64 0, .int .u64 4]) ∧ w = w' := by
  go_enter Tryz.func158, Tryz.ntmps158
  go_wp2
  go_ret2
  exact ⟨rfl, rfl⟩
theorem mul_14 (w : World) :
    Calls Tryz.prog 118 #[.int .u64 1, .int .u64 4] w fun e w' => e = .returned (.tuple #[.int .u64 0, .int .u64 4]) ∧ w = w' := by
  go_enter Tryz.func118, Tryz.ntmps118
  go_wp2_with fail
  refine (mul64_14 _).mono ?_
  rintro e w' ⟨rfl, rfl⟩
  go_wp2
  go_ret2
  exact ⟨rfl, rfl⟩
def rep4 (x : Int) (k : Nat) : List Value := List.replicate k (Value.int .i64 x) ++ List.replicate (4 - k) (Value.int .i64 0)
theorem rep4_splice1 (x : Int) : splice (rep4 x 0) 0 [Value.int .i64 x] = rep4 x 1 := rfl
theorem rep4_splice2 (x : Int) : splice (rep4 x 1) 1 [Value.int .i64 x] = rep4 x 2 := rfl
theorem rep4_splice4 (x : Int) : splice (rep4 x 2) 2 [Value.int .i64 x, Value.int .i64 x] = rep4 x 4 := rfl
set_option maxRecDepth 100000 in
set_option maxHeartbeats 2000000 in
theorem repeat4_any (w : World) (x : Int) (b : Nat) (hb : w.cell? ⟨b, 0, none⟩ = some (.int .i64 x)) :
    Calls Tryz.prog 68 #[.slice (some ⟨b, 0, none⟩) 1 1, .int .i64 4] w (NewInts [x, x, x, x] w) := by
  obtain ⟨i0, hi, hz0, hz1, hz2⟩ := info_parts Tryz.infoInt
  have hbl := World.block_lt_of_cell? w _ hb
  have HBL := Lib.hid hbl
  have HB := Lib.hid hb
  clear hbl hb
  go_enter Tryz.func68, Tryz.ntmps68
  go_wp2_with fail
  refine (mul_14 _).mono ?_
  rintro e w' ⟨rfl, rfl⟩
  go_wp2_with (first | (at_make; refine wpList_make_full _ rfl _ _ 26 rfl w.heap.size 3 i0 (.int .i64 0) 1 Tryz.underlying26 hi hz0 hz1 _ _ _ _ 4 rfl rfl rfl rfl ?c1 ?c2 ?c3 ?_))
  case c1 => rw [hz2]; omega
  case c2 => unfold maxLen; omega
  case c3 => simp
  intro w1 ho1 hg1
  have hx1 : Ext w w1 := ext_of_grown hg1
  have hb1 : w1.heap[w.heap.size]? = some (.cells (rep4 x 0).toArray 3 (0, 0)) := by
    rcases ho1.2 with ⟨h, _⟩ | ⟨g, cap, cur, h, _, hg, _, _, hs, ht⟩
    · cases h
    · injection h with h1 h2 h3
      injection h1 with h1
      injection h1 with h1
      subst h1
      subst h3
      rw [hg]
      have e : cur.toList = rep4 x 0 := by
        rw [List.take_of_length_le (by rw [Array.length_toList, hs]; exact Nat.le_refl _)] at ht
        rw [ht, toList_madeCells_one]; rfl
      have e2 : cur = (rep4 x 0).toArray := by rw [← e]
      rw [e2]
  have H1 := Lib.hid hb1
  have hc1 := hx1.cell HB.out
  have X1 := Lib.hid hx1
  clear ho1 hg1 hb1 hx1 hi hz0 hz1 hz2
  go_wp2_with (with_reducible refine wpList_copy_splice rfl _ _ 26 26 rfl 3 Tryz.underlying26 rfl _ _ 4 4 1 1 rfl rfl w.heap.size 0 (rep4 x 0) 3 H1.out [Value.int .i64 x] rfl ?c2 (Nat.le_of_ble_eq_true rfl) ?c3 w.heap.size w ?c4 (Nat.le_refl _) ?_)
  case c2 =>
    intro j v hj
    match j, hj with
    | 0, hj => simp at hj; subst hj; simpa [Addr.add] using hc1
  case c3 => intro z hz; simp at hz; subst hz; rfl
  case c4 => exact X1.out
  intro w2 hg2 hb2
  have H2 := hg2
  rw [rep4_splice1] at H2
  have X2 : Hid (Ext w w2) := Lib.hid hb2
  clear hg2 hb2 hc1 H1 X1
  go_wp2_with fail
  go_loopw [8] (fun n wr => ∃ (k : Nat) (m : Int), (k = 1 ∧ m = 1 ∨ k = 2 ∧ m = 2 ∨ k = 4 ∧ m = 4) ∧ n = .int .i64 m ∧ wr.heap[w.heap.size]? = some (.cells (rep4 x k).toArray 3 (0, 0)) ∧ Ext w wr) (fun n _ => 4 - (intOf n).toNat)
  case atStart => exact ⟨1, 1, .inl ⟨rfl, rfl⟩, rfl, H2.out, X2.out⟩
  case round =>
    clear H2 X2
    obtain ⟨k, m, hk, rfl, hh, hx⟩ := hrel
    have HH := Lib.hid hh
    have HX := Lib.hid hx
    clear hh hx
    rcases hk with ⟨rfl, rfl⟩ | ⟨rfl, rfl⟩ | ⟨rfl, rfl⟩
    · have hp : Hid (0 < ([Value.int .i64 x] : List Value).length → (some ⟨w.heap.size, 1, none⟩ : Option Addr) = some ⟨w.heap.size, 1, none⟩ ∧ ∃ ad, (some ⟨w.heap.size, 0, none⟩ : Option Addr) = some ad ∧ ∀ j v, ([Value.int .i64 x] : List Value)[j]? = some v → wr.drew.cell? (ad.add j) = some v) := Lib.hid (fun _ => ⟨rfl, _, rfl, fun j v hj => by
        have hw : wr.drew.cell? (Addr.add ⟨w.heap.size, 0, none⟩ j) = (rep4 x 1)[j]? := by
          have e : (Addr.add ⟨w.heap.size, 0, none⟩ j) = ⟨w.heap.size, j, none⟩ := by simp [Addr.add] <;> omega
          rw [e]
          exact (cell_of_row wr.drew _ j _ _ _ HH.out).trans (List.getElem?_toArray)
        rw [hw]
        match j, hj with
        | 0, hj => exact hj
        | 1, hj => first | exact hj | (simp at hj)⟩)
      have h1 : Hid (∀ v ∈ ([Value.int .i64 x] : List Value), v.oneCell' = true) := Lib.hid (fun v hv => by simp at hv; subst hv; rfl)
      go_wp2_with fail
      go_region_law (refine step_copy_splice rfl (.tmp 41) (.tmp 44) 26 26 rfl 3 Tryz.underlying26 rfl (some ⟨w.heap.size, 1, none⟩) (some ⟨w.heap.size, 0, none⟩) 3 3 1 4 (by with_reducible go_simp) (by with_reducible go_simp) w.heap.size 1 (rep4 x 1) 3 HH.out [Value.int .i64 x] rfl (fun _ => ⟨rfl, (hp.out (Nat.le_of_ble_eq_true rfl)).2⟩) (Nat.le_of_ble_eq_true rfl) h1.out w.heap.size w HX.out.drew (Nat.le_refl _) ?_; intro w4 hg4 hb4)
      all_goals
        go_wp2
        go_roundw
        case rel => exact ⟨.int .i64 2, _, _, _, _, _, _, _, _, _, _, _, _, _, ⟨2, 2, .inr (.inl ⟨rfl, rfl⟩), rfl, by rw [← rep4_splice2]; exact hg4.out, hb4⟩, rfl⟩
        case measure => exact (show (2 : Nat) < 3 by decide)
    · have hp : Hid (0 < ([Value.int .i64 x, Value.int .i64 x] : List Value).length → (some ⟨w.heap.size, 2, none⟩ : Option Addr) = some ⟨w.heap.size, 2, none⟩ ∧ ∃ ad, (some ⟨w.heap.size, 0, none⟩ : Option Addr) = some ad ∧ ∀ j v, ([Value.int .i64 x, Value.int .i64 x] : List Value)[j]? = some v → wr.drew.cell? (ad.add j) = some v) := Lib.hid (fun _ => ⟨rfl, _, rfl, fun j v hj => by
        have hw : wr.drew.cell? (Addr.add ⟨w.heap.size, 0, none⟩ j) = (rep4 x 2)[j]? := by
          have e : (Addr.add ⟨w.heap.size, 0, none⟩ j) = ⟨w.heap.size, j, none⟩ := by simp [Addr.add] <;> omega
          rw [e]
          exact (cell_of_row wr.drew _ j _ _ _ HH.out).trans (List.getElem?_toArray)
        rw [hw]
        match j, hj with
        | 0, hj => exact hj
        | 1, hj => first | exact hj | (simp at hj)⟩)
      have h1 : Hid (∀ v ∈ ([Value.int .i64 x, Value.int .i64 x] : List Value), v.oneCell' = true) := Lib.hid (fun v hv => by simp at hv; subst hv; rfl)
      go_wp2_with fail
      go_region_law (refine step_copy_splice rfl (.tmp 41) (.tmp 44) 26 26 rfl 3 Tryz.underlying26 rfl (some ⟨w.heap.size, 2, none⟩) (some ⟨w.heap.size, 0, none⟩) 2 2 2 4 (by with_reducible go_simp) (by with_reducible go_simp) w.heap.size 2 (rep4 x 2) 3 HH.out [Value.int .i64 x, Value.int .i64 x] rfl (fun _ => ⟨rfl, (hp.out (Nat.le_of_ble_eq_true rfl)).2⟩) (Nat.le_of_ble_eq_true rfl) h1.out w.heap.size w HX.out.drew (Nat.le_refl _) ?_; intro w4 hg4 hb4)
      all_goals
        go_wp2
        go_roundw
        case rel => exact ⟨.int .i64 4, _, _, _, _, _, _, _, _, _, _, _, _, _, ⟨4, 4, .inr (.inr ⟨rfl, rfl⟩), rfl, by rw [← rep4_splice4]; exact hg4.out, hb4⟩, rfl⟩
        case measure => exact (show (0 : Nat) < 2 by decide)
    · go_wp2
      go_ret
      refine ⟨_, rfl, ?_, HX.out⟩
      exact ⟨rfl, .inr ⟨w.heap.size, 4, _, rfl, Nat.le_refl _, HH.out, Nat.le_refl _, by unfold maxLen; omega, rfl, rfl⟩⟩
theorem implNewSums_any (w : World) : Calls Tryz.prog 36 #[] w (NewInts [100, 100, 100, 100] w) := by
  go_enter Tryz.func36, Tryz.ntmps36
  go_wp2_with fail
  refine (repeat4_any _ 100 w.heap.size (cell_alloc_one w _ _)).mono ?_
  rintro e w1 ⟨v1, rfl, f1, x1⟩
  go_wp2
  go_ret
  exact ⟨_, rfl, f1.more (by simp), (Ext.alloc (Ext.refl _) _).trans x1⟩
def hundreds (k : Nat) : List Int := List.replicate k 100
theorem hundreds_succ (k : Nat) : hundreds (k + 1) = hundreds k ++ [100] := by simp [hundreds, List.replicate_succ']
set_option maxHeartbeats 1000000 in
theorem specNewSums_any (w : World) : Calls Tryz.prog 115 #[] w (NewInts [100, 100, 100, 100] w) := by
  go_enter Tryz.func115, Tryz.ntmps115
  go_wp2
  go_loopw [1, 2] (fun o i wr => ∃ k : Nat, k ≤ 4 ∧ i = .int .i64 k ∧ Fresh w.heap.size wr o (hundreds k) ∧ Ext w wr) (fun _ i _ => 4 - (intOf i).toNat)
  case atStart => exact ⟨0, Nat.zero_le _, rfl, fresh_nil _ _, Ext.refl _⟩
  case round =>
    obtain ⟨k, hk, rfl, hf, hx⟩ := hrel
    by_cases hlt : k < 4
    · have F := Lib.hid hf
      have X := Lib.hid hx
      clear hf hx
      have hb : w.heap.size ≤ wr.heap.size := Ext.size X.out
      have hbb : w.heap.size ≤ (wr.alloc (.cells #[.int .i64 100] 3)).heap.size := size_alloc_le hb
      have HB := Lib.hid hbb
      clear hbb
      have hc := Lib.hid (cell_alloc_one wr (.int .i64 100) 3)
      have hl : (hundreds k).length ≤ 1099511627776 := by simp [hundreds]; omega
      have HL := Lib.hid hl
      clear hl
      go_wp2_with (at_builtin; refine wpList_push rfl _ _ rfl w.heap.size _ (hundreds k) 100 rfl (F.out.ext (Ext.alloc (Ext.refl _) _)) ⟨wr.heap.size, 0, none⟩ 1 rfl hc.out HL.out HB.out ?_)
      intro v' w' hf' hg' hk'
      have F' : Hid (Fresh w.heap.size w' v' (hundreds (k + 1))) := Lib.hid (by rw [hundreds_succ]; exact hf')
      have X' := Lib.hid (hk' w (X.out.trans (Ext.alloc (Ext.refl _) _)) (Nat.le_refl _))
      clear hf' hg' hk' F X hc HL HB hb
      go_wp2
      go_roundw
      case rel => exact ⟨k + 1, by omega, by go_num, F'.out, X'.out⟩
      case measure => simp [intOf]; omega
    · obtain rfl : k = 4 := by omega
      have F := Lib.hid hf
      have X := Lib.hid hx
      clear hf hx
      go_wp2
      go_ret
      exact ⟨_, rfl, F.out, X.out⟩
end Go.Proofs.YtcpmfcigciknlaaGreat

namespace Go.Proofs.YtcpmfcigciknlaaGreat
open Go.RowKit
set_option linter.unusedVariables false
end Go.Proofs.YtcpmfcigciknlaaGreat

namespace Go.Proofs.YtcpmfcigciknlaaGreat
open Go.RowKit
set_option linter.unusedVariables false
theorem make_m (m : Nat) (h : m = 3 ∨ m = 5) (W : World) : (Instr.makeSlice 26 (.int .i64 (m : Int)) (.int .i64 (m : Int))).run Tryz.prog W = .ok (.slice (some ⟨W.heap.size, 0, none⟩) m m) (W.alloc (.cells (Array.replicate m (Value.int .i64 0)) 3)) := by
  rcases h with rfl | rfl
  · exact make_3 W
  · exact make_5 W
theorem splice_all (m : Nat) (l : List Int) (h : l.length = m) : splice (List.replicate m (Value.int .i64 0)) 0 (l.map (Value.int .i64)) = l.map (Value.int .i64) := by
  subst h
  simp [splice]
set_option maxRecDepth 100000 in
set_option maxHeartbeats 2000000 in
theorem copyRow_nat (m : Nat) (hm : m = 3 ∨ m = 5) (r : RowD) (u : Value) (w : World) (hv : Ints w u r.l) (hl : r.l.length = m) :
    Calls Tryz.prog 71 #[.int .i64 m, .agg #[.int .i64 r.b, .int .i64 r.v, .int .i64 r.st, .int .i64 r.k, .int .i64 r.i, .int .i64 r.f, .int .i64 r.t, .int .i64 r.a, .int .i64 r.s, u]] w (NewRow r w) := by
  obtain ⟨au, cu, rfl, hlu, hcap, hcu⟩ := hv
  obtain ⟨wc, hwc⟩ : ∃ wc, wc = (((w.alloc (.cells #[.int .i64 r.b, .int .i64 r.v, .int .i64 r.st, .int .i64 r.k, .int .i64 r.i, .int .i64 r.f, .int .i64 r.t, .int .i64 r.a, .int .i64 r.s, .slice au r.l.length cu] 83)).alloc (.cells #[.int .i64 0, .int .i64 0, .int .i64 0, .int .i64 0, .int .i64 0, .int .i64 0, .int .i64 0, .int .i64 0, .int .i64 0, .slice none 0 0] 83)).alloc (.cells (Array.replicate m (Value.int .i64 0)) 3)) := ⟨_, rfl⟩
  have ho := box_res_row w r (.slice au r.l.length cu) 83
  have xb : Ext w wc := by rw [hwc]; exact Ext.alloc3 _ _ _ _
  have hmk := make_m m hm
  have HWC := Lib.hid hwc
  have HO := Lib.hid ho
  have HCU := Lib.hid hcu
  have HL := Lib.hid hl
  have hsz : ((w.alloc (.cells #[.int .i64 r.b, .int .i64 r.v, .int .i64 r.st, .int .i64 r.k, .int .i64 r.i, .int .i64 r.f, .int .i64 r.t, .int .i64 r.a, .int .i64 r.s, .slice au r.l.length cu] 83)).alloc (.cells #[.int .i64 0, .int .i64 0, .int .i64 0, .int .i64 0, .int .i64 0, .int .i64 0, .int .i64 0, .int .i64 0, .int .i64 0, .slice none 0 0] 83)).heap.size = w.heap.size + 2 := by simp
  have HZ := Lib.hid hsz
  have hlen0 : (r.l.length : Int) ≤ 5 := by omega
  have hcap1 : r.l.length ≤ cu := hcap.1
  clear hwc ho hcu hl hlu hcap hsz
  go_enter Tryz.func71, Tryz.ntmps71
  go_wp2_with (with_reducible refine wpList_copy_splice rfl _ _ 26 26 rfl 3 Tryz.underlying26 rfl _ _ m m r.l.length cu rfl rfl (w.heap.size + 2) 0 (List.replicate m (Value.int .i64 0)) 3 ?c1 (r.l.map (Value.int .i64)) ?c2 ?c3 ?c4 ?c5 (w.heap.size + 2) wc ?c6 (Nat.le_refl _) ?_)
  case c1 =>
    have h := heap_alloc_new ((w.alloc (.cells #[.int .i64 r.b, .int .i64 r.v, .int .i64 r.st, .int .i64 r.k, .int .i64 r.i, .int .i64 r.f, .int .i64 r.t, .int .i64 r.a, .int .i64 r.s, .slice au r.l.length cu] 83)).alloc (.cells #[.int .i64 0, .int .i64 0, .int .i64 0, .int .i64 0, .int .i64 0, .int .i64 0, .int .i64 0, .int .i64 0, .int .i64 0, .slice none 0 0] 83)) (.cells (Array.replicate m (Value.int .i64 0)) 3)
    rw [HZ.out] at h
    rw [h]
    simp
  case c2 =>
    rw [List.length_map, HL.out]
    exact (Nat.min_self m).symm
  case c3 =>
    intro hp
    have hp' : 0 < r.l.length := by simpa using hp
    obtain ⟨b, off, rfl, hc⟩ := HCU.out hp'
    refine ⟨_, rfl, fun j z hj => ?_⟩
    have hj5 : j < r.l.length := (List.getElem?_eq_some_iff.1 hj).1
    have hx := xb.cell (hc j hj5)
    rw [HWC.out] at hx
    rw [show (⟨b, off, none⟩ : Addr).add j = ⟨b, off + j, none⟩ by simp [Addr.add], hx, hj]
    rfl
  case c4 =>
    rw [List.length_map, List.length_replicate, HL.out]; omega
  case c5 =>
    intro z hz
    obtain ⟨q, _, rfl⟩ := List.mem_map.1 hz
    rfl
  case c6 => rw [HWC.out]; exact Below.refl _ _
  intro w' HG hb
  have hg := HG.out
  rw [splice_all m r.l HL.out] at hg
  have hso : w.heap.size + 2 ≤ wc.heap.size := by rw [HWC.out]; simp
  have x2 : Ext w w' := Below.trans xb (Below.mono hb (by omega))
  have hfr : Fresh (w.heap.size + 2) w' (.slice (some ⟨w.heap.size + 2, 0, none⟩) m m) r.l := by
    refine ⟨by simp, .inr ⟨w.heap.size + 2, m, (r.l.map (Value.int .i64)).toArray, by rw [HL.out], Nat.le_refl _, hg, by rw [HL.out]; exact Nat.le_refl _, by unfold maxLen; omega, by simp [HL.out], by simp [← List.map_take]⟩⟩
  have hlow : ∀ b o, b < w.heap.size + 2 → w'.cell? ⟨b, o, none⟩ = wc.cell? ⟨b, o, none⟩ := fun b o hbo => hb.cell (p := ⟨b, o, none⟩) hbo
  have hfro : ∀ b o, b < w.heap.size + 2 → w'.frozen? ⟨b, o, none⟩ = wc.frozen? ⟨b, o, none⟩ := fun b o hbo => hb.frozen (p := ⟨b, o, none⟩) hbo
  have xo : Ext ((w.alloc (.cells #[.int .i64 r.b, .int .i64 r.v, .int .i64 r.st, .int .i64 r.k, .int .i64 r.i, .int .i64 r.f, .int .i64 r.t, .int .i64 r.a, .int .i64 r.s, .slice au r.l.length cu] 83)).alloc (.cells #[.int .i64 0, .int .i64 0, .int .i64 0, .int .i64 0, .int .i64 0, .int .i64 0, .int .i64 0, .int .i64 0, .int .i64 0, .slice none 0 0] 83)) wc := by rw [HWC.out]; exact Ext.alloc1 ((w.alloc (.cells #[.int .i64 r.b, .int .i64 r.v, .int .i64 r.st, .int .i64 r.k, .int .i64 r.i, .int .i64 r.f, .int .i64 r.t, .int .i64 r.a, .int .i64 r.s, .slice au r.l.length cu] 83)).alloc (.cells #[.int .i64 0, .int .i64 0, .int .i64 0, .int .i64 0, .int .i64 0, .int .i64 0, .int .i64 0, .int .i64 0, .int .i64 0, .slice none 0 0] 83)) (.cells (Array.replicate m (Value.int .i64 0)) 3)
  obtain ⟨p0, p1, p2, p3, p4, p5, p6, p7, p8, p9⟩ := HO.out.1.1.ext xo
  obtain ⟨y0, y1, y2, y3, y4, y5, y6, y7, y8, y9⟩ := HO.out.1.2.ext (by rw [HZ.out]; omega) xo
  obtain ⟨o0, o1, o2, o3, o4, o5, o6, o7, o8, o9⟩ := HO.out.2.1.ext xo
  obtain ⟨z0, z1, z2, z3, z4, z5, z6, z7, z8, z9⟩ := HO.out.2.2.ext (by rw [HZ.out]; omega) xo
  have l0 : w.heap.size < w.heap.size + 2 := by omega
  have l1 : w.heap.size + 1 < w.heap.size + 2 := by omega
  rw [← hlow _ _ l0] at p0 p1 p2 p3 p4 p5 p6 p7 p8 p9
  rw [← hfro _ _ l0] at y0 y1 y2 y3 y4 y5 y6 y7 y8 y9
  rw [← hlow _ _ l1] at o0 o1 o2 o3 o4 o5 o6 o7 o8 o9
  rw [← hfro _ _ l1] at z0 z1 z2 z3 z4 z5 z6 z7 z8 z9
  have F := Lib.hid hfr
  clear hlow hfro hg HG hb l0 l1 hfr xo hso hmk hlen0 hcap1
  go_wp2
  refine bodyPost_ret (v := .agg #[.int .i64 r.b, .int .i64 r.v, .int .i64 r.st, .int .i64 r.k, .int .i64 r.i, .int .i64 r.f, .int .i64 r.t, .int .i64 r.a, .int .i64 r.s, .slice (some ⟨w.heap.size + 2, 0, none⟩) m m]) (by simp [results, Tryz.results71, go_sem, o0, o1, o2, o3, o4, o5, o6, o7, o8, o9]) rfl ⟨_, rfl, ?_, ?_⟩
  · exact (((((((((((F.out.set _ _ _ (by omega)).set _ _ _ (by omega)).set _ _ _ (by omega)).set _ _ _ (by omega)).set _ _ _ (by omega)).set _ _ _ (by omega)).set _ _ _ (by omega)).set _ _ _ (by omega)).set _ _ _ (by omega)).set _ _ _ (by omega)).set _ _ _ (by omega)).more (by omega)
  · exact (((((((((((x2.setc (by dsimp only; omega)).setc (by dsimp only; omega)).setc (by dsimp only; omega)).setc (by dsimp only; omega)).setc (by dsimp only; omega)).setc (by dsimp only; omega)).setc (by dsimp only; omega)).setc (by dsimp only; omega)).setc (by dsimp only; omega)).setc (by dsimp only; omega)).setc (by dsimp only; omega))
theorem copyRow_any (n : Int) (r : RowD) (u : Value) (w : World) (hn : isGrp n = true) (hv : Ints w u r.l) (hl : (r.l.length : Int) = n) :
    Calls Tryz.prog 71 #[.int .i64 n, .agg #[.int .i64 r.b, .int .i64 r.v, .int .i64 r.st, .int .i64 r.k, .int .i64 r.i, .int .i64 r.f, .int .i64 r.t, .int .i64 r.a, .int .i64 r.s, u]] w (NewRow r w) := by
  obtain ⟨m, rfl, hm⟩ := nat_of_grp hn
  exact copyRow_nat m hm r u w hv (by omega)
theorem res_row (w : World) (T : TypeId) : RowAt (w.alloc (.cells #[.int .i64 0, .int .i64 0, .int .i64 0, .int .i64 0, .int .i64 0, .int .i64 0, .int .i64 0, .int .i64 0, .int .i64 0, .slice none 0 0] T)) w.heap.size ⟨0, 0, 0, 0, 0, 0, 0, 0, 0, []⟩ (.slice none 0 0) ∧
    FreeAt (w.alloc (.cells #[.int .i64 0, .int .i64 0, .int .i64 0, .int .i64 0, .int .i64 0, .int .i64 0, .int .i64 0, .int .i64 0, .int .i64 0, .slice none 0 0] T)) w.heap.size := by
  refine ⟨⟨?_, ?_, ?_, ?_, ?_, ?_, ?_, ?_, ?_, ?_⟩, ⟨?_, ?_, ?_, ?_, ?_, ?_, ?_, ?_, ?_, ?_⟩⟩ <;> go_simp
set_option maxRecDepth 100000 in
set_option maxHeartbeats 2000000 in
theorem emptyRow_any (n : Int) (w : World) (hn : isGrp n = true) :
    Calls Tryz.prog 72 #[.int .i64 n] w (NewRow (emptyR n) w) := by
  obtain ⟨L, hL⟩ : ∃ L, L = noneL n := ⟨_, rfl⟩
  have hc := fun W => joinNone_any n W hn
  have hLE : emptyR n = ⟨0, 0, 0, 0, 0, 0, 0, 0, 0, L⟩ := by rw [hL]; rfl
  rw [← hL] at hc
  rw [hLE]
  have HC := Lib.hid hc
  have HO := Lib.hid (res_row w 83)
  clear hL hc hLE hn
  go_enter Tryz.func72, Tryz.ntmps72
  go_wp2_with fail
  refine (HC.out _).mono ?_
  rintro e w1 ⟨v, rfl, f1, x1⟩
  have hx := (Ext.alloc1 w _).trans x1
  obtain ⟨o0, o1, o2, o3, o4, o5, o6, o7, o8, o9⟩ := HO.out.1.ext x1
  obtain ⟨z0, z1, z2, z3, z4, z5, z6, z7, z8, z9⟩ := HO.out.2.ext (by simp) x1
  obtain ⟨ay, cy, rfl⟩ := f1.form
  rw [World.size_alloc] at f1
  have F := Lib.hid f1
  clear f1 x1
  go_wp2
  refine bodyPost_ret (v := .agg #[.int .i64 0, .int .i64 0, .int .i64 0, .int .i64 0, .int .i64 0, .int .i64 0, .int .i64 0, .int .i64 0, .int .i64 0, .slice ay L.length cy]) (by simp [results, Tryz.results72, go_sem, o0, o1, o2, o3, o4, o5, o6, o7, o8, o9]) rfl ⟨_, rfl, ?_, ?_⟩
  · exact ((((((((((F.out.set _ _ _ (by omega)).set _ _ _ (by omega)).set _ _ _ (by omega)).set _ _ _ (by omega)).set _ _ _ (by omega)).set _ _ _ (by omega)).set _ _ _ (by omega)).set _ _ _ (by omega)).set _ _ _ (by omega)).set _ _ _ (by omega)).more (by omega)
  · exact ((((((((((hx.setc (Nat.le_refl _)).setc (Nat.le_refl _)).setc (Nat.le_refl _)).setc (Nat.le_refl _)).setc (Nat.le_refl _)).setc (Nat.le_refl _)).setc (Nat.le_refl _)).setc (Nat.le_refl _)).setc (Nat.le_refl _)).setc (Nat.le_refl _))
end Go.Proofs.YtcpmfcigciknlaaGreat

namespace Go.Proofs.YtcpmfcigciknlaaGreat
open Go.RowKit
set_option linter.unusedVariables false
set_option maxHeartbeats 4000000 in
set_option maxRecDepth 100000 in
theorem implRowOf_any (n : Int) (u : Value) (T : List (List RowD)) (p q : Nat) (w : World) (hu : Rowzz w u T) (h1 : goodTab n T = true) (hp : p < T.length) (hq : q ≤ 5) :
    Calls Tryz.prog 38 #[.agg #[.int .i64 n, u], .int .i64 p, .int .i64 ((q : Int) + 1)] w (NewRow (rowOf n T p q) w) := by
  obtain ⟨wb, hwb⟩ : ∃ wb, wb = (w.alloc (.cells #[.int .i64 n, u] 32)).alloc (.cells #[.int .i64 0, .int .i64 0, .int .i64 0, .int .i64 0, .int .i64 0, .int .i64 0, .int .i64 0, .int .i64 0, .int .i64 0, .slice none 0 0] 83) := ⟨_, rfl⟩
  have ho := tab_res w n u 32 83
  rw [← hwb] at ho
  have xb : Ext w wb := by rw [hwb]; exact ((Ext.refl w).alloc _).alloc _
  have sb : w.heap.size + 2 ≤ wb.heap.size := by rw [hwb]; simp
  have HWB := Lib.hid hwb
  have HO := Lib.hid ho
  have SB := Lib.hid sb
  have HU := Lib.hid (hu.ext xb)
  obtain ⟨t0, t1⟩ := ho.1
  have HT := Lib.hid (And.intro t0 t1)
  clear ho sb hu
  have hgrp := (goodTab_of h1).1
  have HGRP := Lib.hid hgrp
  have hu0 := HU.out
  obtain ⟨au, cu, rfl, hlu, _, hcu⟩ := hu0
  rw [hwb] at t0 t1
  clear hwb
  unfold maxLen at hlu
  obtain ⟨bu, ou, rfl, du⟩ := hcu (by omega)
  obtain ⟨x, hx1, ix⟩ := du p hp
  obtain ⟨R, hR⟩ : ∃ R, R = T[p] := ⟨_, rfl⟩
  rw [← hR] at ix
  have IX := Lib.hid ix
  obtain ⟨ax, cx, rfl, hlx, _, hcx⟩ := ix
  unfold maxLen at hlx
  have hq0 : (q : Int) ≤ 5 := by omega
  by_cases hqt : q < R.length
  · have hqt' : q < T[p].length := by rw [← hR]; exact hqt
    have hrow := goodTab_row h1 hp hqt'
    have e : rowOf n T p q = R[q] := by rw [rowOf_in hp hqt']; simp only [hR]
    rw [e]
    obtain ⟨d, hd⟩ : ∃ d, d = R[q] := ⟨_, rfl⟩
    obtain ⟨bx, ox, rfl, dx⟩ := hcx (by omega)
    obtain ⟨y, hy1, iy⟩ := dx q hqt
    rw [← hd] at hy1 iy ⊢
    have hdl : (d.l.length : Int) = n := by
      have : d = T[p][q] := by rw [hd]; simp only [hR]
      rw [this]; exact hrow.2.1
    have HDL := Lib.hid hdl
    have IY := Lib.hid iy
    have HY := Lib.hid hy1
    have HX := Lib.hid hx1
    have gx := hx1
    rw [HWB.out] at gx
    have hq1 : (q : Int) + 1 ≤ R.length := by omega
    clear hcu du hx1 hR hcx dx iy hd hrow hqt' e hgrp h1 hdl hy1
    go_enter Tryz.func38, Tryz.ntmps38

    have X0 := Lib.hid xb
    have X1 := Lib.hid (Ext.refl wb)
    have hw : IntKind.i64.wrap ((q : Int) + 1 - 1) = (q : Int) := by rw [show (q : Int) + 1 - 1 = q by omega]; exact IntWalk.i64_in _ (by omega)
    have hw2 : IntKind.i64.wrap (q : Int) = (q : Int) := IntWalk.i64_in _ (by omega)
    have hw0 : (0 : Int) ≤ (q : Int) := by omega
    have hw1 : (q : Int) < (R.length : Int) := by omega
    clear xb
    go_wp2_with fail
    rw [← HWB.out]
    obtain ⟨t0, t1⟩ := HT.out
    obtain ⟨g0, g1, g2, g3, g4, g5, g6, g7, g8, g9⟩ := HY.out
    obtain ⟨o0, o1, o2, o3, o4, o5, o6, o7, o8, o9⟩ := HO.out.2.1
    obtain ⟨z0, z1, z2, z3, z4, z5, z6, z7, z8, z9⟩ := HO.out.2.2
    go_region_with (go_at_call 71; refine (copyRow_any n d y _ HGRP.out ((IY.out.ext X1.out).ext (by repeat (first | exact Ext.refl _ | apply Ext.drew | apply Ext.alloc))) HDL.out).mono ?_; rintro e W ⟨v, rfl, f9, x9⟩; obtain ⟨ay, cy, rfl⟩ := f9.form; have x91 := X1.out.trans (Ext.trans (Ext.drew (Ext.refl _)) x9); obtain ⟨o0, o1, o2, o3, o4, o5, o6, o7, o8, o9⟩ := HO.out.2.1.ext x91; obtain ⟨z0, z1, z2, z3, z4, z5, z6, z7, z8, z9⟩ := HO.out.2.2.ext (by have := SB.out; omega) x91)
    all_goals
      have hsz9 := X1.out.size
      have F := Lib.hid (f9.more (B' := wb.heap.size) hsz9)
      have hx := X0.out.trans (Ext.trans (Ext.drew (Ext.refl _)) x9)
      clear f9 x9 x91 t0 t1 g0 g1 g2 g3 g4 g5 g6 g7 g8 g9 hw hw2 hsz9
      go_wp2
      refine bodyPost_ret (v := .agg #[.int .i64 d.b, .int .i64 d.v, .int .i64 d.st, .int .i64 d.k, .int .i64 d.i, .int .i64 d.f, .int .i64 d.t, .int .i64 d.a, .int .i64 d.s, .slice ay d.l.length cy]) (by simp [results, Tryz.results38, go_sem, o0, o1, o2, o3, o4, o5, o6, o7, o8, o9]) rfl ⟨_, rfl, ?_, ?_⟩
      · exact ((((((((((F.out.set _ _ _ (by have := SB.out; omega)).set _ _ _ (by have := SB.out; omega)).set _ _ _ (by have := SB.out; omega)).set _ _ _ (by have := SB.out; omega)).set _ _ _ (by have := SB.out; omega)).set _ _ _ (by have := SB.out; omega)).set _ _ _ (by have := SB.out; omega)).set _ _ _ (by have := SB.out; omega)).set _ _ _ (by have := SB.out; omega)).set _ _ _ (by have := SB.out; omega)).more (by have := SB.out; omega)
      · exact ((((((((((hx.setc (by dsimp only; omega)).setc (by dsimp only; omega)).setc (by dsimp only; omega)).setc (by dsimp only; omega)).setc (by dsimp only; omega)).setc (by dsimp only; omega)).setc (by dsimp only; omega)).setc (by dsimp only; omega)).setc (by dsimp only; omega)).setc (by dsimp only; omega))
  · have e : rowOf n T p q = emptyR n := rowOf_out hp (by rw [← hR]; omega)
    rw [e]
    obtain ⟨L, hL⟩ : ∃ L, L = noneL n := ⟨_, rfl⟩
    have hLE : emptyR n = ⟨0, 0, 0, 0, 0, 0, 0, 0, 0, L⟩ := by rw [hL]; rfl
    have hc := fun W => emptyRow_any n W hgrp
    rw [hLE] at hc ⊢
    have HC := Lib.hid hc
    have HX := Lib.hid hx1
    have gx := hx1
    rw [HWB.out] at gx
    have hq1 : (R.length : Int) < (q : Int) + 1 := by omega
    clear hcu du hx1 hR hcx e hgrp h1 hL hLE hc hqt
    go_enter Tryz.func38, Tryz.ntmps38

    have X1 := Lib.hid (Ext.refl wb)
    have X0 := Lib.hid xb
    clear xb
    go_wp2_with fail
    rw [← HWB.out]
    refine (HC.out _).mono ?_
    rintro e w2 ⟨v, rfl, f2, x2⟩
    have x12 := X1.out.trans x2
    have hx := X0.out.trans x2
    obtain ⟨o0, o1, o2, o3, o4, o5, o6, o7, o8, o9⟩ := HO.out.2.1.ext x12
    obtain ⟨z0, z1, z2, z3, z4, z5, z6, z7, z8, z9⟩ := HO.out.2.2.ext (by have := SB.out; omega) x12
    obtain ⟨ay, cy, rfl⟩ := f2.form
    have F := Lib.hid (f2.more (B' := wb.heap.size) X1.out.size)
    clear f2 x2 x12 t0 t1 gx
    go_wp2
    refine bodyPost_ret (v := .agg #[.int .i64 0, .int .i64 0, .int .i64 0, .int .i64 0, .int .i64 0, .int .i64 0, .int .i64 0, .int .i64 0, .int .i64 0, .slice ay L.length cy]) (by simp [results, Tryz.results38, go_sem, o0, o1, o2, o3, o4, o5, o6, o7, o8, o9]) rfl ⟨_, rfl, ?_, ?_⟩
    · exact ((((((((((F.out.set _ _ _ (by have := SB.out; omega)).set _ _ _ (by have := SB.out; omega)).set _ _ _ (by have := SB.out; omega)).set _ _ _ (by have := SB.out; omega)).set _ _ _ (by have := SB.out; omega)).set _ _ _ (by have := SB.out; omega)).set _ _ _ (by have := SB.out; omega)).set _ _ _ (by have := SB.out; omega)).set _ _ _ (by have := SB.out; omega)).set _ _ _ (by have := SB.out; omega)).more (by have := SB.out; omega)
    · exact ((((((((((hx.setc (by dsimp only; omega)).setc (by dsimp only; omega)).setc (by dsimp only; omega)).setc (by dsimp only; omega)).setc (by dsimp only; omega)).setc (by dsimp only; omega)).setc (by dsimp only; omega)).setc (by dsimp only; omega)).setc (by dsimp only; omega)).setc (by dsimp only; omega))
end Go.Proofs.YtcpmfcigciknlaaGreat

namespace Go.Proofs.YtcpmfcigciknlaaGreat
open Go.RowKit
set_option linter.unusedVariables false
def flatEn (L : List EnD) : List Value := L.flatMap enVs
theorem flatEn_at {L : List EnD} {j q : Nat} {v : Value} (h : j < L.length) (hq : (enVs L[j])[q]? = some v) : (flatEn L)[j * 9 + q]? = some v := by
  induction L generalizing j with
  | nil => simp at h
  | cons x t ih =>
    unfold flatEn
    rw [List.flatMap_cons]
    have hq9 : q < 9 := en_lt hq
    cases j with
    | zero =>
      rw [Nat.zero_mul, Nat.zero_add, List.getElem?_append_left (by rw [enVs_len]; exact hq9)]
      exact hq
    | succ j =>
      have h' : j < t.length := by simpa using h
      have i1 := ih h' hq
      unfold flatEn at i1
      rw [List.getElem?_append_right (by rw [enVs_len]; omega), enVs_len, show (j + 1) * 9 + q - 9 = j * 9 + q by omega]
      exact i1
def FreshEn (B : Nat) (w : World) (v : Value) (L : List EnD) : Prop := w.ownsRow B 79 9 v L.length (flatEn L)
theorem FreshEn.nil (B : Nat) (w : World) : FreshEn B w (.slice none 0 0) [] := ⟨rfl, .inl ⟨rfl, rfl⟩⟩
theorem FreshEn.ext {B : Nat} {w w' : World} {v : Value} {L : List EnD} (h : FreshEn B w v L) (e : Ext w w') : FreshEn B w' v L := e.ownsRow h
theorem FreshEn.at {B : Nat} {w : World} {v : Value} {L : List EnD} (h : FreshEn B w v L) : Enz w v L := by
  rcases h.2 with ⟨rfl, hn⟩ | ⟨g, cap, cur, rfl, hb, hg, hnc, hcm, hcs, htake⟩
  · obtain rfl : L = [] := List.eq_nil_of_length_eq_zero hn
    exact Enz.nil w
  · refine ⟨some ⟨g, 0, none⟩, cap, rfl, by omega, ⟨by omega, by omega, fun h => by cases h⟩, fun _ => ⟨g, 0, rfl, fun j hj => ?_⟩⟩
    rw [Nat.zero_add]
    intro q x hq
    have h9 := en_lt hq
    rw [World.ownsRow.cellAt h (j * 9 + q) (by omega)]
    exact flatEn_at hj hq
theorem Tryz.infoEntry : (Tryz.prog.info? 79).map (fun i => (i.zero, i.size, i.bytes)) = some (some (.agg #[.int .i64 0, .int .i64 0, .int .i64 0, .int .i64 0, .int .i64 0, .int .i64 0, .int .i64 0, .int .i64 0, .int .i64 0]), 9, 72) := by kernel_rfl
def EnW (lo hi : Nat) (w : World) (v : Value) (L : List EnD) : Prop :=
  ∃ g xs cap, lo ≤ g ∧ g < hi ∧ v = .slice (some ⟨g, 0, none⟩) L.length cap ∧ L.length ≤ cap ∧ cap ≤ maxLen ∧ BoxV w g xs ∧ L.length * 9 ≤ xs.length ∧ EnsTo xs L L.length
def AnsEn (lo hi : Nat) (w : World) (v : Value) (L : List EnD) : Prop := (L = [] ∧ v = .slice none 0 0) ∨ EnW lo hi w v L
theorem EnW.reads {lo hi : Nat} {w : World} {v : Value} {L : List EnD} (h : EnW lo hi w v L) : Enz w v L := by
  obtain ⟨g, xs, cap, _, _, rfl, hc, hm, hb, _, hT⟩ := h
  refine ⟨some ⟨g, 0, none⟩, _, rfl, Nat.le_trans hc hm, ⟨hc, hm, fun h => by cases h⟩, fun _ => ⟨g, 0, rfl, fun j hj => ?_⟩⟩
  rw [Nat.zero_add]; exact XEn.isIn hb (hT j hj hj)
theorem EnW.kept {lo hi : Nat} {w w' : World} {v : Value} {L : List EnD} (h : EnW lo hi w v L) (s : Stood lo hi w w') : EnW lo hi w' v L := by
  obtain ⟨g, xs, cap, hg, hh, hv, hc, hm, hb, hl, hT⟩ := h
  exact ⟨g, xs, cap, hg, hh, hv, hc, hm, hb.kept s hg hh, hl, hT⟩
theorem EnW.lt {g : Nat} {u : Value} {w : World} {L : List EnD} (h : EnW g (g + 1) w u L) : g < w.heap.size := by
  obtain ⟨g', xs, _, h1, h2, _, _, _, hb, _⟩ := h
  have := hb.lt
  omega
theorem AnsEn.reads {lo hi : Nat} {w : World} {v : Value} {L : List EnD} (h : AnsEn lo hi w v L) : Enz w v L := by
  rcases h with ⟨rfl, rfl⟩ | h
  · exact Enz.nil w
  · exact h.reads
theorem AnsEn.kept {lo hi : Nat} {w w' : World} {v : Value} {L : List EnD} (h : AnsEn lo hi w v L) (s : Stood lo hi w w') : AnsEn lo hi w' v L := by
  rcases h with h | h
  · exact .inl h
  · exact .inr (h.kept s)
end Go.Proofs.YtcpmfcigciknlaaGreat
