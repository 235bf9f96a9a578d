/- Texts of this proof, part r: words, plain facts, contracts. -/
import Derived.Test.YtcpmfcigciknlaaGreatMBookOfq
import Derived.Test.YtcpmfcigciknlaaGreatMBookOfa
import Derived.Test.YtcpmfcigciknlaaGreatMBookOfc
import Derived.Test.YtcpmfcigciknlaaGreatMBookOfd

namespace Go.Proofs.YtcpmfcigciknlaaGreat
open Go.RowKit
set_option linter.unusedVariables false

theorem lead_cells {w : World} {b : Nat} {d : LeadD} {u1 u2 u3 u4 : Value} (h : BoxV w b (leadVs d u1 u2 u3 u4)) :
    w.cell? ⟨b, 0, none⟩ = some (.int .i64 d.rp) ∧ w.cell? ⟨b, 1, none⟩ = some (.int .i64 d.no) ∧ w.cell? ⟨b, 2, none⟩ = some (.int .i64 d.bl) ∧ w.cell? ⟨b, 3, none⟩ = some (.int .i64 d.ph) ∧ w.cell? ⟨b, 4, none⟩ = some (.int .i64 d.k) ∧ w.cell? ⟨b, 5, none⟩ = some (.int .i64 d.i) ∧ w.cell? ⟨b, 6, none⟩ = some (.int .i64 d.f) ∧ w.cell? ⟨b, 7, none⟩ = some (.int .i64 d.t) ∧ w.cell? ⟨b, 8, none⟩ = some (.int .i64 d.a) ∧ w.cell? ⟨b, 9, none⟩ = some (.int .i64 d.s1) ∧ w.cell? ⟨b, 10, none⟩ = some u1 ∧ w.cell? ⟨b, 11, none⟩ = some (.int .i64 d.s2) ∧ w.cell? ⟨b, 12, none⟩ = some u2 ∧ w.cell? ⟨b, 13, none⟩ = some (.bool d.sm) ∧ w.cell? ⟨b, 14, none⟩ = some u3 ∧ w.cell? ⟨b, 15, none⟩ = some u4 :=
  ⟨h.cell 0 _ rfl, h.cell 1 _ rfl, h.cell 2 _ rfl, h.cell 3 _ rfl, h.cell 4 _ rfl, h.cell 5 _ rfl, h.cell 6 _ rfl, h.cell 7 _ rfl, h.cell 8 _ rfl, h.cell 9 _ rfl, h.cell 10 _ rfl, h.cell 11 _ rfl, h.cell 12 _ rfl, h.cell 13 _ rfl, h.cell 14 _ rfl, h.cell 15 _ rfl⟩
theorem leadIn_cells {w : World} {b o : Nat} {d : LeadD} {u1 u2 u3 u4 : Value} (h : LeadIn w b o d u1 u2 u3 u4) :
    w.cell? ⟨b, o, none⟩ = some (.int .i64 d.rp) ∧ w.cell? ⟨b, o + 1, none⟩ = some (.int .i64 d.no) ∧ w.cell? ⟨b, o + 2, none⟩ = some (.int .i64 d.bl) ∧ w.cell? ⟨b, o + 3, none⟩ = some (.int .i64 d.ph) ∧ w.cell? ⟨b, o + 4, none⟩ = some (.int .i64 d.k) ∧ w.cell? ⟨b, o + 5, none⟩ = some (.int .i64 d.i) ∧ w.cell? ⟨b, o + 6, none⟩ = some (.int .i64 d.f) ∧ w.cell? ⟨b, o + 7, none⟩ = some (.int .i64 d.t) ∧ w.cell? ⟨b, o + 8, none⟩ = some (.int .i64 d.a) ∧ w.cell? ⟨b, o + 9, none⟩ = some (.int .i64 d.s1) ∧ w.cell? ⟨b, o + 10, none⟩ = some u1 ∧ w.cell? ⟨b, o + 11, none⟩ = some (.int .i64 d.s2) ∧ w.cell? ⟨b, o + 12, none⟩ = some u2 ∧ w.cell? ⟨b, o + 13, none⟩ = some (.bool d.sm) ∧ w.cell? ⟨b, o + 14, none⟩ = some u3 ∧ w.cell? ⟨b, o + 15, none⟩ = some u4 :=
  ⟨h 0 _ rfl, h 1 _ rfl, h 2 _ rfl, h 3 _ rfl, h 4 _ rfl, h 5 _ rfl, h 6 _ rfl, h 7 _ rfl, h 8 _ rfl, h 9 _ rfl, h 10 _ rfl, h 11 _ rfl, h 12 _ rfl, h 13 _ rfl, h 14 _ rfl, h 15 _ rfl⟩
theorem szLead_step {left x y : Int} {a b : Nat} (h : lessened left a = x) (h0 : ¬ left < a) (hy : lessened (left - a) b = y) : lessened left (a + b) = y := by
  rw [← hy]
  unfold lessened
  split <;> split <;> omega
set_option maxHeartbeats 2000000 in
set_option maxRecDepth 100000 in
theorem szLead_any (d : LeadD) (u1 u2 u3 u4 : Value) (left : Int) (w : World) (hl : LeadL w d u1 u2 u3 u4) (h0 : 0 ≤ left) (h1 : left ≤ 1099511627776) :
    Calls Tryz.prog 161 #[.agg #[.int .i64 d.rp, .int .i64 d.no, .int .i64 d.bl, .int .i64 d.ph, .int .i64 d.k, .int .i64 d.i, .int .i64 d.f, .int .i64 d.t, .int .i64 d.a, .int .i64 d.s1, u1, .int .i64 d.s2, u2, .bool d.sm, u3, u4], .int .i64 left] w (IntExt (lessened left (bulkD d)) w) := by
  have xb := Ext.alloc1 w (.cells #[.int .i64 d.rp, .int .i64 d.no, .int .i64 d.bl, .int .i64 d.ph, .int .i64 d.k, .int .i64 d.i, .int .i64 d.f, .int .i64 d.t, .int .i64 d.a, .int .i64 d.s1, u1, .int .i64 d.s2, u2, .bool d.sm, u3, u4] 233)
  have hb := lead_box w 233 d u1 u2 u3 u4
  have HL := Lib.hid (hl.ext xb)
  have HB := Lib.hid hb
  have HX := Lib.hid xb
  clear hl xb
  obtain ⟨p0, p1, p2, p3, p4, p5, p6, p7, p8, p9, p10, p11, p12, p13, p14, p15⟩ := lead_cells hb
  clear hb
  have hbd : bulkD d = d.l1.length + (d.l2.length + (d.who.length + bulkR d.seen)) := by unfold bulkD; omega
  rw [hbd]
  clear hbd
  go_enter Tryz.func161, Tryz.ntmps161
  go_wp2_with fail
  refine (szAttr_any _ _ d.l1 _ _ HL.out.i1 h0 h1).mono ?_
  rintro e w1 ⟨rfl, x1⟩
  have X1 := Lib.hid x1
  clear x1 p0 p1 p2 p3 p4 p5 p6 p7 p8 p9 p10 p11 p12 p13 p14 p15
  by_cases g1 : left < d.l1.length
  · have HE : Hid (lessened left (d.l1.length + (d.l2.length + (d.who.length + bulkR d.seen))) = -1) := Lib.hid (lessened_no (by omega))
    rw [lessened_no g1]
    go_wp2
    go_ret
    exact ⟨by rw [HE.out]; first | done | rfl, HX.out.trans X1.out⟩
  rw [lessened_yes (by omega)]
  have hx1 : lessened left (d.l1.length + (d.l2.length + (d.who.length + bulkR d.seen))) = lessened (left - d.l1.length) (d.l2.length + (d.who.length + bulkR d.seen)) := by unfold lessened; split <;> split <;> omega
  obtain ⟨r1, hr1⟩ : ∃ r1, r1 = left - (d.l1.length : Int) := ⟨_, rfl⟩
  rw [← hr1] at hx1 ⊢
  have r10 : 0 ≤ r1 := by omega
  have r11 : r1 ≤ 1099511627776 := by omega
  have HX1 := Lib.hid hx1
  clear hx1 hr1 g1
  obtain ⟨p0, p1, p2, p3, p4, p5, p6, p7, p8, p9, p10, p11, p12, p13, p14, p15⟩ := lead_cells (HB.out.ext X1.out)
  go_wp2_with fail
  refine (szAttr_any _ _ d.l2 _ _ (HL.out.i2.ext X1.out) r10 r11).mono ?_
  rintro e w2 ⟨rfl, x2⟩
  have X2 := Lib.hid (X1.out.trans x2)
  clear x2 X1 p0 p1 p2 p3 p4 p5 p6 p7 p8 p9 p10 p11 p12 p13 p14 p15
  by_cases g1 : r1 < d.l2.length
  · have HE : Hid (lessened r1 (d.l2.length + (d.who.length + bulkR d.seen)) = -1) := Lib.hid (lessened_no (by omega))
    rw [lessened_no g1]
    go_wp2
    go_ret
    exact ⟨by rw [HX1.out, HE.out]; first | done | rfl, HX.out.trans X2.out⟩
  rw [lessened_yes (by omega)]
  have hx1 : lessened r1 (d.l2.length + (d.who.length + bulkR d.seen)) = lessened (r1 - d.l2.length) (d.who.length + bulkR d.seen) := by unfold lessened; split <;> split <;> omega
  obtain ⟨r2, hr2⟩ : ∃ r2, r2 = r1 - (d.l2.length : Int) := ⟨_, rfl⟩
  rw [← hr2] at hx1 ⊢
  have r20 : 0 ≤ r2 := by omega
  have r21 : r2 ≤ 1099511627776 := by omega
  have HX2 := Lib.hid (HX1.out.trans hx1)
  clear hx1 hr2 g1 HX1
  obtain ⟨p0, p1, p2, p3, p4, p5, p6, p7, p8, p9, p10, p11, p12, p13, p14, p15⟩ := lead_cells (HB.out.ext X2.out)
  go_wp2_with fail
  refine (szIntS_any _ d.who _ _ (HL.out.i3.ext X2.out) r20 r21).mono ?_
  rintro e w' ⟨rfl, rfl⟩
  clear p0 p1 p2 p3 p4 p5 p6 p7 p8 p9 p10 p11 p12 p13 p14 p15
  by_cases g1 : r2 < d.who.length
  · have HE : Hid (lessened r2 (d.who.length + bulkR d.seen) = -1) := Lib.hid (lessened_no (by omega))
    rw [lessened_no g1]
    go_wp2
    go_ret
    exact ⟨by rw [HX2.out, HE.out]; first | done | rfl, HX.out.trans X2.out⟩
  rw [lessened_yes (by omega)]
  have hx1 : lessened r2 (d.who.length + bulkR d.seen) = lessened (r2 - d.who.length) (bulkR d.seen) := by unfold lessened; split <;> split <;> omega
  obtain ⟨r3, hr3⟩ : ∃ r3, r3 = r2 - (d.who.length : Int) := ⟨_, rfl⟩
  rw [← hr3] at hx1 ⊢
  have r30 : 0 ≤ r3 := by omega
  have r31 : r3 ≤ 1099511627776 := by omega
  have HX3 := Lib.hid (HX2.out.trans hx1)
  clear hx1 hr3 g1 HX2
  obtain ⟨p0, p1, p2, p3, p4, p5, p6, p7, p8, p9, p10, p11, p12, p13, p14, p15⟩ := lead_cells (HB.out.ext X2.out)
  go_wp2_with fail
  refine (szRowS_any _ d.seen _ _ (HL.out.i4.ext X2.out) r30 r31).mono ?_
  rintro e w3 ⟨rfl, x3⟩
  have hx := HX.out.trans (X2.out.trans x3)
  clear x3 p0 p1 p2 p3 p4 p5 p6 p7 p8 p9 p10 p11 p12 p13 p14 p15
  by_cases g1 : r3 < bulkR d.seen
  · have e4 := lessened_no g1
    rw [e4]
    have HE := Lib.hid (HX3.out.trans e4)
    clear e4 g1 HX3
    go_wp2
    go_ret
    exact ⟨by rw [HE.out]; first | done | rfl, hx⟩
  · have e4 := lessened_yes (left := r3) (n := bulkR d.seen) (by omega)
    have r40 : 0 ≤ r3 - (bulkR d.seen : Int) := by omega
    obtain ⟨r4, hr4⟩ : ∃ r4, r4 = r3 - (bulkR d.seen : Int) := ⟨_, rfl⟩
    rw [← hr4] at e4 r40
    rw [e4]
    have HE := Lib.hid (HX3.out.trans e4)
    clear hr4 e4 g1 HX3
    go_wp2
    go_ret
    exact ⟨by rw [HE.out]; first | done | rfl, hx⟩
end Go.Proofs.YtcpmfcigciknlaaGreat

namespace Go.Proofs.YtcpmfcigciknlaaGreat
open Go.RowKit

def cutTo (cut : Nat → Nat) (k e : Nat) : Nat → Nat := fun j => if j ≤ k then cut j else e
theorem cutTo_old {cut : Nat → Nat} {k e j : Nat} (h : j ≤ k) : cutTo cut k e j = cut j := by unfold cutTo; rw [if_pos h]
theorem cutTo_new {cut : Nat → Nat} {k e : Nat} : cutTo cut k e (k + 1) = e := by unfold cutTo; rw [if_neg (by omega)]
structure CutOk (lo k hi : Nat) (cut : Nat → Nat) : Prop where
  mono : ∀ j, j < k → cut j ≤ cut (j + 1)
  lo : lo ≤ cut 0
  hi : cut k ≤ hi
theorem CutOk.start {lo a hi : Nat} (h1 : lo ≤ a) (h2 : a ≤ hi) : CutOk lo 0 hi (fun _ => a) := ⟨fun j h => by omega, h1, h2⟩
theorem CutOk.to {lo k hi e : Nat} {cut : Nat → Nat} (h : CutOk lo k hi cut) (he : hi ≤ e) : CutOk lo (k + 1) e (cutTo cut k e) := by
  refine ⟨fun j hj => ?_, by rw [cutTo_old (Nat.zero_le _)]; exact h.lo, by rw [cutTo_new]; exact Nat.le_refl _⟩
  by_cases hk : j < k
  · rw [cutTo_old (by omega), cutTo_old (by omega)]; exact h.mono j hk
  · obtain rfl : j = k := by omega
    rw [cutTo_old (Nat.le_refl _), cutTo_new]
    exact Nat.le_trans h.hi he
theorem CutOk.le {lo k hi : Nat} {cut : Nat → Nat} (h : CutOk lo k hi cut) {i j : Nat} (hij : i ≤ j) (hj : j ≤ k) : cut i ≤ cut j := cut_mono h.mono i j hij hj
theorem CutOk.low {lo k hi : Nat} {cut : Nat → Nat} (h : CutOk lo k hi cut) {j : Nat} (hj : j ≤ k) : lo ≤ cut j := Nat.le_trans h.lo (h.le (Nat.zero_le _) hj)
theorem CutOk.high {lo k hi : Nat} {cut : Nat → Nat} (h : CutOk lo k hi cut) {j : Nat} (hj : j ≤ k) : cut j ≤ hi := Nat.le_trans (h.le hj (Nat.le_refl _)) h.hi
theorem CutOk.more {lo lo' k hi hi' : Nat} {cut : Nat → Nat} (h : CutOk lo k hi cut) (h1 : lo' ≤ lo) (h2 : hi ≤ hi') : CutOk lo' k hi' cut := ⟨h.mono, Nat.le_trans h1 h.lo, Nat.le_trans h.hi h2⟩
end Go.Proofs.YtcpmfcigciknlaaGreat

namespace Go.Proofs.YtcpmfcigciknlaaGreat
open Go.RowKit
set_option linter.unusedVariables false

/-- v is a list of numbers of a block from lo on, below hi; S is not above lo. -/
structure FrI (S lo hi : Nat) (w : World) (v : Value) (l : List Int) : Prop where
  fresh : Fresh lo w v l
  und : Und hi v
  low : S ≤ lo
  ord : lo ≤ hi
  high : hi ≤ w.heap.size
theorem FrI.ext {S lo hi : Nat} {w w' : World} {v : Value} {l : List Int} (h : FrI S lo hi w v l) (e : Ext w w') : FrI S lo hi w' v l := ⟨h.fresh.ext e, h.und, h.low, h.ord, Nat.le_trans h.high e.size⟩
theorem FrI.ins {S lo hi q : Nat} {w w' : World} {v : Value} {l : List Int} (h : FrI S lo hi w v l) (k : Ins q S w w') : FrI S lo hi w' v l := ⟨h.fresh.ins_high k h.low, h.und, h.low, h.ord, Nat.le_trans h.high k.size⟩
theorem FreshR.ins_high {B lo hi : Nat} {w w' : World} {v : Value} {R : List RowD} (h : FreshR B w v R) (k : Ins lo hi w w') (hb : hi ≤ B) : FreshR B w' v R := by
  obtain ⟨xs, us, h1, h2, h3, h4⟩ := h
  refine ⟨xs, us, k.row h1 (fun b e => .inr (Nat.le_trans hb (World.ownsRow.lt h1 b e).1)), h2, ⟨h3.len, fun j u l hu hl => k.row (h3.row j u l hu hl) (fun b e => .inr (Nat.le_trans hb (World.ownsRow.lt (h3.row j u l hu hl) b e).1)), h3.apart⟩, h4⟩
/-- A lead's lists lie in blocks from B on. -/
structure LeadF (B : Nat) (w : World) (d : LeadD) (u1 u2 u3 u4 : Value) : Prop where
  f1 : Fresh B w u1 d.l1
  f2 : Fresh B w u2 d.l2
  f3 : Fresh B w u3 d.who
  f4 : FreshR B w u4 d.seen
theorem LeadF.ext {B : Nat} {w w' : World} {d : LeadD} {u1 u2 u3 u4 : Value} (h : LeadF B w d u1 u2 u3 u4) (e : Ext w w') : LeadF B w' d u1 u2 u3 u4 := ⟨h.f1.ext e, h.f2.ext e, h.f3.ext e, h.f4.ext e⟩
theorem LeadF.ins {B lo hi : Nat} {w w' : World} {d : LeadD} {u1 u2 u3 u4 : Value} (h : LeadF B w d u1 u2 u3 u4) (k : Ins lo hi w w') (hb : hi ≤ B) : LeadF B w' d u1 u2 u3 u4 := ⟨h.f1.ins_high k hb, h.f2.ins_high k hb, h.f3.ins_high k hb, h.f4.ins_high k hb⟩
theorem LeadF.more {B B' : Nat} {w : World} {d : LeadD} {u1 u2 u3 u4 : Value} (h : LeadF B w d u1 u2 u3 u4) (hb : B' ≤ B) : LeadF B' w d u1 u2 u3 u4 := ⟨h.f1.more hb, h.f2.more hb, h.f3.more hb, h.f4.more hb⟩
theorem LeadF.reads {B : Nat} {w : World} {d : LeadD} {u1 u2 u3 u4 : Value} (h : LeadF B w d u1 u2 u3 u4) : LeadL w d u1 u2 u3 u4 := ⟨h.f1.ints, h.f2.ints, h.f3.ints, h.f4.rows⟩
/-- v is a list of numbers in a block from lo on, below hi. -/
structure FrR (lo hi : Nat) (w : World) (v : Value) (l : List Int) : Prop where
  fresh : Fresh lo w v l
  und : Und hi v
theorem FrR.kept {lo hi : Nat} {w w' : World} {v : Value} {l : List Int} (h : FrR lo hi w v l) (k : Stood lo hi w w') : FrR lo hi w' v l := ⟨k.row h.fresh (fun b e => ⟨(World.ownsRow.lt h.fresh b e).1, h.und b e⟩), h.und⟩
theorem FrR.more {lo lo' hi hi' : Nat} {w : World} {v : Value} {l : List Int} (h : FrR lo hi w v l) (a : lo' ≤ lo) (b : hi ≤ hi') : FrR lo' hi' w v l := ⟨h.fresh.more a, h.und.more b⟩
/-- A lead's lists lie in blocks from lo on, below hi, one behind the other. -/
def LeadC (lo hi : Nat) (w : World) (d : LeadD) (u1 u2 u3 u4 : Value) : Prop :=
  ∃ a b c, lo ≤ a ∧ a ≤ b ∧ b ≤ c ∧ c ≤ hi ∧ FrR lo a w u1 d.l1 ∧ FrR a b w u2 d.l2 ∧ FrR b c w u3 d.who ∧ FreshI c hi w u4 d.seen
theorem LeadC.kept {lo hi : Nat} {w w' : World} {d : LeadD} {u1 u2 u3 u4 : Value} (h : LeadC lo hi w d u1 u2 u3 u4) (k : Stood lo hi w w') : LeadC lo hi w' d u1 u2 u3 u4 := by
  obtain ⟨a, b, c, h1, h2, h3, h4, f1, f2, f3, f4⟩ := h
  exact ⟨a, b, c, h1, h2, h3, h4, f1.kept (k.within (Nat.le_refl _) (by omega)), f2.kept (k.within (by omega) (by omega)), f3.kept (k.within (by omega) (by omega)), f4.kept (k.within (by omega) (Nat.le_refl _))⟩
theorem FreshI.more_hi {lo hi hi' : Nat} {w : World} {v : Value} {R : List RowD} (h : FreshI lo hi w v R) (k : hi ≤ hi') : FreshI lo hi' w v R := by
  obtain ⟨xs, us, h1, h2, h3, h4, h5, h6⟩ := h
  exact ⟨xs, us, h1, h2, h3, h4, h5.more k, fun j u hu => (h6 j u hu).more k⟩
theorem LeadC.more {lo lo' hi hi' : Nat} {w : World} {d : LeadD} {u1 u2 u3 u4 : Value} (h : LeadC lo hi w d u1 u2 u3 u4) (p : lo' ≤ lo) (q : hi ≤ hi') : LeadC lo' hi' w d u1 u2 u3 u4 := by
  obtain ⟨a, b, c, h1, h2, h3, h4, f1, f2, f3, f4⟩ := h
  exact ⟨a, b, c, by omega, h2, h3, by omega, f1.more p (Nat.le_refl _), f2, f3, f4.more_hi q⟩
theorem LeadC.reads {lo hi : Nat} {w : World} {d : LeadD} {u1 u2 u3 u4 : Value} (h : LeadC lo hi w d u1 u2 u3 u4) : LeadL w d u1 u2 u3 u4 := by
  obtain ⟨a, b, c, _, _, _, _, f1, f2, f3, f4⟩ := h
  exact ⟨f1.fresh.ints, f2.fresh.ints, f3.fresh.ints, f4.fresh.rows⟩
/-- A lead comes back in new memory. -/
def NewLead (d : LeadD) (w : World) (e : Ending) (w' : World) : Prop := ∃ u1 u2 u3 u4, e = .returned (.agg #[.int .i64 d.rp, .int .i64 d.no, .int .i64 d.bl, .int .i64 d.ph, .int .i64 d.k, .int .i64 d.i, .int .i64 d.f, .int .i64 d.t, .int .i64 d.a, .int .i64 d.s1, u1, .int .i64 d.s2, u2, .bool d.sm, u3, u4]) ∧ LeadC w.heap.size w'.heap.size w' d u1 u2 u3 u4 ∧ Ext w w'
set_option maxHeartbeats 8000000 in
set_option maxRecDepth 100000 in
theorem toLead_any (d : LeadD) (u1 u2 u3 u4 : Value) (w : World) (hl : LeadL w d u1 u2 u3 u4) (hs : bulkD d ≤ 1099511627776) :
    Calls Tryz.prog 165 #[.agg #[.int .i64 d.rp, .int .i64 d.no, .int .i64 d.bl, .int .i64 d.ph, .int .i64 d.k, .int .i64 d.i, .int .i64 d.f, .int .i64 d.t, .int .i64 d.a, .int .i64 d.s1, u1, .int .i64 d.s2, u2, .bool d.sm, u3, u4]] w (NewLead d w) := by
  have HB1 : Hid (d.l1.length ≤ 35184372088831) := Lib.hid (by unfold bulkD at hs; omega)
  have HB2 : Hid (d.l2.length ≤ 35184372088831) := Lib.hid (by unfold bulkD at hs; omega)
  have HB3 : Hid (d.who.length ≤ 35184372088831) := Lib.hid (by unfold bulkD at hs; omega)
  have HB4 : Hid (bulkR d.seen ≤ 1099511627776) := Lib.hid (by unfold bulkD at hs; omega)
  have HL := Lib.hid hl
  clear hl hs
  obtain ⟨w0, hw0⟩ : ∃ w0, w0 = ((w.alloc (.cells #[.int .i64 d.rp, .int .i64 d.no, .int .i64 d.bl, .int .i64 d.ph, .int .i64 d.k, .int .i64 d.i, .int .i64 d.f, .int .i64 d.t, .int .i64 d.a, .int .i64 d.s1, u1, .int .i64 d.s2, u2, .bool d.sm, u3, u4] 233)).alloc (.cells #[.int .i64 0, .int .i64 0, .int .i64 0, .int .i64 0, .int .i64 0, .int .i64 0, .int .i64 0, .int .i64 0, .int .i64 0, .int .i64 0, .slice none 0 0, .int .i64 0, .slice none 0 0, .bool false, .slice none 0 0, .slice none 0 0] 201)).alloc (.cells #[.int .i64 d.rp, .int .i64 d.no, .int .i64 d.bl, .int .i64 d.ph, .int .i64 0, .int .i64 0, .int .i64 0, .int .i64 0, .int .i64 0, .int .i64 0, .slice none 0 0, .int .i64 0, .slice none 0 0, .bool false, .slice none 0 0, .slice none 0 0] 201) := ⟨_, rfl⟩
  have x0 : Ext w w0 := by rw [hw0]; exact ((Ext.alloc1 _ _).alloc _).alloc _
  have s0 : w0.heap.size = w.heap.size + 3 := by rw [hw0]; simp
  have a0 : BoxV w0 w.heap.size (leadVs d u1 u2 u3 u4) := by rw [hw0]; exact (lead_box w 233 d u1 u2 u3 u4).ext ((Ext.alloc1 _ _).alloc _)
  have r0 : BoxV w0 (w.heap.size + 1) [.int .i64 0, .int .i64 0, .int .i64 0, .int .i64 0, .int .i64 0, .int .i64 0, .int .i64 0, .int .i64 0, .int .i64 0, .int .i64 0, .slice none 0 0, .int .i64 0, .slice none 0 0, .bool false, .slice none 0 0, .slice none 0 0] := by
    have h := (boxV_new (w.alloc (.cells #[.int .i64 d.rp, .int .i64 d.no, .int .i64 d.bl, .int .i64 d.ph, .int .i64 d.k, .int .i64 d.i, .int .i64 d.f, .int .i64 d.t, .int .i64 d.a, .int .i64 d.s1, u1, .int .i64 d.s2, u2, .bool d.sm, u3, u4] 233)) [.int .i64 0, .int .i64 0, .int .i64 0, .int .i64 0, .int .i64 0, .int .i64 0, .int .i64 0, .int .i64 0, .int .i64 0, .int .i64 0, .slice none 0 0, .int .i64 0, .slice none 0 0, .bool false, .slice none 0 0, .slice none 0 0] 201).ext (Ext.alloc1 _ (.cells #[.int .i64 d.rp, .int .i64 d.no, .int .i64 d.bl, .int .i64 d.ph, .int .i64 0, .int .i64 0, .int .i64 0, .int .i64 0, .int .i64 0, .int .i64 0, .slice none 0 0, .int .i64 0, .slice none 0 0, .bool false, .slice none 0 0, .slice none 0 0] 201))
    rw [World.size_alloc] at h
    rw [hw0]; exact h
  have o0 : BoxV w0 (w.heap.size + 1 + 1) [.int .i64 d.rp, .int .i64 d.no, .int .i64 d.bl, .int .i64 d.ph, .int .i64 0, .int .i64 0, .int .i64 0, .int .i64 0, .int .i64 0, .int .i64 0, .slice none 0 0, .int .i64 0, .slice none 0 0, .bool false, .slice none 0 0, .slice none 0 0] := by
    have h := boxV_new ((w.alloc (.cells #[.int .i64 d.rp, .int .i64 d.no, .int .i64 d.bl, .int .i64 d.ph, .int .i64 d.k, .int .i64 d.i, .int .i64 d.f, .int .i64 d.t, .int .i64 d.a, .int .i64 d.s1, u1, .int .i64 d.s2, u2, .bool d.sm, u3, u4] 233)).alloc (.cells #[.int .i64 0, .int .i64 0, .int .i64 0, .int .i64 0, .int .i64 0, .int .i64 0, .int .i64 0, .int .i64 0, .int .i64 0, .int .i64 0, .slice none 0 0, .int .i64 0, .slice none 0 0, .bool false, .slice none 0 0, .slice none 0 0] 201)) [.int .i64 d.rp, .int .i64 d.no, .int .i64 d.bl, .int .i64 d.ph, .int .i64 0, .int .i64 0, .int .i64 0, .int .i64 0, .int .i64 0, .int .i64 0, .slice none 0 0, .int .i64 0, .slice none 0 0, .bool false, .slice none 0 0, .slice none 0 0] 201
    rw [World.size_alloc, World.size_alloc] at h
    rw [hw0]; exact h
  have HW0 := Lib.hid hw0
  have HA0 := Lib.hid a0
  have HR0 := Lib.hid r0
  have HO0 := Lib.hid o0
  have HX0 := Lib.hid x0
  have HS0 := Lib.hid s0
  clear hw0 a0 r0 o0 x0 s0
  go_enter Tryz.func165, Tryz.ntmps165
  go_wp2_with fail
  rw [← HW0.out]
  refine (toCmd_any _ _ _ _ _ _).mono ?_
  rintro e w1 ⟨rfl, x1⟩
  have HA1 := Lib.hid (HA0.out.ext x1)
  have HR1 := Lib.hid (HR0.out.ext x1)
  have HO1 := Lib.hid (HO0.out.ext x1)
  have HX1 := Lib.hid (HX0.out.trans x1)
  have HS1 : Hid (w.heap.size + 3 ≤ w1.heap.size) := Lib.hid (by have := x1.size; have := HS0.out; omega)
  clear x1 HA0 HR0 HO0 HX0 HS0 HW0
  have a0 := (HA1.out).cell 0 _ rfl
  have a1 := (HA1.out).cell 1 _ rfl
  have a2 := (HA1.out).cell 2 _ rfl
  have a3 := (HA1.out).cell 3 _ rfl
  have a4 := (HA1.out).cell 4 _ rfl
  have a5 := (HA1.out).cell 5 _ rfl
  have a6 := (HA1.out).cell 6 _ rfl
  have a7 := (HA1.out).cell 7 _ rfl
  have a8 := (HA1.out).cell 8 _ rfl
  have a9 := (HA1.out).cell 9 _ rfl
  have a10 := (HA1.out).cell 10 _ rfl
  have a11 := (HA1.out).cell 11 _ rfl
  have a12 := (HA1.out).cell 12 _ rfl
  have a13 := (HA1.out).cell 13 _ rfl
  have a14 := (HA1.out).cell 14 _ rfl
  have a15 := (HA1.out).cell 15 _ rfl
  have o0 := (HO1.out).cell 0 _ rfl
  have o1 := (HO1.out).cell 1 _ rfl
  have o2 := (HO1.out).cell 2 _ rfl
  have o3 := (HO1.out).cell 3 _ rfl
  have o4 := (HO1.out).cell 4 _ rfl
  have o5 := (HO1.out).cell 5 _ rfl
  have o6 := (HO1.out).cell 6 _ rfl
  have o7 := (HO1.out).cell 7 _ rfl
  have o8 := (HO1.out).cell 8 _ rfl
  have o9 := (HO1.out).cell 9 _ rfl
  have o10 := (HO1.out).cell 10 _ rfl
  have o11 := (HO1.out).cell 11 _ rfl
  have o12 := (HO1.out).cell 12 _ rfl
  have o13 := (HO1.out).cell 13 _ rfl
  have o14 := (HO1.out).cell 14 _ rfl
  have o15 := (HO1.out).cell 15 _ rfl
  have z0 := (HO1.out).free 0 (of_decide_eq_true rfl)
  have z1 := (HO1.out).free 1 (of_decide_eq_true rfl)
  have z2 := (HO1.out).free 2 (of_decide_eq_true rfl)
  have z3 := (HO1.out).free 3 (of_decide_eq_true rfl)
  have z4 := (HO1.out).free 4 (of_decide_eq_true rfl)
  have z5 := (HO1.out).free 5 (of_decide_eq_true rfl)
  have z6 := (HO1.out).free 6 (of_decide_eq_true rfl)
  have z7 := (HO1.out).free 7 (of_decide_eq_true rfl)
  have z8 := (HO1.out).free 8 (of_decide_eq_true rfl)
  have z9 := (HO1.out).free 9 (of_decide_eq_true rfl)
  have z10 := (HO1.out).free 10 (of_decide_eq_true rfl)
  have z11 := (HO1.out).free 11 (of_decide_eq_true rfl)
  have z12 := (HO1.out).free 12 (of_decide_eq_true rfl)
  have z13 := (HO1.out).free 13 (of_decide_eq_true rfl)
  have z14 := (HO1.out).free 14 (of_decide_eq_true rfl)
  have z15 := (HO1.out).free 15 (of_decide_eq_true rfl)
  go_wp2_with fail
  have k1 : Ins w.heap.size (w.heap.size + 3) w1 (((((w1.setCell ⟨w.heap.size + 1 + 1, 4, none⟩ (.int .i64 d.k)).setCell ⟨w.heap.size + 1 + 1, 5, none⟩ (.int .i64 d.i)).setCell ⟨w.heap.size + 1 + 1, 6, none⟩ (.int .i64 d.f)).setCell ⟨w.heap.size + 1 + 1, 7, none⟩ (.int .i64 d.t)).setCell ⟨w.heap.size + 1 + 1, 8, none⟩ (.int .i64 d.a)) := by
    iterate 5 refine Ins.trans ?_ (ins_set (by omega) (by omega))
    exact Ins.refl _ _ _
  have ha : BoxV (((((w1.setCell ⟨w.heap.size + 1 + 1, 4, none⟩ (.int .i64 d.k)).setCell ⟨w.heap.size + 1 + 1, 5, none⟩ (.int .i64 d.i)).setCell ⟨w.heap.size + 1 + 1, 6, none⟩ (.int .i64 d.f)).setCell ⟨w.heap.size + 1 + 1, 7, none⟩ (.int .i64 d.t)).setCell ⟨w.heap.size + 1 + 1, 8, none⟩ (.int .i64 d.a)) w.heap.size (leadVs d u1 u2 u3 u4) := by
    iterate 5 refine BoxV.other ?_ _ _ (by dsimp only; omega)
    exact HA1.out
  have hr : BoxV (((((w1.setCell ⟨w.heap.size + 1 + 1, 4, none⟩ (.int .i64 d.k)).setCell ⟨w.heap.size + 1 + 1, 5, none⟩ (.int .i64 d.i)).setCell ⟨w.heap.size + 1 + 1, 6, none⟩ (.int .i64 d.f)).setCell ⟨w.heap.size + 1 + 1, 7, none⟩ (.int .i64 d.t)).setCell ⟨w.heap.size + 1 + 1, 8, none⟩ (.int .i64 d.a)) (w.heap.size + 1) [.int .i64 0, .int .i64 0, .int .i64 0, .int .i64 0, .int .i64 0, .int .i64 0, .int .i64 0, .int .i64 0, .int .i64 0, .int .i64 0, .slice none 0 0, .int .i64 0, .slice none 0 0, .bool false, .slice none 0 0, .slice none 0 0] := by
    iterate 5 refine BoxV.other ?_ _ _ (by dsimp only; omega)
    exact HR1.out
  have ho : BoxV (((((w1.setCell ⟨w.heap.size + 1 + 1, 4, none⟩ (.int .i64 d.k)).setCell ⟨w.heap.size + 1 + 1, 5, none⟩ (.int .i64 d.i)).setCell ⟨w.heap.size + 1 + 1, 6, none⟩ (.int .i64 d.f)).setCell ⟨w.heap.size + 1 + 1, 7, none⟩ (.int .i64 d.t)).setCell ⟨w.heap.size + 1 + 1, 8, none⟩ (.int .i64 d.a)) (w.heap.size + 1 + 1) [.int .i64 d.rp, .int .i64 d.no, .int .i64 d.bl, .int .i64 d.ph, .int .i64 d.k, .int .i64 d.i, .int .i64 d.f, .int .i64 d.t, .int .i64 d.a, .int .i64 0, .slice none 0 0, .int .i64 0, .slice none 0 0, .bool false, .slice none 0 0, .slice none 0 0] := (((((HO1.out.set 4 (.int .i64 d.k) (of_decide_eq_true rfl)).set 5 (.int .i64 d.i) (of_decide_eq_true rfl)).set 6 (.int .i64 d.f) (of_decide_eq_true rfl)).set 7 (.int .i64 d.t) (of_decide_eq_true rfl)).set 8 (.int .i64 d.a) (of_decide_eq_true rfl))
  have hx : Ext w (((((w1.setCell ⟨w.heap.size + 1 + 1, 4, none⟩ (.int .i64 d.k)).setCell ⟨w.heap.size + 1 + 1, 5, none⟩ (.int .i64 d.i)).setCell ⟨w.heap.size + 1 + 1, 6, none⟩ (.int .i64 d.f)).setCell ⟨w.heap.size + 1 + 1, 7, none⟩ (.int .i64 d.t)).setCell ⟨w.heap.size + 1 + 1, 8, none⟩ (.int .i64 d.a)) := k1.ext HX1.out (Nat.le_refl _)
  have hs : w.heap.size + 3 ≤ ((((((w1.setCell ⟨w.heap.size + 1 + 1, 4, none⟩ (.int .i64 d.k)).setCell ⟨w.heap.size + 1 + 1, 5, none⟩ (.int .i64 d.i)).setCell ⟨w.heap.size + 1 + 1, 6, none⟩ (.int .i64 d.f)).setCell ⟨w.heap.size + 1 + 1, 7, none⟩ (.int .i64 d.t)).setCell ⟨w.heap.size + 1 + 1, 8, none⟩ (.int .i64 d.a))).heap.size := Nat.le_trans HS1.out k1.size
  clear a0 a1 a2 a3 a4 a5 a6 a7 a8 a9 a10 a11 a12 a13 a14 a15 o0 o1 o2 o3 o4 o5 o6 o7 o8 o9 o10 o11 o12 o13 o14 o15 z0 z1 z2 z3 z4 z5 z6 z7 z8 z9 z10 z11 z12 z13 z14 z15
  obtain ⟨wc, hwc⟩ : ∃ wc, wc = (((((w1.setCell ⟨w.heap.size + 1 + 1, 4, none⟩ (.int .i64 d.k)).setCell ⟨w.heap.size + 1 + 1, 5, none⟩ (.int .i64 d.i)).setCell ⟨w.heap.size + 1 + 1, 6, none⟩ (.int .i64 d.f)).setCell ⟨w.heap.size + 1 + 1, 7, none⟩ (.int .i64 d.t)).setCell ⟨w.heap.size + 1 + 1, 8, none⟩ (.int .i64 d.a)) := ⟨_, rfl⟩
  rw [← hwc] at ha hr ho hx hs ⊢
  clear hwc k1
  refine (toAttr_any _ _ d.l1 _ (HL.out.i1.ext hx) HB1.out).mono ?_
  rintro e w2 ⟨v1, rfl, f2, x2⟩
  have HA2 := Lib.hid (ha.ext x2)
  have HR2 := Lib.hid (hr.ext x2)
  have HO2 := Lib.hid (ho.ext x2)
  have HX2 := Lib.hid (hx.trans x2)
  have HS2 : Hid (w.heap.size + 3 ≤ w2.heap.size) := Lib.hid (Nat.le_trans hs x2.size)
  obtain ⟨y1, c1, rfl⟩ := f2.form
  have G1 : Hid (FrI (w.heap.size + 3) (w.heap.size + 3) w2.heap.size w2 (.slice y1 d.l1.length c1) d.l1) := Lib.hid ⟨f2.more hs, f2.und, Nat.le_refl _, HS2.out, Nat.le_refl _⟩
  clear ha hr ho hx hs x2 f2 HA1 HR1 HO1 HX1 HS1
  have a0 := (HA2.out).cell 0 _ rfl
  have a1 := (HA2.out).cell 1 _ rfl
  have a2 := (HA2.out).cell 2 _ rfl
  have a3 := (HA2.out).cell 3 _ rfl
  have a4 := (HA2.out).cell 4 _ rfl
  have a5 := (HA2.out).cell 5 _ rfl
  have a6 := (HA2.out).cell 6 _ rfl
  have a7 := (HA2.out).cell 7 _ rfl
  have a8 := (HA2.out).cell 8 _ rfl
  have a9 := (HA2.out).cell 9 _ rfl
  have a10 := (HA2.out).cell 10 _ rfl
  have a11 := (HA2.out).cell 11 _ rfl
  have a12 := (HA2.out).cell 12 _ rfl
  have a13 := (HA2.out).cell 13 _ rfl
  have a14 := (HA2.out).cell 14 _ rfl
  have a15 := (HA2.out).cell 15 _ rfl
  have o0 := (HO2.out).cell 0 _ rfl
  have o1 := (HO2.out).cell 1 _ rfl
  have o2 := (HO2.out).cell 2 _ rfl
  have o3 := (HO2.out).cell 3 _ rfl
  have o4 := (HO2.out).cell 4 _ rfl
  have o5 := (HO2.out).cell 5 _ rfl
  have o6 := (HO2.out).cell 6 _ rfl
  have o7 := (HO2.out).cell 7 _ rfl
  have o8 := (HO2.out).cell 8 _ rfl
  have o9 := (HO2.out).cell 9 _ rfl
  have o10 := (HO2.out).cell 10 _ rfl
  have o11 := (HO2.out).cell 11 _ rfl
  have o12 := (HO2.out).cell 12 _ rfl
  have o13 := (HO2.out).cell 13 _ rfl
  have o14 := (HO2.out).cell 14 _ rfl
  have o15 := (HO2.out).cell 15 _ rfl
  have z0 := (HO2.out).free 0 (of_decide_eq_true rfl)
  have z1 := (HO2.out).free 1 (of_decide_eq_true rfl)
  have z2 := (HO2.out).free 2 (of_decide_eq_true rfl)
  have z3 := (HO2.out).free 3 (of_decide_eq_true rfl)
  have z4 := (HO2.out).free 4 (of_decide_eq_true rfl)
  have z5 := (HO2.out).free 5 (of_decide_eq_true rfl)
  have z6 := (HO2.out).free 6 (of_decide_eq_true rfl)
  have z7 := (HO2.out).free 7 (of_decide_eq_true rfl)
  have z8 := (HO2.out).free 8 (of_decide_eq_true rfl)
  have z9 := (HO2.out).free 9 (of_decide_eq_true rfl)
  have z10 := (HO2.out).free 10 (of_decide_eq_true rfl)
  have z11 := (HO2.out).free 11 (of_decide_eq_true rfl)
  have z12 := (HO2.out).free 12 (of_decide_eq_true rfl)
  have z13 := (HO2.out).free 13 (of_decide_eq_true rfl)
  have z14 := (HO2.out).free 14 (of_decide_eq_true rfl)
  have z15 := (HO2.out).free 15 (of_decide_eq_true rfl)
  go_wp2_with fail
  have k2 : Ins w.heap.size (w.heap.size + 3) w2 ((w2.setCell ⟨w.heap.size + 1 + 1, 9, none⟩ (.int .i64 d.s1)).setCell ⟨w.heap.size + 1 + 1, 10, none⟩ (.slice y1 d.l1.length c1)) := by
    iterate 2 refine Ins.trans ?_ (ins_set (by omega) (by omega))
    exact Ins.refl _ _ _
  have ha : BoxV ((w2.setCell ⟨w.heap.size + 1 + 1, 9, none⟩ (.int .i64 d.s1)).setCell ⟨w.heap.size + 1 + 1, 10, none⟩ (.slice y1 d.l1.length c1)) w.heap.size (leadVs d u1 u2 u3 u4) := by
    iterate 2 refine BoxV.other ?_ _ _ (by dsimp only; omega)
    exact HA2.out
  have hr : BoxV ((w2.setCell ⟨w.heap.size + 1 + 1, 9, none⟩ (.int .i64 d.s1)).setCell ⟨w.heap.size + 1 + 1, 10, none⟩ (.slice y1 d.l1.length c1)) (w.heap.size + 1) [.int .i64 0, .int .i64 0, .int .i64 0, .int .i64 0, .int .i64 0, .int .i64 0, .int .i64 0, .int .i64 0, .int .i64 0, .int .i64 0, .slice none 0 0, .int .i64 0, .slice none 0 0, .bool false, .slice none 0 0, .slice none 0 0] := by
    iterate 2 refine BoxV.other ?_ _ _ (by dsimp only; omega)
    exact HR2.out
  have ho : BoxV ((w2.setCell ⟨w.heap.size + 1 + 1, 9, none⟩ (.int .i64 d.s1)).setCell ⟨w.heap.size + 1 + 1, 10, none⟩ (.slice y1 d.l1.length c1)) (w.heap.size + 1 + 1) [.int .i64 d.rp, .int .i64 d.no, .int .i64 d.bl, .int .i64 d.ph, .int .i64 d.k, .int .i64 d.i, .int .i64 d.f, .int .i64 d.t, .int .i64 d.a, .int .i64 d.s1, .slice y1 d.l1.length c1, .int .i64 0, .slice none 0 0, .bool false, .slice none 0 0, .slice none 0 0] := ((HO2.out.set 9 (.int .i64 d.s1) (of_decide_eq_true rfl)).set 10 (.slice y1 d.l1.length c1) (of_decide_eq_true rfl))
  have hx : Ext w ((w2.setCell ⟨w.heap.size + 1 + 1, 9, none⟩ (.int .i64 d.s1)).setCell ⟨w.heap.size + 1 + 1, 10, none⟩ (.slice y1 d.l1.length c1)) := k2.ext HX2.out (Nat.le_refl _)
  have hs : w.heap.size + 3 ≤ (((w2.setCell ⟨w.heap.size + 1 + 1, 9, none⟩ (.int .i64 d.s1)).setCell ⟨w.heap.size + 1 + 1, 10, none⟩ (.slice y1 d.l1.length c1))).heap.size := Nat.le_trans HS2.out k2.size
  have g1 := G1.out.ins k2
  clear a0 a1 a2 a3 a4 a5 a6 a7 a8 a9 a10 a11 a12 a13 a14 a15 o0 o1 o2 o3 o4 o5 o6 o7 o8 o9 o10 o11 o12 o13 o14 o15 z0 z1 z2 z3 z4 z5 z6 z7 z8 z9 z10 z11 z12 z13 z14 z15
  obtain ⟨wc, hwc⟩ : ∃ wc, wc = ((w2.setCell ⟨w.heap.size + 1 + 1, 9, none⟩ (.int .i64 d.s1)).setCell ⟨w.heap.size + 1 + 1, 10, none⟩ (.slice y1 d.l1.length c1)) := ⟨_, rfl⟩
  rw [← hwc] at ha hr ho hx hs g1 ⊢
  clear hwc k2
  refine (toAttr_any _ _ d.l2 _ (HL.out.i2.ext hx) HB2.out).mono ?_
  rintro e w3 ⟨v2, rfl, f3, x3⟩
  have HA3 := Lib.hid (ha.ext x3)
  have HR3 := Lib.hid (hr.ext x3)
  have HO3 := Lib.hid (ho.ext x3)
  have HX3 := Lib.hid (hx.trans x3)
  have HS3 : Hid (w.heap.size + 3 ≤ w3.heap.size) := Lib.hid (Nat.le_trans hs x3.size)
  have G1 := Lib.hid (g1.ext x3)
  obtain ⟨y2, c2, rfl⟩ := f3.form
  have G2 : Hid (FrI (w.heap.size + 3) w2.heap.size w3.heap.size w3 (.slice y2 d.l2.length c2) d.l2) := Lib.hid ⟨f3.more g1.high, f3.und, g1.ord, Nat.le_trans g1.high x3.size, Nat.le_refl _⟩
  clear ha hr ho hx hs x3 f3 HA2 HR2 HO2 HX2 HS2 g1
  have a0 := (HA3.out).cell 0 _ rfl
  have a1 := (HA3.out).cell 1 _ rfl
  have a2 := (HA3.out).cell 2 _ rfl
  have a3 := (HA3.out).cell 3 _ rfl
  have a4 := (HA3.out).cell 4 _ rfl
  have a5 := (HA3.out).cell 5 _ rfl
  have a6 := (HA3.out).cell 6 _ rfl
  have a7 := (HA3.out).cell 7 _ rfl
  have a8 := (HA3.out).cell 8 _ rfl
  have a9 := (HA3.out).cell 9 _ rfl
  have a10 := (HA3.out).cell 10 _ rfl
  have a11 := (HA3.out).cell 11 _ rfl
  have a12 := (HA3.out).cell 12 _ rfl
  have a13 := (HA3.out).cell 13 _ rfl
  have a14 := (HA3.out).cell 14 _ rfl
  have a15 := (HA3.out).cell 15 _ rfl
  have o0 := (HO3.out).cell 0 _ rfl
  have o1 := (HO3.out).cell 1 _ rfl
  have o2 := (HO3.out).cell 2 _ rfl
  have o3 := (HO3.out).cell 3 _ rfl
  have o4 := (HO3.out).cell 4 _ rfl
  have o5 := (HO3.out).cell 5 _ rfl
  have o6 := (HO3.out).cell 6 _ rfl
  have o7 := (HO3.out).cell 7 _ rfl
  have o8 := (HO3.out).cell 8 _ rfl
  have o9 := (HO3.out).cell 9 _ rfl
  have o10 := (HO3.out).cell 10 _ rfl
  have o11 := (HO3.out).cell 11 _ rfl
  have o12 := (HO3.out).cell 12 _ rfl
  have o13 := (HO3.out).cell 13 _ rfl
  have o14 := (HO3.out).cell 14 _ rfl
  have o15 := (HO3.out).cell 15 _ rfl
  have z0 := (HO3.out).free 0 (of_decide_eq_true rfl)
  have z1 := (HO3.out).free 1 (of_decide_eq_true rfl)
  have z2 := (HO3.out).free 2 (of_decide_eq_true rfl)
  have z3 := (HO3.out).free 3 (of_decide_eq_true rfl)
  have z4 := (HO3.out).free 4 (of_decide_eq_true rfl)
  have z5 := (HO3.out).free 5 (of_decide_eq_true rfl)
  have z6 := (HO3.out).free 6 (of_decide_eq_true rfl)
  have z7 := (HO3.out).free 7 (of_decide_eq_true rfl)
  have z8 := (HO3.out).free 8 (of_decide_eq_true rfl)
  have z9 := (HO3.out).free 9 (of_decide_eq_true rfl)
  have z10 := (HO3.out).free 10 (of_decide_eq_true rfl)
  have z11 := (HO3.out).free 11 (of_decide_eq_true rfl)
  have z12 := (HO3.out).free 12 (of_decide_eq_true rfl)
  have z13 := (HO3.out).free 13 (of_decide_eq_true rfl)
  have z14 := (HO3.out).free 14 (of_decide_eq_true rfl)
  have z15 := (HO3.out).free 15 (of_decide_eq_true rfl)
  go_wp2_with fail
  have k3 : Ins w.heap.size (w.heap.size + 3) w3 (((w3.setCell ⟨w.heap.size + 1 + 1, 11, none⟩ (.int .i64 d.s2)).setCell ⟨w.heap.size + 1 + 1, 12, none⟩ (.slice y2 d.l2.length c2)).setCell ⟨w.heap.size + 1 + 1, 13, none⟩ (.bool d.sm)) := by
    iterate 3 refine Ins.trans ?_ (ins_set (by omega) (by omega))
    exact Ins.refl _ _ _
  have ha : BoxV (((w3.setCell ⟨w.heap.size + 1 + 1, 11, none⟩ (.int .i64 d.s2)).setCell ⟨w.heap.size + 1 + 1, 12, none⟩ (.slice y2 d.l2.length c2)).setCell ⟨w.heap.size + 1 + 1, 13, none⟩ (.bool d.sm)) w.heap.size (leadVs d u1 u2 u3 u4) := by
    iterate 3 refine BoxV.other ?_ _ _ (by dsimp only; omega)
    exact HA3.out
  have hr : BoxV (((w3.setCell ⟨w.heap.size + 1 + 1, 11, none⟩ (.int .i64 d.s2)).setCell ⟨w.heap.size + 1 + 1, 12, none⟩ (.slice y2 d.l2.length c2)).setCell ⟨w.heap.size + 1 + 1, 13, none⟩ (.bool d.sm)) (w.heap.size + 1) [.int .i64 0, .int .i64 0, .int .i64 0, .int .i64 0, .int .i64 0, .int .i64 0, .int .i64 0, .int .i64 0, .int .i64 0, .int .i64 0, .slice none 0 0, .int .i64 0, .slice none 0 0, .bool false, .slice none 0 0, .slice none 0 0] := by
    iterate 3 refine BoxV.other ?_ _ _ (by dsimp only; omega)
    exact HR3.out
  have ho : BoxV (((w3.setCell ⟨w.heap.size + 1 + 1, 11, none⟩ (.int .i64 d.s2)).setCell ⟨w.heap.size + 1 + 1, 12, none⟩ (.slice y2 d.l2.length c2)).setCell ⟨w.heap.size + 1 + 1, 13, none⟩ (.bool d.sm)) (w.heap.size + 1 + 1) [.int .i64 d.rp, .int .i64 d.no, .int .i64 d.bl, .int .i64 d.ph, .int .i64 d.k, .int .i64 d.i, .int .i64 d.f, .int .i64 d.t, .int .i64 d.a, .int .i64 d.s1, .slice y1 d.l1.length c1, .int .i64 d.s2, .slice y2 d.l2.length c2, .bool d.sm, .slice none 0 0, .slice none 0 0] := (((HO3.out.set 11 (.int .i64 d.s2) (of_decide_eq_true rfl)).set 12 (.slice y2 d.l2.length c2) (of_decide_eq_true rfl)).set 13 (.bool d.sm) (of_decide_eq_true rfl))
  have hx : Ext w (((w3.setCell ⟨w.heap.size + 1 + 1, 11, none⟩ (.int .i64 d.s2)).setCell ⟨w.heap.size + 1 + 1, 12, none⟩ (.slice y2 d.l2.length c2)).setCell ⟨w.heap.size + 1 + 1, 13, none⟩ (.bool d.sm)) := k3.ext HX3.out (Nat.le_refl _)
  have hs : w.heap.size + 3 ≤ ((((w3.setCell ⟨w.heap.size + 1 + 1, 11, none⟩ (.int .i64 d.s2)).setCell ⟨w.heap.size + 1 + 1, 12, none⟩ (.slice y2 d.l2.length c2)).setCell ⟨w.heap.size + 1 + 1, 13, none⟩ (.bool d.sm))).heap.size := Nat.le_trans HS3.out k3.size
  have g1 := G1.out.ins k3
  have g2 := G2.out.ins k3
  clear a0 a1 a2 a3 a4 a5 a6 a7 a8 a9 a10 a11 a12 a13 a14 a15 o0 o1 o2 o3 o4 o5 o6 o7 o8 o9 o10 o11 o12 o13 o14 o15 z0 z1 z2 z3 z4 z5 z6 z7 z8 z9 z10 z11 z12 z13 z14 z15
  obtain ⟨wc, hwc⟩ : ∃ wc, wc = (((w3.setCell ⟨w.heap.size + 1 + 1, 11, none⟩ (.int .i64 d.s2)).setCell ⟨w.heap.size + 1 + 1, 12, none⟩ (.slice y2 d.l2.length c2)).setCell ⟨w.heap.size + 1 + 1, 13, none⟩ (.bool d.sm)) := ⟨_, rfl⟩
  rw [← hwc] at ha hr ho hx hs g1 g2 ⊢
  clear hwc k3
  refine (toIntS_any _ d.who _ (HL.out.i3.ext hx) HB3.out).mono ?_
  rintro e w4 ⟨v3, rfl, f4, x4⟩
  have HA4 := Lib.hid (ha.ext x4)
  have HR4 := Lib.hid (hr.ext x4)
  have HO4 := Lib.hid (ho.ext x4)
  have HX4 := Lib.hid (hx.trans x4)
  have HS4 : Hid (w.heap.size + 3 ≤ w4.heap.size) := Lib.hid (Nat.le_trans hs x4.size)
  have G1 := Lib.hid (g1.ext x4)
  have G2 := Lib.hid (g2.ext x4)
  obtain ⟨y3, c3, rfl⟩ := f4.form
  have G3 : Hid (FrI (w.heap.size + 3) w3.heap.size w4.heap.size w4 (.slice y3 d.who.length c3) d.who) := Lib.hid ⟨f4.more g2.high, f4.und, Nat.le_trans g2.low g2.ord, Nat.le_trans g2.high x4.size, Nat.le_refl _⟩
  clear ha hr ho hx hs x4 f4 HA3 HR3 HO3 HX3 HS3 g1 g2
  have a0 := (HA4.out).cell 0 _ rfl
  have a1 := (HA4.out).cell 1 _ rfl
  have a2 := (HA4.out).cell 2 _ rfl
  have a3 := (HA4.out).cell 3 _ rfl
  have a4 := (HA4.out).cell 4 _ rfl
  have a5 := (HA4.out).cell 5 _ rfl
  have a6 := (HA4.out).cell 6 _ rfl
  have a7 := (HA4.out).cell 7 _ rfl
  have a8 := (HA4.out).cell 8 _ rfl
  have a9 := (HA4.out).cell 9 _ rfl
  have a10 := (HA4.out).cell 10 _ rfl
  have a11 := (HA4.out).cell 11 _ rfl
  have a12 := (HA4.out).cell 12 _ rfl
  have a13 := (HA4.out).cell 13 _ rfl
  have a14 := (HA4.out).cell 14 _ rfl
  have a15 := (HA4.out).cell 15 _ rfl
  have o0 := (HO4.out).cell 0 _ rfl
  have o1 := (HO4.out).cell 1 _ rfl
  have o2 := (HO4.out).cell 2 _ rfl
  have o3 := (HO4.out).cell 3 _ rfl
  have o4 := (HO4.out).cell 4 _ rfl
  have o5 := (HO4.out).cell 5 _ rfl
  have o6 := (HO4.out).cell 6 _ rfl
  have o7 := (HO4.out).cell 7 _ rfl
  have o8 := (HO4.out).cell 8 _ rfl
  have o9 := (HO4.out).cell 9 _ rfl
  have o10 := (HO4.out).cell 10 _ rfl
  have o11 := (HO4.out).cell 11 _ rfl
  have o12 := (HO4.out).cell 12 _ rfl
  have o13 := (HO4.out).cell 13 _ rfl
  have o14 := (HO4.out).cell 14 _ rfl
  have o15 := (HO4.out).cell 15 _ rfl
  have z0 := (HO4.out).free 0 (of_decide_eq_true rfl)
  have z1 := (HO4.out).free 1 (of_decide_eq_true rfl)
  have z2 := (HO4.out).free 2 (of_decide_eq_true rfl)
  have z3 := (HO4.out).free 3 (of_decide_eq_true rfl)
  have z4 := (HO4.out).free 4 (of_decide_eq_true rfl)
  have z5 := (HO4.out).free 5 (of_decide_eq_true rfl)
  have z6 := (HO4.out).free 6 (of_decide_eq_true rfl)
  have z7 := (HO4.out).free 7 (of_decide_eq_true rfl)
  have z8 := (HO4.out).free 8 (of_decide_eq_true rfl)
  have z9 := (HO4.out).free 9 (of_decide_eq_true rfl)
  have z10 := (HO4.out).free 10 (of_decide_eq_true rfl)
  have z11 := (HO4.out).free 11 (of_decide_eq_true rfl)
  have z12 := (HO4.out).free 12 (of_decide_eq_true rfl)
  have z13 := (HO4.out).free 13 (of_decide_eq_true rfl)
  have z14 := (HO4.out).free 14 (of_decide_eq_true rfl)
  have z15 := (HO4.out).free 15 (of_decide_eq_true rfl)
  go_wp2_with fail
  have k4 : Ins w.heap.size (w.heap.size + 3) w4 (w4.setCell ⟨w.heap.size + 1 + 1, 14, none⟩ (.slice y3 d.who.length c3)) := by
    iterate 1 refine Ins.trans ?_ (ins_set (by omega) (by omega))
    exact Ins.refl _ _ _
  have ha : BoxV (w4.setCell ⟨w.heap.size + 1 + 1, 14, none⟩ (.slice y3 d.who.length c3)) w.heap.size (leadVs d u1 u2 u3 u4) := by
    iterate 1 refine BoxV.other ?_ _ _ (by dsimp only; omega)
    exact HA4.out
  have hr : BoxV (w4.setCell ⟨w.heap.size + 1 + 1, 14, none⟩ (.slice y3 d.who.length c3)) (w.heap.size + 1) [.int .i64 0, .int .i64 0, .int .i64 0, .int .i64 0, .int .i64 0, .int .i64 0, .int .i64 0, .int .i64 0, .int .i64 0, .int .i64 0, .slice none 0 0, .int .i64 0, .slice none 0 0, .bool false, .slice none 0 0, .slice none 0 0] := by
    iterate 1 refine BoxV.other ?_ _ _ (by dsimp only; omega)
    exact HR4.out
  have ho : BoxV (w4.setCell ⟨w.heap.size + 1 + 1, 14, none⟩ (.slice y3 d.who.length c3)) (w.heap.size + 1 + 1) [.int .i64 d.rp, .int .i64 d.no, .int .i64 d.bl, .int .i64 d.ph, .int .i64 d.k, .int .i64 d.i, .int .i64 d.f, .int .i64 d.t, .int .i64 d.a, .int .i64 d.s1, .slice y1 d.l1.length c1, .int .i64 d.s2, .slice y2 d.l2.length c2, .bool d.sm, .slice y3 d.who.length c3, .slice none 0 0] := (HO4.out.set 14 (.slice y3 d.who.length c3) (of_decide_eq_true rfl))
  have hx : Ext w (w4.setCell ⟨w.heap.size + 1 + 1, 14, none⟩ (.slice y3 d.who.length c3)) := k4.ext HX4.out (Nat.le_refl _)
  have hs : w.heap.size + 3 ≤ ((w4.setCell ⟨w.heap.size + 1 + 1, 14, none⟩ (.slice y3 d.who.length c3))).heap.size := Nat.le_trans HS4.out k4.size
  have g1 := G1.out.ins k4
  have g2 := G2.out.ins k4
  have g3 := G3.out.ins k4
  clear a0 a1 a2 a3 a4 a5 a6 a7 a8 a9 a10 a11 a12 a13 a14 a15 o0 o1 o2 o3 o4 o5 o6 o7 o8 o9 o10 o11 o12 o13 o14 o15 z0 z1 z2 z3 z4 z5 z6 z7 z8 z9 z10 z11 z12 z13 z14 z15
  obtain ⟨wc, hwc⟩ : ∃ wc, wc = (w4.setCell ⟨w.heap.size + 1 + 1, 14, none⟩ (.slice y3 d.who.length c3)) := ⟨_, rfl⟩
  rw [← hwc] at ha hr ho hx hs g1 g2 g3 ⊢
  clear hwc k4
  refine (toRowS_any _ d.seen _ (HL.out.i4.ext hx) HB4.out).mono ?_
  rintro e w5 ⟨v4, rfl, f5, x5⟩
  have HA5 := Lib.hid (ha.ext x5)
  have HR5 := Lib.hid (hr.ext x5)
  have HO5 := Lib.hid (ho.ext x5)
  have HX5 := Lib.hid (hx.trans x5)
  have HS5 : Hid (w.heap.size + 3 ≤ w5.heap.size) := Lib.hid (Nat.le_trans hs x5.size)
  have G1 := Lib.hid (g1.ext x5)
  have G2 := Lib.hid (g2.ext x5)
  have G3 := Lib.hid (g3.ext x5)
  obtain ⟨y4, c4, rfl⟩ := f5.form
  have G4 : Hid (FreshI w4.heap.size w5.heap.size w5 (.slice y4 d.seen.length c4) d.seen ∧ w.heap.size + 3 ≤ w4.heap.size) := Lib.hid ⟨(f5.more g3.high).within (Nat.le_refl _), Nat.le_trans g3.low g3.ord⟩
  clear ha hr ho hx hs x5 f5 HA4 HR4 HO4 HX4 HS4 g1 g2 g3 HL
  have o0 := (HO5.out).cell 0 _ rfl
  have o1 := (HO5.out).cell 1 _ rfl
  have o2 := (HO5.out).cell 2 _ rfl
  have o3 := (HO5.out).cell 3 _ rfl
  have o4 := (HO5.out).cell 4 _ rfl
  have o5 := (HO5.out).cell 5 _ rfl
  have o6 := (HO5.out).cell 6 _ rfl
  have o7 := (HO5.out).cell 7 _ rfl
  have o8 := (HO5.out).cell 8 _ rfl
  have o9 := (HO5.out).cell 9 _ rfl
  have o10 := (HO5.out).cell 10 _ rfl
  have o11 := (HO5.out).cell 11 _ rfl
  have o12 := (HO5.out).cell 12 _ rfl
  have o13 := (HO5.out).cell 13 _ rfl
  have o14 := (HO5.out).cell 14 _ rfl
  have o15 := (HO5.out).cell 15 _ rfl
  have z0 := (HO5.out).free 0 (of_decide_eq_true rfl)
  have z1 := (HO5.out).free 1 (of_decide_eq_true rfl)
  have z2 := (HO5.out).free 2 (of_decide_eq_true rfl)
  have z3 := (HO5.out).free 3 (of_decide_eq_true rfl)
  have z4 := (HO5.out).free 4 (of_decide_eq_true rfl)
  have z5 := (HO5.out).free 5 (of_decide_eq_true rfl)
  have z6 := (HO5.out).free 6 (of_decide_eq_true rfl)
  have z7 := (HO5.out).free 7 (of_decide_eq_true rfl)
  have z8 := (HO5.out).free 8 (of_decide_eq_true rfl)
  have z9 := (HO5.out).free 9 (of_decide_eq_true rfl)
  have z10 := (HO5.out).free 10 (of_decide_eq_true rfl)
  have z11 := (HO5.out).free 11 (of_decide_eq_true rfl)
  have z12 := (HO5.out).free 12 (of_decide_eq_true rfl)
  have z13 := (HO5.out).free 13 (of_decide_eq_true rfl)
  have z14 := (HO5.out).free 14 (of_decide_eq_true rfl)
  have z15 := (HO5.out).free 15 (of_decide_eq_true rfl)
  have r0 := (HR5.out).cell 0 _ rfl
  have r1 := (HR5.out).cell 1 _ rfl
  have r2 := (HR5.out).cell 2 _ rfl
  have r3 := (HR5.out).cell 3 _ rfl
  have r4 := (HR5.out).cell 4 _ rfl
  have r5 := (HR5.out).cell 5 _ rfl
  have r6 := (HR5.out).cell 6 _ rfl
  have r7 := (HR5.out).cell 7 _ rfl
  have r8 := (HR5.out).cell 8 _ rfl
  have r9 := (HR5.out).cell 9 _ rfl
  have r10 := (HR5.out).cell 10 _ rfl
  have r11 := (HR5.out).cell 11 _ rfl
  have r12 := (HR5.out).cell 12 _ rfl
  have r13 := (HR5.out).cell 13 _ rfl
  have r14 := (HR5.out).cell 14 _ rfl
  have r15 := (HR5.out).cell 15 _ rfl
  have y_0 := (HR5.out).free 0 (of_decide_eq_true rfl)
  have y_1 := (HR5.out).free 1 (of_decide_eq_true rfl)
  have y_2 := (HR5.out).free 2 (of_decide_eq_true rfl)
  have y_3 := (HR5.out).free 3 (of_decide_eq_true rfl)
  have y_4 := (HR5.out).free 4 (of_decide_eq_true rfl)
  have y_5 := (HR5.out).free 5 (of_decide_eq_true rfl)
  have y_6 := (HR5.out).free 6 (of_decide_eq_true rfl)
  have y_7 := (HR5.out).free 7 (of_decide_eq_true rfl)
  have y_8 := (HR5.out).free 8 (of_decide_eq_true rfl)
  have y_9 := (HR5.out).free 9 (of_decide_eq_true rfl)
  have y_10 := (HR5.out).free 10 (of_decide_eq_true rfl)
  have y_11 := (HR5.out).free 11 (of_decide_eq_true rfl)
  have y_12 := (HR5.out).free 12 (of_decide_eq_true rfl)
  have y_13 := (HR5.out).free 13 (of_decide_eq_true rfl)
  have y_14 := (HR5.out).free 14 (of_decide_eq_true rfl)
  have y_15 := (HR5.out).free 15 (of_decide_eq_true rfl)
  go_wp2
  clear o0 o1 o2 o3 o4 o5 o6 o7 o8 o9 o10 o11 o12 o13 o14 o15 z0 z1 z2 z3 z4 z5 z6 z7 z8 z9 z10 z11 z12 z13 z14 z15 r0 r1 r2 r3 r4 r5 r6 r7 r8 r9 r10 r11 r12 r13 r14 r15 y_0 y_1 y_2 y_3 y_4 y_5 y_6 y_7 y_8 y_9 y_10 y_11 y_12 y_13 y_14 y_15
  have kz : Ins w.heap.size (w.heap.size + 3) w5 (((((((((((((((((w5.setCell ⟨w.heap.size + 1 + 1, 15, none⟩ (.slice y4 d.seen.length c4)).setCell ⟨w.heap.size + 1, 0, none⟩ (.int .i64 d.rp)).setCell ⟨w.heap.size + 1, 1, none⟩ (.int .i64 d.no)).setCell ⟨w.heap.size + 1, 2, none⟩ (.int .i64 d.bl)).setCell ⟨w.heap.size + 1, 3, none⟩ (.int .i64 d.ph)).setCell ⟨w.heap.size + 1, 4, none⟩ (.int .i64 d.k)).setCell ⟨w.heap.size + 1, 5, none⟩ (.int .i64 d.i)).setCell ⟨w.heap.size + 1, 6, none⟩ (.int .i64 d.f)).setCell ⟨w.heap.size + 1, 7, none⟩ (.int .i64 d.t)).setCell ⟨w.heap.size + 1, 8, none⟩ (.int .i64 d.a)).setCell ⟨w.heap.size + 1, 9, none⟩ (.int .i64 d.s1)).setCell ⟨w.heap.size + 1, 10, none⟩ (.slice y1 d.l1.length c1)).setCell ⟨w.heap.size + 1, 11, none⟩ (.int .i64 d.s2)).setCell ⟨w.heap.size + 1, 12, none⟩ (.slice y2 d.l2.length c2)).setCell ⟨w.heap.size + 1, 13, none⟩ (.bool d.sm)).setCell ⟨w.heap.size + 1, 14, none⟩ (.slice y3 d.who.length c3)).setCell ⟨w.heap.size + 1, 15, none⟩ (.slice y4 d.seen.length c4)) := by
    iterate 17 refine Ins.trans ?_ (ins_set (by omega) (by omega))
    exact Ins.refl _ _ _
  have hr : BoxV (((((((((((((((((w5.setCell ⟨w.heap.size + 1 + 1, 15, none⟩ (.slice y4 d.seen.length c4)).setCell ⟨w.heap.size + 1, 0, none⟩ (.int .i64 d.rp)).setCell ⟨w.heap.size + 1, 1, none⟩ (.int .i64 d.no)).setCell ⟨w.heap.size + 1, 2, none⟩ (.int .i64 d.bl)).setCell ⟨w.heap.size + 1, 3, none⟩ (.int .i64 d.ph)).setCell ⟨w.heap.size + 1, 4, none⟩ (.int .i64 d.k)).setCell ⟨w.heap.size + 1, 5, none⟩ (.int .i64 d.i)).setCell ⟨w.heap.size + 1, 6, none⟩ (.int .i64 d.f)).setCell ⟨w.heap.size + 1, 7, none⟩ (.int .i64 d.t)).setCell ⟨w.heap.size + 1, 8, none⟩ (.int .i64 d.a)).setCell ⟨w.heap.size + 1, 9, none⟩ (.int .i64 d.s1)).setCell ⟨w.heap.size + 1, 10, none⟩ (.slice y1 d.l1.length c1)).setCell ⟨w.heap.size + 1, 11, none⟩ (.int .i64 d.s2)).setCell ⟨w.heap.size + 1, 12, none⟩ (.slice y2 d.l2.length c2)).setCell ⟨w.heap.size + 1, 13, none⟩ (.bool d.sm)).setCell ⟨w.heap.size + 1, 14, none⟩ (.slice y3 d.who.length c3)).setCell ⟨w.heap.size + 1, 15, none⟩ (.slice y4 d.seen.length c4)) (w.heap.size + 1) [.int .i64 d.rp, .int .i64 d.no, .int .i64 d.bl, .int .i64 d.ph, .int .i64 d.k, .int .i64 d.i, .int .i64 d.f, .int .i64 d.t, .int .i64 d.a, .int .i64 d.s1, .slice y1 d.l1.length c1, .int .i64 d.s2, .slice y2 d.l2.length c2, .bool d.sm, .slice y3 d.who.length c3, .slice y4 d.seen.length c4] := (BoxV.set (BoxV.set (BoxV.set (BoxV.set (BoxV.set (BoxV.set (BoxV.set (BoxV.set (BoxV.set (BoxV.set (BoxV.set (BoxV.set (BoxV.set (BoxV.set (BoxV.set (BoxV.set (BoxV.other HR5.out _ _ (by dsimp only; omega)) 0 (.int .i64 d.rp) (of_decide_eq_true rfl)) 1 (.int .i64 d.no) (of_decide_eq_true rfl)) 2 (.int .i64 d.bl) (of_decide_eq_true rfl)) 3 (.int .i64 d.ph) (of_decide_eq_true rfl)) 4 (.int .i64 d.k) (of_decide_eq_true rfl)) 5 (.int .i64 d.i) (of_decide_eq_true rfl)) 6 (.int .i64 d.f) (of_decide_eq_true rfl)) 7 (.int .i64 d.t) (of_decide_eq_true rfl)) 8 (.int .i64 d.a) (of_decide_eq_true rfl)) 9 (.int .i64 d.s1) (of_decide_eq_true rfl)) 10 (.slice y1 d.l1.length c1) (of_decide_eq_true rfl)) 11 (.int .i64 d.s2) (of_decide_eq_true rfl)) 12 (.slice y2 d.l2.length c2) (of_decide_eq_true rfl)) 13 (.bool d.sm) (of_decide_eq_true rfl)) 14 (.slice y3 d.who.length c3) (of_decide_eq_true rfl)) 15 (.slice y4 d.seen.length c4) (of_decide_eq_true rfl))
  obtain ⟨wz, hwz⟩ : ∃ wz, wz = (((((((((((((((((w5.setCell ⟨w.heap.size + 1 + 1, 15, none⟩ (.slice y4 d.seen.length c4)).setCell ⟨w.heap.size + 1, 0, none⟩ (.int .i64 d.rp)).setCell ⟨w.heap.size + 1, 1, none⟩ (.int .i64 d.no)).setCell ⟨w.heap.size + 1, 2, none⟩ (.int .i64 d.bl)).setCell ⟨w.heap.size + 1, 3, none⟩ (.int .i64 d.ph)).setCell ⟨w.heap.size + 1, 4, none⟩ (.int .i64 d.k)).setCell ⟨w.heap.size + 1, 5, none⟩ (.int .i64 d.i)).setCell ⟨w.heap.size + 1, 6, none⟩ (.int .i64 d.f)).setCell ⟨w.heap.size + 1, 7, none⟩ (.int .i64 d.t)).setCell ⟨w.heap.size + 1, 8, none⟩ (.int .i64 d.a)).setCell ⟨w.heap.size + 1, 9, none⟩ (.int .i64 d.s1)).setCell ⟨w.heap.size + 1, 10, none⟩ (.slice y1 d.l1.length c1)).setCell ⟨w.heap.size + 1, 11, none⟩ (.int .i64 d.s2)).setCell ⟨w.heap.size + 1, 12, none⟩ (.slice y2 d.l2.length c2)).setCell ⟨w.heap.size + 1, 13, none⟩ (.bool d.sm)).setCell ⟨w.heap.size + 1, 14, none⟩ (.slice y3 d.who.length c3)).setCell ⟨w.heap.size + 1, 15, none⟩ (.slice y4 d.seen.length c4)) := ⟨_, rfl⟩
  rw [← hwz] at kz hr ⊢
  clear hwz
  have r0 := hr.cell 0 _ rfl
  have r1 := hr.cell 1 _ rfl
  have r2 := hr.cell 2 _ rfl
  have r3 := hr.cell 3 _ rfl
  have r4 := hr.cell 4 _ rfl
  have r5 := hr.cell 5 _ rfl
  have r6 := hr.cell 6 _ rfl
  have r7 := hr.cell 7 _ rfl
  have r8 := hr.cell 8 _ rfl
  have r9 := hr.cell 9 _ rfl
  have r10 := hr.cell 10 _ rfl
  have r11 := hr.cell 11 _ rfl
  have r12 := hr.cell 12 _ rfl
  have r13 := hr.cell 13 _ rfl
  have r14 := hr.cell 14 _ rfl
  have r15 := hr.cell 15 _ rfl
  refine bodyPost_ret (v := .agg #[.int .i64 d.rp, .int .i64 d.no, .int .i64 d.bl, .int .i64 d.ph, .int .i64 d.k, .int .i64 d.i, .int .i64 d.f, .int .i64 d.t, .int .i64 d.a, .int .i64 d.s1, .slice y1 d.l1.length c1, .int .i64 d.s2, .slice y2 d.l2.length c2, .bool d.sm, .slice y3 d.who.length c3, .slice y4 d.seen.length c4]) (by simp [results, Tryz.results165, go_sem, r0, r1, r2, r3, r4, r5, r6, r7, r8, r9, r10, r11, r12, r13, r14, r15]) rfl ⟨_, _, _, _, rfl, ?_, kz.ext HX5.out (Nat.le_refl _)⟩
  have q1 := G1.out.ins kz
  have q2 := G2.out.ins kz
  have q3 := G3.out.ins kz
  have q4 := G4.out.1.kept (kz.stood (Nat.le_refl _) (.inr G4.out.2))
  exact ⟨w2.heap.size, w3.heap.size, w4.heap.size, Nat.le_trans (by omega) q1.ord, q2.ord, q3.ord, Nat.le_trans q3.high (Nat.le_refl _), ⟨q1.fresh.more (by omega), q1.und⟩, ⟨q2.fresh, q2.und⟩, ⟨q3.fresh, q3.und⟩, q4.more_hi kz.size⟩
end Go.Proofs.YtcpmfcigciknlaaGreat

namespace Go.Proofs.YtcpmfcigciknlaaGreat
open Go.RowKit
set_option linter.unusedVariables false

theorem leadVs_len (d : LeadD) (u1 u2 u3 u4 : Value) : (leadVs d u1 u2 u3 u4).length = 16 := rfl
/-- From o on the list xs has the cells of the lead. -/
def XLead (xs : List Value) (o : Nat) (d : LeadD) (u1 u2 u3 u4 : Value) : Prop := ∀ q v, (leadVs d u1 u2 u3 u4)[q]? = some v → xs[o + q]? = some v
theorem lead_lt {d : LeadD} {u1 u2 u3 u4 v : Value} {q : Nat} (h : (leadVs d u1 u2 u3 u4)[q]? = some v) : q < 16 := by
  have := (List.getElem?_eq_some_iff.1 h).1
  rwa [leadVs_len] at this
theorem XLead.put_other {xs vs : List Value} {o p : Nat} {d : LeadD} {u1 u2 u3 u4 : Value} (h : XLead xs o d u1 u2 u3 u4) (hv : vs.length = 16) (hap : o + 16 ≤ p ∨ p + 16 ≤ o) : XLead (putL xs p vs) o d u1 u2 u3 u4 := by
  intro q v hq
  have := lead_lt hq
  rw [putL_out _ _ _ _ (by omega)]
  exact h q v hq
theorem XLead.put {xs : List Value} {o : Nat} {d : LeadD} {u1 u2 u3 u4 : Value} (h : o + 16 ≤ xs.length) : XLead (putL xs o (leadVs d u1 u2 u3 u4)) o d u1 u2 u3 u4 := by
  intro q v hq
  have := lead_lt hq
  rw [putL_in _ o xs q (by rw [leadVs_len]; exact this) (by rw [leadVs_len]; exact h)]
  exact hq
theorem XLead.leadIn {w : World} {b o : Nat} {xs : List Value} {d : LeadD} {u1 u2 u3 u4 : Value} (h : BoxV w b xs) (hx : XLead xs o d u1 u2 u3 u4) : LeadIn w b o d u1 u2 u3 u4 := fun q v hq => h.cell _ _ (hx q v hq)
/-- The first k leads stand in the block's cells xs, their lists in ranges of blocks. -/
def LeadsTo (cut : Nat → Nat) (w : World) (xs : List Value) (L : List LeadD) (k : Nat) : Prop := ∀ j (h : j < L.length), j < k → ∃ u1 u2 u3 u4, XLead xs (j * 16) L[j] u1 u2 u3 u4 ∧ LeadC (cut j) (cut (j + 1)) w L[j] u1 u2 u3 u4
theorem LeadsTo.kept {lo hi k : Nat} {cut : Nat → Nat} {w w' : World} {xs : List Value} {L : List LeadD} (h : LeadsTo cut w xs L k) (c : CutOk lo k hi cut) (s : Stood lo hi w w') : LeadsTo cut w' xs L k := fun j hj hk => by
  obtain ⟨u1, u2, u3, u4, a, b⟩ := h j hj hk
  exact ⟨u1, u2, u3, u4, a, b.kept (s.within (c.low (by omega)) (c.high (by omega)))⟩
theorem LeadsTo.put {g k e : Nat} {cut : Nat → Nat} {w : World} {xs : List Value} {L : List LeadD} {u1 u2 u3 u4 : Value} (h : LeadsTo cut w xs L k) (c : CutOk (g + 1) k w.heap.size cut) (hk : k < L.length) (hl : xs.length = L.length * 16) (he : e ≤ w.heap.size) (hf : LeadC (cut k) e w L[k] u1 u2 u3 u4) :
    LeadsTo (cutTo cut k e) (w.setCells g (k * 16) (leadVs L[k] u1 u2 u3 u4)) (putL xs (k * 16) (leadVs L[k] u1 u2 u3 u4)) L (k + 1) := by
  have hs : Stood (g + 1) w.heap.size w (w.setCells g (k * 16) (leadVs L[k] u1 u2 u3 u4)) := (ins_puts (lo := g) (hi := g + 1) (Nat.le_refl g) (Nat.lt_succ_self g) (leadVs L[k] u1 u2 u3 u4) (k * 16) w).stood (Nat.le_refl _) (.inr (Nat.le_refl _))
  intro j hj hjk
  by_cases ej : j = k
  · subst ej
    rw [cutTo_old (Nat.le_refl _), cutTo_new]
    exact ⟨u1, u2, u3, u4, XLead.put (by omega), hf.kept (hs.within (c.low (Nat.le_refl _)) he)⟩
  · obtain ⟨v1, v2, v3, v4, a, b⟩ := h j hj (by omega)
    rw [cutTo_old (by omega), cutTo_old (by omega)]
    exact ⟨v1, v2, v3, v4, a.put_other (leadVs_len _ _ _ _ _) (by omega), b.kept (hs.within (c.low (by omega)) (c.high (by omega)))⟩
theorem setCells_lead (w : World) (g o : Nat) (d : LeadD) (u1 u2 u3 u4 : Value) :
    w.setCells g o (leadVs d u1 u2 u3 u4) = ((((((((((((((((w.setCell ⟨g, o, none⟩ (.int .i64 d.rp)).setCell ⟨g, o + 1, none⟩ (.int .i64 d.no)).setCell ⟨g, o + 2, none⟩ (.int .i64 d.bl)).setCell ⟨g, o + 3, none⟩ (.int .i64 d.ph)).setCell ⟨g, o + 4, none⟩ (.int .i64 d.k)).setCell ⟨g, o + 5, none⟩ (.int .i64 d.i)).setCell ⟨g, o + 6, none⟩ (.int .i64 d.f)).setCell ⟨g, o + 7, none⟩ (.int .i64 d.t)).setCell ⟨g, o + 8, none⟩ (.int .i64 d.a)).setCell ⟨g, o + 9, none⟩ (.int .i64 d.s1)).setCell ⟨g, o + 10, none⟩ u1).setCell ⟨g, o + 11, none⟩ (.int .i64 d.s2)).setCell ⟨g, o + 12, none⟩ u2).setCell ⟨g, o + 13, none⟩ (.bool d.sm)).setCell ⟨g, o + 14, none⟩ u3).setCell ⟨g, o + 15, none⟩ u4) := rfl
theorem Tryz.infoLead : (Tryz.prog.info? 201).map (fun i => (i.zero, i.size, i.bytes)) = some (some (.agg #[.int .i64 0, .int .i64 0, .int .i64 0, .int .i64 0, .int .i64 0, .int .i64 0, .int .i64 0, .int .i64 0, .int .i64 0, .int .i64 0, .slice none 0 0, .int .i64 0, .slice none 0 0, .bool false, .slice none 0 0, .slice none 0 0]), 16, 192) := by kernel_rfl
end Go.Proofs.YtcpmfcigciknlaaGreat
