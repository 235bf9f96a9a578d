/- Texts of this proof, part m: words, plain facts, contracts. -/
import Derived.Test.YtbffkidkfannhaaMGoodReplical
import Derived.Test.YtbffkidkfannhaaMGoodReplicak
import Derived.Test.YtbffkidkfannhaaMGoodReplicaa
import Derived.Test.YtbffkidkfannhaaMGoodReplicad
import Derived.Test.YtbffkidkfannhaaMGoodReplicag

namespace Go.Proofs.Ytbffkidkfannhaa
open Go.RowKit
set_option linter.unusedVariables false

theorem boxV_puts {b : Nat} : ∀ (vs : List Value) (o : Nat) (w : World) (xs : List Value), BoxV w b xs → o + vs.length ≤ xs.length → BoxV (w.setCells b o vs) b (putL xs o vs)
  | [], _, w, _, h, _ => h
  | v :: r, o, w, xs, h, hl => by
    rw [List.length_cons] at hl
    exact boxV_puts r (o + 1) _ _ (h.set o v (by omega)) (by rw [List.length_set]; omega)
theorem ins_puts {lo hi b : Nat} (h1 : lo ≤ b) (h2 : b < hi) : ∀ (vs : List Value) (o : Nat) (w : World), Ins lo hi w (w.setCells b o vs)
  | [], _, w => Ins.refl _ _ _
  | v :: r, o, w => (ins_set h1 h2).trans (ins_puts h1 h2 r (o + 1) _)
theorem leadVs_len (d : LeadD) (u1 u2 u3 u4 : Value) : (leadVs d u1 u2 u3 u4).length = 16 := rfl
/-- From o on the list xs has the cells of the lead. -/
def XLead (xs : List Value) (o : Nat) (d : LeadD) (u1 u2 u3 u4 : Value) : Prop := ∀ q v, (leadVs d u1 u2 u3 u4)[q]? = some v → xs[o + q]? = some v
theorem lead_lt {d : LeadD} {u1 u2 u3 u4 v : Value} {q : Nat} (h : (leadVs d u1 u2 u3 u4)[q]? = some v) : q < 16 := by
  have := (List.getElem?_eq_some_iff.1 h).1
  rwa [leadVs_len] at this
theorem XLead.put_other {xs vs : List Value} {o p : Nat} {d : LeadD} {u1 u2 u3 u4 : Value} (h : XLead xs o d u1 u2 u3 u4) (hv : vs.length = 16) (hap : o + 16 ≤ p ∨ p + 16 ≤ o) : XLead (putL xs p vs) o d u1 u2 u3 u4 := by
  intro q v hq
  have := lead_lt hq
  rw [putL_out _ _ _ _ (by omega)]
  exact h q v hq
theorem XLead.put {xs : List Value} {o : Nat} {d : LeadD} {u1 u2 u3 u4 : Value} (h : o + 16 ≤ xs.length) : XLead (putL xs o (leadVs d u1 u2 u3 u4)) o d u1 u2 u3 u4 := by
  intro q v hq
  have := lead_lt hq
  rw [putL_in _ o xs q (by rw [leadVs_len]; exact this) (by rw [leadVs_len]; exact h)]
  exact hq
theorem XLead.leadIn {w : World} {b o : Nat} {xs : List Value} {d : LeadD} {u1 u2 u3 u4 : Value} (h : BoxV w b xs) (hx : XLead xs o d u1 u2 u3 u4) : LeadIn w b o d u1 u2 u3 u4 := fun q v hq => h.cell _ _ (hx q v hq)
/-- The first k leads stand in the block's cells xs, their lists in ranges of blocks. -/
def LeadsTo (cut : Nat → Nat) (w : World) (xs : List Value) (L : List LeadD) (k : Nat) : Prop := ∀ j (h : j < L.length), j < k → ∃ u1 u2 u3 u4, XLead xs (j * 16) L[j] u1 u2 u3 u4 ∧ LeadC (cut j) (cut (j + 1)) w L[j] u1 u2 u3 u4
theorem LeadsTo.kept {lo hi k : Nat} {cut : Nat → Nat} {w w' : World} {xs : List Value} {L : List LeadD} (h : LeadsTo cut w xs L k) (c : CutOk lo k hi cut) (s : Stood lo hi w w') : LeadsTo cut w' xs L k := fun j hj hk => by
  obtain ⟨u1, u2, u3, u4, a, b⟩ := h j hj hk
  exact ⟨u1, u2, u3, u4, a, b.kept (s.within (c.low (by omega)) (c.high (by omega)))⟩
theorem LeadsTo.put {g k e : Nat} {cut : Nat → Nat} {w : World} {xs : List Value} {L : List LeadD} {u1 u2 u3 u4 : Value} (h : LeadsTo cut w xs L k) (c : CutOk (g + 1) k w.heap.size cut) (hk : k < L.length) (hl : xs.length = L.length * 16) (he : e ≤ w.heap.size) (hf : LeadC (cut k) e w L[k] u1 u2 u3 u4) :
    LeadsTo (cutTo cut k e) (w.setCells g (k * 16) (leadVs L[k] u1 u2 u3 u4)) (putL xs (k * 16) (leadVs L[k] u1 u2 u3 u4)) L (k + 1) := by
  have hs : Stood (g + 1) w.heap.size w (w.setCells g (k * 16) (leadVs L[k] u1 u2 u3 u4)) := (ins_puts (lo := g) (hi := g + 1) (Nat.le_refl g) (Nat.lt_succ_self g) (leadVs L[k] u1 u2 u3 u4) (k * 16) w).stood (Nat.le_refl _) (.inr (Nat.le_refl _))
  intro j hj hjk
  by_cases ej : j = k
  · subst ej
    rw [cutTo_old (Nat.le_refl _), cutTo_new]
    exact ⟨u1, u2, u3, u4, XLead.put (by omega), hf.kept (hs.within (c.low (Nat.le_refl _)) he)⟩
  · obtain ⟨v1, v2, v3, v4, a, b⟩ := h j hj (by omega)
    rw [cutTo_old (by omega), cutTo_old (by omega)]
    exact ⟨v1, v2, v3, v4, a.put_other (leadVs_len _ _ _ _ _) (by omega), b.kept (hs.within (c.low (by omega)) (c.high (by omega)))⟩
theorem setCells_lead (w : World) (g o : Nat) (d : LeadD) (u1 u2 u3 u4 : Value) :
    w.setCells g o (leadVs d u1 u2 u3 u4) = ((((((((((((((((w.setCell ⟨g, o, none⟩ (.int .i64 d.rp)).setCell ⟨g, o + 1, none⟩ (.int .i64 d.no)).setCell ⟨g, o + 2, none⟩ (.int .i64 d.bl)).setCell ⟨g, o + 3, none⟩ (.int .i64 d.ph)).setCell ⟨g, o + 4, none⟩ (.int .i64 d.k)).setCell ⟨g, o + 5, none⟩ (.int .i64 d.i)).setCell ⟨g, o + 6, none⟩ (.int .i64 d.f)).setCell ⟨g, o + 7, none⟩ (.int .i64 d.t)).setCell ⟨g, o + 8, none⟩ (.int .i64 d.a)).setCell ⟨g, o + 9, none⟩ (.int .i64 d.s1)).setCell ⟨g, o + 10, none⟩ u1).setCell ⟨g, o + 11, none⟩ (.int .i64 d.s2)).setCell ⟨g, o + 12, none⟩ u2).setCell ⟨g, o + 13, none⟩ (.bool d.sm)).setCell ⟨g, o + 14, none⟩ u3).setCell ⟨g, o + 15, none⟩ u4) := rfl
theorem Try.infoLead : (Try.prog.info? 69).map (fun i => (i.zero, i.size, i.bytes)) = some (some (.agg #[.int .i64 0, .int .i64 0, .int .i64 0, .int .i64 0, .int .i64 0, .int .i64 0, .int .i64 0, .int .i64 0, .int .i64 0, .int .i64 0, .slice none 0 0, .int .i64 0, .slice none 0 0, .bool false, .slice none 0 0, .slice none 0 0]), 16, 192) := by kernel_rfl
end Go.Proofs.Ytbffkidkfannhaa

namespace Go.Proofs.Ytbffkidkfannhaa
open Go.RowKit
set_option linter.unusedVariables false

/-- v is a slice of leads in a block from lo on that may be written, their lists in blocks behind it; all below hi. -/
def LeadzF (lo hi : Nat) (w : World) (v : Value) (L : List LeadD) : Prop :=
  ∃ g xs cut, lo ≤ g ∧ v = .slice (some ⟨g, 0, none⟩) L.length L.length ∧ L.length ≤ maxLen ∧ BoxV w g xs ∧ xs.length = L.length * 16 ∧ CutOk (g + 1) L.length hi cut ∧ LeadsTo cut w xs L L.length
theorem LeadzF.reads {lo hi : Nat} {w : World} {v : Value} {L : List LeadD} (h : LeadzF lo hi w v L) : Leadz w v L := by
  obtain ⟨g, xs, cut, _, rfl, hm, hb, _, _, hc⟩ := h
  refine ⟨some ⟨g, 0, none⟩, _, rfl, hm, ⟨Nat.le_refl _, hm, fun h => by cases h⟩, fun _ => ⟨g, 0, rfl, fun j hj => ?_⟩⟩
  obtain ⟨u1, u2, u3, u4, a, b⟩ := hc j hj hj
  exact ⟨u1, u2, u3, u4, by rw [Nat.zero_add]; exact a.leadIn hb, b.reads⟩
theorem LeadzF.kept {lo hi : Nat} {w w' : World} {v : Value} {L : List LeadD} (h : LeadzF lo hi w v L) (s : Stood lo hi w w') : LeadzF lo hi w' v L := by
  obtain ⟨g, xs, cut, hg, hv, hm, hb, hl, hk, hc⟩ := h
  have hgh : g + 1 ≤ hi := Nat.le_trans hk.lo (hk.high (Nat.zero_le _))
  exact ⟨g, xs, cut, hg, hv, hm, hb.kept s hg hgh, hl, hk, hc.kept hk (s.within (by omega) (Nat.le_refl _))⟩
theorem LeadzF.more {lo lo' hi hi' : Nat} {w : World} {v : Value} {L : List LeadD} (h : LeadzF lo hi w v L) (h1 : lo' ≤ lo) (h2 : hi ≤ hi') : LeadzF lo' hi' w v L := by
  obtain ⟨g, xs, cut, hg, hv, hm, hb, hl, hk, hc⟩ := h
  exact ⟨g, xs, cut, Nat.le_trans h1 hg, hv, hm, hb, hl, hk.more (Nat.le_refl _) h2, hc⟩
theorem LeadzF.form {lo hi : Nat} {w : World} {v : Value} {L : List LeadD} (h : LeadzF lo hi w v L) : ∃ a c, v = .slice a L.length c := by
  obtain ⟨g, _, _, _, hv, _⟩ := h
  exact ⟨_, _, hv⟩
/-- Leads in new memory come back, nothing that was there turned. -/
def NewLeadS (L : List LeadD) (w : World) (e : Ending) (w' : World) : Prop := ∃ v, e = .returned v ∧ LeadzF w.heap.size w'.heap.size w' v L ∧ Ext w w'
theorem leadz_of {w : World} {g n : Nat} {xs : List Value} {L : List LeadD} {cut : Nat → Nat} (hb : BoxV w g xs) (hn : n = L.length) (hm : n ≤ maxLen) (hl : xs.length = L.length * 16) (hk : CutOk (g + 1) n w.heap.size cut) (h : LeadsTo cut w xs L n) : LeadzF g w.heap.size w (.slice (some ⟨g, 0, none⟩) n n) L := by
  subst hn
  exact ⟨g, xs, cut, Nat.le_refl _, rfl, hm, hb, hl, hk, h⟩

set_option maxHeartbeats 8000000 in
set_option maxRecDepth 100000 in
theorem toLeadS_any (u : Value) (L : List LeadD) (w : World) (hu : Leadz w u L) (hs : bulkL L ≤ 549755813888) :
    Calls Try.prog 30 #[u] w (NewLeadS L w) := by
  obtain ⟨au, cu, rfl, hlu, _, hcu⟩ := hu
  unfold maxLen at hlu
  have hL : L.length ≤ 549755813888 := by unfold bulkL at hs; omega
  obtain ⟨i0, hi, hz0, hz1, hz2⟩ := info_parts Try.infoLead
  have HS := Lib.hid hs
  clear hs
  go_enter Try.func30, Try.ntmps30
  go_wp2_with (at_make; refine wpList_make_full _ rfl _ _ 33 rfl w.heap.size 69 i0 _ 16 Try.underlying33 hi hz0 hz1 _ _ _ _ L.length rfl rfl rfl rfl ?c1 ?c2 ?c3 ?_)
  case c1 => rw [hz2]; omega
  case c2 => unfold maxLen; omega
  case c3 => simp
  intro w1 ho1 hg1
  have hx1 : Ext w w1 := ext_of_grown hg1
  have hsz : w.heap.size < w1.heap.size := by
    rcases ho1.2 with ⟨h, _⟩ | ⟨g, cap, cur, h, hb, hg, _⟩
    · cases h
    · simp only [Value.slice.injEq, Option.some.injEq, Addr.mk.injEq, and_true, true_and] at h
      obtain ⟨rfl, _⟩ := h
      exact (Array.getElem?_eq_some_iff.1 hg).1
  obtain ⟨xs0, hxs⟩ : ∃ xs, xs = (madeCells #[.int .i64 0, .int .i64 0, .int .i64 0, .int .i64 0, .int .i64 0, .int .i64 0, .int .i64 0, .int .i64 0, .int .i64 0, .int .i64 0, .slice none 0 0, .int .i64 0, .slice none 0 0, .bool false, .slice none 0 0, .slice none 0 0] (L.length * 16)).toList := ⟨_, rfl⟩
  rw [← hxs] at ho1
  have hlx : xs0.length = L.length * 16 := ho1.1
  have hbx : BoxV w1 w.heap.size xs0 := ⟨fun j v hj => by
    rw [ho1.cellAt _ (by have := (List.getElem?_eq_some_iff.1 hj).1; omega)]; exact hj, fun j _ => ho1.frozenAt j, hsz⟩
  clear hg1 hz0 hz1 hz2 hi hxs ho1 hsz
  have HBX := Lib.hid hbx
  clear hbx
  go_wp2
  go_loopw [4] (fun i wr => ∃ (k : Nat) (xs : List Value) (cut : Nat → Nat), k ≤ L.length ∧ i = .int .i64 k ∧ Hid (BoxV wr w.heap.size xs) ∧ xs.length = L.length * 16 ∧ Hid (CutOk (w.heap.size + 1) k wr.heap.size cut) ∧ Hid (LeadsTo cut wr xs L k) ∧ Ext w wr) (fun i _ => L.length - (intOf i).toNat)
  case atStart => exact ⟨0, xs0, _, Nat.zero_le _, rfl, HBX, hlx, Lib.hid (CutOk.start HBX.out.lt (Nat.le_refl _)), Lib.hid (fun j _ h => by omega), hx1⟩
  case round =>
    clear hx1 HBX hlx
    obtain ⟨k, xs, cut, hk, rfl, hB, hl, hC, hT, hx⟩ := hrel
    by_cases hlt : k < L.length
    · obtain ⟨bu, ou, rfl, du⟩ := hcu (by omega)
      obtain ⟨y1, y2, y3, y4, hy, iy⟩ := du k hlt
      obtain ⟨d, hd⟩ : ∃ d, d = L[k] := ⟨_, rfl⟩
      have hbk : bulkD d ≤ 1099511627776 := by rw [hd]; have := bulkL_lead hlt; have := HS.out; omega
      rw [← hd] at hy iy
      have hy := hy.ext hx
      have IY := Lib.hid (iy.ext hx)
      have HD := Lib.hid hd
      obtain ⟨c0, c1, c2, c3, c4, c5, c6, c7, c8, c9, c10, c11, c12, c13, c14, c15⟩ := leadIn_cells hy
      clear hcu du hy iy hd
      go_wp2_with fail
      refine (toLead_any d y1 y2 y3 y4 _ IY.out hbk).mono ?_
      rintro e w2 ⟨z1, z2, z3, z4, rfl, f2, x2⟩
      clear c0 c1 c2 c3 c4 c5 c6 c7 c8 c9 c10 c11 c12 c13 c14 c15
      have hb2 := hB.out.ext x2
      have HT2 := Lib.hid (hT.out.kept hC.out ((Stood.of_ext x2 (Nat.le_refl _)).within (Nat.le_refl _) (Nat.le_refl _)))
      have HC2 := Lib.hid (hC.out.more (Nat.le_refl _) x2.size)
      have HC3 := Lib.hid (hC.out.to x2.size)
      have F2 := Lib.hid (f2.more (hC.out.hi) (Nat.le_refl _))
      have HB2 := Lib.hid hb2
      have g0 : ∃ v, w2.cell? ⟨w.heap.size, k * 16, none⟩ = some v := ⟨_, hb2.cell (k * 16) _ (List.getElem?_eq_getElem (by omega))⟩
      obtain ⟨o0, g0⟩ := g0
      have n0 := hb2.free (k * 16) (by omega)
      have g1 : ∃ v, w2.cell? ⟨w.heap.size, k * 16 + 1, none⟩ = some v := ⟨_, hb2.cell (k * 16 + 1) _ (List.getElem?_eq_getElem (by omega))⟩
      obtain ⟨o1, g1⟩ := g1
      have n1 := hb2.free (k * 16 + 1) (by omega)
      have g2 : ∃ v, w2.cell? ⟨w.heap.size, k * 16 + 2, none⟩ = some v := ⟨_, hb2.cell (k * 16 + 2) _ (List.getElem?_eq_getElem (by omega))⟩
      obtain ⟨o2, g2⟩ := g2
      have n2 := hb2.free (k * 16 + 2) (by omega)
      have g3 : ∃ v, w2.cell? ⟨w.heap.size, k * 16 + 3, none⟩ = some v := ⟨_, hb2.cell (k * 16 + 3) _ (List.getElem?_eq_getElem (by omega))⟩
      obtain ⟨o3, g3⟩ := g3
      have n3 := hb2.free (k * 16 + 3) (by omega)
      have g4 : ∃ v, w2.cell? ⟨w.heap.size, k * 16 + 4, none⟩ = some v := ⟨_, hb2.cell (k * 16 + 4) _ (List.getElem?_eq_getElem (by omega))⟩
      obtain ⟨o4, g4⟩ := g4
      have n4 := hb2.free (k * 16 + 4) (by omega)
      have g5 : ∃ v, w2.cell? ⟨w.heap.size, k * 16 + 5, none⟩ = some v := ⟨_, hb2.cell (k * 16 + 5) _ (List.getElem?_eq_getElem (by omega))⟩
      obtain ⟨o5, g5⟩ := g5
      have n5 := hb2.free (k * 16 + 5) (by omega)
      have g6 : ∃ v, w2.cell? ⟨w.heap.size, k * 16 + 6, none⟩ = some v := ⟨_, hb2.cell (k * 16 + 6) _ (List.getElem?_eq_getElem (by omega))⟩
      obtain ⟨o6, g6⟩ := g6
      have n6 := hb2.free (k * 16 + 6) (by omega)
      have g7 : ∃ v, w2.cell? ⟨w.heap.size, k * 16 + 7, none⟩ = some v := ⟨_, hb2.cell (k * 16 + 7) _ (List.getElem?_eq_getElem (by omega))⟩
      obtain ⟨o7, g7⟩ := g7
      have n7 := hb2.free (k * 16 + 7) (by omega)
      have g8 : ∃ v, w2.cell? ⟨w.heap.size, k * 16 + 8, none⟩ = some v := ⟨_, hb2.cell (k * 16 + 8) _ (List.getElem?_eq_getElem (by omega))⟩
      obtain ⟨o8, g8⟩ := g8
      have n8 := hb2.free (k * 16 + 8) (by omega)
      have g9 : ∃ v, w2.cell? ⟨w.heap.size, k * 16 + 9, none⟩ = some v := ⟨_, hb2.cell (k * 16 + 9) _ (List.getElem?_eq_getElem (by omega))⟩
      obtain ⟨o9, g9⟩ := g9
      have n9 := hb2.free (k * 16 + 9) (by omega)
      have g10 : ∃ v, w2.cell? ⟨w.heap.size, k * 16 + 10, none⟩ = some v := ⟨_, hb2.cell (k * 16 + 10) _ (List.getElem?_eq_getElem (by omega))⟩
      obtain ⟨o10, g10⟩ := g10
      have n10 := hb2.free (k * 16 + 10) (by omega)
      have g11 : ∃ v, w2.cell? ⟨w.heap.size, k * 16 + 11, none⟩ = some v := ⟨_, hb2.cell (k * 16 + 11) _ (List.getElem?_eq_getElem (by omega))⟩
      obtain ⟨o11, g11⟩ := g11
      have n11 := hb2.free (k * 16 + 11) (by omega)
      have g12 : ∃ v, w2.cell? ⟨w.heap.size, k * 16 + 12, none⟩ = some v := ⟨_, hb2.cell (k * 16 + 12) _ (List.getElem?_eq_getElem (by omega))⟩
      obtain ⟨o12, g12⟩ := g12
      have n12 := hb2.free (k * 16 + 12) (by omega)
      have g13 : ∃ v, w2.cell? ⟨w.heap.size, k * 16 + 13, none⟩ = some v := ⟨_, hb2.cell (k * 16 + 13) _ (List.getElem?_eq_getElem (by omega))⟩
      obtain ⟨o13, g13⟩ := g13
      have n13 := hb2.free (k * 16 + 13) (by omega)
      have g14 : ∃ v, w2.cell? ⟨w.heap.size, k * 16 + 14, none⟩ = some v := ⟨_, hb2.cell (k * 16 + 14) _ (List.getElem?_eq_getElem (by omega))⟩
      obtain ⟨o14, g14⟩ := g14
      have n14 := hb2.free (k * 16 + 14) (by omega)
      have g15 : ∃ v, w2.cell? ⟨w.heap.size, k * 16 + 15, none⟩ = some v := ⟨_, hb2.cell (k * 16 + 15) _ (List.getElem?_eq_getElem (by omega))⟩
      obtain ⟨o15, g15⟩ := g15
      have n15 := hb2.free (k * 16 + 15) (by omega)
      obtain ⟨_, _, _, _, _, _, _, q1, q2, q3, q4⟩ := f2
      obtain ⟨a1, k1, e1⟩ := q1.fresh.form
      obtain ⟨a2, k2, e2⟩ := q2.fresh.form
      obtain ⟨a3, k3, e3⟩ := q3.fresh.form
      obtain ⟨a4, k4, e4⟩ := q4.fresh.form
      have hxx := hx.trans x2
      clear q1 q2 q3 q4 hb2 hx x2 hB hT hC
      subst e1 e2 e3 e4
      go_wp2
      go_roundw
      case rel =>
        refine ⟨k + 1, putL xs (k * 16) (leadVs d (.slice a1 d.l1.length k1) (.slice a2 d.l2.length k2) (.slice a3 d.who.length k3) (.slice a4 d.seen.length k4)), cutTo cut k w2.heap.size, by omega, by go_num, Lib.hid ?_, by rw [putL_len]; exact hl, Lib.hid ?_, Lib.hid ?_, ?_⟩
        · rw [← setCells_lead]
          exact boxV_puts _ _ _ _ HB2.out (by rw [leadVs_len]; omega)
        · rw [← setCells_lead]
          exact HC3.out.more (Nat.le_refl _) (ins_puts (lo := w.heap.size) (hi := w.heap.size + 1) (Nat.le_refl _) (Nat.lt_succ_self _) _ _ _).size
        · rw [← setCells_lead]
          have hd := HD.out
          subst hd
          exact HT2.out.put HC2.out hlt hl (Nat.le_refl _) F2.out
        · rw [← setCells_lead]
          exact (ins_puts (lo := w.heap.size) (hi := w.heap.size + 1) (Nat.le_refl _) (Nat.lt_succ_self _) _ _ _).ext hxx (Nat.le_refl _)
      case measure => simp [intOf]; omega
    · obtain rfl : k = L.length := by omega
      go_wp2
      go_ret
      exact ⟨_, rfl, leadz_of hB.out rfl (by unfold maxLen; omega) hl hC.out hT.out, hx⟩
end Go.Proofs.Ytbffkidkfannhaa

namespace Go.Proofs.Ytbffkidkfannhaa
open Go.RowKit
set_option linter.unusedVariables false

/-- A replica that reads so comes back, nothing that was there turned. -/
def NewRep (me n : Int) (T : List (List RowD)) (L : List LeadD) (w : World) (e : Ending) (w' : World) : Prop := ∃ u v, e = .returned (.agg #[.int .i64 me, .int .i64 n, u, v]) ∧ Rowzz w' u T ∧ Leadz w' v L ∧ Ext w w'
/-- A table and leads in ranges of blocks. -/
def RepC (lo hi : Nat) (w : World) (u v : Value) (T : List (List RowD)) (L : List LeadD) : Prop := ∃ c, lo ≤ c ∧ c ≤ hi ∧ FreshT lo c w u T ∧ LeadzF c hi w v L
theorem RepC.kept {lo hi : Nat} {w w' : World} {u v : Value} {T : List (List RowD)} {L : List LeadD} (h : RepC lo hi w u v T L) (s : Stood lo hi w w') : RepC lo hi w' u v T L := by
  obtain ⟨c, h1, h2, f1, f2⟩ := h
  exact ⟨c, h1, h2, f1.kept (s.within (Nat.le_refl _) h2), f2.kept (s.within h1 (Nat.le_refl _))⟩
theorem RepC.more {lo lo' hi hi' : Nat} {w : World} {u v : Value} {T : List (List RowD)} {L : List LeadD} (h : RepC lo hi w u v T L) (p : lo' ≤ lo) (q : hi ≤ hi') : RepC lo' hi' w u v T L := by
  obtain ⟨c, h1, h2, f1, f2⟩ := h
  exact ⟨c, by omega, by omega, f1.more p (Nat.le_refl _), f2.more (Nat.le_refl _) q⟩
/-- The same, in new memory. -/
def NewRepF (me n : Int) (T : List (List RowD)) (L : List LeadD) (w : World) (e : Ending) (w' : World) : Prop := ∃ u v, e = .returned (.agg #[.int .i64 me, .int .i64 n, u, v]) ∧ RepC w.heap.size w'.heap.size w' u v T L ∧ Ext w w'
set_option maxHeartbeats 4000000 in
set_option maxRecDepth 100000 in
theorem toReplica_new (me n : Int) (u v : Value) (T : List (List RowD)) (L : List LeadD) (w : World) (hu : Rowzz w u T) (hv : Leadz w v L) (hs : bulkT T ≤ 1099511627776) (hl : bulkL L ≤ 549755813888) :
    Calls Try.prog 8 #[.agg #[.int .i64 me, .int .i64 n, u, v]] w (NewRepF me n T L w) := by
  have HT := Lib.hid hs
  have HL := Lib.hid hl
  clear hs hl
  obtain ⟨w0, hw0⟩ : ∃ w0, w0 = ((w.alloc (.cells #[.int .i64 me, .int .i64 n, u, v] 27)).alloc (.cells #[.int .i64 0, .int .i64 0, .slice none 0 0, .slice none 0 0] 35)).alloc (.cells #[.int .i64 me, .int .i64 0, .slice none 0 0, .slice none 0 0] 35) := ⟨_, rfl⟩
  have x0 : Ext w w0 := by rw [hw0]; exact ((Ext.alloc1 _ _).alloc _).alloc _
  have s0 : w0.heap.size = w.heap.size + 3 := by rw [hw0]; simp
  have a0 : BoxV w0 w.heap.size [.int .i64 me, .int .i64 n, u, v] := by rw [hw0]; exact (boxV_new w [.int .i64 me, .int .i64 n, u, v] 27).ext ((Ext.alloc1 _ _).alloc _)
  have r0 : BoxV w0 (w.heap.size + 1) [.int .i64 0, .int .i64 0, .slice none 0 0, .slice none 0 0] := by
    have h := (boxV_new (w.alloc (.cells #[.int .i64 me, .int .i64 n, u, v] 27)) [.int .i64 0, .int .i64 0, .slice none 0 0, .slice none 0 0] 35).ext (Ext.alloc1 _ (.cells #[.int .i64 me, .int .i64 0, .slice none 0 0, .slice none 0 0] 35))
    rw [World.size_alloc] at h
    rw [hw0]; exact h
  have o0 : BoxV w0 (w.heap.size + 1 + 1) [.int .i64 me, .int .i64 0, .slice none 0 0, .slice none 0 0] := by
    have h := boxV_new ((w.alloc (.cells #[.int .i64 me, .int .i64 n, u, v] 27)).alloc (.cells #[.int .i64 0, .int .i64 0, .slice none 0 0, .slice none 0 0] 35)) [.int .i64 me, .int .i64 0, .slice none 0 0, .slice none 0 0] 35
    rw [World.size_alloc, World.size_alloc] at h
    rw [hw0]; exact h
  have HW0 := Lib.hid hw0
  have HA0 := Lib.hid a0
  have HR0 := Lib.hid r0
  have HO0 := Lib.hid o0
  have HX0 := Lib.hid x0
  have HS0 := Lib.hid s0
  have HU := Lib.hid (hu.ext x0)
  have HV := Lib.hid hv
  clear hw0 a0 r0 o0 x0 s0 hu hv
  go_enter Try.func8, Try.ntmps8
  go_wp2_with fail
  rw [← HW0.out]
  refine (toTable_any _ _ _ _ HU.out HT.out).mono ?_
  rintro e w1 ⟨y1, rfl, f1, x1⟩
  have HA1 := Lib.hid (HA0.out.ext x1)
  have HR1 := Lib.hid (HR0.out.ext x1)
  have HO1 := Lib.hid (HO0.out.ext x1)
  have HX1 := Lib.hid (HX0.out.trans x1)
  have HS1 : Hid (w.heap.size + 3 ≤ w1.heap.size) := Lib.hid (by have := x1.size; have := HS0.out; omega)
  rw [HS0.out] at f1
  obtain ⟨av, cv, rfl⟩ := f1.form
  have F1 := Lib.hid f1
  clear x1 f1 HA0 HR0 HO0 HX0 HS0 HW0 HU
  have a0 := (HA1.out).cell 0 _ rfl
  have a1 := (HA1.out).cell 1 _ rfl
  have a2 := (HA1.out).cell 2 _ rfl
  have a3 := (HA1.out).cell 3 _ rfl
  have o0 := (HO1.out).cell 0 _ rfl
  have o1 := (HO1.out).cell 1 _ rfl
  have o2 := (HO1.out).cell 2 _ rfl
  have o3 := (HO1.out).cell 3 _ rfl
  have z0 := (HO1.out).free 0 (of_decide_eq_true rfl)
  have z1 := (HO1.out).free 1 (of_decide_eq_true rfl)
  have z2 := (HO1.out).free 2 (of_decide_eq_true rfl)
  have z3 := (HO1.out).free 3 (of_decide_eq_true rfl)
  go_wp2_with fail
  have k1 : Ins w.heap.size (w.heap.size + 3) w1 ((w1.setCell ⟨w.heap.size + 1 + 1, 1, none⟩ (.int .i64 n)).setCell ⟨w.heap.size + 1 + 1, 2, none⟩ (.slice av T.length cv)) := by
    iterate 2 refine Ins.trans ?_ (ins_set (by omega) (by omega))
    exact Ins.refl _ _ _
  have ha : BoxV ((w1.setCell ⟨w.heap.size + 1 + 1, 1, none⟩ (.int .i64 n)).setCell ⟨w.heap.size + 1 + 1, 2, none⟩ (.slice av T.length cv)) w.heap.size [.int .i64 me, .int .i64 n, u, v] := by
    iterate 2 refine BoxV.other ?_ _ _ (by dsimp only; omega)
    exact HA1.out
  have hr : BoxV ((w1.setCell ⟨w.heap.size + 1 + 1, 1, none⟩ (.int .i64 n)).setCell ⟨w.heap.size + 1 + 1, 2, none⟩ (.slice av T.length cv)) (w.heap.size + 1) [.int .i64 0, .int .i64 0, .slice none 0 0, .slice none 0 0] := by
    iterate 2 refine BoxV.other ?_ _ _ (by dsimp only; omega)
    exact HR1.out
  have ho : BoxV ((w1.setCell ⟨w.heap.size + 1 + 1, 1, none⟩ (.int .i64 n)).setCell ⟨w.heap.size + 1 + 1, 2, none⟩ (.slice av T.length cv)) (w.heap.size + 1 + 1) [.int .i64 me, .int .i64 n, .slice av T.length cv, .slice none 0 0] := (HO1.out.set 1 (.int .i64 n) (of_decide_eq_true rfl)).set 2 (.slice av T.length cv) (of_decide_eq_true rfl)
  have hx : Ext w ((w1.setCell ⟨w.heap.size + 1 + 1, 1, none⟩ (.int .i64 n)).setCell ⟨w.heap.size + 1 + 1, 2, none⟩ (.slice av T.length cv)) := k1.ext HX1.out (Nat.le_refl _)
  have hs : w.heap.size + 3 ≤ (((w1.setCell ⟨w.heap.size + 1 + 1, 1, none⟩ (.int .i64 n)).setCell ⟨w.heap.size + 1 + 1, 2, none⟩ (.slice av T.length cv))).heap.size := Nat.le_trans HS1.out k1.size
  have hf := F1.out.kept (k1.stood (Nat.le_refl _) (.inr (Nat.le_refl _)))
  have hb1 : w1.heap.size ≤ (((w1.setCell ⟨w.heap.size + 1 + 1, 1, none⟩ (.int .i64 n)).setCell ⟨w.heap.size + 1 + 1, 2, none⟩ (.slice av T.length cv))).heap.size := k1.size
  clear a0 a1 a2 a3 o0 o1 o2 o3 z0 z1 z2 z3
  obtain ⟨wc, hwc⟩ : ∃ wc, wc = ((w1.setCell ⟨w.heap.size + 1 + 1, 1, none⟩ (.int .i64 n)).setCell ⟨w.heap.size + 1 + 1, 2, none⟩ (.slice av T.length cv)) := ⟨_, rfl⟩
  rw [← hwc] at ha hr ho hx hs hf hb1 ⊢
  clear hwc k1
  refine (toLeadS_any _ L _ (HV.out.ext hx) HL.out).mono ?_
  rintro e w2 ⟨y2, rfl, f2, x2⟩
  have HR2 := Lib.hid (hr.ext x2)
  have HO2 := Lib.hid (ho.ext x2)
  have HX2 := Lib.hid (hx.trans x2)
  have HF := Lib.hid (hf.kept ((Ins.of_ext (lo := w1.heap.size) (hi := 0) x2).stood hb1 (.inl (Nat.le_refl _))))
  obtain ⟨al, cl, rfl⟩ := f2.form
  have G := Lib.hid (f2.more hb1 (Nat.le_refl _))
  have hb2 : w1.heap.size ≤ w2.heap.size := Nat.le_trans hb1 x2.size
  clear ha hr ho hx hs hf hb1 x2 f2 HA1 HR1 HO1 HX1 F1 HV
  have o0 := (HO2.out).cell 0 _ rfl
  have o1 := (HO2.out).cell 1 _ rfl
  have o2 := (HO2.out).cell 2 _ rfl
  have o3 := (HO2.out).cell 3 _ rfl
  have z0 := (HO2.out).free 0 (of_decide_eq_true rfl)
  have z1 := (HO2.out).free 1 (of_decide_eq_true rfl)
  have z2 := (HO2.out).free 2 (of_decide_eq_true rfl)
  have z3 := (HO2.out).free 3 (of_decide_eq_true rfl)
  have r0 := (HR2.out).cell 0 _ rfl
  have r1 := (HR2.out).cell 1 _ rfl
  have r2 := (HR2.out).cell 2 _ rfl
  have r3 := (HR2.out).cell 3 _ rfl
  have y_0 := (HR2.out).free 0 (of_decide_eq_true rfl)
  have y_1 := (HR2.out).free 1 (of_decide_eq_true rfl)
  have y_2 := (HR2.out).free 2 (of_decide_eq_true rfl)
  have y_3 := (HR2.out).free 3 (of_decide_eq_true rfl)
  go_wp2
  clear o0 o1 o2 o3 z0 z1 z2 z3 r0 r1 r2 r3 y_0 y_1 y_2 y_3
  have kz : Ins w.heap.size (w.heap.size + 3) w2 (((((w2.setCell ⟨w.heap.size + 1 + 1, 3, none⟩ (.slice al L.length cl)).setCell ⟨w.heap.size + 1, 0, none⟩ (.int .i64 me)).setCell ⟨w.heap.size + 1, 1, none⟩ (.int .i64 n)).setCell ⟨w.heap.size + 1, 2, none⟩ (.slice av T.length cv)).setCell ⟨w.heap.size + 1, 3, none⟩ (.slice al L.length cl)) := by
    iterate 5 refine Ins.trans ?_ (ins_set (by omega) (by omega))
    exact Ins.refl _ _ _
  have hr : BoxV (((((w2.setCell ⟨w.heap.size + 1 + 1, 3, none⟩ (.slice al L.length cl)).setCell ⟨w.heap.size + 1, 0, none⟩ (.int .i64 me)).setCell ⟨w.heap.size + 1, 1, none⟩ (.int .i64 n)).setCell ⟨w.heap.size + 1, 2, none⟩ (.slice av T.length cv)).setCell ⟨w.heap.size + 1, 3, none⟩ (.slice al L.length cl)) (w.heap.size + 1) [.int .i64 me, .int .i64 n, .slice av T.length cv, .slice al L.length cl] := (BoxV.set (BoxV.set (BoxV.set (BoxV.set (BoxV.other HR2.out _ _ (by dsimp only; omega)) 0 (.int .i64 me) (of_decide_eq_true rfl)) 1 (.int .i64 n) (of_decide_eq_true rfl)) 2 (.slice av T.length cv) (of_decide_eq_true rfl)) 3 (.slice al L.length cl) (of_decide_eq_true rfl))
  obtain ⟨wz, hwz⟩ : ∃ wz, wz = (((((w2.setCell ⟨w.heap.size + 1 + 1, 3, none⟩ (.slice al L.length cl)).setCell ⟨w.heap.size + 1, 0, none⟩ (.int .i64 me)).setCell ⟨w.heap.size + 1, 1, none⟩ (.int .i64 n)).setCell ⟨w.heap.size + 1, 2, none⟩ (.slice av T.length cv)).setCell ⟨w.heap.size + 1, 3, none⟩ (.slice al L.length cl)) := ⟨_, rfl⟩
  rw [← hwz] at kz hr ⊢
  clear hwz
  have r0 := (hr).cell 0 _ rfl
  have r1 := (hr).cell 1 _ rfl
  have r2 := (hr).cell 2 _ rfl
  have r3 := (hr).cell 3 _ rfl
  refine bodyPost_ret (v := .agg #[.int .i64 me, .int .i64 n, .slice av T.length cv, .slice al L.length cl]) (by simp [results, Try.results8, go_sem, r0, r1, r2, r3]) rfl ⟨_, _, rfl, ?_, kz.ext HX2.out (Nat.le_refl _)⟩
  exact ⟨w1.heap.size, Nat.le_trans (Nat.le_add_right _ 3) HS1.out, Nat.le_trans hb2 kz.size, (HF.out.kept (kz.stood hb2 (.inr (Nat.le_refl _)))).more (Nat.le_add_right _ _) (Nat.le_refl _), (G.out.kept (kz.stood (Nat.le_refl _) (.inr HS1.out))).more (Nat.le_refl _) kz.size⟩
theorem toReplica_any (me n : Int) (u v : Value) (T : List (List RowD)) (L : List LeadD) (w : World) (hu : Rowzz w u T) (hv : Leadz w v L) (hs : bulkT T ≤ 1099511627776) (hl : bulkL L ≤ 549755813888) :
    Calls Try.prog 8 #[.agg #[.int .i64 me, .int .i64 n, u, v]] w (NewRep me n T L w) :=
  (toReplica_new me n u v T L w hu hv hs hl).mono (by rintro e w' ⟨y, z, rfl, ⟨_, _, _, h1, h2⟩, h3⟩; exact ⟨y, z, rfl, h1.rows, h2.reads, h3⟩)
end Go.Proofs.Ytbffkidkfannhaa

namespace Go.Proofs.Ytbffkidkfannhaa
open Go.RowKit
set_option linter.unusedVariables false

/-- A world that is W with new blocks. -/
def ExtOf (W : World) := {w' : World // Ext W w'}
instance (W : World) : Nonempty (ExtOf W) := ⟨⟨W, Ext.refl W⟩⟩
theorem ExtOf.cell {W : World} (e : ExtOf W) {a : Addr} {v : Value} (h : W.cell? a = some v) : e.1.cell? a = some v := Ext.cell e.2 h
theorem wp_region_ext_lit {P : Program} {id : Nat} {Q : Exit → Act → World → Prop} {a : Act} {w : World} {l : List Oper} (hm : P.follows .mixedOrders = true) (hB : Region.lexB .any l.toArray = true)
    (h : wpQuiet P l.toArray (fun w' => ∃ e : ExtOf w, w' = e.1) (fun a' => ∀ w', (∃ e : ExtOf w, w' = e.1) → Q .normal a' w') l a) : (Code.region id l.toArray true).wp P Q a w :=
  wp_region_quiet (C := fun w' => ∃ e : ExtOf w, w' = e.1) hm hB ⟨⟨w.drew, Ext.drew (Ext.refl w)⟩, rfl⟩ (by simpa using h)
/-- A callee's contract, met in such a world. -/
theorem Calls.ext_of {P : Program} {f : FuncId} {args : Array Value} {W : World} {v : Value} (e : ExtOf W)
    (h : Calls P f args e.1 fun x w' => x = .returned v ∧ Ext e.1 w') : Calls P f args e.1 fun x w'' => x = .returned v ∧ ∃ e' : ExtOf W, w'' = e'.1 :=
  h.mono fun _ w' ⟨he, hx⟩ => ⟨he, ⟨w', e.2.trans hx⟩, rfl⟩

end Go.Proofs.Ytbffkidkfannhaa

namespace Go.Proofs.Ytbffkidkfannhaa
open Go.RowKit
set_option linter.unusedVariables false

set_option maxHeartbeats 4000000 in
set_option maxRecDepth 100000 in
theorem eqLead_same (d : LeadD) (u1 u2 u3 u4 v1 v2 v3 v4 : Value) (w : World) (hu : LeadL w d u1 u2 u3 u4) (hv : LeadL w d v1 v2 v3 v4) :
    Calls Try.prog 76 #[.agg #[.int .i64 d.rp, .int .i64 d.no, .int .i64 d.bl, .int .i64 d.ph, .int .i64 d.k, .int .i64 d.i, .int .i64 d.f, .int .i64 d.t, .int .i64 d.a, .int .i64 d.s1, u1, .int .i64 d.s2, u2, .bool d.sm, u3, u4], .agg #[.int .i64 d.rp, .int .i64 d.no, .int .i64 d.bl, .int .i64 d.ph, .int .i64 d.k, .int .i64 d.i, .int .i64 d.f, .int .i64 d.t, .int .i64 d.a, .int .i64 d.s1, v1, .int .i64 d.s2, v2, .bool d.sm, v3, v4]] w (BoolExt true w) := by
  obtain ⟨wb, hwb⟩ : ∃ wb, wb = (w.alloc (.cells #[.int .i64 d.rp, .int .i64 d.no, .int .i64 d.bl, .int .i64 d.ph, .int .i64 d.k, .int .i64 d.i, .int .i64 d.f, .int .i64 d.t, .int .i64 d.a, .int .i64 d.s1, u1, .int .i64 d.s2, u2, .bool d.sm, u3, u4] 69)).alloc (.cells #[.int .i64 d.rp, .int .i64 d.no, .int .i64 d.bl, .int .i64 d.ph, .int .i64 d.k, .int .i64 d.i, .int .i64 d.f, .int .i64 d.t, .int .i64 d.a, .int .i64 d.s1, v1, .int .i64 d.s2, v2, .bool d.sm, v3, v4] 69) := ⟨_, rfl⟩
  have xb : Ext w wb := by rw [hwb]; exact (Ext.alloc1 _ _).alloc _
  have hp : BoxV wb w.heap.size (leadVs d u1 u2 u3 u4) := by rw [hwb]; exact (lead_box w 69 d u1 u2 u3 u4).ext (Ext.alloc1 _ _)
  have hq : BoxV wb (w.heap.size + 1) (leadVs d v1 v2 v3 v4) := by
    have h := lead_box (w.alloc (.cells #[.int .i64 d.rp, .int .i64 d.no, .int .i64 d.bl, .int .i64 d.ph, .int .i64 d.k, .int .i64 d.i, .int .i64 d.f, .int .i64 d.t, .int .i64 d.a, .int .i64 d.s1, u1, .int .i64 d.s2, u2, .bool d.sm, u3, u4] 69)) 69 d v1 v2 v3 v4
    rw [World.size_alloc, ← hwb] at h
    exact h
  have HWB := Lib.hid hwb
  have HP := Lib.hid hp
  have HQ := Lib.hid hq
  have HX := Lib.hid xb
  have HU := Lib.hid (hu.ext xb)
  have HV := Lib.hid (hv.ext xb)
  obtain ⟨p0, p1, p2, p3, p4, p5, p6, p7, p8, p9, p10, p11, p12, p13, p14, p15⟩ := lead_cells hp
  obtain ⟨q0, q1, q2, q3, q4, q5, q6, q7, q8, q9, q10, q11, q12, q13, q14, q15⟩ := lead_cells hq
  have n0 : (d.rp != d.rp) = false := by simp
  have n1 : (d.no != d.no) = false := by simp
  have n2 : (d.bl != d.bl) = false := by simp
  have n3 : (d.ph != d.ph) = false := by simp
  have n4 : (d.sm != d.sm) = false := by simp
  rw [hwb] at p0 p1 p2 p3 p4 p5 p6 p7 p8 p9 p10 p11 p12 p13 p14 p15 q0 q1 q2 q3 q4 q5 q6 q7 q8 q9 q10 q11 q12 q13 q14 q15
  clear hu hv xb hp hq hwb
  go_enter Try.func76, Try.ntmps76
  go_wp2_with fail
  rw [← HWB.out]
  refine (eqCmd_same _ _ _ _ _ _).mono ?_
  rintro e w1 ⟨rfl, x1⟩
  have X1 := Lib.hid x1
  clear x1 HWB p0 p1 p2 p3 p4 p5 p6 p7 p8 p9 p10 p11 p12 p13 p14 p15 q0 q1 q2 q3 q4 q5 q6 q7 q8 q9 q10 q11 q12 q13 q14 q15
  obtain ⟨p0, p1, p2, p3, p4, p5, p6, p7, p8, p9, p10, p11, p12, p13, p14, p15⟩ := lead_cells (HP.out.ext X1.out)
  obtain ⟨q0, q1, q2, q3, q4, q5, q6, q7, q8, q9, q10, q11, q12, q13, q14, q15⟩ := lead_cells (HQ.out.ext X1.out)
  go_wp2_with fail
  refine (eqAttr_same _ _ _ d.l1 _ (HU.out.i1.ext X1.out) (HV.out.i1.ext X1.out)).mono ?_
  rintro e w2 ⟨rfl, x2⟩
  have X2 := Lib.hid (X1.out.trans x2)
  clear x2 X1 p0 p1 p2 p3 p4 p5 p6 p7 p8 p9 p10 p11 p12 p13 p14 p15 q0 q1 q2 q3 q4 q5 q6 q7 q8 q9 q10 q11 q12 q13 q14 q15
  obtain ⟨p0, p1, p2, p3, p4, p5, p6, p7, p8, p9, p10, p11, p12, p13, p14, p15⟩ := lead_cells (HP.out.ext X2.out)
  obtain ⟨q0, q1, q2, q3, q4, q5, q6, q7, q8, q9, q10, q11, q12, q13, q14, q15⟩ := lead_cells (HQ.out.ext X2.out)
  go_wp2_with fail
  refine (eqAttr_same _ _ _ d.l2 _ (HU.out.i2.ext X2.out) (HV.out.i2.ext X2.out)).mono ?_
  rintro e w3 ⟨rfl, x3⟩
  have X3 := Lib.hid (X2.out.trans x3)
  clear x3 X2 p0 p1 p2 p3 p4 p5 p6 p7 p8 p9 p10 p11 p12 p13 p14 p15 q0 q1 q2 q3 q4 q5 q6 q7 q8 q9 q10 q11 q12 q13 q14 q15
  obtain ⟨p0, p1, p2, p3, p4, p5, p6, p7, p8, p9, p10, p11, p12, p13, p14, p15⟩ := lead_cells (HP.out.ext X3.out)
  obtain ⟨q0, q1, q2, q3, q4, q5, q6, q7, q8, q9, q10, q11, q12, q13, q14, q15⟩ := lead_cells (HQ.out.ext X3.out)
  go_wp2_with fail
  refine (eqIntS_any _ _ d.who d.who _ (HU.out.i3.ext X3.out) (HV.out.i3.ext X3.out)).mono ?_
  rintro e w4 ⟨rfl, x4⟩
  rw [decide_eq_true rfl]
  have X4 := Lib.hid (X3.out.trans x4)
  clear x4 X3 p0 p1 p2 p3 p4 p5 p6 p7 p8 p9 p10 p11 p12 p13 p14 p15 q0 q1 q2 q3 q4 q5 q6 q7 q8 q9 q10 q11 q12 q13 q14 q15
  obtain ⟨p0, p1, p2, p3, p4, p5, p6, p7, p8, p9, p10, p11, p12, p13, p14, p15⟩ := lead_cells (HP.out.ext X4.out)
  obtain ⟨q0, q1, q2, q3, q4, q5, q6, q7, q8, q9, q10, q11, q12, q13, q14, q15⟩ := lead_cells (HQ.out.ext X4.out)
  go_wp2_with fail
  refine (eqRowS_same _ _ d.seen _ (HU.out.i4.ext X4.out) (HV.out.i4.ext X4.out)).mono ?_
  rintro e w5 ⟨rfl, x5⟩
  have hx := HX.out.trans (X4.out.trans x5)
  clear x5 X4 p0 p1 p2 p3 p4 p5 p6 p7 p8 p9 p10 p11 p12 p13 p14 p15 q0 q1 q2 q3 q4 q5 q6 q7 q8 q9 q10 q11 q12 q13 q14 q15
  go_wp2
  go_ret
  exact ⟨rfl, hx⟩
set_option maxHeartbeats 4000000 in
set_option maxRecDepth 100000 in
theorem eqLeadS_same (u v : Value) (L : List LeadD) (w : World) (hu : Leadz w u L) (hv : Leadz w v L) :
    Calls Try.prog 35 #[u, v] w (BoolExt true w) := by
  obtain ⟨au, cu, rfl, hlu, _, hcu⟩ := hu
  obtain ⟨av, cv, rfl, hlv, _, hcv⟩ := hv
  unfold maxLen at hlu hlv
  have e0 : ((L.length : Int) != (L.length : Int)) = false := by simp
  go_enter Try.func35, Try.ntmps35
  go_wp2
  go_loopw [5] (fun i wr => ∃ k : Nat, k ≤ L.length ∧ i = .int .i64 k ∧ Ext w wr) (fun i _ => L.length - (intOf i).toNat)
  case atStart => exact ⟨0, Nat.zero_le _, rfl, Ext.refl _⟩
  case round =>
    obtain ⟨k, hk, rfl, hx⟩ := hrel
    by_cases hlt : k < L.length
    · obtain ⟨bu, ou, rfl, du⟩ := hcu (by omega)
      obtain ⟨bv, ov, rfl, dv⟩ := hcv (by omega)
      obtain ⟨u1, u2, u3, u4, hx1, ix⟩ := du k hlt
      obtain ⟨v1, v2, v3, v4, hy1, iy⟩ := dv k hlt
      obtain ⟨d, hd⟩ : ∃ d, d = L[k] := ⟨_, rfl⟩
      rw [← hd] at hx1 ix hy1 iy
      obtain ⟨p0, p1, p2, p3, p4, p5, p6, p7, p8, p9, p10, p11, p12, p13, p14, p15⟩ := leadIn_cells (hx1.ext hx)
      obtain ⟨q0, q1, q2, q3, q4, q5, q6, q7, q8, q9, q10, q11, q12, q13, q14, q15⟩ := leadIn_cells (hy1.ext hx)
      have cE : ∀ E : ExtOf wr, Calls Try.prog 76 #[.agg #[.int .i64 d.rp, .int .i64 d.no, .int .i64 d.bl, .int .i64 d.ph, .int .i64 d.k, .int .i64 d.i, .int .i64 d.f, .int .i64 d.t, .int .i64 d.a, .int .i64 d.s1, u1, .int .i64 d.s2, u2, .bool d.sm, u3, u4], .agg #[.int .i64 d.rp, .int .i64 d.no, .int .i64 d.bl, .int .i64 d.ph, .int .i64 d.k, .int .i64 d.i, .int .i64 d.f, .int .i64 d.t, .int .i64 d.a, .int .i64 d.s1, v1, .int .i64 d.s2, v2, .bool d.sm, v3, v4]] E.1 (BoolExt true E.1) := fun E => eqLead_same d _ _ _ _ _ _ _ _ E.1 ((ix.ext hx).ext E.2) ((iy.ext hx).ext E.2)
      have p0 := fun E : ExtOf wr => E.cell p0
      have q0 := fun E : ExtOf wr => E.cell q0
      have p1 := fun E : ExtOf wr => E.cell p1
      have q1 := fun E : ExtOf wr => E.cell q1
      have p2 := fun E : ExtOf wr => E.cell p2
      have q2 := fun E : ExtOf wr => E.cell q2
      have p3 := fun E : ExtOf wr => E.cell p3
      have q3 := fun E : ExtOf wr => E.cell q3
      have p4 := fun E : ExtOf wr => E.cell p4
      have q4 := fun E : ExtOf wr => E.cell q4
      have p5 := fun E : ExtOf wr => E.cell p5
      have q5 := fun E : ExtOf wr => E.cell q5
      have p6 := fun E : ExtOf wr => E.cell p6
      have q6 := fun E : ExtOf wr => E.cell q6
      have p7 := fun E : ExtOf wr => E.cell p7
      have q7 := fun E : ExtOf wr => E.cell q7
      have p8 := fun E : ExtOf wr => E.cell p8
      have q8 := fun E : ExtOf wr => E.cell q8
      have p9 := fun E : ExtOf wr => E.cell p9
      have q9 := fun E : ExtOf wr => E.cell q9
      have p10 := fun E : ExtOf wr => E.cell p10
      have q10 := fun E : ExtOf wr => E.cell q10
      have p11 := fun E : ExtOf wr => E.cell p11
      have q11 := fun E : ExtOf wr => E.cell q11
      have p12 := fun E : ExtOf wr => E.cell p12
      have q12 := fun E : ExtOf wr => E.cell q12
      have p13 := fun E : ExtOf wr => E.cell p13
      have q13 := fun E : ExtOf wr => E.cell q13
      have p14 := fun E : ExtOf wr => E.cell p14
      have q14 := fun E : ExtOf wr => E.cell q14
      have p15 := fun E : ExtOf wr => E.cell p15
      have q15 := fun E : ExtOf wr => E.cell q15
      have HX := Lib.hid hx
      have HLT := Lib.hid hlt
      clear hcu hcv du dv hx1 hy1 ix iy hd hx
      go_wp2_with fail
      refine wp_region_ext_lit (by kernel_rfl) (by kernel_rfl) ?_
      repeat (go_big_quiet_step (first | (go_at_call 76; with_reducible exact Calls.ext_of _ (cE _))))
      refine wpQuiet_nil ?_
      rintro _ ⟨E, rfl⟩
      have hx2 : Ext w E.1 := HX.out.trans E.2
      clear cE p0 p1 p2 p3 p4 p5 p6 p7 p8 p9 p10 p11 p12 p13 p14 p15 q0 q1 q2 q3 q4 q5 q6 q7 q8 q9 q10 q11 q12 q13 q14 q15
      go_wp2
      go_roundw
      case rel => exact ⟨k + 1, by have := HLT.out; omega, by go_num, hx2⟩
      case measure => simp [intOf]; have := HLT.out; omega
    · obtain rfl : k = L.length := by omega
      go_wp2
      go_ret
      exact ⟨rfl, hx⟩
set_option maxHeartbeats 1000000 in
theorem eqReplica_same (me n : Int) (u v u' v' : Value) (T : List (List RowD)) (L : List LeadD) (w : World) (hu : Rowzz w u T) (hv : Leadz w v L) (hu' : Rowzz w u' T) (hv' : Leadz w v' L) :
    Calls Try.prog 10 #[.agg #[.int .i64 me, .int .i64 n, u, v], .agg #[.int .i64 me, .int .i64 n, u', v']] w (BoolExt true w) := by
  have HH := Lib.hid (two_reps w 35 35 me n me n u u' v v')
  have xx := Ext.alloc2 w (.cells #[.int .i64 me, .int .i64 n, u, v] 35) (.cells #[.int .i64 me, .int .i64 n, u', v'] 35)
  have HU := Lib.hid (hu.ext xx)
  have HV := Lib.hid (hv.ext xx)
  have HU' := Lib.hid (hu'.ext xx)
  have HV' := Lib.hid (hv'.ext xx)
  obtain ⟨au, cu, rfl, _, _, _⟩ := hu
  obtain ⟨av, cv, rfl, _, _, _⟩ := hv
  obtain ⟨au', cu', rfl, _, _, _⟩ := hu'
  obtain ⟨av', cv', rfl, _, _, _⟩ := hv'
  have nm : (me != me) = false := by simp
  have HX := Lib.hid xx
  clear xx
  go_enter Try.func10, Try.ntmps10
  go_wp2_with fail
  refine (eqTable_same _ _ _ T _ HU.out HU'.out).mono ?_
  rintro e w1 ⟨rfl, x1⟩
  obtain ⟨a0, a1, a2, a3⟩ := HH.out.1.ext x1
  obtain ⟨b0, b1, b2, b3⟩ := HH.out.2.ext x1
  have X01 := Lib.hid x1
  have X1 := Lib.hid (HX.out.trans x1)
  clear x1
  go_wp2_with fail
  refine (eqLeadS_same _ _ L _ (HV.out.ext X01.out) (HV'.out.ext X01.out)).mono ?_
  rintro e w2 ⟨rfl, x2⟩
  have X2 := Lib.hid (X1.out.trans x2)
  clear x2 X1
  go_wp2
  go_ret
  exact ⟨rfl, X2.out⟩
end Go.Proofs.Ytbffkidkfannhaa

namespace Go.Proofs.Ytbffkidkfannhaa
open Go.RowKit
set_option linter.unusedVariables false

def weighD (L : List LeadD) : List Nat := L.map bulkD
theorem weighD_len (L : List LeadD) : (weighD L).length = L.length := by simp [weighD]
theorem weighD_get {L : List LeadD} {k : Nat} (h : k < L.length) : (weighD L)[k]'(by rw [weighD_len]; exact h) = bulkD L[k] := by simp [weighD]
set_option maxHeartbeats 2000000 in
set_option maxRecDepth 100000 in
theorem szLeadS_any (v : Value) (R : List LeadD) (left : Int) (w : World) (hv : Leadz w v R) (h0 : 0 ≤ left) (h1 : left ≤ 1099511627776) :
    Calls Try.prog 26 #[v, .int .i64 left] w (IntExt (lessened left (bulkL R)) w) := by
  obtain ⟨av, cv, rfl, hlv, _, hcv⟩ := hv
  unfold maxLen at hlv
  have hb : bulkL R = R.length + (weighD R).sum := rfl
  by_cases hlt : left < R.length
  · rw [lessened_no (by omega)]
    clear hb hcv
    go_enter Try.func26, Try.ntmps26
    go_wp2
    go_ret
    exact ⟨rfl, Ext.refl _⟩
  · have HBK := Lib.hid hb
    have hle : (R.length : Int) ≤ left := by omega
    clear hb hlt
    go_enter Try.func26, Try.ntmps26
    go_wp2
    go_loopw [1, 5] (fun m i wr => ∃ (k : Nat) (r : Int), k ≤ R.length ∧ i = .int .i64 k ∧ m = .int .i64 r ∧ 0 ≤ r ∧ Hid (r = left - R.length - sumN (weighD R) k) ∧ Ext w wr) (fun _ i _ => R.length - (intOf i).toNat)
    case atStart => exact ⟨0, left - R.length, Nat.zero_le _, rfl, rfl, by omega, Lib.hid (by rw [sumN_zero]; simp), Ext.refl _⟩
    case round =>
      obtain ⟨k, r, hk, rfl, rfl, hr0, hr, hx⟩ := hrel
      have hr1 : r ≤ 1099511627776 := by have := hr.out; omega
      by_cases hlt : k < R.length
      · obtain ⟨b, off, rfl, dv⟩ := hcv (by omega)
        obtain ⟨u1, u2, u3, u4, hu, iu⟩ := dv k hlt
        have hs := sumN_succ (g := weighD R) (k := k) (by rw [weighD_len]; exact hlt)
        rw [weighD_get hlt] at hs
        obtain ⟨d, hd⟩ : ∃ d, d = R[k] := ⟨_, rfl⟩
        rw [← hd] at hu iu hs
        obtain ⟨p0, p1, p2, p3, p4, p5, p6, p7, p8, p9, p10, p11, p12, p13, p14, p15⟩ := leadIn_cells (hu.ext hx)
        have IU := Lib.hid (iu.ext hx)
        have HS := Lib.hid hs
        clear hcv dv hu iu hs hd
        by_cases hl : r < bulkD d
        · have L := Lib.hid (lessened_no hl)
          have hsum := sumN_mono (g := weighD R) (k := k + 1) (by rw [weighD_len]; omega)
          have HL := Lib.hid (show lessened left (bulkL R) = -1 from lessened_no (by have h1 := hr.out; have h2 := HS.out; have h3 := HBK.out; omega))
          clear hl hsum
          go_wp2_with fail
          refine (szLead_any d _ _ _ _ _ _ IU.out hr0 (by omega)).mono ?_
          rintro e w2 ⟨rfl, x2⟩
          have hx2 := hx.trans x2
          clear x2 hx
          clear p0 p1 p2 p3 p4 p5 p6 p7 p8 p9 p10 p11 p12 p13 p14 p15
          rw [L.out]
          go_wp2
          go_ret
          exact ⟨by rw [HL.out]; first | done | rfl, hx2⟩
        · obtain ⟨q, hq⟩ : ∃ q, q = r - (bulkD d : Int) := ⟨_, rfl⟩
          have hq0 : 0 ≤ q := by omega
          have L : Hid (lessened r (bulkD d) = q) := Lib.hid (by rw [hq]; exact lessened_yes (by omega))
          have HQ := Lib.hid hq
          clear hl hq
          go_wp2_with fail
          refine (szLead_any d _ _ _ _ _ _ IU.out hr0 (by omega)).mono ?_
          rintro e w2 ⟨rfl, x2⟩
          have hx2 := hx.trans x2
          clear x2 hx
          clear p0 p1 p2 p3 p4 p5 p6 p7 p8 p9 p10 p11 p12 p13 p14 p15
          rw [L.out]
          go_wp2
          go_roundw
          case rel => exact ⟨k + 1, q, by omega, by go_num, rfl, hq0, Lib.hid (by have h1 := hr.out; have h2 := HS.out; have h3 := HQ.out; omega), hx2⟩
          case measure => simp [intOf]; omega
      · obtain rfl : k = R.length := by omega
        go_wp2
        go_ret
        refine ⟨?_, hx⟩
        have h1 := hr.out
        have h3 := HBK.out
        have h4 := sumN_all (weighD R)
        rw [weighD_len] at h4
        have he : lessened left (bulkL R) = r := by rw [lessened_yes (by omega)]; omega
        rw [he]; first | done | rfl
set_option maxHeartbeats 1000000 in
theorem szReplica_any (me n : Int) (u v : Value) (T : List (List RowD)) (L : List LeadD) (left : Int) (w : World) (hu : Rowzz w u T) (hv : Leadz w v L) (h0 : 0 ≤ left) (h1 : left ≤ 1099511627776) :
    Calls Try.prog 6 #[.agg #[.int .i64 me, .int .i64 n, u, v], .int .i64 left] w (IntExt (lessened left (bulkT T + bulkL L)) w) := by
  have xx := Ext.alloc1 w (.cells #[.int .i64 me, .int .i64 n, u, v] 27)
  have HH := Lib.hid (repAt_new w 27 me n u v)
  have HU := Lib.hid (hu.ext xx)
  have HV := Lib.hid (hv.ext xx)
  have HX := Lib.hid xx
  obtain ⟨a0, a1, a2, a3⟩ := HH.out
  clear hu hv xx
  go_enter Try.func6, Try.ntmps6
  go_wp2_with fail
  refine (szTable_any _ _ _ _ _ HU.out h0 h1).mono ?_
  rintro e w1 ⟨rfl, x1⟩
  have X1 := Lib.hid (HX.out.trans x1)
  have X01 := Lib.hid x1
  clear x1 a0 a1 a2 a3
  by_cases g1 : left < bulkT T
  · have HE : Hid (lessened left (bulkT T + bulkL L) = -1) := Lib.hid (lessened_no (by omega))
    rw [lessened_no g1]
    go_wp2
    go_ret
    exact ⟨by rw [HE.out]; first | done | rfl, X1.out⟩
  rw [lessened_yes (by omega)]
  have hx1 : lessened left (bulkT T + bulkL L) = lessened (left - bulkT T) (bulkL L) := by unfold lessened; split <;> split <;> omega
  obtain ⟨r1, hr1⟩ : ∃ r1, r1 = left - (bulkT T : Int) := ⟨_, rfl⟩
  rw [← hr1] at hx1 ⊢
  have r10 : 0 ≤ r1 := by omega
  have r11 : r1 ≤ 1099511627776 := by omega
  have HX1 := Lib.hid hx1
  clear hx1 hr1 g1
  obtain ⟨a0, a1, a2, a3⟩ := HH.out.ext X01.out
  go_wp2_with fail
  refine (szLeadS_any _ L _ _ (HV.out.ext X01.out) r10 r11).mono ?_
  rintro e w2 ⟨rfl, x2⟩
  have hx := X1.out.trans x2
  clear x2 a0 a1 a2 a3
  by_cases g1 : r1 < bulkL L
  · have e4 := lessened_no g1
    rw [e4]
    have HE := Lib.hid (HX1.out.trans e4)
    clear e4 g1 HX1
    go_wp2
    go_ret
    exact ⟨by rw [HE.out]; first | done | rfl, hx⟩
  · have e4 := lessened_yes (left := r1) (n := bulkL L) (by omega)
    have r40 : 0 ≤ r1 - (bulkL L : Int) := by omega
    obtain ⟨r4, hr4⟩ : ∃ r4, r4 = r1 - (bulkL L : Int) := ⟨_, rfl⟩
    rw [← hr4] at e4 r40
    rw [e4]
    have HE := Lib.hid (HX1.out.trans e4)
    clear hr4 e4 g1 HX1
    go_wp2
    go_ret
    exact ⟨by rw [HE.out]; first | done | rfl, hx⟩
end Go.Proofs.Ytbffkidkfannhaa

namespace Go.Proofs.Ytbffkidkfannhaa
open Go.RowKit
set_option linter.unusedVariables false

/-- How many marks rows bear. -/
def weigh (R : List RowD) : List Nat := R.map fun r => 9 + r.l.length
theorem weigh_len (R : List RowD) : (weigh R).length = R.length := by simp [weigh]
theorem weigh_get {R : List RowD} {k : Nat} (h : k < R.length) : (weigh R)[k]'(by rw [weigh_len]; exact h) = 9 + R[k].l.length := by simp [weigh]
theorem weigh_sum (R : List RowD) : (weigh R).sum ≤ 10 * bulkR R := by
  unfold weigh bulkR
  induction R with
  | nil => simp
  | cons r R ih => simp at ih ⊢; omega

set_option maxHeartbeats 4000000 in
set_option maxRecDepth 100000 in
theorem markRowS_any (lo hi : Nat) (v : Value) (R : List RowD) (k : Int) (w : World) (hv : FreshI lo hi w v R) (h0 : 0 ≤ k) (hk : k ≤ 1099511627776) (h1 : bulkR R ≤ 1099511627776) :
    Calls Try.prog 82 #[v, .int .i64 k] w (fun e w' => e = .returned (.int .i64 (k + (weigh R).sum)) ∧ Ins lo hi w w') := by
  obtain ⟨xs, us, ho, hC, hR, hout, hU, hUs⟩ := hv
  have hul : us.length = R.length := by have := hR.len; simpa using this
  have hws := weigh_sum R
  rcases ho.2 with ⟨rfl, hn⟩ | ⟨g, cap, cur, rfl, hb, hg, hnc, hcm, hcs, htake⟩
  · obtain rfl : R = [] := List.eq_nil_of_length_eq_zero hn
    clear h1 hws
    go_enter Try.func82, Try.ntmps82
    go_wp2
    refine wp_loop_rounds 1 ?_; rw [rounds_succ]
    go_wp2
    go_ret
    exact ⟨by simp [weigh], Ins.refl _ _ _⟩
  · have hout' : ∀ (j : Nat) (u : Value), us[j]? = some u → u.ownBlock = none ∨ u.ownBlock ≠ some g := hout
    have hgi : lo ≤ g ∧ g < hi := ⟨hb, hU g rfl⟩
    have hfr : Hid (∀ i (h : i < R.length) (h' : i < us.length), 0 ≤ i → Fresh lo w us[i] R[i].l) := Lib.hid fun i h h' _ => hR.row i _ _ (List.getElem?_eq_getElem h') (by simp [List.getElem?_eq_getElem h])
    have hxr : Hid (∀ i (h : i < R.length) (h' : i < us.length), 0 ≤ i → XRow xs (i * 10) R[i] us[i]) := Lib.hid fun i h h' _ => hC i h h'
    have HOUT := Lib.hid hout'
    have HAP := Lib.hid hR.apart
    have HUS := Lib.hid hUs
    have HUL := Lib.hid hul
    have HWS := Lib.hid hws
    have HGI := Lib.hid hgi
    have H1 := Lib.hid h1
    have hLen : R.length ≤ 1099511627776 := by unfold bulkR at h1; omega
    clear hg hnc hcm hcs htake cur hb hout hout' hU hUs hul hR hC hws hgi h1
    go_enter Try.func82, Try.ntmps82
    go_wp2
    go_loopw [1, 5] (fun m i wr => ∃ (j : Nat) (r : Int) (ys : List Value), j ≤ R.length ∧ i = .int .i64 j ∧ m = .int .i64 r ∧ Hid (r = k + sumN (weigh R) j) ∧ wr.ownsRow lo 57 10 (.slice (some ⟨g, 0, none⟩) R.length cap) R.length ys ∧ Hid (∀ i (h : i < R.length) (h' : i < us.length), j ≤ i → Fresh lo wr us[i] R[i].l) ∧ Hid (∀ i (h : i < R.length) (h' : i < us.length), j ≤ i → XRow ys (i * 10) R[i] us[i]) ∧ Ins lo hi w wr) (fun _ i _ => R.length - (intOf i).toNat)
    case atStart => exact ⟨0, k, xs, Nat.zero_le _, rfl, rfl, Lib.hid (by rw [sumN_zero]; simp), ho, hfr, hxr, Ins.refl _ _ _⟩
    case round =>
      clear ho hfr hxr
      obtain ⟨j, r, ys, hj, rfl, rfl, hr, ho, hF, hX, hI⟩ := hrel
      by_cases hlt : j < R.length
      · have hju : j < us.length := by rw [HUL.out]; exact hlt
        obtain ⟨d, hd⟩ : ∃ d, d = R[j] := ⟨_, rfl⟩
        obtain ⟨u, hu⟩ : ∃ u, u = us[j] := ⟨_, rfl⟩
        have hx := hX.out j hlt hju (Nat.le_refl _)
        have hf := hF.out j hlt hju (Nat.le_refl _)
        rw [← hd, ← hu] at hx hf
        have hlen : d.l.length ≤ 1099511627776 := by rw [hd]; have := bulkR_row hlt; have := H1.out; omega
        have hr0 : 0 ≤ r := by have := hr.out; omega
        have hr1 : r ≤ 21990232555520 := by
          have h := hr.out
          have h2 := sumN_mono (g := weigh R) (k := j) (by rw [weigh_len]; omega)
          have := HWS.out; have := H1.out; omega
        obtain ⟨g0, g1, g2, g3, g4, g5, g6, g7, g8, g9⟩ := hx.rowIn ho hlt
        have gf : ∀ q, wr.frozen? ⟨g, q, none⟩ = false := fun q => ho.frozenAt q
        obtain ⟨au, cu, rfl⟩ := hf.form
        have HO := Lib.hid ho
        have HFF := Lib.hid hf
        have HD := Lib.hid hd
        have HU := Lib.hid hu
        clear ho hf hx hd hu
        have hst := ownsRow_stores [.int .i64 r, .int .i64 (r + 1), .int .i64 (r + 1 + 1), .int .i64 (r + 1 + 1 + 1), .int .i64 (r + 1 + 1 + 1 + 1), .int .i64 (r + 1 + 1 + 1 + 1 + 1), .int .i64 (r + 1 + 1 + 1 + 1 + 1 + 1), .int .i64 (r + 1 + 1 + 1 + 1 + 1 + 1 + 1), .int .i64 (r + 1 + 1 + 1 + 1 + 1 + 1 + 1 + 1)] (j * 10) wr ys HO.out
        have hub : ∀ b, (Value.slice au d.l.length cu).ownBlock = some b → lo ≤ b ∧ b < hi ∧ b ≠ g := fun b e => by
          have h1 := (World.ownsRow.lt HFF.out b e).1
          have hju' : us[j]? = some (.slice au d.l.length cu) := by rw [List.getElem?_eq_getElem hju, HU.out]
          have h2 := HUS.out j _ hju' b e
          refine ⟨h1, h2, fun e' => ?_⟩
          rcases HOUT.out j _ hju' with h | h
          · rw [h] at e; cases e
          · exact h (by rw [e, e'])
        have hf9 : Fresh lo (wr.setCells g (j * 10) [.int .i64 r, .int .i64 (r + 1), .int .i64 (r + 1 + 1), .int .i64 (r + 1 + 1 + 1), .int .i64 (r + 1 + 1 + 1 + 1), .int .i64 (r + 1 + 1 + 1 + 1 + 1), .int .i64 (r + 1 + 1 + 1 + 1 + 1 + 1), .int .i64 (r + 1 + 1 + 1 + 1 + 1 + 1 + 1), .int .i64 (r + 1 + 1 + 1 + 1 + 1 + 1 + 1 + 1)]) (.slice au d.l.length cu) d.l := World.ownsRow.kept HFF.out hst.2 (by
          cases hob : (Value.slice au d.l.length cu).ownBlock with
          | none => exact .inl rfl
          | some b => exact .inr fun e => (hub b hob).2.2 (Option.some.inj e))
        have hi9 : Ins lo hi wr (wr.setCells g (j * 10) [.int .i64 r, .int .i64 (r + 1), .int .i64 (r + 1 + 1), .int .i64 (r + 1 + 1 + 1), .int .i64 (r + 1 + 1 + 1 + 1), .int .i64 (r + 1 + 1 + 1 + 1 + 1), .int .i64 (r + 1 + 1 + 1 + 1 + 1 + 1), .int .i64 (r + 1 + 1 + 1 + 1 + 1 + 1 + 1), .int .i64 (r + 1 + 1 + 1 + 1 + 1 + 1 + 1 + 1)]) := Ins.of_grown hst.2 (fun q e => by rw [← Option.some.inj e]; exact HGI.out)
        have HST := Lib.hid hst
        have HUB := Lib.hid hub
        have HF9 := Lib.hid hf9
        have HI9 := Lib.hid hi9
        clear hst hub hf9 hi9
        go_wp2_with fail
        refine (markIntS_any lo _ d.l _ (wr.setCells g (j * 10) [.int .i64 r, .int .i64 (r + 1), .int .i64 (r + 1 + 1), .int .i64 (r + 1 + 1 + 1), .int .i64 (r + 1 + 1 + 1 + 1), .int .i64 (r + 1 + 1 + 1 + 1 + 1), .int .i64 (r + 1 + 1 + 1 + 1 + 1 + 1), .int .i64 (r + 1 + 1 + 1 + 1 + 1 + 1 + 1), .int .i64 (r + 1 + 1 + 1 + 1 + 1 + 1 + 1 + 1)]) HF9.out (by omega) (by omega)).mono ?_
        rintro e w3 ⟨rfl, f3, t3⟩
        have T3 := Lib.hid t3
        have hs := sumN_succ (g := weigh R) (k := j) (by rw [weigh_len]; exact hlt)
        rw [weigh_get hlt, ← HD.out] at hs
        have HS := Lib.hid hs
        clear f3 t3 hs g0 g1 g2 g3 g4 g5 g6 g7 g8 g9 gf
        obtain ⟨q, hq⟩ : ∃ q, q = r + 1 + 1 + 1 + 1 + 1 + 1 + 1 + 1 + 1 + (d.l.length : Int) := ⟨_, rfl⟩
        have hq0 : 0 ≤ q := by omega
        rw [← hq]
        have HQ := Lib.hid hq
        clear hq
        go_wp2
        go_roundw
        case rel =>
          have hju' : us[j]? = some (.slice au d.l.length cu) := by rw [List.getElem?_eq_getElem hju, HU.out]
          refine ⟨j + 1, q, _, by omega, by go_num, rfl, Lib.hid (by have h1 := hr.out; have h2 := HS.out; have h3 := HQ.out; omega), World.ownsRow.kept HST.out.1 T3.out ?_, Lib.hid fun i h h' hij => ?_, Lib.hid fun i h h' hij => ?_, (hI.trans HI9.out).trans (Ins.of_grown T3.out (fun b e => ⟨(HUB.out b e).1, (HUB.out b e).2.1⟩))⟩
          · refine .inr fun e => ?_
            have := (HUB.out g e.symm).2.2
            exact this rfl
          · have h9 : Fresh lo (wr.setCells g (j * 10) [.int .i64 r, .int .i64 (r + 1), .int .i64 (r + 1 + 1), .int .i64 (r + 1 + 1 + 1), .int .i64 (r + 1 + 1 + 1 + 1), .int .i64 (r + 1 + 1 + 1 + 1 + 1), .int .i64 (r + 1 + 1 + 1 + 1 + 1 + 1), .int .i64 (r + 1 + 1 + 1 + 1 + 1 + 1 + 1), .int .i64 (r + 1 + 1 + 1 + 1 + 1 + 1 + 1 + 1)]) us[i] R[i].l := World.ownsRow.kept (hF.out i h h' (by omega)) HST.out.2 (HOUT.out i _ (List.getElem?_eq_getElem h'))
            exact World.ownsRow.kept h9 T3.out (HAP.out i j _ _ (by omega) (List.getElem?_eq_getElem h') hju')
          · have hl9 : ∀ (vs : List Value), vs.length = 9 → XRow (putL ys (j * 10) vs) (i * 10) R[i] us[i] := fun vs hvs => by
              obtain ⟨p0, p1, p2, p3, p4, p5, p6, p7, p8, p9⟩ := hX.out i h h' (by omega)
              refine ⟨?_, ?_, ?_, ?_, ?_, ?_, ?_, ?_, ?_, ?_⟩ <;> (rw [putL_out _ _ _ _ (by rw [hvs]; omega)]; assumption)
            exact hl9 _ rfl
        case measure => simp [intOf]; omega
      · obtain rfl : j = R.length := by omega
        go_wp2
        go_ret
        refine ⟨?_, hI⟩
        have h := hr.out
        have h2 := sumN_all (weigh R)
        rw [weigh_len] at h2
        rw [h2] at h
        rw [h]; rfl

end Go.Proofs.Ytbffkidkfannhaa

namespace Go.Proofs.Ytbffkidkfannhaa
open Go.RowKit
set_option linter.unusedVariables false

/-- From q0 on the cells of vs stand in ys, from o on. -/
def RestX (ys : List Value) (o q0 : Nat) (vs : List Value) : Prop := ∀ q v, q0 ≤ q → vs[q]? = some v → ys[o + q]? = some v
theorem RestX.put {ys vs ms : List Value} {o q0 p q1 : Nat} (h : RestX ys o q0 vs) (h0 : q0 ≤ q1) (h1 : p + ms.length ≤ o + q1) : RestX (putL ys p ms) o q1 vs := fun q v hq hv => by
  rw [putL_out _ _ _ _ (by omega)]
  exact h q v (by omega) hv
/-- But from a on, below b, the lists are one. -/
def KeptX (ys zs : List Value) (a b : Nat) : Prop := zs.length = ys.length ∧ ∀ q, (q < a ∨ b ≤ q) → zs[q]? = ys[q]?
theorem KeptX.refl (ys : List Value) (a b : Nat) : KeptX ys ys a b := ⟨rfl, fun _ _ => rfl⟩
theorem KeptX.put {ys zs ms : List Value} {a b p : Nat} (h : KeptX ys zs a b) (h1 : a ≤ p) (h2 : p + ms.length ≤ b) : KeptX ys (putL zs p ms) a b :=
  ⟨by rw [putL_len]; exact h.1, fun q hq => by rw [putL_out _ _ _ _ (by omega)]; exact h.2 q hq⟩
theorem BoxV.ins' {lo hi : Nat} {w w' : World} {b : Nat} {vs : List Value} (h : BoxV w b vs) (k : Ins lo hi w w') (hb : b < lo ∨ hi ≤ b) : BoxV w' b vs :=
  ⟨fun j v hj => k.cell (h.cell j v hj) hb, fun j hj => by
    have := h.free j hj
    unfold World.frozen? at this ⊢
    rw [k.block b h.lt hb]
    exact this, Nat.lt_of_lt_of_le h.lt k.size⟩
/-- Marks were laid, so many at most, between two blocks. -/
def MarkUp (lo hi : Nat) (k : Int) (n : Nat) (w : World) (e : Ending) (w' : World) : Prop := ∃ k' : Int, e = .returned (.int .i64 k') ∧ k ≤ k' ∧ k' ≤ k + 16 * (n : Int) ∧ Ins lo hi w w'
end Go.Proofs.Ytbffkidkfannhaa
