/- Texts of this proof, part j: words, plain facts, contracts. -/
import Derived.Test.YtjkmhphnefpdoaaMGoodReplicai
import Derived.Test.YtjkmhphnefpdoaaMGoodReplicaa
import Derived.Maps.RangeWalk
import Derived.Maps.OwnSet
import Derived.Maps.OwnOps
import Derived.DeepKeys5
import Derived.Test.YtjkmhphnefpdoaaMGoodReplicac
import Derived.Test.YtjkmhphnefpdoaaMGoodReplicag
import Derived.Test.YtjkmhphnefpdoaaMGoodReplicad
import Derived.Test.YtjkmhphnefpdoaaMGoodReplicab
import Derived.WalkArith

namespace Go.Proofs.Ytjkmhphnefpdoaa
open Go.RowKit
set_option linter.unusedVariables false

set_option maxHeartbeats 8000000 in
set_option maxRecDepth 100000 in
theorem isGoodLead_p3 (n me : Int) (d : LeadD) (u1 u2 u3 u4 : Value) (w : World) (hl : LeadL w d u1 u2 u3 u4) (hn : isGrp n = true) (hs : bulkD d ≤ 1099511627776) (hc0 : Hid (instB n d.rp d.no = true)) (hc1 : Hid (inB d.bl 0 9999 = true)) (hc2 : Hid ((riseB d.who 0 (n - 1) && hasI d.who me) = true)) (hp : d.ph = 3) :
    Calls Try.prog 40 #[.int .i64 n, .int .i64 me, .agg #[.int .i64 d.rp, .int .i64 d.no, .int .i64 d.bl, .int .i64 d.ph, .int .i64 d.k, .int .i64 d.i, .int .i64 d.f, .int .i64 d.t, .int .i64 d.a, .int .i64 d.s1, u1, .int .i64 d.s2, u2, .bool d.sm, u3, u4]] w (BoolExt (leadB n me d) w) := by
  have HO := Lib.hid (lead_ph3 hn hc0.out hc1.out hc2.out hp)
  have HP := Lib.hid hp
  clear hp
  have HN := Lib.hid hn
  have HSZ := Lib.hid hs
  clear hn hs
  obtain ⟨wb, hwb⟩ : ∃ wb, wb = w.alloc (.cells #[.int .i64 d.rp, .int .i64 d.no, .int .i64 d.bl, .int .i64 d.ph, .int .i64 d.k, .int .i64 d.i, .int .i64 d.f, .int .i64 d.t, .int .i64 d.a, .int .i64 d.s1, u1, .int .i64 d.s2, u2, .bool d.sm, u3, u4] 79) := ⟨_, rfl⟩
  have x0 : Ext w wb := by rw [hwb]; exact Ext.alloc1 _ _
  have HA : Hid (BoxV wb w.heap.size (leadVs d u1 u2 u3 u4)) := Lib.hid (by rw [hwb]; exact lead_box w _ d u1 u2 u3 u4)
  have HL := Lib.hid (hl.ext x0)
  have HX0 := Lib.hid x0
  have HW := Lib.hid hwb
  clear hwb x0 hl
  go_enter Try.func40, Try.ntmps40
  obtain ⟨a0, a1, a2, a3, a4, a5, a6, a7, a8, a9, a10, a11, a12, a13, a14, a15⟩ := lead_cells HA.out
  go_wp2_with fail
  rw [← HW.out]
  refine (isInstance_any n d.rp d.no _ HN.out).mono ?_
  rintro e w1 ⟨rfl, rfl⟩
  rw [hc0.out]
  have hb := hc1.out
  unfold inB at hb
  have b0 : ¬ d.bl < 0 := by simp at hb; omega
  have b1 : ¬ 9999 < d.bl := by simp at hb; omega
  clear hb
  go_wp2_with fail
  refine (areVoters_any n me u3 d.who _ HL.out.i3 HN.out).mono ?_
  rintro e w1 ⟨rfl, x1⟩
  rw [hc2.out]
  have X1 := Lib.hid x1
  clear x1 a0 a1 a2 a3 a4 a5 a6 a7 a8 a9 a10 a11 a12 a13 a14 a15
  have hb1 : d.l1.length ≤ 1099511627776 := by have := HSZ.out; unfold bulkD at this; omega
  have hb2 : d.l2.length ≤ 1099511627776 := by have := HSZ.out; unfold bulkD at this; omega
  have hb3 : bulkR d.seen ≤ 1099511627776 := by have := HSZ.out; unfold bulkD at this; omega
  have HB1 := Lib.hid hb1
  have HB2 := Lib.hid hb2
  have HB3 := Lib.hid hb3
  clear hb1 hb2 hb3
  obtain ⟨a0, a1, a2, a3, a4, a5, a6, a7, a8, a9, a10, a11, a12, a13, a14, a15⟩ := lead_cells (HA.out.ext X1.out)
  rw [HP.out] at a3
  go_wp2_with fail
  refine (joinNone_any n _ HN.out).mono ?_
  rintro e w9 ⟨v, rfl, f9, x9⟩
  obtain ⟨vx, vc, rfl⟩ := f9.form
  have HX9w := Lib.hid (X1.out.trans x9)
  clear x9 a0 a1 a2 a3 a4 a5 a6 a7 a8 a9 a10 a11 a12 a13 a14 a15
  obtain ⟨wn, hwn⟩ : ∃ wn, wn = w9.alloc (.cells #[.int .i64 0, .slice vx (noneL n).length vc] 55) := ⟨_, rfl⟩
  have xn : Ext w9 wn := by rw [hwn]; exact Ext.alloc1 _ _
  have nn : AttrAt wn w9.heap.size 0 (.slice vx (noneL n).length vc) := by rw [hwn]; exact attrAt_new _ _ _ _
  have FN := Lib.hid (f9.ints.ext xn)
  have X2 := Lib.hid (HX9w.out.trans xn)
  have HWN := Lib.hid hwn
  have NN := Lib.hid nn
  clear xn nn hwn f9
  have hbw : w.heap.size < w9.heap.size := (HA.out.ext HX9w.out).lt
  have ec := fun W => eq_cmd d.k d.i d.f d.t d.a 0 0 0 0 0 W
  obtain ⟨a0, a1, a2, a3, a4, a5, a6, a7, a8, a9, a10, a11, a12, a13, a14, a15⟩ := lead_cells (HA.out.ext HX9w.out)
  cases hc : sameC d.k d.i d.f d.t d.a 0 0 0 0 0 with
  | false =>
    rw [hc] at ec
    have HQ : Hid (leadB n me d = false) := Lib.hid (by rw [HO.out, hc]; rfl)
    go_wp2
    go_ret
    exact ⟨by rw [HQ.out]; rfl, by rw [← HWN.out]; exact HX0.out.trans X2.out⟩
  | true =>
    rw [hc] at ec
    have HC := Lib.hid hc
    clear hc
    go_wp2_with fail
    rw [← HWN.out]
    refine (implSame_any d.s1 0 u1 _ d.l1 (noneL n) _ (HL.out.i1.ext X2.out) FN.out HB1.out).mono ?_
    rintro e w3 ⟨rfl, x3⟩
    have X3 := Lib.hid (X2.out.trans x3)
    have NN3 := Lib.hid (NN.out.ext x3)
    have FN3 := Lib.hid (FN.out.ext x3)
    clear x3 ec a0 a1 a2 a3 a4 a5 a6 a7 a8 a9 a10 a11 a12 a13 a14 a15
    cases h1 : sameA d.s1 0 d.l1 (noneL n) with
    | false =>
      have HQ : Hid (leadB n me d = false) := Lib.hid (by rw [HO.out, HC.out, h1]; rfl)
      go_wp2
      go_ret
      exact ⟨by rw [HQ.out]; rfl, HX0.out.trans X3.out⟩
    | true =>
      have H1 := Lib.hid h1
      clear h1
      obtain ⟨nn0, nn1⟩ := NN3.out
      obtain ⟨a0, a1, a2, a3, a4, a5, a6, a7, a8, a9, a10, a11, a12, a13, a14, a15⟩ := lead_cells (HA.out.ext X3.out)
      go_wp2_with fail
      refine (implSame_any d.s2 0 u2 _ d.l2 (noneL n) _ (HL.out.i2.ext X3.out) FN3.out HB2.out).mono ?_
      rintro e w4 ⟨rfl, x4⟩
      have X4 := Lib.hid (X3.out.trans x4)
      clear x4 nn0 nn1 a0 a1 a2 a3 a4 a5 a6 a7 a8 a9 a10 a11 a12 a13 a14 a15
      cases h2 : sameA d.s2 0 d.l2 (noneL n) with
      | false =>
        have HQ : Hid (leadB n me d = false) := Lib.hid (by rw [HO.out, HC.out, H1.out, h2]; rfl)
        go_wp2
        go_ret
        exact ⟨by rw [HQ.out]; rfl, HX0.out.trans X4.out⟩
      | true =>
        have H2 := Lib.hid h2
        clear h2
        obtain ⟨a0, a1, a2, a3, a4, a5, a6, a7, a8, a9, a10, a11, a12, a13, a14, a15⟩ := lead_cells (HA.out.ext X4.out)
        cases hm : d.sm with
        | true =>
          have HQ : Hid (leadB n me d = false) := Lib.hid (by rw [HO.out, HC.out, H1.out, H2.out, hm]; rfl)
          rw [hm] at a13
          go_wp2
          go_ret
          exact ⟨by rw [HQ.out]; rfl, HX0.out.trans X4.out⟩
        | false =>
          have HM := Lib.hid hm
          rw [hm] at a13
          clear hm
          obtain ⟨aw, cw, hu3, _⟩ := HL.out.i3
          obtain ⟨aq, cq, hu4, _⟩ := HL.out.i4
          have IS := Lib.hid (HL.out.i4.ext X4.out)
          rw [hu4] at IS
          rw [hu3] at a14
          rw [hu4] at a15
          by_cases h0 : d.seen.length = d.who.length
          · have h0' : ((d.seen.length : Int) == (d.who.length : Int)) = true := by simp [h0]
            obtain ⟨b, hb⟩ : ∃ b, b = d.seen.all (toldB n) := ⟨_, rfl⟩
            have HQ : Hid (leadB n me d = b) := Lib.hid (by rw [HO.out, HC.out, H1.out, H2.out, HM.out, decide_eq_true h0, hb]; rfl)
            have HBB := Lib.hid hb
            clear h0 hb
            go_wp2_with fail
            have hc := areReports_any n _ d.seen _ IS.out HN.out HB3.out
            rw [← HBB.out] at hc
            refine hc.mono ?_
            rintro e w5 ⟨rfl, x5⟩
            clear hc a0 a1 a2 a3 a4 a5 a6 a7 a8 a9 a10 a11 a12 a13 a14 a15
            go_wp2
            go_ret
            exact ⟨by rw [HQ.out]; rfl, HX0.out.trans (X4.out.trans x5)⟩
          · have h0' : ((d.seen.length : Int) == (d.who.length : Int)) = false := by simp; omega
            have HQ : Hid (leadB n me d = false) := Lib.hid (by rw [HO.out, HC.out, H1.out, H2.out, HM.out, decide_eq_false h0]; rfl)
            clear h0
            go_wp2
            go_ret
            exact ⟨by rw [HQ.out]; rfl, HX0.out.trans X4.out⟩
theorem isGoodLead_any (n me : Int) (d : LeadD) (u1 u2 u3 u4 : Value) (w : World) (hl : LeadL w d u1 u2 u3 u4) (hn : isGrp n = true) (hs : bulkD d ≤ 1099511627776) :
    Calls Try.prog 40 #[.int .i64 n, .int .i64 me, .agg #[.int .i64 d.rp, .int .i64 d.no, .int .i64 d.bl, .int .i64 d.ph, .int .i64 d.k, .int .i64 d.i, .int .i64 d.f, .int .i64 d.t, .int .i64 d.a, .int .i64 d.s1, u1, .int .i64 d.s2, u2, .bool d.sm, u3, u4]] w (BoolExt (leadB n me d) w) := by
  cases h0 : instB n d.rp d.no with
  | false => rw [lead_no0 h0]; exact isGoodLead_0 n me d u1 u2 u3 u4 w hl hn hs (Lib.hid h0)
  | true =>
    cases h1 : inB d.bl 0 9999 with
    | false => rw [lead_no1 h1]; exact isGoodLead_1 n me d u1 u2 u3 u4 w hl hn hs (Lib.hid h0) (Lib.hid h1)
    | true =>
      cases h2 : (riseB d.who 0 (n - 1) && hasI d.who me) with
      | false => rw [lead_no2 h2]; exact isGoodLead_2 n me d u1 u2 u3 u4 w hl hn hs (Lib.hid h0) (Lib.hid h1) (Lib.hid h2)
      | true =>
        by_cases p1 : d.ph = 1
        · exact isGoodLead_p1 n me d u1 u2 u3 u4 w hl hn hs (Lib.hid h0) (Lib.hid h1) (Lib.hid h2) p1
        · by_cases p2 : d.ph = 2
          · exact isGoodLead_p2 n me d u1 u2 u3 u4 w hl hn hs (Lib.hid h0) (Lib.hid h1) (Lib.hid h2) p2
          · by_cases p3 : d.ph = 3
            · exact isGoodLead_p3 n me d u1 u2 u3 u4 w hl hn hs (Lib.hid h0) (Lib.hid h1) (Lib.hid h2) p3
            · exact isGoodLead_p0 n me d u1 u2 u3 u4 w hl hn hs (Lib.hid h0) (Lib.hid h1) (Lib.hid h2) ⟨p1, p2, p3⟩
end Go.Proofs.Ytjkmhphnefpdoaa

namespace Go.Proofs.Ytjkmhphnefpdoaa
open Go.RowKit Go.Maps
set_option linter.unusedVariables false

theorem two_of {n : Nat} (h : 1 ≤ n) : ∃ d, n + 1 = d + 2 := ⟨n - 1, by omega⟩
/-- What an instance reads as, as a key. -/
def kl (a b : Int) : Lit := .string (keyBytes [.int .i64 a, .int .i64 b])
def instV (a b : Int) : Value := .agg #[.int .i64 a, .int .i64 b]
set_option maxRecDepth 100000
theorem instWide : (match Try.prog.underlying 84 with | some (.array _ _) | some (.struct _) => true | _ => false) = true := by kernel_rfl
theorem instKeyed : Keyed Try.prog 84 :=
  Keyed.of_law (deep_law_laid (by kernel_rfl) (m := 2) (by omega) (of_decide_eq_true (by kernel_rfl)) (by kernel_rfl) instWide)

theorem instType : Try.prog.keyType 84 = true := by kernel_rfl
theorem lits_int {d : Nat} {a : Int} (ha : wf64 a) : Try.prog.keyLits (d + 1) 3 [.int .i64 a] = some [.int .i64 a] := by
  unfold Program.keyLits
  rw [Try.underlying3]
  unfold wf64 at ha
  simp [ha]
theorem lits_int_inv {d : Nat} {v : Value} {L : List Lit} (h : Try.prog.keyLits (d + 1) 3 [v] = some L) : ∃ a, v = .int .i64 a ∧ wf64 a ∧ L = [.int .i64 a] := by
  unfold Program.keyLits at h
  rw [Try.underlying3] at h
  cases v <;> simp at h
  obtain ⟨⟨rfl, hw⟩, rfl⟩ := h
  exact ⟨_, rfl, hw, rfl⟩
theorem cellsInst : Try.prog.cellsOf 84 = 2 := by kernel_rfl
theorem cellsInt : Try.prog.cellsOf 3 = 1 := by kernel_rfl
theorem lits_inst {d : Nat} {a b : Int} (ha : wf64 a) (hb : wf64 b) : Try.prog.keyLits (d + 2) 84 [.int .i64 a, .int .i64 b] = some [.int .i64 a, .int .i64 b] := by
  unfold Program.keyLits
  rw [Try.underlying84]
  simp [cellsInst, cellsInt, lits_int ha, lits_int hb]
theorem keyOf_inst {a b : Int} (ha : wf64 a) (hb : wf64 b) : keyOf Try.prog 84 (instV a b) = some (kl a b) := by
  unfold keyOf
  rw [Try.underlying84]
  have hf : Value.formed Try.prog 84 (instV a b) = true := by
    unfold Value.formed instV
    simp [Try.underlying84, cellsInst]
  obtain ⟨d, hd⟩ : ∃ d, Try.prog.types.size + 1 = d + 2 := two_of (of_decide_eq_true (by kernel_rfl))
  simp only [instType, hf, Bool.and_self, if_true, hd]
  unfold instV
  simp only [Value.cells]
  rw [lits_inst ha hb]
  rfl
theorem keyOf_inst_inv {v : Value} {l : Lit} (h : keyOf Try.prog 84 v = some l) : ∃ a b, v = instV a b ∧ l = kl a b ∧ wf64 a ∧ wf64 b := by
  obtain ⟨xs, L, rfl, hL, rfl⟩ := keyOf_top instWide h
  obtain ⟨d, hd⟩ : ∃ d, Try.prog.types.size + 1 = d + 2 := two_of (of_decide_eq_true (by kernel_rfl))
  rw [hd] at hL
  unfold Program.keyLits at hL
  rw [Try.underlying84] at hL
  simp only [cellsInst] at hL
  split at hL
  · rename_i hc
    obtain ⟨x, y, hxy⟩ : ∃ x y, xs.toList = [x, y] := by
      match h : xs.toList with
      | [x, y] => exact ⟨x, y, rfl⟩
      | [] => simp [h] at hc
      | [_] => simp [h] at hc
      | _ :: _ :: _ :: _ => simp [h] at hc
    rw [hxy] at hL
    cases h1 : Try.prog.keyLits (d + 1) 3 [x] with
    | none => simp [cellsInt, h1] at hL
    | some A =>
      cases h2 : Try.prog.keyLits (d + 1) 3 [y] with
      | none => simp [cellsInt, h1, h2] at hL
      | some B =>
        simp [cellsInt, h1, h2] at hL
        obtain ⟨a, rfl, wa, rfl⟩ := lits_int_inv h1
        obtain ⟨b, rfl, wb, rfl⟩ := lits_int_inv h2
        refine ⟨a, b, ?_, ?_, wa, wb⟩
        · unfold instV
          rw [← Array.toArray_toList (xs := xs), hxy]
        · subst hL
          rfl
  · cases hL
theorem kl_inj {a b c d : Int} (ha : wf64 a) (hb : wf64 b) (hc : wf64 c) (hd : wf64 d) (h : kl a b = kl c d) : a = c ∧ b = d := by
  have e := instKeyed.inj (keyOf_inst ha hb) (h ▸ keyOf_inst hc hd)
  unfold instV at e
  simpa using e

end Go.Proofs.Ytjkmhphnefpdoaa

namespace Go.Proofs.Ytjkmhphnefpdoaa
open Go.RowKit
set_option linter.unusedVariables false

set_option maxHeartbeats 1000000 in
theorem l1Own_any (u : Value) (l : List Int) (w : World) (hu : Ints w u l) (hl : l.length ≤ 1048576) :
    Calls Try.prog 127 #[u] w (NewInts l w) := by
  have hb1 : ([] : List Int).length + l.length ≤ 1099511627776 := by simp; omega
  have HB := Lib.hid hb1
  have HU := Lib.hid hu
  clear hb1 hu hl
  go_enter Try.func127, Try.ntmps127
  go_wp2_with (at_builtin; refine wpList_join rfl _ _ rfl w.heap.size _ _ [] l rfl (fresh_lit w [] #[] _ rfl (Nat.le_refl _) (Nat.zero_le _)) rfl (HU.out.ext (Ext.alloc (Ext.refl _) _)) HB.out (size_alloc_le (Nat.le_refl _)) ?_)
  intro v1 w1 f1 g1 k1
  have e1' : Ext w w1 := k1 w (Ext.alloc (Ext.refl _) _) (Nat.le_refl _)
  clear g1 k1
  go_wp2
  go_ret
  exact ⟨_, rfl, by simpa using f1, e1'⟩

theorem box_res (w : World) (s : Int) (u : Value) (T : TypeId) :
    AttrAt ((w.alloc (.cells #[.int .i64 s, u] T)).alloc (.cells #[.int .i64 0, .slice none 0 0] T)) w.heap.size s u ∧ OpenAt ((w.alloc (.cells #[.int .i64 s, u] T)).alloc (.cells #[.int .i64 0, .slice none 0 0] T)) (w.heap.size + 1) 0 (.slice none 0 0) := by
  refine ⟨⟨?_, ?_⟩, ⟨?_, ?_⟩, ?_, ?_⟩ <;> go_simp

set_option maxHeartbeats 2000000 in
theorem l4OwnAttr_any (s : Int) (u : Value) (l : List Int) (w : World) (hu : Ints w u l) (hl : l.length ≤ 1048576) :
    Calls Try.prog 122 #[.agg #[.int .i64 s, u]] w (NewAttr s l w) := by
  have HL := Lib.hid hl
  have HU := Lib.hid hu
  have HO := Lib.hid (box_res w s u 55)
  clear hl hu
  go_enter Try.func122, Try.ntmps122
  go_wp2_with fail
  go_region_with (go_at_call 127; refine (l1Own_any _ l _ (HU.out.ext (by repeat (first | exact Ext.refl _ | apply Ext.drew | apply Ext.alloc))) HL.out).mono ?_; rintro e W ⟨z, rfl, f9, x9⟩; obtain ⟨az, cz, rfl⟩ := f9.form; obtain ⟨b0, b1⟩ := HO.out.1.ext ((Ext.drew (Ext.refl _)).trans x9); obtain ⟨⟨c0, c1⟩, z0, z1⟩ := HO.out.2.ext ((Ext.drew (Ext.refl _)).trans x9))
  all_goals
    have F9 := Lib.hid f9
    have X9 := Lib.hid x9
    clear f9 x9 b0 b1
    go_wp2
    refine bodyPost_ret (v := .agg #[.int .i64 s, .slice az l.length cz]) (by simp [results, Try.results122, go_sem, c0, c1]) rfl ⟨_, rfl, ?_, ?_⟩
    · exact ((F9.out.set _ _ _ (by simp)).set _ _ _ (by simp)).more (by simp; omega)
    · exact (((((Ext.refl w).alloc _).alloc _).trans ((Ext.drew (Ext.refl _)).trans X9.out)).setc (by simp)).setc (by simp)

theorem box_res_row (w : World) (r : RowD) (u : Value) (T : TypeId) :
    (RowAt ((w.alloc (.cells #[.int .i64 r.b, .int .i64 r.v, .int .i64 r.st, .int .i64 r.k, .int .i64 r.i, .int .i64 r.f, .int .i64 r.t, .int .i64 r.a, .int .i64 r.s, u] T)).alloc (.cells #[.int .i64 0, .int .i64 0, .int .i64 0, .int .i64 0, .int .i64 0, .int .i64 0, .int .i64 0, .int .i64 0, .int .i64 0, .slice none 0 0] T)) w.heap.size r u ∧
      FreeAt ((w.alloc (.cells #[.int .i64 r.b, .int .i64 r.v, .int .i64 r.st, .int .i64 r.k, .int .i64 r.i, .int .i64 r.f, .int .i64 r.t, .int .i64 r.a, .int .i64 r.s, u] T)).alloc (.cells #[.int .i64 0, .int .i64 0, .int .i64 0, .int .i64 0, .int .i64 0, .int .i64 0, .int .i64 0, .int .i64 0, .int .i64 0, .slice none 0 0] T)) w.heap.size) ∧
    (RowAt ((w.alloc (.cells #[.int .i64 r.b, .int .i64 r.v, .int .i64 r.st, .int .i64 r.k, .int .i64 r.i, .int .i64 r.f, .int .i64 r.t, .int .i64 r.a, .int .i64 r.s, u] T)).alloc (.cells #[.int .i64 0, .int .i64 0, .int .i64 0, .int .i64 0, .int .i64 0, .int .i64 0, .int .i64 0, .int .i64 0, .int .i64 0, .slice none 0 0] T)) (w.heap.size + 1) zeroR (.slice none 0 0) ∧
      FreeAt ((w.alloc (.cells #[.int .i64 r.b, .int .i64 r.v, .int .i64 r.st, .int .i64 r.k, .int .i64 r.i, .int .i64 r.f, .int .i64 r.t, .int .i64 r.a, .int .i64 r.s, u] T)).alloc (.cells #[.int .i64 0, .int .i64 0, .int .i64 0, .int .i64 0, .int .i64 0, .int .i64 0, .int .i64 0, .int .i64 0, .int .i64 0, .slice none 0 0] T)) (w.heap.size + 1)) := by
  refine ⟨⟨⟨?_, ?_, ?_, ?_, ?_, ?_, ?_, ?_, ?_, ?_⟩, ⟨?_, ?_, ?_, ?_, ?_, ?_, ?_, ?_, ?_, ?_⟩⟩, ⟨⟨?_, ?_, ?_, ?_, ?_, ?_, ?_, ?_, ?_, ?_⟩, ⟨?_, ?_, ?_, ?_, ?_, ?_, ?_, ?_, ?_, ?_⟩⟩⟩ <;> go_simp <;> rfl

set_option maxHeartbeats 2000000 in
set_option maxRecDepth 100000 in
theorem l4OwnRow_any (r : RowD) (u : Value) (w : World) (hu : Ints w u r.l) (hl : r.l.length ≤ 1048576) :
    Calls Try.prog 95 #[.agg #[.int .i64 r.b, .int .i64 r.v, .int .i64 r.st, .int .i64 r.k, .int .i64 r.i, .int .i64 r.f, .int .i64 r.t, .int .i64 r.a, .int .i64 r.s, u]] w (NewRow r w) := by
  have HL := Lib.hid hl
  obtain ⟨wb, hwb⟩ : ∃ wb, wb = (w.alloc (.cells #[.int .i64 r.b, .int .i64 r.v, .int .i64 r.st, .int .i64 r.k, .int .i64 r.i, .int .i64 r.f, .int .i64 r.t, .int .i64 r.a, .int .i64 r.s, u] 57)).alloc (.cells #[.int .i64 0, .int .i64 0, .int .i64 0, .int .i64 0, .int .i64 0, .int .i64 0, .int .i64 0, .int .i64 0, .int .i64 0, .slice none 0 0] 57) := ⟨_, rfl⟩
  have ho := box_res_row w r u 57
  rw [← hwb] at ho
  have xb : Ext w wb := by rw [hwb]; exact ((Ext.refl w).alloc _).alloc _
  have sb : wb.heap.size = w.heap.size + 2 := by rw [hwb]; simp
  have HU := Lib.hid (hu.ext xb)
  have HWB := Lib.hid hwb
  have HO := Lib.hid ho
  have SB := Lib.hid sb
  clear hl hu hwb ho sb
  go_enter Try.func95, Try.ntmps95
  go_wp2_with fail
  rw [← HWB.out]
  refine (l4OwnAttr_any _ _ r.l _ HU.out HL.out).mono ?_
  rintro e w1 ⟨v, rfl, f1, x1⟩
  have hx := xb.trans x1
  obtain ⟨p0, p1, p2, p3, p4, p5, p6, p7, p8, p9⟩ := HO.out.1.1.ext x1
  obtain ⟨y0, y1, y2, y3, y4, y5, y6, y7, y8, y9⟩ := HO.out.1.2.ext (by have := SB.out; omega) x1
  obtain ⟨o0, o1, o2, o3, o4, o5, o6, o7, o8, o9⟩ := HO.out.2.1.ext x1
  obtain ⟨z0, z1, z2, z3, z4, z5, z6, z7, z8, z9⟩ := HO.out.2.2.ext (by have := SB.out; omega) x1
  obtain ⟨au, cu, rfl⟩ := f1.form
  have F := Lib.hid f1
  have hsz : w.heap.size + 2 ≤ wb.heap.size := by have := SB.out; omega
  have HZ := Lib.hid hsz
  clear f1 x1 xb hsz
  go_wp2
  refine bodyPost_ret (v := .agg #[.int .i64 r.b, .int .i64 r.v, .int .i64 r.st, .int .i64 r.k, .int .i64 r.i, .int .i64 r.f, .int .i64 r.t, .int .i64 r.a, .int .i64 r.s, .slice au r.l.length cu]) (by simp [results, Try.results95, go_sem, o0, o1, o2, o3, o4, o5, o6, o7, o8, o9]) rfl ⟨_, rfl, ?_, ?_⟩
  · exact ((((((((((((F.out.set _ _ _ (by have := HZ.out; omega)).set _ _ _ (by have := HZ.out; omega)).set _ _ _ (by have := HZ.out; omega)).set _ _ _ (by have := HZ.out; omega)).set _ _ _ (by have := HZ.out; omega)).set _ _ _ (by have := HZ.out; omega)).set _ _ _ (by have := HZ.out; omega)).set _ _ _ (by have := HZ.out; omega)).set _ _ _ (by have := HZ.out; omega)).set _ _ _ (by have := HZ.out; omega)).set _ _ _ (by have := HZ.out; omega)).set _ _ _ (by have := HZ.out; omega)).more (by have := HZ.out; omega)
  · exact (((((((((((hx.setc (by dsimp only; omega)).setc (by dsimp only; omega)).setc (by dsimp only; omega)).setc (by dsimp only; omega)).setc (by dsimp only; omega)).setc (by dsimp only; omega)).setc (by dsimp only; omega)).setc (by dsimp only; omega)).setc (by dsimp only; omega)).setc (by dsimp only; omega)).setc (by dsimp only; omega)).setc (by dsimp only; omega)

end Go.Proofs.Ytjkmhphnefpdoaa

namespace Go.Proofs.Ytjkmhphnefpdoaa
open Go.RowKit
set_option linter.unusedVariables false

def emptyR (n : Int) : RowD := ⟨0, 0, 0, 0, 0, 0, 0, 0, 0, noneL n⟩
/-- The row of the place (p, q + 1), the empty one behind the list's end. -/
def rowOf (n : Int) (T : List (List RowD)) (p q : Nat) : RowD := (T[p]?.getD [])[q]?.getD (emptyR n)
theorem rowOf_in {n : Int} {T : List (List RowD)} {p q : Nat} (hp : p < T.length) (hq : q < T[p].length) : rowOf n T p q = T[p][q] := by
  unfold rowOf; simp [List.getElem?_eq_getElem hp, List.getElem?_eq_getElem hq]
theorem rowOf_out {n : Int} {T : List (List RowD)} {p q : Nat} (hp : p < T.length) (hq : T[p].length ≤ q) : rowOf n T p q = emptyR n := by
  unfold rowOf; simp [List.getElem?_eq_getElem hp, List.getElem?_eq_none hq]
theorem goodTab_of {n : Int} {T : List (List RowD)} (h : goodTab n T = true) : isGrp n = true ∧ (T.length : Int) = n ∧ ∀ R ∈ T, R.length ≤ 6 ∧ ∀ r ∈ R, goodRow n r = true := by
  unfold goodTab at h
  simp only [Bool.and_eq_true, decide_eq_true_eq, List.all_eq_true] at h
  refine ⟨h.1.1, h.1.2, fun R hR => ?_⟩
  have := h.2 R hR
  unfold goodList at this
  simp only [Bool.and_eq_true, decide_eq_true_eq, List.all_eq_true] at this
  exact this
theorem goodRow_len {n : Int} {r : RowD} (hn : isGrp n = true) (h : goodRow n r = true) : (r.l.length : Int) = n := by
  unfold goodRow at h
  simp only [Bool.and_eq_true] at h
  have h2 := h.2
  split at h2
  · unfold emptyB at h2
    simp only [Bool.and_eq_true] at h2
    have h3 := h2.2
    unfold sameA at h3
    simp only [Bool.and_eq_true, decide_eq_true_eq] at h3
    rw [h3.2]
    rcases isGrp_of hn with rfl | rfl <;> simp [noneL, isGrp]
  · unfold fullB at h2
    simp only [Bool.and_eq_true] at h2
    exact (goodD_of h2.2).2.1
theorem goodTab_row {n : Int} {T : List (List RowD)} (h : goodTab n T = true) {p q : Nat} (hp : p < T.length) (hq : q < T[p].length) : goodRow n T[p][q] = true ∧ (T[p][q].l.length : Int) = n ∧ T[p][q].l.length ≤ 5 := by
  obtain ⟨h1, h2, h3⟩ := goodTab_of h
  have h4 := (h3 _ (List.getElem_mem hp)).2 _ (List.getElem_mem hq)
  have h5 := goodRow_len h1 h4
  have := isGrp_bd h1
  exact ⟨h4, h5, by omega⟩
/-- An instance, in numbers of the model's lists. -/
theorem inst_nat {n rep no : Int} {T : List (List RowD)} (h : goodTab n T = true) (hi : instB n rep no = true) : ∃ p q : Nat, rep = (p : Int) ∧ no = (q : Int) + 1 ∧ p < T.length ∧ q ≤ 5 := by
  obtain ⟨h1, h2, h3⟩ := goodTab_of h
  unfold instB at hi
  simp only [Bool.and_eq_true] at hi
  obtain ⟨ha, hb⟩ := hi
  unfold inB at ha hb
  simp only [Bool.and_eq_true, decide_eq_true_eq] at ha hb
  exact ⟨rep.toNat, (no - 1).toNat, by omega, by omega, by omega, by omega⟩

set_option maxHeartbeats 1000000 in
theorem l4Asked_any (n : Int) (u : Value) (T : List (List RowD)) (rep no : Int) (w : World) (hu : Rowzz w u T) :
    Calls Try.prog 48 #[.agg #[.int .i64 n, u], .int .i64 rep, .int .i64 no] w (BoolExt (goodTab n T && instB n rep no) w) := by
  have HB := Lib.hid (attrAt_new w 32 n u)
  have HU := Lib.hid (hu.ext (Ext.alloc1 w (.cells #[.int .i64 n, u] 32)))
  clear hu
  cases hg : goodTab n T with
  | false =>
    have HG := Lib.hid hg
    clear hg
    go_enter Try.func48, Try.ntmps48
    go_wp2_with fail
    refine (specGoodTable_any _ _ T _ HU.out).mono ?_
    rintro e w1 ⟨rfl, x1⟩
    have hx := (Ext.alloc1 w _).trans x1
    clear x1
    rw [HG.out]
    go_wp2
    go_ret
    exact ⟨rfl, hx⟩
  | true =>
    rw [Bool.true_and]
    have hb := isGrp_bd (goodTab_of hg).1
    have h3 := hb.1
    have h5 := hb.2
    have HG := Lib.hid hg
    clear hg hb
    go_enter Try.func48, Try.ntmps48
    go_wp2_with fail
    refine (specGoodTable_any _ _ T _ HU.out).mono ?_
    rintro e w1 ⟨rfl, x1⟩
    obtain ⟨c0, c1⟩ := HB.out.ext x1
    have hx := (Ext.alloc1 w _).trans x1
    clear x1
    rw [HG.out]
    go_wp2_with fail
    refine (l3Inst_any _ _ _ _ h3 h5).mono ?_
    rintro e w' ⟨rfl, rfl⟩
    clear c0 c1
    cases hi : instB n rep no
    all_goals
      have HI := Lib.hid hi
      clear hi
      go_wp2
      go_ret
      exact ⟨by rw [HI.out]; rfl, hx⟩

end Go.Proofs.Ytjkmhphnefpdoaa

namespace Go.Proofs.Ytjkmhphnefpdoaa
open Go.RowKit
set_option linter.unusedVariables false

/-- Two slices of two element types lie in two blocks. -/
theorem types_apart {w : World} {B B' e e' sz sz' n m : Nat} {v u : Value} {xs ys : List Value} (h : w.ownsRow B e sz v n xs) (k : w.ownsRow B' e' sz' u m ys) (hne : e ≠ e') : u.ownBlock = none ∨ u.ownBlock ≠ v.ownBlock := by
  rcases k.2 with ⟨rfl, _⟩ | ⟨g', cap', cur', rfl, _, hg', _⟩
  · exact .inl rfl
  · refine .inr fun hb => ?_
    rcases h.2 with ⟨rfl, _⟩ | ⟨g, cap, cur, rfl, _, hg, _⟩
    · simp [Value.ownBlock] at hb
    · simp [Value.ownBlock] at hb
      subst hb
      rw [hg] at hg'
      simp at hg'
      exact hne hg'.2
theorem FreshSS.of {B : Nat} {w : World} {v : Value} {L : List (List Int)} {vs : List Value} (h : w.ownsRow B 44 1 v L.length vs) (r : Rows_ B w vs L) : FreshSS B w v L :=
  ⟨vs, h, r, fun j u hu => by
    have hj : j < vs.length := (List.getElem?_eq_some_iff.1 hu).1
    exact types_apart h (r.row j u _ hu (List.getElem?_eq_getElem (by rw [← r.len]; exact hj))) (by decide)⟩
theorem FreshSS.form {B : Nat} {w : World} {v : Value} {L : List (List Int)} (h : FreshSS B w v L) : ∃ ao cap, v = .slice ao L.length cap := by
  obtain ⟨ao, cap, hv, _⟩ := h.intss
  exact ⟨ao, cap, hv⟩

end Go.Proofs.Ytjkmhphnefpdoaa

namespace Go.Proofs.Ytjkmhphnefpdoaa
open Go.RowKit
set_option linter.unusedVariables false

def comAt (k : Nat) (R : List RowD) (i : Nat) : List (List Int) := match R[i]? with
  | some r => if r.st == 3 then [[(k : Int), (i : Int) + 1]] else []
  | none => []
/-- What is settled among the first j rows of the list of k, among the first k lists. -/
def comTo (k : Nat) (R : List RowD) (j : Nat) : List (List Int) := (List.range j).flatMap (comAt k R)
def allTo (T : List (List RowD)) (k : Nat) : List (List Int) := (List.range k).flatMap fun p => comTo p (T[p]?.getD []) (T[p]?.getD []).length
theorem comTo_succ (k : Nat) (R : List RowD) (j : Nat) : comTo k R (j + 1) = comTo k R j ++ comAt k R j := by simp [comTo, List.range_succ]
theorem comTo_zero (k : Nat) (R : List RowD) : comTo k R 0 = [] := by simp [comTo]
theorem comAt_yes {k : Nat} {R : List RowD} {j : Nat} (h : j < R.length) (hs : (R[j].st == 3) = true) : comAt k R j = [[(k : Int), (j : Int) + 1]] := by simp [comAt, List.getElem?_eq_getElem h, hs]
theorem comAt_no {k : Nat} {R : List RowD} {j : Nat} (h : j < R.length) (hs : (R[j].st == 3) = false) : comAt k R j = [] := by simp [comAt, List.getElem?_eq_getElem h, hs]
theorem allTo_succ {T : List (List RowD)} {k : Nat} (h : k < T.length) : allTo T (k + 1) = allTo T k ++ comTo k T[k] T[k].length := by simp [allTo, List.range_succ, List.getElem?_eq_getElem h]
theorem allTo_zero (T : List (List RowD)) : allTo T 0 = [] := by simp [allTo]
theorem comAt_len (k : Nat) (R : List RowD) (i : Nat) : (comAt k R i).length ≤ 1 := by
  unfold comAt
  split
  · split <;> simp
  · simp
theorem comTo_len (k : Nat) (R : List RowD) (j : Nat) : (comTo k R j).length ≤ j := by
  induction j with
  | zero => simp [comTo]
  | succ j ih =>
    rw [comTo_succ, List.length_append]
    have := comAt_len k R j
    omega
theorem allTo_len {T : List (List RowD)} (hT : ∀ R ∈ T, R.length ≤ 6) (k : Nat) (hk : k ≤ T.length) : (allTo T k).length ≤ 6 * k := by
  induction k with
  | zero => simp [allTo]
  | succ k ih =>
    have h : k < T.length := by omega
    rw [allTo_succ h, List.length_append]
    have h1 := ih (by omega)
    have h2 := comTo_len k T[k] T[k].length
    have h3 := hT _ (List.getElem_mem h)
    omega
/-- What Committed tells. -/
def comR (n : Int) (T : List (List RowD)) : List (List Int) := if goodTab n T then allTo T T.length else []
theorem comR_no {n : Int} {T : List (List RowD)} (h : goodTab n T = false) : comR n T = [] := by unfold comR; rw [h]; rfl
theorem comR_yes {n : Int} {T : List (List RowD)} (h : goodTab n T = true) : comR n T = allTo T T.length := by unfold comR; rw [h]; rfl

theorem fresh_pair (w : World) (o : Obj) (a b : Int) (o' : Obj) : Fresh w.heap.size (((w.alloc o).alloc (.cells #[.int .i64 a, .int .i64 b] 3)).alloc o') (.slice (some ⟨w.heap.size + 1, 0, none⟩) 2 2) [a, b] :=
  (fresh_lit2 w o [a, b] 2 #[.int .i64 a, .int .i64 b] rfl rfl (by simp)).ext (Ext.alloc1 _ _)
theorem cell_alloc_three (w : World) (a b : Obj) (x : Value) (T : TypeId) : (((w.alloc a).alloc b).alloc (.cells #[x] T)).cell? ⟨w.heap.size + 1 + 1, 0, none⟩ = some x := by go_simp

end Go.Proofs.Ytjkmhphnefpdoaa

namespace Go.Proofs.Ytjkmhphnefpdoaa
open Go.RowKit
set_option linter.unusedVariables false

/-- The accounts that a command touches. -/
def touchesL (k f t : Int) : List Int := if k == 1 then putI [f] t else if k == 2 then [f] else []
theorem touchesL_1 (f t : Int) : touchesL 1 f t = putI [f] t := rfl
theorem touchesL_2 (f t : Int) : touchesL 2 f t = [f] := rfl
theorem touchesL_else {k : Int} (f t : Int) (h1 : (k == 1) = false) (h2 : (k == 2) = false) : touchesL k f t = [] := by simp [touchesL, h1, h2]

/-- Whether a command touches the account j. -/
def touchB (k f t j : Int) : Bool := if k == 1 then t == j || f == j else if k == 2 then f == j else false

/-- The four marks of touchedBy. -/
def FourB (k f t : Int) (w : World) (e : Ending) (w' : World) : Prop :=
  e = .returned (.agg #[.bool (touchB k f t 0), .bool (touchB k f t 1), .bool (touchB k f t 2), .bool (touchB k f t 3)]) ∧ Ext w w'

theorem codeM_good {i f t a : Int} (h : (codeM i f t a == 0) = true) : (0 ≤ f ∧ f ≤ 3) ∧ (0 ≤ t ∧ t ≤ 3) ∧ f ≠ t ∧ inB i 1 999 = true ∧ inB a 1 1000 = true := by
  unfold codeM at h
  cases h1 : acctB f <;> simp [h1] at h
  cases h2 : acctB t <;> simp [h2] at h
  by_cases h3 : f = t
  · simp [h3] at h
  · simp [h3] at h
    cases h4 : inB i 1 999 <;> simp [h4] at h
    cases h5 : inB a 1 1000 <;> simp [h5] at h
    exact ⟨acctB_yes h1, acctB_yes h2, h3, rfl, rfl⟩
theorem codeR_good {i f : Int} (h : (codeR i f == 0) = true) : (0 ≤ f ∧ f ≤ 3) ∧ inB i 1 999 = true := by
  unfold codeR at h
  cases h1 : acctB f <;> simp [h1] at h
  cases h4 : inB i 1 999 <;> simp [h4] at h
  exact ⟨acctB_yes h1, rfl⟩
/-- What a good command is. -/
theorem goodB_cases {k i f t a : Int} (h : goodB k i f t a = true) : (k = 0 ∧ i = 0 ∧ f = 0 ∧ t = 0 ∧ a = 0) ∨ (k = 1 ∧ (codeM i f t a == 0) = true) ∨ (k = 2 ∧ (codeR i f == 0) = true ∧ t = 0 ∧ a = 0) := by
  by_cases h0 : k = 0
  · subst h0; rw [goodB_0] at h; simp [zeroB] at h; exact .inl ⟨rfl, h.1, h.2.1, h.2.2.1, h.2.2.2⟩
  · by_cases h1 : k = 1
    · subst h1; rw [goodB_1] at h; exact .inr (.inl ⟨rfl, h⟩)
    · by_cases h2 : k = 2
      · subst h2; rw [goodB_2] at h; simp at h; exact .inr (.inr ⟨rfl, by simp [h.1.1], h.1.2, h.2⟩)
      · rw [goodB_else _ _ _ _ (by simp [h0]) (by simp [h1]) (by simp [h2])] at h; cases h

/-- The accounts below n that are touched. -/
def touchedTo (k f t : Int) (n : Nat) : List Int := ((List.range n).filter fun (j : Nat) => touchB k f t (j : Int)).map fun (j : Nat) => (j : Int)
theorem touchedTo_hit {k f t : Int} {n : Nat} (h : touchB k f t (n : Int) = true) : touchedTo k f t (n + 1) = touchedTo k f t n ++ [(n : Int)] := by
  simp [touchedTo, List.range_succ, List.filter_append, h]
theorem touchedTo_miss {k f t : Int} {n : Nat} (h : touchB k f t (n : Int) = false) : touchedTo k f t (n + 1) = touchedTo k f t n := by
  simp [touchedTo, List.range_succ, List.filter_append, h]
theorem touchedTo_len (k f t : Int) (n : Nat) : (touchedTo k f t n).length ≤ n := by
  unfold touchedTo
  rw [List.length_map]
  exact Nat.le_trans (List.length_filter_le _ _) (by simp)
theorem touchedTo_all {k i f t a : Int} (hg : goodB k i f t a = true) : touchedTo k f t 4 = touchesL k f t := by
  rcases goodB_cases hg with ⟨rfl, rfl, rfl, rfl, rfl⟩ | ⟨rfl, hc⟩ | ⟨rfl, hc, rfl, rfl⟩
  · decide
  · obtain ⟨hf, ht, hne, _, _⟩ := codeM_good hc
    have hf' : f = 0 ∨ f = 1 ∨ f = 2 ∨ f = 3 := by omega
    have ht' : t = 0 ∨ t = 1 ∨ t = 2 ∨ t = 3 := by omega
    clear hf ht hc hg
    rcases hf' with rfl | rfl | rfl | rfl <;> rcases ht' with rfl | rfl | rfl | rfl <;> first | (exact absurd rfl hne) | decide
  · have hf := (codeR_good hc).1
    have hf' : f = 0 ∨ f = 1 ∨ f = 2 ∨ f = 3 := by omega
    clear hf hc hg
    rcases hf' with rfl | rfl | rfl | rfl <;> decide

end Go.Proofs.Ytjkmhphnefpdoaa

namespace Go.Proofs.Ytjkmhphnefpdoaa
open Go.RowKit
set_option linter.unusedVariables false

def touchesOf (k i f t a : Int) : List Int := if goodB k i f t a then touchesL k f t else []
theorem touchesOf_good {k i f t a : Int} (h : goodB k i f t a = true) : touchesOf k i f t a = touchesL k f t := by unfold touchesOf; rw [h]; rfl
theorem touchesOf_bad {k i f t a : Int} (h : goodB k i f t a = false) : touchesOf k i f t a = [] := by unfold touchesOf; rw [h]; rfl

end Go.Proofs.Ytjkmhphnefpdoaa

namespace Go.Proofs.Ytjkmhphnefpdoaa
open Go.RowKit
set_option linter.unusedVariables false

/-- Whether two commands touch some one account. -/
def interL (l r : List Int) : Bool := l.any fun x => hasI r x
def interB (k f t k' f' t' : Int) : Bool := interL (touchesL k f t) (touchesL k' f' t')

theorem putI_one_len (f t : Int) : (putI [f] t).length ≤ 2 := by
  unfold putI
  split
  · simp
  · simp; omega
theorem touchesL_len (k f t : Int) : (touchesL k f t).length ≤ 2 := by
  unfold touchesL
  split
  · exact putI_one_len f t
  · split <;> simp

end Go.Proofs.Ytjkmhphnefpdoaa

namespace Go.Proofs.Ytjkmhphnefpdoaa
open Go.RowKit
set_option linter.unusedVariables false

/-- An instance by its indices: its number is one more than q. -/
def instCom (T : List (List RowD)) (p q : Nat) : Bool := match (T[p]?.getD [])[q]? with
  | some r => r.st == 3
  | none => false
def instsAt (T : List (List RowD)) (p : Nat) : List (Nat × Nat) := ((List.range (T[p]?.getD []).length).filter (instCom T p)).map fun q => (p, q)
def instsTo (T : List (List RowD)) (k : Nat) : List (Nat × Nat) := (List.range k).flatMap (instsAt T)
def insts (T : List (List RowD)) : List (Nat × Nat) := instsTo T T.length
def pairOf (x : Nat × Nat) : List Int := [(x.1 : Int), (x.2 : Int) + 1]
def lexL (x y : Nat × Nat) : Prop := x.1 < y.1 ∨ (x.1 = y.1 ∧ x.2 < y.2)

theorem instCom_in {T : List (List RowD)} {p q : Nat} (hp : p < T.length) (hq : q < T[p].length) : instCom T p q = (T[p][q].st == 3) := by
  unfold instCom
  rw [List.getElem?_eq_getElem hp, Option.getD_some, List.getElem?_eq_getElem hq]
theorem instCom_lt {T : List (List RowD)} {p q : Nat} (h : instCom T p q = true) : ∃ (hp : p < T.length) (hq : q < T[p].length), T[p][q].st = 3 := by
  by_cases hp : p < T.length
  · by_cases hq : q < T[p].length
    · refine ⟨hp, hq, ?_⟩
      rw [instCom_in hp hq] at h
      simpa using h
    · unfold instCom at h
      rw [List.getElem?_eq_getElem hp, Option.getD_some, List.getElem?_eq_none (by omega)] at h
      cases h
  · unfold instCom at h
    rw [show T[p]? = none from List.getElem?_eq_none (by omega)] at h
    simp at h
theorem mem_insts {T : List (List RowD)} {x : Nat × Nat} : x ∈ insts T ↔ instCom T x.1 x.2 = true := by
  unfold insts instsTo instsAt
  constructor
  · intro h
    obtain ⟨p, hp, h⟩ := List.mem_flatMap.1 h
    obtain ⟨q, hq, rfl⟩ := List.mem_map.1 h
    exact (List.mem_filter.1 hq).2
  · intro h
    obtain ⟨hp, hq, hs⟩ := instCom_lt h
    refine List.mem_flatMap.2 ⟨x.1, List.mem_range.2 hp, List.mem_map.2 ⟨x.2, List.mem_filter.2 ⟨List.mem_range.2 ?_, h⟩, rfl⟩⟩
    rw [List.getElem?_eq_getElem hp]
    exact hq
theorem comAt_inst (T : List (List RowD)) (p i : Nat) : comAt p (T[p]?.getD []) i = if instCom T p i then [pairOf (p, i)] else [] := by
  unfold comAt instCom pairOf
  cases h : (T[p]?.getD [])[i]? with
  | none => rfl
  | some r => simp
theorem comTo_insts (T : List (List RowD)) (p m : Nat) : comTo p (T[p]?.getD []) m = ((List.range m).filter (instCom T p)).map fun q => pairOf (p, q) := by
  induction m with
  | zero => simp [comTo]
  | succ m ih =>
    rw [comTo_succ, ih, comAt_inst, List.range_succ, List.filter_append, List.map_append]
    congr 1
    cases h : instCom T p m <;> simp [h]
theorem allTo_insts (T : List (List RowD)) (k : Nat) : allTo T k = (instsTo T k).map pairOf := by
  unfold allTo instsTo
  rw [List.map_flatMap]
  congr 1
  funext p
  unfold instsAt
  rw [comTo_insts, List.map_map]
  rfl
theorem instsTo_lex (T : List (List RowD)) (k : Nat) : (instsTo T k).Pairwise lexL := by
  unfold instsTo
  induction k with
  | zero => simp
  | succ k ih =>
    rw [List.range_succ, List.flatMap_append]
    rw [List.pairwise_append]
    refine ⟨ih, ?_, ?_⟩
    · simp only [List.flatMap_cons, List.flatMap_nil, List.append_nil]
      unfold instsAt
      rw [List.pairwise_map]
      exact (List.pairwise_lt_range.filter _).imp fun h => .inr ⟨rfl, h⟩
    · intro a ha b hb
      obtain ⟨p, hp, ha⟩ := List.mem_flatMap.1 ha
      obtain ⟨q, _, rfl⟩ := List.mem_map.1 ha
      simp only [List.flatMap_cons, List.flatMap_nil, List.append_nil] at hb
      obtain ⟨q', _, rfl⟩ := List.mem_map.1 hb
      exact .inl (List.mem_range.1 hp)
theorem insts_lex (T : List (List RowD)) : (insts T).Pairwise lexL := instsTo_lex T _

/-- The last of a replica's instances on which a row hangs. -/
def depI (r : RowD) (p : Nat) : Int := r.l[p]?.getD 0
/-- Two rows interfere, and neither hangs on the other. -/
def cfl (n : Int) (T : List (List RowD)) (x y : Nat × Nat) : Bool :=
  interB (rowOf n T x.1 x.2).k (rowOf n T x.1 x.2).f (rowOf n T x.1 x.2).t (rowOf n T y.1 y.2).k (rowOf n T y.1 y.2).f (rowOf n T y.1 y.2).t &&
    (decide (depI (rowOf n T x.1 x.2) y.1 < (y.2 : Int) + 1) && decide (depI (rowOf n T y.1 y.2) x.1 < (x.2 : Int) + 1))
theorem interB_comm (k f t k' f' t' : Int) : interB k f t k' f' t' = interB k' f' t' k f t := by
  have h : ∀ l r : List Int, interL l r = true → interL r l = true := fun l r h => by
    unfold interL at h ⊢
    obtain ⟨x, hx, hr⟩ := List.any_eq_true.1 h
    exact List.any_eq_true.2 ⟨x, by simpa [hasI] using hr, by simpa [hasI] using hx⟩
  unfold interB
  rw [Bool.eq_iff_iff]
  exact ⟨h _ _, h _ _⟩
theorem cfl_comm (n : Int) (T : List (List RowD)) (x y : Nat × Nat) : cfl n T x y = cfl n T y x := by
  unfold cfl
  rw [interB_comm]
  congr 1
  exact Bool.and_comm _ _
/-- Of any two settled instances that interfere one hangs on the other. -/
def holdB (n : Int) (T : List (List RowD)) : Bool := (insts T).all fun x => (insts T).all fun y => decide (x = y) || !cfl n T x y
theorem holdB_no {n : Int} {T : List (List RowD)} {x y : Nat × Nat} (hx : x ∈ insts T) (hy : y ∈ insts T) (hne : x ≠ y) (h : cfl n T x y = true) : holdB n T = false := by
  unfold holdB
  rw [List.all_eq_false]
  refine ⟨x, hx, ?_⟩
  simp only [Bool.not_eq_true]
  rw [List.all_eq_false]
  exact ⟨y, hy, by simp [hne, h]⟩
theorem holdB_yes {n : Int} {T : List (List RowD)} (h : ∀ x ∈ insts T, ∀ y ∈ insts T, x ≠ y → cfl n T x y = false) : holdB n T = true := by
  unfold holdB
  rw [List.all_eq_true]
  intro x hx
  rw [List.all_eq_true]
  intro y hy
  by_cases e : x = y
  · simp [e]
  · simp [h x hx y hy e]
/-- .. by their places in the list. -/
theorem holdB_all {n : Int} {T : List (List RowD)} (h : ∀ a b (ha : a < (insts T).length) (hb : b < a), cfl n T ((insts T)[b]) ((insts T)[a]) = false) : holdB n T = true := by
  refine holdB_yes fun x hx y hy hne => ?_
  obtain ⟨a, ha, rfl⟩ := List.getElem_of_mem hx
  obtain ⟨b, hb, rfl⟩ := List.getElem_of_mem hy
  rcases Nat.lt_trichotomy a b with hl | rfl | hl
  · exact h b a hb hl
  · exact absurd rfl hne
  · rw [cfl_comm]; exact h a b ha hl
theorem insts_ne {T : List (List RowD)} {a b : Nat} (ha : a < (insts T).length) (hb : b < a) : (insts T)[b] ≠ (insts T)[a] := by
  have h := List.pairwise_iff_getElem.1 (insts_lex T) b a (by omega) ha hb
  intro e
  rw [e] at h
  unfold lexL at h
  omega

end Go.Proofs.Ytjkmhphnefpdoaa

namespace Go.Proofs.Ytjkmhphnefpdoaa
open Go.RowKit Go.Maps
set_option linter.unusedVariables false

theorem wf_small {x : Int} (h0 : 0 ≤ x) (h1 : x ≤ 1048577) : wf64 x := by
  exact WalkArith.wf_i64 (by omega)
/-! ### A table, its lists named -/
def RowsAt (w : World) (x : Value) (R : List RowD) (V : Nat → Value) : Prop :=
  ∃ ao cap, x = .slice ao R.length cap ∧ R.length ≤ maxLen ∧ (R.length ≤ cap ∧ cap ≤ maxLen ∧ (ao = none → cap = 0)) ∧
    (0 < R.length → ∃ b off, ao = some ⟨b, off, none⟩ ∧ ∀ j (h : j < R.length), RowIn w b (off + j * 10) R[j] (V j) ∧ Ints w (V j) R[j].l)
def TabAt (w : World) (u : Value) (T : List (List RowD)) (U : Nat → Nat → Value) : Prop :=
  ∃ ao cap, u = .slice ao T.length cap ∧ T.length ≤ maxLen ∧ (T.length ≤ cap ∧ cap ≤ maxLen ∧ (ao = none → cap = 0)) ∧
    (0 < T.length → ∃ b off, ao = some ⟨b, off, none⟩ ∧ ∀ j (h : j < T.length), ∃ x, w.cell? ⟨b, off + j, none⟩ = some x ∧ RowsAt w x T[j] (U j))
theorem RowsAt.ext {w w' : World} {x : Value} {R : List RowD} {V : Nat → Value} (h : RowsAt w x R V) (e : Ext w w') : RowsAt w' x R V := by
  obtain ⟨ao, cap, hv, hm, hcap, hc⟩ := h
  refine ⟨ao, cap, hv, hm, hcap, fun hp => ?_⟩
  obtain ⟨b, off, ha, hc⟩ := hc hp
  exact ⟨b, off, ha, fun j hj => ⟨(hc j hj).1.ext e, (hc j hj).2.ext e⟩⟩
theorem TabAt.ext {w w' : World} {u : Value} {T : List (List RowD)} {U : Nat → Nat → Value} (h : TabAt w u T U) (e : Ext w w') : TabAt w' u T U := by
  obtain ⟨ao, cap, hv, hm, hcap, hc⟩ := h
  refine ⟨ao, cap, hv, hm, hcap, fun hp => ?_⟩
  obtain ⟨b, off, ha, hc⟩ := hc hp
  refine ⟨b, off, ha, fun j hj => ?_⟩
  obtain ⟨x, hx, hr⟩ := hc j hj
  exact ⟨x, e.cell hx, hr.ext e⟩
theorem rowsAt_of {w : World} {x : Value} {R : List RowD} (h : Rowz w x R) : ∃ V, RowsAt w x R V := by
  obtain ⟨ao, cap, hv, hm, hcap, hc⟩ := h
  by_cases hp : 0 < R.length
  · obtain ⟨b, off, ha, hc⟩ := hc hp
    refine ⟨fun j => if h : j < R.length then Classical.choose (hc j h) else .bool false, ao, cap, hv, hm, hcap, fun _ => ⟨b, off, ha, fun j hj => ?_⟩⟩
    have := Classical.choose_spec (hc j hj)
    simp only [hj, dif_pos]
    exact this
  · exact ⟨fun _ => .bool false, ao, cap, hv, hm, hcap, fun h => absurd h hp⟩
theorem tabAt_of {w : World} {u : Value} {T : List (List RowD)} (h : Rowzz w u T) : ∃ U, TabAt w u T U := by
  obtain ⟨ao, cap, hv, hm, hcap, hc⟩ := h
  by_cases hp : 0 < T.length
  · obtain ⟨b, off, ha, hc⟩ := hc hp
    have hc' : ∀ j (h : j < T.length), ∃ V : Nat → Value, ∃ x, w.cell? ⟨b, off + j, none⟩ = some x ∧ RowsAt w x T[j] V := fun j hj => by
      obtain ⟨x, hx, hr⟩ := hc j hj
      obtain ⟨V, hV⟩ := rowsAt_of hr
      exact ⟨V, x, hx, hV⟩
    refine ⟨fun j => if h : j < T.length then Classical.choose (hc' j h) else fun _ => .bool false, ao, cap, hv, hm, hcap, fun _ => ⟨b, off, ha, fun j hj => ?_⟩⟩
    have := Classical.choose_spec (hc' j hj)
    simp only [hj, dif_pos]
    exact this
  · exact ⟨fun _ _ => .bool false, ao, cap, hv, hm, hcap, fun h => absurd h hp⟩

/-- A row as a value. -/
def rowV (r : RowD) (u : Value) : Value := .agg #[.int .i64 r.b, .int .i64 r.v, .int .i64 r.st, .int .i64 r.k, .int .i64 r.i, .int .i64 r.f, .int .i64 r.t, .int .i64 r.a, .int .i64 r.s, u]
def rowF (n : Int) (T : List (List RowD)) (U : Nat → Nat → Value) (p q : Nat) : Value := rowV (rowOf n T p q) (U p q)
/-- Is an instance in a table's lists? -/
def inT (T : List (List RowD)) (p q : Nat) : Bool := decide (q < (T[p]?.getD []).length)
theorem inT_of {T : List (List RowD)} {p q : Nat} (h : inT T p q = true) : ∃ (hp : p < T.length), q < T[p].length := by
  unfold inT at h
  have h' := of_decide_eq_true h
  by_cases hp : p < T.length
  · rw [List.getElem?_eq_getElem hp] at h'
    exact ⟨hp, h'⟩
  · rw [List.getElem?_eq_none (by omega)] at h'
    simp at h'
theorem inT_mk {T : List (List RowD)} {p q : Nat} (hp : p < T.length) (hq : q < T[p].length) : inT T p q = true := by
  unfold inT
  rw [List.getElem?_eq_getElem hp]
  exact decide_eq_true hq
/-- The lists of all rows read. -/
def Lists (w : World) (n : Int) (T : List (List RowD)) (U : Nat → Nat → Value) : Prop := ∀ p q, inT T p q = true → Ints w (U p q) (rowOf n T p q).l
theorem Lists.ext {w w' : World} {n : Int} {T : List (List RowD)} {U : Nat → Nat → Value} (h : Lists w n T U) (e : Ext w w') : Lists w' n T U := fun p q hi => (h p q hi).ext e
theorem TabAt.lists {w : World} {u : Value} {T : List (List RowD)} {U : Nat → Nat → Value} (n : Int) (h : TabAt w u T U) : Lists w n T U := by
  intro p q hi
  obtain ⟨hp, hq⟩ := inT_of hi
  obtain ⟨_, _, _, _, _, hc⟩ := h
  obtain ⟨b, off, _, hc⟩ := hc (by omega)
  obtain ⟨x, _, hr⟩ := hc p hp
  obtain ⟨_, _, _, _, _, hr⟩ := hr
  obtain ⟨b', off', _, hr⟩ := hr (by omega)
  rw [rowOf_in hp hq]
  exact (hr q hq).2

/-! ### A map that holds values -/
/-- How an element reads here: as itself. -/
def asIs (v : Value) : Option (DataW Value × List MemPlace) := some (.held v, [])

/-- The map holds just the instances of S, each with its value. -/
structure MapOf (D : DataW Value) (S : Nat → Nat → Bool) (f : Nat → Nat → Value) : Prop where
  isMap : Maps.IsMap D
  low : ∀ p q, S p q = true → p ≤ 1048576 ∧ q ≤ 1048576
  has : ∀ p q, S p q = true → Maps.has D (kl p ((q : Int) + 1)) = true
  val : ∀ p q, S p q = true → ∀ z, D.atKey (kl p ((q : Int) + 1)) z = .held (f p q)
  keys : ∀ l, Maps.has D l = true → ∃ p q : Nat, l = kl (p : Int) ((q : Int) + 1) ∧ S p q = true
theorem MapOf.empty (f : Nat → Nat → Value) : MapOf (.map []) (fun _ _ => false) f :=
  ⟨⟨_, rfl⟩, (fun _ _ h => by cases h), (fun _ _ h => by cases h), (fun _ _ h => by cases h), (fun l h => by cases h)⟩
theorem MapOf.congr {D : DataW Value} {S S' : Nat → Nat → Bool} {f f' : Nat → Nat → Value} (h : MapOf D S f) (hs : ∀ p q, S' p q = S p q) (hf : ∀ p q, S p q = true → f' p q = f p q) : MapOf D S' f' :=
  ⟨h.isMap, fun p q e => h.low p q (by rw [← hs]; exact e), fun p q e => h.has p q (by rw [← hs]; exact e), fun p q e z => by rw [hs] at e; rw [hf p q e]; exact h.val p q e z, fun l hl => by
    obtain ⟨p, q, e, hS⟩ := h.keys l hl
    exact ⟨p, q, e, by rw [hs]; exact hS⟩⟩
theorem kl_ne {p q p' q' : Nat} (h1 : p ≤ 1048576 ∧ q ≤ 1048576) (h2 : p' ≤ 1048576 ∧ q' ≤ 1048576) (h : ¬ (p = p' ∧ q = q')) : kl (p : Int) ((q : Int) + 1) ≠ kl (p' : Int) ((q' : Int) + 1) := by
  intro e
  obtain ⟨a, b⟩ := kl_inj (wf_small (by omega) (by omega)) (wf_small (by omega) (by omega)) (wf_small (by omega) (by omega)) (wf_small (by omega) (by omega)) e
  omega
theorem MapOf.put {D : DataW Value} {S : Nat → Nat → Bool} {f : Nat → Nat → Value} (h : MapOf D S f) {p q : Nat} (hl : p ≤ 1048576 ∧ q ≤ 1048576) {v : Value} (hv : f p q = v) :
    MapOf (D.put (kl p ((q : Int) + 1)) (.held v)) (fun p' q' => S p' q' || (decide (p' = p) && decide (q' = q))) f := by
  have hk : WideAt.IsKeyLit (kl p ((q : Int) + 1)) := instKeyed.key (keyOf_inst (wf_small (by omega) (by omega)) (wf_small (by omega) (by omega)))
  have hS : ∀ p' q', (S p' q' || (decide (p' = p) && decide (q' = q))) = true → (p' = p ∧ q' = q) ∨ S p' q' = true := fun p' q' hs => by
    rcases Bool.or_eq_true_iff.1 hs with hs | hs
    · exact .inr hs
    · simp at hs; exact .inl hs
  refine ⟨h.isMap.put _ _, fun p' q' hs => ?_, fun p' q' hs => ?_, fun p' q' hs z => ?_, fun l hl' => ?_⟩
  · rcases hS p' q' hs with ⟨rfl, rfl⟩ | hs
    · exact hl
    · exact h.low p' q' hs
  · by_cases e : p' = p ∧ q' = q
    · obtain ⟨rfl, rfl⟩ := e
      exact Maps.has_put_same h.isMap hk _
    · have hs' := (hS p' q' hs).resolve_left e
      rw [Maps.has_put_other (kl_ne (h.low _ _ hs') hl e)]
      exact h.has p' q' hs'
  · by_cases e : p' = p ∧ q' = q
    · obtain ⟨rfl, rfl⟩ := e
      rw [Maps.atKey_put_same h.isMap hk, hv]
    · have hs' := (hS p' q' hs).resolve_left e
      rw [Maps.atKey_put_other (kl_ne (h.low _ _ hs') hl e)]
      exact h.val p' q' hs' z
  · by_cases e : l = kl p ((q : Int) + 1)
    · refine ⟨p, q, e, ?_⟩
      simp
    · rw [Maps.has_put_other e] at hl'
      obtain ⟨p', q', e', hs⟩ := h.keys l hl'
      refine ⟨p', q', e', ?_⟩
      simp [hs]
theorem MapOf.del {D : DataW Value} {S : Nat → Nat → Bool} {f : Nat → Nat → Value} (h : MapOf D S f) {p q : Nat} (hl : p ≤ 1048576 ∧ q ≤ 1048576) :
    MapOf (D.del (kl p ((q : Int) + 1))) (fun p' q' => S p' q' && !(decide (p' = p) && decide (q' = q))) f := by
  have hS : ∀ p' q', (S p' q' && !(decide (p' = p) && decide (q' = q))) = true → S p' q' = true ∧ ¬ (p' = p ∧ q' = q) := fun p' q' hs => by
    simp at hs
    exact ⟨hs.1, by omega⟩
  refine ⟨h.isMap.del _, fun p' q' hs => h.low p' q' (hS p' q' hs).1, fun p' q' hs => ?_, fun p' q' hs z => ?_, fun l hl' => ?_⟩
  · obtain ⟨hs, e⟩ := hS p' q' hs
    rw [Maps.has_del_other (kl_ne (h.low _ _ hs) hl e)]
    exact h.has p' q' hs
  · obtain ⟨hs, e⟩ := hS p' q' hs
    rw [Maps.atKey_del_other (kl_ne (h.low _ _ hs) hl e)]
    exact h.val p' q' hs z
  · by_cases e : l = kl p ((q : Int) + 1)
    · subst e
      rw [Maps.has_del_same] at hl'
      cases hl'
    · rw [Maps.has_del_other e] at hl'
      obtain ⟨p', q', e', hs⟩ := h.keys l hl'
      refine ⟨p', q', e', ?_⟩
      simp only [hs, Bool.true_and, Bool.not_eq_true']
      by_cases e2 : p' = p ∧ q' = q
      · obtain ⟨rfl, rfl⟩ := e2
        exact absurd e' e
      · simpa using e2

/-! ### kept -/
theorem Ext.grownNone {w w' : World} (e : Ext w w') : w.grownBy w' none := ⟨e.os, e.tape, e.output, e.size, fun k hk _ => Below.block e k hk⟩
abbrev RowMap (w : World) (b n : Nat) (D : DataW Value) : Prop := w.ownsMap Try.prog 84 asIs b n D
abbrev RowRange (w : World) (b r n : Nat) (D : DataW Value) (left : Lit → Bool) (cnt : Nat) : Prop := w.ranges Try.prog 84 asIs b r n D left cnt
theorem RowMap.ext {w w' : World} {b n : Nat} {D : DataW Value} (h : RowMap w b n D) (e : Ext w w') : RowMap w' b n D := h.kept e.grownNone (by simp)
theorem RowRange.ext {w w' : World} {b r n : Nat} {D : DataW Value} {left : Lit → Bool} {cnt : Nat} (h : RowRange w b r n D left cnt) (e : Ext w w') : RowRange w' b r n D left cnt := h.kept e.grownNone (by simp) (by simp)

/-- THE STEP of a range over such a map. -/
theorem wpList_next_inst (w : World) {ops : Array Oper} {rest : List Oper} {o : Oper} {a : Act} {Q : Exit → Act → World → Prop} (hg : o.guard = none) (it : Operand) (hop : o.op = Op.next it false)
    (b r n : Nat) (D : DataW Value) (left : Lit → Bool) (cnt : Nat) (S : Nat → Nat → Bool) (f : Nat → Nat → Value)
    (hit : a.eval it = .pointer (some ⟨r, 0, none⟩)) (h : RowRange w b r n D left cnt) (hM : MapOf D S f)
    (hDone : (∀ l, left l = false) → wpList Try.prog ops Q rest (a.put o.dst (.tuple #[.bool false])) w)
    (hMore : ∀ (p q : Nat) (w' : World) (cnt' : Nat), S p q = true → left (kl p ((q : Int) + 1)) = true → RowRange w' b r n D (fun z => left z && !z.sameKey (kl p ((q : Int) + 1))) cnt' → cnt' < cnt →
      w.grownBy w' (some r) → w'.heap.size = w.heap.size → (Instr.entry (.pointer (some ⟨r, 0, none⟩))).run Try.prog w' = .ok (.tuple #[.agg #[.int .i64 p, .int .i64 ((q : Int) + 1)], f p q]) w' →
        wpList Try.prog ops Q rest (a.put o.dst (.tuple #[.bool true, .agg #[.int .i64 p, .int .i64 ((q : Int) + 1)], f p q])) w') :
    wpList Try.prog ops Q (o :: rest) a w := by
  refine wpList_next_ranges w hg it hop 84 instKeyed asIs (fun x : Int × Int => instV x.1 x.2) (fun v : Value => v) (fun key l hk => ?_) (fun v y _ => ⟨v, rfl⟩) b r n D left cnt hit h (fun _ hl => hDone hl) ?_
  · obtain ⟨x, y, hv, _⟩ := keyOf_inst_inv hk
    exact ⟨(x, y), hv⟩
  · intro x c l y w' cnt' hkey hlk hv hat hrg hlt hgr hsz hen
    obtain ⟨x1, x2⟩ := x
    obtain ⟨a', b', e1, e2, wa, wb⟩ := keyOf_inst_inv hkey
    simp only [instV] at e1 hen
    obtain ⟨p, q, e3, hS⟩ := hM.keys l (Maps.has_true_of_atKey hat)
    have hlow := hM.low p q hS
    have hinj := kl_inj wa wb (wf_small (by omega) (by omega)) (wf_small (by omega) (by omega)) (e2.symm.trans e3)
    obtain ⟨rfl, rfl⟩ := hinj
    simp only [Value.agg.injEq, Array.mk.injEq, List.cons.injEq, Value.int.injEq, true_and, and_true] at e1
    obtain ⟨rfl, rfl⟩ := e1
    rw [e3] at hat hlk hrg
    have hc := (hM.val p q hS .nil).symm.trans (hat .nil)
    simp only [asIs, Option.some.injEq] at hv
    rw [← hv] at hc
    simp only [DataW.held.injEq] at hc
    rw [← hc] at hen ⊢
    exact hMore p q w' cnt' hS hlk hrg hlt hgr hsz hen


end Go.Proofs.Ytjkmhphnefpdoaa

namespace Go.Proofs.Ytjkmhphnefpdoaa
open Go.RowKit
set_option linter.unusedVariables false

/-- An instance's two cells. -/
def cellsI (x : Nat × Nat) : List Value := [.int .i64 x.1, .int .i64 ((x.2 : Int) + 1)]
def flatI (L : List (Nat × Nat)) : List Value := L.flatMap cellsI
theorem flatI_len (L : List (Nat × Nat)) : (flatI L).length = L.length * 2 := by
  unfold flatI
  induction L with
  | nil => rfl
  | cons x t ih => rw [List.flatMap_cons, List.length_append, ih]; simp [cellsI]; omega
theorem flatI_at {L : List (Nat × Nat)} {j : Nat} (h : j < L.length) : (flatI L)[j * 2]? = some (.int .i64 (L[j].1 : Int)) ∧ (flatI L)[j * 2 + 1]? = some (.int .i64 ((L[j].2 : Int) + 1)) := by
  induction L generalizing j with
  | nil => simp at h
  | cons x t ih =>
    unfold flatI
    rw [List.flatMap_cons]
    cases j with
    | zero => simp [cellsI]
    | succ j =>
      have h' : j < t.length := by simpa using h
      obtain ⟨i1, i2⟩ := ih h'
      unfold flatI at i1 i2
      have e1 : (j + 1) * 2 = (cellsI x).length + j * 2 := by simp [cellsI]; omega
      refine ⟨?_, ?_⟩
      · rw [e1, List.getElem?_append_right (by omega), Nat.add_sub_cancel_left, i1]
        simp
      · rw [e1, Nat.add_assoc, List.getElem?_append_right (by omega), Nat.add_sub_cancel_left, i2]
        simp

/-- v is a slice of instances of a block that was made from block number B on. -/
def FreshIn (B : Nat) (w : World) (v : Value) (L : List (Nat × Nat)) : Prop := w.ownsRow B 84 2 v L.length (flatI L)
theorem FreshIn.nil (B : Nat) (w : World) : FreshIn B w (.slice none 0 0) [] := ⟨rfl, .inl ⟨rfl, rfl⟩⟩
theorem FreshIn.ext {B : Nat} {w w' : World} {v : Value} {L : List (Nat × Nat)} (h : FreshIn B w v L) (e : Ext w w') : FreshIn B w' v L := e.ownsRow h

/-- v is a slice that reads as the instances L in w. -/
def InstsAt (w : World) (v : Value) (L : List (Nat × Nat)) : Prop :=
  ∃ ao cap, v = .slice ao L.length cap ∧ L.length ≤ maxLen ∧ (L.length ≤ cap ∧ cap ≤ maxLen ∧ (ao = none → cap = 0)) ∧
    (0 < L.length → ∃ b off, ao = some ⟨b, off, none⟩ ∧ ∀ j (h : j < L.length), w.cell? ⟨b, off + j * 2, none⟩ = some (.int .i64 (L[j].1 : Int)) ∧ w.cell? ⟨b, off + j * 2 + 1, none⟩ = some (.int .i64 ((L[j].2 : Int) + 1)))
theorem InstsAt.ext {w w' : World} {v : Value} {L : List (Nat × Nat)} (h : InstsAt w v L) (e : Ext w w') : InstsAt w' v L := by
  obtain ⟨ao, cap, hv, hm, hcap, hc⟩ := h
  refine ⟨ao, cap, hv, hm, hcap, fun hp => ?_⟩
  obtain ⟨b, off, ha, hc⟩ := hc hp
  exact ⟨b, off, ha, fun j hj => ⟨e.cell (hc j hj).1, e.cell (hc j hj).2⟩⟩
theorem FreshIn.at {B : Nat} {w : World} {v : Value} {L : List (Nat × Nat)} (h : FreshIn B w v L) : InstsAt w v L := by
  rcases h.2 with ⟨rfl, hn⟩ | ⟨g, cap, cur, rfl, hb, hg, hnc, hcm, hcs, htake⟩
  · obtain rfl : L = [] := List.eq_nil_of_length_eq_zero hn
    exact ⟨none, 0, rfl, by simp, ⟨by simp, by simp, fun _ => rfl⟩, fun h => by simp at h⟩
  · refine ⟨some ⟨g, 0, none⟩, cap, rfl, by omega, ⟨by omega, by omega, fun h => by cases h⟩, fun _ => ⟨g, 0, rfl, fun j hj => ?_⟩⟩
    have hc1 := World.ownsRow.cellAt h (j * 2) (by omega)
    have hc2 := World.ownsRow.cellAt h (j * 2 + 1) (by omega)
    obtain ⟨f1, f2⟩ := flatI_at hj
    rw [Nat.zero_add]
    exact ⟨hc1.trans f1, hc2.trans f2⟩

theorem Try.infoInst : (Try.prog.info? 84).map (fun i => (i.zero, i.size, i.bytes)) = some (some (.agg #[.int .i64 0, .int .i64 0]), 2, 16) := by kernel_rfl

end Go.Proofs.Ytjkmhphnefpdoaa
