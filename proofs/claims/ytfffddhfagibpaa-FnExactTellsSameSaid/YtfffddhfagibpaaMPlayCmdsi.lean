/- Texts of this proof, part i: words, plain facts, contracts. -/
import Derived.Test.YtfffddhfagibpaaMPlayCmdsh
import Derived.Test.YtfffddhfagibpaaMPlayCmdsg
import Derived.StillTailTactics
import Derived.Deep.DeepCutAuto
import Derived.Test.YtfffddhfagibpaaMPlayCmdsc

namespace Go.Proofs.Ytfffddhfagibpaa
open Go.RowKit Go.Maps
set_option linter.unusedVariables false

def ksAt (A : List CmdD) : Nat → List CmdD
  | 0 => []
  | k + 1 => putK (ksAt A k) (cdAt A k)
def fAt (A : List CmdD) : Nat → CmdD → TldD
  | 0 => fun _ => ⟨0, 0⟩
  | k + 1 => putF (fAt A k) (cdAt A k) (tdAt (toldN A A.length) k)
def PlayedE (A : List CmdD) (w : World) (e : Ending) (w' : World) : Prop :=
  ∃ v b n D, e = .returned (.tuple #[v, .map (some b), .bool (decide ((ksAt A A.length).length = A.length))]) ∧ Ints w' v (sumsAt A A.length) ∧ CdMap w' b n D ∧ MapC D (ksAt A A.length) (fAt A A.length) ∧ w.heap.size ≤ b ∧ Ext w w'

set_option maxRecDepth 100000 in
set_option maxHeartbeats 4000000 in
theorem playOnce_yes (v : Value) (A : List CmdD) (w : World) (hv : Cdz w v A) (hb : cmdsB A = true) :
    Calls Try.prog 59 #[v] w (PlayedE A w) := by
  have HP := Lib.hid (implPlay_yes v A w hv hb)
  have HV := Lib.hid hv
  obtain ⟨av, cv, rfl, _⟩ := id hv
  obtain ⟨h60, hg0⟩ := cmdsB_yes hb
  have HG := Lib.hid hg0
  have H60 := Lib.hid h60
  have hmm := @run_makeMap Try.prog
  clear hv hb hg0
  go_enter Try.func59, Try.ntmps59
  go_wp2_with fail
  refine HP.out.mono ?_
  rintro e w1 ⟨v1, u1, rfl, f1, t1, x1⟩
  have I1 := Lib.hid f1.ints
  have T1 := Lib.hid t1.reads
  have X1 := Lib.hid x1
  obtain ⟨ata, ca, rfl, _⟩ : ∃ a c, u1 = .slice a (toldN A A.length).length c ∧ True := by
    obtain ⟨a, c, h, _⟩ := T1.out
    exact ⟨a, c, h, trivial⟩
  rw [toldN_len]
  have hx0 : Ext w1 (w1.alloc (.map #[] 0)) := Ext.alloc (Ext.refl _) _
  have hm0 : CdMap (w1.alloc (.map #[] 0)) w1.heap.size 0 (.map []) := by
    have h := World.ownsMap_made w1 Try.prog 35 asIsC
    simpa using h
  have HX0 := Lib.hid hx0
  have HM0 := Lib.hid hm0
  have HBW := Lib.hid (Ext.size x1)
  clear f1 t1 x1 hx0 hm0
  go_wp2
  go_loopw [9, 10, 22] (fun _ _ i wr => ∃ (k : Nat) (D : DataW Value), k ≤ A.length ∧ i = .int .i64 k ∧ Hid (CdMap wr w1.heap.size k D) ∧ Hid (MapC D (ksAt A k) (fAt A k)) ∧ Hid (Ext w1 wr)) (fun _ _ i _ => A.length - (intOf i).toNat)
  case atStart => exact ⟨0, _, Nat.zero_le _, rfl, HM0, Lib.hid (MapC.empty _), HX0⟩
  case round =>
    clear HM0 HX0
    obtain ⟨k, D, hk, rfl, HM, HD, HX⟩ := hrel
    by_cases hlt : k < A.length
    · obtain ⟨bu, ou, du⟩ : ∃ b off, av = some ⟨b, off, none⟩ ∧ CdIn w b (off + k * 5) (cdAt A k) := by
        obtain ⟨ao, c, h, _, _, hc⟩ := HV.out
        obtain ⟨b, off, rfl, hd⟩ := hc (by omega)
        injection h with h1 h2 h3
        exact ⟨b, off, h1, by rw [cdAt_eq hlt]; exact hd k hlt⟩
      obtain ⟨bt, ot, dt⟩ : ∃ b off, ata = some ⟨b, off, none⟩ ∧ TdIn w1 b (off + k * 2) (tdAt (toldN A A.length) k) := by
        obtain ⟨ao, c, h, _, _, hc⟩ := T1.out
        obtain ⟨b, off, rfl, hd⟩ := hc (by rw [toldN_len]; omega)
        injection h with h1 h2 h3
        exact ⟨b, off, h1, by rw [tdAt_eq (by rw [toldN_len]; exact hlt)]; exact hd k (by rw [toldN_len]; exact hlt)⟩
      obtain ⟨rfl, du⟩ := du
      obtain ⟨rfl, dt⟩ := dt
      have hwf : wfC (cdAt A k) := good_wf (by rw [cdAt_eq hlt]; exact HG.out k hlt)
      have hnext := HD.out.put hwf (tdAt (toldN A A.length) k)
      obtain ⟨c, hc⟩ : ∃ c, c = cdAt A k := ⟨_, rfl⟩
      obtain ⟨x, hx⟩ : ∃ x, x = tdAt (toldN A A.length) k := ⟨_, rfl⟩
      have HN : Hid (MapC (D.put (kC c) (.held (tdV x))) (ksAt A (k + 1)) (fAt A (k + 1))) := Lib.hid (by rw [hc, hx]; exact hnext)
      rw [← hc] at du hwf
      rw [← hx] at dt
      obtain ⟨p0, p1, p2, p3, p4⟩ := cdIn_cells (du.ext (X1.out.trans HX.out))
      obtain ⟨w5, hw5⟩ : ∃ w5, w5 = wr.alloc (.cells #[.int .i64 c.k, .int .i64 c.i, .int .i64 c.f, .int .i64 c.t, .int .i64 c.a] 35) := ⟨_, rfl⟩
      have x5 : Ext wr w5 := by rw [hw5]; exact Ext.alloc (Ext.refl _) _
      have hn : BoxV w5 wr.heap.size [.int .i64 c.k, .int .i64 c.i, .int .i64 c.f, .int .i64 c.t, .int .i64 c.a] := by rw [hw5]; exact boxV_new _ _ _
      have q0 := hn.cell 0 _ rfl
      have q1 := hn.cell 1 _ rfl
      have q2 := hn.cell 2 _ rfl
      have q3 := hn.cell 3 _ rfl
      have q4 := hn.cell 4 _ rfl
      obtain ⟨t0, t1⟩ := tdIn_cells (dt.ext (HX.out.trans x5))
      have HWF := Lib.hid hwf
      have k1 : (k : Int) < (A.length : Int) := by omega
      have k0 : (0 : Int) ≤ (k : Int) := by omega
      have X5 := Lib.hid (HX.out.trans x5)
      have M5 := Lib.hid (CdMap.ext HM.out x5)
      have HW5 := Lib.hid hw5
      have hk60 : k < 60 := by omega
      clear du dt hwf hnext hc hx hn hw5 x5 HD HM
      go_upto_region 8 with fail
      rw [← HW5.out]
      clear p0 p1 p2 p3 p4
      go_still_tail 6, (by kernel_rfl)
      change wpList _ _ _ _ _ w5.drew
      obtain ⟨w6, hw6⟩ : ∃ w6, w6 = w5.drew := ⟨_, rfl⟩
      have x6 : Ext w5 w6 := by rw [hw6]; exact Ext.drew (Ext.refl _)
      have M6 := Lib.hid (CdMap.ext M5.out x6)
      have X6 := Lib.hid (X5.out.trans x6)
      rw [← hw6]
      clear hw6 x6 q0 q1 q2 q3 q4 t0 t1
      go_wp2_with (at_mapUpdate; refine wpList_mapUpdate_own _ rfl _ _ _ 94 rfl 35 32 cdKeyed Try.underlying94 asIsC w1.heap.size k D rfl M6.out (by unfold maxLen; omega) _ _ (kC c) rfl rfl (keyOf_cd HWF.out) (.held (tdV x)) [] rfl ?_)
      intro w7 hown hgrow
      have HO := Lib.hid hown
      have X7 : Hid (Ext w1 w7) := Lib.hid (Below.grown X6.out hgrow (Ext.size X6.out) (fun q hq => by cases hq; exact Nat.le_refl _))
      clear hown hgrow
      go_wp2
      go_roundw
      case rel => exact ⟨k + 1, _, by omega, by go_num, HO, HN, X7⟩
      case measure => simp [intOf]; omega
    · obtain rfl : k = A.length := by omega
      have hsz := HD.out.size
      obtain ⟨sz, hs⟩ : ∃ s, s = Maps.size D := ⟨_, rfl⟩
      have HSZ : Hid (((sz : Int) == (A.length : Int)) = decide ((ksAt A A.length).length = A.length)) := Lib.hid (by
        rw [hs, hsz]
        by_cases e : (ksAt A A.length).length = A.length
        · rw [e]; simp
        · rw [decide_eq_false e]; simp; omega)
      have HS := Lib.hid hs
      have hI := Lib.hid (I1.out.ext HX.out)
      have hX := Lib.hid (X1.out.trans HX.out)
      clear hsz hs
      go_wp2_with (at_len; refine wpList_len_own _ rfl _ 94 rfl 35 32 Try.underlying94 asIsC w1.heap.size A.length D rfl HM.out ?_; rw [← HS.out])
      go_ret3
      exact ⟨_, _, _, _, by rw [← HSZ.out]; rfl, hI.out, HM.out, HD.out, HBW.out, hX.out⟩

set_option maxRecDepth 100000 in
set_option maxHeartbeats 4000000 in
theorem playOnce_no (v : Value) (A : List CmdD) (w : World) (hv : Cdz w v A) (hb : cmdsB A = false) :
    Calls Try.prog 59 #[v] w (fun e w' => e = .returned (.tuple #[.slice none 0 0, .map none, .bool false]) ∧ Ext w w') := by
  have HP := Lib.hid (implPlay_no v A w hv hb)
  clear hv hb
  go_enter Try.func59, Try.ntmps59
  go_wp2_with fail
  refine HP.out.mono ?_
  rintro e w1 ⟨rfl, x1⟩
  go_wp2
  go_ret3
  exact ⟨rfl, x1⟩

end Go.Proofs.Ytfffddhfagibpaa

namespace Go.Proofs.Ytfffddhfagibpaa
open Go.RowKit Go.Maps
set_option linter.unusedVariables false

theorem left_less {left : Lit → Bool} {d : CmdD} : ∀ z, (left z && !z.sameKey (kC d)) = true → left z = true := fun z h => by
  simp only [Bool.and_eq_true] at h
  exact h.1
/-- All that was met lies in the other map. -/
def metIn (ks ls : List CmdD) (left : Lit → Bool) : Prop := ∀ d ∈ ks, left (kC d) = false → d ∈ ls
theorem sameKey_self {d : CmdD} (h : wfC d) : (kC d).sameKey (kC d) = true := WideAt.sameKey_self (cdKeyed.key (keyOf_cd h))
theorem asIsC_inv {v x : Value} {ps : List MemPlace} (h : asIsC v = some (.held x, ps)) : x = v := by
  unfold asIsC at h
  simp at h
  exact h.1.symm
theorem metIn_step {ks ls : List CmdD} {left : Lit → Bool} {d : CmdD} (h : metIn ks ls left) (hw : ∀ x ∈ ks, wfC x) (hd : wfC d) (hl : d ∈ ls) : metIn ks ls (fun z => left z && !z.sameKey (kC d)) := by
  intro x hx hf
  by_cases e : x = d
  · subst e; exact hl
  · refine h x hx ?_
    cases hq : left (kC x) with
    | false => rfl
    | true =>
      dsimp only at hf
      rw [hq] at hf
      have hs : (kC x).sameKey (kC d) = true := by simpa using hf
      exact absurd (kC_inj (hw x hx) hd (WideAt.sameKey_eq hs)) e
def subB (ks ls : List CmdD) : Bool := ks.all fun d => ls.any fun x => eqC x d
theorem subB_iff {ks ls : List CmdD} : subB ks ls = true ↔ ∀ d ∈ ks, d ∈ ls := by
  unfold subB
  rw [List.all_eq_true]
  exact ⟨fun h d hd => any_mem.1 (h d hd), fun h d hd => any_mem.2 (h d hd)⟩
def sameKeysB (ks ls : List CmdD) : Bool := subB ks ls && decide (ks.length = ls.length)

set_option maxRecDepth 100000 in
set_option maxHeartbeats 4000000 in
theorem haveSameKeys_any (b1 b2 n1 n2 : Nat) (D1 D2 : DataW Value) (ks ls : List CmdD) (f g : CmdD → TldD) (w : World) (h1 : CdMap w b1 n1 D1) (m1 : MapC D1 ks f) (h2 : CdMap w b2 n2 D2) (m2 : MapC D2 ls g) :
    Calls Try.prog 60 #[.map (some b1), .map (some b2)] w (BoolExt (sameKeysB ks ls) w) := by
  have H1 := Lib.hid h1
  have H2 := Lib.hid h2
  have M1 := Lib.hid m1
  have M2 := Lib.hid m2
  clear h1 h2 m1 m2
  go_enter Try.func60, Try.ntmps60
  go_wp2_with (first | (at_range; refine wpList_range_own _ rfl _ 94 rfl 35 32 cdKeyed Try.underlying94 asIsC b1 n1 D1 rfl H1.out ?_; intro w2 hrg2 hg2 hs2) | go_in)
  go_frame
  have R2 := Lib.hid hrg2
  have K2 : Hid (Ext w w2) := Lib.hid (ext_of_grown hg2)
  obtain ⟨r, hr⟩ : ∃ r, r = w.heap.size := ⟨_, rfl⟩
  have HR : Hid (w.heap.size ≤ r) := Lib.hid (by omega)
  rw [← hr] at R2 ⊢
  clear hrg2 hg2 hs2 hr
  go_loopw [5, 6, 7] (fun _ _ _ wr => ∃ (left : Lit → Bool) (cnt : Nat), Hid (CdRange wr b1 r n1 D1 left cnt) ∧ Hid (metIn ks ls left) ∧ Hid (Ext w wr)) (fun _ _ _ wr => wr.rangeLeft b1 r)
  case atStart => exact ⟨_, _, R2, Lib.hid (fun d hd hf => by rw [M1.out.has d hd] at hf; cases hf), K2⟩
  case round =>
    clear R2 K2
    obtain ⟨left, cnt, R, HM, K⟩ := hrel
    go_wp2_with (first | (at_next; refine wpList_next_cd _ rfl _ rfl b1 r n1 D1 left cnt ks f rfl R.out M1.out ?_ ?_) | go_in)
    · intro hl
      have HSUB : Hid (subB ks ls = true) := Lib.hid (subB_iff.2 (fun d hd => HM.out d hd (hl _)))
      have HB := Lib.hid (show sameKeysB ks ls = decide (Maps.size D1 = Maps.size D2) by unfold sameKeysB; rw [HSUB.out, Bool.true_and, M1.out.size, M2.out.size])
      have L1 := Lib.hid (CdMap.ext H1.out K.out)
      have L2 := Lib.hid (CdMap.ext H2.out K.out)
      clear HM R
      go_wp2_with (first | (at_len; refine wpList_len_own _ rfl _ 94 rfl 35 32 Try.underlying94 asIsC b1 n1 D1 rfl L1.out ?_) | (at_len; refine wpList_len_own _ rfl _ 94 rfl 35 32 Try.underlying94 asIsC b2 n2 D2 rfl L2.out ?_))
      go_ret
      refine ⟨?_, K.out⟩
      rw [HB.out]
      show Ending.returned (Value.bool (((Maps.size D1 : Nat) : Int) == ((Maps.size D2 : Nat) : Int))) = _
      by_cases e : Maps.size D1 = Maps.size D2
      · rw [e]; simp
      · rw [decide_eq_false e]
        congr 2
        simp; omega
    · intro d w3 cnt3 hd hlk hrg3 hlt hg3 hs3 hen
      have HD := Lib.hid hd
      have X3 : Hid (Ext w w3) := Lib.hid (Below.grown K.out hg3 (Ext.size K.out) (fun q hq => by cases hq; exact HR.out))
      have R3 := Lib.hid hrg3
      have HLT := Lib.hid hlt
      have HRO := Lib.hid R.out
      have wd := Lib.hid (M1.out.wf d hd)
      obtain ⟨w4, hw4⟩ : ∃ w4, w4 = w3.alloc (.cells #[.int .i64 d.k, .int .i64 d.i, .int .i64 d.f, .int .i64 d.t, .int .i64 d.a] 35) := ⟨_, rfl⟩
      have x4 : Ext w3 w4 := by rw [hw4]; exact Ext.alloc (Ext.refl _) _
      have X4 := Lib.hid (X3.out.trans x4)
      have R4 := Lib.hid (CdRange.ext R3.out x4)
      have L4 := Lib.hid (CdMap.ext H2.out (X3.out.trans x4))
      have hn : BoxV w4 w3.heap.size [.int .i64 d.k, .int .i64 d.i, .int .i64 d.f, .int .i64 d.t, .int .i64 d.a] := by rw [hw4]; exact boxV_new _ _ _
      have q0 := hn.cell 0 _ rfl
      have q1 := hn.cell 1 _ rfl
      have q2 := hn.cell 2 _ rfl
      have q3 := hn.cell 3 _ rfl
      have q4 := hn.cell 4 _ rfl
      have HW4 := Lib.hid hw4
      unfold cdV tdV at hen
      clear hn hw4 x4 hrg3 hg3 hs3 hlk hd hlt R R3 X3
      cases hin : Maps.has D2 (kC d) with
      | true =>
        have hdl := (M2.out.has_iff wd.out).1 hin
        have HV := Lib.hid (M2.out.val d hdl)
        have HSTEP := Lib.hid (metIn_step HM.out (M1.out.wf) wd.out hdl)
        go_upto_region 4 with fail
        rw [← HW4.out]
        go_wp2_with (at_lookup; refine wpList_lookup_own_ok _ rfl _ _ 94 rfl 35 32 cdKeyed Try.underlying94 asIsC (Try.zeroValue32 _) (.held (.agg #[.int .i64 0, .int .i64 0])) [] rfl b2 n2 D2 rfl L4.out _ (kC d) rfl (keyOf_cd wd.out) ?_; intro v ps hv; rw [HV.out] at hv; obtain rfl := asIsC_inv hv; unfold tdV; rw [hin])
        go_wp2
        go_roundw
        case rel => exact ⟨_, cnt3, Lib.hid (CdRange.ext R4.out (Ext.alloc (Ext.refl _) _)), HSTEP, Lib.hid (X4.out.alloc _)⟩
        case measure => rw [(CdRange.ext R4.out (Ext.alloc (Ext.refl _) _)).left_eq, HRO.out.left_eq]; exact HLT.out
      | false =>
        have hno : ¬ d ∈ ls := fun h => by rw [(M2.out.has_iff wd.out).2 h] at hin; cases hin
        have HB := Lib.hid (show sameKeysB ks ls = false by
          unfold sameKeysB
          cases e : subB ks ls with
          | false => rfl
          | true => exact absurd (subB_iff.1 e d HD.out) hno)
        have HV := Lib.hid (Maps.atKey_of_not_has hin)
        go_upto_region 4 with fail
        rw [← HW4.out]
        go_wp2_with (at_lookup; refine wpList_lookup_own_ok _ rfl _ _ 94 rfl 35 32 cdKeyed Try.underlying94 asIsC (Try.zeroValue32 _) (.held (.agg #[.int .i64 0, .int .i64 0])) [] rfl b2 n2 D2 rfl L4.out _ (kC d) rfl (keyOf_cd wd.out) ?_; intro v ps hv; rw [HV.out] at hv; obtain rfl := asIsC_inv hv; rw [hin])
        go_wp2
        go_ret
        exact ⟨by rw [HB.out]; rfl, X4.out.alloc _⟩

end Go.Proofs.Ytfffddhfagibpaa

namespace Go.Proofs.Ytfffddhfagibpaa
open Go.RowKit Go.Maps
set_option linter.unusedVariables false

def mapsB (ks ls : List CmdD) (f g : CmdD → TldD) : Bool := decide (ks.length = ls.length) && ks.all fun d => ls.any (fun x => eqC x d) && eqT (f d) (g d)
theorem mapsB_iff {ks ls : List CmdD} {f g : CmdD → TldD} : mapsB ks ls f g = true ↔ ks.length = ls.length ∧ ∀ d ∈ ks, d ∈ ls ∧ eqT (f d) (g d) = true := by
  unfold mapsB
  rw [Bool.and_eq_true, decide_eq_true_eq, List.all_eq_true]
  constructor
  · rintro ⟨h1, h2⟩
    refine ⟨h1, fun d hd => ?_⟩
    have h := h2 d hd
    rw [Bool.and_eq_true] at h
    exact ⟨any_mem.1 h.1, h.2⟩
  · rintro ⟨h1, h2⟩
    refine ⟨h1, fun d hd => ?_⟩
    rw [Bool.and_eq_true]
    exact ⟨any_mem.2 (h2 d hd).1, (h2 d hd).2⟩
/-- All that was met is in the other map, and told alike. -/
def metAs (ks ls : List CmdD) (f g : CmdD → TldD) (left : Lit → Bool) : Prop := ∀ d ∈ ks, left (kC d) = false → d ∈ ls ∧ eqT (f d) (g d) = true
theorem metAs_step {ks ls : List CmdD} {f g : CmdD → TldD} {left : Lit → Bool} {d : CmdD} (h : metAs ks ls f g left) (hw : ∀ x ∈ ks, wfC x) (hd : wfC d) (hl : d ∈ ls) (ht : eqT (f d) (g d) = true) : metAs ks ls f g (fun z => left z && !z.sameKey (kC d)) := by
  intro x hx hf
  by_cases e : x = d
  · subst e; exact ⟨hl, ht⟩
  · refine h x hx ?_
    cases hq : left (kC x) with
    | false => rfl
    | true =>
      dsimp only at hf
      rw [hq] at hf
      have hs : (kC x).sameKey (kC d) = true := by simpa using hf
      exact absurd (kC_inj (hw x hx) hd (WideAt.sameKey_eq hs)) e

set_option maxRecDepth 100000 in
set_option maxHeartbeats 4000000 in
theorem mapsEqual_any (b1 b2 n1 n2 : Nat) (D1 D2 : DataW Value) (ks ls : List CmdD) (f g : CmdD → TldD) (w : World) (h1 : CdMap w b1 n1 D1) (m1 : MapC D1 ks f) (h2 : CdMap w b2 n2 D2) (m2 : MapC D2 ls g) :
    Calls Try.prog 62 #[.map (some b1), .map (some b2)] w (BoolExt (mapsB ks ls f g) w) := by
  have H1 := Lib.hid h1
  have H2 := Lib.hid h2
  have M1 := Lib.hid m1
  have M2 := Lib.hid m2
  have hz1 := m1.size
  have hz2 := m2.size
  clear h1 h2 m1 m2
  by_cases hl : ks.length = ls.length
  · have hne : (((Maps.size D1 : Nat) : Int) != ((Maps.size D2 : Nat) : Int)) = false := by rw [hz1, hz2, hl]; simp
    have HL := Lib.hid hl
    clear hl hz1 hz2
    go_enter Try.func62, Try.ntmps62
    go_wp2_with (first | (at_len; refine wpList_len_own _ rfl _ 94 rfl 35 32 Try.underlying94 asIsC b1 n1 D1 rfl H1.out ?_) | (at_len; refine wpList_len_own _ rfl _ 94 rfl 35 32 Try.underlying94 asIsC b2 n2 D2 rfl H2.out ?_) | (at_range; refine wpList_range_own _ rfl _ 94 rfl 35 32 cdKeyed Try.underlying94 asIsC b1 n1 D1 rfl H1.out ?_; intro w2 hrg2 hg2 hs2) | go_in)
    go_frame
    have R2 := Lib.hid hrg2
    have K2 : Hid (Ext w w2) := Lib.hid (ext_of_grown hg2)
    obtain ⟨r, hr⟩ : ∃ r, r = w.heap.size := ⟨_, rfl⟩
    have HR : Hid (w.heap.size ≤ r) := Lib.hid (by omega)
    rw [← hr] at R2 ⊢
    clear hrg2 hg2 hs2 hr
    go_loopw [5, 6, 7, 8] (fun _ _ _ _ wr => ∃ (left : Lit → Bool) (cnt : Nat), Hid (CdRange wr b1 r n1 D1 left cnt) ∧ Hid (metAs ks ls f g left) ∧ Hid (Ext w wr)) (fun _ _ _ _ wr => wr.rangeLeft b1 r)
    case atStart => exact ⟨_, _, R2, Lib.hid (fun d hd hf => by rw [M1.out.has d hd] at hf; cases hf), K2⟩
    case round =>
      clear R2 K2
      obtain ⟨left, cnt, R, HM, K⟩ := hrel
      go_wp2_with (first | (at_next; refine wpList_next_cd _ rfl _ rfl b1 r n1 D1 left cnt ks f rfl R.out M1.out ?_ ?_) | go_in)
      · intro hl
        have HB := Lib.hid (show mapsB ks ls f g = true from mapsB_iff.2 ⟨HL.out, fun d hd => HM.out d hd (hl _)⟩)
        clear HM R
        go_wp2
        go_ret
        exact ⟨by rw [HB.out]; rfl, K.out⟩
      · intro d w3 cnt3 hd hlk hrg3 hlt hg3 hs3 hen
        have HD := Lib.hid hd
        have X3 : Hid (Ext w w3) := Lib.hid (Below.grown K.out hg3 (Ext.size K.out) (fun q hq => by cases hq; exact HR.out))
        have R3 := Lib.hid hrg3
        have HLT := Lib.hid hlt
        have HRO := Lib.hid R.out
        have wd := Lib.hid (M1.out.wf d hd)
        obtain ⟨x, hx⟩ : ∃ x, x = f d := ⟨_, rfl⟩
        rw [← hx] at hen ⊢
        obtain ⟨w4, hw4⟩ : ∃ w4, w4 = (w3.alloc (.cells #[.int .i64 d.k, .int .i64 d.i, .int .i64 d.f, .int .i64 d.t, .int .i64 d.a] 35)).alloc (.cells #[.int .i64 x.c, .int .i64 x.s] 32) := ⟨_, rfl⟩
        have x4 : Ext w3 w4 := by rw [hw4]; exact Ext.alloc (Ext.alloc (Ext.refl _) _) _
        have X4 := Lib.hid (X3.out.trans x4)
        have R4 := Lib.hid (CdRange.ext R3.out x4)
        have L4 := Lib.hid (CdMap.ext H2.out (X3.out.trans x4))
        have hn : BoxV w4 w3.heap.size [.int .i64 d.k, .int .i64 d.i, .int .i64 d.f, .int .i64 d.t, .int .i64 d.a] := by rw [hw4]; exact (boxV_new _ _ _).ext (Ext.alloc (Ext.refl _) _)
        have hn2 : BoxV w4 (w3.heap.size + 1) [.int .i64 x.c, .int .i64 x.s] := by
          rw [hw4]
          have h := boxV_new (w3.alloc (.cells #[.int .i64 d.k, .int .i64 d.i, .int .i64 d.f, .int .i64 d.t, .int .i64 d.a] 35)) [.int .i64 x.c, .int .i64 x.s] 32
          rw [World.size_alloc] at h
          exact h
        have q0 := hn.cell 0 _ rfl
        have q1 := hn.cell 1 _ rfl
        have q2 := hn.cell 2 _ rfl
        have q3 := hn.cell 3 _ rfl
        have q4 := hn.cell 4 _ rfl
        have HX := Lib.hid hx
        have N2 := Lib.hid hn2
        have HW4 := Lib.hid hw4
        unfold cdV tdV at hen
        clear hn hn2 hx hw4 x4 hrg3 hg3 hs3 hlk hd hlt R R3 X3
        cases hin : Maps.has D2 (kC d) with
        | true =>
          have hdl := (M2.out.has_iff wd.out).1 hin
          have HV := Lib.hid (M2.out.val d hdl)
          obtain ⟨y, hy⟩ : ∃ y, y = g d := ⟨_, rfl⟩
          rw [← hy] at HV
          have HY := Lib.hid hy
          clear hy
          obtain ⟨w5, hw5⟩ : ∃ w5, w5 = w4.alloc (.cells #[.int .i64 y.c, .int .i64 y.s] 32) := ⟨_, rfl⟩
          have x5 : Ext w4 w5 := by rw [hw5]; exact Ext.alloc (Ext.refl _) _
          have hn5 : BoxV w5 w4.heap.size [.int .i64 y.c, .int .i64 y.s] := by rw [hw5]; exact boxV_new _ _ _
          have t0 := hn5.cell 0 _ rfl
          have t1 := hn5.cell 1 _ rfl
          have s0 := (N2.out.ext x5).cell 0 _ rfl
          have s1 := (N2.out.ext x5).cell 1 _ rfl
          have R5 := Lib.hid (CdRange.ext R4.out x5)
          have X5 := Lib.hid (X4.out.trans x5)
          have HW5 := Lib.hid hw5
          have hq := fun W => equalTd x y W
          clear hn5 hw5 x5
          go_upto_region 6 with fail
          rw [← HW4.out]
          go_upto_region 7 with (at_lookup; refine wpList_lookup_own_ok _ rfl _ _ 94 rfl 35 32 cdKeyed Try.underlying94 asIsC (Try.zeroValue32 _) (.held (.agg #[.int .i64 0, .int .i64 0])) [] rfl b2 n2 D2 rfl L4.out _ (kC d) rfl (keyOf_cd wd.out) ?_; intro v ps hv; rw [HV.out] at hv; obtain rfl := asIsC_inv hv; unfold tdV; rw [hin])
          rw [← HW5.out]
          cases ht : eqT x y with
          | true =>
            rw [ht] at hq
            have HSTEP := Lib.hid (metAs_step HM.out (M1.out.wf) wd.out hdl (by rw [← HX.out, ← HY.out]; exact ht))
            clear hdl
            go_wp2
            go_roundw
            case rel => exact ⟨_, cnt3, R5, HSTEP, X5⟩
            case measure => rw [R5.out.left_eq, HRO.out.left_eq]; exact HLT.out
          | false =>
            rw [ht] at hq
            have HB := Lib.hid (show mapsB ks ls f g = false by
              cases e : mapsB ks ls f g with
              | false => rfl
              | true =>
                have := ((mapsB_iff.1 e).2 d HD.out).2
                rw [← HX.out, ← HY.out, ht] at this
                cases this)
            clear hdl
            go_wp2
            go_ret
            exact ⟨by rw [HB.out]; rfl, X5.out⟩
        | false =>
          have hno : ¬ d ∈ ls := fun h => by rw [(M2.out.has_iff wd.out).2 h] at hin; cases hin
          have HB := Lib.hid (show mapsB ks ls f g = false by
            cases e : mapsB ks ls f g with
            | false => rfl
            | true => exact absurd ((mapsB_iff.1 e).2 d HD.out).1 hno)
          have HV := Lib.hid (Maps.atKey_of_not_has hin)
          go_upto_region 6 with fail
          rw [← HW4.out]
          go_wp2_with (at_lookup; refine wpList_lookup_own_ok _ rfl _ _ 94 rfl 35 32 cdKeyed Try.underlying94 asIsC (Try.zeroValue32 _) (.held (.agg #[.int .i64 0, .int .i64 0])) [] rfl b2 n2 D2 rfl L4.out _ (kC d) rfl (keyOf_cd wd.out) ?_; intro v ps hv; rw [HV.out] at hv; obtain rfl := asIsC_inv hv; rw [hin])
          go_ret
          exact ⟨by rw [HB.out]; rfl, X4.out.alloc _⟩
  · have hne : (((Maps.size D1 : Nat) : Int) != ((Maps.size D2 : Nat) : Int)) = true := by rw [hz1, hz2]; simp; omega
    have HB := Lib.hid (show mapsB ks ls f g = false by
      cases e : mapsB ks ls f g with
      | false => rfl
      | true => exact absurd (mapsB_iff.1 e).1 hl)
    clear hl hz1 hz2
    go_enter Try.func62, Try.ntmps62
    go_wp2_with (first | (at_len; refine wpList_len_own _ rfl _ 94 rfl 35 32 Try.underlying94 asIsC b1 n1 D1 rfl H1.out ?_) | (at_len; refine wpList_len_own _ rfl _ 94 rfl 35 32 Try.underlying94 asIsC b2 n2 D2 rfl H2.out ?_))
    go_ret
    exact ⟨by rw [HB.out]; rfl, Ext.refl _⟩

end Go.Proofs.Ytfffddhfagibpaa

namespace Go.Proofs.Ytfffddhfagibpaa
open Go.RowKit
set_option linter.unusedVariables false

set_option maxHeartbeats 1000000 in
theorem equalInts_any (u v : Value) (l r : List Int) (w : World) (hu : Ints w u l) (hv : Ints w v r) :
    Calls Try.prog 61 #[u, v] w (BoolExt (decide (l = r)) w) := by
  obtain ⟨au, cu, rfl, hlu, _, hcu⟩ := hu
  obtain ⟨av, cv, rfl, hlv, _, hcv⟩ := hv
  unfold maxLen at hlu hlv
  by_cases hl : l.length = r.length
  · have e0 : ((l.length : Int) != (r.length : Int)) = false := by simp [hl]
    have HL := Lib.hid hl
    clear hl
    go_enter Try.func61, Try.ntmps61
    go_wp2
    go_loopw [5, 13] (fun _ i wr => ∃ k : Nat, k ≤ l.length ∧ i = .int .i64 k ∧ l.take k = r.take k ∧ ∃ nq, wr = w.drewN nq) (fun _ i _ => l.length - (intOf i).toNat)
    case atStart => exact ⟨0, Nat.zero_le _, rfl, rfl, 0, rfl⟩
    case round =>
      obtain ⟨k, hk, rfl, ht, nq0, rfl⟩ := hrel
      have HT := Lib.hid ht
      clear ht
      by_cases hlt : k < l.length
      · have hltr : k < r.length := by have := HL.out; omega
        obtain ⟨bu, ou, rfl, du⟩ := hcu (by omega)
        obtain ⟨bv, ov, rfl, dv⟩ := hcv (by omega)
        have gu := du k hlt
        have gv := dv k hltr
        clear hcu hcv du dv
        go_wp2_with fail
        go_quiet (fail)
        by_cases he : l[k] = r[k]
        · have e1 : (l[k] != r[k]) = false := by simp [he]
          have HE := Lib.hid he
          clear he
          go_wp2
          go_roundw
          case rel => exact ⟨k + 1, by omega, by go_num, take_eq_succ hlt hltr HT.out (by simpa [hlt, hltr] using HE.out), _, rfl⟩
          case measure => simp [intOf]; omega
        · have e1 : (l[k] != r[k]) = true := by simp [he]
          have HE := Lib.hid he
          clear he
          go_wp2
          go_ret
          refine ⟨?_, by repeat (first | exact Ext.refl _ | apply Ext.drewN)⟩
          have hne : decide (l = r) = false := decide_eq_false (fun h => HE.out (by subst h; rfl))
          rw [hne]; rfl
      · have hk' : k = l.length := by omega
        subst hk'
        go_wp2
        go_ret
        refine ⟨?_, by repeat (first | exact Ext.refl _ | apply Ext.drewN)⟩
        have he : decide (l = r) = true := by
          have h := HT.out
          rw [List.take_length, HL.out, List.take_length] at h
          exact decide_eq_true h
        rw [he]; rfl
  · have e0 : ((l.length : Int) != (r.length : Int)) = true := by simp; omega
    have HL := Lib.hid hl
    clear hl
    go_enter Try.func61, Try.ntmps61
    go_wp2
    go_ret
    refine ⟨?_, Ext.refl w⟩
    have hne : decide (l = r) = false := decide_eq_false (fun h => HL.out (by rw [h]))
    rw [hne]; rfl

end Go.Proofs.Ytfffddhfagibpaa

namespace Go.Proofs.Ytfffddhfagibpaa
open Go.RowKit Go.Maps
set_option linter.unusedVariables false

def dupFree (A : List CmdD) : Bool := decide ((ksAt A A.length).length = A.length)
def implOk (A B : List CmdD) : Bool := (cmdsB A && cmdsB B) && ((dupFree A && dupFree B) && sameKeysB (ksAt A A.length) (ksAt B B.length))
def implIs (A B : List CmdD) : Bool := decide (sumsAt A A.length = sumsAt B B.length) && mapsB (ksAt A A.length) (ksAt B B.length) (fAt A A.length) (fAt B B.length)

set_option maxRecDepth 100000 in
set_option maxHeartbeats 4000000 in
theorem implTells_any (u v : Value) (A B : List CmdD) (w : World) (hu : Cdz w u A) (hv : Cdz w v B) :
    Calls Try.prog 34 #[u, v] w (TwoB (implOk A B && implIs A B) (implOk A B) w) := by
  have HV := Lib.hid hv
  cases ha : cmdsB A with
  | false =>
    have HN := Lib.hid (show implOk A B = false by unfold implOk; rw [ha]; rfl)
    have CA := Lib.hid (playOnce_no u A w hu ha)
    cases hb : cmdsB B with
    | false =>
      have CB := Lib.hid (fun W (x : Ext w W) => playOnce_no v B W (HV.out.ext x) hb)
      clear hu hv ha hb
      go_enter Try.func34, Try.ntmps34
      go_wp2_with fail
      refine CA.out.mono ?_
      rintro e w1 ⟨rfl, x1⟩
      go_wp2_with fail
      refine (CB.out _ x1).mono ?_
      rintro e w2 ⟨rfl, x2⟩
      go_wp2
      go_ret2
      rw [HN.out]
      exact ⟨rfl, x1.trans x2⟩
    | true =>
      have CB := Lib.hid (fun W (x : Ext w W) => playOnce_yes v B W (HV.out.ext x) hb)
      clear hu hv ha hb
      go_enter Try.func34, Try.ntmps34
      go_wp2_with fail
      refine CA.out.mono ?_
      rintro e w1 ⟨rfl, x1⟩
      go_wp2_with fail
      refine (CB.out _ x1).mono ?_
      rintro e w2 ⟨v2, b2, n2, D2, rfl, _, _, _, _, x2⟩
      go_wp2
      go_ret2
      rw [HN.out]
      exact ⟨rfl, x1.trans x2⟩
  | true =>
    have CA := Lib.hid (playOnce_yes u A w hu ha)
    cases hb : cmdsB B with
    | false =>
      have HN := Lib.hid (show implOk A B = false by unfold implOk; rw [hb, Bool.and_false]; rfl)
      have CB := Lib.hid (fun W (x : Ext w W) => playOnce_no v B W (HV.out.ext x) hb)
      have hdd : decide ((ksAt A A.length).length = A.length) = dupFree A := rfl
      unfold PlayedE at CA
      rw [hdd] at CA
      clear hu hv ha hb hdd
      cases hd : dupFree A with
      | false =>
        rw [hd] at CA
        go_enter Try.func34, Try.ntmps34
        go_wp2_with fail
        refine CA.out.mono ?_
        rintro e w1 ⟨v1, b1, n1, D1, rfl, _, _, _, _, x1⟩
        go_wp2_with fail
        refine (CB.out _ x1).mono ?_
        rintro e w2 ⟨rfl, x2⟩
        go_wp2
        go_ret2
        rw [HN.out]
        exact ⟨rfl, x1.trans x2⟩
      | true =>
        rw [hd] at CA
        go_enter Try.func34, Try.ntmps34
        go_wp2_with fail
        refine CA.out.mono ?_
        rintro e w1 ⟨v1, b1, n1, D1, rfl, _, _, _, _, x1⟩
        go_wp2_with fail
        refine (CB.out _ x1).mono ?_
        rintro e w2 ⟨rfl, x2⟩
        go_wp2
        go_ret2
        rw [HN.out]
        exact ⟨rfl, x1.trans x2⟩
    | true =>
      have CB := Lib.hid (fun W (x : Ext w W) => playOnce_yes v B W (HV.out.ext x) hb)
      have hdd : decide ((ksAt A A.length).length = A.length) = dupFree A := rfl
      have hde : decide ((ksAt B B.length).length = B.length) = dupFree B := rfl
      unfold PlayedE at CA CB
      rw [hdd] at CA
      rw [hde] at CB
      have HO := Lib.hid (show implOk A B = ((dupFree A && dupFree B) && sameKeysB (ksAt A A.length) (ksAt B B.length)) by unfold implOk; rw [ha, hb]; rfl)
      clear hu hv ha hb hdd hde
      cases hd : dupFree A with
      | false =>
        rw [hd] at CA HO
        go_enter Try.func34, Try.ntmps34
        go_wp2_with fail
        refine CA.out.mono ?_
        rintro e w1 ⟨v1, b1, n1, D1, rfl, _, _, _, _, x1⟩
        go_wp2_with fail
        refine (CB.out _ x1).mono ?_
        rintro e w2 ⟨v2, b2, n2, D2, rfl, _, _, _, _, x2⟩
        go_wp2
        go_ret2
        rw [HO.out]
        exact ⟨rfl, x1.trans x2⟩
      | true =>
        rw [hd] at CA HO
        cases he : dupFree B with
        | false =>
          rw [he] at CB HO
          go_enter Try.func34, Try.ntmps34
          go_wp2_with fail
          refine CA.out.mono ?_
          rintro e w1 ⟨v1, b1, n1, D1, rfl, _, _, _, _, x1⟩
          go_wp2_with fail
          refine (CB.out _ x1).mono ?_
          rintro e w2 ⟨v2, b2, n2, D2, rfl, _, _, _, _, x2⟩
          go_wp2
          go_ret2
          rw [HO.out]
          exact ⟨rfl, x1.trans x2⟩
        | true =>
          rw [he] at CB HO
          go_enter Try.func34, Try.ntmps34
          go_wp2_with fail
          refine CA.out.mono ?_
          rintro e w1 ⟨v1, b1, n1, D1, rfl, i1, o1, m1, _, x1⟩
          go_wp2_with fail
          refine (CB.out _ x1).mono ?_
          rintro e w2 ⟨v2, b2, n2, D2, rfl, i2, o2, m2, _, x2⟩
          have I1 := Lib.hid (i1.ext x2)
          have I2 := Lib.hid i2
          have O1 := Lib.hid (CdMap.ext o1 x2)
          have O2 := Lib.hid o2
          have M1 := Lib.hid m1
          have M2 := Lib.hid m2
          have X2 := Lib.hid (x1.trans x2)
          clear i1 o1 m1 x1 i2 o2 m2 x2 hd he
          cases hk : sameKeysB (ksAt A A.length) (ksAt B B.length) with
          | false =>
            rw [hk] at HO
            go_wp2_with fail
            refine (haveSameKeys_any b1 b2 n1 n2 D1 D2 _ _ _ _ _ O1.out M1.out O2.out M2.out).mono ?_
            rintro e w3 ⟨rfl, x3⟩
            rw [hk]
            go_wp2
            go_ret2
            rw [HO.out]
            exact ⟨rfl, X2.out.trans x3⟩
          | true =>
            rw [hk] at HO
            go_wp2_with fail
            refine (haveSameKeys_any b1 b2 n1 n2 D1 D2 _ _ _ _ _ O1.out M1.out O2.out M2.out).mono ?_
            rintro e w3 ⟨rfl, x3⟩
            rw [hk]
            have X3 := Lib.hid x3
            clear x3
            cases hs : decide (sumsAt A A.length = sumsAt B B.length) with
            | false =>
              have HI := Lib.hid (show implIs A B = false by unfold implIs; rw [hs]; rfl)
              go_wp2_with fail
              refine (equalInts_any _ _ _ _ _ (I1.out.ext X3.out) (I2.out.ext X3.out)).mono ?_
              rintro e w4 ⟨rfl, x4⟩
              rw [hs]
              go_wp2
              go_ret2
              rw [HO.out, HI.out]
              exact ⟨rfl, X2.out.trans (X3.out.trans x4)⟩
            | true =>
              have HI := Lib.hid (show implIs A B = mapsB (ksAt A A.length) (ksAt B B.length) (fAt A A.length) (fAt B B.length) by unfold implIs; rw [hs]; rfl)
              go_wp2_with fail
              refine (equalInts_any _ _ _ _ _ (I1.out.ext X3.out) (I2.out.ext X3.out)).mono ?_
              rintro e w4 ⟨rfl, x4⟩
              rw [hs]
              have X4 := Lib.hid (X3.out.trans x4)
              clear x4
              go_wp2_with fail
              refine (mapsEqual_any b1 b2 n1 n2 D1 D2 _ _ _ _ _ (CdMap.ext O1.out X4.out) M1.out (CdMap.ext O2.out X4.out) M2.out).mono ?_
              rintro e w5 ⟨rfl, x5⟩
              rw [← HI.out]
              obtain ⟨q, hq⟩ : ∃ q, q = implIs A B := ⟨_, rfl⟩
              rw [← hq]
              have HQ := Lib.hid hq
              clear hq
              go_wp2
              go_ret2
              rw [HO.out, ← HQ.out]
              exact ⟨rfl, X2.out.trans (X4.out.trans x5)⟩

end Go.Proofs.Ytfffddhfagibpaa

namespace Go.Proofs.Ytfffddhfagibpaa
set_option linter.unusedVariables false

theorem mem_ksAt {A : List CmdD} : ∀ {k : Nat} {d : CmdD}, d ∈ ksAt A k ↔ ∃ j, j < k ∧ cdAt A j = d
  | 0, d => by simp [ksAt]
  | k + 1, d => by
    unfold ksAt
    rw [mem_putK, mem_ksAt]
    constructor
    · rintro (rfl | ⟨j, hj, h⟩)
      · exact ⟨k, by omega, rfl⟩
      · exact ⟨j, by omega, h⟩
    · rintro ⟨j, hj, h⟩
      by_cases e : j = k
      · subst e; exact .inl h.symm
      · exact .inr ⟨j, by omega, h⟩
theorem ksAt_le (A : List CmdD) : ∀ k, (ksAt A k).length ≤ k
  | 0 => Nat.le_refl _
  | k + 1 => by
    unfold ksAt putK
    have := ksAt_le A k
    split <;> simp <;> omega
/-- No command stands twice among the k first. -/
def diffs (A : List CmdD) (k : Nat) : Prop := ∀ i j, i < k → j < k → cdAt A i = cdAt A j → i = j
theorem diffs_of {A : List CmdD} : ∀ {k : Nat}, (ksAt A k).length = k → diffs A k ∧ ∀ j, j ≤ k → (ksAt A j).length = j
  | 0, _ => ⟨fun i j h => by omega, fun j h => by obtain rfl : j = 0 := (by omega); rfl⟩
  | k + 1, h => by
    have hle := ksAt_le A k
    have hcase : (ksAt A k).any (fun x => eqC x (cdAt A k)) = false ∧ (ksAt A k).length = k := by
      unfold ksAt putK at h
      cases e : (ksAt A k).any (fun x => eqC x (cdAt A k)) with
      | true => rw [e] at h; simp at h; omega
      | false => rw [e] at h; simp at h; exact ⟨rfl, h⟩
    obtain ⟨h1, h2⟩ := diffs_of hcase.2
    have hno : ¬ cdAt A k ∈ ksAt A k := fun q => by rw [any_mem.2 q] at hcase; cases hcase.1
    rw [mem_ksAt] at hno
    refine ⟨fun i j hi hj he => ?_, fun j hj => ?_⟩
    · by_cases e1 : i = k
      · by_cases e2 : j = k
        · omega
        · subst e1; exact absurd ⟨j, by omega, he.symm⟩ hno
      · by_cases e2 : j = k
        · subst e2; exact absurd ⟨i, by omega, he⟩ hno
        · exact h1 i j (by omega) (by omega) he
    · by_cases e : j = k + 1
      · subst e; exact h
      · exact h2 j (by omega)
theorem ksAt_len {A : List CmdD} : ∀ {k : Nat}, diffs A k → (ksAt A k).length = k
  | 0, _ => rfl
  | k + 1, h => by
    have ih := ksAt_len (A := A) (k := k) (fun i j hi hj => h i j (by omega) (by omega))
    have hno : ¬ cdAt A k ∈ ksAt A k := by
      rw [mem_ksAt]
      rintro ⟨j, hj, he⟩
      have := h j k (by omega) (by omega) he
      omega
    unfold ksAt putK
    cases e : (ksAt A k).any (fun x => eqC x (cdAt A k)) with
    | true => exact absurd (any_mem.1 e) hno
    | false => simp [ih]
theorem dupFree_iff {A : List CmdD} : dupFree A = true ↔ diffs A A.length := by
  unfold dupFree
  rw [decide_eq_true_eq]
  exact ⟨fun h => (diffs_of h).1, ksAt_len⟩
/-- Where no command stands twice, each is told what stands at its place. -/
theorem fAt_at {A : List CmdD} : ∀ {k j : Nat}, diffs A k → j < k → fAt A k (cdAt A j) = tdAt (toldN A A.length) j
  | 0, j, _, h => by omega
  | k + 1, j, hd, h => by
    unfold fAt putF
    by_cases e : j = k
    · subst e
      rw [eqC_self]; rfl
    · have hne : eqC (cdAt A j) (cdAt A k) = false := by
        cases q : eqC (cdAt A j) (cdAt A k) with
        | false => rfl
        | true => exact absurd (hd j k (by omega) (by omega) (eqC_iff.1 q)) e
      rw [hne]
      exact fAt_at (fun i j hi hj => hd i j (by omega) (by omega)) (by omega)
/-- A place is met just once where no command stands twice. -/
theorem hits_one {L : List CmdD} {d : CmdD} {j : Nat} (hd : diffs L L.length) (hj : j < L.length) (he : cdAt L j = d) : hits L d L.length = [j] := by
  have hm := hits_mem hj he
  have hall : ∀ x ∈ hits L d L.length, x = j := fun x hx => hd x j (hits_lt hx) hj (by rw [eqC_iff.1 (hits_at hx), he])
  have hn : (hits L d L.length).Nodup := by
    unfold hits
    exact List.Pairwise.filter _ (List.nodup_range (n := L.length))
  match h : hits L d L.length with
  | [] => rw [h] at hm; cases hm
  | [x] => rw [h] at hall; rw [hall x (by simp)]
  | x :: y :: r =>
    rw [h] at hall hn
    have h1 := hall x (by simp)
    have h2 := hall y (by simp)
    subst h1
    subst h2
    simp at hn
theorem once_of {L : List CmdD} {d : CmdD} {j : Nat} (hd : diffs L L.length) (hj : j < L.length) (he : cdAt L j = d) : onceI L d = (j : Int) := by
  unfold onceI
  rw [hits_one hd hj he]
theorem once_mem {L : List CmdD} {d : CmdD} (h : 0 ≤ onceI L d) : ∃ j, j < L.length ∧ cdAt L j = d ∧ ∀ i, i < L.length → cdAt L i = d → i = j := by
  obtain ⟨j, _, hj, hh⟩ := onceI_lt h
  refine ⟨j, hj, eqC_iff.1 (hits_at (k := L.length) (by rw [hh]; simp)), fun i hi he => ?_⟩
  have := hits_mem hi he
  rw [hh] at this
  simpa using this

theorem sub_len : ∀ (l m : List Nat), l.Nodup → (∀ x ∈ l, x ∈ m) → l.length ≤ m.length
  | [], m, _, _ => Nat.zero_le _
  | x :: l, m, hn, hs => by
    have hx := hs x (by simp)
    have hn' := List.nodup_cons.1 hn
    have h := sub_len l (m.erase x) hn'.2 (fun y hy => (List.mem_erase_of_ne (a := y) (b := x) (fun e => hn'.1 (by rw [← e]; exact hy))).2 (hs y (by simp [hy])))
    rw [List.length_erase_of_mem hx] at h
    have : 0 < m.length := List.length_pos_of_mem hx
    simp only [List.length_cons]
    omega
theorem all_met {n : Nat} {J : Nat → Nat} (h1 : ∀ k, k < n → J k < n) (h2 : ∀ i j, i < n → j < n → J i = J j → i = j) (y : Nat) (hy : y < n) : ∃ k, k < n ∧ J k = y := by
  by_cases hm : y ∈ (List.range n).map J
  · obtain ⟨k, hk, e⟩ := List.mem_map.1 hm
    exact ⟨k, List.mem_range.1 hk, e⟩
  · have hn : ((List.range n).map J).Nodup := by
      unfold List.Nodup
      rw [List.pairwise_map]
      refine List.Pairwise.imp_of_mem (fun {a b} ha hb hab e => ?_) (List.nodup_range (n := n))
      exact hab (h2 a b (List.mem_range.1 ha) (List.mem_range.1 hb) e)
    have h := sub_len (y :: (List.range n).map J) (List.range n) (List.nodup_cons.2 ⟨hm, hn⟩) (fun x hx => by
      rcases List.mem_cons.1 hx with rfl | hx
      · exact List.mem_range.2 hy
      · obtain ⟨k, hk, rfl⟩ := List.mem_map.1 hx
        exact List.mem_range.2 (h1 k (List.mem_range.1 hk)))
    simp at h
    omega
/-- What both ways ask for. -/
def Fits (A B : List CmdD) : Prop := A.length = B.length ∧ diffs A A.length ∧ diffs B B.length ∧ (∀ k, k < A.length → ∃ j, j < B.length ∧ cdAt B j = cdAt A k) ∧ (∀ k, k < B.length → ∃ j, j < A.length ∧ cdAt A j = cdAt B k)
theorem fits_impl {A B : List CmdD} (h : ((dupFree A && dupFree B) && sameKeysB (ksAt A A.length) (ksAt B B.length)) = true) : Fits A B := by
  simp only [Bool.and_eq_true] at h
  obtain ⟨⟨ha, hb⟩, hk⟩ := h
  have da := dupFree_iff.1 ha
  have db := dupFree_iff.1 hb
  unfold sameKeysB at hk
  simp only [Bool.and_eq_true, decide_eq_true_eq] at hk
  obtain ⟨hs, hl⟩ := hk
  rw [ksAt_len da, ksAt_len db] at hl
  have hsub : ∀ k, k < A.length → ∃ j, j < B.length ∧ cdAt B j = cdAt A k := fun k hk => mem_ksAt.1 (subB_iff.1 hs _ (mem_ksAt.2 ⟨k, hk, rfl⟩))
  refine ⟨hl, da, db, hsub, fun k hk => ?_⟩
  have hJ : ∀ k, ∃ j, k < A.length → j < B.length ∧ cdAt B j = cdAt A k := fun k => by
    by_cases hk : k < A.length
    · obtain ⟨j, h⟩ := hsub k hk
      exact ⟨j, fun _ => h⟩
    · exact ⟨0, fun h => absurd h hk⟩
  obtain ⟨J, hJ⟩ := Classical.axiomOfChoice hJ
  obtain ⟨x, hx, e⟩ := all_met (n := A.length) (J := J) (fun k hk => by rw [hl]; exact (hJ k hk).1) (fun i j hi hj e => da i j hi hj (by rw [← (hJ i hi).2, ← (hJ j hj).2, e])) k (by rw [hl]; exact hk)
  exact ⟨x, hx, by rw [← (hJ x hx).2, e]⟩
theorem fits_spec {A B : List CmdD} (h : (decide (A.length = B.length) && onceB A B A.length) = true) : Fits A B := by
  simp only [Bool.and_eq_true, decide_eq_true_eq] at h
  obtain ⟨hl, ho⟩ := h
  have h1 : ∀ k, k < A.length → ∃ j, j < B.length ∧ cdAt B j = cdAt A k ∧ ∀ i, i < B.length → cdAt B i = cdAt A k → i = j := fun k hk => once_mem (onceB_at hk ho).1
  have h2 : ∀ k, k < B.length → ∃ j, j < A.length ∧ cdAt A j = cdAt B k ∧ ∀ i, i < A.length → cdAt A i = cdAt B k → i = j := fun k hk => once_mem (onceB_at (by rw [hl]; exact hk) ho).2
  refine ⟨hl, fun i j hi hj e => ?_, fun i j hi hj e => ?_, fun k hk => ?_, fun k hk => ?_⟩
  · obtain ⟨x, hx, hxe, _⟩ := h1 i hi
    obtain ⟨y, hy, hye, hu⟩ := h2 x hx
    rw [hu i hi hxe.symm, hu j hj (by rw [← e]; exact hxe.symm)]
  · obtain ⟨x, hx, hxe, _⟩ := h2 i hi
    obtain ⟨y, hy, hye, hu⟩ := h1 x hx
    rw [hu i hi hxe.symm, hu j hj (by rw [← e]; exact hxe.symm)]
  · obtain ⟨j, a, b, _⟩ := h1 k hk
    exact ⟨j, a, b⟩
  · obtain ⟨j, a, b, _⟩ := h2 k hk
    exact ⟨j, a, b⟩
theorem impl_fits {A B : List CmdD} (h : Fits A B) : ((dupFree A && dupFree B) && sameKeysB (ksAt A A.length) (ksAt B B.length)) = true := by
  obtain ⟨hl, da, db, h1, _⟩ := h
  rw [dupFree_iff.2 da, dupFree_iff.2 db]
  unfold sameKeysB
  rw [ksAt_len da, ksAt_len db, decide_eq_true hl, Bool.and_true, Bool.true_and, Bool.and_true]
  refine subB_iff.2 (fun d hd => ?_)
  obtain ⟨j, hj, rfl⟩ := mem_ksAt.1 hd
  exact mem_ksAt.2 (h1 j hj)
theorem spec_fits {A B : List CmdD} (h : Fits A B) : (decide (A.length = B.length) && onceB A B A.length) = true := by
  obtain ⟨hl, da, db, h1, h2⟩ := h
  rw [decide_eq_true hl, Bool.true_and]
  unfold onceB
  rw [List.all_eq_true]
  intro k hk
  have hk := List.mem_range.1 hk
  obtain ⟨j, hj, hje⟩ := h1 k hk
  obtain ⟨i, hi, hie⟩ := h2 k (by rw [← hl]; exact hk)
  rw [once_of db hj hje, once_of da hi hie]
  simp
theorem ok_same (A B : List CmdD) : implOk A B = tsOk A B := by
  unfold implOk tsOk
  congr 1
  cases e : ((dupFree A && dupFree B) && sameKeysB (ksAt A A.length) (ksAt B B.length)) with
  | true => exact (spec_fits (fits_impl e)).symm
  | false =>
    cases e2 : (decide (A.length = B.length) && onceB A B A.length) with
    | false => rfl
    | true => rw [impl_fits (fits_spec e2)] at e; cases e
theorem is_same {A B : List CmdD} (h : tsOk A B = true) : implIs A B = tsIs A B := by
  unfold tsOk at h
  simp only [Bool.and_eq_true] at h
  have hf : Fits A B := fits_spec (by rw [h.2.1, h.2.2]; rfl)
  obtain ⟨hl, da, db, h1, h2⟩ := hf
  unfold implIs tsIs
  rw [Bool.and_comm]
  congr 1
  have hone : ∀ k, k < A.length → ∃ j, j < B.length ∧ cdAt B j = cdAt A k ∧ (onceI B (cdAt A k)).toNat = j := fun k hk => by
    obtain ⟨j, hj, he⟩ := h1 k hk
    exact ⟨j, hj, he, by rw [once_of db hj he]; rfl⟩
  cases e : sameT A B A.length with
  | true =>
    unfold sameT at e
    rw [List.all_eq_true] at e
    refine mapsB_iff.2 ⟨by rw [ksAt_len da, ksAt_len db, hl], fun d hd => ?_⟩
    obtain ⟨k, hk, rfl⟩ := mem_ksAt.1 hd
    obtain ⟨j, hj, he, ho⟩ := hone k hk
    refine ⟨mem_ksAt.2 ⟨j, hj, he⟩, ?_⟩
    have := e k (List.mem_range.2 hk)
    rw [ho] at this
    rw [fAt_at da hk, ← he, fAt_at db hj]
    exact this
  | false =>
    cases e2 : mapsB (ksAt A A.length) (ksAt B B.length) (fAt A A.length) (fAt B B.length) with
    | false => rfl
    | true =>
      exfalso
      have hm := (mapsB_iff.1 e2).2
      have : sameT A B A.length = true := by
        unfold sameT
        rw [List.all_eq_true]
        intro k hk
        have hk := List.mem_range.1 hk
        obtain ⟨j, hj, he, ho⟩ := hone k hk
        have := (hm _ (mem_ksAt.2 ⟨k, hk, rfl⟩)).2
        rw [fAt_at da hk, ← he, fAt_at db hj] at this
        rw [ho]
        exact this
      rw [this] at e
      cases e
theorem tells_same (A B : List CmdD) : (implOk A B && implIs A B) = (tsOk A B && tsIs A B) := by
  rw [ok_same]
  cases h : tsOk A B with
  | false => rfl
  | true => rw [is_same h]

end Go.Proofs.Ytfffddhfagibpaa
