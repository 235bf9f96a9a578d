/- Texts of this proof, part i: words, plain facts, contracts. -/
import Derived.Test.YthnoeknalpnadaaMChooseOfd
import Derived.Test.YthnoeknalpnadaaMChooseOfe
import Derived.Test.YthnoeknalpnadaaMChooseOff
import Derived.Test.YthnoeknalpnadaaMChooseOfh
import Derived.Deep.DeepCutAuto
import Derived.Deep.CutBlock
import Derived.Test.YthnoeknalpnadaaMChooseOfg
import Derived.Test.YthnoeknalpnadaaMChooseOfa

namespace Go.Proofs.Ythnoeknalpnadaa
open Go.RowKit
set_option linter.unusedVariables false

theorem Fresh.setNe {B : Nat} {w : World} {v : Value} {l : List Int} (h : Fresh B w v l) (b o : Nat) (x : Value) (hne : v.ownBlock = none ∨ v.ownBlock ≠ some b) : Fresh B (w.setCell ⟨b, o, none⟩ x) v l :=
  World.ownsRow.kept h (grownBy_set w b o x) hne
/-- Where the chosen one of a state stands among the first k. -/
def StandsAt (S : List RowD) (k : Nat) (st a : Int) : Prop := (inSt (S.take k) st = [] ∧ a = -1) ∨ ∃ p : Nat, p < k ∧ a = (p : Int) ∧ S[p]? = some (lastV (inSt (S.take k) st)) ∧ inSt (S.take k) st ≠ []
theorem StandsAt.zero (S : List RowD) (st : Int) : StandsAt S 0 st (-1) := .inl ⟨by simp [inSt], rfl⟩
theorem StandsAt.other {S : List RowD} {k : Nat} {st a : Int} (h : StandsAt S k st a) (hk : k < S.length) (hs : (S[k].st == st) = false) : StandsAt S (k + 1) st a := by
  unfold StandsAt at *
  rw [inSt_no hk hs]
  rcases h with h | ⟨p, h1, h2⟩
  · exact .inl h
  · exact .inr ⟨p, by omega, h2⟩
theorem StandsAt.first {S : List RowD} {k : Nat} {st : Int} (h0 : inSt (S.take k) st = []) (hk : k < S.length) (hs : (S[k].st == st) = true) : StandsAt S (k + 1) st (k : Int) := by
  refine .inr ⟨k, by omega, rfl, ?_, ?_⟩
  · rw [inSt_yes hk hs, h0, List.nil_append, lastV_one, List.getElem?_eq_getElem hk]
  · rw [inSt_yes hk hs]; simp
theorem StandsAt.more {S : List RowD} {k : Nat} {st : Int} (hne : inSt (S.take k) st ≠ []) (hk : k < S.length) (hs : (S[k].st == st) = true) (hv : (lastV (inSt (S.take k) st)).v < S[k].v) : StandsAt S (k + 1) st (k : Int) := by
  refine .inr ⟨k, by omega, rfl, ?_, ?_⟩
  · rw [inSt_yes hk hs, lastV_snoc hne, if_pos hv, List.getElem?_eq_getElem hk]
  · rw [inSt_yes hk hs]; simp
theorem StandsAt.keep {S : List RowD} {k p : Nat} {st : Int} (hp : p < k) (he : S[p]? = some (lastV (inSt (S.take k) st))) (hne : inSt (S.take k) st ≠ []) (hk : k < S.length) (hs : (S[k].st == st) = true) (hv : ¬ (lastV (inSt (S.take k) st)).v < S[k].v) : StandsAt S (k + 1) st (p : Int) := by
  refine .inr ⟨p, by omega, rfl, ?_, ?_⟩
  · rw [inSt_yes hk hs, lastV_snoc hne, if_neg hv, he]
  · rw [inSt_yes hk hs]; simp
/-- The box of what is joined. -/
def JoinAt (w wr : World) (b : Nat) (s : Int) (l : List Int) : Prop := ∃ a c, OpenAt wr b s (.slice a l.length c) ∧ Fresh (w.heap.size + 2) wr (.slice a l.length c) l ∧ ((Value.slice a l.length c).ownBlock = none ∨ (Value.slice a l.length c).ownBlock ≠ some b)
theorem JoinAt.ext {w wr w' : World} {b : Nat} {s : Int} {l : List Int} (h : JoinAt w wr b s l) (e : Ext wr w') : JoinAt w w' b s l := by
  obtain ⟨a, c, h1, h2, h3⟩ := h
  exact ⟨a, c, h1.ext e, h2.ext e, h3⟩
theorem ResAt.set {w : World} {b : Nat} (h : ResAt w b) (x o : Nat) (v : Value) (h1 : x ≠ b) (h2 : x ≠ b + 1) : ResAt (w.setCell ⟨x, o, none⟩ v) b := by
  obtain ⟨⟨c0, c1, c2, c3, c4⟩, ⟨z0, z1, z2, z3, z4⟩, ⟨a0, a1⟩, y0, y1⟩ := h
  have hc : ∀ (i : Nat) (u : Value), w.cell? ⟨b, i, none⟩ = some u → (w.setCell ⟨x, o, none⟩ v).cell? ⟨b, i, none⟩ = some u := fun i u hi => by
    rw [World.cell?_setCell_other _ _ _ _ (fun e => h1 (by cases e; rfl))]; exact hi
  have hd : ∀ (i : Nat) (u : Value), w.cell? ⟨b + 1, i, none⟩ = some u → (w.setCell ⟨x, o, none⟩ v).cell? ⟨b + 1, i, none⟩ = some u := fun i u hi => by
    rw [World.cell?_setCell_other _ _ _ _ (fun e => h2 (by cases e; rfl))]; exact hi
  refine ⟨⟨hc _ _ c0, hc _ _ c1, hc _ _ c2, hc _ _ c3, hc _ _ c4⟩, ⟨?_, ?_, ?_, ?_, ?_⟩, ⟨hd _ _ a0, hd _ _ a1⟩, ?_, ?_⟩ <;> (rw [World.frozen?_setCell]; assumption)
/-- The box of what is joined, written anew. -/
theorem JoinAt.put {w wr W : World} {b : Nat} {s s' : Int} {l l' : List Int} (h : JoinAt w wr b s l) (e : Ext wr W) (hb : b < wr.heap.size) (hw : w.heap.size + 2 ≤ wr.heap.size) {a : Option Addr} {c : Nat} (hf : Fresh wr.heap.size W (.slice a l'.length c) l') : JoinAt w ((W.setCell ⟨b, 0, none⟩ (.int .i64 s')).setCell ⟨b, 1, none⟩ (.slice a l'.length c)) b s' l' := by
  obtain ⟨a0, c0, h1, h2, h3⟩ := h
  obtain ⟨⟨o0, o1⟩, z0, z1⟩ := h1.ext e
  have hne : (Value.slice a l'.length c).ownBlock = none ∨ (Value.slice a l'.length c).ownBlock ≠ some b := by
    cases hv : (Value.slice a l'.length c).ownBlock with
    | none => exact .inl rfl
    | some g =>
      refine .inr fun ee => ?_
      cases ee
      have := (World.ownsRow.lt hf _ hv).1
      omega
  refine ⟨a, c, ⟨⟨?_, ?_⟩, ?_, ?_⟩, ((hf.setNe b 0 _ hne).setNe b 1 _ hne).more hw, hne⟩ <;> go_simp

set_option maxHeartbeats 8000000 in
set_option maxRecDepth 100000 in
theorem l8Choose_any (n : Int) (v : Value) (S : List RowD) (w : World) (hv : Rowz w v S) (hn : isGrp n = true) (h0 : 0 < S.length) (ht : S.all (toldB n) = true) (hl : ∀ r ∈ S, (r.l.length : Int) = n) :
    Calls Try.prog 85 #[.int .i64 n, v] w (fun e w' => ∃ u, e = .returned (.tuple #[.int .i64 (wayOf n S), .agg #[.int .i64 (pickOf n S).k, .int .i64 (pickOf n S).i, .int .i64 (pickOf n S).f, .int .i64 (pickOf n S).t, .int .i64 (pickOf n S).a], .agg #[.int .i64 (pickOf n S).s, u]]) ∧ Fresh w.heap.size w' u (pickOf n S).l ∧ Ext w w') := by
  obtain ⟨av, cv, rfl, hlv, _, hcv⟩ := hv
  unfold maxLen at hlv
  have HCV := Lib.hid hcv
  have HN := Lib.hid hn
  have HT := Lib.hid ht
  have HL := Lib.hid hl
  have H0 := Lib.hid h0
  clear hcv hn ht hl
  go_enter Try.func85, Try.ntmps85
  go_wp2_with fail
  refine (l3None_any n _ HN.out).mono ?_
  rintro e w1 ⟨v1, rfl, f1, x1⟩
  obtain ⟨a1, c1, rfl⟩ := f1.form
  have x0 : Ext w ((w.alloc (.cells #[.int .i64 0, .int .i64 0, .int .i64 0, .int .i64 0, .int .i64 0] 36)).alloc (.cells #[.int .i64 0, .slice none 0 0] 39)) := (Ext.alloc1 _ _).alloc _
  have r0 := res_new w 36 39
  have xa := Ext.alloc1 w1 (.cells #[.int .i64 0, .slice a1 (noneL n).length c1] 39)
  obtain ⟨b10, hb10⟩ : ∃ b10, b10 = w1.heap.size := ⟨_, rfl⟩
  have hw1 : w.heap.size + 2 ≤ w1.heap.size := by have := x1.size; simpa using this
  have hj0 : JoinAt w (w1.alloc (.cells #[.int .i64 0, .slice a1 (noneL n).length c1] 39)) b10 (joinS_ n []) (joinL_ n []) := by
    rw [joinS_nil, joinL_nil HN.out, hb10]
    refine ⟨a1, c1, openAt_new _ _ _ _, (f1.more (by simp)).ext xa, ?_⟩
    cases hv : (Value.slice a1 (noneL n).length c1).ownBlock with
    | none => exact .inl rfl
    | some g =>
      refine .inr fun ee => ?_
      cases ee
      have := (World.ownsRow.lt f1 _ hv).2
      omega
  have HJ0 := Lib.hid hj0
  have HR0 := Lib.hid ((r0.ext x1).ext xa)
  have HX0 := Lib.hid ((x0.trans x1).trans xa)
  have HB10 : Hid (w.heap.size + 2 ≤ b10) := Lib.hid (by omega)
  have HBL : Hid (b10 < (w1.alloc (.cells #[.int .i64 0, .slice a1 (noneL n).length c1] 39)).heap.size) := Lib.hid (by rw [hb10]; simp)
  have HBE := Lib.hid hb10
  clear x0 r0 xa hj0 hw1 hb10 f1 x1
  go_wp2
  rw [← HBE.out]
  clear HBE
  go_loopw [7, 8, 9, 17] (fun a p al i wr => ∃ (k : Nat) (a' p' : Int), k ≤ S.length ∧ i = .int .i64 k ∧ a = .int .i64 a' ∧ p = .int .i64 p' ∧ al = .bool (alike S k) ∧ Hid (StandsAt S k 2 a') ∧ Hid (StandsAt S k 1 p') ∧ Hid (JoinAt w wr b10 (joinS_ n (inSt (S.take k) 1)) (joinL_ n (inSt (S.take k) 1))) ∧ Hid (ResAt wr w.heap.size) ∧ Hid (Ext w wr) ∧ Hid (b10 < wr.heap.size)) (fun _ _ _ i _ => S.length - (intOf i).toNat)
  case atStart => exact ⟨0, -1, -1, Nat.zero_le _, rfl, rfl, rfl, by simp [alike], Lib.hid (StandsAt.zero _ _), Lib.hid (StandsAt.zero _ _), Lib.hid (by have := HJ0.out; simpa [inSt] using this), HR0, HX0, HBL⟩
  case round =>
    clear HJ0 HR0 HX0 HBL
    obtain ⟨k, a', p', hk, rfl, rfl, rfl, rfl, HA, HP, HJ, HR, HX, HBL⟩ := hrel
    by_cases hlt : k < S.length
    · obtain ⟨b, off, rfl, dv⟩ := HCV.out (by omega)
      have HDV := Lib.hid dv
      obtain ⟨r, hr⟩ : ∃ r, r = S[k] := ⟨_, rfl⟩
      obtain ⟨u, hu, iu⟩ := dv k hlt
      rw [← hr] at hu iu
      obtain ⟨au, cu, rfl, _, _, _⟩ := id iu
      have HLT := Lib.hid hlt
      have HRK := Lib.hid hr
      have hrl : (r.l.length : Int) = n := HL.out r (by rw [hr]; exact List.getElem_mem hlt)
      have HRL := Lib.hid hrl
      obtain ⟨g0, g1, g2, g3, g4, g5, g6, g7, g8, g9⟩ := hu.ext HX.out
      have xa := Ext.alloc1 wr (.cells #[.int .i64 r.b, .int .i64 r.v, .int .i64 r.st, .int .i64 r.k, .int .i64 r.i, .int .i64 r.f, .int .i64 r.t, .int .i64 r.a, .int .i64 r.s, .slice au r.l.length cu] 71)
      have ra := rowAt_new wr 71 r (.slice au r.l.length cu)
      obtain ⟨wa, hwa⟩ : ∃ wa, wa = wr.alloc (.cells #[.int .i64 r.b, .int .i64 r.v, .int .i64 r.st, .int .i64 r.k, .int .i64 r.i, .int .i64 r.f, .int .i64 r.t, .int .i64 r.a, .int .i64 r.s, .slice au r.l.length cu] 71) := ⟨_, rfl⟩
      obtain ⟨bR, hbR⟩ : ∃ bR, bR = wr.heap.size := ⟨_, rfl⟩
      rw [← hwa] at xa
      rw [← hwa, ← hbR] at ra
      have HWA := Lib.hid hwa
      have HBR := Lib.hid hbR
      have HRA := Lib.hid ra
      have HXA := Lib.hid xa
      have HXW := Lib.hid (HX.out.trans xa)
      have HJA := Lib.hid (HJ.out.ext xa)
      have HRR := Lib.hid (HR.out.ext xa)
      have HBA : Hid (b10 < wa.heap.size ∧ b10 < bR ∧ bR < wa.heap.size) := Lib.hid (by
        have h1 := HBL.out
        have h2 := xa.size
        have h3 : bR < wa.heap.size := by rw [hwa, hbR]; simp
        omega)
      have IU := Lib.hid (iu.ext (HX.out.trans xa))
      have IU0 := Lib.hid iu
      clear dv hr hu iu hrl xa ra hwa hbR HJ HR
      go_upto_block 2 with fail
      rw [← HWA.out, ← HBR.out]
      clear g0 g1 g2 g3 g4 g5 g6 g7 g8 g9
      go_cut [7, 8] (fun a p wx => ∃ (a2 p2 : Int), a = .int .i64 a2 ∧ p = .int .i64 p2 ∧ StandsAt S (k + 1) 2 a2 ∧ StandsAt S (k + 1) 1 p2 ∧ JoinAt w wx b10 (joinS_ n (inSt (S.take (k + 1)) 1)) (joinL_ n (inSt (S.take (k + 1)) 1)) ∧ ResAt wx w.heap.size ∧ RowAt wx bR r (.slice au r.l.length cu) ∧ Ext w wx ∧ b10 < wx.heap.size)
      case first =>
        cases e2 : (r.st == 2) with
        | true =>
          have e1 : (r.st == 1) = false := by simp at e2 ⊢; omega
          have SP : Hid (StandsAt S (k + 1) 1 p') := Lib.hid (HP.out.other HLT.out (by rw [← HRK.out]; exact e1))
          have HI1 : Hid (inSt (S.take (k + 1)) 1 = inSt (S.take k) 1) := Lib.hid (inSt_no HLT.out (by rw [← HRK.out]; exact e1))
          have E2 : Hid ((S[k]'HLT.out).st == 2) := Lib.hid (by rw [← HRK.out]; exact e2)
          obtain ⟨q0, q1, q2, q3, q4, q5, q6, q7, q8, q9⟩ := HRA.out
          have q0 := fun E : ExtOf wa => E.cell q0
          have q1 := fun E : ExtOf wa => E.cell q1
          have q2 := fun E : ExtOf wa => E.cell q2
          have q3 := fun E : ExtOf wa => E.cell q3
          have q4 := fun E : ExtOf wa => E.cell q4
          have q5 := fun E : ExtOf wa => E.cell q5
          have q6 := fun E : ExtOf wa => E.cell q6
          have q7 := fun E : ExtOf wa => E.cell q7
          have q8 := fun E : ExtOf wa => E.cell q8
          have q9 := fun E : ExtOf wa => E.cell q9
          rcases HA.out with ⟨h0, rfl⟩ | ⟨p, hp, rfl, he, hne⟩
          · have SA := Lib.hid (StandsAt.first h0 HLT.out E2.out)
            clear h0
            go_wp2_with fail
            refine wp_region_ext_lit (by kernel_rfl) (by kernel_rfl) ?_
            repeat (go_big_quiet_step (first | fail))
            refine wpQuiet_nil ?_
            rintro _ ⟨E, rfl⟩
            clear q0 q1 q2 q3 q4 q5 q6 q7 q8 q9
            go_wp2_with fail
            go_meet
            exact ⟨(k : Int), p', rfl, rfl, SA.out, SP.out, by rw [HI1.out]; exact HJA.out.ext E.2, HRR.out.ext E.2, HRA.out.ext E.2, HXW.out.trans E.2, Nat.lt_of_lt_of_le HBA.out.1 E.2.size⟩
          · obtain ⟨m, hm⟩ : ∃ m, m = lastV (inSt (S.take k) 2) := ⟨_, rfl⟩
            have hps : p < S.length := by have := HLT.out; omega
            have hpm : S[p] = m := by rw [List.getElem?_eq_getElem hps] at he; rw [hm]; exact Option.some.inj he
            obtain ⟨um, hum, _⟩ := HDV.out p hps
            rw [hpm] at hum
            have v1 := fun E : ExtOf wa => E.cell (HXW.out.cell hum.2.1)
            have hp0 : decide ((p : Int) < 0) = false := by simp
            by_cases hv : m.v < r.v
            · have SA := Lib.hid (StandsAt.more hne HLT.out E2.out (by rw [← hm, ← HRK.out]; exact hv))
              have hd : decide (m.v < r.v) = true := decide_eq_true hv
              clear he hne hm hpm hum hv
              go_wp2_with fail
              refine wp_region_ext_lit (by kernel_rfl) (by kernel_rfl) ?_
              repeat (go_big_quiet_step (first | fail))
              refine wpQuiet_nil ?_
              rintro _ ⟨E, rfl⟩
              clear q0 q1 q2 q3 q4 q5 q6 q7 q8 q9 v1
              go_wp2_with fail
              go_meet
              exact ⟨(k : Int), p', rfl, rfl, SA.out, SP.out, by rw [HI1.out]; exact HJA.out.ext E.2, HRR.out.ext E.2, HRA.out.ext E.2, HXW.out.trans E.2, Nat.lt_of_lt_of_le HBA.out.1 E.2.size⟩
            · have SA := Lib.hid (StandsAt.keep hp he hne HLT.out E2.out (by rw [← hm, ← HRK.out]; exact hv))
              have hd : decide (m.v < r.v) = false := decide_eq_false hv
              clear he hne hm hpm hum hv
              go_wp2_with fail
              refine wp_region_ext_lit (by kernel_rfl) (by kernel_rfl) ?_
              repeat (go_big_quiet_step (first | fail))
              refine wpQuiet_nil ?_
              rintro _ ⟨E, rfl⟩
              clear q0 q1 q2 q3 q4 q5 q6 q7 q8 q9 v1
              go_wp2_with fail
              go_meet
              exact ⟨(p : Int), p', rfl, rfl, SA.out, SP.out, by rw [HI1.out]; exact HJA.out.ext E.2, HRR.out.ext E.2, HRA.out.ext E.2, HXW.out.trans E.2, Nat.lt_of_lt_of_le HBA.out.1 E.2.size⟩
        | false =>
          have SA : Hid (StandsAt S (k + 1) 2 a') := Lib.hid (HA.out.other HLT.out (by rw [← HRK.out]; exact e2))
          cases e1 : (r.st == 1) with
          | true =>
            have E1 : Hid ((S[k]'HLT.out).st == 1) := Lib.hid (by rw [← HRK.out]; exact e1)
            have HI1 : Hid (inSt (S.take (k + 1)) 1 = inSt (S.take k) 1 ++ [r]) := Lib.hid (by rw [inSt_yes HLT.out E1.out, HRK.out])
            have CJ : Hid (∀ (W : World) (ja : Option Addr) (jc : Nat), Ints W (.slice ja (joinL_ n (inSt (S.take k) 1)).length jc) (joinL_ n (inSt (S.take k) 1)) → Ints W (.slice au r.l.length cu) r.l → Calls Try.prog 143 #[.agg #[.int .i64 (joinS_ n (inSt (S.take k) 1)), .slice ja (joinL_ n (inSt (S.take k) 1)).length jc], .agg #[.int .i64 r.s, .slice au r.l.length cu]] W (NewAttr (joinS_ n (inSt (S.take k) 1 ++ [r])) (joinL_ n (inSt (S.take k) 1 ++ [r])) W)) := Lib.hid (fun W ja jc h1 h2 => by
              have hl1 := joinL_len HN.out (inSt (S.take k) 1)
              have hl2 := HRL.out
              have hl3 := isGrp_bd HN.out
              have h := l3Join_any (joinS_ n (inSt (S.take k) 1)) r.s _ _ (joinL_ n (inSt (S.take k) 1)) r.l W h1 h2 (by omega) (by omega)
              rw [joinS_snoc, joinL_snoc HN.out]
              exact h)
            obtain ⟨q0, q1, q2, q3, q4, q5, q6, q7, q8, q9⟩ := HRA.out
            have q0 := fun E : ExtOf wa => E.cell q0
            have q1 := fun E : ExtOf wa => E.cell q1
            have q2 := fun E : ExtOf wa => E.cell q2
            have q3 := fun E : ExtOf wa => E.cell q3
            have q4 := fun E : ExtOf wa => E.cell q4
            have q5 := fun E : ExtOf wa => E.cell q5
            have q6 := fun E : ExtOf wa => E.cell q6
            have q7 := fun E : ExtOf wa => E.cell q7
            have q8 := fun E : ExtOf wa => E.cell q8
            have q9 := fun E : ExtOf wa => E.cell q9
            rcases HP.out with ⟨h0, rfl⟩ | ⟨p, hp, rfl, he, hne⟩
            · have SP := Lib.hid (StandsAt.first h0 HLT.out E1.out)
              clear h0
              go_wp2_with fail
              refine wp_region_ext_lit (by kernel_rfl) (by kernel_rfl) ?_
              repeat (go_big_quiet_step (first | fail))
              refine wpQuiet_nil ?_
              rintro _ ⟨E, rfl⟩
              obtain ⟨ja, jc, jo, jf, jne⟩ := HJA.out.ext E.2
              have JO := Lib.hid jo
              have CJJ := Lib.hid (CJ.out E.1 ja jc jf.ints (IU.out.ext E.2))
              obtain ⟨⟨j0, j1⟩, _, _⟩ := jo
              have q8 := q8 E
              have q9 := q9 E
              clear jf jne q0 q1 q2 q3 q4 q5 q6 q7
              go_wp2_with fail
              refine CJJ.out.mono ?_
              rintro e W ⟨z, rfl, f9, x9⟩
              obtain ⟨az, cz, rfl⟩ := f9.form
              obtain ⟨⟨j0, j1⟩, y0, y1⟩ := JO.out.ext x9
              have F9 := Lib.hid f9
              have X9 := Lib.hid x9
              clear f9 x9 q8 q9
              go_wp2_with fail
              go_meet
              refine ⟨a', (k : Int), rfl, rfl, SA.out, SP.out, ?_, ?_, ?_, ?_, ?_⟩
              · rw [HI1.out]
                exact (HJA.out.ext E.2).put X9.out (Nat.lt_of_lt_of_le HBA.out.1 E.2.size) (by have h1 := HBA.out; have h2 := HB10.out; have h3 := E.2.size; omega) F9.out
              · exact (((HRR.out.ext E.2).ext X9.out).set _ _ _ (by have := HB10.out; omega) (by have := HB10.out; omega)).set _ _ _ (by have := HB10.out; omega) (by have := HB10.out; omega)
              · exact row_apart _ _ (by have := HBA.out; dsimp only; omega) (row_apart _ _ (by have := HBA.out; dsimp only; omega) ((HRA.out.ext E.2).ext X9.out))
              · exact (((HXW.out.trans E.2).trans X9.out).setc (by have := HB10.out; dsimp only; omega)).setc (by have := HB10.out; dsimp only; omega)
              · have h1 := E.2.size
                have h2 := X9.out.size
                have h3 := HBA.out
                simp
                omega
            · obtain ⟨m, hm⟩ : ∃ m, m = lastV (inSt (S.take k) 1) := ⟨_, rfl⟩
              have hps : p < S.length := by have := HLT.out; omega
              have hpm : S[p] = m := by rw [List.getElem?_eq_getElem hps] at he; rw [hm]; exact Option.some.inj he
              obtain ⟨um, hum, _⟩ := HDV.out p hps
              rw [hpm] at hum
              have v1 := fun E : ExtOf wa => E.cell (HXW.out.cell hum.2.1)
              have hp0 : decide ((p : Int) < 0) = false := by simp
              by_cases hv : m.v < r.v
              · have SP := Lib.hid (StandsAt.more hne HLT.out E1.out (by rw [← hm, ← HRK.out]; exact hv))
                have hd : decide (m.v < r.v) = true := decide_eq_true hv
                clear he hne hm hpm hum hv
                go_wp2_with fail
                refine wp_region_ext_lit (by kernel_rfl) (by kernel_rfl) ?_
                repeat (go_big_quiet_step (first | fail))
                refine wpQuiet_nil ?_
                rintro _ ⟨E, rfl⟩
                clear v1
                obtain ⟨ja, jc, jo, jf, jne⟩ := HJA.out.ext E.2
                have JO := Lib.hid jo
                have CJJ := Lib.hid (CJ.out E.1 ja jc jf.ints (IU.out.ext E.2))
                obtain ⟨⟨j0, j1⟩, _, _⟩ := jo
                have q8 := q8 E
                have q9 := q9 E
                clear jf jne q0 q1 q2 q3 q4 q5 q6 q7
                go_wp2_with fail
                refine CJJ.out.mono ?_
                rintro e W ⟨z, rfl, f9, x9⟩
                obtain ⟨az, cz, rfl⟩ := f9.form
                obtain ⟨⟨j0, j1⟩, y0, y1⟩ := JO.out.ext x9
                have F9 := Lib.hid f9
                have X9 := Lib.hid x9
                clear f9 x9 q8 q9
                go_wp2_with fail
                go_meet
                refine ⟨a', (k : Int), rfl, rfl, SA.out, SP.out, ?_, ?_, ?_, ?_, ?_⟩
                · rw [HI1.out]
                  exact (HJA.out.ext E.2).put X9.out (Nat.lt_of_lt_of_le HBA.out.1 E.2.size) (by have h1 := HBA.out; have h2 := HB10.out; have h3 := E.2.size; omega) F9.out
                · exact (((HRR.out.ext E.2).ext X9.out).set _ _ _ (by have := HB10.out; omega) (by have := HB10.out; omega)).set _ _ _ (by have := HB10.out; omega) (by have := HB10.out; omega)
                · exact row_apart _ _ (by have := HBA.out; dsimp only; omega) (row_apart _ _ (by have := HBA.out; dsimp only; omega) ((HRA.out.ext E.2).ext X9.out))
                · exact (((HXW.out.trans E.2).trans X9.out).setc (by have := HB10.out; dsimp only; omega)).setc (by have := HB10.out; dsimp only; omega)
                · have h1 := E.2.size
                  have h2 := X9.out.size
                  have h3 := HBA.out
                  simp
                  omega
              · have SP := Lib.hid (StandsAt.keep hp he hne HLT.out E1.out (by rw [← hm, ← HRK.out]; exact hv))
                have hd : decide (m.v < r.v) = false := decide_eq_false hv
                clear he hne hm hpm hum hv
                go_wp2_with fail
                refine wp_region_ext_lit (by kernel_rfl) (by kernel_rfl) ?_
                repeat (go_big_quiet_step (first | fail))
                refine wpQuiet_nil ?_
                rintro _ ⟨E, rfl⟩
                clear v1
                obtain ⟨ja, jc, jo, jf, jne⟩ := HJA.out.ext E.2
                have JO := Lib.hid jo
                have CJJ := Lib.hid (CJ.out E.1 ja jc jf.ints (IU.out.ext E.2))
                obtain ⟨⟨j0, j1⟩, _, _⟩ := jo
                have q8 := q8 E
                have q9 := q9 E
                clear jf jne q0 q1 q2 q3 q4 q5 q6 q7
                go_wp2_with fail
                refine CJJ.out.mono ?_
                rintro e W ⟨z, rfl, f9, x9⟩
                obtain ⟨az, cz, rfl⟩ := f9.form
                obtain ⟨⟨j0, j1⟩, y0, y1⟩ := JO.out.ext x9
                have F9 := Lib.hid f9
                have X9 := Lib.hid x9
                clear f9 x9 q8 q9
                go_wp2_with fail
                go_meet
                refine ⟨a', (p : Int), rfl, rfl, SA.out, SP.out, ?_, ?_, ?_, ?_, ?_⟩
                · rw [HI1.out]
                  exact (HJA.out.ext E.2).put X9.out (Nat.lt_of_lt_of_le HBA.out.1 E.2.size) (by have h1 := HBA.out; have h2 := HB10.out; have h3 := E.2.size; omega) F9.out
                · exact (((HRR.out.ext E.2).ext X9.out).set _ _ _ (by have := HB10.out; omega) (by have := HB10.out; omega)).set _ _ _ (by have := HB10.out; omega) (by have := HB10.out; omega)
                · exact row_apart _ _ (by have := HBA.out; dsimp only; omega) (row_apart _ _ (by have := HBA.out; dsimp only; omega) ((HRA.out.ext E.2).ext X9.out))
                · exact (((HXW.out.trans E.2).trans X9.out).setc (by have := HB10.out; dsimp only; omega)).setc (by have := HB10.out; dsimp only; omega)
                · have h1 := E.2.size
                  have h2 := X9.out.size
                  have h3 := HBA.out
                  simp
                  omega
          | false =>
            have SP : Hid (StandsAt S (k + 1) 1 p') := Lib.hid (HP.out.other HLT.out (by rw [← HRK.out]; exact e1))
            have HI1 : Hid (inSt (S.take (k + 1)) 1 = inSt (S.take k) 1) := Lib.hid (inSt_no HLT.out (by rw [← HRK.out]; exact e1))
            go_wp2_with fail
            go_meet
            exact ⟨a', p', rfl, rfl, SA.out, SP.out, by rw [HI1.out]; exact HJA.out, HRR.out, HRA.out, HXW.out, HBA.out.1⟩
      case rest =>
        obtain ⟨a2, p2, rfl, rfl, sa, sp, jj, rr, ro, xw, hb⟩ := hcut
        obtain ⟨w8, hw8⟩ : ∃ w8, w8 = wc := ⟨_, rfl⟩
        rw [← hw8] at jj rr ro xw hb ⊢
        clear hw8
        have SA := Lib.hid sa
        have SP := Lib.hid sp
        have JJ := Lib.hid jj
        have RR := Lib.hid rr
        have XW := Lib.hid xw
        have HB := Lib.hid hb
        have RO := Lib.hid ro
        obtain ⟨y, hy⟩ : ∃ y, y = head0 S := ⟨_, rfl⟩
        have h0 := H0.out
        have hy0 : S[0] = y := by rw [hy]; unfold head0; rw [List.getElem?_eq_getElem h0]; rfl
        obtain ⟨uy, huy, iuy⟩ := HDV.out 0 h0
        rw [hy0] at huy iuy
        obtain ⟨ay, cy, rfl, _, _, _⟩ := id iuy
        rw [Nat.zero_mul, Nat.add_zero] at huy
        have IY2 := Lib.hid (iuy.ext xw)
        have IU2 : Hid (Ints w8 (.slice au r.l.length cu) r.l) := Lib.hid (IU0.out.ext xw)
        obtain ⟨_, _, _, q3, q4, q5, q6, q7, q8, q9⟩ := huy.ext xw
        obtain ⟨_, p1, p2', p3, p4, p5, p6, p7, p8, p9⟩ := ro
        have q3 := fun E : ExtOf w8 => E.cell q3
        have q4 := fun E : ExtOf w8 => E.cell q4
        have q5 := fun E : ExtOf w8 => E.cell q5
        have q6 := fun E : ExtOf w8 => E.cell q6
        have q7 := fun E : ExtOf w8 => E.cell q7
        have q8 := fun E : ExtOf w8 => E.cell q8
        have q9 := fun E : ExtOf w8 => E.cell q9
        have p1 := fun E : ExtOf w8 => E.cell p1
        have p2' := fun E : ExtOf w8 => E.cell p2'
        have p3 := fun E : ExtOf w8 => E.cell p3
        have p4 := fun E : ExtOf w8 => E.cell p4
        have p5 := fun E : ExtOf w8 => E.cell p5
        have p6 := fun E : ExtOf w8 => E.cell p6
        have p7 := fun E : ExtOf w8 => E.cell p7
        have p8 := fun E : ExtOf w8 => E.cell p8
        have p9 := fun E : ExtOf w8 => E.cell p9
        obtain ⟨c, hc⟩ : ∃ c, c = sameC r.k r.i r.f r.t r.a y.k y.i y.f y.t y.a := ⟨_, rfl⟩
        have ec := fun W => eq_cmd r.k r.i r.f r.t r.a y.k y.i y.f y.t y.a W
        rw [← hc] at ec
        obtain ⟨d, hd⟩ : ∃ d, d = sameA r.s y.s r.l y.l := ⟨_, rfl⟩
        have cS : ∀ E : ExtOf w8, Calls Try.prog 134 #[.agg #[.int .i64 r.s, .slice au r.l.length cu], .agg #[.int .i64 y.s, .slice ay y.l.length cy]] E.1 (BoolExt d E.1) := fun E => by
          rw [hd]
          exact specSame_any _ _ _ _ r.l y.l _ (IU2.out.ext E.2) (IY2.out.ext E.2)
        obtain ⟨al, hal⟩ : ∃ al, al = alike S k := ⟨_, rfl⟩
        have hlike : alike S (k + 1) = (al && ((r.st == 1) && ((r.v == 0) && (c && d)))) := by rw [alike_succ HLT.out, ← HRK.out, ← hy, ← hal]; unfold likeB; rw [hc, hd]
        rw [← hal]
        have HLK := Lib.hid hlike
        clear sa sp jj rr xw hb hy hy0 huy iuy hc hd hal hlike
        cases al with
        | false =>
          have HAL : Hid (alike S (k + 1) = false) := Lib.hid (by rw [HLK.out]; simp [*])
          go_wp2_with fail
          refine wp_region_ext_lit (by kernel_rfl) (by kernel_rfl) ?_
          repeat (go_big_quiet_step (first | fail))
          refine wpQuiet_nil ?_
          rintro _ ⟨E, rfl⟩
          clear p1 p2' p3 p4 p5 p6 p7 p8 p9 q3 q4 q5 q6 q7 q8 q9 ec cS
          go_wp2
          go_roundw
          case rel => exact ⟨k + 1, a2, p2, by have := HLT.out; omega, by go_num, rfl, rfl, by rw [HAL.out], SA, SP, Lib.hid (JJ.out.ext E.2), Lib.hid (RR.out.ext E.2), Lib.hid (XW.out.trans E.2), Lib.hid (Nat.lt_of_lt_of_le HB.out E.2.size)⟩
          case measure => simp [intOf]; have := HLT.out; omega
        | true =>
          cases e1 : (r.st == 1) with
          | false =>
            have HAL : Hid (alike S (k + 1) = false) := Lib.hid (by rw [HLK.out]; simp [*])
            go_wp2_with fail
            refine wp_region_ext_lit (by kernel_rfl) (by kernel_rfl) ?_
            repeat (go_big_quiet_step (first | fail))
            refine wpQuiet_nil ?_
            rintro _ ⟨E, rfl⟩
            clear p1 p2' p3 p4 p5 p6 p7 p8 p9 q3 q4 q5 q6 q7 q8 q9 ec cS
            go_wp2
            go_roundw
            case rel => exact ⟨k + 1, a2, p2, by have := HLT.out; omega, by go_num, rfl, rfl, by rw [HAL.out], SA, SP, Lib.hid (JJ.out.ext E.2), Lib.hid (RR.out.ext E.2), Lib.hid (XW.out.trans E.2), Lib.hid (Nat.lt_of_lt_of_le HB.out E.2.size)⟩
            case measure => simp [intOf]; have := HLT.out; omega
          | true =>
            cases e2 : (r.v == 0) with
            | false =>
              have HAL : Hid (alike S (k + 1) = false) := Lib.hid (by rw [HLK.out]; simp [*])
              go_wp2_with fail
              refine wp_region_ext_lit (by kernel_rfl) (by kernel_rfl) ?_
              repeat (go_big_quiet_step (first | fail))
              refine wpQuiet_nil ?_
              rintro _ ⟨E, rfl⟩
              clear p1 p2' p3 p4 p5 p6 p7 p8 p9 q3 q4 q5 q6 q7 q8 q9 ec cS
              go_wp2
              go_roundw
              case rel => exact ⟨k + 1, a2, p2, by have := HLT.out; omega, by go_num, rfl, rfl, by rw [HAL.out], SA, SP, Lib.hid (JJ.out.ext E.2), Lib.hid (RR.out.ext E.2), Lib.hid (XW.out.trans E.2), Lib.hid (Nat.lt_of_lt_of_le HB.out E.2.size)⟩
              case measure => simp [intOf]; have := HLT.out; omega
            | true =>
              cases c with
              | false =>
                have HAL : Hid (alike S (k + 1) = false) := Lib.hid (by rw [HLK.out]; simp [*])
                go_wp2_with fail
                refine wp_region_ext_lit (by kernel_rfl) (by kernel_rfl) ?_
                repeat (go_big_quiet_step (first | fail))
                refine wpQuiet_nil ?_
                rintro _ ⟨E, rfl⟩
                clear p1 p2' p3 p4 p5 p6 p7 p8 p9 q3 q4 q5 q6 q7 q8 q9 ec cS
                go_wp2
                go_roundw
                case rel => exact ⟨k + 1, a2, p2, by have := HLT.out; omega, by go_num, rfl, rfl, by rw [HAL.out], SA, SP, Lib.hid (JJ.out.ext E.2), Lib.hid (RR.out.ext E.2), Lib.hid (XW.out.trans E.2), Lib.hid (Nat.lt_of_lt_of_le HB.out E.2.size)⟩
                case measure => simp [intOf]; have := HLT.out; omega
              | true =>
                have HAL : Hid (alike S (k + 1) = d) := Lib.hid (by rw [HLK.out]; simp [*])
                go_wp2_with fail
                refine wp_region_ext_lit (by kernel_rfl) (by kernel_rfl) ?_
                repeat (go_big_quiet_step (first | (go_at_call 134; with_reducible exact Calls.ext_of _ (cS _))))
                refine wpQuiet_nil ?_
                rintro _ ⟨E, rfl⟩
                clear p1 p2' p3 p4 p5 p6 p7 p8 p9 q3 q4 q5 q6 q7 q8 q9 ec cS
                go_wp2
                go_roundw
                case rel => exact ⟨k + 1, a2, p2, by have := HLT.out; omega, by go_num, rfl, rfl, by rw [HAL.out], SA, SP, Lib.hid (JJ.out.ext E.2), Lib.hid (RR.out.ext E.2), Lib.hid (XW.out.trans E.2), Lib.hid (Nat.lt_of_lt_of_le HB.out E.2.size)⟩
                case measure => simp [intOf]; have := HLT.out; omega
    · obtain rfl : k = S.length := by omega
      have ha := HA.out
      have hp := HP.out
      have hj := HJ.out
      unfold StandsAt at ha hp
      rw [List.take_length] at ha hp hj
      have HJJ := Lib.hid hj
      have hsz : w.heap.size + 1 < wr.heap.size := by have := HB10.out; have := HBL.out; omega
      have h0 := H0.out
      obtain ⟨b, off, rfl, dv⟩ := HCV.out h0
      have HDV := Lib.hid dv
      clear HA HP HJ hj hlt hk dv
      rcases ha with ⟨hA, rfl⟩ | ⟨p, hpl, rfl, hpe, hA⟩
      · cases hB : alike S S.length with
        | true =>
          obtain ⟨m, hm⟩ : ∃ m, m = head0 S := ⟨_, rfl⟩
          have HWY : Hid (wayOf n S = 1) := Lib.hid (by unfold wayOf; rw [if_neg (by rw [hA]; simp), if_pos hB])
          have HPK : Hid (pickOf n S = m) := Lib.hid (by unfold pickOf; rw [if_neg (by rw [hA]; simp), if_pos hB, hm])
          have hm0 : S[0] = m := by rw [hm]; unfold head0; rw [List.getElem?_eq_getElem h0]; rfl
          have HML : Hid (m.l.length ≤ 1048576) := Lib.hid (by have h1 := HL.out S[0] (List.getElem_mem h0); have h2 := isGrp_bd HN.out; rw [hm0] at h1; omega)
          obtain ⟨um, hum, ium⟩ := HDV.out 0 h0
          rw [hm0] at hum ium
          rw [Nat.zero_mul, Nat.add_zero] at hum
          obtain ⟨am, cm, rfl, _, _, _⟩ := id ium
          clear hA hB hm hm0 hp
          have HUM := Lib.hid hum
          have IM := Lib.hid (ium.ext HX.out)
          obtain ⟨_, _, _, q3, q4, q5, q6, q7, q8, q9⟩ := hum.ext HX.out
          obtain ⟨⟨c0, c1, c2', c3, c4⟩, ⟨z0, z1, z2, z3, z4⟩, ⟨a0, a1⟩, y0, y1⟩ := HR.out
          have hbz : b < wr.heap.size := World.block_lt_of_cell? wr _ q3
          clear hum ium
          go_wp2_with fail
          go_region_with (go_at_call 144; refine (l4OwnAttr_any m.s _ m.l _ (IM.out.ext (Ext.drew (Ext.refl _))) HML.out).mono ?_; rintro e W ⟨z, rfl, f9, x9⟩; obtain ⟨az, cz, rfl⟩ := f9.form; have x94 : Ext wr W := (Ext.drew (Ext.refl _)).trans x9; obtain ⟨_, _, _, q3, q4, q5, q6, q7, q8, q9⟩ := HUM.out.ext (HX.out.trans x94); obtain ⟨⟨c0, c1, c2', c3, c4⟩, ⟨z0, z1, z2, z3, z4⟩, ⟨a0, a1⟩, y0, y1⟩ := HR.out.ext x94)
          all_goals
            have F9 := Lib.hid (f9.more (B' := wr.heap.size) (by simp))
            have hx := HX.out.trans x94
            clear f9 x9 x94 q3 q4 q5 q6 q7 q8 q9
            go_wp2
            refine bodyPost_ret (v := .tuple #[.int .i64 1, .agg #[.int .i64 m.k, .int .i64 m.i, .int .i64 m.f, .int .i64 m.t, .int .i64 m.a], .agg #[.int .i64 m.s, .slice az m.l.length cz]]) (by simp [results, Try.results85, go_sem, c0, c1, c2', c3, c4, a0, a1]) rfl ⟨_, by rw [HWY.out, HPK.out], ?_, ?_⟩
            · rw [HPK.out]
              exact (((((((F9.out.set _ _ _ (by omega)).set _ _ _ (by omega)).set _ _ _ (by omega)).set _ _ _ (by omega)).set _ _ _ (by omega)).set _ _ _ (by omega)).set _ _ _ (by omega)).more (by omega)
            · exact ((((((hx.setc (by dsimp only; omega)).setc (by dsimp only; omega)).setc (by dsimp only; omega)).setc (by dsimp only; omega)).setc (by dsimp only; omega)).setc (by dsimp only; omega)).setc (by dsimp only; omega)
        | false =>
          rcases hp with ⟨hC, rfl⟩ | ⟨p, hpl, rfl, hpe, hC⟩
          · have HWY : Hid (wayOf n S = 3) := Lib.hid (by unfold wayOf; rw [if_neg (by rw [hA]; simp), if_neg (by rw [hB]; simp), if_neg (by rw [hC]; simp)])
            have HPK : Hid (pickOf n S = ⟨0, 0, 0, 0, 0, 0, 0, 0, 0, noneL n⟩) := Lib.hid (by unfold pickOf; rw [if_neg (by rw [hA]; simp), if_neg (by rw [hB]; simp), if_neg (by rw [hC]; simp)])
            clear hA hB hC
            go_wp2_with fail
            refine (l3None_any n _ HN.out).mono ?_
            rintro e W ⟨z, rfl, f9, x9⟩
            obtain ⟨L, hL⟩ : ∃ L, L = noneL n := ⟨_, rfl⟩
            rw [← hL] at f9 HPK
            obtain ⟨az, cz, rfl⟩ := f9.form
            obtain ⟨⟨c0, c1, c2', c3, c4⟩, ⟨z0, z1, z2, z3, z4⟩, ⟨a0, a1⟩, y0, y1⟩ := HR.out.ext x9
            have F9 := Lib.hid f9
            have hx := HX.out.trans x9
            clear f9 x9 hL
            go_wp2
            refine bodyPost_ret (v := .tuple #[.int .i64 3, .agg #[.int .i64 0, .int .i64 0, .int .i64 0, .int .i64 0, .int .i64 0], .agg #[.int .i64 0, .slice az L.length cz]]) (by simp [results, Try.results85, go_sem, c0, c1, c2', c3, c4, a0, a1]) rfl ⟨_, by rw [HWY.out, HPK.out], ?_, ?_⟩
            · rw [HPK.out]
              exact (((((((F9.out.set _ _ _ (by omega)).set _ _ _ (by omega)).set _ _ _ (by omega)).set _ _ _ (by omega)).set _ _ _ (by omega)).set _ _ _ (by omega)).set _ _ _ (by omega)).more (by omega)
            · exact ((((((hx.setc (by dsimp only; omega)).setc (by dsimp only; omega)).setc (by dsimp only; omega)).setc (by dsimp only; omega)).setc (by dsimp only; omega)).setc (by dsimp only; omega)).setc (by dsimp only; omega)
          · have hps : p < S.length := hpl
            obtain ⟨L, hL⟩ : ∃ L, L = inSt S 1 := ⟨_, rfl⟩
            obtain ⟨m, hm⟩ : ∃ m, m = lastV L := ⟨_, rfl⟩
            have HWY : Hid (wayOf n S = 2) := Lib.hid (by unfold wayOf; rw [if_neg (by rw [hA]; simp), if_neg (by rw [hB]; simp), if_pos hC])
            have HPK : Hid (pickOf n S = ⟨0, 0, 0, m.k, m.i, m.f, m.t, m.a, joinS_ n L, joinL_ n L⟩) := Lib.hid (by unfold pickOf; rw [if_neg (by rw [hA]; simp), if_neg (by rw [hB]; simp), if_pos hC, hm, hL])
            have hm0 : S[p] = m := by rw [List.getElem?_eq_getElem hps] at hpe; rw [hm, hL]; exact Option.some.inj hpe
            obtain ⟨um, hum, _⟩ := HDV.out p hps
            rw [hm0] at hum
            rw [← hL] at HJJ
            obtain ⟨ja, jc, jo, jf, _⟩ := HJJ.out
            obtain ⟨⟨j0, j1⟩, _, _⟩ := jo
            obtain ⟨_, _, _, q3, q4, q5, q6, q7, _, _⟩ := hum.ext HX.out
            obtain ⟨⟨c0, c1, c2', c3, c4⟩, ⟨z0, z1, z2, z3, z4⟩, ⟨a0, a1⟩, y0, y1⟩ := HR.out
            have F9 := Lib.hid jf
            have hx := HX.out
            have hp0 : (0 : Int) ≤ (p : Int) := by omega
            have hne1 : b10 ≠ w.heap.size := by have := HB10.out; omega
            have hne2 : w.heap.size ≠ b10 := by have := HB10.out; omega
            have hne3 : b10 ≠ w.heap.size + 1 := by have := HB10.out; omega
            clear hA hB hC hL hm hm0 hum jf hpe
            go_wp2_with fail
            go_region
            all_goals
              go_wp2
              refine bodyPost_ret (v := .tuple #[.int .i64 2, .agg #[.int .i64 m.k, .int .i64 m.i, .int .i64 m.f, .int .i64 m.t, .int .i64 m.a], .agg #[.int .i64 (joinS_ n L), .slice ja (joinL_ n L).length jc]]) (by simp [results, Try.results85, go_sem, c0, c1, c2', c3, c4, a0, a1]) rfl ⟨_, by rw [HWY.out, HPK.out], ?_, ?_⟩
              · rw [HPK.out]
                exact ((((((((F9.out.set _ _ _ (by omega)).set _ _ _ (by omega)).set _ _ _ (by omega)).set _ _ _ (by omega)).set _ _ _ (by omega)).set _ _ _ (by omega)).set _ _ _ (by omega)).more (by omega)).ext (Ext.drew (Ext.refl _))
              · exact (((((((hx.setc (by dsimp only; omega)).setc (by dsimp only; omega)).setc (by dsimp only; omega)).setc (by dsimp only; omega)).setc (by dsimp only; omega)).setc (by dsimp only; omega)).setc (by dsimp only; omega)).drew
      · have hps : p < S.length := hpl
        obtain ⟨m, hm⟩ : ∃ m, m = lastV (inSt S 2) := ⟨_, rfl⟩
        have HWY : Hid (wayOf n S = 1) := Lib.hid (by unfold wayOf; rw [if_pos hA])
        have HPK : Hid (pickOf n S = m) := Lib.hid (by unfold pickOf; rw [if_pos hA, hm])
        have hm0 : S[p] = m := by rw [List.getElem?_eq_getElem hps] at hpe; rw [hm]; exact Option.some.inj hpe
        have HML : Hid (m.l.length ≤ 1048576) := Lib.hid (by have h1 := HL.out S[p] (List.getElem_mem hps); have h2 := isGrp_bd HN.out; rw [hm0] at h1; omega)
        obtain ⟨um, hum, ium⟩ := HDV.out p hps
        rw [hm0] at hum ium
        obtain ⟨am, cm, rfl, _, _, _⟩ := id ium
        have hp0 : (0 : Int) ≤ (p : Int) := by omega
        clear hA hm hm0 hp hpe
        have HUM := Lib.hid hum
        have IM := Lib.hid (ium.ext HX.out)
        obtain ⟨_, _, _, q3, q4, q5, q6, q7, q8, q9⟩ := hum.ext HX.out
        obtain ⟨⟨c0, c1, c2', c3, c4⟩, ⟨z0, z1, z2, z3, z4⟩, ⟨a0, a1⟩, y0, y1⟩ := HR.out
        have hbz : b < wr.heap.size := World.block_lt_of_cell? wr _ q3
        clear hum ium
        go_wp2_with fail
        go_region_with (go_at_call 144; refine (l4OwnAttr_any m.s _ m.l _ (IM.out.ext (Ext.drew (Ext.refl _))) HML.out).mono ?_; rintro e W ⟨z, rfl, f9, x9⟩; obtain ⟨az, cz, rfl⟩ := f9.form; have x94 : Ext wr W := (Ext.drew (Ext.refl _)).trans x9; obtain ⟨_, _, _, q3, q4, q5, q6, q7, q8, q9⟩ := HUM.out.ext (HX.out.trans x94); obtain ⟨⟨c0, c1, c2', c3, c4⟩, ⟨z0, z1, z2, z3, z4⟩, ⟨a0, a1⟩, y0, y1⟩ := HR.out.ext x94)
        all_goals
          have F9 := Lib.hid (f9.more (B' := wr.heap.size) (by simp))
          have hx := HX.out.trans x94
          clear f9 x9 x94 q3 q4 q5 q6 q7 q8 q9
          go_wp2
          refine bodyPost_ret (v := .tuple #[.int .i64 1, .agg #[.int .i64 m.k, .int .i64 m.i, .int .i64 m.f, .int .i64 m.t, .int .i64 m.a], .agg #[.int .i64 m.s, .slice az m.l.length cz]]) (by simp [results, Try.results85, go_sem, c0, c1, c2', c3, c4, a0, a1]) rfl ⟨_, by rw [HWY.out, HPK.out], ?_, ?_⟩
          · rw [HPK.out]
            exact (((((((F9.out.set _ _ _ (by omega)).set _ _ _ (by omega)).set _ _ _ (by omega)).set _ _ _ (by omega)).set _ _ _ (by omega)).set _ _ _ (by omega)).set _ _ _ (by omega)).more (by omega)
          · exact ((((((hx.setc (by dsimp only; omega)).setc (by dsimp only; omega)).setc (by dsimp only; omega)).setc (by dsimp only; omega)).setc (by dsimp only; omega)).setc (by dsimp only; omega)).setc (by dsimp only; omega)
end Go.Proofs.Ythnoeknalpnadaa

namespace Go.Proofs.Ythnoeknalpnadaa
open Go.RowKit
set_option linter.unusedVariables false

set_option maxHeartbeats 1000000 in
theorem specMajority_any (n : Int) (w : World) : Calls Try.prog 83 #[.int .i64 n] w (fun e w' => e = .returned (.tuple #[.int .i64 (majN n), .bool (isGrp n)]) ∧ w = w') := by
  cases hg : isGrp n with
  | false =>
    have e : majN n = 0 := by unfold majN; rw [(isGrp_no hg).1, (isGrp_no hg).2]; rfl
    rw [e]
    have HG := Lib.hid hg
    clear hg e
    go_enter Try.func83, Try.ntmps83
    go_wp2_with fail
    refine (specIsGroup_any _ _).mono ?_
    rintro e w' ⟨rfl, rfl⟩
    rw [HG.out]
    go_wp2
    go_ret2
    exact ⟨rfl, rfl⟩
  | true =>
    have HG := Lib.hid hg
    rcases isGrp_of hg with rfl | rfl
    all_goals
      clear hg
      go_enter Try.func83, Try.ntmps83
      go_wp2_with fail
      refine (specIsGroup_any _ _).mono ?_
      rintro e w' ⟨rfl, rfl⟩
      rw [HG.out]
      go_wp2
      go_ret2
      exact ⟨rfl, rfl⟩
theorem told_len {n : Int} {r : RowD} (hn : isGrp n = true) (h : toldB n r = true) : (r.l.length : Int) = n := by
  unfold toldB at h
  simp only [Bool.and_eq_true] at h
  exact goodRow_len hn h.2
theorem chooseOk_spec {n : Int} {S : List RowD} (hg : isGrp n = true) : chooseOk n S = (inB (S.length : Int) (majN n) n && S.all (toldB n)) := by
  unfold chooseOk
  rw [hg, majN_half hg, Bool.true_and]

set_option maxHeartbeats 8000000 in
set_option maxRecDepth 100000 in
theorem specChoose_any (n : Int) (v : Value) (S : List RowD) (w : World) (hv : Rowz w v S) :
    Calls Try.prog 21 #[.int .i64 n, v] w (FourW (wayR n S) (pickR n S) (chooseOk n S) w) := by
  obtain ⟨w0, hw0⟩ : ∃ w0, w0 = (w.alloc (.cells #[.int .i64 0, .int .i64 0, .int .i64 0, .int .i64 0, .int .i64 0] 36)).alloc (.cells #[.int .i64 0, .slice none 0 0] 39) := ⟨_, rfl⟩
  have x0 : Ext w w0 := by rw [hw0]; exact (Ext.alloc1 _ _).alloc _
  have r0 := res_new w 36 39
  rw [← hw0] at r0
  have HW0 := Lib.hid hw0
  have X0 := Lib.hid x0
  have R0 := Lib.hid r0
  have HV := Lib.hid (hv.ext x0)
  obtain ⟨av, cv, rfl, hlv, _, hcv⟩ := hv
  unfold maxLen at hlv
  have HCV := Lib.hid hcv
  obtain ⟨mj, hmj⟩ : ∃ mj, mj = majN n := ⟨_, rfl⟩
  have HMJ : Hid (∀ W, Calls Try.prog 83 #[.int .i64 n] W (fun e w' => e = .returned (.tuple #[.int .i64 mj, .bool (isGrp n)]) ∧ W = w')) := Lib.hid (fun W => by rw [hmj]; exact specMajority_any n W)
  clear hw0 x0 r0 hcv
  obtain ⟨⟨c0, c1, c2', c3, c4⟩, ⟨z0, z1, z2, z3, z4⟩, ⟨a0, a1⟩, y0, y1⟩ := R0.out
  cases hg : isGrp n with
  | false =>
    have hk : chooseOk n S = false := by unfold chooseOk; rw [hg]; rfl
    have e1 : wayR n S = 0 := by unfold wayR; rw [hk]; rfl
    have e2 : pickR n S = zeroR := by unfold pickR; rw [hk]; rfl
    rw [hk, e1, e2]
    rw [hg] at HMJ
    clear hg hk e1 e2 hmj
    go_enter Try.func21, Try.ntmps21
    go_wp2_with fail
    rw [← HW0.out]
    refine (HMJ.out _).mono ?_
    rintro e w' ⟨rfl, rfl⟩
    go_wp2
    refine bodyPost_ret (v := .tuple #[.int .i64 0, .agg #[.int .i64 0, .int .i64 0, .int .i64 0, .int .i64 0, .int .i64 0], .agg #[.int .i64 0, .slice none 0 0], .bool false]) (by simp [results, Try.results21, go_sem, c0, c1, c2', c3, c4, a0, a1]) rfl ⟨_, rfl, fresh_nil _ _, ?_⟩
    exact ((((((X0.out.setc (Nat.le_refl _)).setc (Nat.le_refl _)).setc (Nat.le_refl _)).setc (Nat.le_refl _)).setc (Nat.le_refl _)).setc (Nat.le_succ _)).setc (Nat.le_succ _)
  | true =>
    rw [hg] at HMJ
    have HG := Lib.hid hg
    cases hi : inB (S.length : Int) mj n with
    | false =>
      have hk : chooseOk n S = false := by rw [chooseOk_spec hg, ← hmj, hi]; rfl
      have e1 : wayR n S = 0 := by unfold wayR; rw [hk]; rfl
      have e2 : pickR n S = zeroR := by unfold pickR; rw [hk]; rfl
      rw [hk, e1, e2]
      have HI := Lib.hid hi
      clear hg hk e1 e2 hmj hi
      go_enter Try.func21, Try.ntmps21
      go_wp2_with fail
      rw [← HW0.out]
      refine (HMJ.out _).mono ?_
      rintro e w' ⟨rfl, rfl⟩
      go_wp2_with fail
      refine (l1In_any _ _ _ _).mono ?_
      rintro e w' ⟨rfl, rfl⟩
      rw [HI.out]
      go_wp2
      refine bodyPost_ret (v := .tuple #[.int .i64 0, .agg #[.int .i64 0, .int .i64 0, .int .i64 0, .int .i64 0, .int .i64 0], .agg #[.int .i64 0, .slice none 0 0], .bool false]) (by simp [results, Try.results21, go_sem, c0, c1, c2', c3, c4, a0, a1]) rfl ⟨_, rfl, fresh_nil _ _, ?_⟩
      exact ((((((X0.out.setc (Nat.le_refl _)).setc (Nat.le_refl _)).setc (Nat.le_refl _)).setc (Nat.le_refl _)).setc (Nat.le_refl _)).setc (Nat.le_succ _)).setc (Nat.le_succ _)
    | true =>
      have hpos : 0 < S.length := by
        unfold inB at hi
        simp only [Bool.and_eq_true, decide_eq_true_eq] at hi
        rw [hmj] at hi
        rcases isGrp_of hg with rfl | rfl <;> simp [majN] at hi <;> omega
      have hkk : chooseOk n S = S.all (toldB n) := by rw [chooseOk_spec hg, ← hmj, hi]; rfl
      have HI := Lib.hid hi
      have HKK := Lib.hid hkk
      have HPOS := Lib.hid hpos
      clear hg hmj hi hkk hpos c0 c1 c2' c3 c4 z0 z1 z2 z3 z4 a0 a1 y0 y1
      go_enter Try.func21, Try.ntmps21
      go_wp2_with fail
      rw [← HW0.out]
      refine (HMJ.out _).mono ?_
      rintro e w' ⟨rfl, rfl⟩
      go_wp2_with fail
      refine (l1In_any _ _ _ _).mono ?_
      rintro e w' ⟨rfl, rfl⟩
      rw [HI.out]
      go_wp2
      go_loopw [34] (fun i wr => ∃ k : Nat, k ≤ S.length ∧ i = .int .i64 k ∧ Hid ((S.take k).all (toldB n) = true) ∧ Hid (Ext w0 wr)) (fun i _ => S.length - (intOf i).toNat)
      case atStart => exact ⟨0, Nat.zero_le _, rfl, Lib.hid (by simp), Lib.hid (Ext.refl _)⟩
      case round =>
        obtain ⟨k, hk, rfl, HT, HX⟩ := hrel
        by_cases hlt : k < S.length
        · obtain ⟨b, off, rfl, dv⟩ := HCV.out (by omega)
          obtain ⟨r, hr⟩ : ∃ r, r = S[k] := ⟨_, rfl⟩
          obtain ⟨u, hu, iu⟩ := dv k hlt
          rw [← hr] at hu iu
          obtain ⟨au, cu, rfl, _, _, _⟩ := id iu
          have HR := Lib.hid hr
          have HLT := Lib.hid hlt
          have hxw := X0.out.trans HX.out
          obtain ⟨g0, g1, g2, g3, g4, g5, g6, g7, g8, g9⟩ := hu.ext hxw
          have xa := Ext.alloc1 wr (.cells #[.int .i64 r.b, .int .i64 r.v, .int .i64 r.st, .int .i64 r.k, .int .i64 r.i, .int .i64 r.f, .int .i64 r.t, .int .i64 r.a, .int .i64 r.s, .slice au r.l.length cu] 71)
          have ra := rowAt_new wr 71 r (.slice au r.l.length cu)
          have HRA := Lib.hid ra
          have IU := Lib.hid (iu.ext (hxw.trans xa))
          have HXA := Lib.hid (HX.out.trans xa)
          obtain ⟨c, hc⟩ : ∃ c, c = goodRow n r := ⟨_, rfl⟩
          have HC := Lib.hid hc
          clear dv hr hu iu hxw xa ra hc
          go_wp2_with fail
          refine (l4Row_any n r _ _ IU.out HG.out).mono ?_
          rintro e w2 ⟨rfl, x2⟩
          rw [← HC.out]
          obtain ⟨_, _, p2, _⟩ := HRA.out.ext x2
          have X2 := Lib.hid (HXA.out.trans x2)
          clear x2 g0 g1 g2 g3 g4 g5 g6 g7 g8 g9 IU HXA HRA
          cases c with
          | false =>
            have ht : toldB n r = false := by unfold toldB; rw [← HC.out]; simp
            have hk0 : chooseOk n S = false := by rw [HKK.out]; exact told_no HLT.out (by rw [← HR.out]; exact ht)
            have HK0 := Lib.hid hk0
            have HE1 : Hid (wayR n S = 0) := Lib.hid (by unfold wayR; rw [hk0]; rfl)
            have HE2 : Hid (pickR n S = zeroR) := Lib.hid (by unfold pickR; rw [hk0]; rfl)
            obtain ⟨⟨c0, c1, c2', c3, c4⟩, ⟨z0, z1, z2, z3, z4⟩, ⟨a0, a1⟩, y0, y1⟩ := R0.out.ext X2.out
            have hx := X0.out.trans X2.out
            clear ht hk0
            go_wp2
            refine bodyPost_ret (v := .tuple #[.int .i64 0, .agg #[.int .i64 0, .int .i64 0, .int .i64 0, .int .i64 0, .int .i64 0], .agg #[.int .i64 0, .slice none 0 0], .bool false]) (by simp [results, Try.results21, go_sem, c0, c1, c2', c3, c4, a0, a1]) rfl ⟨_, by rw [HK0.out, HE1.out, HE2.out]; rfl, by rw [HE2.out]; exact fresh_nil _ _, ?_⟩
            exact ((((((hx.setc (Nat.le_refl _)).setc (Nat.le_refl _)).setc (Nat.le_refl _)).setc (Nat.le_refl _)).setc (Nat.le_refl _)).setc (Nat.le_succ _)).setc (Nat.le_succ _)
          | true =>
            cases e3 : (r.st == 3) with
            | true =>
              have ht : toldB n r = false := by unfold toldB; rw [e3]; rfl
              have hk0 : chooseOk n S = false := by rw [HKK.out]; exact told_no HLT.out (by rw [← HR.out]; exact ht)
              have HK0 := Lib.hid hk0
              have HE1 : Hid (wayR n S = 0) := Lib.hid (by unfold wayR; rw [hk0]; rfl)
              have HE2 : Hid (pickR n S = zeroR) := Lib.hid (by unfold pickR; rw [hk0]; rfl)
              obtain ⟨⟨c0, c1, c2', c3, c4⟩, ⟨z0, z1, z2, z3, z4⟩, ⟨a0, a1⟩, y0, y1⟩ := R0.out.ext X2.out
              have hx := X0.out.trans X2.out
              clear ht hk0
              go_wp2
              refine bodyPost_ret (v := .tuple #[.int .i64 0, .agg #[.int .i64 0, .int .i64 0, .int .i64 0, .int .i64 0, .int .i64 0], .agg #[.int .i64 0, .slice none 0 0], .bool false]) (by simp [results, Try.results21, go_sem, c0, c1, c2', c3, c4, a0, a1]) rfl ⟨_, by rw [HK0.out, HE1.out, HE2.out]; rfl, by rw [HE2.out]; exact fresh_nil _ _, ?_⟩
              exact ((((((hx.setc (Nat.le_refl _)).setc (Nat.le_refl _)).setc (Nat.le_refl _)).setc (Nat.le_refl _)).setc (Nat.le_refl _)).setc (Nat.le_succ _)).setc (Nat.le_succ _)
            | false =>
              have ht : toldB n r = true := by unfold toldB; rw [e3, ← HC.out]; rfl
              have HT1 := Lib.hid (told_succ HLT.out HT.out (by rw [← HR.out]; exact ht))
              clear ht
              go_wp2
              go_roundw
              case rel => exact ⟨k + 1, by have := HLT.out; omega, by go_num, HT1, X2⟩
              case measure => simp [intOf]; have := HLT.out; omega
        · obtain rfl : k = S.length := by omega
          have hta := HT.out
          rw [List.take_length] at hta
          have hk1 : chooseOk n S = true := by rw [HKK.out]; exact hta
          have HK1 := Lib.hid hk1
          have HE1 : Hid (wayR n S = wayOf n S) := Lib.hid (by unfold wayR; rw [hk1]; rfl)
          have HE2 : Hid (pickR n S = pickOf n S) := Lib.hid (by unfold pickR; rw [hk1]; rfl)
          have CC := Lib.hid (fun W h => l8Choose_any n (.slice av S.length cv) S W h HG.out HPOS.out hta (fun r hr => told_len HG.out (List.all_eq_true.1 hta r hr)))
          have HV2 := Lib.hid (HV.out.ext HX.out)
          obtain ⟨y, hy⟩ : ∃ y, y = wayOf n S := ⟨_, rfl⟩
          obtain ⟨m, hm⟩ : ∃ m, m = pickOf n S := ⟨_, rfl⟩
          rw [← hy, ← hm] at CC
          rw [← hy] at HE1
          rw [← hm] at HE2
          clear hta hk1 hy hm HT HCV hlt
          go_wp2_with fail
          refine (CC.out _ HV2.out).mono ?_
          rintro e w2 ⟨z, rfl, f9, x9⟩
          obtain ⟨az, cz, rfl⟩ := f9.form
          obtain ⟨wb, hwb⟩ : ∃ wb, wb = (w2.alloc (.cells #[.int .i64 m.k, .int .i64 m.i, .int .i64 m.f, .int .i64 m.t, .int .i64 m.a] 36)).alloc (.cells #[.int .i64 m.s, .slice az m.l.length cz] 39) := ⟨_, rfl⟩
          obtain ⟨bq, hbq⟩ : ∃ bq, bq = w2.heap.size := ⟨_, rfl⟩
          have xb : Ext w2 wb := by rw [hwb]; exact (Ext.alloc1 _ _).alloc _
          have hcm : CmdAt wb bq m.k m.i m.f m.t m.a := by rw [hwb, hbq]; exact (cmdAt_new w2 36 m.k m.i m.f m.t m.a).ext (Ext.alloc1 _ _)
          have hat : AttrAt wb (bq + 1) m.s (.slice az m.l.length cz) := by
            have h := attrAt_new (w2.alloc (.cells #[.int .i64 m.k, .int .i64 m.i, .int .i64 m.f, .int .i64 m.t, .int .i64 m.a] 36)) 39 m.s (.slice az m.l.length cz)
            rw [World.size_alloc, ← hbq, ← hwb] at h
            exact h
          have hsz : w.heap.size + 1 < wr.heap.size := Nat.lt_of_lt_of_le (World.block_lt_of_cell? w0 _ R0.out.attr.1.1) HX.out.size
          have hbz : wr.heap.size ≤ bq := by rw [hbq]; exact x9.size
          have F9 := Lib.hid (f9.ext xb)
          have hx := X0.out.trans (HX.out.trans (x9.trans xb))
          obtain ⟨⟨c0, c1, c2', c3, c4⟩, ⟨z0, z1, z2, z3, z4⟩, ⟨a0, a1⟩, y0, y1⟩ := R0.out.ext (HX.out.trans (x9.trans xb))
          obtain ⟨p0, p1, p2, p3, p4⟩ := hcm
          obtain ⟨d0, d1⟩ := hat
          have hne1 : bq ≠ w.heap.size := by omega
          have hne2 : bq ≠ w.heap.size + 1 := by omega
          have hne3 : bq + 1 ≠ w.heap.size := by omega
          have hne4 : bq + 1 ≠ w.heap.size + 1 := by omega
          have HWB := Lib.hid hwb
          have HBQ := Lib.hid hbq
          clear f9 x9 xb hwb hbq
          go_wp2_with fail
          rw [← HWB.out, ← HBQ.out]
          go_region
          all_goals
            go_wp2
            refine bodyPost_ret (v := .tuple #[.int .i64 y, .agg #[.int .i64 m.k, .int .i64 m.i, .int .i64 m.f, .int .i64 m.t, .int .i64 m.a], .agg #[.int .i64 m.s, .slice az m.l.length cz], .bool true]) (by simp [results, Try.results21, go_sem, c0, c1, c2', c3, c4, a0, a1]) rfl ⟨_, by rw [HK1.out, HE1.out, HE2.out], ?_, ?_⟩
            · rw [HE2.out]
              exact ((((((((F9.out.set _ _ _ (by omega)).set _ _ _ (by omega)).set _ _ _ (by omega)).set _ _ _ (by omega)).set _ _ _ (by omega)).set _ _ _ (by omega)).set _ _ _ (by omega)).more (by omega)).ext (Ext.drew (Ext.refl _))
            · exact (((((((hx.setc (by dsimp only; omega)).setc (by dsimp only; omega)).setc (by dsimp only; omega)).setc (by dsimp only; omega)).setc (by dsimp only; omega)).setc (by dsimp only; omega)).setc (by dsimp only; omega)).drew
end Go.Proofs.Ythnoeknalpnadaa

namespace Go.Proofs.Ythnoeknalpnadaa
open Go.RowKit
set_option linter.unusedVariables false

theorem cmd_ins {lo hi b : Nat} {w w' : World} {k i f t a : Int} (h : CmdAt w b k i f t a) (q : Ins lo hi w w') (hb : b < lo ∨ hi ≤ b) : CmdAt w' b k i f t a :=
  ⟨q.cell h.1 hb, q.cell h.2.1 hb, q.cell h.2.2.1 hb, q.cell h.2.2.2.1 hb, q.cell h.2.2.2.2 hb⟩
theorem attr_ins {lo hi b : Nat} {w w' : World} {s : Int} {u : Value} (h : AttrAt w b s u) (q : Ins lo hi w w') (hb : b < lo ∨ hi ≤ b) : AttrAt w' b s u :=
  ⟨q.cell h.1 hb, q.cell h.2 hb⟩
/-- The model's answer in the boxes P and P + 1 (list v3, below h3), the program's in the boxes Q and Q + 1 (list v5, from B on, below Q, reading as M). -/
structure LiveC (w W : World) (P Q h3 B : Nat) (v3 v5 : Value) (k i f t a s : Int) (L M : List Int) : Prop where
  ext : Ext w W
  c3 : CmdAt W P k i f t a
  a3 : AttrAt W (P + 1) s v3
  f3 : Fresh 0 W v3 L
  u3 : Und h3 v3
  c5 : CmdAt W Q k i f t a
  a5 : AttrAt W (Q + 1) s v5
  f5 : Fresh B W v5 M
  u5 : Und Q v5
theorem LiveC.on {w W W' : World} {P Q h3 B : Nat} {v3 v5 : Value} {k i f t a s : Int} {L M : List Int} (h : LiveC w W P Q h3 B v3 v5 k i f t a s L M) (e : Ext W W') : LiveC w W' P Q h3 B v3 v5 k i f t a s L M :=
  ⟨h.ext.trans e, h.c3.ext e, h.a3.ext e, h.f3.ext e, h.u3, h.c5.ext e, h.a5.ext e, h.f5.ext e, h.u5⟩
theorem LiveC.ins {w W W' : World} {P Q h3 B lo hi : Nat} {v3 v5 : Value} {k i f t a s : Int} {L M : List Int} (h : LiveC w W P Q h3 B v3 v5 k i f t a s L M) (q : Ins lo hi W W')
    (h0 : w.heap.size ≤ lo) (hP : P + 1 < lo) (hh : h3 ≤ lo) (hB : hi ≤ B) (hQ : hi ≤ Q) : LiveC w W' P Q h3 B v3 v5 k i f t a s L M :=
  ⟨q.ext h.ext h0, cmd_ins h.c3 q (.inl (by omega)), attr_ins h.a3 q (.inl hP), q.row h.f3 (fun b hb => .inl (Nat.lt_of_lt_of_le (h.u3 b hb) hh)), h.u3, cmd_ins h.c5 q (.inr hQ), attr_ins h.a5 q (.inr (by omega)), h.f5.ins_high q hB, h.u5⟩
theorem LiveC.mark {w W W' : World} {P Q h3 B : Nat} {v3 v5 : Value} {k i f t a s : Int} {L M M' : List Int} (h : LiveC w W P Q h3 B v3 v5 k i f t a s L M) (g : W.grownBy W' v5.ownBlock) (f' : Fresh B W' v5 M')
    (h0 : w.heap.size ≤ B) (hP : P + 1 < B) (hh : h3 ≤ B) : LiveC w W' P Q h3 B v3 v5 k i f t a s L M' := by
  have q : Ins B Q W W' := Ins.of_grown g (fun b hb => ⟨(World.ownsRow.lt h.f5 b hb).1, h.u5 b hb⟩)
  exact ⟨q.ext h.ext h0, cmd_ins h.c3 q (.inl (by omega)), attr_ins h.a3 q (.inl hP), q.row h.f3 (fun b hb => .inl (Nat.lt_of_lt_of_le (h.u3 b hb) hh)), h.u3, cmd_ins h.c5 q (.inr (Nat.le_refl _)), attr_ins h.a5 q (.inr (by omega)), f', h.u5⟩
end Go.Proofs.Ythnoeknalpnadaa
