/- Texts of this proof, part k: words, plain facts, contracts. -/
import Derived.Test.YtkhdgmgacfhcgaaMReadyIni
import Derived.Test.YtkhdgmgacfhcgaaMReadyInj
import Derived.Test.YtkhdgmgacfhcgaaMReadyIne
import Derived.Test.YtkhdgmgacfhcgaaMReadyIna
import Derived.Deep.RegionHeld3
import Derived.Test.YtkhdgmgacfhcgaaMReadyInb

namespace Go.Proofs.Ytkhdgmgacfhcgaa
open Go.RowKit Go.Maps
set_option linter.unusedVariables false

/-- How many entries a map's block has. -/
def entriesOf (w : World) (b : Nat) : Nat := match w.heap[b]? with
  | some (.map es _) => es.size
  | _ => 0
theorem entries_eq {w : World} {b n : Nat} {D : DataW Value} (h : RowMap w b n D) : entriesOf w b = Maps.size D := by
  obtain ⟨es, clock, hb, F, hs, rfl⟩ := h
  unfold entriesOf
  rw [hb]
  show es.size = _
  rw [Maps.size_eq, length_sorted]
  simp
theorem size_less {w : World} {b n : Nat} {D : DataW Value} (h : RowMap w b n D) {l : Lit} (hh : Maps.has D l = true) : Maps.size (D.del l) + 1 = Maps.size D := by
  have := Maps.size_del (k := l) (h.tidy instKeyed)
  rw [hh] at this
  simpa using this
def flagN : Value → Nat
  | .bool true => 1
  | _ => 0

set_option maxHeartbeats 4000000 in
set_option maxRecDepth 100000 in
theorem readyIn_any (n : Int) (u : Value) (T : List (List RowD)) (U : Nat → Nat → Value) (w : World) (hu : TabAt w u T U) (hg : goodTab n T = true) :
    Calls Try.prog 23 #[.agg #[.int .i64 n, u]] w (NewRowMap T (readyB n T) (rowF n T U) w) := by
  have H56 := Lib.hid (goodTab_both hg)
  have HG := Lib.hid hg
  obtain ⟨wb, hwb⟩ : ∃ wb, wb = w.alloc (.cells #[.int .i64 n, u] 31) := ⟨_, rfl⟩
  have xb : Ext w wb := by rw [hwb]; exact Ext.alloc1 _ _
  have HL := Lib.hid ((hu.ext xb).lists n)
  have HU := Lib.hid (hu.ext xb)
  have XB := Lib.hid xb
  have HWB := Lib.hid hwb
  obtain ⟨au, cu, rfl, hlu, _, _⟩ := hu
  unfold maxLen at hlu
  clear hg xb hwb
  go_enter Try.func23, Try.ntmps23
  go_wp2_with fail
  rw [← HWB.out]
  refine (committedIn_any n _ T U _ HU.out H56.out.1 H56.out.2).mono ?_
  rintro e w1 ⟨B, D0, rfl, m1, d1, hb1, x1⟩
  have HB := Lib.hid hb1
  have M1 := Lib.hid m1
  have D1 := Lib.hid d1
  have X1 := Lib.hid x1
  clear m1 d1 hb1 x1
  go_wp2
  go_loopw [4, 5, 6] (fun f _ _ wr => ∃ (fl : Bool) (D : DataW Value) (S : Nat → Nat → Bool), f = .bool fl ∧ Hid (RowMap wr B 30 D) ∧ Hid (MapOf D S (rowF n T U)) ∧ Hid (Betw n T S) ∧ Hid (fl = false → ∀ p q, S p q = true → AllHere n T S p q) ∧ Hid (Ext wb wr)) (fun f _ _ wr => 2 * entriesOf wr B + flagN f)
  case atStart => exact ⟨true, D0, _, rfl, M1, D1, Lib.hid (Betw.start n T), Lib.hid (fun h => by cases h), X1⟩
  case round =>
    clear M1 D1 X1
    obtain ⟨fl, D, S, rfl, M, MO, BT, CL, X⟩ := hrel
    cases fl with
    | false =>
      have MR : Hid (MapOf D (readyB n T) (rowF n T U)) := Lib.hid (MO.out.congr (fun p q => BT.out.done (CL.out rfl) p q) (fun _ _ _ => rfl))
      have XE := Lib.hid (XB.out.trans X.out)
      have HBE : Hid (w.heap.size ≤ B) := Lib.hid (Nat.le_trans XB.out.size HB.out)
      clear CL MO BT
      go_wp2
      go_ret
      exact ⟨_, D, rfl, M.out, MR.out, HBE.out, XE.out⟩
    | true =>
      clear CL
      go_wp2_with (first | (at_range; refine wpList_range_own _ rfl _ 54 rfl 64 53 instKeyed Try.underlying54 asIs B 30 D rfl M.out ?_; intro w2 hrg2 hg2 hs2) | go_in)
      go_frame
      have X2 := Lib.hid (X.out.trans (ext_of_grown hg2))
      have R2 := Lib.hid hrg2
      have HE := Lib.hid (entries_eq M.out)
      obtain ⟨r, hr⟩ : ∃ r, r = wr.heap.size := ⟨_, rfl⟩
      rw [← hr] at R2 ⊢
      have HRB : Hid (wb.heap.size ≤ r) := Lib.hid (by rw [hr]; exact X.out.size)
      obtain ⟨k0, hk0⟩ : ∃ k0, k0 = Maps.size D := ⟨_, rfl⟩
      have HK0 := Lib.hid hk0
      have HST : Hid (∀ p q, S p q = true → Maps.has D (kl (p : Int) ((q : Int) + 1)) = false → AllHere n T S p q) := Lib.hid (fun p q hs hh => by rw [MO.out.has p q hs] at hh; cases hh)
      clear hrg2 hg2 hs2 M X hr hk0
      go_loopw [4, 5, 6] (fun f _ _ wr => ∃ (fl : Bool) (D : DataW Value) (S : Nat → Nat → Bool) (left : Lit → Bool) (cnt : Nat), f = .bool fl ∧ Hid (RowRange wr B r 30 D left cnt) ∧ Hid (MapOf D S (rowF n T U)) ∧ Hid (Betw n T S) ∧ Hid (fl = false → ∀ p q, S p q = true → left (kl (p : Int) ((q : Int) + 1)) = false → AllHere n T S p q) ∧ Hid ((fl = false → Maps.size D = k0) ∧ (fl = true → Maps.size D + 1 ≤ k0)) ∧ Hid (Ext wb wr)) (fun _ _ _ wr => wr.rangeLeft B r)
      case atStart => exact ⟨false, D, S, _, _, rfl, R2, MO, BT, Lib.hid (fun _ => HST.out), Lib.hid ⟨fun _ => HK0.out.symm, fun h => by cases h⟩, X2⟩
      case round =>
        clear R2 MO BT HST X2
        obtain ⟨fl, D', S', left, cnt, rfl, R, MO, BT, CH, SZ, X⟩ := hrel
        go_wp2_with (first | (at_next; refine wpList_next_inst _ rfl _ rfl B r 30 D' left cnt _ _ rfl R.out MO.out ?_ ?_) | go_in)
        · intro hl
          have MN := Lib.hid R.out.owns
          have CN : Hid (fl = false → ∀ p q, S' p q = true → AllHere n T S' p q) := Lib.hid (fun h p q hs => CH.out h p q hs (hl _))
          have EN := Lib.hid (entries_eq MN.out)
          clear CH R hl
          go_wp2
          go_roundw
          case rel => exact ⟨fl, D', S', rfl, MN, MO, BT, CN, X⟩
          case measure =>
            have h1 := HE.out
            have h2 := EN.out
            have h3 := HK0.out
            have h4 := SZ.out
            rw [h1, h2]
            cases fl with
            | true => have := h4.2 rfl; simp [flagN]; omega
            | false => have := h4.1 rfl; simp [flagN]; omega
        · intro p q w3 cnt3 hS hlk hrg3 hlt hg3 hs3 hen
          have hx3 : Ext wb w3 := X.out.turned hg3 HRB.out
          have hcm := BT.out.com p q hS
          have hi := instCom_inT hcm
          obtain ⟨hpT, hqT⟩ := inT_of hi
          obtain ⟨ay, cy, hU, _⟩ := HL.out p q hi
          have hint := (HL.out p q hi).ext hx3
          obtain ⟨d, hd⟩ : ∃ d, d = rowOf n T p q := ⟨_, rfl⟩
          unfold rowF rowV at hen ⊢
          rw [hU] at hint
          rw [← hd] at hen hint hU ⊢
          rw [hU] at hen ⊢
          have hdi : ∀ k, 0 ≤ depI d k ∧ depI d k ≤ 6 := fun k => by rw [hd]; exact dep_in HG.out hpT q k
          have hdl : d.l.length ≤ 5 := by rw [hd]; exact rowOf_list HG.out hpT q
          have HDI := Lib.hid hdi
          have HINT := Lib.hid hint
          have HD := Lib.hid hd
          have R3 := Lib.hid hrg3
          have X3 := Lib.hid hx3
          have HLT := Lib.hid hlt
          have HRO := Lib.hid R.out
          have HS := Lib.hid hS
          have HLK := Lib.hid hlk
          have HI := Lib.hid hi
          clear hrg3 hx3 hg3 hs3 hlk hcm hi hint hU R X hlt hS hdi hd hqT
          go_wp2_with fail
          refine (hungOn_any d d.s _ _ (HINT.out.ext (Ext.alloc2 _ _ _)) hdl HDI.out).mono ?_
          obtain ⟨w4, hw4⟩ : ∃ w4, w4 = ((w3.alloc (.cells #[.int .i64 p, .int .i64 ((q : Int) + 1)] 64)).alloc (.cells #[.int .i64 d.b, .int .i64 d.v, .int .i64 d.st, .int .i64 d.k, .int .i64 d.i, .int .i64 d.f, .int .i64 d.t, .int .i64 d.a, .int .i64 d.s, .slice ay d.l.length cy] 53)) := ⟨_, rfl⟩
          have x34 : Ext w3 w4 := by rw [hw4]; exact Ext.alloc2 _ _ _
          have T4 := Lib.hid (two_new w3 (p : Int) ((q : Int) + 1) 64 53 #[.int .i64 d.b, .int .i64 d.v, .int .i64 d.st, .int .i64 d.k, .int .i64 d.i, .int .i64 d.f, .int .i64 d.t, .int .i64 d.a, .int .i64 d.s, .slice ay d.l.length cy])
          rw [← hw4] at T4 ⊢
          obtain ⟨b5, hb5⟩ : ∃ b5, b5 = w3.heap.size := ⟨_, rfl⟩
          rw [← hb5] at T4 ⊢
          clear hw4 hb5
          rintro e w5 ⟨v5, rfl, f5, x5⟩
          have X5 := Lib.hid (X3.out.trans (x34.trans x5))
          have R5 := Lib.hid (R3.out.ext (x34.trans x5))
          have T5 := Lib.hid (T4.out.ext x5)
          have F5 := Lib.hid f5.at
          have hlow : ∀ x ∈ hungL d, x.1 ≤ 1048576 ∧ x.2 ≤ 1048576 := fun x hx => by
            have h := mem_hungL.1 hx
            have h2 := HDI.out x.1
            unfold depM at h
            omega
          have HLOW := Lib.hid hlow
          have hlow2 := inT_low H56.out.1 H56.out.2 HI.out
          clear x34 x5 f5 R3 X3 T4 hlow HINT
          go_wp2_with fail
          refine (areAllIn_any n T U (hungL d) v5 B 30 D' S' _ F5.out HLOW.out R5.out.owns MO.out (fun p q h => instCom_inT (BT.out.com p q h)) (HL.out.ext X5.out)).mono ?_
          rintro e w6 ⟨rfl, x6⟩
          have X6 := Lib.hid (X5.out.trans x6)
          have R6 := Lib.hid (R5.out.ext x6)
          obtain ⟨t0, t1⟩ := T5.out.ext x6
          have hall : AllHere n T S' p q ↔ ((hungL d).all fun x => S' x.1 x.2) = true := by unfold AllHere; rw [← HD.out]
          have HALL := Lib.hid hall
          clear x6 hall R5 X5 T5 F5 HLOW
          cases hb : ((hungL d).all fun x => S' x.1 x.2) with
          | true =>
            have CN : Hid (fl = false → ∀ p' q', S' p' q' = true → (fun z => left z && !z.sameKey (kl (p : Int) ((q : Int) + 1))) (kl (p' : Int) ((q' : Int) + 1)) = false → AllHere n T S' p' q') := Lib.hid (fun h p' q' hs hl => by
              by_cases e : (p', q') = (p, q)
              · simp only [Prod.mk.injEq] at e
                obtain ⟨rfl, rfl⟩ := e
                exact HALL.out.2 hb
              · have hl' := MO.out.low p' q' hs
                exact CH.out h p' q' hs (left_other (x := (p', q')) hl' (by omega) e hl))
            clear hb CH t0 t1
            go_wp2
            go_roundw
            case rel => exact ⟨fl, D', S', _, _, rfl, R6, MO, BT, CN, SZ, X6⟩
            case measure => rw [R6.out.left_eq, HRO.out.left_eq]; exact HLT.out
          | false =>
            have hnot : ¬ AllHere n T S' p q := fun h => by rw [HALL.out.1 h] at hb; cases hb
            have BN := Lib.hid (BT.out.drop hnot)
            have MN := Lib.hid (MO.out.del (p := p) (q := q) (by omega))
            have hsz := size_less R6.out.owns (MO.out.has p q HS.out)
            have SN : Hid (Maps.size (D'.del (kl (p : Int) ((q : Int) + 1))) + 1 ≤ k0) := Lib.hid (by
              have h4 := SZ.out
              cases fl with
              | true => have := h4.2 rfl; omega
              | false => have := h4.1 rfl; omega)
            clear hb CH hnot hsz BT MO SZ
            go_wp2_with (first | (at_delete; refine wpList_delete_ranges _ rfl _ _ 54 64 rfl 53 instKeyed Try.underlying54 asIs B r 30 D' _ _ rfl R6.out _ (kl (p : Int) ((q : Int) + 1)) rfl (keyOf_inst (wf_small (by omega) (by omega)) (wf_small (by omega) (by omega))) ?_; intro w7 cnt7 hrg7 hle ht7) | go_in)
            rw [Maps.strike_twice] at hrg7
            have R7 := Lib.hid hrg7
            have X7 : Hid (Ext wb w7) := Lib.hid (X6.out.turned ht7.grown HB.out)
            have HLE := Lib.hid hle
            clear hrg7 ht7 hle R6 X6
            go_wp2
            go_roundw
            case rel => exact ⟨true, _, _, _, _, rfl, R7, MN, BN, Lib.hid (fun h => by cases h), Lib.hid ⟨(fun h => by cases h), fun _ => SN.out⟩, X7⟩
            case measure => rw [R7.out.left_eq, HRO.out.left_eq]; exact Nat.lt_of_le_of_lt HLE.out HLT.out

end Go.Proofs.Ytkhdgmgacfhcgaa

namespace Go.Proofs.Ytkhdgmgacfhcgaa
open Go.RowKit Go.Maps
set_option linter.unusedVariables false

/-- Two lists of lists come back, and a Bool: each in new memory, the second behind the first. -/
def ThreeSS (L M : List (List Int)) (b : Bool) (w : World) (e : Ending) (w' : World) : Prop :=
  ∃ v u w1, e = .returned (.tuple #[v, u, .bool b]) ∧ FreshSS w.heap.size w1 v L ∧ Ext w w1 ∧ FreshSS w1.heap.size w' u M ∧ Ext w1 w'

/-- Lists in the same order with the same members are one. -/
theorem lex_unique {L M : List (Nat × Nat)} (hL : L.Pairwise lexL) (hM : M.Pairwise lexL) (h : ∀ x, x ∈ L ↔ x ∈ M) : L = M := by
  induction L generalizing M with
  | nil =>
    cases M with
    | nil => rfl
    | cons y t => exact absurd ((h y).2 (by simp)) (by simp)
  | cons x s ih =>
    cases M with
    | nil => exact absurd ((h x).1 (by simp)) (by simp)
    | cons y t =>
      rw [List.pairwise_cons] at hL hM
      have exy : x = y := by
        rcases List.mem_cons.1 ((h x).1 (by simp)) with e | e
        · exact e
        · rcases List.mem_cons.1 ((h y).2 (by simp)) with e' | e'
          · exact e'.symm
          · have h1 := hM.1 x e
            have h2 := hL.1 y e'
            unfold lexL at h1 h2
            omega
      subst exy
      congr 1
      refine ih hL.2 hM.2 fun z => ?_
      constructor
      · intro hz
        rcases List.mem_cons.1 ((h z).1 (by simp [hz])) with e | e
        · subst e
          have := hL.1 _ hz
          unfold lexL at this
          omega
        · exact e
      · intro hz
        rcases List.mem_cons.1 ((h z).2 (by simp [hz])) with e | e
        · subst e
          have := hM.1 _ hz
          unfold lexL at this
          omega
        · exact e
theorem insts_of {T : List (List RowD)} {L : List (Nat × Nat)} (hL : L.Pairwise lexL) (h : ∀ x : Nat × Nat, x ∈ L ↔ instCom T x.1 x.2 = true) : L = insts T :=
  lex_unique hL (insts_lex T) (fun x => by rw [h, mem_insts])
theorem insts_short {n : Int} {T : List (List RowD)} (hg : goodTab n T = true) : (insts T).length ≤ 30 := by
  have h := goodTab_both hg
  have h2 := allTo_len h.2 T.length (Nat.le_refl _)
  rw [allTo_insts, List.length_map] at h2
  have : (insts T).length ≤ 6 * T.length := h2
  omega

def pointsR (n : Int) (T : List (List RowD)) : List (List Int) := if goodTab n T then (insts T).map pairOf else []
def graphR (n : Int) (T : List (List RowD)) : List (List Int) := if goodTab n T then graphP n T (insts T) else []

end Go.Proofs.Ytkhdgmgacfhcgaa

namespace Go.Proofs.Ytkhdgmgacfhcgaa
open Go.RowKit Go.Maps
set_option linter.unusedVariables false

/-- What can be done, in order. -/
noncomputable def readyL (n : Int) (T : List (List RowD)) : List (Nat × Nat) := (insts T).filter fun x => readyB n T x.1 x.2
theorem readyB_com {n : Int} {T : List (List RowD)} {p q : Nat} (h : readyB n T p q = true) : instCom T p q = true := by
  obtain ⟨C, hC, hx⟩ := readyB_iff.1 h
  exact hC.1 _ hx
theorem readyL_of {n : Int} {T : List (List RowD)} {L : List (Nat × Nat)} (hL : L.Pairwise lexL) (h : ∀ x : Nat × Nat, x ∈ L ↔ readyB n T x.1 x.2 = true) : L = readyL n T :=
  lex_unique hL ((insts_lex T).filter _) (fun x => by
    unfold readyL
    rw [h, List.mem_filter, mem_insts]
    exact ⟨fun hr => ⟨readyB_com hr, hr⟩, fun hr => hr.2⟩)
theorem readyL_short {n : Int} {T : List (List RowD)} (hg : goodTab n T = true) : (readyL n T).length ≤ 30 :=
  Nat.le_trans (List.length_filter_le _ _) (insts_short hg)
noncomputable def readyR (n : Int) (T : List (List RowD)) : List (List Int) := if goodTab n T then (readyL n T).map pairOf else []

set_option maxHeartbeats 2000000 in
set_option maxRecDepth 100000 in
theorem implReadyIn_any (n : Int) (u : Value) (T : List (List RowD)) (w : World) (hu : Rowzz w u T) (hs : bulkT T ≤ 1099511627776) :
    Calls Try.prog 8 #[.agg #[.int .i64 n, u]] w (TwoIntss (readyR n T) (goodTab n T) w) := by
  obtain ⟨P, hP⟩ : ∃ P, P = readyR n T := ⟨_, rfl⟩
  obtain ⟨g, hg⟩ : ∃ g, g = goodTab n T := ⟨_, rfl⟩
  rw [← hP, ← hg]
  have HS := Lib.hid hs
  have hx0 := Ext.alloc1 w (.cells #[.int .i64 n, u] 31)
  have b0 := attrAt_new w 31 n u
  have HU := Lib.hid (hu.ext hx0)
  have HX := Lib.hid hx0
  have HP := Lib.hid hP
  have HGG := Lib.hid hg
  obtain ⟨au, cu, rfl, hlu, _, _⟩ := hu
  clear hx0 hs hP hg
  go_enter Try.func8, Try.ntmps8
  go_wp2_with fail
  refine (implGoodTable_any n _ T _ HU.out HS.out).mono ?_
  rintro e w1 ⟨rfl, x1⟩
  rw [← HGG.out]
  cases g with
  | false =>
    have eP : P = [] := by rw [HP.out]; unfold readyR; rw [← HGG.out]; rfl
    have X1 := Lib.hid (HX.out.trans x1)
    have EP := Lib.hid eP
    clear eP
    go_wp2
    go_ret2
    rw [EP.out]
    exact ⟨_, rfl, FreshSS.nil _ _, X1.out⟩
  | true =>
    have H56 := Lib.hid (goodTab_both HGG.out.symm)
    obtain ⟨U, hU⟩ := tabAt_of (HU.out.ext x1)
    have HT := Lib.hid hU
    have X1 := Lib.hid (HX.out.trans x1)
    obtain ⟨c1, c2⟩ := b0.ext x1
    clear x1 hU HU b0
    go_wp2_with fail
    refine (readyIn_any n _ T U _ HT.out HGG.out.symm).mono ?_
    rintro e w2 ⟨B, D, rfl, m2, d2, hb2, x2⟩
    have M2 := Lib.hid m2
    have D2 := Lib.hid d2
    have X2 := Lib.hid (X1.out.trans x2)
    clear m2 d2 hb2 x2 c1 c2 X1 HT
    go_wp2_with fail
    refine (inOrderRow_any B 30 D (readyB n T) (rowOf n T) U _ M2.out D2.out (by omega)).mono ?_
    rintro e w3 ⟨v3, L, rfl, f3, hlex, hmem, x3⟩
    have eL : L = readyL n T := readyL_of hlex hmem
    subst eL
    have I3 := Lib.hid f3.at
    have X3 := Lib.hid (X2.out.trans x3)
    have HSH := Lib.hid (readyL_short HGG.out.symm)
    clear f3 hlex hmem x3 M2 X2
    go_wp2_with fail
    refine (pairsOf_any v3 (readyL n T) _ I3.out (by have := HSH.out; omega)).mono ?_
    rintro e w4 ⟨v4, rfl, f4, x4⟩
    have F4 := Lib.hid (f4.more X3.out.size)
    have X4 := Lib.hid (X3.out.trans x4)
    have EP : Hid (P = (readyL n T).map pairOf) := Lib.hid (by rw [HP.out]; unfold readyR; rw [← HGG.out]; rfl)
    clear f4 x4 I3 X3
    go_wp2
    go_ret2
    rw [EP.out]
    exact ⟨_, rfl, F4.out, X4.out⟩

end Go.Proofs.Ytkhdgmgacfhcgaa

namespace Go.Proofs.Ytkhdgmgacfhcgaa
open Go.RowKit
set_option linter.unusedVariables false

/-- How many marks rows bear. -/
def weigh (R : List RowD) : List Nat := R.map fun r => 9 + r.l.length
theorem weigh_len (R : List RowD) : (weigh R).length = R.length := by simp [weigh]
theorem weigh_get {R : List RowD} {k : Nat} (h : k < R.length) : (weigh R)[k]'(by rw [weigh_len]; exact h) = 9 + R[k].l.length := by simp [weigh]
theorem weigh_sum (R : List RowD) : (weigh R).sum ≤ 10 * bulkR R := by
  unfold weigh bulkR
  induction R with
  | nil => simp
  | cons r R ih => simp at ih ⊢; omega

set_option maxHeartbeats 4000000 in
set_option maxRecDepth 100000 in
theorem markRowS_any (lo hi : Nat) (v : Value) (R : List RowD) (k : Int) (w : World) (hv : FreshI lo hi w v R) (h0 : 0 ≤ k) (hk : k ≤ 1099511627776) (h1 : bulkR R ≤ 1099511627776) :
    Calls Try.prog 47 #[v, .int .i64 k] w (fun e w' => e = .returned (.int .i64 (k + (weigh R).sum)) ∧ Ins lo hi w w') := by
  obtain ⟨xs, us, ho, hC, hR, hout, hU, hUs⟩ := hv
  have hul : us.length = R.length := by have := hR.len; simpa using this
  have hws := weigh_sum R
  rcases ho.2 with ⟨rfl, hn⟩ | ⟨g, cap, cur, rfl, hb, hg, hnc, hcm, hcs, htake⟩
  · obtain rfl : R = [] := List.eq_nil_of_length_eq_zero hn
    clear h1 hws
    go_enter Try.func47, Try.ntmps47
    go_wp2
    refine wp_loop_rounds 1 ?_; rw [rounds_succ]
    go_wp2
    go_ret
    exact ⟨by simp [weigh], Ins.refl _ _ _⟩
  · have hout' : ∀ (j : Nat) (u : Value), us[j]? = some u → u.ownBlock = none ∨ u.ownBlock ≠ some g := hout
    have hgi : lo ≤ g ∧ g < hi := ⟨hb, hU g rfl⟩
    have hfr : Hid (∀ i (h : i < R.length) (h' : i < us.length), 0 ≤ i → Fresh lo w us[i] R[i].l) := Lib.hid fun i h h' _ => hR.row i _ _ (List.getElem?_eq_getElem h') (by simp [List.getElem?_eq_getElem h])
    have hxr : Hid (∀ i (h : i < R.length) (h' : i < us.length), 0 ≤ i → XRow xs (i * 10) R[i] us[i]) := Lib.hid fun i h h' _ => hC i h h'
    have HOUT := Lib.hid hout'
    have HAP := Lib.hid hR.apart
    have HUS := Lib.hid hUs
    have HUL := Lib.hid hul
    have HWS := Lib.hid hws
    have HGI := Lib.hid hgi
    have H1 := Lib.hid h1
    have hLen : R.length ≤ 1099511627776 := by unfold bulkR at h1; omega
    clear hg hnc hcm hcs htake cur hb hout hout' hU hUs hul hR hC hws hgi h1
    go_enter Try.func47, Try.ntmps47
    go_wp2
    go_loopw [1, 5] (fun m i wr => ∃ (j : Nat) (r : Int) (ys : List Value), j ≤ R.length ∧ i = .int .i64 j ∧ m = .int .i64 r ∧ Hid (r = k + sumN (weigh R) j) ∧ wr.ownsRow lo 53 10 (.slice (some ⟨g, 0, none⟩) R.length cap) R.length ys ∧ Hid (∀ i (h : i < R.length) (h' : i < us.length), j ≤ i → Fresh lo wr us[i] R[i].l) ∧ Hid (∀ i (h : i < R.length) (h' : i < us.length), j ≤ i → XRow ys (i * 10) R[i] us[i]) ∧ Ins lo hi w wr) (fun _ i _ => R.length - (intOf i).toNat)
    case atStart => exact ⟨0, k, xs, Nat.zero_le _, rfl, rfl, Lib.hid (by rw [sumN_zero]; simp), ho, hfr, hxr, Ins.refl _ _ _⟩
    case round =>
      clear ho hfr hxr
      obtain ⟨j, r, ys, hj, rfl, rfl, hr, ho, hF, hX, hI⟩ := hrel
      by_cases hlt : j < R.length
      · have hju : j < us.length := by rw [HUL.out]; exact hlt
        obtain ⟨d, hd⟩ : ∃ d, d = R[j] := ⟨_, rfl⟩
        obtain ⟨u, hu⟩ : ∃ u, u = us[j] := ⟨_, rfl⟩
        have hx := hX.out j hlt hju (Nat.le_refl _)
        have hf := hF.out j hlt hju (Nat.le_refl _)
        rw [← hd, ← hu] at hx hf
        have hlen : d.l.length ≤ 1099511627776 := by rw [hd]; have := bulkR_row hlt; have := H1.out; omega
        have hr0 : 0 ≤ r := by have := hr.out; omega
        have hr1 : r ≤ 21990232555520 := by
          have h := hr.out
          have h2 := sumN_mono (g := weigh R) (k := j) (by rw [weigh_len]; omega)
          have := HWS.out; have := H1.out; omega
        obtain ⟨g0, g1, g2, g3, g4, g5, g6, g7, g8, g9⟩ := hx.rowIn ho hlt
        have gf : ∀ q, wr.frozen? ⟨g, q, none⟩ = false := fun q => ho.frozenAt q
        obtain ⟨au, cu, rfl⟩ := hf.form
        have HO := Lib.hid ho
        have HFF := Lib.hid hf
        have HD := Lib.hid hd
        have HU := Lib.hid hu
        clear ho hf hx hd hu
        have hst := ownsRow_stores [.int .i64 r, .int .i64 (r + 1), .int .i64 (r + 1 + 1), .int .i64 (r + 1 + 1 + 1), .int .i64 (r + 1 + 1 + 1 + 1), .int .i64 (r + 1 + 1 + 1 + 1 + 1), .int .i64 (r + 1 + 1 + 1 + 1 + 1 + 1), .int .i64 (r + 1 + 1 + 1 + 1 + 1 + 1 + 1), .int .i64 (r + 1 + 1 + 1 + 1 + 1 + 1 + 1 + 1)] (j * 10) wr ys HO.out
        have hub : ∀ b, (Value.slice au d.l.length cu).ownBlock = some b → lo ≤ b ∧ b < hi ∧ b ≠ g := fun b e => by
          have h1 := (World.ownsRow.lt HFF.out b e).1
          have hju' : us[j]? = some (.slice au d.l.length cu) := by rw [List.getElem?_eq_getElem hju, HU.out]
          have h2 := HUS.out j _ hju' b e
          refine ⟨h1, h2, fun e' => ?_⟩
          rcases HOUT.out j _ hju' with h | h
          · rw [h] at e; cases e
          · exact h (by rw [e, e'])
        have hf9 : Fresh lo (wr.setCells g (j * 10) [.int .i64 r, .int .i64 (r + 1), .int .i64 (r + 1 + 1), .int .i64 (r + 1 + 1 + 1), .int .i64 (r + 1 + 1 + 1 + 1), .int .i64 (r + 1 + 1 + 1 + 1 + 1), .int .i64 (r + 1 + 1 + 1 + 1 + 1 + 1), .int .i64 (r + 1 + 1 + 1 + 1 + 1 + 1 + 1), .int .i64 (r + 1 + 1 + 1 + 1 + 1 + 1 + 1 + 1)]) (.slice au d.l.length cu) d.l := World.ownsRow.kept HFF.out hst.2 (by
          cases hob : (Value.slice au d.l.length cu).ownBlock with
          | none => exact .inl rfl
          | some b => exact .inr fun e => (hub b hob).2.2 (Option.some.inj e))
        have hi9 : Ins lo hi wr (wr.setCells g (j * 10) [.int .i64 r, .int .i64 (r + 1), .int .i64 (r + 1 + 1), .int .i64 (r + 1 + 1 + 1), .int .i64 (r + 1 + 1 + 1 + 1), .int .i64 (r + 1 + 1 + 1 + 1 + 1), .int .i64 (r + 1 + 1 + 1 + 1 + 1 + 1), .int .i64 (r + 1 + 1 + 1 + 1 + 1 + 1 + 1), .int .i64 (r + 1 + 1 + 1 + 1 + 1 + 1 + 1 + 1)]) := Ins.of_grown hst.2 (fun q e => by rw [← Option.some.inj e]; exact HGI.out)
        have HST := Lib.hid hst
        have HUB := Lib.hid hub
        have HF9 := Lib.hid hf9
        have HI9 := Lib.hid hi9
        clear hst hub hf9 hi9
        go_wp2_with fail
        refine (markIntS_any lo _ d.l _ (wr.setCells g (j * 10) [.int .i64 r, .int .i64 (r + 1), .int .i64 (r + 1 + 1), .int .i64 (r + 1 + 1 + 1), .int .i64 (r + 1 + 1 + 1 + 1), .int .i64 (r + 1 + 1 + 1 + 1 + 1), .int .i64 (r + 1 + 1 + 1 + 1 + 1 + 1), .int .i64 (r + 1 + 1 + 1 + 1 + 1 + 1 + 1), .int .i64 (r + 1 + 1 + 1 + 1 + 1 + 1 + 1 + 1)]) HF9.out (by omega) (by omega)).mono ?_
        rintro e w3 ⟨rfl, f3, t3⟩
        have T3 := Lib.hid t3
        have hs := sumN_succ (g := weigh R) (k := j) (by rw [weigh_len]; exact hlt)
        rw [weigh_get hlt, ← HD.out] at hs
        have HS := Lib.hid hs
        clear f3 t3 hs g0 g1 g2 g3 g4 g5 g6 g7 g8 g9 gf
        obtain ⟨q, hq⟩ : ∃ q, q = r + 1 + 1 + 1 + 1 + 1 + 1 + 1 + 1 + 1 + (d.l.length : Int) := ⟨_, rfl⟩
        have hq0 : 0 ≤ q := by omega
        rw [← hq]
        have HQ := Lib.hid hq
        clear hq
        go_wp2
        go_roundw
        case rel =>
          have hju' : us[j]? = some (.slice au d.l.length cu) := by rw [List.getElem?_eq_getElem hju, HU.out]
          refine ⟨j + 1, q, _, by omega, by go_num, rfl, Lib.hid (by have h1 := hr.out; have h2 := HS.out; have h3 := HQ.out; omega), World.ownsRow.kept HST.out.1 T3.out ?_, Lib.hid fun i h h' hij => ?_, Lib.hid fun i h h' hij => ?_, (hI.trans HI9.out).trans (Ins.of_grown T3.out (fun b e => ⟨(HUB.out b e).1, (HUB.out b e).2.1⟩))⟩
          · refine .inr fun e => ?_
            have := (HUB.out g e.symm).2.2
            exact this rfl
          · have h9 : Fresh lo (wr.setCells g (j * 10) [.int .i64 r, .int .i64 (r + 1), .int .i64 (r + 1 + 1), .int .i64 (r + 1 + 1 + 1), .int .i64 (r + 1 + 1 + 1 + 1), .int .i64 (r + 1 + 1 + 1 + 1 + 1), .int .i64 (r + 1 + 1 + 1 + 1 + 1 + 1), .int .i64 (r + 1 + 1 + 1 + 1 + 1 + 1 + 1), .int .i64 (r + 1 + 1 + 1 + 1 + 1 + 1 + 1 + 1)]) us[i] R[i].l := World.ownsRow.kept (hF.out i h h' (by omega)) HST.out.2 (HOUT.out i _ (List.getElem?_eq_getElem h'))
            exact World.ownsRow.kept h9 T3.out (HAP.out i j _ _ (by omega) (List.getElem?_eq_getElem h') hju')
          · have hl9 : ∀ (vs : List Value), vs.length = 9 → XRow (putL ys (j * 10) vs) (i * 10) R[i] us[i] := fun vs hvs => by
              obtain ⟨p0, p1, p2, p3, p4, p5, p6, p7, p8, p9⟩ := hX.out i h h' (by omega)
              refine ⟨?_, ?_, ?_, ?_, ?_, ?_, ?_, ?_, ?_, ?_⟩ <;> (rw [putL_out _ _ _ _ (by rw [hvs]; omega)]; assumption)
            exact hl9 _ rfl
        case measure => simp [intOf]; omega
      · obtain rfl : j = R.length := by omega
        go_wp2
        go_ret
        refine ⟨?_, hI⟩
        have h := hr.out
        have h2 := sumN_all (weigh R)
        rw [weigh_len] at h2
        rw [h2] at h
        rw [h]; rfl

end Go.Proofs.Ytkhdgmgacfhcgaa

namespace Go.Proofs.Ytkhdgmgacfhcgaa
open Go.RowKit
set_option linter.unusedVariables false

def weighs (T : List (List RowD)) : List Nat := T.map fun R => (weigh R).sum
theorem weighs_len (T : List (List RowD)) : (weighs T).length = T.length := by simp [weighs]
theorem weighs_get {T : List (List RowD)} {k : Nat} (h : k < T.length) : (weighs T)[k]'(by rw [weighs_len]; exact h) = (weigh T[k]).sum := by simp [weighs]
theorem weighs_sum (T : List (List RowD)) : (weighs T).sum ≤ 10 * bulkT T := by
  unfold weighs bulkT
  induction T with
  | nil => simp
  | cons R T ih =>
    have := weigh_sum R
    simp at ih ⊢; omega

/-- So many marks were laid, and nothing else has turned. -/
def Marked (lo hi : Nat) (k : Int) (n : Nat) (w : World) (e : Ending) (w' : World) : Prop := e = .returned (.int .i64 (k + n)) ∧ Ins lo hi w w'

set_option maxHeartbeats 4000000 in
set_option maxRecDepth 100000 in
theorem markRowSS_any (lo hi : Nat) (v : Value) (T : List (List RowD)) (k : Int) (w : World) (hv : FreshT lo hi w v T) (h0 : 0 ≤ k) (hk : k ≤ 1073741824) (h1 : bulkT T ≤ 10995116277) :
    Calls Try.prog 26 #[v, .int .i64 k] w (Marked lo hi k (weighs T).sum w) := by
  obtain ⟨vs, cut, ho, hU, hcut, hc0, hcn, hF⟩ := hv
  have hvl : vs.length = T.length := by have := ho.1; omega
  have hws := weighs_sum T
  rcases ho.2 with ⟨rfl, hn⟩ | ⟨g, cap, cur, rfl, hb, hg, hnc, hcm, hcs, htake⟩
  · obtain rfl : T = [] := List.eq_nil_of_length_eq_zero hn
    clear h1 hws
    go_enter Try.func26, Try.ntmps26
    go_wp2
    refine wp_loop_rounds 1 ?_; rw [rounds_succ]
    go_wp2
    go_ret
    exact ⟨by simp [weighs], Ins.refl _ _ _⟩
  · have hgc : g < cut 0 := hU g rfl
    have hm := cut_mono hcut
    have hfr : Hid (∀ i (h : i < T.length) (h' : i < vs.length), 0 ≤ i → FreshI (cut i) (cut (i + 1)) w vs[i] T[i]) := Lib.hid fun i h h' _ => hF i h h'
    have HM := Lib.hid hm
    have HGC := Lib.hid hgc
    have HC0 := Lib.hid hc0
    have HCN := Lib.hid hcn
    have HVL := Lib.hid hvl
    have HWS := Lib.hid hws
    have H1 := Lib.hid h1
    have hLen : T.length ≤ 1099511627776 := by unfold bulkT at h1; omega
    clear hg hnc hcm hcs htake cur hb hU hcut hF hm hgc hc0 hcn hvl hws h1
    go_enter Try.func26, Try.ntmps26
    go_wp2
    go_loopw [1, 5] (fun m i wr => ∃ (j : Nat) (r : Int), j ≤ T.length ∧ i = .int .i64 j ∧ m = .int .i64 r ∧ Hid (r = k + sumN (weighs T) j) ∧ wr.ownsRow lo 72 1 (.slice (some ⟨g, 0, none⟩) T.length cap) T.length vs ∧ Hid (∀ i (h : i < T.length) (h' : i < vs.length), j ≤ i → FreshI (cut i) (cut (i + 1)) wr vs[i] T[i]) ∧ Ins lo hi w wr) (fun _ i _ => T.length - (intOf i).toNat)
    case atStart => exact ⟨0, k, Nat.zero_le _, rfl, rfl, Lib.hid (by rw [sumN_zero]; simp), ho, hfr, Ins.refl _ _ _⟩
    case round =>
      clear ho hfr
      obtain ⟨j, r, hj, rfl, rfl, hr, ho, hF, hI⟩ := hrel
      by_cases hlt : j < T.length
      · have hjv : j < vs.length := by rw [HVL.out]; exact hlt
        obtain ⟨d, hd⟩ : ∃ d, d = T[j] := ⟨_, rfl⟩
        obtain ⟨u, hu⟩ : ∃ u, u = vs[j] := ⟨_, rfl⟩
        have hf := hF.out j hlt hjv (Nat.le_refl _)
        rw [← hd, ← hu] at hf
        have hlen : bulkR d ≤ 1099511627776 := by rw [hd]; have := bulkT_row hlt; have := H1.out; omega
        have hr0 : 0 ≤ r := by have := hr.out; omega
        have hr1 : r ≤ 1099511627776 := by
          have h := hr.out
          have h2 := sumN_mono (g := weighs T) (k := j) (by rw [weighs_len]; omega)
          have := HWS.out; have := H1.out; omega
        have hwd := weigh_sum d
        have hc := (ho.cellAt j (by omega)).trans (List.getElem?_eq_getElem hjv)
        rw [← hu] at hc
        have HO := Lib.hid ho
        have HFF := Lib.hid hf
        have HD := Lib.hid hd
        have HU := Lib.hid hu
        clear ho hf hd hu
        go_wp2_with fail
        refine (markRowS_any (cut j) (cut (j + 1)) _ d _ _ HFF.out hr0 hr1 hlen).mono ?_
        rintro e w3 ⟨rfl, t3⟩
        have T3 := Lib.hid t3
        have hs := sumN_succ (g := weighs T) (k := j) (by rw [weighs_len]; exact hlt)
        rw [weighs_get hlt, ← HD.out] at hs
        have HS := Lib.hid hs
        clear t3 hs hc
        obtain ⟨q, hq⟩ : ∃ q, q = r + ((weigh d).sum : Int) := ⟨_, rfl⟩
        have hq0 : 0 ≤ q := by omega
        rw [← hq]
        have HQ := Lib.hid hq
        clear hq
        go_wp2
        go_roundw
        case rel =>
          have m1 := HM.out 0 j (by omega) (by omega)
          have m2 := HM.out (j + 1) T.length (by omega) (Nat.le_refl _)
          have m3 := HGC.out
          have m4 := HC0.out
          have m5 := HCN.out
          refine ⟨j + 1, q, by omega, by go_num, rfl, Lib.hid (by have h1 := hr.out; have h2 := HS.out; have h3 := HQ.out; omega), T3.out.row HO.out (fun b e => .inl (by have := Option.some.inj e; simp at this; omega)), Lib.hid fun i h h' hij => ?_, hI.trans (T3.out.more (by omega) (by omega))⟩
          obtain ⟨zs, us, q1, q2, q3, q4, q5, q6⟩ := hF.out i h h' (by omega)
          have m6 := HM.out (j + 1) i (by omega) (by omega)
          refine ⟨zs, us, T3.out.row q1 (fun b e => .inr (by have := (World.ownsRow.lt q1 b e).1; omega)), q2, ⟨q3.len, fun a z l hz hl => T3.out.row (q3.row a z l hz hl) (fun b e => .inr (by have := (World.ownsRow.lt (q3.row a z l hz hl) b e).1; omega)), q3.apart⟩, q4, q5, q6⟩
        case measure => simp [intOf]; omega
      · obtain rfl : j = T.length := by omega
        go_wp2
        go_ret
        refine ⟨?_, hI⟩
        have h := hr.out
        have h2 := sumN_all (weighs T)
        rw [weighs_len] at h2
        rw [h2] at h
        rw [h]; rfl

set_option maxHeartbeats 1000000 in
theorem markTable_any (lo hi : Nat) (n : Int) (v : Value) (T : List (List RowD)) (k : Int) (w : World) (hv : FreshT lo hi w v T) (hhi : hi ≤ w.heap.size) (h0 : 0 ≤ k) (hk : k ≤ 1073741824) (h1 : bulkT T ≤ 10995116277) :
    Calls Try.prog 11 #[.agg #[.int .i64 n, v], .int .i64 k] w (Marked lo hi k (weighs T).sum w) := by
  have hws := weighs_sum T
  have hq0 : 0 ≤ k + ((weighs T).sum : Int) := by omega
  have HX : Hid (Ins lo hi w (w.alloc (.cells #[.int .i64 n, v] 31))) := Lib.hid (Ins.of_ext (Ext.alloc (Ext.refl _) _))
  have HV := Lib.hid (hv.kept (Stood.of_ext (Ext.alloc (Ext.refl _) (.cells #[.int .i64 n, v] 31)) hhi))
  have H1 := Lib.hid h1
  clear hws hv h1
  go_enter Try.func11, Try.ntmps11
  go_wp2_with fail
  refine (markRowSS_any lo hi _ T _ _ HV.out h0 hk H1.out).mono ?_
  rintro e w1 ⟨rfl, t1⟩
  have T1 := Lib.hid t1
  clear t1
  go_wp2
  go_ret
  exact ⟨rfl, HX.out.trans T1.out⟩

end Go.Proofs.Ytkhdgmgacfhcgaa

namespace Go.Proofs.Ytkhdgmgacfhcgaa
open Go.RowKit
set_option linter.unusedVariables false

theorem RowAt.ins {lo hi b : Nat} {w w' : World} {r : RowD} {u : Value} (h : RowAt w b r u) (k : Ins lo hi w w') (hb : b < lo ∨ hi ≤ b) : RowAt w' b r u := by
  obtain ⟨h0, h1, h2, h3, h4, h5, h6, h7, h8, h9⟩ := h
  exact ⟨k.cell h0 hb, k.cell h1 hb, k.cell h2 hb, k.cell h3 hb, k.cell h4 hb, k.cell h5 hb, k.cell h6 hb, k.cell h7 hb, k.cell h8 hb, k.cell h9 hb⟩
theorem AttrAt.ins {lo hi b : Nat} {w w' : World} {s : Int} {u : Value} (h : AttrAt w b s u) (k : Ins lo hi w w') (hb : b < lo ∨ hi ≤ b) : AttrAt w' b s u := ⟨k.cell h.1 hb, k.cell h.2 hb⟩
theorem Rowzz.ins {lo hi : Nat} {w0 w w' : World} {v : Value} {T : List (List RowD)} (h0 : Rowzz w0 v T) (x : Ext w0 w) (k : Ins lo hi w w') (hb : w0.heap.size ≤ lo) : Rowzz w' v T := h0.ext (k.ext x hb)

end Go.Proofs.Ytkhdgmgacfhcgaa

namespace Go.Proofs.Ytkhdgmgacfhcgaa
open Go.RowKit
set_option linter.unusedVariables false

theorem eqss_succ {L R : List (List Int)} {k : Nat} (h1 : k < L.length) (h2 : k < R.length) (h : L.take k = R.take k) (he : L[k] = R[k]) : L.take (k + 1) = R.take (k + 1) := by
  rw [List.take_add_one, List.take_add_one, h, List.getElem?_eq_getElem h1, List.getElem?_eq_getElem h2, he]

set_option maxHeartbeats 400000 in
theorem eqIntSS_any (u v : Value) (L R : List (List Int)) (w : World) (hu : Intss w u L) (hv : Intss w v R) :
    Calls Try.prog 9 #[u, v] w (BoolExt (decide (L = R)) w) := by
  obtain ⟨au, cu, rfl, hlu, _, hcu⟩ := hu
  obtain ⟨av, cv, rfl, hlv, _, hcv⟩ := hv
  unfold maxLen at hlu hlv
  by_cases hl : L.length = R.length
  · have e0 : ((L.length : Int) != (R.length : Int)) = false := by simp [hl]
    have HL := Lib.hid hl
    clear hl
    go_enter Try.func9, Try.ntmps9
    go_wp2
    go_loopw [5] (fun i wr => ∃ k : Nat, k ≤ L.length ∧ i = .int .i64 k ∧ L.take k = R.take k ∧ Ext w wr) (fun i _ => L.length - (intOf i).toNat)
    case atStart => exact ⟨0, Nat.zero_le _, rfl, rfl, Ext.refl _⟩
    case round =>
      obtain ⟨k, hk, rfl, ht, hx⟩ := hrel
      have HT := Lib.hid ht
      clear ht
      by_cases hlt : k < L.length
      · have hltr : k < R.length := by have := HL.out; omega
        obtain ⟨bu, ou, rfl, du⟩ := hcu (by omega)
        obtain ⟨bv, ov, rfl, dv⟩ := hcv (by omega)
        obtain ⟨x, hx1, ix⟩ := du k hlt
        obtain ⟨y, hy1, iy⟩ := dv k hltr
        rw [List.getElem?_eq_getElem hlt] at ix
        rw [List.getElem?_eq_getElem hltr] at iy
        have gu := hx.cell hx1
        have gv := hx.cell hy1
        have IX := Lib.hid (ix.ext hx)
        have IY := Lib.hid (iy.ext hx)
        clear hcu hcv du dv hx1 hy1 ix iy
        go_wp2_with fail
        go_region_held3 (fun W => Ext wr W ∧ W.cell? ⟨bu, ou + k, none⟩ = some x ∧ W.cell? ⟨bv, ov + k, none⟩ = some y) (first | (exact step2 (by assumption) (by assumption)) | (exact ⟨Ext.drew (Ext.refl _), gu, gv⟩)) (first | (go_at_call 24; refine (eqIntS_any _ _ _ _ _ (IX.out.ext (Ext.drew (Ext.refl _))) (IY.out.ext (Ext.drew (Ext.refl _)))).mono ?_; rintro e W ⟨rfl, x9⟩))
        rename_i hH
        have hx2 : Ext w W := hx.trans hH.1
        clear hH x9 gu gv hx
        by_cases he : L[k] = R[k]
        · rw [decide_eq_true he]
          have HE := Lib.hid he
          clear he
          go_wp2
          go_roundw
          case rel => exact ⟨k + 1, by omega, by go_num, eqss_succ hlt hltr HT.out HE.out, hx2⟩
          case measure => simp [intOf]; omega
        · rw [decide_eq_false he]
          have HE := Lib.hid he
          clear he
          go_wp2
          go_ret
          refine ⟨?_, hx2⟩
          have hne : decide (L = R) = false := decide_eq_false (fun h => HE.out (by subst h; rfl))
          rw [hne]; rfl
      · have hk' : k = L.length := by omega
        subst hk'
        go_wp2
        go_ret
        refine ⟨?_, hx⟩
        have he : decide (L = R) = true := by
          have h := HT.out
          rw [List.take_length, HL.out, List.take_length] at h
          exact decide_eq_true h
        rw [he]; rfl
  · have e0 : ((L.length : Int) != (R.length : Int)) = true := by simp; omega
    have HL := Lib.hid hl
    clear hl
    go_enter Try.func9, Try.ntmps9
    go_wp2
    go_ret
    refine ⟨?_, Ext.refl w⟩
    have hne : decide (L = R) = false := decide_eq_false (fun h => HL.out (by rw [h]))
    rw [hne]; rfl

end Go.Proofs.Ytkhdgmgacfhcgaa

namespace Go.Proofs.Ytkhdgmgacfhcgaa
open Go.RowKit
set_option linter.unusedVariables false

/-- The first j lists bear marks, the others are as they were. -/
def markedSS (k : Int) (L : List (List Int)) (j : Nat) : List (List Int) := (List.range L.length).map fun i => if i < j then marks (k + sumTo L i) (L[i]?.getD []).length else L[i]?.getD []
theorem markedSS_length (k : Int) (L : List (List Int)) (j : Nat) : (markedSS k L j).length = L.length := by simp [markedSS]
theorem markedSS_zero (k : Int) (L : List (List Int)) : markedSS k L 0 = L := by
  apply List.ext_getElem
  · simp [markedSS]
  · intro i h1 h2
    simp [markedSS, List.getElem?_eq_getElem h2]
theorem markedSS_old {k : Int} {L : List (List Int)} {j i : Nat} (hi : i < L.length) (h : j ≤ i) : (markedSS k L j)[i]? = some L[i] := by
  simp [markedSS, hi, Nat.not_lt.2 h]
theorem markedSS_new {k : Int} {L : List (List Int)} {j i : Nat} (hi : i < L.length) (h : i < j) : (markedSS k L j)[i]? = some (marks (k + sumTo L i) (L[i]).length) := by
  simp [markedSS, hi, h]
theorem markedSS_succ {k : Int} {L : List (List Int)} {j : Nat} (h : j < L.length) : (markedSS k L j).set j (marks (k + sumTo L j) (L[j]).length) = markedSS k L (j + 1) := by
  apply List.ext_getElem?
  intro i
  rw [List.getElem?_set, markedSS_length]
  by_cases hi : i < L.length
  · by_cases e : j = i
    · subst e
      rw [if_pos rfl, if_pos h, markedSS_new h (by omega)]
    · rw [if_neg e]
      by_cases hij : i < j
      · rw [markedSS_new hi hij, markedSS_new hi (by omega)]
      · rw [markedSS_old hi (by omega), markedSS_old hi (by omega)]
  · rw [List.getElem?_eq_none (by rw [markedSS_length]; omega), List.getElem?_eq_none (by rw [markedSS_length]; omega)]
    split
    · omega
    · rfl

theorem Rows_.mark {B : Nat} {w w' : World} {vs : List Value} {L : List (List Int)} {j : Nat} {z : Value} {l : List Int} (h : Rows_ B w vs L) (hj : vs[j]? = some z) (t : w.grownBy w' z.ownBlock) (hz : Fresh B w' z l) : Rows_ B w' vs (L.set j l) := by
  have hjl : j < L.length := by rw [← h.len]; exact (List.getElem?_eq_some_iff.1 hj).1
  refine ⟨by simp [h.len], fun i u r hu hr => ?_, h.apart⟩
  rw [List.getElem?_set] at hr
  by_cases e : j = i
  · subst e
    rw [if_pos rfl, if_pos hjl] at hr
    rw [hj] at hu
    cases hu
    cases hr
    exact hz
  · rw [if_neg e] at hr
    exact World.ownsRow.kept (h.row i u r hu hr) t (h.apart i j u z (fun e' => e e'.symm) hu hj)

/-- What comes back of the marks: the number behind the last, and nothing below B has turned. -/
def MarksSS (B : Nat) (k : Int) (v : Value) (L : List (List Int)) (w : World) (e : Ending) (w' : World) : Prop :=
  e = .returned (.int .i64 (k + (L.map List.length).sum)) ∧ FreshSS B w' v (markedSS k L L.length) ∧ Below B w w'

set_option maxHeartbeats 800000 in
theorem markIntSS_any (B : Nat) (v : Value) (L : List (List Int)) (k : Int) (w : World) (hv : FreshSS B w v L) (hB : B ≤ w.heap.size) (h0 : 0 ≤ k) (hk : k ≤ 1048576) (h1 : bulk L ≤ 1099511627776) :
    Calls Try.prog 12 #[v, .int .i64 k] w (MarksSS B k v L w) := by
  obtain ⟨vs, ho, hR, hout⟩ := hv
  have hvl := hR.len
  have hL : L.length ≤ 1099511627776 := by unfold bulk at h1; omega
  have hsum : (L.map List.length).sum ≤ 1099511627776 := by unfold bulk at h1; omega
  rcases ho.2 with ⟨rfl, hn⟩ | ⟨g, cap, cur, rfl, hb, hg, hnc, hcm, hcs, htake⟩
  · obtain rfl : L = [] := List.eq_nil_of_length_eq_zero hn
    clear h1 hsum
    go_enter Try.func12, Try.ntmps12
    go_wp2
    refine wp_loop_rounds 1 ?_; rw [rounds_succ]
    go_wp2
    go_ret
    exact ⟨by simp, FreshSS.nil _ _, Below.refl _ _⟩
  · have hout' : ∀ (j : Nat) (u : Value), vs[j]? = some u → u.ownBlock = none ∨ u.ownBlock ≠ some g := hout
    have HOUT := Lib.hid hout'
    have H1 := Lib.hid h1
    have HVL := Lib.hid hvl
    have HSUM := Lib.hid hsum
    clear hg hnc hcm hcs htake cur hb hout hout' h1 hvl hsum
    go_enter Try.func12, Try.ntmps12
    go_wp2
    go_loopw [1, 5] (fun m i wr => ∃ (j : Nat) (r : Int), j ≤ L.length ∧ i = .int .i64 j ∧ m = .int .i64 r ∧ Hid (r = k + sumTo L j) ∧ wr.ownsRow B 49 1 (.slice (some ⟨g, 0, none⟩) L.length cap) L.length vs ∧ Rows_ B wr vs (markedSS k L j) ∧ Below B w wr) (fun _ i _ => L.length - (intOf i).toNat)
    case atStart => exact ⟨0, k, Nat.zero_le _, rfl, rfl, Lib.hid (by simp [sumTo]), ho, by rw [markedSS_zero]; exact hR, Below.refl _ _⟩
    case round =>
      clear ho hR
      obtain ⟨j, r, hj, rfl, rfl, hr, ho, hR, hx⟩ := hrel
      by_cases hlt : j < L.length
      · obtain ⟨z, hz⟩ : ∃ z, vs[j]? = some z := ⟨_, List.getElem?_eq_getElem (by rw [HVL.out]; exact hlt)⟩
        have hc := (ho.cellAt j (by omega)).trans hz
        have hf := hR.row j z _ hz (markedSS_old hlt (Nat.le_refl _))
        have hrow : (L[j]).length ≤ 1099511627776 := by have := bulk_row hlt; have := H1.out; omega
        have hr0 : 0 ≤ r := by have := hr.out; omega
        have hr1 : r ≤ 2199024304128 := by have h := hr.out; have := sumTo_mono (L := L) (k := j) hj; have := HSUM.out; omega
        have HO := Lib.hid ho
        have HR := Lib.hid hR
        have HZ := Lib.hid hz
        have HX := Lib.hid hx
        have HFF := Lib.hid hf
        clear ho hR hz hx hf
        go_wp2_with fail
        refine (markIntS_any B _ _ _ _ HFF.out hr0 (by omega)).mono ?_
        rintro e w2 ⟨rfl, f2, t2⟩
        have hR2 := HR.out.mark HZ.out t2 (by
          have e := hr.out
          rw [e] at f2
          exact f2)
        rw [markedSS_succ hlt] at hR2
        have ho2 := World.ownsRow.kept HO.out t2 (by
          rcases HOUT.out j z HZ.out with h | h
          · exact .inr (by rw [h]; simp [Value.ownBlock])
          · exact .inr (fun e => h e.symm))
        have hx2 : Below B w w2 := Below.grown HX.out t2 (Nat.le_trans hB HX.out.size) (fun q hq => (World.ownsRow.lt HFF.out q hq).1)
        have hs := sumTo_succ hlt
        have HS := Lib.hid hs
        clear f2 t2 hc hs
        go_wp2
        go_roundw
        case rel => exact ⟨j + 1, r + (L[j]).length, by omega, by go_num, rfl, Lib.hid (by have := hr.out; have := HS.out; omega), ho2, hR2, hx2⟩
        case measure => simp [intOf]; omega
      · obtain rfl : j = L.length := by omega
        have HO := Lib.hid ho
        have HR := Lib.hid hR
        clear ho hR
        go_wp2
        go_ret
        refine ⟨?_, ⟨vs, by rw [markedSS_length]; exact HO.out, HR.out, HOUT.out⟩, hx⟩
        have h := hr.out
        rw [sumTo_all] at h
        rw [h]; rfl

set_option maxHeartbeats 800000 in
/-- Where the marks lie, they are met. -/
theorem heldIntSS_yes (v : Value) (L : List (List Int)) (k : Int) (w : World) (hv : Intss w v (markedSS k L L.length)) (h0 : 0 ≤ k) (hk : k ≤ 1048576) (h1 : bulk L ≤ 1099511627776) :
    Calls Try.prog 13 #[v, .int .i64 k] w (IntExt (k + (L.map List.length).sum) w) := by
  obtain ⟨av, cv, rfl, hlv, _, hcv⟩ := hv
  rw [markedSS_length] at hcv hlv ⊢
  unfold maxLen at hlv
  have hL : L.length ≤ 1099511627776 := by unfold bulk at h1; omega
  have hsum : (L.map List.length).sum ≤ 1099511627776 := by unfold bulk at h1; omega
  have H1 := Lib.hid h1
  have HSUM := Lib.hid hsum
  clear h1 hsum
  go_enter Try.func13, Try.ntmps13
  go_wp2
  go_loopw [1, 5] (fun m i wr => ∃ (j : Nat) (r : Int), j ≤ L.length ∧ i = .int .i64 j ∧ m = .int .i64 r ∧ Hid (r = k + sumTo L j) ∧ Ext w wr) (fun _ i _ => L.length - (intOf i).toNat)
  case atStart => exact ⟨0, k, Nat.zero_le _, rfl, rfl, Lib.hid (by simp [sumTo]), Ext.refl _⟩
  case round =>
    obtain ⟨j, r, hj, rfl, rfl, hr, hx⟩ := hrel
    by_cases hlt : j < L.length
    · obtain ⟨bv, ov, rfl, dv⟩ := hcv (by omega)
      obtain ⟨x, hx1, ix⟩ := dv j hlt
      rw [markedSS_new hlt hlt, Option.getD_some] at ix
      have gv := hx.cell hx1
      have hrow : (L[j]).length ≤ 1099511627776 := by have := bulk_row hlt; have := H1.out; omega
      have hr0 : 0 ≤ r := by have := hr.out; omega
      have hr1 : r ≤ 2199024304128 := by have h := hr.out; have := sumTo_mono (L := L) (k := j) hj; have := HSUM.out; omega
      rw [← hr.out] at ix
      have IX := Lib.hid (ix.ext hx)
      have HS := Lib.hid (sumTo_succ hlt)
      clear hcv dv hx1 ix
      go_wp2_with fail
      refine (heldIntS_yes _ _ _ _ IX.out hr0 (by omega)).mono ?_
      rintro e w2 ⟨rfl, x2⟩
      have hr2 : 0 ≤ r + (L[j]).length := by omega
      go_wp2
      go_roundw
      case rel => exact ⟨j + 1, r + (L[j]).length, by omega, by go_num, rfl, Lib.hid (by have := hr.out; have := HS.out; omega), hx.trans x2⟩
      case measure => simp [intOf]; omega
    · obtain rfl : j = L.length := by omega
      go_wp2
      go_ret
      refine ⟨?_, hx⟩
      have h := hr.out
      rw [sumTo_all] at h
      rw [h]; rfl

/-- What was made before B stands while nothing below B turns. -/
theorem Ext.under {B : Nat} {w0 w w' : World} (e : Ext w0 w) (k : Below B w w') (hb : w0.heap.size ≤ B) : Ext w0 w' := Below.trans e (Below.mono k hb)

end Go.Proofs.Ytkhdgmgacfhcgaa

namespace Go.Proofs.Ytkhdgmgacfhcgaa
open Go.RowKit
set_option linter.unusedVariables false

theorem eqIntSS_self (u v : Value) (L : List (List Int)) (w : World) (hu : Intss w u L) (hv : Intss w v L) : Calls Try.prog 9 #[u, v] w (BoolExt true w) := by
  have h := eqIntSS_any u v L L w hu hv
  rwa [decide_eq_true rfl] at h

/-- As FreshSS, from block 0 on, all below h. -/
def SSI (h : Nat) (w : World) (v : Value) (L : List (List Int)) : Prop := ∃ vs, w.ownsRow 0 49 1 v L.length vs ∧ Rows_ 0 w vs L ∧ Und h v ∧ ∀ (j : Nat) (u : Value), vs[j]? = some u → Und h u
theorem FreshSS.below {B h : Nat} {w : World} {v : Value} {L : List (List Int)} (f : FreshSS B w v L) (hb : w.heap.size ≤ h) : SSI h w v L := by
  obtain ⟨vs, h1, h2, _⟩ := f
  refine ⟨vs, ownsRow_more h1 (Nat.zero_le _), h2.more (Nat.zero_le _), fun b e => Nat.lt_of_lt_of_le (World.ownsRow.lt h1 b e).2 hb, fun j u hu => ?_⟩
  have hj : j < vs.length := (List.getElem?_eq_some_iff.1 hu).1
  exact (h2.row j u _ hu (List.getElem?_eq_getElem (by rw [← h2.len]; exact hj))).und.more hb
theorem SSI.stood {h : Nat} {w w' : World} {v : Value} {L : List (List Int)} (f : SSI h w v L) (k : Stood 0 h w w') : SSI h w' v L := by
  obtain ⟨vs, h1, h2, h3, h4⟩ := f
  refine ⟨vs, k.row h1 (fun b e => ⟨Nat.zero_le _, h3 b e⟩), ⟨h2.len, fun j u l hu hl => k.row (h2.row j u l hu hl) (fun b e => ⟨Nat.zero_le _, h4 j u hu b e⟩), h2.apart⟩, h3, h4⟩
theorem SSI.ext {h : Nat} {w w' : World} {v : Value} {L : List (List Int)} (f : SSI h w v L) (e : Ext w w') : SSI h w' v L := by
  obtain ⟨vs, h1, h2, h3, h4⟩ := f
  exact ⟨vs, e.ownsRow h1, h2.ext e, h3, h4⟩
theorem SSI.intss {h : Nat} {w : World} {v : Value} {L : List (List Int)} (f : SSI h w v L) : Intss w v L := by
  obtain ⟨vs, h1, h2, h3, h4⟩ := f
  exact (FreshSS.of h1 h2).intss
theorem FreshSS.ins {lo hi B : Nat} {w w' : World} {v : Value} {L : List (List Int)} (f : FreshSS B w v L) (k : Ins lo hi w w') (hb : hi ≤ B) : FreshSS B w' v L := by
  obtain ⟨vs, h1, h2, h3⟩ := f
  exact ⟨vs, k.row h1 (fun b e => .inr (Nat.le_trans hb (World.ownsRow.lt h1 b e).1)), ⟨h2.len, fun j u l hu hl => (h2.row j u l hu hl).ins_high k hb, h2.apart⟩, h3⟩

/-- The argument's box N, the model's answer v3 (below h3), the program's v5 (from B on). -/
def LiveS (w W : World) (N h3 B : Nat) (n : Int) (v v3 v5 : Value) (L M : List (List Int)) : Prop :=
  Ext w W ∧ AttrAt W N n v ∧ SSI h3 W v3 L ∧ FreshSS B W v5 M
theorem LiveS.ext {w W W' : World} {N h3 B : Nat} {n : Int} {v v3 v5 : Value} {L M : List (List Int)} (h : LiveS w W N h3 B n v v3 v5 L M) (e : Ext W W') : LiveS w W' N h3 B n v v3 v5 L M :=
  ⟨h.1.trans e, h.2.1.ext e, h.2.2.1.ext e, h.2.2.2.ext e⟩
theorem LiveS.ins {w W W' : World} {N h3 B lo hi : Nat} {n : Int} {v v3 v5 : Value} {L M : List (List Int)} (h : LiveS w W N h3 B n v v3 v5 L M) (k : Ins lo hi W W')
    (h0 : w.heap.size ≤ lo) (hN : N < lo) (hh : h3 ≤ lo) (hB : hi ≤ B) (hs : h3 ≤ W.heap.size) : LiveS w W' N h3 B n v v3 v5 L M := by
  obtain ⟨a, b, c, e⟩ := h
  exact ⟨k.ext a h0, b.ins k (.inl hN), c.stood (k.stood hs (.inl hh)), e.ins k hB⟩
theorem LiveS.mark {w W W' : World} {N h3 B : Nat} {n : Int} {v v3 v5 : Value} {L M M' : List (List Int)} (h : LiveS w W N h3 B n v v3 v5 L M) (k : Below B W W') (f' : FreshSS B W' v5 M')
    (h0 : w.heap.size ≤ B) (hN : N < B) (hh : h3 ≤ B) : LiveS w W' N h3 B n v v3 v5 L M' := by
  obtain ⟨a, b, c, e⟩ := h
  exact ⟨a.under k h0, ⟨(Below.cell k (p := ⟨N, 0, none⟩) hN).trans b.1, (Below.cell k (p := ⟨N, 1, none⟩) hN).trans b.2⟩, c.stood ⟨k.size, fun x _ h2 => Below.block k x (by omega)⟩, f'⟩

end Go.Proofs.Ytkhdgmgacfhcgaa

namespace Go.Proofs.Ytkhdgmgacfhcgaa
open Go.RowKit
set_option linter.unusedVariables false

/-- A slice that reads as L, and a Bool, come back. -/
def ReadSS (L : List (List Int)) (b : Bool) (w : World) (e : Ending) (w' : World) : Prop := ∃ v, e = .returned (.tuple #[v, .bool b]) ∧ Intss w' v L ∧ Ext w w'
/-- The argument's box N, the model's answer v3 as it lay in W3, the program's v5 (from B on). -/
structure LiveQ (w W3 W : World) (N B : Nat) (n : Int) (v v3 v5 : Value) (L M : List (List Int)) : Prop where
  ext : Ext w W
  arg : AttrAt W N n v
  old : Ext W3 W
  i3 : Intss W3 v3 L
  f5 : FreshSS B W v5 M
theorem LiveQ.read {w W3 W : World} {N B : Nat} {n : Int} {v v3 v5 : Value} {L M : List (List Int)} (h : LiveQ w W3 W N B n v v3 v5 L M) : Intss W v3 L := h.i3.ext h.old
theorem LiveQ.on {w W3 W W' : World} {N B : Nat} {n : Int} {v v3 v5 : Value} {L M : List (List Int)} (h : LiveQ w W3 W N B n v v3 v5 L M) (e : Ext W W') : LiveQ w W3 W' N B n v v3 v5 L M :=
  ⟨h.ext.trans e, h.arg.ext e, h.old.trans e, h.i3, h.f5.ext e⟩
theorem LiveQ.ins {w W3 W W' : World} {N B lo hi : Nat} {n : Int} {v v3 v5 : Value} {L M : List (List Int)} (h : LiveQ w W3 W N B n v v3 v5 L M) (k : Ins lo hi W W')
    (h0 : w.heap.size ≤ lo) (hN : N < lo) (hh : W3.heap.size ≤ lo) (hB : hi ≤ B) : LiveQ w W3 W' N B n v v3 v5 L M :=
  ⟨k.ext h.ext h0, h.arg.ins k (.inl hN), k.ext h.old hh, h.i3, h.f5.ins k hB⟩
theorem LiveQ.mark {w W3 W W' : World} {N B : Nat} {n : Int} {v v3 v5 : Value} {L M M' : List (List Int)} (h : LiveQ w W3 W N B n v v3 v5 L M) (k : Below B W W') (f' : FreshSS B W' v5 M')
    (h0 : w.heap.size ≤ B) (hN : N < B) (hh : W3.heap.size ≤ B) : LiveQ w W3 W' N B n v v3 v5 L M' :=
  ⟨h.ext.under k h0, ⟨(Below.cell k (p := ⟨N, 0, none⟩) hN).trans h.arg.1, (Below.cell k (p := ⟨N, 1, none⟩) hN).trans h.arg.2⟩, h.old.under k hh, h.i3, f'⟩
end Go.Proofs.Ytkhdgmgacfhcgaa
