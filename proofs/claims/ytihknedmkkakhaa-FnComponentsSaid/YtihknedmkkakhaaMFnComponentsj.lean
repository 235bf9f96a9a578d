/- Texts of this proof, part j: words, plain facts, contracts. -/
import Derived.Test.YtihknedmkkakhaaMFnComponentsa
import Derived.Test.YtihknedmkkakhaaMFnComponentsb
import Derived.Test.YtihknedmkkakhaaMFnComponentsc
import Derived.Test.YtihknedmkkakhaaMFnComponentsh
import Derived.Test.YtihknedmkkakhaaMFnComponentsd
import Derived.Test.YtihknedmkkakhaaMFnComponentsi
import Derived.Test.YtihknedmkkakhaaMFnComponentsf
import Derived.Deep.QuietTactic
import Derived.BigQuiet

namespace Go.Proofs.Ytihknedmkkakhaa
open Go.RowKit
set_option linter.unusedVariables false

/-- The list of the points' places: those of S are told. -/
structure PL (w5 : World) (pb n : Nat) (L : List (List Int)) (S : Int → Prop) (P : List Int) (wr : World) : Prop where
  ext : Ext w5 wr
  own : wr.ownsRow w5.heap.size 3 1 (.slice (some ⟨pb, 0, none⟩) n n) n (P.map (Value.int .i64))
  len : P.length = n
  low : w5.heap.size ≤ pb
  told : ∀ x : Nat, x < n → S x → P[x]? = some (placeI L x : Int)
theorem PL.on {w5 : World} {pb n : Nat} {L : List (List Int)} {S : Int → Prop} {P : List Int} {wr w' : World} (h : PL w5 pb n L S P wr) (e : Ext wr w') : PL w5 pb n L S P w' :=
  ⟨h.ext.trans e, e.ownsRow h.own, h.len, h.low, h.told⟩
theorem PL.as {w5 : World} {pb n : Nat} {L : List (List Int)} {S S' : Int → Prop} {P : List Int} {wr : World} (h : PL w5 pb n L S P wr) (hs : ∀ x : Nat, x < n → S' x → S x) : PL w5 pb n L S' P wr :=
  ⟨h.ext, h.own, h.len, h.low, fun x hx hS => h.told x hx (hs x hx hS)⟩
theorem PL.store {w5 : World} {pb n : Nat} {L : List (List Int)} {S : Int → Prop} {P : List Int} {wr : World} (h : PL w5 pb n L S P wr) {x k : Nat} (hx : x < n) (hk : placeI L x = k) :
    PL w5 pb n L (fun y => S y ∨ y = x) (P.set x k) (wr.setCell ⟨pb, x, none⟩ (.int .i64 k)) := by
  have ho := (World.ownsRow.stored h.own x (.int .i64 (k : Int))).1
  refine ⟨Below.setCell h.ext h.low _, ?_, by rw [List.length_set]; exact h.len, h.low, fun y hy hS => ?_⟩
  · rw [List.map_set]
    exact ho
  · rw [List.getElem?_set]
    by_cases e : x = y
    · subst e
      rw [if_pos rfl, if_pos (by rw [h.len]; exact hx), hk]
    · rw [if_neg e]
      refine h.told y hy (hS.resolve_right (fun e' => e (by omega)))

set_option maxRecDepth 100000 in
set_option maxHeartbeats 16000000 in
theorem componentsW (v0 v1 : Value) (M N : Nat) (w : World) (h0 : BytesUp w v0 M) (h1 : BytesUp w v1 N) :
    Calls Try.prog 3 #[v0, v1] w (BoolExt true w) := by
  have HV0 := Lib.hid h0
  have HV1 := Lib.hid h1
  clear h0 h1
  go_enter Try.func3, Try.ntmps3
  go_wp2_with fail
  refine (big_any _ _ _ _ _ HV0.out HV1.out).mono ?_
  rintro e w1 ⟨rfl, x1⟩
  cases hb : decide (1048576 < M + N) with
  | true =>
    go_wp2
    go_ret
    exact ⟨rfl, x1⟩
  | false =>
    have hMN : M + N ≤ 1048576 := by simpa using hb
    have HV0 := Lib.hid ((HV0.out.ext x1).small (by omega))
    have HV1 := Lib.hid ((HV1.out.ext x1).small (by omega))
    clear hMN
    go_wp2_with fail
    refine (drawComponentsOf_any _ _ _ HV0.out).mono ?_
    rintro e w2 ⟨gv, g, rfl, f2, hg2, hb2, x2⟩
    have HV1 := Lib.hid (HV1.out.ext x2)
    have HX := Lib.hid (x1.trans x2)
    have G2 := Lib.hid f2.intss
    obtain ⟨ag, cg, rfl, _⟩ := f2.intss
    clear x1 x2 f2 hb HV0
    go_wp2_with fail
    refine (implComponents_any _ _ _ G2.out).mono ?_
    rintro e w3 ⟨c3, rfl, f3, x3⟩
    have C3 := Lib.hid f3.intss
    obtain ⟨ac, cc, rfl, _⟩ := f3.intss
    have G3 := Lib.hid (G2.out.ext x3)
    have HV1 := Lib.hid (HV1.out.ext x3)
    have HX := Lib.hid (HX.out.trans x3)
    clear G2 f3 x3
    go_wp2_with fail
    refine (specComponents_any _ _ _ G3.out).mono ?_
    rintro e w4 ⟨c4, rfl, f4, x4⟩
    have D4 := Lib.hid f4.intss
    have C4 := Lib.hid (C3.out.ext x4)
    have G4 := Lib.hid (G3.out.ext x4)
    have HV1 := Lib.hid (HV1.out.ext x4)
    have HX := Lib.hid (HX.out.trans x4)
    clear G3 C3 f4 x4
    go_wp2_with fail
    refine (sameLists_any _ _ _ _ _ C4.out D4.out).mono ?_
    rintro e w5 ⟨rfl, x5⟩
    rw [decide_eq_true rfl]
    have C5 := Lib.hid (C4.out.ext x5)
    have G5 := Lib.hid (G4.out.ext x5)
    have HV1 := Lib.hid (HV1.out.ext x5)
    have HX := Lib.hid (HX.out.trans x5)
    clear C4 D4 G4 x5
    go_wp2_with fail
    refine (implGoodGraph_any _ _ _ G5.out).mono ?_
    rintro e w6 ⟨rfl, x6⟩
    have C6 := Lib.hid (C5.out.ext x6)
    have G6 := Lib.hid (G5.out.ext x6)
    have HV1 := Lib.hid (HV1.out.ext x6)
    have HX := Lib.hid (HX.out.trans x6)
    clear C5 G5 x6
    go_wp2_with fail
    refine (specGoodGraph_any _ _ _ G6.out).mono ?_
    rintro e w7 ⟨rfl, x7⟩
    have C7 := Lib.hid (C6.out.ext x7)
    have G7 := Lib.hid (G6.out.ext x7)
    have HV1 := Lib.hid (HV1.out.ext x7)
    have HX := Lib.hid (HX.out.trans x7)
    clear C6 G6 x7
    cases hgd : goodG g
    case' true =>
      by_cases hs : g.length ≤ 10
      case' pos =>
        obtain ⟨L, hL⟩ : ∃ L, L = compsA g := ⟨_, rfl⟩
        rw [← hL] at C7 ⊢
        have hLL : L = compsL g := by rw [hL]; unfold compsA; rw [hgd]; rfl
        have hrows : rowsB g = true := by unfold goodG at hgd; rw [Bool.and_eq_true] at hgd; exact hgd.1
        have HR := Lib.hid (And.intro hLL (And.intro hrows hgd))
        clear hL hLL hrows hgd
        obtain ⟨i0, hi, hz0, hz1, hz2⟩ := info_parts Try.infoInt
        go_wp2_with (at_make; refine wpList_make_full _ rfl _ _ 30 rfl w7.heap.size 3 i0 (.int .i64 0) 1 Try.underlying30 hi hz0 hz1 _ _ _ _ g.length rfl rfl rfl rfl ?c1 ?c2 ?c3 ?_)
        case c1 => rw [hz2]; omega
        case c2 => unfold maxLen; omega
        case c3 => simp
        intro w8 ho8 hg8
        have HP := Lib.hid (show PL w7 w7.heap.size g.length L (fun _ => False) (List.replicate g.length 0) w8 from ⟨ext_of_grown hg8, (by
          have hc : (Value.int .i64 0).cells = #[Value.int .i64 0] := rfl
          try simp only [hc, Nat.mul_one] at ho8
          rw [toList_madeCells_one] at ho8
          rw [List.map_replicate]
          exact ho8), by simp, Nat.le_refl _, fun _ _ h => h.elim⟩)
        clear ho8 hg8 hi hz0 hz1 hz2 i0
        obtain ⟨pb, hpb⟩ : ∃ pb, pb = w7.heap.size := ⟨_, rfl⟩
        rw [← hpb] at HP ⊢
        clear hpb
        go_wp2
        go_loopw [11, 76] (fun mv i wr => ∃ (k : Nat) (P : List Int), k ≤ L.length ∧ i = .int .i64 k ∧ mv = .int .i64 ((L.take k).flatten.length : Nat) ∧ Hid (PL w7 pb g.length L (fun x => x ∈ (L.take k).flatten) P wr)) (fun _ i _ => L.length - (intOf i).toNat)
        case atStart => exact ⟨0, _, Nat.zero_le _, rfl, by simp, Lib.hid (HP.out.as (fun x _ h => by simp at h))⟩
        case round =>
          clear HP
          obtain ⟨k, P, hk, rfl, rfl, D⟩ := hrel
          by_cases hlt : k < L.length
          · obtain ⟨au, cu, he, hlu, _, hcu⟩ := C7.out
            cases he
            obtain ⟨bu, ou, rfl, du⟩ := hcu (by omega)
            obtain ⟨x, hx1, ix⟩ := du k hlt
            rw [List.getElem?_eq_getElem hlt, Option.getD_some] at ix
            have gu := D.out.ext.cell hx1
            obtain ⟨ax, cx, rfl, hlx, _, hcx⟩ := ix
            unfold maxLen at hlx hlu
            have hsum : (L.take k).flatten.length + (L[k]).length ≤ g.length := by
              have h1 := comps_many HR.out.2.1
              rw [← HR.out.1] at h1
              rw [← h1]
              have h2 : L = L.take k ++ L[k] :: L.drop (k + 1) := by rw [← List.drop_eq_getElem_cons hlt, List.take_append_drop]
              have h3 := congrArg (fun l => l.flatten.length) h2
              simp only [List.flatten_append, List.flatten_cons, List.length_append] at h3
              omega
            have hnext : (L.take (k + 1)).flatten = (L.take k).flatten ++ L[k] := by
              rw [List.take_add_one, List.getElem?_eq_getElem hlt, List.flatten_append]
              simp
            have HN := Lib.hid hnext
            clear du hx1 hcu hnext
            obtain ⟨m, hm⟩ : ∃ m, m = (L.take k).flatten.length := ⟨_, rfl⟩
            rw [← hm] at hsum ⊢
            have HM := Lib.hid hm
            clear hm
            go_wp2
            go_loopw [11, 83] (fun mv i wr => ∃ (j : Nat) (P : List Int), j ≤ (L[k]).length ∧ i = .int .i64 j ∧ mv = .int .i64 ((m + j : Nat)) ∧ Hid (PL w7 pb g.length L (fun x => x ∈ (L.take k).flatten ∨ x ∈ (L[k]).take j) P wr)) (fun _ i _ => (L[k]).length - (intOf i).toNat)
            case atStart => exact ⟨0, P, Nat.zero_le _, rfl, rfl, Lib.hid (D.out.as (fun x _ h => by simpa using h))⟩
            case round =>
              clear D gu
              obtain ⟨j, P, hj, rfl, rfl, D⟩ := hrel
              by_cases hjl : j < (L[k]).length
              · obtain ⟨bx, ox, rfl, dx⟩ := hcx (by omega)
                have hin : 0 ≤ (L[k])[j] ∧ (L[k])[j] < (g.length : Int) := compsL_in HR.out.2.1 (G := L[k]) (by rw [← HR.out.1]; exact List.getElem_mem hlt) _ (List.getElem_mem hjl)
                obtain ⟨t, ht⟩ : ∃ t : Nat, (L[k])[j] = (t : Int) := ⟨((L[k])[j]).toNat, by omega⟩
                have hpl : placeI L (t : Int) = k := by
                  have ha := compsL_apart HR.out.2.1
                  rw [← HR.out.1] at ha
                  exact placeI_at ha hlt (by rw [← ht]; exact List.getElem_mem hjl)
                have gx := D.out.ext.cell (dx j hjl)
                rw [List.getElem?_eq_getElem hjl, Option.getD_some, ht] at gx
                have htl : t < g.length := by omega
                obtain ⟨z, hz⟩ : ∃ z, P[t]? = some z := ⟨_, List.getElem?_eq_getElem (by rw [D.out.len]; exact htl)⟩
                have gp := (D.out.own.cellAt t (by omega)).trans (show (P.map (Value.int .i64))[t]? = some (.int .i64 z) by rw [List.getElem?_map, hz]; rfl)
                clear hz
                have gf := D.out.own.frozenAt t
                have D2 := Lib.hid (D.out.store htl hpl)
                have HT := Lib.hid ht
                clear dx hin hpl ht hcx D
                go_wp2
                go_roundw
                case rel =>
                  refine ⟨j + 1, _, by omega, by go_num, by go_num, Lib.hid (D2.out.as (fun y _ hy => ?_))⟩
                  rcases hy with hy | hy
                  · exact .inl (.inl hy)
                  · rw [List.take_add_one, List.getElem?_eq_getElem hjl, List.mem_append] at hy
                    rcases hy with hy | hy
                    · exact .inl (.inr hy)
                    · rw [HT.out] at hy
                      exact .inr (by simpa using hy)
                case measure => simp [intOf]; omega
              · have hje : j = (L[k]).length := by omega
                subst hje
                go_wp2
                go_roundw
                case rel =>
                  refine ⟨k + 1, P, by omega, by go_num, ?_, Lib.hid (D.out.as (fun y _ hy => ?_))⟩
                  · rw [HN.out, List.length_append, ← HM.out]
                  · rw [HN.out, List.mem_append] at hy
                    rw [List.take_length]
                    exact hy
                case measure => simp [intOf]; omega
          · have hke : k = L.length := by omega
            subst hke
            have hall : (L.take L.length).flatten.length = g.length := by rw [List.take_length, HR.out.1]; exact comps_many HR.out.2.1
            rw [hall]
            have D3 := Lib.hid (D.out.as (S' := fun _ => True) (fun x hx _ => by
              rw [List.take_length, HR.out.1, List.mem_flatten]
              exact compsL_covers HR.out.2.1 (by omega)))
            clear D hall hlt hk
            go_wp2
            go_loopw [109] (fun i wr => ∃ p : Nat, p ≤ g.length ∧ i = .int .i64 p ∧ Hid (PL w7 pb g.length L (fun _ => True) P wr)) (fun i _ => g.length - (intOf i).toNat)
            case atStart => exact ⟨0, Nat.zero_le _, rfl, D3⟩
            case round =>
              clear D3
              obtain ⟨p, hp, rfl, D⟩ := hrel
              by_cases hpl : p < g.length
              · go_wp2_with fail
                refine (implReached_good _ g p _ (G7.out.ext D.out.ext) HR.out.2.2 hpl).mono ?_
                rintro e w9 ⟨rv, rfl, f9, x9⟩
                have D9 := Lib.hid (D.out.on x9)
                have R9 := Lib.hid f9.ints
                clear D f9 x9
                go_wp2
                go_loopw [122] (fun i wr => ∃ q : Nat, q ≤ g.length ∧ i = .int .i64 q ∧ Hid (PL w7 pb g.length L (fun _ => True) P wr) ∧ Hid (Ints wr rv (reachL g p))) (fun i _ => g.length - (intOf i).toNat)
                case atStart => exact ⟨0, Nat.zero_le _, rfl, D9, R9⟩
                case round =>
                  clear D9 R9
                  obtain ⟨q, hq, rfl, D, R⟩ := hrel
                  by_cases hql : q < g.length
                  · go_wp2_with fail
                    refine (implReached_good _ g q _ (G7.out.ext D.out.ext) HR.out.2.2 hql).mono ?_
                    rintro e w10 ⟨sv, rfl, f10, x10⟩
                    have D10 := Lib.hid (D.out.on x10)
                    have R10 := Lib.hid (R.out.ext x10)
                    have S10 := Lib.hid f10.ints
                    clear D R f10 x10
                    have gp := (D10.out.own.cellAt p (by omega)).trans (show (P.map (Value.int .i64))[p]? = some (.int .i64 (placeI L (p : Int))) by rw [List.getElem?_map, D10.out.told p hpl trivial]; rfl)
                    have gq := (D10.out.own.cellAt q (by omega)).trans (show (P.map (Value.int .i64))[q]? = some (.int .i64 (placeI L (q : Int))) by rw [List.getElem?_map, D10.out.told q hql trivial]; rfl)
                    have hsame := place_same HR.out.2.1 (x := (p : Int)) (y := (q : Int)) (by omega) (by omega)
                    have hord : hasI (reachL g p) q = true → placeI L (q : Int) ≤ placeI L (p : Int) := fun h => by
                      rw [HR.out.1]
                      exact place_order HR.out.2.1 (by omega) ((reachL_mem HR.out.2.1 (by omega) _).1 ((hasI_mem _ _).1 h))
                    rw [← HR.out.1] at hsame
                    obtain ⟨a, ha⟩ : ∃ a, a = placeI L (p : Int) := ⟨_, rfl⟩
                    obtain ⟨b, hb⟩ : ∃ b, b = placeI L (q : Int) := ⟨_, rfl⟩
                    rw [← ha] at gp hsame hord
                    rw [← hb] at gq hsame hord
                    clear ha hb
                    cases hA : hasI (reachL g (p : Int)) (q : Int) with
                    | true =>
                      have hba := hord hA
                      have cA : ∀ t, Calls Try.prog 17 #[rv, .int .i64 q] (w10.drewN t) (fun e w' => e = .returned (.bool true) ∧ w' = w10.drewN t) := fun t => by
                        have h := lawHas_same rv _ q (w10.drewN t) (R10.out.ext (ext_of_grown (grownBy_drewN ⟨rfl, rfl, rfl, Nat.le_refl _, fun _ _ _ => rfl⟩ t)))
                        rw [hA] at h
                        exact h
                      cases hB : hasI (reachL g (q : Int)) (p : Int) with
                      | true =>
                        have cB : ∀ t, Calls Try.prog 17 #[sv, .int .i64 p] (w10.drewN t) (fun e w' => e = .returned (.bool true) ∧ w' = w10.drewN t) := fun t => by
                          have h := lawHas_same sv _ p (w10.drewN t) (S10.out.ext (ext_of_grown (grownBy_drewN ⟨rfl, rfl, rfl, Nat.le_refl _, fun _ _ _ => rfl⟩ t)))
                          rw [hB] at h
                          exact h
                        have hab : a = b := by rw [hA, hB] at hsame; simpa using hsame
                        subst hab
                        have i1 : ((a : Int) == (a : Int)) = true := by simp
                        have i2 : decide ((a : Int) < (a : Int)) = false := by simp
                        clear hsame hord
                        go_wp2_with fail
                        go_quiet (first | (go_at_call 17; with_reducible exact Calls.quiet_of_same (cA _)) | (go_at_call 17; with_reducible exact Calls.quiet_of_same (cB _)))
                        have xW : ∀ t, Ext w10 (w10.drewN t) := fun t => ext_of_grown (grownBy_drewN ⟨rfl, rfl, rfl, Nat.le_refl _, fun _ _ _ => rfl⟩ t)
                        clear cA gp gq
                        go_wp2
                        go_roundw
                        case rel => exact ⟨q + 1, by omega, by go_num, Lib.hid (D10.out.on (xW _)), Lib.hid (R10.out.ext (xW _))⟩
                        case measure => simp [intOf]; omega
                      | false =>
                        have cB : ∀ t, Calls Try.prog 17 #[sv, .int .i64 p] (w10.drewN t) (fun e w' => e = .returned (.bool false) ∧ w' = w10.drewN t) := fun t => by
                          have h := lawHas_same sv _ p (w10.drewN t) (S10.out.ext (ext_of_grown (grownBy_drewN ⟨rfl, rfl, rfl, Nat.le_refl _, fun _ _ _ => rfl⟩ t)))
                          rw [hB] at h
                          exact h
                        have hab : ¬ (a : Int) = (b : Int) := by rw [hA, hB] at hsame; have : ¬ a = b := by simpa using hsame
                                                                 omega
                        have i2 : decide ((a : Int) < (b : Int)) = false := by simp; omega
                        have i1 : ((a : Int) == (b : Int)) = false := by simpa using hab
                        clear hsame hord
                        go_wp2_with fail
                        go_quiet (first | (go_at_call 17; with_reducible exact Calls.quiet_of_same (cA _)) | (go_at_call 17; with_reducible exact Calls.quiet_of_same (cB _)))
                        have xW : ∀ t, Ext w10 (w10.drewN t) := fun t => ext_of_grown (grownBy_drewN ⟨rfl, rfl, rfl, Nat.le_refl _, fun _ _ _ => rfl⟩ t)
                        clear cA gp gq
                        go_wp2
                        go_roundw
                        case rel => exact ⟨q + 1, by omega, by go_num, Lib.hid (D10.out.on (xW _)), Lib.hid (R10.out.ext (xW _))⟩
                        case measure => simp [intOf]; omega
                    | false =>
                      have cA : ∀ t, Calls Try.prog 17 #[rv, .int .i64 q] (w10.drewN t) (fun e w' => e = .returned (.bool false) ∧ w' = w10.drewN t) := fun t => by
                        have h := lawHas_same rv _ q (w10.drewN t) (R10.out.ext (ext_of_grown (grownBy_drewN ⟨rfl, rfl, rfl, Nat.le_refl _, fun _ _ _ => rfl⟩ t)))
                        rw [hA] at h
                        exact h
                      have hab : ¬ (a : Int) = (b : Int) := by rw [hA] at hsame; have : ¬ a = b := by simpa using hsame
                                                               omega
                      have i1 : ((a : Int) == (b : Int)) = false := by simpa using hab
                      clear hsame hord
                      go_wp2_with fail
                      go_quiet (first | (go_at_call 17; with_reducible exact Calls.quiet_of_same (cA _)) | (go_at_call 17; with_reducible exact Calls.quiet_of_same (cB _)))
                      have xW : ∀ t, Ext w10 (w10.drewN t) := fun t => ext_of_grown (grownBy_drewN ⟨rfl, rfl, rfl, Nat.le_refl _, fun _ _ _ => rfl⟩ t)
                      clear cA gp gq
                      go_wp2
                      go_roundw
                      case rel => exact ⟨q + 1, by omega, by go_num, Lib.hid (D10.out.on (xW _)), Lib.hid (R10.out.ext (xW _))⟩
                      case measure => simp [intOf]; omega
                  · have hqe : q = g.length := by omega
                    subst hqe
                    go_wp2
                    go_roundw
                    case rel => exact ⟨p + 1, by omega, by go_num, D⟩
                    case measure => simp [intOf]; omega
              · have hpe : p = g.length := by omega
                subst hpe
                have HV1 := Lib.hid (HV1.out.ext D.out.ext)
                have HX := Lib.hid (HX.out.trans D.out.ext)
                clear D
                go_wp2_with fail
                refine (drawReachedFrom_any _ _ _ HV1.out).mono ?_
                rintro e w8 ⟨hv, h, k, rfl, f8, _, _, x8⟩
                have HV1 := Lib.hid (HV1.out.ext x8)
                have HX := Lib.hid (HX.out.trans x8)
                have G8 := Lib.hid f8.intss
                clear f8 x8
                go_wp2_with fail
                refine (implReachedFrom_any _ _ _ _ G8.out).mono ?_
                rintro e w9 ⟨r9, rfl, f9, x9⟩
                have HV1 := Lib.hid (HV1.out.ext x9)
                have HX := Lib.hid (HX.out.trans x9)
                have G9 := Lib.hid (G8.out.ext x9)
                have R9 := Lib.hid f9.ints
                clear f9 x9
                go_wp2_with fail
                refine (specReachedFrom_any _ _ _ _ G9.out).mono ?_
                rintro e w10 ⟨r10, rfl, f10, x10⟩
                have HV1 := Lib.hid (HV1.out.ext x10)
                have HX := Lib.hid (HX.out.trans x10)
                have R10 := Lib.hid (R9.out.ext x10)
                have S10 := Lib.hid f10.ints
                clear f10 x10
                go_wp2_with fail
                refine (drawClosedIn_any _ _ _ HV1.out).mono ?_
                rintro e w11 ⟨ev, e2, lv, l2, rfl, i11, j11, _, _, _, x11⟩
                have HX := Lib.hid (HX.out.trans x11)
                have R11 := Lib.hid (R10.out.ext x11)
                have S11 := Lib.hid (S10.out.ext x11)
                have E11 := Lib.hid i11
                have L11 := Lib.hid j11
                clear i11 j11 x11
                go_wp2_with fail
                refine (implClosedIn_any _ _ _ _ _ E11.out L11.out).mono ?_
                rintro e w12 ⟨r12, rfl, f12, x12⟩
                have HX := Lib.hid (HX.out.trans x12)
                have R12 := Lib.hid (R11.out.ext x12)
                have S12 := Lib.hid (S11.out.ext x12)
                have E12 := Lib.hid (E11.out.ext x12)
                have L12 := Lib.hid (L11.out.ext x12)
                have T12 := Lib.hid f12.ints
                clear f12 x12
                go_wp2_with fail
                refine (specClosedIn_any _ _ _ _ _ E12.out L12.out).mono ?_
                rintro e w13 ⟨r13, rfl, f13, x13⟩
                have HX := Lib.hid (HX.out.trans x13)
                have R13 := Lib.hid (R12.out.ext x13)
                have S13 := Lib.hid (S12.out.ext x13)
                have T13 := Lib.hid (T12.out.ext x13)
                have U13 := Lib.hid f13.ints
                clear f13 x13
                go_wp2_with fail
                refine (sameInts_any _ _ _ _ _ R13.out S13.out).mono ?_
                rintro e w14 ⟨rfl, x14⟩
                rw [decide_eq_true rfl]
                have HX := Lib.hid (HX.out.trans x14)
                have T14 := Lib.hid (T13.out.ext x14)
                have U14 := Lib.hid (U13.out.ext x14)
                clear x14
                go_wp2_with fail
                refine (sameInts_any _ _ _ _ _ T14.out U14.out).mono ?_
                rintro e w15 ⟨rfl, x15⟩
                rw [decide_eq_true rfl]
                have HX := Lib.hid (HX.out.trans x15)
                go_wp2
                go_ret
                exact ⟨rfl, HX.out⟩
      case' neg => go_wp2_with fail
    case' false => go_wp2_with fail
    all_goals
      refine (drawReachedFrom_any _ _ _ HV1.out).mono ?_
      rintro e w8 ⟨hv, h, k, rfl, f8, _, _, x8⟩
      have HV1 := Lib.hid (HV1.out.ext x8)
      have HX := Lib.hid (HX.out.trans x8)
      have G8 := Lib.hid f8.intss
      clear f8 x8
      go_wp2_with fail
      refine (implReachedFrom_any _ _ _ _ G8.out).mono ?_
      rintro e w9 ⟨r9, rfl, f9, x9⟩
      have HV1 := Lib.hid (HV1.out.ext x9)
      have HX := Lib.hid (HX.out.trans x9)
      have G9 := Lib.hid (G8.out.ext x9)
      have R9 := Lib.hid f9.ints
      clear f9 x9
      go_wp2_with fail
      refine (specReachedFrom_any _ _ _ _ G9.out).mono ?_
      rintro e w10 ⟨r10, rfl, f10, x10⟩
      have HV1 := Lib.hid (HV1.out.ext x10)
      have HX := Lib.hid (HX.out.trans x10)
      have R10 := Lib.hid (R9.out.ext x10)
      have S10 := Lib.hid f10.ints
      clear f10 x10
      go_wp2_with fail
      refine (drawClosedIn_any _ _ _ HV1.out).mono ?_
      rintro e w11 ⟨ev, e2, lv, l2, rfl, i11, j11, _, _, _, x11⟩
      have HX := Lib.hid (HX.out.trans x11)
      have R11 := Lib.hid (R10.out.ext x11)
      have S11 := Lib.hid (S10.out.ext x11)
      have E11 := Lib.hid i11
      have L11 := Lib.hid j11
      clear i11 j11 x11
      go_wp2_with fail
      refine (implClosedIn_any _ _ _ _ _ E11.out L11.out).mono ?_
      rintro e w12 ⟨r12, rfl, f12, x12⟩
      have HX := Lib.hid (HX.out.trans x12)
      have R12 := Lib.hid (R11.out.ext x12)
      have S12 := Lib.hid (S11.out.ext x12)
      have E12 := Lib.hid (E11.out.ext x12)
      have L12 := Lib.hid (L11.out.ext x12)
      have T12 := Lib.hid f12.ints
      clear f12 x12
      go_wp2_with fail
      refine (specClosedIn_any _ _ _ _ _ E12.out L12.out).mono ?_
      rintro e w13 ⟨r13, rfl, f13, x13⟩
      have HX := Lib.hid (HX.out.trans x13)
      have R13 := Lib.hid (R12.out.ext x13)
      have S13 := Lib.hid (S12.out.ext x13)
      have T13 := Lib.hid (T12.out.ext x13)
      have U13 := Lib.hid f13.ints
      clear f13 x13
      go_wp2_with fail
      refine (sameInts_any _ _ _ _ _ R13.out S13.out).mono ?_
      rintro e w14 ⟨rfl, x14⟩
      rw [decide_eq_true rfl]
      have HX := Lib.hid (HX.out.trans x14)
      have T14 := Lib.hid (T13.out.ext x14)
      have U14 := Lib.hid (U13.out.ext x14)
      clear x14
      go_wp2_with fail
      refine (sameInts_any _ _ _ _ _ T14.out U14.out).mono ?_
      rintro e w15 ⟨rfl, x15⟩
      rw [decide_eq_true rfl]
      have HX := Lib.hid (HX.out.trans x15)
      go_wp2
      go_ret
      exact ⟨rfl, HX.out⟩

end Go.Proofs.Ytihknedmkkakhaa
