/- Texts of this proof, part e: words, plain facts, contracts. -/
import Derived.Test.YtihknedmkkakhaaMGraphOfc
import Derived.Test.YtihknedmkkakhaaMGraphOfd
import Derived.Test.YtihknedmkkakhaaMGraphOfb
import Derived.Test.YtihknedmkkakhaaMGraphOfa
import Derived.Maps.RangeWalk
import Derived.Maps.OwnSet
import Derived.Maps.OwnOps
import Derived.DeepKeys5

namespace Go.Proofs.Ytihknedmkkakhaa
open Go.RowKit
set_option linter.unusedVariables false

theorem allx_take_succ {α : Type} {l : List α} {k : Nat} (h : k < l.length) (p : α → Bool) (ht : (l.take k).all p = true) (hp : p l[k] = true) : (l.take (k + 1)).all p = true := by
  rw [List.take_add_one, List.all_append, ht, List.getElem?_eq_getElem h]
  simpa using hp
theorem allx_false_at {α : Type} {l : List α} {k : Nat} (h : k < l.length) (p : α → Bool) (hp : p l[k] = false) : l.all p = false := by
  rw [List.all_eq_false]
  exact ⟨l[k], List.getElem_mem h, by rw [hp]; simp⟩

/-- Whether a list of rows, whether all lists of a table are good. -/
def goodList (n : Int) (R : List RowD) : Bool := decide (R.length ≤ 6) && R.all (goodRow n)
def goodTab (n : Int) (T : List (List RowD)) : Bool := (isGrp n && decide ((T.length : Int) = n)) && T.all (goodList n)
theorem goodTab_grp {n : Int} {T : List (List RowD)} (h : isGrp n = false) : goodTab n T = false := by unfold goodTab; rw [h]; rfl
theorem goodTab_len {n : Int} {T : List (List RowD)} (h : (T.length : Int) ≠ n) : goodTab n T = false := by unfold goodTab; rw [decide_eq_false h, Bool.and_false]; rfl
theorem goodTab_all {n : Int} {T : List (List RowD)} (h : isGrp n = true) (hl : (T.length : Int) = n) : goodTab n T = T.all (goodList n) := by unfold goodTab; rw [h, decide_eq_true hl]; rfl
theorem goodList_long {n : Int} {R : List RowD} (h : 6 < R.length) : goodList n R = false := by unfold goodList; rw [decide_eq_false (by omega)]; rfl
theorem goodList_all {n : Int} {R : List RowD} (h : R.length ≤ 6) : goodList n R = R.all (goodRow n) := by unfold goodList; rw [decide_eq_true h]; rfl
theorem goodList_row {n : Int} {R : List RowD} (h : R.all (goodRow n) = false) : goodList n R = false := by unfold goodList; rw [h, Bool.and_false]

set_option maxHeartbeats 4000000 in
theorem specGoodTable_any (n : Int) (u : Value) (T : List (List RowD)) (w : World) (hu : Rowzz w u T) :
    Calls Try.prog 57 #[.agg #[.int .i64 n, u]] w (BoolExt (goodTab n T) w) := by
  obtain ⟨au, cu, rfl, hlu, _, hcu⟩ := hu
  unfold maxLen at hlu
  cases hg : isGrp n with
  | false =>
    rw [goodTab_grp hg]
    have HG := Lib.hid hg
    clear hg hcu
    go_enter Try.func57, Try.ntmps57
    go_wp2_with fail
    refine (specIsGroup_any _ _).mono ?_
    rintro e w' ⟨rfl, rfl⟩
    rw [HG.out]
    go_wp2
    go_ret
    exact ⟨rfl, Ext.alloc1 _ _⟩
  | true =>
    have HG := Lib.hid hg
    by_cases hl : (T.length : Int) = n
    · rw [goodTab_all hg hl]
      have e0 : ((T.length : Int) != n) = false := by simp [hl]
      have HL := Lib.hid hl
      obtain ⟨wb, hwb⟩ : ∃ wb, wb = w.alloc (.cells #[.int .i64 n, .slice au T.length cu] 48) := ⟨_, rfl⟩
      have hb := attrAt_new w 48 n (.slice au T.length cu)
      rw [← hwb] at hb
      have xb : Ext w wb := by rw [hwb]; exact Ext.alloc1 _ _
      have HWB := Lib.hid hwb
      have HBB := Lib.hid hb
      clear hg hl hwb hb
      go_enter Try.func57, Try.ntmps57
      go_wp2_with fail
      refine (specIsGroup_any _ _).mono ?_
      rintro e w' ⟨rfl, rfl⟩
      rw [HG.out]
      go_wp2
      rw [← HWB.out]
      go_loopw [22] (fun i wr => ∃ k : Nat, k ≤ T.length ∧ i = .int .i64 k ∧ Hid ((T.take k).all (goodList n) = true) ∧ Ext wb wr) (fun i _ => T.length - (intOf i).toNat)
      case atStart => exact ⟨0, Nat.zero_le _, rfl, Lib.hid (by simp), Ext.refl _⟩
      case round =>
        obtain ⟨k, hk, rfl, HT, hx⟩ := hrel
        by_cases hlt : k < T.length
        · obtain ⟨bu, ou, rfl, du⟩ := hcu (by omega)
          obtain ⟨x, hx1, ix⟩ := du k hlt
          have gu := (xb.trans hx).cell hx1
          have ixr := ix.ext (xb.trans hx)
          obtain ⟨R, hR⟩ : ∃ R, R = T[k] := ⟨_, rfl⟩
          rw [← hR] at ixr
          obtain ⟨ax, cx, rfl, hlx, _, hcx⟩ := ixr
          unfold maxLen at hlx
          have HR := Lib.hid hR
          clear hcu du hx1 ix hR
          obtain ⟨wo, hwo⟩ : ∃ wo : World, wo = wr := ⟨_, rfl⟩
          subst hwo
          go_wp2
          go_loopw [28] (fun i wr => ∃ j : Nat, j ≤ R.length ∧ i = .int .i64 j ∧ Hid ((R.take j).all (goodRow n) = true) ∧ Ext wo wr) (fun i _ => R.length - (intOf i).toNat)
          case atStart => exact ⟨0, Nat.zero_le _, rfl, Lib.hid (by simp), Ext.refl _⟩
          case round =>
            obtain ⟨j, hj, rfl, HS, hy⟩ := hrel
            by_cases hjt : j < R.length
            · obtain ⟨bx, ox, rfl, dx⟩ := hcx (by omega)
              obtain ⟨y, hy1, iy⟩ := dx j hjt
              obtain ⟨d, hd⟩ : ∃ d, d = R[j] := ⟨_, rfl⟩
              rw [← hd] at hy1 iy
              have gy := hy1.ext hy
              have iy2 := iy.ext hy
              obtain ⟨ay, cy, rfl, _⟩ := id iy2
              have IY := Lib.hid iy2
              have HD := Lib.hid hd
              obtain ⟨wp, hwp⟩ : ∃ wp : World, wp = wr := ⟨_, rfl⟩
              subst hwp
              have gn := ((hx.trans hy).trans (Ext.alloc1 wp (.cells #[.int .i64 d.b, .int .i64 d.v, .int .i64 d.st, .int .i64 d.k, .int .i64 d.i, .int .i64 d.f, .int .i64 d.t, .int .i64 d.a, .int .i64 d.s, .slice ay d.l.length cy] 90))).cell HBB.out.1
              clear hcx dx hy1 iy iy2 hd
              obtain ⟨g0, g1, g2, g3, g4, g5, g6, g7, g8, g9⟩ := gy
              go_wp2_with fail
              cases hq : goodRow n d with
              | false =>
                have HQ := Lib.hid hq
                clear hq
                refine (l4Row_any n d _ _ (IY.out.ext (Ext.alloc1 _ _)) HG.out).mono ?_
                rintro e w3 ⟨rfl, x3⟩
                have hz := (xb.trans ((hx.trans hy).trans (Ext.alloc1 _ _))).trans x3
                clear x3 gn g0 g1 g2 g3 g4 g5 g6 g7 g8 g9
                rw [HQ.out]
                go_wp2
                go_ret
                refine ⟨?_, hz⟩
                have h1 : R.all (goodRow n) = false := allx_false_at hjt _ (by rw [← HD.out]; exact HQ.out)
                have h2 : T.all (goodList n) = false := allx_false_at hlt _ (by rw [← HR.out]; exact goodList_row h1)
                rw [h2]; rfl
              | true =>
                have HQ := Lib.hid hq
                clear hq
                refine (l4Row_any n d _ _ (IY.out.ext (Ext.alloc1 _ _)) HG.out).mono ?_
                rintro e w3 ⟨rfl, x3⟩
                have hz := (hy.trans (Ext.alloc1 _ _)).trans x3
                clear x3 gn g0 g1 g2 g3 g4 g5 g6 g7 g8 g9
                rw [HQ.out]
                go_wp2
                go_roundw
                case rel => exact ⟨j + 1, by omega, by go_num, Lib.hid (allx_take_succ hjt _ HS.out (by rw [← HD.out]; exact HQ.out)), hz⟩
                case measure => simp [intOf]; omega
            · obtain rfl : j = R.length := by omega
              have hfull : R.all (goodRow n) = true := by have h := HS.out; rwa [List.take_length] at h
              have HF := Lib.hid hfull
              clear hfull
              by_cases h6 : 6 < R.length
              · go_wp2
                go_ret
                refine ⟨?_, xb.trans (hx.trans hy)⟩
                have h2 : T.all (goodList n) = false := allx_false_at hlt _ (by rw [← HR.out]; exact goodList_long h6)
                rw [h2]; rfl
              · go_wp2
                go_roundw
                case rel => exact ⟨k + 1, by omega, by go_num, Lib.hid (allx_take_succ hlt _ HT.out (by rw [← HR.out, goodList_all (by omega)]; exact HF.out)), hx.trans hy⟩
                case measure => simp [intOf]; omega
        · obtain rfl : k = T.length := by omega
          go_wp2
          go_ret
          refine ⟨?_, xb.trans hx⟩
          have h2 : T.all (goodList n) = true := by have h := HT.out; rwa [List.take_length] at h
          rw [h2]; rfl
    · rw [goodTab_len hl]
      have e0 : ((T.length : Int) != n) = true := by simp [hl]
      clear hg hcu hl
      go_enter Try.func57, Try.ntmps57
      go_wp2_with fail
      refine (specIsGroup_any _ _).mono ?_
      rintro e w' ⟨rfl, rfl⟩
      rw [HG.out]
      go_wp2
      go_ret
      exact ⟨rfl, Ext.alloc1 _ _⟩

end Go.Proofs.Ytihknedmkkakhaa

namespace Go.Proofs.Ytihknedmkkakhaa
open Go.RowKit
set_option linter.unusedVariables false

set_option maxHeartbeats 2000000 in
theorem areGoodRows_any (n : Int) (u : Value) (R : List RowD) (w : World) (hu : Rowz w u R) (hs : bulkR R ≤ 1099511627776) (hg : isGrp n = true) :
    Calls Try.prog 106 #[.int .i64 n, u] w (BoolExt (goodList n R) w) := by
  obtain ⟨au, cu, rfl, hlu, _, hcu⟩ := hu
  unfold maxLen at hlu
  have HG := Lib.hid hg
  have HS := Lib.hid hs
  clear hg hs
  by_cases h6 : 6 < R.length
  · rw [goodList_long h6]
    clear hcu
    go_enter Try.func106, Try.ntmps106
    go_wp2
    go_ret
    exact ⟨rfl, Ext.refl _⟩
  · have h6' : R.length ≤ 6 := by omega
    rw [goodList_all h6']
    clear h6
    go_enter Try.func106, Try.ntmps106
    go_wp2
    go_loopw [12] (fun i wr => ∃ j : Nat, j ≤ R.length ∧ i = .int .i64 j ∧ Hid ((R.take j).all (goodRow n) = true) ∧ Ext w wr) (fun i _ => R.length - (intOf i).toNat)
    case atStart => exact ⟨0, Nat.zero_le _, rfl, Lib.hid (by simp), Ext.refl _⟩
    case round =>
      obtain ⟨j, hj, rfl, HT, hy⟩ := hrel
      by_cases hjt : j < R.length
      · obtain ⟨bx, ox, rfl, dx⟩ := hcu (by omega)
        obtain ⟨y, hy1, iy⟩ := dx j hjt
        obtain ⟨d, hd⟩ : ∃ d, d = R[j] := ⟨_, rfl⟩
        rw [← hd] at hy1 iy
        have hsz : d.l.length ≤ 1099511627776 := by rw [hd]; have := bulkR_row hjt; have := HS.out; omega
        have gy := hy1.ext hy
        have iy2 := iy.ext hy
        obtain ⟨ay, cy, rfl, _⟩ := id iy2
        have IY := Lib.hid iy2
        have HD := Lib.hid hd
        clear hcu dx hy1 iy iy2 hd
        obtain ⟨wp, hwp⟩ : ∃ wp : World, wp = wr := ⟨_, rfl⟩
        subst hwp
        obtain ⟨g0, g1, g2, g3, g4, g5, g6, g7, g8, g9⟩ := gy
        go_wp2_with fail
        cases hq : goodRow n d with
        | false =>
          have HQ := Lib.hid hq
          clear hq
          refine (isGoodRow_any n d _ _ (IY.out.ext (Ext.alloc1 _ _)) hsz HG.out).mono ?_
          rintro e w3 ⟨rfl, x3⟩
          have hz := (hy.trans (Ext.alloc1 _ _)).trans x3
          clear x3 g0 g1 g2 g3 g4 g5 g6 g7 g8 g9
          rw [HQ.out]
          go_wp2
          go_ret
          refine ⟨?_, hz⟩
          have h1 : R.all (goodRow n) = false := allx_false_at hjt _ (by rw [← HD.out]; exact HQ.out)
          rw [h1]; rfl
        | true =>
          have HQ := Lib.hid hq
          clear hq
          refine (isGoodRow_any n d _ _ (IY.out.ext (Ext.alloc1 _ _)) hsz HG.out).mono ?_
          rintro e w3 ⟨rfl, x3⟩
          have hz := (hy.trans (Ext.alloc1 _ _)).trans x3
          clear x3 g0 g1 g2 g3 g4 g5 g6 g7 g8 g9
          rw [HQ.out]
          go_wp2
          go_roundw
          case rel => exact ⟨j + 1, by omega, by go_num, Lib.hid (allx_take_succ hjt _ HT.out (by rw [← HD.out]; exact HQ.out)), hz⟩
          case measure => simp [intOf]; omega
      · obtain rfl : j = R.length := by omega
        go_wp2
        go_ret
        refine ⟨?_, hy⟩
        have hfull : R.all (goodRow n) = true := by have h := HT.out; rwa [List.take_length] at h
        rw [hfull]; rfl

set_option maxHeartbeats 4000000 in
theorem implGoodTable_any (n : Int) (u : Value) (T : List (List RowD)) (w : World) (hu : Rowzz w u T) (hs : bulkT T ≤ 1099511627776) :
    Calls Try.prog 60 #[.agg #[.int .i64 n, u]] w (BoolExt (goodTab n T) w) := by
  obtain ⟨au, cu, rfl, hlu, _, hcu⟩ := hu
  unfold maxLen at hlu
  have HSZ := Lib.hid hs
  clear hs
  cases hg : isGrp n with
  | false =>
    rw [goodTab_grp hg]
    have HG := Lib.hid hg
    clear hg hcu
    go_enter Try.func60, Try.ntmps60
    go_wp2_with fail
    refine (implIsGroup_any _ _).mono ?_
    rintro e w' ⟨rfl, rfl⟩
    rw [HG.out]
    go_wp2
    go_ret
    exact ⟨rfl, Ext.alloc1 _ _⟩
  | true =>
    have HG := Lib.hid hg
    by_cases hl : (T.length : Int) = n
    · rw [goodTab_all hg hl]
      have e0 : ((T.length : Int) != n) = false := by simp [hl]
      have HL := Lib.hid hl
      obtain ⟨wb, hwb⟩ : ∃ wb, wb = w.alloc (.cells #[.int .i64 n, .slice au T.length cu] 48) := ⟨_, rfl⟩
      have hb := attrAt_new w 48 n (.slice au T.length cu)
      rw [← hwb] at hb
      have xb : Ext w wb := by rw [hwb]; exact Ext.alloc1 _ _
      have HWB := Lib.hid hwb
      have HBB := Lib.hid hb
      clear hg hl hwb hb
      go_enter Try.func60, Try.ntmps60
      go_wp2_with fail
      refine (implIsGroup_any _ _).mono ?_
      rintro e w' ⟨rfl, rfl⟩
      rw [HG.out]
      go_wp2
      rw [← HWB.out]
      go_loopw [20] (fun i wr => ∃ k : Nat, k ≤ T.length ∧ i = .int .i64 k ∧ Hid ((T.take k).all (goodList n) = true) ∧ Ext wb wr) (fun i _ => T.length - (intOf i).toNat)
      case atStart => exact ⟨0, Nat.zero_le _, rfl, Lib.hid (by simp), Ext.refl _⟩
      case round =>
        obtain ⟨k, hk, rfl, HT, hx⟩ := hrel
        by_cases hlt : k < T.length
        · obtain ⟨bu, ou, rfl, du⟩ := hcu (by omega)
          obtain ⟨x, hx1, ix⟩ := du k hlt
          have gu := (xb.trans hx).cell hx1
          have gn := hx.cell HBB.out.1
          obtain ⟨R, hR⟩ : ∃ R, R = T[k] := ⟨_, rfl⟩
          rw [← hR] at ix
          have hsz : bulkR R ≤ 1099511627776 := by rw [hR]; have := bulkT_row hlt; have := HSZ.out; omega
          have IX := Lib.hid (ix.ext (xb.trans hx))
          have HR := Lib.hid hR
          clear hcu du hx1 ix hR
          obtain ⟨wo, hwo⟩ : ∃ wo : World, wo = wr := ⟨_, rfl⟩
          subst hwo
          go_wp2_with fail
          cases hq : goodList n R with
          | false =>
            have HQ := Lib.hid hq
            clear hq
            refine (areGoodRows_any n _ R _ IX.out hsz HG.out).mono ?_
            rintro e w3 ⟨rfl, x3⟩
            have hz := xb.trans (hx.trans x3)
            clear x3 gn gu
            rw [HQ.out]
            go_wp2
            go_ret
            refine ⟨?_, hz⟩
            have h2 : T.all (goodList n) = false := allx_false_at hlt _ (by rw [← HR.out]; exact HQ.out)
            rw [h2]; rfl
          | true =>
            have HQ := Lib.hid hq
            clear hq
            refine (areGoodRows_any n _ R _ IX.out hsz HG.out).mono ?_
            rintro e w3 ⟨rfl, x3⟩
            have hz := hx.trans x3
            clear x3 gn gu
            rw [HQ.out]
            go_wp2
            go_roundw
            case rel => exact ⟨k + 1, by omega, by go_num, Lib.hid (allx_take_succ hlt _ HT.out (by rw [← HR.out]; exact HQ.out)), hz⟩
            case measure => simp [intOf]; omega
        · obtain rfl : k = T.length := by omega
          go_wp2
          go_ret
          refine ⟨?_, xb.trans hx⟩
          have h2 : T.all (goodList n) = true := by have h := HT.out; rwa [List.take_length] at h
          rw [h2]; rfl
    · rw [goodTab_len hl]
      have e0 : ((T.length : Int) != n) = true := by simp [hl]
      clear hg hcu hl
      go_enter Try.func60, Try.ntmps60
      go_wp2_with fail
      refine (implIsGroup_any _ _).mono ?_
      rintro e w' ⟨rfl, rfl⟩
      rw [HG.out]
      go_wp2
      go_ret
      exact ⟨rfl, Ext.alloc1 _ _⟩

end Go.Proofs.Ytihknedmkkakhaa

namespace Go.Proofs.Ytihknedmkkakhaa
open Go.RowKit
set_option linter.unusedVariables false

set_option maxHeartbeats 1000000 in
theorem l1Own_any (u : Value) (l : List Int) (w : World) (hu : Ints w u l) (hl : l.length ≤ 1048576) :
    Calls Try.prog 174 #[u] w (NewInts l w) := by
  have hb1 : ([] : List Int).length + l.length ≤ 1099511627776 := by simp; omega
  have HB := Lib.hid hb1
  have HU := Lib.hid hu
  clear hb1 hu hl
  go_enter Try.func174, Try.ntmps174
  go_wp2_with (at_builtin; refine wpList_join rfl _ _ rfl w.heap.size _ _ [] l rfl (fresh_lit w [] #[] _ rfl (Nat.le_refl _) (Nat.zero_le _)) rfl (HU.out.ext (Ext.alloc (Ext.refl _) _)) HB.out (size_alloc_le (Nat.le_refl _)) ?_)
  intro v1 w1 f1 g1 k1
  have e1' : Ext w w1 := k1 w (Ext.alloc (Ext.refl _) _) (Nat.le_refl _)
  clear g1 k1
  go_wp2
  go_ret
  exact ⟨_, rfl, by simpa using f1, e1'⟩

theorem box_res (w : World) (s : Int) (u : Value) (T : TypeId) :
    AttrAt ((w.alloc (.cells #[.int .i64 s, u] T)).alloc (.cells #[.int .i64 0, .slice none 0 0] T)) w.heap.size s u ∧ OpenAt ((w.alloc (.cells #[.int .i64 s, u] T)).alloc (.cells #[.int .i64 0, .slice none 0 0] T)) (w.heap.size + 1) 0 (.slice none 0 0) := by
  refine ⟨⟨?_, ?_⟩, ⟨?_, ?_⟩, ?_, ?_⟩ <;> go_simp

set_option maxHeartbeats 2000000 in
theorem l4OwnAttr_any (s : Int) (u : Value) (l : List Int) (w : World) (hu : Ints w u l) (hl : l.length ≤ 1048576) :
    Calls Try.prog 139 #[.agg #[.int .i64 s, u]] w (NewAttr s l w) := by
  have HL := Lib.hid hl
  have HU := Lib.hid hu
  have HO := Lib.hid (box_res w s u 88)
  clear hl hu
  go_enter Try.func139, Try.ntmps139
  go_wp2_with fail
  go_region_with (go_at_call 174; refine (l1Own_any _ l _ (HU.out.ext (by repeat (first | exact Ext.refl _ | apply Ext.drew | apply Ext.alloc))) HL.out).mono ?_; rintro e W ⟨z, rfl, f9, x9⟩; obtain ⟨az, cz, rfl⟩ := f9.form; obtain ⟨b0, b1⟩ := HO.out.1.ext ((Ext.drew (Ext.refl _)).trans x9); obtain ⟨⟨c0, c1⟩, z0, z1⟩ := HO.out.2.ext ((Ext.drew (Ext.refl _)).trans x9))
  all_goals
    have F9 := Lib.hid f9
    have X9 := Lib.hid x9
    clear f9 x9 b0 b1
    go_wp2
    refine bodyPost_ret (v := .agg #[.int .i64 s, .slice az l.length cz]) (by simp [results, Try.results139, go_sem, c0, c1]) rfl ⟨_, rfl, ?_, ?_⟩
    · exact ((F9.out.set _ _ _ (by simp)).set _ _ _ (by simp)).more (by simp; omega)
    · exact (((((Ext.refl w).alloc _).alloc _).trans ((Ext.drew (Ext.refl _)).trans X9.out)).setc (by simp)).setc (by simp)

theorem box_res_row (w : World) (r : RowD) (u : Value) (T : TypeId) :
    (RowAt ((w.alloc (.cells #[.int .i64 r.b, .int .i64 r.v, .int .i64 r.st, .int .i64 r.k, .int .i64 r.i, .int .i64 r.f, .int .i64 r.t, .int .i64 r.a, .int .i64 r.s, u] T)).alloc (.cells #[.int .i64 0, .int .i64 0, .int .i64 0, .int .i64 0, .int .i64 0, .int .i64 0, .int .i64 0, .int .i64 0, .int .i64 0, .slice none 0 0] T)) w.heap.size r u ∧
      FreeAt ((w.alloc (.cells #[.int .i64 r.b, .int .i64 r.v, .int .i64 r.st, .int .i64 r.k, .int .i64 r.i, .int .i64 r.f, .int .i64 r.t, .int .i64 r.a, .int .i64 r.s, u] T)).alloc (.cells #[.int .i64 0, .int .i64 0, .int .i64 0, .int .i64 0, .int .i64 0, .int .i64 0, .int .i64 0, .int .i64 0, .int .i64 0, .slice none 0 0] T)) w.heap.size) ∧
    (RowAt ((w.alloc (.cells #[.int .i64 r.b, .int .i64 r.v, .int .i64 r.st, .int .i64 r.k, .int .i64 r.i, .int .i64 r.f, .int .i64 r.t, .int .i64 r.a, .int .i64 r.s, u] T)).alloc (.cells #[.int .i64 0, .int .i64 0, .int .i64 0, .int .i64 0, .int .i64 0, .int .i64 0, .int .i64 0, .int .i64 0, .int .i64 0, .slice none 0 0] T)) (w.heap.size + 1) zeroR (.slice none 0 0) ∧
      FreeAt ((w.alloc (.cells #[.int .i64 r.b, .int .i64 r.v, .int .i64 r.st, .int .i64 r.k, .int .i64 r.i, .int .i64 r.f, .int .i64 r.t, .int .i64 r.a, .int .i64 r.s, u] T)).alloc (.cells #[.int .i64 0, .int .i64 0, .int .i64 0, .int .i64 0, .int .i64 0, .int .i64 0, .int .i64 0, .int .i64 0, .int .i64 0, .slice none 0 0] T)) (w.heap.size + 1)) := by
  refine ⟨⟨⟨?_, ?_, ?_, ?_, ?_, ?_, ?_, ?_, ?_, ?_⟩, ⟨?_, ?_, ?_, ?_, ?_, ?_, ?_, ?_, ?_, ?_⟩⟩, ⟨⟨?_, ?_, ?_, ?_, ?_, ?_, ?_, ?_, ?_, ?_⟩, ⟨?_, ?_, ?_, ?_, ?_, ?_, ?_, ?_, ?_, ?_⟩⟩⟩ <;> go_simp <;> rfl

set_option maxHeartbeats 2000000 in
set_option maxRecDepth 100000 in
theorem l4OwnRow_any (r : RowD) (u : Value) (w : World) (hu : Ints w u r.l) (hl : r.l.length ≤ 1048576) :
    Calls Try.prog 117 #[.agg #[.int .i64 r.b, .int .i64 r.v, .int .i64 r.st, .int .i64 r.k, .int .i64 r.i, .int .i64 r.f, .int .i64 r.t, .int .i64 r.a, .int .i64 r.s, u]] w (NewRow r w) := by
  have HL := Lib.hid hl
  obtain ⟨wb, hwb⟩ : ∃ wb, wb = (w.alloc (.cells #[.int .i64 r.b, .int .i64 r.v, .int .i64 r.st, .int .i64 r.k, .int .i64 r.i, .int .i64 r.f, .int .i64 r.t, .int .i64 r.a, .int .i64 r.s, u] 90)).alloc (.cells #[.int .i64 0, .int .i64 0, .int .i64 0, .int .i64 0, .int .i64 0, .int .i64 0, .int .i64 0, .int .i64 0, .int .i64 0, .slice none 0 0] 90) := ⟨_, rfl⟩
  have ho := box_res_row w r u 90
  rw [← hwb] at ho
  have xb : Ext w wb := by rw [hwb]; exact ((Ext.refl w).alloc _).alloc _
  have sb : wb.heap.size = w.heap.size + 2 := by rw [hwb]; simp
  have HU := Lib.hid (hu.ext xb)
  have HWB := Lib.hid hwb
  have HO := Lib.hid ho
  have SB := Lib.hid sb
  clear hl hu hwb ho sb
  go_enter Try.func117, Try.ntmps117
  go_wp2_with fail
  rw [← HWB.out]
  refine (l4OwnAttr_any _ _ r.l _ HU.out HL.out).mono ?_
  rintro e w1 ⟨v, rfl, f1, x1⟩
  have hx := xb.trans x1
  obtain ⟨p0, p1, p2, p3, p4, p5, p6, p7, p8, p9⟩ := HO.out.1.1.ext x1
  obtain ⟨y0, y1, y2, y3, y4, y5, y6, y7, y8, y9⟩ := HO.out.1.2.ext (by have := SB.out; omega) x1
  obtain ⟨o0, o1, o2, o3, o4, o5, o6, o7, o8, o9⟩ := HO.out.2.1.ext x1
  obtain ⟨z0, z1, z2, z3, z4, z5, z6, z7, z8, z9⟩ := HO.out.2.2.ext (by have := SB.out; omega) x1
  obtain ⟨au, cu, rfl⟩ := f1.form
  have F := Lib.hid f1
  have hsz : w.heap.size + 2 ≤ wb.heap.size := by have := SB.out; omega
  have HZ := Lib.hid hsz
  clear f1 x1 xb hsz
  go_wp2
  refine bodyPost_ret (v := .agg #[.int .i64 r.b, .int .i64 r.v, .int .i64 r.st, .int .i64 r.k, .int .i64 r.i, .int .i64 r.f, .int .i64 r.t, .int .i64 r.a, .int .i64 r.s, .slice au r.l.length cu]) (by simp [results, Try.results117, go_sem, o0, o1, o2, o3, o4, o5, o6, o7, o8, o9]) rfl ⟨_, rfl, ?_, ?_⟩
  · exact ((((((((((((F.out.set _ _ _ (by have := HZ.out; omega)).set _ _ _ (by have := HZ.out; omega)).set _ _ _ (by have := HZ.out; omega)).set _ _ _ (by have := HZ.out; omega)).set _ _ _ (by have := HZ.out; omega)).set _ _ _ (by have := HZ.out; omega)).set _ _ _ (by have := HZ.out; omega)).set _ _ _ (by have := HZ.out; omega)).set _ _ _ (by have := HZ.out; omega)).set _ _ _ (by have := HZ.out; omega)).set _ _ _ (by have := HZ.out; omega)).set _ _ _ (by have := HZ.out; omega)).more (by have := HZ.out; omega)
  · exact (((((((((((hx.setc (by dsimp only; omega)).setc (by dsimp only; omega)).setc (by dsimp only; omega)).setc (by dsimp only; omega)).setc (by dsimp only; omega)).setc (by dsimp only; omega)).setc (by dsimp only; omega)).setc (by dsimp only; omega)).setc (by dsimp only; omega)).setc (by dsimp only; omega)).setc (by dsimp only; omega)).setc (by dsimp only; omega)

end Go.Proofs.Ytihknedmkkakhaa

namespace Go.Proofs.Ytihknedmkkakhaa
open Go.RowKit
set_option linter.unusedVariables false

/-- Whether it is an instance of a group of n. -/
def instB (n rep no : Int) : Bool := inB rep 0 (n - 1) && inB no 1 6
theorem isGrp_bd {n : Int} (h : isGrp n = true) : 3 ≤ n ∧ n ≤ 5 := by rcases isGrp_of h with rfl | rfl <;> omega

set_option maxHeartbeats 400000 in
theorem l3Inst_any (n rep no : Int) (w : World) (h3 : 3 ≤ n) (h5 : n ≤ 5) :
    Calls Try.prog 115 #[.int .i64 n, .int .i64 rep, .int .i64 no] w fun e w' => e = .returned (.bool (instB n rep no)) ∧ w = w' := by
  unfold instB
  cases h1 : inB rep 0 (n - 1)
  · have H1 := Lib.hid h1
    clear h1
    go_enter Try.func115, Try.ntmps115
    go_wp2_with fail
    refine (l1In_any _ _ _ _).mono ?_
    rintro e w' ⟨rfl, rfl⟩
    rw [H1.out]
    go_wp2
    go_ret
    exact ⟨rfl, rfl⟩
  · have H1 := Lib.hid h1
    clear h1
    cases h2 : inB no 1 6
    all_goals
      have H2 := Lib.hid h2
      clear h2
      go_enter Try.func115, Try.ntmps115
      go_wp2_with fail
      refine (l1In_any _ _ _ _).mono ?_
      rintro e w' ⟨rfl, rfl⟩
      rw [H1.out]
      go_wp2_with fail
      refine (l1In_any _ _ _ _).mono ?_
      rintro e w' ⟨rfl, rfl⟩
      rw [H2.out]
      go_wp2
      go_ret
      exact ⟨rfl, rfl⟩

set_option maxHeartbeats 1000000 in
theorem isInstance_any (n rep no : Int) (w : World) (hg : isGrp n = true) :
    Calls Try.prog 122 #[.int .i64 n, .int .i64 rep, .int .i64 no] w fun e w' => e = .returned (.bool (instB n rep no)) ∧ w = w' := by
  have HG := Lib.hid hg
  clear hg
  by_cases h1 : rep < 0
  · have hr : instB n rep no = false := by unfold instB; rw [inB_no (by omega)]; rfl
    rw [hr]
    clear hr
    go_enter Try.func122, Try.ntmps122
    go_wp2_with fail
    refine (implIsGroup_any _ _).mono ?_
    rintro e w' ⟨rfl, rfl⟩
    rw [HG.out]
    go_wp2
    go_ret
    exact ⟨rfl, rfl⟩
  · have h1' : 0 ≤ rep := by omega
    clear h1
    by_cases h2 : rep < n
    · by_cases h3 : no < 1
      · have hr : instB n rep no = false := by unfold instB; rw [inB_no (n := no) (by omega), Bool.and_false]
        rw [hr]
        clear hr
        go_enter Try.func122, Try.ntmps122
        go_wp2_with fail
        refine (implIsGroup_any _ _).mono ?_
        rintro e w' ⟨rfl, rfl⟩
        rw [HG.out]
        go_wp2
        go_ret
        exact ⟨rfl, rfl⟩
      · have h3' : 1 ≤ no := by omega
        clear h3
        by_cases h4 : no ≤ 6
        · have hr : instB n rep no = true := by unfold instB; rw [inB_yes (n := no) (by omega) (by omega), inB_yes (by omega) (by omega)]; rfl
          rw [hr]
          clear hr
          go_enter Try.func122, Try.ntmps122
          go_wp2_with fail
          refine (implIsGroup_any _ _).mono ?_
          rintro e w' ⟨rfl, rfl⟩
          rw [HG.out]
          go_wp2
          go_ret
          exact ⟨rfl, rfl⟩
        · have hr : instB n rep no = false := by unfold instB; rw [inB_no (n := no) (by omega), Bool.and_false]
          rw [hr]
          have d4 : decide (no ≤ 6) = false := by simpa using h4
          clear hr h4
          go_enter Try.func122, Try.ntmps122
          go_wp2_with fail
          refine (implIsGroup_any _ _).mono ?_
          rintro e w' ⟨rfl, rfl⟩
          rw [HG.out]
          go_wp2
          go_ret
          exact ⟨rfl, rfl⟩
    · have hr : instB n rep no = false := by unfold instB; rw [inB_no (n := rep) (by omega)]; rfl
      rw [hr]
      have h2' : n ≤ rep := by omega
      clear hr h2
      go_enter Try.func122, Try.ntmps122
      go_wp2_with fail
      refine (implIsGroup_any _ _).mono ?_
      rintro e w' ⟨rfl, rfl⟩
      rw [HG.out]
      go_wp2
      go_ret
      exact ⟨rfl, rfl⟩

/-- What HangsOn tells. -/
def hangsB (n s : Int) (l : List Int) (rep no : Int) : Bool := goodA n s l && instB n rep no && decide (no ≤ l[rep.toNat]?.getD 0)
def hangsOk (n s : Int) (l : List Int) (rep no : Int) : Bool := goodA n s l && instB n rep no

end Go.Proofs.Ytihknedmkkakhaa

namespace Go.Proofs.Ytihknedmkkakhaa
open Go.RowKit
set_option linter.unusedVariables false

def emptyR (n : Int) : RowD := ⟨0, 0, 0, 0, 0, 0, 0, 0, 0, noneL n⟩
/-- The row of the place (p, q + 1), the empty one behind the list's end. -/
def rowOf (n : Int) (T : List (List RowD)) (p q : Nat) : RowD := (T[p]?.getD [])[q]?.getD (emptyR n)
theorem rowOf_in {n : Int} {T : List (List RowD)} {p q : Nat} (hp : p < T.length) (hq : q < T[p].length) : rowOf n T p q = T[p][q] := by
  unfold rowOf; simp [List.getElem?_eq_getElem hp, List.getElem?_eq_getElem hq]
theorem rowOf_out {n : Int} {T : List (List RowD)} {p q : Nat} (hp : p < T.length) (hq : T[p].length ≤ q) : rowOf n T p q = emptyR n := by
  unfold rowOf; simp [List.getElem?_eq_getElem hp, List.getElem?_eq_none hq]
theorem goodTab_of {n : Int} {T : List (List RowD)} (h : goodTab n T = true) : isGrp n = true ∧ (T.length : Int) = n ∧ ∀ R ∈ T, R.length ≤ 6 ∧ ∀ r ∈ R, goodRow n r = true := by
  unfold goodTab at h
  simp only [Bool.and_eq_true, decide_eq_true_eq, List.all_eq_true] at h
  refine ⟨h.1.1, h.1.2, fun R hR => ?_⟩
  have := h.2 R hR
  unfold goodList at this
  simp only [Bool.and_eq_true, decide_eq_true_eq, List.all_eq_true] at this
  exact this
theorem goodRow_len {n : Int} {r : RowD} (hn : isGrp n = true) (h : goodRow n r = true) : (r.l.length : Int) = n := by
  unfold goodRow at h
  simp only [Bool.and_eq_true] at h
  have h2 := h.2
  split at h2
  · unfold emptyB at h2
    simp only [Bool.and_eq_true] at h2
    have h3 := h2.2
    unfold sameA at h3
    simp only [Bool.and_eq_true, decide_eq_true_eq] at h3
    rw [h3.2]
    rcases isGrp_of hn with rfl | rfl <;> simp [noneL, isGrp]
  · unfold fullB at h2
    simp only [Bool.and_eq_true] at h2
    exact (goodD_of h2.2).2.1
theorem goodTab_row {n : Int} {T : List (List RowD)} (h : goodTab n T = true) {p q : Nat} (hp : p < T.length) (hq : q < T[p].length) : goodRow n T[p][q] = true ∧ (T[p][q].l.length : Int) = n ∧ T[p][q].l.length ≤ 5 := by
  obtain ⟨h1, h2, h3⟩ := goodTab_of h
  have h4 := (h3 _ (List.getElem_mem hp)).2 _ (List.getElem_mem hq)
  have h5 := goodRow_len h1 h4
  have := isGrp_bd h1
  exact ⟨h4, h5, by omega⟩
/-- An instance, in numbers of the model's lists. -/
theorem inst_nat {n rep no : Int} {T : List (List RowD)} (h : goodTab n T = true) (hi : instB n rep no = true) : ∃ p q : Nat, rep = (p : Int) ∧ no = (q : Int) + 1 ∧ p < T.length ∧ q ≤ 5 := by
  obtain ⟨h1, h2, h3⟩ := goodTab_of h
  unfold instB at hi
  simp only [Bool.and_eq_true] at hi
  obtain ⟨ha, hb⟩ := hi
  unfold inB at ha hb
  simp only [Bool.and_eq_true, decide_eq_true_eq] at ha hb
  exact ⟨rep.toNat, (no - 1).toNat, by omega, by omega, by omega, by omega⟩

set_option maxHeartbeats 1000000 in
theorem l4Asked_any (n : Int) (u : Value) (T : List (List RowD)) (rep no : Int) (w : World) (hu : Rowzz w u T) :
    Calls Try.prog 72 #[.agg #[.int .i64 n, u], .int .i64 rep, .int .i64 no] w (BoolExt (goodTab n T && instB n rep no) w) := by
  have HB := Lib.hid (attrAt_new w 48 n u)
  have HU := Lib.hid (hu.ext (Ext.alloc1 w (.cells #[.int .i64 n, u] 48)))
  clear hu
  cases hg : goodTab n T with
  | false =>
    have HG := Lib.hid hg
    clear hg
    go_enter Try.func72, Try.ntmps72
    go_wp2_with fail
    refine (specGoodTable_any _ _ T _ HU.out).mono ?_
    rintro e w1 ⟨rfl, x1⟩
    have hx := (Ext.alloc1 w _).trans x1
    clear x1
    rw [HG.out]
    go_wp2
    go_ret
    exact ⟨rfl, hx⟩
  | true =>
    rw [Bool.true_and]
    have hb := isGrp_bd (goodTab_of hg).1
    have h3 := hb.1
    have h5 := hb.2
    have HG := Lib.hid hg
    clear hg hb
    go_enter Try.func72, Try.ntmps72
    go_wp2_with fail
    refine (specGoodTable_any _ _ T _ HU.out).mono ?_
    rintro e w1 ⟨rfl, x1⟩
    obtain ⟨c0, c1⟩ := HB.out.ext x1
    have hx := (Ext.alloc1 w _).trans x1
    clear x1
    rw [HG.out]
    go_wp2_with fail
    refine (l3Inst_any _ _ _ _ h3 h5).mono ?_
    rintro e w' ⟨rfl, rfl⟩
    clear c0 c1
    cases hi : instB n rep no
    all_goals
      have HI := Lib.hid hi
      clear hi
      go_wp2
      go_ret
      exact ⟨by rw [HI.out]; rfl, hx⟩

end Go.Proofs.Ytihknedmkkakhaa

namespace Go.Proofs.Ytihknedmkkakhaa
open Go.RowKit
set_option linter.unusedVariables false

theorem tab_res (w : World) (n : Int) (u : Value) (T T' : TypeId) :
    AttrAt ((w.alloc (.cells #[.int .i64 n, u] T)).alloc (.cells #[.int .i64 0, .int .i64 0, .int .i64 0, .int .i64 0, .int .i64 0, .int .i64 0, .int .i64 0, .int .i64 0, .int .i64 0, .slice none 0 0] T')) w.heap.size n u ∧
    RowAt ((w.alloc (.cells #[.int .i64 n, u] T)).alloc (.cells #[.int .i64 0, .int .i64 0, .int .i64 0, .int .i64 0, .int .i64 0, .int .i64 0, .int .i64 0, .int .i64 0, .int .i64 0, .slice none 0 0] T')) (w.heap.size + 1) ⟨0, 0, 0, 0, 0, 0, 0, 0, 0, []⟩ (.slice none 0 0) ∧
      FreeAt ((w.alloc (.cells #[.int .i64 n, u] T)).alloc (.cells #[.int .i64 0, .int .i64 0, .int .i64 0, .int .i64 0, .int .i64 0, .int .i64 0, .int .i64 0, .int .i64 0, .int .i64 0, .slice none 0 0] T')) (w.heap.size + 1) := by
  refine ⟨⟨?_, ?_⟩, ⟨?_, ?_, ?_, ?_, ?_, ?_, ?_, ?_, ?_, ?_⟩, ⟨?_, ?_, ?_, ?_, ?_, ?_, ?_, ?_, ?_, ?_⟩⟩ <;> go_simp

set_option maxHeartbeats 2000000 in
set_option maxRecDepth 100000 in
theorem l4At_any (n : Int) (u : Value) (T : List (List RowD)) (p q : Nat) (w : World) (hu : Rowzz w u T) (hg : goodTab n T = true) (hp : p < T.length) (hq : q ≤ 5) :
    Calls Try.prog 73 #[.agg #[.int .i64 n, u], .int .i64 p, .int .i64 ((q : Int) + 1)] w (NewRow (rowOf n T p q) w) := by
  have hu0 := hu
  obtain ⟨au, cu, rfl, hlu, _, hcu⟩ := hu
  unfold maxLen at hlu
  obtain ⟨bu, ou, rfl, du⟩ := hcu (by omega)
  obtain ⟨x, hx1, ix⟩ := du p hp
  obtain ⟨R, hR⟩ : ∃ R, R = T[p] := ⟨_, rfl⟩
  rw [← hR] at ix
  obtain ⟨wb, hwb⟩ : ∃ wb, wb = (w.alloc (.cells #[.int .i64 n, .slice (some ⟨bu, ou, none⟩) T.length cu] 48)).alloc (.cells #[.int .i64 0, .int .i64 0, .int .i64 0, .int .i64 0, .int .i64 0, .int .i64 0, .int .i64 0, .int .i64 0, .int .i64 0, .slice none 0 0] 90) := ⟨_, rfl⟩
  have ho := tab_res w n (.slice (some ⟨bu, ou, none⟩) T.length cu) 48 90
  rw [← hwb] at ho
  have xb : Ext w wb := by rw [hwb]; exact ((Ext.refl w).alloc _).alloc _
  have sb : w.heap.size + 2 ≤ wb.heap.size := by rw [hwb]; simp
  have gx := xb.cell hx1
  have ixb := ix.ext xb
  obtain ⟨ax, cx, rfl, hlx, _, hcx⟩ := ixb
  unfold maxLen at hlx
  have hgrp := (goodTab_of hg).1
  by_cases hqt : q < R.length
  · have hqt' : q < T[p].length := by rw [← hR]; exact hqt
    have hrow := goodTab_row hg hp hqt'
    have e : rowOf n T p q = R[q] := by rw [rowOf_in hp hqt']; simp only [hR]
    rw [e]
    obtain ⟨d, hd⟩ : ∃ d, d = R[q] := ⟨_, rfl⟩
    obtain ⟨bx, ox, rfl, dx⟩ := hcx (by omega)
    obtain ⟨y, hy1, iy⟩ := dx q hqt
    rw [← hd] at hy1 iy ⊢
    have hdl : d.l.length ≤ 1048576 := by have : d = T[p][q] := by rw [hd]; simp only [hR]
                                          rw [this]; omega
    have HWB := Lib.hid hwb
    have HO := Lib.hid ho
    have IY := Lib.hid iy
    have SB := Lib.hid sb
    obtain ⟨g0, g1, g2, g3, g4, g5, g6, g7, g8, g9⟩ := hy1
    obtain ⟨t0, t1⟩ := ho.1
    have hq0 : (q : Int) ≤ 5 := by omega
    have hq1 : (q : Int) + 1 ≤ R.length := by omega
    rw [hwb] at g0 g1 g2 g3 g4 g5 g6 g7 g8 g9 gx t0 t1
    clear hwb ho hu0 hcu du hx1 ix hR hcx dx iy hd hrow hqt' e hg hgrp sb
    go_enter Try.func73, Try.ntmps73
    go_wp2_with fail
    rw [← HWB.out]
    refine (l4OwnRow_any d y _ IY.out hdl).mono ?_
    rintro e w1 ⟨v, rfl, f1, x1⟩
    have hx := xb.trans x1
    obtain ⟨o0, o1, o2, o3, o4, o5, o6, o7, o8, o9⟩ := HO.out.2.1.ext x1
    obtain ⟨z0, z1, z2, z3, z4, z5, z6, z7, z8, z9⟩ := HO.out.2.2.ext (by have := SB.out; omega) x1
    obtain ⟨ay, cy, rfl⟩ := f1.form
    have F := Lib.hid f1
    clear f1 x1 xb g0 g1 g2 g3 g4 g5 g6 g7 g8 g9 gx t0 t1
    go_wp2
    refine bodyPost_ret (v := .agg #[.int .i64 d.b, .int .i64 d.v, .int .i64 d.st, .int .i64 d.k, .int .i64 d.i, .int .i64 d.f, .int .i64 d.t, .int .i64 d.a, .int .i64 d.s, .slice ay d.l.length cy]) (by simp [results, Try.results73, go_sem, o0, o1, o2, o3, o4, o5, o6, o7, o8, o9]) rfl ⟨_, rfl, ?_, ?_⟩
    · exact ((((((((((F.out.set _ _ _ (by have := SB.out; omega)).set _ _ _ (by have := SB.out; omega)).set _ _ _ (by have := SB.out; omega)).set _ _ _ (by have := SB.out; omega)).set _ _ _ (by have := SB.out; omega)).set _ _ _ (by have := SB.out; omega)).set _ _ _ (by have := SB.out; omega)).set _ _ _ (by have := SB.out; omega)).set _ _ _ (by have := SB.out; omega)).set _ _ _ (by have := SB.out; omega)).more (by have := SB.out; omega)
    · exact (((((((((hx.setc (by dsimp only; omega)).setc (by dsimp only; omega)).setc (by dsimp only; omega)).setc (by dsimp only; omega)).setc (by dsimp only; omega)).setc (by dsimp only; omega)).setc (by dsimp only; omega)).setc (by dsimp only; omega)).setc (by dsimp only; omega)).setc (by dsimp only; omega)
  · have e : rowOf n T p q = emptyR n := rowOf_out hp (by rw [← hR]; omega)
    rw [e]
    obtain ⟨L, hL⟩ : ∃ L, L = noneL n := ⟨_, rfl⟩
    have hc := fun W => l3None_any n W hgrp
    have hLE : emptyR n = ⟨0, 0, 0, 0, 0, 0, 0, 0, 0, L⟩ := by rw [hL]; rfl
    rw [← hL] at hc
    rw [hLE]
    have HC := Lib.hid hc
    have HWB := Lib.hid hwb
    have HO := Lib.hid ho
    have SB := Lib.hid sb
    obtain ⟨t0, t1⟩ := ho.1
    have hq0 : (q : Int) ≤ 5 := by omega
    have hq1 : (R.length : Int) < (q : Int) + 1 := by omega
    rw [hwb] at gx t0 t1
    clear hwb ho hu0 hcu du hx1 ix hR hcx e hg hgrp sb hL hc hLE hqt
    go_enter Try.func73, Try.ntmps73
    go_wp2_with fail
    rw [← HWB.out]
    refine (HC.out _).mono ?_
    rintro e w1 ⟨v, rfl, f1, x1⟩
    have hx := xb.trans x1
    obtain ⟨o0, o1, o2, o3, o4, o5, o6, o7, o8, o9⟩ := HO.out.2.1.ext x1
    obtain ⟨z0, z1, z2, z3, z4, z5, z6, z7, z8, z9⟩ := HO.out.2.2.ext (by have := SB.out; omega) x1
    obtain ⟨ay, cy, rfl⟩ := f1.form
    have F := Lib.hid f1
    clear f1 x1 xb gx t0 t1
    go_wp2
    refine bodyPost_ret (v := .agg #[.int .i64 0, .int .i64 0, .int .i64 0, .int .i64 0, .int .i64 0, .int .i64 0, .int .i64 0, .int .i64 0, .int .i64 0, .slice ay L.length cy]) (by simp [results, Try.results73, go_sem, o0, o1, o2, o3, o4, o5, o6, o7, o8, o9]) rfl ⟨_, rfl, ?_, ?_⟩
    · exact ((((((((((F.out.set _ _ _ (by have := SB.out; omega)).set _ _ _ (by have := SB.out; omega)).set _ _ _ (by have := SB.out; omega)).set _ _ _ (by have := SB.out; omega)).set _ _ _ (by have := SB.out; omega)).set _ _ _ (by have := SB.out; omega)).set _ _ _ (by have := SB.out; omega)).set _ _ _ (by have := SB.out; omega)).set _ _ _ (by have := SB.out; omega)).set _ _ _ (by have := SB.out; omega)).more (by have := SB.out; omega)
    · exact (((((((((hx.setc (by dsimp only; omega)).setc (by dsimp only; omega)).setc (by dsimp only; omega)).setc (by dsimp only; omega)).setc (by dsimp only; omega)).setc (by dsimp only; omega)).setc (by dsimp only; omega)).setc (by dsimp only; omega)).setc (by dsimp only; omega)).setc (by dsimp only; omega)

end Go.Proofs.Ytihknedmkkakhaa

namespace Go.Proofs.Ytihknedmkkakhaa
open Go.RowKit
set_option linter.unusedVariables false

/-- A block of a row of noughts that may be written. -/
structure OpenRow (w : World) (b : Nat) : Prop where
  row : RowAt w b zeroR (.slice none 0 0)
  free : FreeAt w b
  lt : b < w.heap.size
theorem OpenRow.ext {w w' : World} {b : Nat} (h : OpenRow w b) (e : Ext w w') : OpenRow w' b := ⟨h.row.ext e, h.free.ext h.lt e, Nat.lt_of_lt_of_le h.lt e.size⟩
theorem openRow_new (w : World) (T : TypeId) : OpenRow (w.alloc (.cells #[.int .i64 0, .int .i64 0, .int .i64 0, .int .i64 0, .int .i64 0, .int .i64 0, .int .i64 0, .int .i64 0, .int .i64 0, .slice none 0 0] T)) w.heap.size := by
  refine ⟨rowAt_new w T zeroR _, ⟨?_, ?_, ?_, ?_, ?_, ?_, ?_, ?_, ?_, ?_⟩, by simp⟩ <;> go_simp

abbrev put10 (W : World) (b : Nat) (d : RowD) (u : Value) : World :=
  (((((((((W.setCell ⟨b, 0, none⟩ (.int .i64 d.b)).setCell ⟨b, 1, none⟩ (.int .i64 d.v)).setCell ⟨b, 2, none⟩ (.int .i64 d.st)).setCell ⟨b, 3, none⟩ (.int .i64 d.k)).setCell ⟨b, 4, none⟩ (.int .i64 d.i)).setCell ⟨b, 5, none⟩ (.int .i64 d.f)).setCell ⟨b, 6, none⟩ (.int .i64 d.t)).setCell ⟨b, 7, none⟩ (.int .i64 d.a)).setCell ⟨b, 8, none⟩ (.int .i64 d.s)).setCell ⟨b, 9, none⟩ u

set_option maxHeartbeats 4000000 in
theorem put10_row {W : World} {b : Nat} {d : RowD} {u : Value} (h : OpenRow W b) : RowAt (put10 W b d u) b d u := by
  obtain ⟨o0, o1, o2, o3, o4, o5, o6, o7, o8, o9⟩ := h.row
  unfold put10
  refine ⟨?_, ?_, ?_, ?_, ?_, ?_, ?_, ?_, ?_, ?_⟩ <;> simp [go_sem, o0, o1, o2, o3, o4, o5, o6, o7, o8, o9]
theorem put10_fresh {W : World} {b B : Nat} {d : RowD} {u : Value} {l : List Int} (h : Fresh B W u l) (hb : b < B) : Fresh B (put10 W b d u) u l := by
  unfold put10
  exact (((((((((h.set _ _ _ hb).set _ _ _ hb).set _ _ _ hb).set _ _ _ hb).set _ _ _ hb).set _ _ _ hb).set _ _ _ hb).set _ _ _ hb).set _ _ _ hb).set _ _ _ hb
theorem put10_ext {W w0 : World} {b : Nat} {d : RowD} {u : Value} (h : Ext w0 W) (hb : w0.heap.size ≤ b) : Ext w0 (put10 W b d u) := by
  unfold put10
  exact (((((((((h.setc hb).setc hb).setc hb).setc hb).setc hb).setc hb).setc hb).setc hb).setc hb).setc hb

end Go.Proofs.Ytihknedmkkakhaa

namespace Go.Proofs.Ytihknedmkkakhaa
open Go.RowKit Go.Maps
set_option linter.unusedVariables false

theorem two_of {n : Nat} (h : 1 ≤ n) : ∃ d, n + 1 = d + 2 := ⟨n - 1, by omega⟩
/-- What an instance reads as, as a key. -/
def kl (a b : Int) : Lit := .string (keyBytes [.int .i64 a, .int .i64 b])
def instV (a b : Int) : Value := .agg #[.int .i64 a, .int .i64 b]
set_option maxRecDepth 100000
theorem instWide : (match Try.prog.underlying 101 with | some (.array _ _) | some (.struct _) => true | _ => false) = true := by kernel_rfl
theorem instKeyed : Keyed Try.prog 101 :=
  Keyed.of_law (deep_law_laid (by kernel_rfl) (m := 2) (by omega) (of_decide_eq_true (by kernel_rfl)) (by kernel_rfl) instWide)

theorem instType : Try.prog.keyType 101 = true := by kernel_rfl
theorem lits_int {d : Nat} {a : Int} (ha : wf64 a) : Try.prog.keyLits (d + 1) 3 [.int .i64 a] = some [.int .i64 a] := by
  unfold Program.keyLits
  rw [Try.underlying3]
  unfold wf64 at ha
  simp [ha]
theorem lits_int_inv {d : Nat} {v : Value} {L : List Lit} (h : Try.prog.keyLits (d + 1) 3 [v] = some L) : ∃ a, v = .int .i64 a ∧ wf64 a ∧ L = [.int .i64 a] := by
  unfold Program.keyLits at h
  rw [Try.underlying3] at h
  cases v <;> simp at h
  obtain ⟨⟨rfl, hw⟩, rfl⟩ := h
  exact ⟨_, rfl, hw, rfl⟩
theorem cellsInst : Try.prog.cellsOf 101 = 2 := by kernel_rfl
theorem cellsInt : Try.prog.cellsOf 3 = 1 := by kernel_rfl
theorem lits_inst {d : Nat} {a b : Int} (ha : wf64 a) (hb : wf64 b) : Try.prog.keyLits (d + 2) 101 [.int .i64 a, .int .i64 b] = some [.int .i64 a, .int .i64 b] := by
  unfold Program.keyLits
  rw [Try.underlying101]
  simp [cellsInst, cellsInt, lits_int ha, lits_int hb]
theorem keyOf_inst {a b : Int} (ha : wf64 a) (hb : wf64 b) : keyOf Try.prog 101 (instV a b) = some (kl a b) := by
  unfold keyOf
  rw [Try.underlying101]
  have hf : Value.formed Try.prog 101 (instV a b) = true := by
    unfold Value.formed instV
    simp [Try.underlying101, cellsInst]
  obtain ⟨d, hd⟩ : ∃ d, Try.prog.types.size + 1 = d + 2 := two_of (of_decide_eq_true (by kernel_rfl))
  simp only [instType, hf, Bool.and_self, if_true, hd]
  unfold instV
  simp only [Value.cells]
  rw [lits_inst ha hb]
  rfl
theorem keyOf_inst_inv {v : Value} {l : Lit} (h : keyOf Try.prog 101 v = some l) : ∃ a b, v = instV a b ∧ l = kl a b ∧ wf64 a ∧ wf64 b := by
  obtain ⟨xs, L, rfl, hL, rfl⟩ := keyOf_top instWide h
  obtain ⟨d, hd⟩ : ∃ d, Try.prog.types.size + 1 = d + 2 := two_of (of_decide_eq_true (by kernel_rfl))
  rw [hd] at hL
  unfold Program.keyLits at hL
  rw [Try.underlying101] at hL
  simp only [cellsInst] at hL
  split at hL
  · rename_i hc
    obtain ⟨x, y, hxy⟩ : ∃ x y, xs.toList = [x, y] := by
      match h : xs.toList with
      | [x, y] => exact ⟨x, y, rfl⟩
      | [] => simp [h] at hc
      | [_] => simp [h] at hc
      | _ :: _ :: _ :: _ => simp [h] at hc
    rw [hxy] at hL
    cases h1 : Try.prog.keyLits (d + 1) 3 [x] with
    | none => simp [cellsInt, h1] at hL
    | some A =>
      cases h2 : Try.prog.keyLits (d + 1) 3 [y] with
      | none => simp [cellsInt, h1, h2] at hL
      | some B =>
        simp [cellsInt, h1, h2] at hL
        obtain ⟨a, rfl, wa, rfl⟩ := lits_int_inv h1
        obtain ⟨b, rfl, wb, rfl⟩ := lits_int_inv h2
        refine ⟨a, b, ?_, ?_, wa, wb⟩
        · unfold instV
          rw [← Array.toArray_toList (xs := xs), hxy]
        · subst hL
          rfl
  · cases hL
theorem kl_inj {a b c d : Int} (ha : wf64 a) (hb : wf64 b) (hc : wf64 c) (hd : wf64 d) (h : kl a b = kl c d) : a = c ∧ b = d := by
  have e := instKeyed.inj (keyOf_inst ha hb) (h ▸ keyOf_inst hc hd)
  unfold instV at e
  simpa using e

end Go.Proofs.Ytihknedmkkakhaa

namespace Go.Proofs.Ytihknedmkkakhaa
open Go.RowKit
set_option linter.unusedVariables false

/-- Two slices of two element types lie in two blocks. -/
theorem types_apart {w : World} {B B' e e' sz sz' n m : Nat} {v u : Value} {xs ys : List Value} (h : w.ownsRow B e sz v n xs) (k : w.ownsRow B' e' sz' u m ys) (hne : e ≠ e') : u.ownBlock = none ∨ u.ownBlock ≠ v.ownBlock := by
  rcases k.2 with ⟨rfl, _⟩ | ⟨g', cap', cur', rfl, _, hg', _⟩
  · exact .inl rfl
  · refine .inr fun hb => ?_
    rcases h.2 with ⟨rfl, _⟩ | ⟨g, cap, cur, rfl, _, hg, _⟩
    · simp [Value.ownBlock] at hb
    · simp [Value.ownBlock] at hb
      subst hb
      rw [hg] at hg'
      simp at hg'
      exact hne hg'.2
theorem FreshSS.of {B : Nat} {w : World} {v : Value} {L : List (List Int)} {vs : List Value} (h : w.ownsRow B 30 1 v L.length vs) (r : Rows_ B w vs L) : FreshSS B w v L :=
  ⟨vs, h, r, fun j u hu => by
    have hj : j < vs.length := (List.getElem?_eq_some_iff.1 hu).1
    exact types_apart h (r.row j u _ hu (List.getElem?_eq_getElem (by rw [← r.len]; exact hj))) (by decide)⟩
theorem FreshSS.form {B : Nat} {w : World} {v : Value} {L : List (List Int)} (h : FreshSS B w v L) : ∃ ao cap, v = .slice ao L.length cap := by
  obtain ⟨ao, cap, hv, _⟩ := h.intss
  exact ⟨ao, cap, hv⟩

theorem wpList_pushSS {ops : Array Oper} {rest : List Oper} {o : Oper} {a : Act} {Q : Exit → Act → World → Prop} {w : World} (hgd : o.guard = none) (s x : Operand)
    (ho : o.op = .call { callee := .builtin .append, args := #[s, x], argTypes := #[24, 24] })
    (B : Nat) (v : Value) (L : List (List Int)) (l : List Int) (w0 : World) (hs : a.eval s = v) (hf : FreshSS B w0 v L) (e : Ext w0 w) (u : Value) (hu : Fresh w0.heap.size w u l) (ad : Addr) (c : Nat) (hx : a.eval x = .slice (some ad) 1 c)
    (hc : w.cell? ad = some u) (h1 : u.oneCell' = true) (hl : L.length ≤ 1048576) (hB : B ≤ w0.heap.size)
    (h : ∀ v' w', FreshSS B w' v' (L ++ [l]) → Kept B w w' → wpList Try.prog ops Q rest (a.put o.dst v') w') : wpList Try.prog ops Q (o :: rest) a w := by
  obtain ⟨i0, hi, hz0, hz1, hz2⟩ := info_parts Try.infoInts
  obtain ⟨vs, h1r, h2r, _⟩ := hf
  have ho1 := e.ownsRow h1r
  have hR := h2r.snoc e hu hB
  refine wpList_append_own _ hgd s x 24 ho B 30 i0 (.slice none 0 0) 1 24 Try.underlying24 hi hz0 hz1 hz2 rfl (by decide) v L.length _ hs ho1 ad 1 c [u] hx rfl ?_ ?_ ?_ ?_ (Nat.le_trans hB e.size) ?_
  · intro j z hj
    match j, hj with
    | 0, hj => simp at hj; subst hj; simpa [Addr.add] using hc
  · intro z hz; simp at hz; subst hz; exact h1
  · unfold maxLen; omega
  · omega
  · intro v' w' ho' hg _
    have hRt : Rows_ B w' (vs ++ [u]) (L ++ [l]) := hR.touch hg (fun j z hz => by
      have hj : j < (vs ++ [u]).length := (List.getElem?_eq_some_iff.1 hz).1
      exact types_apart ho1 (hR.row j z _ hz (List.getElem?_eq_getElem (by rw [← hR.len]; exact hj))) (by decide))
    refine h v' w' (FreshSS.of (by simpa using ho') hRt) (fun q hq hqB => Below.grown hq hg hq.size (fun b hb => Nat.le_trans hqB (World.ownsRow.lt ho1 b hb).1))

end Go.Proofs.Ytihknedmkkakhaa

namespace Go.Proofs.Ytihknedmkkakhaa
open Go.RowKit
set_option linter.unusedVariables false

def comAt (k : Nat) (R : List RowD) (i : Nat) : List (List Int) := match R[i]? with
  | some r => if r.st == 3 then [[(k : Int), (i : Int) + 1]] else []
  | none => []
/-- What is settled among the first j rows of the list of k, among the first k lists. -/
def comTo (k : Nat) (R : List RowD) (j : Nat) : List (List Int) := (List.range j).flatMap (comAt k R)
def allTo (T : List (List RowD)) (k : Nat) : List (List Int) := (List.range k).flatMap fun p => comTo p (T[p]?.getD []) (T[p]?.getD []).length
theorem comTo_succ (k : Nat) (R : List RowD) (j : Nat) : comTo k R (j + 1) = comTo k R j ++ comAt k R j := by simp [comTo, List.range_succ]
theorem comTo_zero (k : Nat) (R : List RowD) : comTo k R 0 = [] := by simp [comTo]
theorem comAt_yes {k : Nat} {R : List RowD} {j : Nat} (h : j < R.length) (hs : (R[j].st == 3) = true) : comAt k R j = [[(k : Int), (j : Int) + 1]] := by simp [comAt, List.getElem?_eq_getElem h, hs]
theorem comAt_no {k : Nat} {R : List RowD} {j : Nat} (h : j < R.length) (hs : (R[j].st == 3) = false) : comAt k R j = [] := by simp [comAt, List.getElem?_eq_getElem h, hs]
theorem allTo_succ {T : List (List RowD)} {k : Nat} (h : k < T.length) : allTo T (k + 1) = allTo T k ++ comTo k T[k] T[k].length := by simp [allTo, List.range_succ, List.getElem?_eq_getElem h]
theorem allTo_zero (T : List (List RowD)) : allTo T 0 = [] := by simp [allTo]
theorem comAt_len (k : Nat) (R : List RowD) (i : Nat) : (comAt k R i).length ≤ 1 := by
  unfold comAt
  split
  · split <;> simp
  · simp
theorem comTo_len (k : Nat) (R : List RowD) (j : Nat) : (comTo k R j).length ≤ j := by
  induction j with
  | zero => simp [comTo]
  | succ j ih =>
    rw [comTo_succ, List.length_append]
    have := comAt_len k R j
    omega
theorem allTo_len {T : List (List RowD)} (hT : ∀ R ∈ T, R.length ≤ 6) (k : Nat) (hk : k ≤ T.length) : (allTo T k).length ≤ 6 * k := by
  induction k with
  | zero => simp [allTo]
  | succ k ih =>
    have h : k < T.length := by omega
    rw [allTo_succ h, List.length_append]
    have h1 := ih (by omega)
    have h2 := comTo_len k T[k] T[k].length
    have h3 := hT _ (List.getElem_mem h)
    omega
/-- What Committed tells. -/
def comR (n : Int) (T : List (List RowD)) : List (List Int) := if goodTab n T then allTo T T.length else []
theorem comR_no {n : Int} {T : List (List RowD)} (h : goodTab n T = false) : comR n T = [] := by unfold comR; rw [h]; rfl
theorem comR_yes {n : Int} {T : List (List RowD)} (h : goodTab n T = true) : comR n T = allTo T T.length := by unfold comR; rw [h]; rfl

theorem fresh_pair (w : World) (o : Obj) (a b : Int) (o' : Obj) : Fresh w.heap.size (((w.alloc o).alloc (.cells #[.int .i64 a, .int .i64 b] 3)).alloc o') (.slice (some ⟨w.heap.size + 1, 0, none⟩) 2 2) [a, b] :=
  (fresh_lit2 w o [a, b] 2 #[.int .i64 a, .int .i64 b] rfl rfl (by simp)).ext (Ext.alloc1 _ _)
theorem cell_alloc_three (w : World) (a b : Obj) (x : Value) (T : TypeId) : (((w.alloc a).alloc b).alloc (.cells #[x] T)).cell? ⟨w.heap.size + 1 + 1, 0, none⟩ = some x := by go_simp

set_option maxHeartbeats 4000000 in
set_option maxRecDepth 100000 in
theorem l4Committed_any (n : Int) (u : Value) (T : List (List RowD)) (w : World) (hu : Rowzz w u T) (hT : T.length ≤ 5) (hR6 : ∀ R ∈ T, R.length ≤ 6) :
    Calls Try.prog 102 #[.agg #[.int .i64 n, u]] w (NewIntss (allTo T T.length) w) := by
  obtain ⟨au, cu, rfl, hlu, _, hcu⟩ := hu
  unfold maxLen at hlu
  have xb : Ext w (w.alloc (.cells #[.int .i64 n, .slice au T.length cu] 48)) := Ext.alloc1 _ _
  have H6 := Lib.hid hR6
  clear hR6
  go_enter Try.func102, Try.ntmps102
  go_wp2
  go_loopw [3, 11] (fun o i wr => ∃ k : Nat, k ≤ T.length ∧ i = .int .i64 k ∧ FreshSS w.heap.size wr o (allTo T k) ∧ Ext w wr) (fun _ i _ => T.length - (intOf i).toNat)
  case atStart => exact ⟨0, Nat.zero_le _, rfl, by rw [allTo_zero]; exact FreshSS.nil _ _, xb⟩
  case round =>
    obtain ⟨k, hk, rfl, hF, hx⟩ := hrel
    by_cases hlt : k < T.length
    · obtain ⟨bu, ou, rfl, du⟩ := hcu (by omega)
      obtain ⟨x, hx1, ix⟩ := du k hlt
      have gu := hx.cell hx1
      obtain ⟨R, hR⟩ : ∃ R, R = T[k] := ⟨_, rfl⟩
      rw [← hR] at ix
      have hl6 : R.length ≤ 6 := by rw [hR]; exact H6.out _ (List.getElem_mem hlt)
      have hal := allTo_len H6.out k (by omega)
      obtain ⟨ax, cx, rfl, hlx, _, hcx⟩ := ix
      unfold maxLen at hlx
      have HR := Lib.hid hR
      have HF0 := Lib.hid hF
      have HAL := Lib.hid hal
      clear hcu du hx1 hR hF hal
      obtain ⟨wo, hwo⟩ : ∃ wo : World, wo = wr := ⟨_, rfl⟩
      subst hwo
      go_wp2
      go_loopw [3, 18] (fun o i wr => ∃ j : Nat, j ≤ R.length ∧ i = .int .i64 j ∧ FreshSS w.heap.size wr o (allTo T k ++ comTo k R j) ∧ Ext w wr) (fun _ i _ => R.length - (intOf i).toNat)
      case atStart => exact ⟨0, Nat.zero_le _, rfl, by rw [comTo_zero, List.append_nil]; exact HF0.out, hx⟩
      case round =>
        obtain ⟨j, hj, rfl, hG, hy⟩ := hrel
        by_cases hjt : j < R.length
        · obtain ⟨bx, ox, rfl, dx⟩ := hcx (by omega)
          obtain ⟨y, hy1, iy⟩ := dx j hjt
          obtain ⟨d, hd⟩ : ∃ d, d = R[j] := ⟨_, rfl⟩
          rw [← hd] at hy1 iy
          have gy := hy1.ext hy
          obtain ⟨ay, cy, rfl, _⟩ := iy.ext hy
          have hcl := comTo_len k R j
          have hll : (allTo T k ++ comTo k R j).length ≤ 1048576 := by rw [List.length_append]; have := HAL.out; omega
          have HLL := Lib.hid hll
          have HD := Lib.hid hd
          have HG := Lib.hid hG
          clear hcx dx hy1 iy hd hG hcl hll
          obtain ⟨wp, hwp⟩ : ∃ wp : World, wp = wr := ⟨_, rfl⟩
          subst hwp
          obtain ⟨g0, g1, g2, g3, g4, g5, g6, g7, g8, g9⟩ := gy
          cases hst : (d.st == 3) with
          | false =>
            have hno : comAt k R j = [] := comAt_no hjt (by rw [← HD.out]; exact hst)
            have HNO := Lib.hid hno
            clear hno
            go_wp2
            go_roundw
            case rel => exact ⟨j + 1, by omega, by go_num, by rw [comTo_succ, HNO.out, List.append_nil]; exact HG.out.ext (Ext.alloc1 _ _), hy.alloc _⟩
            case measure => simp [intOf]; omega
          | true =>
            have hyes : comAt k R j = [[(k : Int), (j : Int) + 1]] := comAt_yes hjt (by rw [← HD.out]; exact hst)
            have HYES := Lib.hid hyes
            clear hyes
            have HBB := Lib.hid hy.size
            go_wp2_with (at_builtin; refine wpList_pushSS rfl _ _ rfl w.heap.size _ (allTo T k ++ comTo k R j) [(k : Int), (j : Int) + 1] wp rfl HG.out (Ext.alloc3 _ _ _ _) _ (fresh_pair _ _ _ _ _) ⟨wp.heap.size + 1 + 1, 0, none⟩ 1 rfl (cell_alloc_three _ _ _ _ _) rfl HLL.out HBB.out ?_)
            intro v' w' f' k'
            have hz : Ext w w' := k' w (hy.trans (Ext.alloc3 _ _ _ _)) (Nat.le_refl _)
            have FF := Lib.hid f'
            clear f' k' g0 g1 g2 g3 g4 g5 g6 g7 g8 g9
            go_wp2
            go_roundw
            case rel => exact ⟨j + 1, by omega, by go_num, by rw [comTo_succ, HYES.out]; exact FF.out, hz⟩
            case measure => simp [intOf]; omega
        · obtain rfl : j = R.length := by omega
          have HG := Lib.hid hG
          clear hG
          go_wp2
          go_roundw
          case rel => exact ⟨k + 1, by omega, by go_num, by rw [allTo_succ hlt, ← HR.out]; exact HG.out, hy⟩
          case measure => simp [intOf]; omega
    · obtain rfl : k = T.length := by omega
      have HF := Lib.hid hF
      clear hF
      go_wp2
      go_ret
      exact ⟨_, rfl, HF.out, hx⟩

end Go.Proofs.Ytihknedmkkakhaa
