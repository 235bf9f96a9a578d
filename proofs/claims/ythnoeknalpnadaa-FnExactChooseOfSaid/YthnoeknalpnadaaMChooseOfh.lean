/- Texts of this proof, part h: words, plain facts, contracts. -/
import Derived.Test.YthnoeknalpnadaaMChooseOff
import Derived.Test.YthnoeknalpnadaaMChooseOfb
import Derived.Test.YthnoeknalpnadaaMChooseOfe
import Derived.Test.YthnoeknalpnadaaMChooseOfg

namespace Go.Proofs.Ythnoeknalpnadaa
open Go.RowKit
set_option linter.unusedVariables false

set_option maxHeartbeats 2000000 in
theorem areGoodRows_any (n : Int) (u : Value) (R : List RowD) (w : World) (hu : Rowz w u R) (hs : bulkR R ≤ 1099511627776) (hg : isGrp n = true) :
    Calls Try.prog 153 #[.int .i64 n, u] w (BoolExt (goodList n R) w) := by
  obtain ⟨au, cu, rfl, hlu, _, hcu⟩ := hu
  unfold maxLen at hlu
  have HG := Lib.hid hg
  have HS := Lib.hid hs
  clear hg hs
  by_cases h6 : 6 < R.length
  · rw [goodList_long h6]
    clear hcu
    go_enter Try.func153, Try.ntmps153
    go_wp2
    go_ret
    exact ⟨rfl, Ext.refl _⟩
  · have h6' : R.length ≤ 6 := by omega
    rw [goodList_all h6']
    clear h6
    go_enter Try.func153, Try.ntmps153
    go_wp2
    go_loopw [12] (fun i wr => ∃ j : Nat, j ≤ R.length ∧ i = .int .i64 j ∧ Hid ((R.take j).all (goodRow n) = true) ∧ Ext w wr) (fun i _ => R.length - (intOf i).toNat)
    case atStart => exact ⟨0, Nat.zero_le _, rfl, Lib.hid (by simp), Ext.refl _⟩
    case round =>
      obtain ⟨j, hj, rfl, HT, hy⟩ := hrel
      by_cases hjt : j < R.length
      · obtain ⟨bx, ox, rfl, dx⟩ := hcu (by omega)
        obtain ⟨y, hy1, iy⟩ := dx j hjt
        obtain ⟨d, hd⟩ : ∃ d, d = R[j] := ⟨_, rfl⟩
        rw [← hd] at hy1 iy
        have hsz : d.l.length ≤ 1099511627776 := by rw [hd]; have := bulkR_row hjt; have := HS.out; omega
        have gy := hy1.ext hy
        have iy2 := iy.ext hy
        obtain ⟨ay, cy, rfl, _⟩ := id iy2
        have IY := Lib.hid iy2
        have HD := Lib.hid hd
        clear hcu dx hy1 iy iy2 hd
        obtain ⟨wp, hwp⟩ : ∃ wp : World, wp = wr := ⟨_, rfl⟩
        subst hwp
        obtain ⟨g0, g1, g2, g3, g4, g5, g6, g7, g8, g9⟩ := gy
        go_wp2_with fail
        cases hq : goodRow n d with
        | false =>
          have HQ := Lib.hid hq
          clear hq
          refine (isGoodRow_any n d _ _ (IY.out.ext (Ext.alloc1 _ _)) hsz HG.out).mono ?_
          rintro e w3 ⟨rfl, x3⟩
          have hz := (hy.trans (Ext.alloc1 _ _)).trans x3
          clear x3 g0 g1 g2 g3 g4 g5 g6 g7 g8 g9
          rw [HQ.out]
          go_wp2
          go_ret
          refine ⟨?_, hz⟩
          have h1 : R.all (goodRow n) = false := allx_false_at hjt _ (by rw [← HD.out]; exact HQ.out)
          rw [h1]; rfl
        | true =>
          have HQ := Lib.hid hq
          clear hq
          refine (isGoodRow_any n d _ _ (IY.out.ext (Ext.alloc1 _ _)) hsz HG.out).mono ?_
          rintro e w3 ⟨rfl, x3⟩
          have hz := (hy.trans (Ext.alloc1 _ _)).trans x3
          clear x3 g0 g1 g2 g3 g4 g5 g6 g7 g8 g9
          rw [HQ.out]
          go_wp2
          go_roundw
          case rel => exact ⟨j + 1, by omega, by go_num, Lib.hid (allx_take_succ hjt _ HT.out (by rw [← HD.out]; exact HQ.out)), hz⟩
          case measure => simp [intOf]; omega
      · obtain rfl : j = R.length := by omega
        go_wp2
        go_ret
        refine ⟨?_, hy⟩
        have hfull : R.all (goodRow n) = true := by have h := HT.out; rwa [List.take_length] at h
        rw [hfull]; rfl

set_option maxHeartbeats 4000000 in
theorem implGoodTable_any (n : Int) (u : Value) (T : List (List RowD)) (w : World) (hu : Rowzz w u T) (hs : bulkT T ≤ 1099511627776) :
    Calls Try.prog 96 #[.agg #[.int .i64 n, u]] w (BoolExt (goodTab n T) w) := by
  obtain ⟨au, cu, rfl, hlu, _, hcu⟩ := hu
  unfold maxLen at hlu
  have HSZ := Lib.hid hs
  clear hs
  cases hg : isGrp n with
  | false =>
    rw [goodTab_grp hg]
    have HG := Lib.hid hg
    clear hg hcu
    go_enter Try.func96, Try.ntmps96
    go_wp2_with fail
    refine (implIsGroup_any _ _).mono ?_
    rintro e w' ⟨rfl, rfl⟩
    rw [HG.out]
    go_wp2
    go_ret
    exact ⟨rfl, Ext.alloc1 _ _⟩
  | true =>
    have HG := Lib.hid hg
    by_cases hl : (T.length : Int) = n
    · rw [goodTab_all hg hl]
      have e0 : ((T.length : Int) != n) = false := by simp [hl]
      have HL := Lib.hid hl
      obtain ⟨wb, hwb⟩ : ∃ wb, wb = w.alloc (.cells #[.int .i64 n, .slice au T.length cu] 24) := ⟨_, rfl⟩
      have hb := attrAt_new w 24 n (.slice au T.length cu)
      rw [← hwb] at hb
      have xb : Ext w wb := by rw [hwb]; exact Ext.alloc1 _ _
      have HWB := Lib.hid hwb
      have HBB := Lib.hid hb
      clear hg hl hwb hb
      go_enter Try.func96, Try.ntmps96
      go_wp2_with fail
      refine (implIsGroup_any _ _).mono ?_
      rintro e w' ⟨rfl, rfl⟩
      rw [HG.out]
      go_wp2
      rw [← HWB.out]
      go_loopw [20] (fun i wr => ∃ k : Nat, k ≤ T.length ∧ i = .int .i64 k ∧ Hid ((T.take k).all (goodList n) = true) ∧ Ext wb wr) (fun i _ => T.length - (intOf i).toNat)
      case atStart => exact ⟨0, Nat.zero_le _, rfl, Lib.hid (by simp), Ext.refl _⟩
      case round =>
        obtain ⟨k, hk, rfl, HT, hx⟩ := hrel
        by_cases hlt : k < T.length
        · obtain ⟨bu, ou, rfl, du⟩ := hcu (by omega)
          obtain ⟨x, hx1, ix⟩ := du k hlt
          have gu := (xb.trans hx).cell hx1
          have gn := hx.cell HBB.out.1
          obtain ⟨R, hR⟩ : ∃ R, R = T[k] := ⟨_, rfl⟩
          rw [← hR] at ix
          have hsz : bulkR R ≤ 1099511627776 := by rw [hR]; have := bulkT_row hlt; have := HSZ.out; omega
          have IX := Lib.hid (ix.ext (xb.trans hx))
          have HR := Lib.hid hR
          clear hcu du hx1 ix hR
          obtain ⟨wo, hwo⟩ : ∃ wo : World, wo = wr := ⟨_, rfl⟩
          subst hwo
          go_wp2_with fail
          cases hq : goodList n R with
          | false =>
            have HQ := Lib.hid hq
            clear hq
            refine (areGoodRows_any n _ R _ IX.out hsz HG.out).mono ?_
            rintro e w3 ⟨rfl, x3⟩
            have hz := xb.trans (hx.trans x3)
            clear x3 gn gu
            rw [HQ.out]
            go_wp2
            go_ret
            refine ⟨?_, hz⟩
            have h2 : T.all (goodList n) = false := allx_false_at hlt _ (by rw [← HR.out]; exact HQ.out)
            rw [h2]; rfl
          | true =>
            have HQ := Lib.hid hq
            clear hq
            refine (areGoodRows_any n _ R _ IX.out hsz HG.out).mono ?_
            rintro e w3 ⟨rfl, x3⟩
            have hz := hx.trans x3
            clear x3 gn gu
            rw [HQ.out]
            go_wp2
            go_roundw
            case rel => exact ⟨k + 1, by omega, by go_num, Lib.hid (allx_take_succ hlt _ HT.out (by rw [← HR.out]; exact HQ.out)), hz⟩
            case measure => simp [intOf]; omega
        · obtain rfl : k = T.length := by omega
          go_wp2
          go_ret
          refine ⟨?_, xb.trans hx⟩
          have h2 : T.all (goodList n) = true := by have h := HT.out; rwa [List.take_length] at h
          rw [h2]; rfl
    · rw [goodTab_len hl]
      have e0 : ((T.length : Int) != n) = true := by simp [hl]
      clear hg hcu hl
      go_enter Try.func96, Try.ntmps96
      go_wp2_with fail
      refine (implIsGroup_any _ _).mono ?_
      rintro e w' ⟨rfl, rfl⟩
      rw [HG.out]
      go_wp2
      go_ret
      exact ⟨rfl, Ext.alloc1 _ _⟩

end Go.Proofs.Ythnoeknalpnadaa

namespace Go.Proofs.Ythnoeknalpnadaa
open Go.RowKit
set_option linter.unusedVariables false

set_option maxHeartbeats 1000000 in
theorem l1Own_any (u : Value) (l : List Int) (w : World) (hu : Ints w u l) (hl : l.length ≤ 1048576) :
    Calls Try.prog 172 #[u] w (NewInts l w) := by
  have hb1 : ([] : List Int).length + l.length ≤ 1099511627776 := by simp; omega
  have HB := Lib.hid hb1
  have HU := Lib.hid hu
  clear hb1 hu hl
  go_enter Try.func172, Try.ntmps172
  go_wp2_with (at_builtin; refine wpList_join rfl _ _ rfl w.heap.size _ _ [] l rfl (fresh_lit w [] #[] _ rfl (Nat.le_refl _) (Nat.zero_le _)) rfl (HU.out.ext (Ext.alloc (Ext.refl _) _)) HB.out (size_alloc_le (Nat.le_refl _)) ?_)
  intro v1 w1 f1 g1 k1
  have e1' : Ext w w1 := k1 w (Ext.alloc (Ext.refl _) _) (Nat.le_refl _)
  clear g1 k1
  go_wp2
  go_ret
  exact ⟨_, rfl, by simpa using f1, e1'⟩

theorem box_res (w : World) (s : Int) (u : Value) (T : TypeId) :
    AttrAt ((w.alloc (.cells #[.int .i64 s, u] T)).alloc (.cells #[.int .i64 0, .slice none 0 0] T)) w.heap.size s u ∧ OpenAt ((w.alloc (.cells #[.int .i64 s, u] T)).alloc (.cells #[.int .i64 0, .slice none 0 0] T)) (w.heap.size + 1) 0 (.slice none 0 0) := by
  refine ⟨⟨?_, ?_⟩, ⟨?_, ?_⟩, ?_, ?_⟩ <;> go_simp

set_option maxHeartbeats 2000000 in
theorem l4OwnAttr_any (s : Int) (u : Value) (l : List Int) (w : World) (hu : Ints w u l) (hl : l.length ≤ 1048576) :
    Calls Try.prog 144 #[.agg #[.int .i64 s, u]] w (NewAttr s l w) := by
  have HL := Lib.hid hl
  have HU := Lib.hid hu
  have HO := Lib.hid (box_res w s u 39)
  clear hl hu
  go_enter Try.func144, Try.ntmps144
  go_wp2_with fail
  go_region_with (go_at_call 172; refine (l1Own_any _ l _ (HU.out.ext (by repeat (first | exact Ext.refl _ | apply Ext.drew | apply Ext.alloc))) HL.out).mono ?_; rintro e W ⟨z, rfl, f9, x9⟩; obtain ⟨az, cz, rfl⟩ := f9.form; obtain ⟨b0, b1⟩ := HO.out.1.ext ((Ext.drew (Ext.refl _)).trans x9); obtain ⟨⟨c0, c1⟩, z0, z1⟩ := HO.out.2.ext ((Ext.drew (Ext.refl _)).trans x9))
  all_goals
    have F9 := Lib.hid f9
    have X9 := Lib.hid x9
    clear f9 x9 b0 b1
    go_wp2
    refine bodyPost_ret (v := .agg #[.int .i64 s, .slice az l.length cz]) (by simp [results, Try.results144, go_sem, c0, c1]) rfl ⟨_, rfl, ?_, ?_⟩
    · exact ((F9.out.set _ _ _ (by simp)).set _ _ _ (by simp)).more (by simp; omega)
    · exact (((((Ext.refl w).alloc _).alloc _).trans ((Ext.drew (Ext.refl _)).trans X9.out)).setc (by simp)).setc (by simp)

theorem box_res_row (w : World) (r : RowD) (u : Value) (T : TypeId) :
    (RowAt ((w.alloc (.cells #[.int .i64 r.b, .int .i64 r.v, .int .i64 r.st, .int .i64 r.k, .int .i64 r.i, .int .i64 r.f, .int .i64 r.t, .int .i64 r.a, .int .i64 r.s, u] T)).alloc (.cells #[.int .i64 0, .int .i64 0, .int .i64 0, .int .i64 0, .int .i64 0, .int .i64 0, .int .i64 0, .int .i64 0, .int .i64 0, .slice none 0 0] T)) w.heap.size r u ∧
      FreeAt ((w.alloc (.cells #[.int .i64 r.b, .int .i64 r.v, .int .i64 r.st, .int .i64 r.k, .int .i64 r.i, .int .i64 r.f, .int .i64 r.t, .int .i64 r.a, .int .i64 r.s, u] T)).alloc (.cells #[.int .i64 0, .int .i64 0, .int .i64 0, .int .i64 0, .int .i64 0, .int .i64 0, .int .i64 0, .int .i64 0, .int .i64 0, .slice none 0 0] T)) w.heap.size) ∧
    (RowAt ((w.alloc (.cells #[.int .i64 r.b, .int .i64 r.v, .int .i64 r.st, .int .i64 r.k, .int .i64 r.i, .int .i64 r.f, .int .i64 r.t, .int .i64 r.a, .int .i64 r.s, u] T)).alloc (.cells #[.int .i64 0, .int .i64 0, .int .i64 0, .int .i64 0, .int .i64 0, .int .i64 0, .int .i64 0, .int .i64 0, .int .i64 0, .slice none 0 0] T)) (w.heap.size + 1) zeroR (.slice none 0 0) ∧
      FreeAt ((w.alloc (.cells #[.int .i64 r.b, .int .i64 r.v, .int .i64 r.st, .int .i64 r.k, .int .i64 r.i, .int .i64 r.f, .int .i64 r.t, .int .i64 r.a, .int .i64 r.s, u] T)).alloc (.cells #[.int .i64 0, .int .i64 0, .int .i64 0, .int .i64 0, .int .i64 0, .int .i64 0, .int .i64 0, .int .i64 0, .int .i64 0, .slice none 0 0] T)) (w.heap.size + 1)) := by
  refine ⟨⟨⟨?_, ?_, ?_, ?_, ?_, ?_, ?_, ?_, ?_, ?_⟩, ⟨?_, ?_, ?_, ?_, ?_, ?_, ?_, ?_, ?_, ?_⟩⟩, ⟨⟨?_, ?_, ?_, ?_, ?_, ?_, ?_, ?_, ?_, ?_⟩, ⟨?_, ?_, ?_, ?_, ?_, ?_, ?_, ?_, ?_, ?_⟩⟩⟩ <;> go_simp <;> rfl

set_option maxHeartbeats 2000000 in
set_option maxRecDepth 100000 in
theorem l4OwnRow_any (r : RowD) (u : Value) (w : World) (hu : Ints w u r.l) (hl : r.l.length ≤ 1048576) :
    Calls Try.prog 158 #[.agg #[.int .i64 r.b, .int .i64 r.v, .int .i64 r.st, .int .i64 r.k, .int .i64 r.i, .int .i64 r.f, .int .i64 r.t, .int .i64 r.a, .int .i64 r.s, u]] w (NewRow r w) := by
  have HL := Lib.hid hl
  obtain ⟨wb, hwb⟩ : ∃ wb, wb = (w.alloc (.cells #[.int .i64 r.b, .int .i64 r.v, .int .i64 r.st, .int .i64 r.k, .int .i64 r.i, .int .i64 r.f, .int .i64 r.t, .int .i64 r.a, .int .i64 r.s, u] 71)).alloc (.cells #[.int .i64 0, .int .i64 0, .int .i64 0, .int .i64 0, .int .i64 0, .int .i64 0, .int .i64 0, .int .i64 0, .int .i64 0, .slice none 0 0] 71) := ⟨_, rfl⟩
  have ho := box_res_row w r u 71
  rw [← hwb] at ho
  have xb : Ext w wb := by rw [hwb]; exact ((Ext.refl w).alloc _).alloc _
  have sb : wb.heap.size = w.heap.size + 2 := by rw [hwb]; simp
  have HU := Lib.hid (hu.ext xb)
  have HWB := Lib.hid hwb
  have HO := Lib.hid ho
  have SB := Lib.hid sb
  clear hl hu hwb ho sb
  go_enter Try.func158, Try.ntmps158
  go_wp2_with fail
  rw [← HWB.out]
  refine (l4OwnAttr_any _ _ r.l _ HU.out HL.out).mono ?_
  rintro e w1 ⟨v, rfl, f1, x1⟩
  have hx := xb.trans x1
  obtain ⟨p0, p1, p2, p3, p4, p5, p6, p7, p8, p9⟩ := HO.out.1.1.ext x1
  obtain ⟨y0, y1, y2, y3, y4, y5, y6, y7, y8, y9⟩ := HO.out.1.2.ext (by have := SB.out; omega) x1
  obtain ⟨o0, o1, o2, o3, o4, o5, o6, o7, o8, o9⟩ := HO.out.2.1.ext x1
  obtain ⟨z0, z1, z2, z3, z4, z5, z6, z7, z8, z9⟩ := HO.out.2.2.ext (by have := SB.out; omega) x1
  obtain ⟨au, cu, rfl⟩ := f1.form
  have F := Lib.hid f1
  have hsz : w.heap.size + 2 ≤ wb.heap.size := by have := SB.out; omega
  have HZ := Lib.hid hsz
  clear f1 x1 xb hsz
  go_wp2
  refine bodyPost_ret (v := .agg #[.int .i64 r.b, .int .i64 r.v, .int .i64 r.st, .int .i64 r.k, .int .i64 r.i, .int .i64 r.f, .int .i64 r.t, .int .i64 r.a, .int .i64 r.s, .slice au r.l.length cu]) (by simp [results, Try.results158, go_sem, o0, o1, o2, o3, o4, o5, o6, o7, o8, o9]) rfl ⟨_, rfl, ?_, ?_⟩
  · exact ((((((((((((F.out.set _ _ _ (by have := HZ.out; omega)).set _ _ _ (by have := HZ.out; omega)).set _ _ _ (by have := HZ.out; omega)).set _ _ _ (by have := HZ.out; omega)).set _ _ _ (by have := HZ.out; omega)).set _ _ _ (by have := HZ.out; omega)).set _ _ _ (by have := HZ.out; omega)).set _ _ _ (by have := HZ.out; omega)).set _ _ _ (by have := HZ.out; omega)).set _ _ _ (by have := HZ.out; omega)).set _ _ _ (by have := HZ.out; omega)).set _ _ _ (by have := HZ.out; omega)).more (by have := HZ.out; omega)
  · exact (((((((((((hx.setc (by dsimp only; omega)).setc (by dsimp only; omega)).setc (by dsimp only; omega)).setc (by dsimp only; omega)).setc (by dsimp only; omega)).setc (by dsimp only; omega)).setc (by dsimp only; omega)).setc (by dsimp only; omega)).setc (by dsimp only; omega)).setc (by dsimp only; omega)).setc (by dsimp only; omega)).setc (by dsimp only; omega)

end Go.Proofs.Ythnoeknalpnadaa

namespace Go.Proofs.Ythnoeknalpnadaa
open Go.RowKit
set_option linter.unusedVariables false

def emptyR (n : Int) : RowD := ⟨0, 0, 0, 0, 0, 0, 0, 0, 0, noneL n⟩
/-- The row of the place (p, q + 1), the empty one behind the list's end. -/
def rowOf (n : Int) (T : List (List RowD)) (p q : Nat) : RowD := (T[p]?.getD [])[q]?.getD (emptyR n)
theorem rowOf_in {n : Int} {T : List (List RowD)} {p q : Nat} (hp : p < T.length) (hq : q < T[p].length) : rowOf n T p q = T[p][q] := by
  unfold rowOf; simp [List.getElem?_eq_getElem hp, List.getElem?_eq_getElem hq]
theorem rowOf_out {n : Int} {T : List (List RowD)} {p q : Nat} (hp : p < T.length) (hq : T[p].length ≤ q) : rowOf n T p q = emptyR n := by
  unfold rowOf; simp [List.getElem?_eq_getElem hp, List.getElem?_eq_none hq]
theorem goodTab_of {n : Int} {T : List (List RowD)} (h : goodTab n T = true) : isGrp n = true ∧ (T.length : Int) = n ∧ ∀ R ∈ T, R.length ≤ 6 ∧ ∀ r ∈ R, goodRow n r = true := by
  unfold goodTab at h
  simp only [Bool.and_eq_true, decide_eq_true_eq, List.all_eq_true] at h
  refine ⟨h.1.1, h.1.2, fun R hR => ?_⟩
  have := h.2 R hR
  unfold goodList at this
  simp only [Bool.and_eq_true, decide_eq_true_eq, List.all_eq_true] at this
  exact this
theorem goodRow_len {n : Int} {r : RowD} (hn : isGrp n = true) (h : goodRow n r = true) : (r.l.length : Int) = n := by
  unfold goodRow at h
  simp only [Bool.and_eq_true] at h
  have h2 := h.2
  split at h2
  · unfold emptyB at h2
    simp only [Bool.and_eq_true] at h2
    have h3 := h2.2
    unfold sameA at h3
    simp only [Bool.and_eq_true, decide_eq_true_eq] at h3
    rw [h3.2]
    rcases isGrp_of hn with rfl | rfl <;> simp [noneL, isGrp]
  · unfold fullB at h2
    simp only [Bool.and_eq_true] at h2
    exact (goodD_of h2.2).2.1
theorem goodTab_row {n : Int} {T : List (List RowD)} (h : goodTab n T = true) {p q : Nat} (hp : p < T.length) (hq : q < T[p].length) : goodRow n T[p][q] = true ∧ (T[p][q].l.length : Int) = n ∧ T[p][q].l.length ≤ 5 := by
  obtain ⟨h1, h2, h3⟩ := goodTab_of h
  have h4 := (h3 _ (List.getElem_mem hp)).2 _ (List.getElem_mem hq)
  have h5 := goodRow_len h1 h4
  have := isGrp_bd h1
  exact ⟨h4, h5, by omega⟩
/-- An instance, in numbers of the model's lists. -/
theorem inst_nat {n rep no : Int} {T : List (List RowD)} (h : goodTab n T = true) (hi : instB n rep no = true) : ∃ p q : Nat, rep = (p : Int) ∧ no = (q : Int) + 1 ∧ p < T.length ∧ q ≤ 5 := by
  obtain ⟨h1, h2, h3⟩ := goodTab_of h
  unfold instB at hi
  simp only [Bool.and_eq_true] at hi
  obtain ⟨ha, hb⟩ := hi
  unfold inB at ha hb
  simp only [Bool.and_eq_true, decide_eq_true_eq] at ha hb
  exact ⟨rep.toNat, (no - 1).toNat, by omega, by omega, by omega, by omega⟩

set_option maxHeartbeats 1000000 in
theorem l4Asked_any (n : Int) (u : Value) (T : List (List RowD)) (rep no : Int) (w : World) (hu : Rowzz w u T) :
    Calls Try.prog 102 #[.agg #[.int .i64 n, u], .int .i64 rep, .int .i64 no] w (BoolExt (goodTab n T && instB n rep no) w) := by
  have HB := Lib.hid (attrAt_new w 24 n u)
  have HU := Lib.hid (hu.ext (Ext.alloc1 w (.cells #[.int .i64 n, u] 24)))
  clear hu
  cases hg : goodTab n T with
  | false =>
    have HG := Lib.hid hg
    clear hg
    go_enter Try.func102, Try.ntmps102
    go_wp2_with fail
    refine (specGoodTable_any _ _ T _ HU.out).mono ?_
    rintro e w1 ⟨rfl, x1⟩
    have hx := (Ext.alloc1 w _).trans x1
    clear x1
    rw [HG.out]
    go_wp2
    go_ret
    exact ⟨rfl, hx⟩
  | true =>
    rw [Bool.true_and]
    have hb := isGrp_bd (goodTab_of hg).1
    have h3 := hb.1
    have h5 := hb.2
    have HG := Lib.hid hg
    clear hg hb
    go_enter Try.func102, Try.ntmps102
    go_wp2_with fail
    refine (specGoodTable_any _ _ T _ HU.out).mono ?_
    rintro e w1 ⟨rfl, x1⟩
    obtain ⟨c0, c1⟩ := HB.out.ext x1
    have hx := (Ext.alloc1 w _).trans x1
    clear x1
    rw [HG.out]
    go_wp2_with fail
    refine (l3Inst_any _ _ _ _ h3 h5).mono ?_
    rintro e w' ⟨rfl, rfl⟩
    clear c0 c1
    cases hi : instB n rep no
    all_goals
      have HI := Lib.hid hi
      clear hi
      go_wp2
      go_ret
      exact ⟨by rw [HI.out]; rfl, hx⟩

end Go.Proofs.Ythnoeknalpnadaa
