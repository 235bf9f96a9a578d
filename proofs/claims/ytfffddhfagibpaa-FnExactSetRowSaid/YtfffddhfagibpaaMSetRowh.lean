/- Texts of this proof, part h: words, plain facts, contracts. -/
import Derived.Test.YtfffddhfagibpaaMSetRowg
import Derived.Test.YtfffddhfagibpaaMSetRowd
import Derived.Test.YtfffddhfagibpaaMSetRowb
import Derived.Test.YtfffddhfagibpaaMSetRowc
import Derived.Laws.CopyOwn
import Derived.Test.YtfffddhfagibpaaMSetRowe

namespace Go.Proofs.Ytfffddhfagibpaa
open Go.RowKit
set_option linter.unusedVariables false

set_option maxHeartbeats 2000000 in
theorem areGoodRows_any (n : Int) (u : Value) (R : List RowD) (w : World) (hu : Rowz w u R) (hs : bulkR R ≤ 1099511627776) (hg : isGrp n = true) :
    Calls Try.prog 95 #[.int .i64 n, u] w (BoolExt (goodList n R) w) := by
  obtain ⟨au, cu, rfl, hlu, _, hcu⟩ := hu
  unfold maxLen at hlu
  have HG := Lib.hid hg
  have HS := Lib.hid hs
  clear hg hs
  by_cases h6 : 6 < R.length
  · rw [goodList_long h6]
    clear hcu
    go_enter Try.func95, Try.ntmps95
    go_wp2
    go_ret
    exact ⟨rfl, Ext.refl _⟩
  · have h6' : R.length ≤ 6 := by omega
    rw [goodList_all h6']
    clear h6
    go_enter Try.func95, Try.ntmps95
    go_wp2
    go_loopw [12] (fun i wr => ∃ j : Nat, j ≤ R.length ∧ i = .int .i64 j ∧ Hid ((R.take j).all (goodRow n) = true) ∧ Ext w wr) (fun i _ => R.length - (intOf i).toNat)
    case atStart => exact ⟨0, Nat.zero_le _, rfl, Lib.hid (by simp), Ext.refl _⟩
    case round =>
      obtain ⟨j, hj, rfl, HT, hy⟩ := hrel
      by_cases hjt : j < R.length
      · obtain ⟨bx, ox, rfl, dx⟩ := hcu (by omega)
        obtain ⟨y, hy1, iy⟩ := dx j hjt
        obtain ⟨d, hd⟩ : ∃ d, d = R[j] := ⟨_, rfl⟩
        rw [← hd] at hy1 iy
        have hsz : d.l.length ≤ 1099511627776 := by rw [hd]; have := bulkR_row hjt; have := HS.out; omega
        have gy := hy1.ext hy
        have iy2 := iy.ext hy
        obtain ⟨ay, cy, rfl, _⟩ := id iy2
        have IY := Lib.hid iy2
        have HD := Lib.hid hd
        clear hcu dx hy1 iy iy2 hd
        obtain ⟨wp, hwp⟩ : ∃ wp : World, wp = wr := ⟨_, rfl⟩
        subst hwp
        obtain ⟨g0, g1, g2, g3, g4, g5, g6, g7, g8, g9⟩ := gy
        go_wp2_with fail
        cases hq : goodRow n d with
        | false =>
          have HQ := Lib.hid hq
          clear hq
          refine (isGoodRow_any n d _ _ (IY.out.ext (Ext.alloc1 _ _)) hsz HG.out).mono ?_
          rintro e w3 ⟨rfl, x3⟩
          have hz := (hy.trans (Ext.alloc1 _ _)).trans x3
          clear x3 g0 g1 g2 g3 g4 g5 g6 g7 g8 g9
          rw [HQ.out]
          go_wp2
          go_ret
          refine ⟨?_, hz⟩
          have h1 : R.all (goodRow n) = false := allx_false_at hjt _ (by rw [← HD.out]; exact HQ.out)
          rw [h1]; rfl
        | true =>
          have HQ := Lib.hid hq
          clear hq
          refine (isGoodRow_any n d _ _ (IY.out.ext (Ext.alloc1 _ _)) hsz HG.out).mono ?_
          rintro e w3 ⟨rfl, x3⟩
          have hz := (hy.trans (Ext.alloc1 _ _)).trans x3
          clear x3 g0 g1 g2 g3 g4 g5 g6 g7 g8 g9
          rw [HQ.out]
          go_wp2
          go_roundw
          case rel => exact ⟨j + 1, by omega, by go_num, Lib.hid (allx_take_succ hjt _ HT.out (by rw [← HD.out]; exact HQ.out)), hz⟩
          case measure => simp [intOf]; omega
      · obtain rfl : j = R.length := by omega
        go_wp2
        go_ret
        refine ⟨?_, hy⟩
        have hfull : R.all (goodRow n) = true := by have h := HT.out; rwa [List.take_length] at h
        rw [hfull]; rfl

set_option maxHeartbeats 4000000 in
theorem implGoodTable_any (n : Int) (u : Value) (T : List (List RowD)) (w : World) (hu : Rowzz w u T) (hs : bulkT T ≤ 1099511627776) :
    Calls Try.prog 70 #[.agg #[.int .i64 n, u]] w (BoolExt (goodTab n T) w) := by
  obtain ⟨au, cu, rfl, hlu, _, hcu⟩ := hu
  unfold maxLen at hlu
  have HSZ := Lib.hid hs
  clear hs
  cases hg : isGrp n with
  | false =>
    rw [goodTab_grp hg]
    have HG := Lib.hid hg
    clear hg hcu
    go_enter Try.func70, Try.ntmps70
    go_wp2_with fail
    refine (implIsGroup_any _ _).mono ?_
    rintro e w' ⟨rfl, rfl⟩
    rw [HG.out]
    go_wp2
    go_ret
    exact ⟨rfl, Ext.alloc1 _ _⟩
  | true =>
    have HG := Lib.hid hg
    by_cases hl : (T.length : Int) = n
    · rw [goodTab_all hg hl]
      have e0 : ((T.length : Int) != n) = false := by simp [hl]
      have HL := Lib.hid hl
      obtain ⟨wb, hwb⟩ : ∃ wb, wb = w.alloc (.cells #[.int .i64 n, .slice au T.length cu] 67) := ⟨_, rfl⟩
      have hb := attrAt_new w 67 n (.slice au T.length cu)
      rw [← hwb] at hb
      have xb : Ext w wb := by rw [hwb]; exact Ext.alloc1 _ _
      have HWB := Lib.hid hwb
      have HBB := Lib.hid hb
      clear hg hl hwb hb
      go_enter Try.func70, Try.ntmps70
      go_wp2_with fail
      refine (implIsGroup_any _ _).mono ?_
      rintro e w' ⟨rfl, rfl⟩
      rw [HG.out]
      go_wp2
      rw [← HWB.out]
      go_loopw [20] (fun i wr => ∃ k : Nat, k ≤ T.length ∧ i = .int .i64 k ∧ Hid ((T.take k).all (goodList n) = true) ∧ Ext wb wr) (fun i _ => T.length - (intOf i).toNat)
      case atStart => exact ⟨0, Nat.zero_le _, rfl, Lib.hid (by simp), Ext.refl _⟩
      case round =>
        obtain ⟨k, hk, rfl, HT, hx⟩ := hrel
        by_cases hlt : k < T.length
        · obtain ⟨bu, ou, rfl, du⟩ := hcu (by omega)
          obtain ⟨x, hx1, ix⟩ := du k hlt
          have gu := (xb.trans hx).cell hx1
          have gn := hx.cell HBB.out.1
          obtain ⟨R, hR⟩ : ∃ R, R = T[k] := ⟨_, rfl⟩
          rw [← hR] at ix
          have hsz : bulkR R ≤ 1099511627776 := by rw [hR]; have := bulkT_row hlt; have := HSZ.out; omega
          have IX := Lib.hid (ix.ext (xb.trans hx))
          have HR := Lib.hid hR
          clear hcu du hx1 ix hR
          obtain ⟨wo, hwo⟩ : ∃ wo : World, wo = wr := ⟨_, rfl⟩
          subst hwo
          go_wp2_with fail
          cases hq : goodList n R with
          | false =>
            have HQ := Lib.hid hq
            clear hq
            refine (areGoodRows_any n _ R _ IX.out hsz HG.out).mono ?_
            rintro e w3 ⟨rfl, x3⟩
            have hz := xb.trans (hx.trans x3)
            clear x3 gn gu
            rw [HQ.out]
            go_wp2
            go_ret
            refine ⟨?_, hz⟩
            have h2 : T.all (goodList n) = false := allx_false_at hlt _ (by rw [← HR.out]; exact HQ.out)
            rw [h2]; rfl
          | true =>
            have HQ := Lib.hid hq
            clear hq
            refine (areGoodRows_any n _ R _ IX.out hsz HG.out).mono ?_
            rintro e w3 ⟨rfl, x3⟩
            have hz := hx.trans x3
            clear x3 gn gu
            rw [HQ.out]
            go_wp2
            go_roundw
            case rel => exact ⟨k + 1, by omega, by go_num, Lib.hid (allx_take_succ hlt _ HT.out (by rw [← HR.out]; exact HQ.out)), hz⟩
            case measure => simp [intOf]; omega
        · obtain rfl : k = T.length := by omega
          go_wp2
          go_ret
          refine ⟨?_, xb.trans hx⟩
          have h2 : T.all (goodList n) = true := by have h := HT.out; rwa [List.take_length] at h
          rw [h2]; rfl
    · rw [goodTab_len hl]
      have e0 : ((T.length : Int) != n) = true := by simp [hl]
      clear hg hcu hl
      go_enter Try.func70, Try.ntmps70
      go_wp2_with fail
      refine (implIsGroup_any _ _).mono ?_
      rintro e w' ⟨rfl, rfl⟩
      rw [HG.out]
      go_wp2
      go_ret
      exact ⟨rfl, Ext.alloc1 _ _⟩

end Go.Proofs.Ytfffddhfagibpaa

namespace Go.Proofs.Ytfffddhfagibpaa
open Go.RowKit
set_option linter.unusedVariables false

set_option maxHeartbeats 1000000 in
theorem l1Own_any (u : Value) (l : List Int) (w : World) (hu : Ints w u l) (hl : l.length ≤ 1048576) :
    Calls Try.prog 82 #[u] w (NewInts l w) := by
  have hb1 : ([] : List Int).length + l.length ≤ 1099511627776 := by simp; omega
  have HB := Lib.hid hb1
  have HU := Lib.hid hu
  clear hb1 hu hl
  go_enter Try.func82, Try.ntmps82
  go_wp2_with (at_builtin; refine wpList_join rfl _ _ rfl w.heap.size _ _ [] l rfl (fresh_lit w [] #[] _ rfl (Nat.le_refl _) (Nat.zero_le _)) rfl (HU.out.ext (Ext.alloc (Ext.refl _) _)) HB.out (size_alloc_le (Nat.le_refl _)) ?_)
  intro v1 w1 f1 g1 k1
  have e1' : Ext w w1 := k1 w (Ext.alloc (Ext.refl _) _) (Nat.le_refl _)
  clear g1 k1
  go_wp2
  go_ret
  exact ⟨_, rfl, by simpa using f1, e1'⟩

theorem box_res (w : World) (s : Int) (u : Value) (T : TypeId) :
    AttrAt ((w.alloc (.cells #[.int .i64 s, u] T)).alloc (.cells #[.int .i64 0, .slice none 0 0] T)) w.heap.size s u ∧ OpenAt ((w.alloc (.cells #[.int .i64 s, u] T)).alloc (.cells #[.int .i64 0, .slice none 0 0] T)) (w.heap.size + 1) 0 (.slice none 0 0) := by
  refine ⟨⟨?_, ?_⟩, ⟨?_, ?_⟩, ?_, ?_⟩ <;> go_simp

set_option maxHeartbeats 2000000 in
theorem l4OwnAttr_any (s : Int) (u : Value) (l : List Int) (w : World) (hu : Ints w u l) (hl : l.length ≤ 1048576) :
    Calls Try.prog 115 #[.agg #[.int .i64 s, u]] w (NewAttr s l w) := by
  have HL := Lib.hid hl
  have HU := Lib.hid hu
  have HO := Lib.hid (box_res w s u 71)
  clear hl hu
  go_enter Try.func115, Try.ntmps115
  go_wp2_with fail
  go_region_with (go_at_call 82; refine (l1Own_any _ l _ (HU.out.ext (by repeat (first | exact Ext.refl _ | apply Ext.drew | apply Ext.alloc))) HL.out).mono ?_; rintro e W ⟨z, rfl, f9, x9⟩; obtain ⟨az, cz, rfl⟩ := f9.form; obtain ⟨b0, b1⟩ := HO.out.1.ext ((Ext.drew (Ext.refl _)).trans x9); obtain ⟨⟨c0, c1⟩, z0, z1⟩ := HO.out.2.ext ((Ext.drew (Ext.refl _)).trans x9))
  all_goals
    have F9 := Lib.hid f9
    have X9 := Lib.hid x9
    clear f9 x9 b0 b1
    go_wp2
    refine bodyPost_ret (v := .agg #[.int .i64 s, .slice az l.length cz]) (by simp [results, Try.results115, go_sem, c0, c1]) rfl ⟨_, rfl, ?_, ?_⟩
    · exact ((F9.out.set _ _ _ (by simp)).set _ _ _ (by simp)).more (by simp; omega)
    · exact (((((Ext.refl w).alloc _).alloc _).trans ((Ext.drew (Ext.refl _)).trans X9.out)).setc (by simp)).setc (by simp)

theorem box_res_row (w : World) (r : RowD) (u : Value) (T : TypeId) :
    (RowAt ((w.alloc (.cells #[.int .i64 r.b, .int .i64 r.v, .int .i64 r.st, .int .i64 r.k, .int .i64 r.i, .int .i64 r.f, .int .i64 r.t, .int .i64 r.a, .int .i64 r.s, u] T)).alloc (.cells #[.int .i64 0, .int .i64 0, .int .i64 0, .int .i64 0, .int .i64 0, .int .i64 0, .int .i64 0, .int .i64 0, .int .i64 0, .slice none 0 0] T)) w.heap.size r u ∧
      FreeAt ((w.alloc (.cells #[.int .i64 r.b, .int .i64 r.v, .int .i64 r.st, .int .i64 r.k, .int .i64 r.i, .int .i64 r.f, .int .i64 r.t, .int .i64 r.a, .int .i64 r.s, u] T)).alloc (.cells #[.int .i64 0, .int .i64 0, .int .i64 0, .int .i64 0, .int .i64 0, .int .i64 0, .int .i64 0, .int .i64 0, .int .i64 0, .slice none 0 0] T)) w.heap.size) ∧
    (RowAt ((w.alloc (.cells #[.int .i64 r.b, .int .i64 r.v, .int .i64 r.st, .int .i64 r.k, .int .i64 r.i, .int .i64 r.f, .int .i64 r.t, .int .i64 r.a, .int .i64 r.s, u] T)).alloc (.cells #[.int .i64 0, .int .i64 0, .int .i64 0, .int .i64 0, .int .i64 0, .int .i64 0, .int .i64 0, .int .i64 0, .int .i64 0, .slice none 0 0] T)) (w.heap.size + 1) zeroR (.slice none 0 0) ∧
      FreeAt ((w.alloc (.cells #[.int .i64 r.b, .int .i64 r.v, .int .i64 r.st, .int .i64 r.k, .int .i64 r.i, .int .i64 r.f, .int .i64 r.t, .int .i64 r.a, .int .i64 r.s, u] T)).alloc (.cells #[.int .i64 0, .int .i64 0, .int .i64 0, .int .i64 0, .int .i64 0, .int .i64 0, .int .i64 0, .int .i64 0, .int .i64 0, .slice none 0 0] T)) (w.heap.size + 1)) := by
  refine ⟨⟨⟨?_, ?_, ?_, ?_, ?_, ?_, ?_, ?_, ?_, ?_⟩, ⟨?_, ?_, ?_, ?_, ?_, ?_, ?_, ?_, ?_, ?_⟩⟩, ⟨⟨?_, ?_, ?_, ?_, ?_, ?_, ?_, ?_, ?_, ?_⟩, ⟨?_, ?_, ?_, ?_, ?_, ?_, ?_, ?_, ?_, ?_⟩⟩⟩ <;> go_simp <;> rfl

set_option maxHeartbeats 2000000 in
set_option maxRecDepth 100000 in
theorem l4OwnRow_any (r : RowD) (u : Value) (w : World) (hu : Ints w u r.l) (hl : r.l.length ≤ 1048576) :
    Calls Try.prog 92 #[.agg #[.int .i64 r.b, .int .i64 r.v, .int .i64 r.st, .int .i64 r.k, .int .i64 r.i, .int .i64 r.f, .int .i64 r.t, .int .i64 r.a, .int .i64 r.s, u]] w (NewRow r w) := by
  have HL := Lib.hid hl
  obtain ⟨wb, hwb⟩ : ∃ wb, wb = (w.alloc (.cells #[.int .i64 r.b, .int .i64 r.v, .int .i64 r.st, .int .i64 r.k, .int .i64 r.i, .int .i64 r.f, .int .i64 r.t, .int .i64 r.a, .int .i64 r.s, u] 73)).alloc (.cells #[.int .i64 0, .int .i64 0, .int .i64 0, .int .i64 0, .int .i64 0, .int .i64 0, .int .i64 0, .int .i64 0, .int .i64 0, .slice none 0 0] 73) := ⟨_, rfl⟩
  have ho := box_res_row w r u 73
  rw [← hwb] at ho
  have xb : Ext w wb := by rw [hwb]; exact ((Ext.refl w).alloc _).alloc _
  have sb : wb.heap.size = w.heap.size + 2 := by rw [hwb]; simp
  have HU := Lib.hid (hu.ext xb)
  have HWB := Lib.hid hwb
  have HO := Lib.hid ho
  have SB := Lib.hid sb
  clear hl hu hwb ho sb
  go_enter Try.func92, Try.ntmps92
  go_wp2_with fail
  rw [← HWB.out]
  refine (l4OwnAttr_any _ _ r.l _ HU.out HL.out).mono ?_
  rintro e w1 ⟨v, rfl, f1, x1⟩
  have hx := xb.trans x1
  obtain ⟨p0, p1, p2, p3, p4, p5, p6, p7, p8, p9⟩ := HO.out.1.1.ext x1
  obtain ⟨y0, y1, y2, y3, y4, y5, y6, y7, y8, y9⟩ := HO.out.1.2.ext (by have := SB.out; omega) x1
  obtain ⟨o0, o1, o2, o3, o4, o5, o6, o7, o8, o9⟩ := HO.out.2.1.ext x1
  obtain ⟨z0, z1, z2, z3, z4, z5, z6, z7, z8, z9⟩ := HO.out.2.2.ext (by have := SB.out; omega) x1
  obtain ⟨au, cu, rfl⟩ := f1.form
  have F := Lib.hid f1
  have hsz : w.heap.size + 2 ≤ wb.heap.size := by have := SB.out; omega
  have HZ := Lib.hid hsz
  clear f1 x1 xb hsz
  go_wp2
  refine bodyPost_ret (v := .agg #[.int .i64 r.b, .int .i64 r.v, .int .i64 r.st, .int .i64 r.k, .int .i64 r.i, .int .i64 r.f, .int .i64 r.t, .int .i64 r.a, .int .i64 r.s, .slice au r.l.length cu]) (by simp [results, Try.results92, go_sem, o0, o1, o2, o3, o4, o5, o6, o7, o8, o9]) rfl ⟨_, rfl, ?_, ?_⟩
  · exact ((((((((((((F.out.set _ _ _ (by have := HZ.out; omega)).set _ _ _ (by have := HZ.out; omega)).set _ _ _ (by have := HZ.out; omega)).set _ _ _ (by have := HZ.out; omega)).set _ _ _ (by have := HZ.out; omega)).set _ _ _ (by have := HZ.out; omega)).set _ _ _ (by have := HZ.out; omega)).set _ _ _ (by have := HZ.out; omega)).set _ _ _ (by have := HZ.out; omega)).set _ _ _ (by have := HZ.out; omega)).set _ _ _ (by have := HZ.out; omega)).set _ _ _ (by have := HZ.out; omega)).more (by have := HZ.out; omega)
  · exact (((((((((((hx.setc (by dsimp only; omega)).setc (by dsimp only; omega)).setc (by dsimp only; omega)).setc (by dsimp only; omega)).setc (by dsimp only; omega)).setc (by dsimp only; omega)).setc (by dsimp only; omega)).setc (by dsimp only; omega)).setc (by dsimp only; omega)).setc (by dsimp only; omega)).setc (by dsimp only; omega)).setc (by dsimp only; omega)

end Go.Proofs.Ytfffddhfagibpaa

namespace Go.Proofs.Ytfffddhfagibpaa
open Go.RowKit
set_option linter.unusedVariables false

/-- Whether it is an instance of a group of n. -/
def instB (n rep no : Int) : Bool := inB rep 0 (n - 1) && inB no 1 6
theorem isGrp_bd {n : Int} (h : isGrp n = true) : 3 ≤ n ∧ n ≤ 5 := by rcases isGrp_of h with rfl | rfl <;> omega

set_option maxHeartbeats 400000 in
theorem l3Inst_any (n rep no : Int) (w : World) (h3 : 3 ≤ n) (h5 : n ≤ 5) :
    Calls Try.prog 87 #[.int .i64 n, .int .i64 rep, .int .i64 no] w fun e w' => e = .returned (.bool (instB n rep no)) ∧ w = w' := by
  unfold instB
  cases h1 : inB rep 0 (n - 1)
  · have H1 := Lib.hid h1
    clear h1
    go_enter Try.func87, Try.ntmps87
    go_wp2_with fail
    refine (l1In_any _ _ _ _).mono ?_
    rintro e w' ⟨rfl, rfl⟩
    rw [H1.out]
    go_wp2
    go_ret
    exact ⟨rfl, rfl⟩
  · have H1 := Lib.hid h1
    clear h1
    cases h2 : inB no 1 6
    all_goals
      have H2 := Lib.hid h2
      clear h2
      go_enter Try.func87, Try.ntmps87
      go_wp2_with fail
      refine (l1In_any _ _ _ _).mono ?_
      rintro e w' ⟨rfl, rfl⟩
      rw [H1.out]
      go_wp2_with fail
      refine (l1In_any _ _ _ _).mono ?_
      rintro e w' ⟨rfl, rfl⟩
      rw [H2.out]
      go_wp2
      go_ret
      exact ⟨rfl, rfl⟩

def repB (n k : Int) : Bool := isGrp n && inB k 0 (n - 1)
set_option maxHeartbeats 1000000 in
theorem isReplica_any (n k : Int) (w : World) :
    Calls Try.prog 96 #[.int .i64 n, .int .i64 k] w fun e w' => e = .returned (.bool (repB n k)) ∧ w = w' := by
  unfold repB
  cases hg : isGrp n with
  | false =>
    have HG := Lib.hid hg
    clear hg
    go_enter Try.func96, Try.ntmps96
    go_wp2_with fail
    refine (implIsGroup_any _ _).mono ?_
    rintro e w' ⟨rfl, rfl⟩
    rw [HG.out]
    go_wp2
    go_ret
    exact ⟨rfl, rfl⟩
  | true =>
    have HG := Lib.hid hg
    clear hg
    by_cases h1 : k < 0
    · have hr : inB k 0 (n - 1) = false := inB_no (by omega)
      rw [hr]
      clear hr
      go_enter Try.func96, Try.ntmps96
      go_wp2_with fail
      refine (implIsGroup_any _ _).mono ?_
      rintro e w' ⟨rfl, rfl⟩
      rw [HG.out]
      go_wp2
      go_ret
      exact ⟨rfl, rfl⟩
    · by_cases h2 : k < n
      · have h3 : 0 ≤ k := by omega
        have hr : inB k 0 (n - 1) = true := inB_yes h3 (by omega)
        rw [hr]
        clear hr h1
        go_enter Try.func96, Try.ntmps96
        go_wp2_with fail
        refine (implIsGroup_any _ _).mono ?_
        rintro e w' ⟨rfl, rfl⟩
        rw [HG.out]
        go_wp2
        go_ret
        exact ⟨rfl, rfl⟩
      · have h3 : 0 ≤ k := by omega
        have h4 : n ≤ k := by omega
        have hr : inB k 0 (n - 1) = false := inB_no (by omega)
        have nk : decide (k < n) = false := decide_eq_false h2
        rw [hr]
        clear hr h1 h2 h4
        go_enter Try.func96, Try.ntmps96
        go_wp2_with fail
        refine (implIsGroup_any _ _).mono ?_
        rintro e w' ⟨rfl, rfl⟩
        rw [HG.out]
        go_wp2
        go_ret
        exact ⟨rfl, rfl⟩

set_option maxHeartbeats 1000000 in
/-- Whether it is an instance, of a group or of none. -/
theorem isInstance_all (n rep no : Int) (w : World) :
    Calls Try.prog 71 #[.int .i64 n, .int .i64 rep, .int .i64 no] w fun e w' => e = .returned (.bool (repB n rep && inB no 1 6)) ∧ w = w' := by
  cases hg : repB n rep with
  | false =>
    have HG := Lib.hid hg
    clear hg
    go_enter Try.func71, Try.ntmps71
    go_wp2_with fail
    refine (isReplica_any _ _ _).mono ?_
    rintro e w' ⟨rfl, rfl⟩
    rw [HG.out]
    go_wp2
    go_ret
    exact ⟨rfl, rfl⟩
  | true =>
    have HG := Lib.hid hg
    clear hg
    by_cases h1 : no < 1
    · have hr : inB no 1 6 = false := inB_no (by omega)
      rw [hr]
      clear hr
      go_enter Try.func71, Try.ntmps71
      go_wp2_with fail
      refine (isReplica_any _ _ _).mono ?_
      rintro e w' ⟨rfl, rfl⟩
      rw [HG.out]
      go_wp2
      go_ret
      exact ⟨rfl, rfl⟩
    · by_cases h2 : 6 < no
      · have h3 : 1 ≤ no := by omega
        have hr : inB no 1 6 = false := inB_no (by omega)
        have nk : decide (no ≤ 6) = false := decide_eq_false (by omega)
        rw [hr]
        clear hr h1 h2
        go_enter Try.func71, Try.ntmps71
        go_wp2_with fail
        refine (isReplica_any _ _ _).mono ?_
        rintro e w' ⟨rfl, rfl⟩
        rw [HG.out]
        go_wp2
        go_ret
        exact ⟨rfl, rfl⟩
      · have h3 : 1 ≤ no := by omega
        have h4 : no ≤ 6 := by omega
        have hr : inB no 1 6 = true := inB_yes h3 h4
        rw [hr]
        clear hr h1 h2
        go_enter Try.func71, Try.ntmps71
        go_wp2_with fail
        refine (isReplica_any _ _ _).mono ?_
        rintro e w' ⟨rfl, rfl⟩
        rw [HG.out]
        go_wp2
        go_ret
        exact ⟨rfl, rfl⟩
theorem isInstance_any (n rep no : Int) (w : World) (hg : isGrp n = true) :
    Calls Try.prog 71 #[.int .i64 n, .int .i64 rep, .int .i64 no] w fun e w' => e = .returned (.bool (instB n rep no)) ∧ w = w' := by
  have h := isInstance_all n rep no w
  unfold repB at h
  rw [hg, Bool.true_and] at h
  exact h

/-- Does it hang on the instance? -/
def hangsB (n s : Int) (l : List Int) (rep no : Int) : Bool := goodA n s l && instB n rep no && decide (no ≤ l[rep.toNat]?.getD 0)
def hangsOk (n s : Int) (l : List Int) (rep no : Int) : Bool := goodA n s l && instB n rep no
end Go.Proofs.Ytfffddhfagibpaa

namespace Go.Proofs.Ytfffddhfagibpaa
open Go.RowKit
set_option linter.unusedVariables false

def emptyR (n : Int) : RowD := ⟨0, 0, 0, 0, 0, 0, 0, 0, 0, noneL n⟩
/-- The row of the place (p, q + 1), the empty one behind the list's end. -/
def rowOf (n : Int) (T : List (List RowD)) (p q : Nat) : RowD := (T[p]?.getD [])[q]?.getD (emptyR n)
theorem rowOf_in {n : Int} {T : List (List RowD)} {p q : Nat} (hp : p < T.length) (hq : q < T[p].length) : rowOf n T p q = T[p][q] := by
  unfold rowOf; simp [List.getElem?_eq_getElem hp, List.getElem?_eq_getElem hq]
theorem rowOf_out {n : Int} {T : List (List RowD)} {p q : Nat} (hp : p < T.length) (hq : T[p].length ≤ q) : rowOf n T p q = emptyR n := by
  unfold rowOf; simp [List.getElem?_eq_getElem hp, List.getElem?_eq_none hq]
theorem goodTab_of {n : Int} {T : List (List RowD)} (h : goodTab n T = true) : isGrp n = true ∧ (T.length : Int) = n ∧ ∀ R ∈ T, R.length ≤ 6 ∧ ∀ r ∈ R, goodRow n r = true := by
  unfold goodTab at h
  simp only [Bool.and_eq_true, decide_eq_true_eq, List.all_eq_true] at h
  refine ⟨h.1.1, h.1.2, fun R hR => ?_⟩
  have := h.2 R hR
  unfold goodList at this
  simp only [Bool.and_eq_true, decide_eq_true_eq, List.all_eq_true] at this
  exact this
theorem goodRow_len {n : Int} {r : RowD} (hn : isGrp n = true) (h : goodRow n r = true) : (r.l.length : Int) = n := by
  unfold goodRow at h
  simp only [Bool.and_eq_true] at h
  have h2 := h.2
  split at h2
  · unfold emptyB at h2
    simp only [Bool.and_eq_true] at h2
    have h3 := h2.2
    unfold sameA at h3
    simp only [Bool.and_eq_true, decide_eq_true_eq] at h3
    rw [h3.2]
    rcases isGrp_of hn with rfl | rfl <;> simp [noneL, isGrp]
  · unfold fullB at h2
    simp only [Bool.and_eq_true] at h2
    exact (goodD_of h2.2).2.1
theorem goodTab_row {n : Int} {T : List (List RowD)} (h : goodTab n T = true) {p q : Nat} (hp : p < T.length) (hq : q < T[p].length) : goodRow n T[p][q] = true ∧ (T[p][q].l.length : Int) = n ∧ T[p][q].l.length ≤ 5 := by
  obtain ⟨h1, h2, h3⟩ := goodTab_of h
  have h4 := (h3 _ (List.getElem_mem hp)).2 _ (List.getElem_mem hq)
  have h5 := goodRow_len h1 h4
  have := isGrp_bd h1
  exact ⟨h4, h5, by omega⟩
/-- An instance, in numbers of the model's lists. -/
theorem inst_nat {n rep no : Int} {T : List (List RowD)} (h : goodTab n T = true) (hi : instB n rep no = true) : ∃ p q : Nat, rep = (p : Int) ∧ no = (q : Int) + 1 ∧ p < T.length ∧ q ≤ 5 := by
  obtain ⟨h1, h2, h3⟩ := goodTab_of h
  unfold instB at hi
  simp only [Bool.and_eq_true] at hi
  obtain ⟨ha, hb⟩ := hi
  unfold inB at ha hb
  simp only [Bool.and_eq_true, decide_eq_true_eq] at ha hb
  exact ⟨rep.toNat, (no - 1).toNat, by omega, by omega, by omega, by omega⟩

set_option maxHeartbeats 1000000 in
theorem l4Asked_any (n : Int) (u : Value) (T : List (List RowD)) (rep no : Int) (w : World) (hu : Rowzz w u T) :
    Calls Try.prog 65 #[.agg #[.int .i64 n, u], .int .i64 rep, .int .i64 no] w (BoolExt (goodTab n T && instB n rep no) w) := by
  have HB := Lib.hid (attrAt_new w 67 n u)
  have HU := Lib.hid (hu.ext (Ext.alloc1 w (.cells #[.int .i64 n, u] 67)))
  clear hu
  cases hg : goodTab n T with
  | false =>
    have HG := Lib.hid hg
    clear hg
    go_enter Try.func65, Try.ntmps65
    go_wp2_with fail
    refine (specGoodTable_any _ _ T _ HU.out).mono ?_
    rintro e w1 ⟨rfl, x1⟩
    have hx := (Ext.alloc1 w _).trans x1
    clear x1
    rw [HG.out]
    go_wp2
    go_ret
    exact ⟨rfl, hx⟩
  | true =>
    rw [Bool.true_and]
    have hb := isGrp_bd (goodTab_of hg).1
    have h3 := hb.1
    have h5 := hb.2
    have HG := Lib.hid hg
    clear hg hb
    go_enter Try.func65, Try.ntmps65
    go_wp2_with fail
    refine (specGoodTable_any _ _ T _ HU.out).mono ?_
    rintro e w1 ⟨rfl, x1⟩
    obtain ⟨c0, c1⟩ := HB.out.ext x1
    have hx := (Ext.alloc1 w _).trans x1
    clear x1
    rw [HG.out]
    go_wp2_with fail
    refine (l3Inst_any _ _ _ _ h3 h5).mono ?_
    rintro e w' ⟨rfl, rfl⟩
    clear c0 c1
    cases hi : instB n rep no
    all_goals
      have HI := Lib.hid hi
      clear hi
      go_wp2
      go_ret
      exact ⟨by rw [HI.out]; rfl, hx⟩

end Go.Proofs.Ytfffddhfagibpaa

namespace Go.Proofs.Ytfffddhfagibpaa
open Go.RowKit
set_option linter.unusedVariables false

theorem tab_res (w : World) (n : Int) (u : Value) (T T' : TypeId) :
    AttrAt ((w.alloc (.cells #[.int .i64 n, u] T)).alloc (.cells #[.int .i64 0, .int .i64 0, .int .i64 0, .int .i64 0, .int .i64 0, .int .i64 0, .int .i64 0, .int .i64 0, .int .i64 0, .slice none 0 0] T')) w.heap.size n u ∧
    RowAt ((w.alloc (.cells #[.int .i64 n, u] T)).alloc (.cells #[.int .i64 0, .int .i64 0, .int .i64 0, .int .i64 0, .int .i64 0, .int .i64 0, .int .i64 0, .int .i64 0, .int .i64 0, .slice none 0 0] T')) (w.heap.size + 1) ⟨0, 0, 0, 0, 0, 0, 0, 0, 0, []⟩ (.slice none 0 0) ∧
      FreeAt ((w.alloc (.cells #[.int .i64 n, u] T)).alloc (.cells #[.int .i64 0, .int .i64 0, .int .i64 0, .int .i64 0, .int .i64 0, .int .i64 0, .int .i64 0, .int .i64 0, .int .i64 0, .slice none 0 0] T')) (w.heap.size + 1) := by
  refine ⟨⟨?_, ?_⟩, ⟨?_, ?_, ?_, ?_, ?_, ?_, ?_, ?_, ?_, ?_⟩, ⟨?_, ?_, ?_, ?_, ?_, ?_, ?_, ?_, ?_, ?_⟩⟩ <;> go_simp

end Go.Proofs.Ytfffddhfagibpaa

namespace Go.Proofs.Ytfffddhfagibpaa
open Go.RowKit
set_option linter.unusedVariables false

def okAt (n : Int) (T : List (List RowD)) (rep no : Int) : Bool := goodTab n T && instB n rep no
/-- What RowAt tells. -/
def rowAtR (n : Int) (T : List (List RowD)) (rep no : Int) : RowD := if okAt n T rep no then rowOf n T rep.toNat (no - 1).toNat else zeroR
theorem rowAtR_no {n : Int} {T : List (List RowD)} {rep no : Int} (h : okAt n T rep no = false) : rowAtR n T rep no = zeroR := by unfold rowAtR; rw [h]; rfl
theorem rowAtR_yes {n : Int} {T : List (List RowD)} {p q : Nat} (h : okAt n T (p : Int) ((q : Int) + 1) = true) : rowAtR n T (p : Int) ((q : Int) + 1) = rowOf n T p q := by
  unfold rowAtR; rw [h]

  simp
theorem okAt_of {n : Int} {T : List (List RowD)} {rep no : Int} (h : okAt n T rep no = true) : goodTab n T = true ∧ instB n rep no = true := by
  unfold okAt at h; simpa using h
theorem rowOf_len {n : Int} {T : List (List RowD)} {p q : Nat} (h : goodTab n T = true) (hp : p < T.length) : (rowOf n T p q).l.length ≤ 5 := by
  by_cases hq : q < T[p].length
  · rw [rowOf_in hp hq]; exact (goodTab_row h hp hq).2.2
  · rw [rowOf_out hp (by omega)]; exact noneL_len n
theorem rowAtR_len (n : Int) (T : List (List RowD)) (rep no : Int) : (rowAtR n T rep no).l.length ≤ 5 := by
  cases h : okAt n T rep no with
  | false => rw [rowAtR_no h]; simp [zeroR]
  | true =>
    obtain ⟨h1, h2⟩ := okAt_of h
    obtain ⟨p, q, rfl, rfl, hp, _⟩ := inst_nat h1 h2
    rw [rowAtR_yes h]
    exact rowOf_len h1 hp

end Go.Proofs.Ytfffddhfagibpaa

namespace Go.Proofs.Ytfffddhfagibpaa
open Go.RowKit
set_option linter.unusedVariables false

theorem make_m (m : Nat) (h : m = 3 ∨ m = 5) (W : World) : (Instr.makeSlice 22 (.int .i64 (m : Int)) (.int .i64 (m : Int))).run Try.prog W = .ok (.slice (some ⟨W.heap.size, 0, none⟩) m m) (W.alloc (.cells (Array.replicate m (Value.int .i64 0)) 3)) := by
  rcases h with rfl | rfl
  · exact make_3 W
  · exact make_5 W

theorem splice_all (m : Nat) (l : List Int) (h : l.length = m) : splice (List.replicate m (Value.int .i64 0)) 0 (l.map (Value.int .i64)) = l.map (Value.int .i64) := by
  subst h
  simp [splice]

set_option maxRecDepth 100000 in
set_option maxHeartbeats 2000000 in
theorem copyRow_nat (m : Nat) (hm : m = 3 ∨ m = 5) (r : RowD) (u : Value) (w : World) (hv : Ints w u r.l) (hl : r.l.length = m) :
    Calls Try.prog 101 #[.int .i64 m, .agg #[.int .i64 r.b, .int .i64 r.v, .int .i64 r.st, .int .i64 r.k, .int .i64 r.i, .int .i64 r.f, .int .i64 r.t, .int .i64 r.a, .int .i64 r.s, u]] w (NewRow r w) := by
  obtain ⟨au, cu, rfl, hlu, hcap, hcu⟩ := hv
  obtain ⟨wc, hwc⟩ : ∃ wc, wc = (((w.alloc (.cells #[.int .i64 r.b, .int .i64 r.v, .int .i64 r.st, .int .i64 r.k, .int .i64 r.i, .int .i64 r.f, .int .i64 r.t, .int .i64 r.a, .int .i64 r.s, .slice au r.l.length cu] 73)).alloc (.cells #[.int .i64 0, .int .i64 0, .int .i64 0, .int .i64 0, .int .i64 0, .int .i64 0, .int .i64 0, .int .i64 0, .int .i64 0, .slice none 0 0] 73)).alloc (.cells (Array.replicate m (Value.int .i64 0)) 3)) := ⟨_, rfl⟩
  have ho := box_res_row w r (.slice au r.l.length cu) 73
  have xb : Ext w wc := by rw [hwc]; exact Ext.alloc3 _ _ _ _
  have hmk := make_m m hm
  have HWC := Lib.hid hwc
  have HO := Lib.hid ho
  have HCU := Lib.hid hcu
  have HL := Lib.hid hl
  have hsz : ((w.alloc (.cells #[.int .i64 r.b, .int .i64 r.v, .int .i64 r.st, .int .i64 r.k, .int .i64 r.i, .int .i64 r.f, .int .i64 r.t, .int .i64 r.a, .int .i64 r.s, .slice au r.l.length cu] 73)).alloc (.cells #[.int .i64 0, .int .i64 0, .int .i64 0, .int .i64 0, .int .i64 0, .int .i64 0, .int .i64 0, .int .i64 0, .int .i64 0, .slice none 0 0] 73)).heap.size = w.heap.size + 2 := by simp
  have HZ := Lib.hid hsz
  have hlen0 : (r.l.length : Int) ≤ 5 := by omega
  have hcap1 : r.l.length ≤ cu := hcap.1
  clear hwc ho hcu hl hlu hcap hsz
  go_enter Try.func101, Try.ntmps101
  go_wp2_with (with_reducible refine wpList_copy_splice rfl _ _ 22 22 rfl 3 Try.underlying22 rfl _ _ m m r.l.length cu rfl rfl (w.heap.size + 2) 0 (List.replicate m (Value.int .i64 0)) 3 ?c1 (r.l.map (Value.int .i64)) ?c2 ?c3 ?c4 ?c5 (w.heap.size + 2) wc ?c6 (Nat.le_refl _) ?_)
  case c1 =>
    have h := heap_alloc_new ((w.alloc (.cells #[.int .i64 r.b, .int .i64 r.v, .int .i64 r.st, .int .i64 r.k, .int .i64 r.i, .int .i64 r.f, .int .i64 r.t, .int .i64 r.a, .int .i64 r.s, .slice au r.l.length cu] 73)).alloc (.cells #[.int .i64 0, .int .i64 0, .int .i64 0, .int .i64 0, .int .i64 0, .int .i64 0, .int .i64 0, .int .i64 0, .int .i64 0, .slice none 0 0] 73)) (.cells (Array.replicate m (Value.int .i64 0)) 3)
    rw [HZ.out] at h
    rw [h]
    simp
  case c2 =>
    rw [List.length_map, HL.out]
    exact (Nat.min_self m).symm
  case c3 =>
    intro hp
    have hp' : 0 < r.l.length := by simpa using hp
    obtain ⟨b, off, rfl, hc⟩ := HCU.out hp'
    refine ⟨_, rfl, fun j z hj => ?_⟩
    have hj5 : j < r.l.length := (List.getElem?_eq_some_iff.1 hj).1
    have hx := xb.cell (hc j hj5)
    rw [HWC.out] at hx
    rw [show (⟨b, off, none⟩ : Addr).add j = ⟨b, off + j, none⟩ by simp [Addr.add], hx, hj]
    rfl
  case c4 =>
    rw [List.length_map, List.length_replicate, HL.out]; omega
  case c5 =>
    intro z hz
    obtain ⟨q, _, rfl⟩ := List.mem_map.1 hz
    rfl
  case c6 => rw [HWC.out]; exact Below.refl _ _
  intro w' HG hb
  have hg := HG.out
  rw [splice_all m r.l HL.out] at hg
  have hso : w.heap.size + 2 ≤ wc.heap.size := by rw [HWC.out]; simp
  have x2 : Ext w w' := Below.trans xb (Below.mono hb (by omega))
  have hfr : Fresh (w.heap.size + 2) w' (.slice (some ⟨w.heap.size + 2, 0, none⟩) m m) r.l := by
    refine ⟨by simp, .inr ⟨w.heap.size + 2, m, (r.l.map (Value.int .i64)).toArray, by rw [HL.out], Nat.le_refl _, hg, by rw [HL.out]; exact Nat.le_refl _, by unfold maxLen; omega, by simp [HL.out], by simp [← List.map_take]⟩⟩
  have hlow : ∀ b o, b < w.heap.size + 2 → w'.cell? ⟨b, o, none⟩ = wc.cell? ⟨b, o, none⟩ := fun b o hbo => hb.cell (p := ⟨b, o, none⟩) hbo
  have hfro : ∀ b o, b < w.heap.size + 2 → w'.frozen? ⟨b, o, none⟩ = wc.frozen? ⟨b, o, none⟩ := fun b o hbo => hb.frozen (p := ⟨b, o, none⟩) hbo
  have xo : Ext ((w.alloc (.cells #[.int .i64 r.b, .int .i64 r.v, .int .i64 r.st, .int .i64 r.k, .int .i64 r.i, .int .i64 r.f, .int .i64 r.t, .int .i64 r.a, .int .i64 r.s, .slice au r.l.length cu] 73)).alloc (.cells #[.int .i64 0, .int .i64 0, .int .i64 0, .int .i64 0, .int .i64 0, .int .i64 0, .int .i64 0, .int .i64 0, .int .i64 0, .slice none 0 0] 73)) wc := by rw [HWC.out]; exact Ext.alloc1 ((w.alloc (.cells #[.int .i64 r.b, .int .i64 r.v, .int .i64 r.st, .int .i64 r.k, .int .i64 r.i, .int .i64 r.f, .int .i64 r.t, .int .i64 r.a, .int .i64 r.s, .slice au r.l.length cu] 73)).alloc (.cells #[.int .i64 0, .int .i64 0, .int .i64 0, .int .i64 0, .int .i64 0, .int .i64 0, .int .i64 0, .int .i64 0, .int .i64 0, .slice none 0 0] 73)) (.cells (Array.replicate m (Value.int .i64 0)) 3)
  obtain ⟨p0, p1, p2, p3, p4, p5, p6, p7, p8, p9⟩ := HO.out.1.1.ext xo
  obtain ⟨y0, y1, y2, y3, y4, y5, y6, y7, y8, y9⟩ := HO.out.1.2.ext (by rw [HZ.out]; omega) xo
  obtain ⟨o0, o1, o2, o3, o4, o5, o6, o7, o8, o9⟩ := HO.out.2.1.ext xo
  obtain ⟨z0, z1, z2, z3, z4, z5, z6, z7, z8, z9⟩ := HO.out.2.2.ext (by rw [HZ.out]; omega) xo
  have l0 : w.heap.size < w.heap.size + 2 := by omega
  have l1 : w.heap.size + 1 < w.heap.size + 2 := by omega
  rw [← hlow _ _ l0] at p0 p1 p2 p3 p4 p5 p6 p7 p8 p9
  rw [← hfro _ _ l0] at y0 y1 y2 y3 y4 y5 y6 y7 y8 y9
  rw [← hlow _ _ l1] at o0 o1 o2 o3 o4 o5 o6 o7 o8 o9
  rw [← hfro _ _ l1] at z0 z1 z2 z3 z4 z5 z6 z7 z8 z9
  have F := Lib.hid hfr
  clear hlow hfro hg HG hb l0 l1 hfr xo hso hmk hlen0 hcap1
  go_wp2
  refine bodyPost_ret (v := .agg #[.int .i64 r.b, .int .i64 r.v, .int .i64 r.st, .int .i64 r.k, .int .i64 r.i, .int .i64 r.f, .int .i64 r.t, .int .i64 r.a, .int .i64 r.s, .slice (some ⟨w.heap.size + 2, 0, none⟩) m m]) (by simp [results, Try.results101, go_sem, o0, o1, o2, o3, o4, o5, o6, o7, o8, o9]) rfl ⟨_, rfl, ?_, ?_⟩
  · exact (((((((((((F.out.set _ _ _ (by omega)).set _ _ _ (by omega)).set _ _ _ (by omega)).set _ _ _ (by omega)).set _ _ _ (by omega)).set _ _ _ (by omega)).set _ _ _ (by omega)).set _ _ _ (by omega)).set _ _ _ (by omega)).set _ _ _ (by omega)).set _ _ _ (by omega)).more (by omega)
  · exact (((((((((((x2.setc (by dsimp only; omega)).setc (by dsimp only; omega)).setc (by dsimp only; omega)).setc (by dsimp only; omega)).setc (by dsimp only; omega)).setc (by dsimp only; omega)).setc (by dsimp only; omega)).setc (by dsimp only; omega)).setc (by dsimp only; omega)).setc (by dsimp only; omega)).setc (by dsimp only; omega))

theorem copyRow_any (n : Int) (r : RowD) (u : Value) (w : World) (hn : isGrp n = true) (hv : Ints w u r.l) (hl : (r.l.length : Int) = n) :
    Calls Try.prog 101 #[.int .i64 n, .agg #[.int .i64 r.b, .int .i64 r.v, .int .i64 r.st, .int .i64 r.k, .int .i64 r.i, .int .i64 r.f, .int .i64 r.t, .int .i64 r.a, .int .i64 r.s, u]] w (NewRow r w) := by
  obtain ⟨m, rfl, hm⟩ := nat_of_grp hn
  exact copyRow_nat m hm r u w hv (by omega)

theorem res_row (w : World) (T : TypeId) : RowAt (w.alloc (.cells #[.int .i64 0, .int .i64 0, .int .i64 0, .int .i64 0, .int .i64 0, .int .i64 0, .int .i64 0, .int .i64 0, .int .i64 0, .slice none 0 0] T)) w.heap.size ⟨0, 0, 0, 0, 0, 0, 0, 0, 0, []⟩ (.slice none 0 0) ∧
    FreeAt (w.alloc (.cells #[.int .i64 0, .int .i64 0, .int .i64 0, .int .i64 0, .int .i64 0, .int .i64 0, .int .i64 0, .int .i64 0, .int .i64 0, .slice none 0 0] T)) w.heap.size := by
  refine ⟨⟨?_, ?_, ?_, ?_, ?_, ?_, ?_, ?_, ?_, ?_⟩, ⟨?_, ?_, ?_, ?_, ?_, ?_, ?_, ?_, ?_, ?_⟩⟩ <;> go_simp

set_option maxRecDepth 100000 in
set_option maxHeartbeats 2000000 in
theorem emptyRow_any (n : Int) (w : World) (hn : isGrp n = true) :
    Calls Try.prog 102 #[.int .i64 n] w (NewRow (emptyR n) w) := by
  obtain ⟨L, hL⟩ : ∃ L, L = noneL n := ⟨_, rfl⟩
  have hc := fun W => joinNone_any n W hn
  have hLE : emptyR n = ⟨0, 0, 0, 0, 0, 0, 0, 0, 0, L⟩ := by rw [hL]; rfl
  rw [← hL] at hc
  rw [hLE]
  have HC := Lib.hid hc
  have HO := Lib.hid (res_row w 73)
  clear hL hc hLE hn
  go_enter Try.func102, Try.ntmps102
  go_wp2_with fail
  refine (HC.out _).mono ?_
  rintro e w1 ⟨v, rfl, f1, x1⟩
  have hx := (Ext.alloc1 w _).trans x1
  obtain ⟨o0, o1, o2, o3, o4, o5, o6, o7, o8, o9⟩ := HO.out.1.ext x1
  obtain ⟨z0, z1, z2, z3, z4, z5, z6, z7, z8, z9⟩ := HO.out.2.ext (by simp) x1
  obtain ⟨ay, cy, rfl⟩ := f1.form
  rw [World.size_alloc] at f1
  have F := Lib.hid f1
  clear f1 x1
  go_wp2
  refine bodyPost_ret (v := .agg #[.int .i64 0, .int .i64 0, .int .i64 0, .int .i64 0, .int .i64 0, .int .i64 0, .int .i64 0, .int .i64 0, .int .i64 0, .slice ay L.length cy]) (by simp [results, Try.results102, go_sem, o0, o1, o2, o3, o4, o5, o6, o7, o8, o9]) rfl ⟨_, rfl, ?_, ?_⟩
  · exact ((((((((((F.out.set _ _ _ (by omega)).set _ _ _ (by omega)).set _ _ _ (by omega)).set _ _ _ (by omega)).set _ _ _ (by omega)).set _ _ _ (by omega)).set _ _ _ (by omega)).set _ _ _ (by omega)).set _ _ _ (by omega)).set _ _ _ (by omega)).more (by omega)
  · exact ((((((((((hx.setc (Nat.le_refl _)).setc (Nat.le_refl _)).setc (Nat.le_refl _)).setc (Nat.le_refl _)).setc (Nat.le_refl _)).setc (Nat.le_refl _)).setc (Nat.le_refl _)).setc (Nat.le_refl _)).setc (Nat.le_refl _)).setc (Nat.le_refl _))

end Go.Proofs.Ytfffddhfagibpaa

namespace Go.Proofs.Ytfffddhfagibpaa
open Go.RowKit
set_option linter.unusedVariables false

theorem makeT_3 (W : World) : (Instr.makeSlice 65 (.int .i64 3) (.int .i64 3)).run Try.prog W = .ok (.slice (some ⟨W.heap.size, 0, none⟩) 3 3) (W.alloc (.cells #[.slice none 0 0, .slice none 0 0, .slice none 0 0] 127)) := by kernel_rfl
theorem makeT_5 (W : World) : (Instr.makeSlice 65 (.int .i64 5) (.int .i64 5)).run Try.prog W = .ok (.slice (some ⟨W.heap.size, 0, none⟩) 5 5) (W.alloc (.cells #[.slice none 0 0, .slice none 0 0, .slice none 0 0, .slice none 0 0, .slice none 0 0] 127)) := by kernel_rfl
theorem makeT_m (m : Nat) (h : m = 3 ∨ m = 5) (W : World) : (Instr.makeSlice 65 (.int .i64 (m : Int)) (.int .i64 (m : Int))).run Try.prog W = .ok (.slice (some ⟨W.heap.size, 0, none⟩) m m) (W.alloc (.cells (Array.replicate m (.slice none 0 0)) 127)) := by
  rcases h with rfl | rfl
  · exact makeT_3 W
  · exact makeT_5 W
theorem FreshI.nil (lo hi : Nat) (w : World) : FreshI lo hi w (.slice none 0 0) [] :=
  ⟨[], [], World.ownsRow_nil _ _ _ _, Cells.nil _, Rows_.nil _ _, fun _ _ h => by simp at h, fun b h => by simp [Value.ownBlock] at h, fun _ _ h => by simp at h⟩
theorem fresh_nils (m : Nat) (hm : m ≤ 5) (w : World) (lo : Nat) (hlo : lo ≤ w.heap.size) : FreshT lo (w.heap.size + 1) (w.alloc (.cells (Array.replicate m (.slice none 0 0)) 127)) (.slice (some ⟨w.heap.size, 0, none⟩) m m) (List.replicate m []) := by
  have h := World.ownsRow_lit (e := 127) (size := 1) (base := lo) w (Array.replicate m (.slice none 0 0)) m hlo (by unfold maxLen; omega) (by simp)
  refine ⟨_, fun _ => w.heap.size + 1, by rw [List.length_replicate]; exact h, fun b e => ?_, fun _ _ => Nat.le_refl _, (show lo ≤ w.heap.size + 1 by omega), Nat.le_refl _, fun j hj hj' => ?_⟩
  · have := Option.some.inj e
    simp at this
    show b < w.heap.size + 1
    omega
  · have e1 : (Array.replicate m (Value.slice none 0 0)).toList[j]'hj' = .slice none 0 0 := by simp
    rw [e1, List.getElem_replicate]
    exact FreshI.nil _ _ _

/-- The table that comes back. -/
def newN (n : Int) : Int := if isGrp n then n else 0
def newT (n : Int) : List (List RowD) := if isGrp n then List.replicate n.toNat [] else []
def TwoTab (m : Int) (T : List (List RowD)) (b : Bool) (w : World) (e : Ending) (w' : World) : Prop := ∃ v hi, e = .returned (.tuple #[.agg #[.int .i64 m, v], .bool b]) ∧ FreshT w.heap.size hi w' v T ∧ Ext w w'
theorem new_no {n : Int} (h : isGrp n = false) : newN n = 0 ∧ newT n = [] := by unfold newN newT; rw [h]; exact ⟨rfl, rfl⟩
theorem new_yes {m : Nat} (h : isGrp (m : Int) = true) : newN (m : Int) = m ∧ newT (m : Int) = List.replicate m [] := by unfold newN newT; rw [h]; simp
theorem newT_nil (n : Int) : ∀ R ∈ newT n, R = [] := by
  unfold newT
  split
  · intro R hR; exact (List.mem_replicate.1 hR).2
  · intro R hR; cases hR

/-- A table comes back. -/
def OneTab (m : Int) (T : List (List RowD)) (w : World) (e : Ending) (w' : World) : Prop := ∃ v hi, e = .returned (.agg #[.int .i64 m, v]) ∧ FreshT w.heap.size hi w' v T ∧ Ext w w'
theorem fresh_nils1 (m : Nat) (hm : m ≤ 5) (w : World) (o : Obj) : FreshT w.heap.size (w.heap.size + 2) ((w.alloc o).alloc (.cells (Array.replicate m (.slice none 0 0)) 127)) (.slice (some ⟨w.heap.size + 1, 0, none⟩) m m) (List.replicate m []) := by
  have sz : (w.alloc o).heap.size = w.heap.size + 1 := by simp
  have hr := fresh_nils m hm (w.alloc o) w.heap.size (by omega)
  rw [sz] at hr
  exact hr
theorem FreshT.nil (lo : Nat) (w : World) : FreshT lo lo w (.slice none 0 0) [] :=
  ⟨[], fun _ => lo, World.ownsRow_nil _ _ _ _, fun b h => by simp [Value.ownBlock] at h, fun _ _ => Nat.le_refl _, Nat.le_refl _, Nat.le_refl _, fun j h _ => by simp at h⟩
theorem FreshT.set {lo hi : Nat} {w : World} {v : Value} {T : List (List RowD)} (h : FreshT lo hi w v T) (b o : Nat) (x : Value) (hb : b < lo) : FreshT lo hi (w.setCell ⟨b, o, none⟩ x) v T :=
  h.kept ⟨by simp, fun q q1 _ => Below.heap_setCell _ _ _ q (by dsimp only; omega)⟩

set_option maxHeartbeats 1000000 in
theorem l4New_nat (m : Nat) (hm : m = 3 ∨ m = 5) (w : World) :
    Calls Try.prog 114 #[.int .i64 m] w (OneTab m (List.replicate m []) w) := by
  have hmk := makeT_m m hm
  have HM := Lib.hid hm
  clear hm
  go_enter Try.func114, Try.ntmps114
  go_wp2
  refine bodyPost_ret (v := .agg #[.int .i64 m, .slice (some ⟨w.heap.size + 1, 0, none⟩) m m]) (by simp [results, Try.results114, go_sem]) rfl ⟨_, w.heap.size + 2, rfl, ?_, ?_⟩
  · exact fresh_nils1 m (by have := HM.out; omega) _ _
  · exact ((Ext.refl w).alloc _).alloc _

set_option maxHeartbeats 400000 in
theorem markRowS_nil (v : Value) (k : Int) (w : World) (hv : Rowz w v []) :
    Calls Try.prog 104 #[v, .int .i64 k] w (IntExt k w) := by
  obtain ⟨av, cv, rfl, _, _, _⟩ := hv
  go_enter Try.func104, Try.ntmps104
  go_wp2
  refine wp_loop_rounds 1 ?_; rw [rounds_succ]
  go_wp2
  go_ret
  exact ⟨rfl, Ext.refl _⟩
set_option maxHeartbeats 400000 in
theorem heldRowS_nil (v : Value) (k : Int) (w : World) (hv : Rowz w v []) :
    Calls Try.prog 105 #[v, .int .i64 k] w (IntExt k w) := by
  obtain ⟨av, cv, rfl, _, _, _⟩ := hv
  go_enter Try.func105, Try.ntmps105
  go_wp2
  refine wp_loop_rounds 1 ?_; rw [rounds_succ]
  go_wp2
  go_ret
  exact ⟨rfl, Ext.refl _⟩

set_option maxHeartbeats 1000000 in
theorem markRowSS_nil (v : Value) (T : List (List RowD)) (k : Int) (w : World) (hv : Rowzz w v T) (hT : ∀ R ∈ T, R = []) :
    Calls Try.prog 77 #[v, .int .i64 k] w (IntExt k w) := by
  obtain ⟨av, cv, rfl, hlv, _, hcv⟩ := hv
  unfold maxLen at hlv
  have HT := Lib.hid hT
  clear hT
  go_enter Try.func77, Try.ntmps77
  go_wp2
  go_loopw [1, 5] (fun m i wr => ∃ j : Nat, j ≤ T.length ∧ i = .int .i64 j ∧ m = .int .i64 k ∧ Ext w wr) (fun _ i _ => T.length - (intOf i).toNat)
  case atStart => exact ⟨0, Nat.zero_le _, rfl, rfl, Ext.refl _⟩
  case round =>
    obtain ⟨j, hj, rfl, rfl, hx⟩ := hrel
    by_cases hlt : j < T.length
    · obtain ⟨b, off, rfl, dv⟩ := hcv (by omega)
      obtain ⟨u, hu, iu⟩ := dv j hlt
      rw [HT.out _ (List.getElem_mem hlt)] at iu
      have c0 := hx.cell hu
      have IU := Lib.hid (iu.ext hx)
      clear hcv dv hu iu
      go_wp2_with fail
      refine (markRowS_nil _ _ _ IU.out).mono ?_
      rintro e w2 ⟨rfl, x2⟩
      have hx2 := hx.trans x2
      clear x2 hx c0
      go_wp2
      go_roundw
      case rel => exact ⟨j + 1, by omega, by go_num, rfl, hx2⟩
      case measure => simp [intOf]; omega
    · obtain rfl : j = T.length := by omega
      go_wp2
      go_ret
      exact ⟨rfl, hx⟩

set_option maxHeartbeats 1000000 in
theorem heldRowSS_nil (v : Value) (T : List (List RowD)) (k : Int) (w : World) (hv : Rowzz w v T) (hT : ∀ R ∈ T, R = []) (h0 : 0 ≤ k) :
    Calls Try.prog 79 #[v, .int .i64 k] w (IntExt k w) := by
  obtain ⟨av, cv, rfl, hlv, _, hcv⟩ := hv
  unfold maxLen at hlv
  have HT := Lib.hid hT
  clear hT
  go_enter Try.func79, Try.ntmps79
  go_wp2
  go_loopw [1, 5] (fun m i wr => ∃ j : Nat, j ≤ T.length ∧ i = .int .i64 j ∧ m = .int .i64 k ∧ Ext w wr) (fun _ i _ => T.length - (intOf i).toNat)
  case atStart => exact ⟨0, Nat.zero_le _, rfl, rfl, Ext.refl _⟩
  case round =>
    obtain ⟨j, hj, rfl, rfl, hx⟩ := hrel
    by_cases hlt : j < T.length
    · obtain ⟨b, off, rfl, dv⟩ := hcv (by omega)
      obtain ⟨u, hu, iu⟩ := dv j hlt
      rw [HT.out _ (List.getElem_mem hlt)] at iu
      have c0 := hx.cell hu
      have IU := Lib.hid (iu.ext hx)
      clear hcv dv hu iu
      go_wp2_with fail
      refine (heldRowS_nil _ _ _ IU.out).mono ?_
      rintro e w2 ⟨rfl, x2⟩
      have hx2 := hx.trans x2
      clear x2 hx c0
      go_wp2
      go_roundw
      case rel => exact ⟨j + 1, by omega, by go_num, rfl, hx2⟩
      case measure => simp [intOf]; omega
    · obtain rfl : j = T.length := by omega
      go_wp2
      go_ret
      exact ⟨rfl, hx⟩

set_option maxHeartbeats 1000000 in
theorem markTable_nil (n : Int) (v : Value) (T : List (List RowD)) (k : Int) (w : World) (hv : Rowzz w v T) (hT : ∀ R ∈ T, R = []) :
    Calls Try.prog 43 #[.agg #[.int .i64 n, v], .int .i64 k] w (IntExt k w) := by
  have HT := Lib.hid hT
  clear hT
  go_enter Try.func43, Try.ntmps43
  go_wp2_with fail
  refine (markRowSS_nil _ T _ _ (hv.ext (Ext.alloc (Ext.refl _) _)) HT.out).mono ?_
  rintro e w1 ⟨rfl, x1⟩
  have hx := (Ext.alloc (Ext.refl w) _).trans x1
  clear x1
  go_wp2
  go_ret
  exact ⟨rfl, hx⟩

set_option maxHeartbeats 1000000 in
theorem heldTable_nil (n : Int) (v : Value) (T : List (List RowD)) (k : Int) (w : World) (hv : Rowzz w v T) (hT : ∀ R ∈ T, R = []) (h0 : 0 ≤ k) :
    Calls Try.prog 45 #[.agg #[.int .i64 n, v], .int .i64 k] w (IntExt k w) := by
  have HT := Lib.hid hT
  clear hT
  go_enter Try.func45, Try.ntmps45
  go_wp2_with fail
  refine (heldRowSS_nil _ T _ _ (hv.ext (Ext.alloc (Ext.refl _) _)) HT.out h0).mono ?_
  rintro e w1 ⟨rfl, x1⟩
  have hx := (Ext.alloc (Ext.refl w) _).trans x1
  clear x1
  go_wp2
  go_ret
  exact ⟨rfl, hx⟩

end Go.Proofs.Ytfffddhfagibpaa

namespace Go.Proofs.Ytfffddhfagibpaa
open Go.RowKit
set_option linter.unusedVariables false

theorem markRowS_empty (a : Option Addr) (c : Nat) (k : Int) (w : World) : Calls Try.prog 104 #[.slice a 0 c, .int .i64 k] w (fun e w' => e = .returned (.int .i64 k) ∧ w' = w) := by
  go_enter Try.func104, Try.ntmps104
  go_wp2
  refine wp_loop_rounds 1 ?_; rw [rounds_succ]
  go_wp2
  go_ret
  exact ⟨rfl, rfl⟩
set_option maxHeartbeats 4000000 in
set_option maxRecDepth 100000 in
theorem markTabW_any (P : Nat → Prop) (g0 cap : Nat) (vs US : List Value) (LS : List (List Int)) (q : WinT) (XS : Nat → List Value) (T : List (List RowD)) (k : Int) (w : World) (hf : TabF P g0 vs US q T) (hs : TabS w g0 vs US LS q XS k 0 T) (h0 : 0 ≤ k) (hk : k ≤ 1073741824) (h1 : bulkT T ≤ 10995116277) :
    Calls Try.prog 77 #[.slice (some ⟨g0, 0, none⟩) T.length cap, .int .i64 k] w (fun e w' => e = .returned (.int .i64 (k + (weighs T).sum)) ∧ (∃ LT XT, TabS w' g0 vs US LT q XT k T.length T) ∧ ChgB P w w') := by
  have hws := weighs_sum T
  have HF := Lib.hid hf
  have HS0 := Lib.hid hs
  have HWS := Lib.hid hws
  have H1 := Lib.hid h1
  have hLen : T.length ≤ 1099511627776 := by unfold bulkT at h1; omega
  clear hf hs hws h1
  go_enter Try.func77, Try.ntmps77
  go_wp2
  go_loopw [1, 5] (fun m i wr => ∃ (j : Nat) (r : Int) (LT : List (List Int)) (XT : Nat → List Value), j ≤ T.length ∧ i = .int .i64 j ∧ m = .int .i64 r ∧ Hid (r = k + sumN (weighs T) j) ∧ Hid (TabS wr g0 vs US LT q XT k j T) ∧ Hid (ChgB P w wr)) (fun _ i _ => T.length - (intOf i).toNat)
  case atStart => exact ⟨0, k, LS, XS, Nat.zero_le _, rfl, rfl, Lib.hid (by rw [sumN_zero]; simp), HS0, Lib.hid (ChgB.refl _ _)⟩
  case round =>
    clear HS0
    obtain ⟨j, r, LT, XT, hj, rfl, rfl, hr, hS, hC⟩ := hrel
    by_cases hlt : j < T.length
    · have hr0 : 0 ≤ r := by have := hr.out; omega
      have hr1 : r ≤ 1099511627776 := by
        have h := hr.out
        have h2 := sumN_mono (g := weighs T) (k := j) (by rw [weighs_len]; omega)
        have := HWS.out; have := H1.out; omega
      have hs := sumN_succ (g := weighs T) (k := j) (by rw [weighs_len]; exact hlt)
      rw [weighs_get hlt] at hs
      have HSU := Lib.hid hs
      clear hs
      rcases HF.out.val j hlt with ⟨he, a, c, hv, _⟩ | ⟨hne, hv, _⟩
      · have hc := hS.out.out.cell j _ hv
        have HE := Lib.hid he
        clear hv he
        go_wp2_with fail
        refine (markRowS_empty _ _ _ _).mono ?_
        rintro e w3 ⟨rfl, rfl⟩
        clear hc
        go_wp2
        go_roundw
        case rel => exact ⟨j + 1, r, LT, XT, by omega, by go_num, rfl, Lib.hid (by have h1 := hr.out; have h2 := HSU.out; have h3 := HE.out; rw [h3] at h2; simp [weigh] at h2; omega), Lib.hid (hS.out.skip hlt HE.out), hC⟩
        case measure => simp [intOf]; omega
      · have hc := hS.out.out.cell j _ hv
        have hbx := hS.out.box j hlt hne
        have hlen : bulkR T[j] ≤ 1099511627776 := by have := bulkT_row hlt; have := H1.out; omega
        have hcall := markRowW_any 0 (q.b j) (q.o j) (mAt T j) (q.c j) _ US LT T[j] r _ hbx.1 hS.out.row (fun i u hu => (HF.out.lists i u hu).1 j hlt hne) hbx.2 (hS.out.old j hlt (Nat.le_refl _)) hr0 hr1 hlen
        have HCALL := Lib.hid hcall
        have HNE := Lib.hid hne
        obtain ⟨n, hn⟩ : ∃ n, n = T[j].length := ⟨_, rfl⟩
        rw [← hn] at hc
        have HN := Lib.hid hn
        have hwj := weigh_sum T[j]
        obtain ⟨s, hsd⟩ : ∃ s, s = (weigh T[j]).sum := ⟨_, rfl⟩
        rw [← hsd] at hwj
        have HSD := Lib.hid hsd
        have hs1 : s ≤ 109951162770 := by have := bulkT_row hlt; have := H1.out; omega
        clear hv hbx hcall hne hn hsd hwj
        go_wp2_with fail
        rw [HN.out]
        refine HCALL.out.mono ?_
        rintro e w3 ⟨rfl, zs, LT', b3, k3, r3, o3, m3, c3⟩
        have hr' := hr.out
        have hS3 := TabS.step HF.out hS.out hlt HNE.out b3 k3 r3 o3 (by rw [hr'] at m3; exact m3) c3
        have hC3 : ChgB P w w3 := hC.out.trans (c3.more (by
          rintro b (rfl | ⟨n, u, hu, hub⟩)
          · exact HF.out.foot.2.1 j hlt HNE.out
          · exact HF.out.foot.2.2 n u b hu hub))
        have S3 := Lib.hid hS3
        have C3 := Lib.hid hC3
        rw [← HSD.out]
        clear b3 k3 r3 o3 m3 c3 hS3 hC3 hr' hc
        go_wp2
        go_roundw
        case rel => exact ⟨j + 1, r + s, LT', _, by omega, by go_num, rfl, Lib.hid (by have h1 := hr.out; have h2 := HSU.out; have h3 := HSD.out; omega), S3, C3⟩
        case measure => simp [intOf]; omega
    · obtain rfl : j = T.length := by omega
      go_wp2
      go_ret
      refine ⟨?_, ⟨LT, XT, hS.out⟩, hC.out⟩
      have h := hr.out
      have h2 := sumN_all (weighs T)
      rw [weighs_len] at h2
      rw [h2] at h
      rw [h]; rfl
end Go.Proofs.Ytfffddhfagibpaa
