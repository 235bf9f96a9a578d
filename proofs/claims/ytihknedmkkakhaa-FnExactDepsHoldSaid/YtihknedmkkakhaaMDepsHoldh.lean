/- Texts of this proof, part h: words, plain facts, contracts. -/
import Derived.Test.YtihknedmkkakhaaMDepsHoldg
import Derived.Deep.DeepCutAuto
import Derived.Deep.RegionWith
import Derived.Deep.RegionHeld3
import Derived.Test.YtihknedmkkakhaaMDepsHolde
import Derived.Test.YtihknedmkkakhaaMDepsHoldc

namespace Go.Proofs.Ytihknedmkkakhaa
open Go.RowKit Go.Maps
set_option linter.unusedVariables false

theorem pairs_len (T : List (List RowD)) : ((insts T).map pairOf).length = (insts T).length := by simp
theorem pair_at {w : World} {v : Value} {x : Nat × Nat} (h : Ints w v (pairOf x)) : ∃ b o c, v = .slice (some ⟨b, o, none⟩) 2 c ∧ w.cell? ⟨b, o, none⟩ = some (.int .i64 x.1) ∧ w.cell? ⟨b, o + 1, none⟩ = some (.int .i64 ((x.2 : Int) + 1)) := by
  obtain ⟨a, c, rfl, _, _, hc⟩ := h
  have hl : (pairOf x).length = 2 := rfl
  have h0 : 0 < (pairOf x).length := by omega
  have h1 : 1 < (pairOf x).length := by omega
  obtain ⟨b, o, rfl, hk⟩ := hc h0
  have z0 := hk 0 h0
  have z1 := hk 1 h1
  exact ⟨b, o, c, rfl, by simpa [pairOf] using z0, by simpa [pairOf] using z1⟩

set_option maxHeartbeats 4000000 in
set_option maxRecDepth 100000 in
theorem l6Hold_any (n : Int) (u : Value) (T : List (List RowD)) (w : World) (hu : Rowzz w u T) (hg : goodTab n T = true) :
    Calls Try.prog 87 #[.agg #[.int .i64 n, u]] w (BoolExt (holdB n T) w) := by
  have H56 := Lib.hid (goodTab_both hg)
  have HG := Lib.hid hg
  have HU := Lib.hid hu
  obtain ⟨au, cu, rfl, hlu, _, _⟩ := hu
  clear hg
  have hx0 := Ext.alloc1 w (.cells #[.int .i64 n, .slice au T.length cu] 48)
  have b0 := attrAt_new w 48 n (.slice au T.length cu)
  go_enter Try.func87, Try.ntmps87
  go_wp2_with fail
  refine (l4Committed_any n _ T _ (HU.out.ext hx0) H56.out.1 H56.out.2).mono ?_
  rintro e w1 ⟨v1, rfl, f1, x1⟩
  have B1 := Lib.hid (b0.ext x1)
  have X1 := Lib.hid (hx0.trans x1)
  have hi := f1.intss
  rw [allTo_insts] at hi
  have hi' : Intss w1 v1 ((insts T).map pairOf) := hi
  have HI := Lib.hid hi'
  obtain ⟨a1, k1, rfl, hl1, hcap1, hc1⟩ := hi'
  rw [pairs_len] at hl1 hcap1 hc1 ⊢
  unfold maxLen at hl1
  clear f1 x1 hi hx0 b0
  obtain ⟨m, hm⟩ : ∃ m, m = (insts T).length := ⟨_, rfl⟩
  rw [← hm] at hl1 hcap1 ⊢
  have HM := Lib.hid hm
  have HC1 := Lib.hid hc1
  obtain ⟨hcap, _, _⟩ := hcap1
  clear hm hc1
  go_wp2
  go_loopw [14] (fun i wr => ∃ j : Nat, j ≤ m ∧ i = .int .i64 j ∧ Hid (∀ a b (ha : a < (insts T).length) (hb : b < a), a < j → cfl n T ((insts T)[b]) ((insts T)[a]) = false) ∧ Ext w1 wr) (fun i _ => m - (intOf i).toNat)
  case atStart => exact ⟨0, Nat.zero_le _, rfl, Lib.hid (fun _ _ _ _ h => by omega), Ext.refl _⟩
  case round =>
    obtain ⟨j, hj, rfl, DH, hx⟩ := hrel
    by_cases hlt : j < m
    · have hjl : j < (insts T).length := by rw [← HM.out]; exact hlt
      obtain ⟨bu, ou, ha1, du⟩ := HC1.out (by omega)
      subst ha1
      obtain ⟨vy, hy1, iy⟩ := du j hjl
      have ey : ((insts T).map pairOf)[j]?.getD [] = pairOf (insts T)[j] := by simp [hjl]
      rw [ey] at iy
      obtain ⟨y, hy⟩ : ∃ y, y = (insts T)[j] := ⟨_, rfl⟩
      rw [← hy] at iy
      obtain ⟨by_, oy, cy, rfl, y0, y1⟩ := pair_at iy
      have gu := hx.cell hy1
      have Y0 := Lib.hid y0
      have Y1 := Lib.hid y1
      have HY := Lib.hid hy
      have hyc := mem_insts.1 (by rw [hy]; exact List.getElem_mem hjl : y ∈ insts T)
      have HYC := Lib.hid hyc
      have HX := Lib.hid hx
      clear du hy1 iy ey y0 y1 hy hyc
      have hj0 : (j : Int) ≤ k1 := by omega
      have hj1 : j ≤ k1 := by omega
      go_wp2
      go_loopw [23] (fun i wr => ∃ k : Nat, k ≤ j ∧ i = .int .i64 k ∧ Hid (∀ b (hb : b < k) (hb2 : b < (insts T).length), cfl n T ((insts T)[b]) y = false) ∧ Ext w1 wr) (fun i _ => j - (intOf i).toNat)
      case atStart => exact ⟨0, Nat.zero_le _, rfl, Lib.hid (fun _ h => by omega), HX.out⟩
      case round =>
        clear gu HX
        obtain ⟨k, hk, rfl, DI, hx⟩ := hrel
        by_cases hkt : k < j
        · have hkl : k < (insts T).length := by rw [← HM.out]; omega
          obtain ⟨bu', ou', ha1, du⟩ := HC1.out (by omega)
          simp only [Option.some.injEq, Addr.mk.injEq, and_true] at ha1
          obtain ⟨rfl, rfl⟩ := ha1
          obtain ⟨vx, hx1, ix⟩ := du k hkl
          have ex : ((insts T).map pairOf)[k]?.getD [] = pairOf (insts T)[k] := by simp [hkl]
          rw [ex] at ix
          obtain ⟨x, hxx⟩ : ∃ x, x = (insts T)[k] := ⟨_, rfl⟩
          rw [← hxx] at ix
          obtain ⟨bx, ox, cx, rfl, x0, x1⟩ := pair_at ix
          have gu := hx.cell hx1
          have HXX := Lib.hid hxx
          have hxc := mem_insts.1 (by rw [hxx]; exact List.getElem_mem hkl : x ∈ insts T)
          have HXC := Lib.hid hxc
          have X0' := Lib.hid x0
          have X1' := Lib.hid x1
          have HX := Lib.hid hx
          have e0 := hx.cell x0
          have e1 := hx.cell x1
          obtain ⟨t0, t1⟩ := B1.out.ext hx
          obtain ⟨p, q⟩ := x
          obtain ⟨p', q'⟩ := y
          clear du hx1 ix ex x0 x1 hxx hxc hx
          have hcx := com_row HG.out HXC.out
          obtain ⟨d, hd⟩ : ∃ d, d = rowOf n T p q := ⟨_, rfl⟩
          have cR : ∀ W, Ext w1 W → Calls Try.prog 73 #[.agg #[.int .i64 n, .slice au T.length cu], .int .i64 p, .int .i64 ((q : Int) + 1)] W (NewRow d W) := fun W hW => by
            rw [hd]
            exact l4At_any n _ T p q _ (HU.out.ext (X1.out.trans hW)) HG.out hcx.2.2.1 hcx.2.2.2
          have CR := Lib.hid cR
          have HD8 := Lib.hid hd
          clear cR hcx hd
          have ks : ∀ W, Ext w1 W → Ext w1 W ∧ W.cell? ⟨w.heap.size, 0, none⟩ = some (.int .i64 n) ∧ W.cell? ⟨w.heap.size, 1, none⟩ = some (.slice au T.length cu) ∧ W.cell? ⟨bx, ox, none⟩ = some (.int .i64 p) ∧ W.cell? ⟨bx, ox + 1, none⟩ = some (.int .i64 ((q : Int) + 1)) := fun W hW => ⟨hW, hW.cell B1.out.1, hW.cell B1.out.2, hW.cell X0'.out, hW.cell X1'.out⟩
          have KS := Lib.hid ks
          clear ks
          have hbw : w1.heap.size ≤ wr.heap.size := HX.out.size
          go_upto_region 8 with fail
          go_cut [8] (fun c wx => ∃ (b : Nat) (ax : Option Addr) (kx : Nat), c = .pointer (some ⟨b, 0, none⟩) ∧ RowAt wx b d (.slice ax d.l.length kx) ∧ Ints wx (.slice ax d.l.length kx) d.l ∧ Ext w1 wx)
          case first =>
            go_region_held3 (fun W => Ext w1 W ∧ W.cell? ⟨w.heap.size, 0, none⟩ = some (.int .i64 n) ∧ W.cell? ⟨w.heap.size, 1, none⟩ = some (.slice au T.length cu) ∧ W.cell? ⟨bx, ox, none⟩ = some (.int .i64 p) ∧ W.cell? ⟨bx, ox + 1, none⟩ = some (.int .i64 ((q : Int) + 1))) (first | (with_reducible exact KS.out _ HX.out.drew) | (with_reducible exact KS.out _ SS.out) | (with_reducible exact KS.out _ (Ext.alloc SS.out _)) | (with_reducible exact KS.out _ (Ext.drew (Ext.alloc HX.out _))) | (with_reducible exact KS.out _ (Ext.setc (Ext.setc (Ext.setc (Ext.setc (Ext.setc (Ext.setc (Ext.setc (Ext.setc (Ext.setc (Ext.setc SS.out hbw) hbw) hbw) hbw) hbw) hbw) hbw) hbw) hbw) hbw))) (first | (go_at_call 73; refine (CR.out _ (And.left (by with_reducible assumption))).mono ?_; rintro e W3 ⟨ux, rfl, fx, x3⟩; obtain ⟨ax, kx, rfl⟩ := fx.form; have SS := Lib.hid (Ext.trans (And.left (by with_reducible assumption)) x3); (first | (have PB := Lib.hid (OpenRow.ext (openRow_new _ _) (by first | exact x3 | exact Ext.trans (Ext.drew (Ext.refl _)) x3)); obtain ⟨o0, o1, o2, o3, o4, o5, o6, o7, o8, o9⟩ := PB.out.row; obtain ⟨z0, z1, z2, z3, z4, z5, z6, z7, z8, z9⟩ := PB.out.free) | skip)))
            all_goals
              go_wp2_with fail
              go_meet
              first
                | with_reducible exact ⟨_, ax, kx, rfl, rowAt_new _ _ d _, fx.ints.ext (Ext.alloc1 _ _), Ext.alloc SS.out _⟩
                | with_reducible exact ⟨_, ax, kx, rfl, put10_row PB.out, (put10_fresh fx (by simp)).ints, put10_ext SS.out hbw⟩
          case rest =>
            clear HX e0 e1 t0 t1 gu hbw KS CR
            obtain ⟨b8, a8, k8, rfl, r8, i8, x8⟩ := hcut
            obtain ⟨w8, hw8⟩ : ∃ w8, w8 = wc := ⟨_, rfl⟩
            rw [← hw8] at r8 i8 x8 ⊢
            clear hw8
            have HR8 := Lib.hid r8
            have HI8 := Lib.hid i8
            have HX8 := Lib.hid x8
            have HX88 := Lib.hid (Ext.refl w8)
            obtain ⟨t0, t1⟩ := B1.out.ext x8
            have e0 := x8.cell Y0.out
            have e1 := x8.cell Y1.out
            clear r8 i8 x8
            have hcx := com_row HG.out HYC.out
            obtain ⟨d', hd⟩ : ∃ d, d = rowOf n T p' q' := ⟨_, rfl⟩
            have cR : ∀ W, Ext w8 W → Calls Try.prog 73 #[.agg #[.int .i64 n, .slice au T.length cu], .int .i64 p', .int .i64 ((q' : Int) + 1)] W (NewRow d' W) := fun W hW => by
              rw [hd]
              exact l4At_any n _ T p' q' _ (HU.out.ext ((X1.out.trans HX8.out).trans hW)) HG.out hcx.2.2.1 hcx.2.2.2
            have CR := Lib.hid cR
            have HD9 := Lib.hid hd
            clear cR hcx hd
            have ks : ∀ W, Ext w8 W → Ext w8 W ∧ W.cell? ⟨w.heap.size, 0, none⟩ = some (.int .i64 n) ∧ W.cell? ⟨w.heap.size, 1, none⟩ = some (.slice au T.length cu) ∧ W.cell? ⟨by_, oy, none⟩ = some (.int .i64 p') ∧ W.cell? ⟨by_, oy + 1, none⟩ = some (.int .i64 ((q' : Int) + 1)) := fun W hW => ⟨hW, hW.cell (HX8.out.cell B1.out.1), hW.cell (HX8.out.cell B1.out.2), hW.cell (HX8.out.cell Y0.out), hW.cell (HX8.out.cell Y1.out)⟩
            have KS := Lib.hid ks
            clear ks
            have hbw : w8.heap.size ≤ w8.heap.size := HX88.out.size
            go_upto_region 9 with fail
            go_cut [9] (fun c wx => ∃ (b : Nat) (ax : Option Addr) (kx : Nat), c = .pointer (some ⟨b, 0, none⟩) ∧ RowAt wx b d' (.slice ax d'.l.length kx) ∧ Ints wx (.slice ax d'.l.length kx) d'.l ∧ Ext w8 wx)
            case first =>
              go_region_held3 (fun W => Ext w8 W ∧ W.cell? ⟨w.heap.size, 0, none⟩ = some (.int .i64 n) ∧ W.cell? ⟨w.heap.size, 1, none⟩ = some (.slice au T.length cu) ∧ W.cell? ⟨by_, oy, none⟩ = some (.int .i64 p') ∧ W.cell? ⟨by_, oy + 1, none⟩ = some (.int .i64 ((q' : Int) + 1))) (first | (with_reducible exact KS.out _ HX88.out.drew) | (with_reducible exact KS.out _ SS.out) | (with_reducible exact KS.out _ (Ext.alloc SS.out _)) | (with_reducible exact KS.out _ (Ext.drew (Ext.alloc HX88.out _))) | (with_reducible exact KS.out _ (Ext.setc (Ext.setc (Ext.setc (Ext.setc (Ext.setc (Ext.setc (Ext.setc (Ext.setc (Ext.setc (Ext.setc SS.out hbw) hbw) hbw) hbw) hbw) hbw) hbw) hbw) hbw) hbw))) (first | (go_at_call 73; refine (CR.out _ (And.left (by with_reducible assumption))).mono ?_; rintro e W3 ⟨ux, rfl, fx, x3⟩; obtain ⟨ax, kx, rfl⟩ := fx.form; have SS := Lib.hid (Ext.trans (And.left (by with_reducible assumption)) x3); (first | (have PB := Lib.hid (OpenRow.ext (openRow_new _ _) (by first | exact x3 | exact Ext.trans (Ext.drew (Ext.refl _)) x3)); obtain ⟨o0, o1, o2, o3, o4, o5, o6, o7, o8, o9⟩ := PB.out.row; obtain ⟨z0, z1, z2, z3, z4, z5, z6, z7, z8, z9⟩ := PB.out.free) | skip)))
              all_goals
                go_wp2_with fail
                go_meet
                first
                  | with_reducible exact ⟨_, ax, kx, rfl, rowAt_new _ _ d' _, fx.ints.ext (Ext.alloc1 _ _), Ext.alloc SS.out _⟩
                  | with_reducible exact ⟨_, ax, kx, rfl, put10_row PB.out, (put10_fresh fx (by simp)).ints, put10_ext SS.out hbw⟩
            case rest =>
              clear HX88 e0 e1 t0 t1 hbw KS CR
              obtain ⟨b9, a9, k9, rfl, r9, i9, x9⟩ := hcut
              obtain ⟨w9, hw9⟩ : ∃ w9, w9 = wc := ⟨_, rfl⟩
              rw [← hw9] at r9 i9 x9 ⊢
              clear hw9
              have hc2 : cfl n T (p, q) (p', q') = (interB d.k d.f d.t d'.k d'.f d'.t && (decide (d.l[p']?.getD 0 < (q' : Int) + 1) && decide (d'.l[p]?.getD 0 < (q : Int) + 1))) := by
                unfold cfl depI
                simp only [← HD8.out, ← HD9.out]
              obtain ⟨bi, hbi⟩ : ∃ b, b = interB d.k d.f d.t d'.k d'.f d'.t := ⟨_, rfl⟩
              obtain ⟨xa, hxa⟩ : ∃ x, x = d.l[p']?.getD 0 := ⟨_, rfl⟩
              obtain ⟨xb, hxb⟩ : ∃ x, x = d'.l[p]?.getD 0 := ⟨_, rfl⟩
              rw [← hbi, ← hxa, ← hxb] at hc2
              have HC2 := Lib.hid hc2
              have hcx := com_row HG.out HXC.out
              rw [← HD8.out] at hcx
              have hcy := com_row HG.out HYC.out
              rw [← HD9.out] at hcy
              have HBAD : Hid (cfl n T (p, q) (p', q') = true → holdB n T = false) := Lib.hid (fun hc => holdB_no (x := (p, q)) (y := (p', q')) (mem_insts.2 HXC.out) (mem_insts.2 HYC.out) (by rw [HXX.out, HY.out]; exact insts_ne hjl hkt) hc)
              have HNEXT : Hid (cfl n T (p, q) (p', q') = false → ∀ b (hb : b < k + 1) (hb2 : b < (insts T).length), cfl n T ((insts T)[b]) (p', q') = false) := Lib.hid (fun hc b hb hb2 => by
                by_cases e : b = k
                · subst e
                  rw [← HXX.out]
                  exact hc
                · exact DI.out b (by omega) hb2)
              have cI : ∀ E : ExtOf w9, Calls Try.prog 80 #[.agg #[.int .i64 d.k, .int .i64 d.i, .int .i64 d.f, .int .i64 d.t, .int .i64 d.a], .agg #[.int .i64 d'.k, .int .i64 d'.i, .int .i64 d'.f, .int .i64 d'.t, .int .i64 d'.a]] E.1 (BoolExt bi E.1) := fun E => by
                rw [hbi]
                exact l2Interfere_any _ _ _ _ _ _ _ _ _ _ _
              obtain ⟨_, _, _, m3, m4, m5, m6, m7, m8, m9⟩ := HR8.out.ext x9
              obtain ⟨_, _, _, g3, g4, g5, g6, g7, g8, g9⟩ := r9
              have ja := HI8.out.ext x9
              obtain ⟨aa, ca, ea, la, _, da⟩ := ja
              obtain ⟨ba, oa, ha8, da⟩ := da (by omega)
              obtain ⟨ab, cb, eb, lb, _, db⟩ := i9
              obtain ⟨bb, ob, hb9, db⟩ := db (by omega)
              simp only [Value.slice.injEq] at ea eb
              obtain ⟨ea, _, _⟩ := ea
              obtain ⟨eb, _, _⟩ := eb
              rw [ea, ha8] at m9
              rw [eb, hb9] at g9
              have za := da p' (by omega)
              have zb := db p (by omega)
              rw [← hxa] at za
              rw [← hxb] at zb
              have y0 := (HX8.out.trans x9).cell Y0.out
              have y1 := (HX8.out.trans x9).cell Y1.out
              have x0 := (HX8.out.trans x9).cell X0'.out
              have x1 := (HX8.out.trans x9).cell X1'.out
              have m3 := fun E : ExtOf w9 => E.cell m3
              have m4 := fun E : ExtOf w9 => E.cell m4
              have m5 := fun E : ExtOf w9 => E.cell m5
              have m6 := fun E : ExtOf w9 => E.cell m6
              have m7 := fun E : ExtOf w9 => E.cell m7
              have m9 := fun E : ExtOf w9 => E.cell m9
              have g3 := fun E : ExtOf w9 => E.cell g3
              have g4 := fun E : ExtOf w9 => E.cell g4
              have g5 := fun E : ExtOf w9 => E.cell g5
              have g6 := fun E : ExtOf w9 => E.cell g6
              have g7 := fun E : ExtOf w9 => E.cell g7
              have g9 := fun E : ExtOf w9 => E.cell g9
              have za := fun E : ExtOf w9 => E.cell za
              have zb := fun E : ExtOf w9 => E.cell zb
              have y0 := fun E : ExtOf w9 => E.cell y0
              have y1 := fun E : ExtOf w9 => E.cell y1
              have x0 := fun E : ExtOf w9 => E.cell x0
              have x1 := fun E : ExtOf w9 => E.cell x1
              have ia : p' < d.l.length ∧ (p' : Int) < d.l.length := by omega
              have ib : p < d'.l.length ∧ (p : Int) < d'.l.length := by omega
              clear da db ea eb ha8 hb9 la lb hbi hxa hxb hc2 hcx hcy m8 g8
              cases bi with
              | false =>
                go_wp2_with fail; refine wp_region_ext_lit (by kernel_rfl) (by kernel_rfl) ?_; (repeat (go_big_quiet_step (first | (go_at_call 80; exact Calls.ext_of _ (cI _))))); refine wpQuiet_nil ?_; rintro _ ⟨E, rfl⟩
                have XE := Lib.hid ((HX8.out.trans x9).trans E.2)
                have HNO := Lib.hid (HNEXT.out (by rw [HC2.out]; rfl))
                clear HNEXT HBAD
                go_wp2
                go_roundw
                case rel => exact ⟨k + 1, by omega, by go_num, HNO, XE.out⟩
                case measure => simp [intOf]; omega
              | true =>
                by_cases ka : xa < (q' : Int) + 1
                · have kaB : decide (xa < (q' : Int) + 1) = true := decide_eq_true ka
                  by_cases kb : xb < (q : Int) + 1
                  · have kbB : decide (xb < (q : Int) + 1) = true := decide_eq_true kb
                    have hres := HBAD.out (by rw [HC2.out, kaB, kbB]; rfl)
                    go_wp2_with fail; refine wp_region_ext_lit (by kernel_rfl) (by kernel_rfl) ?_; (repeat (go_big_quiet_step (first | (go_at_call 80; exact Calls.ext_of _ (cI _))))); refine wpQuiet_nil ?_; rintro _ ⟨E, rfl⟩
                    have HRES := Lib.hid hres
                    have XE := Lib.hid ((X1.out.trans (HX8.out.trans x9)).trans E.2)
                    clear HNEXT HBAD hres
                    go_wp2
                    go_ret
                    rw [HRES.out]
                    exact ⟨rfl, XE.out⟩
                  · have kbB : decide (xb < (q : Int) + 1) = false := decide_eq_false kb
                    go_wp2_with fail; refine wp_region_ext_lit (by kernel_rfl) (by kernel_rfl) ?_; (repeat (go_big_quiet_step (first | (go_at_call 80; exact Calls.ext_of _ (cI _))))); refine wpQuiet_nil ?_; rintro _ ⟨E, rfl⟩
                    have XE := Lib.hid ((HX8.out.trans x9).trans E.2)
                    have HNO := Lib.hid (HNEXT.out (by rw [HC2.out]; simp [kbB]))
                    clear HNEXT HBAD
                    go_wp2
                    go_roundw
                    case rel => exact ⟨k + 1, by omega, by go_num, HNO, XE.out⟩
                    case measure => simp [intOf]; omega
                · have kaB : decide (xa < (q' : Int) + 1) = false := decide_eq_false ka
                  go_wp2_with fail; refine wp_region_ext_lit (by kernel_rfl) (by kernel_rfl) ?_; (repeat (go_big_quiet_step (first | (go_at_call 80; exact Calls.ext_of _ (cI _))))); refine wpQuiet_nil ?_; rintro _ ⟨E, rfl⟩
                  have XE := Lib.hid ((HX8.out.trans x9).trans E.2)
                  have HNO := Lib.hid (HNEXT.out (by rw [HC2.out]; simp [kaB]))
                  clear HNEXT HBAD
                  go_wp2
                  go_roundw
                  case rel => exact ⟨k + 1, by omega, by go_num, HNO, XE.out⟩
                  case measure => simp [intOf]; omega
        · obtain rfl : k = j := by omega
          have HN := Lib.hid (show ∀ a b (ha : a < (insts T).length) (hb : b < a), a < k + 1 → cfl n T ((insts T)[b]) ((insts T)[a]) = false from fun a b ha hb hak => by
            by_cases e : a = k
            · subst e
              rw [← HY.out]
              exact DI.out b hb (by omega)
            · exact DH.out a b ha hb (by omega))
          clear DH DI
          go_wp2
          go_roundw
          case rel => exact ⟨k + 1, by omega, by go_num, HN, hx⟩
          case measure => simp [intOf]; omega
    · obtain rfl : j = m := by omega
      have hres : holdB n T = true := holdB_all fun a b ha hb => DH.out a b ha hb (by have := HM.out; omega)
      have HRES := Lib.hid hres
      have XE := Lib.hid (X1.out.trans hx)
      clear DH hres
      go_wp2
      go_ret
      rw [HRES.out]
      exact ⟨rfl, XE.out⟩

end Go.Proofs.Ytihknedmkkakhaa

namespace Go.Proofs.Ytihknedmkkakhaa
open Go.RowKit Go.Maps
set_option linter.unusedVariables false

set_option maxHeartbeats 1000000 in
theorem specHold_any (n : Int) (u : Value) (T : List (List RowD)) (w : World) (hu : Rowzz w u T) :
    Calls Try.prog 41 #[.agg #[.int .i64 n, u]] w (TwoB (goodTab n T && holdB n T) (goodTab n T) w) := by
  have hx0 := Ext.alloc1 w (.cells #[.int .i64 n, u] 48)
  have b0 := attrAt_new w 48 n u
  have HU := Lib.hid (hu.ext hx0)
  have HX := Lib.hid hx0
  obtain ⟨au, cu, rfl, hlu, _, _⟩ := hu
  obtain ⟨a, ha⟩ : ∃ a, a = (goodTab n T && holdB n T) := ⟨_, rfl⟩
  rw [← ha]
  obtain ⟨g, hg⟩ : ∃ g, g = goodTab n T := ⟨_, rfl⟩
  rw [← hg] at ha ⊢
  clear hx0
  go_enter Try.func41, Try.ntmps41
  go_wp2_with fail
  refine (specGoodTable_any n _ T _ HU.out).mono ?_
  rintro e w1 ⟨rfl, x1⟩
  rw [← hg]
  cases g with
  | false =>
    obtain rfl : a = false := by rw [ha]; rfl
    clear ha hg
    have X1 := Lib.hid (HX.out.trans x1)
    go_wp2
    go_ret2
    exact ⟨rfl, X1.out⟩
  | true =>
    have HG := Lib.hid hg.symm
    obtain rfl : a = holdB n T := by rw [ha]; rfl
    clear ha
    obtain ⟨t0, t1⟩ := b0.ext x1
    clear hg
    go_wp2_with fail
    refine (l6Hold_any n _ T _ (HU.out.ext x1) HG.out).mono ?_
    rintro e w2 ⟨rfl, x2⟩
    have X2 := Lib.hid ((HX.out.trans x1).trans x2)
    go_wp2
    go_ret2
    exact ⟨rfl, X2.out⟩

end Go.Proofs.Ytihknedmkkakhaa

namespace Go.Proofs.Ytihknedmkkakhaa
open Go.RowKit
set_option linter.unusedVariables false

def lensR (R : List RowD) : List Nat := R.map fun r => r.l.length
theorem lensR_len (R : List RowD) : (lensR R).length = R.length := by simp [lensR]
theorem lensR_get {R : List RowD} {k : Nat} (h : k < R.length) : (lensR R)[k]'(by rw [lensR_len]; exact h) = R[k].l.length := by simp [lensR]

set_option maxHeartbeats 1000000 in
theorem szRowS_any (v : Value) (R : List RowD) (left : Int) (w : World) (hv : Rowz w v R) (h0 : 0 ≤ left) (h1 : left ≤ 1099511627776) :
    Calls Try.prog 99 #[v, .int .i64 left] w (IntExt (lessened left (bulkR R)) w) := by
  obtain ⟨av, cv, rfl, hlv, _, hcv⟩ := hv
  unfold maxLen at hlv
  have hb : bulkR R = R.length + (lensR R).sum := rfl
  by_cases hlt : left < R.length
  · rw [lessened_no (by omega)]
    clear hb hcv
    go_enter Try.func99, Try.ntmps99
    go_wp2
    go_ret
    exact ⟨rfl, Ext.refl _⟩
  · have HBK := Lib.hid hb
    have hle : (R.length : Int) ≤ left := by omega
    clear hb hlt
    go_enter Try.func99, Try.ntmps99
    go_wp2
    go_loopw [1, 5] (fun m i wr => ∃ (k : Nat) (r : Int), k ≤ R.length ∧ i = .int .i64 k ∧ m = .int .i64 r ∧ 0 ≤ r ∧ Hid (r = left - R.length - sumN (lensR R) k) ∧ Ext w wr) (fun _ i _ => R.length - (intOf i).toNat)
    case atStart => exact ⟨0, left - R.length, Nat.zero_le _, rfl, rfl, by omega, Lib.hid (by rw [sumN_zero]; simp), Ext.refl _⟩
    case round =>
      obtain ⟨k, r, hk, rfl, rfl, hr0, hr, hx⟩ := hrel
      have hr1 : r ≤ 1099511627776 := by have := hr.out; omega
      by_cases hlt : k < R.length
      · obtain ⟨b, off, rfl, dv⟩ := hcv (by omega)
        obtain ⟨u, hu, iu⟩ := dv k hlt
        have hs := sumN_succ (g := lensR R) (k := k) (by rw [lensR_len]; exact hlt)
        rw [lensR_get hlt] at hs
        obtain ⟨d, hd⟩ : ∃ d, d = R[k] := ⟨_, rfl⟩
        rw [← hd] at hu iu hs
        obtain ⟨c0, c1, c2, c3, c4, c5, c6, c7, c8, c9⟩ := hu.ext hx
        have IU := Lib.hid (iu.ext hx)
        have HS := Lib.hid hs
        clear hcv dv hu iu hs hd
        by_cases hl : r < d.l.length
        · have L := Lib.hid (lessened_no hl)
          have hsum := sumN_mono (g := lensR R) (k := k + 1) (by rw [lensR_len]; omega)
          have HL := Lib.hid (show lessened left (bulkR R) = -1 from lessened_no (by have h1 := hr.out; have h2 := HS.out; have h3 := HBK.out; omega))
          clear hl hsum
          go_wp2_with fail
          refine (szRow_any d _ _ _ IU.out hr0 (by omega)).mono ?_
          rintro e w2 ⟨rfl, x2⟩
          have hx2 := hx.trans x2
          clear x2 hx c0 c1 c2 c3 c4 c5 c6 c7 c8 c9
          rw [L.out]
          go_wp2
          go_ret
          exact ⟨by rw [HL.out]; rfl, hx2⟩
        · obtain ⟨q, hq⟩ : ∃ q, q = r - (d.l.length : Int) := ⟨_, rfl⟩
          have hq0 : 0 ≤ q := by omega
          have L : Hid (lessened r d.l.length = q) := Lib.hid (by rw [hq]; exact lessened_yes (by omega))
          have HQ := Lib.hid hq
          clear hl hq
          go_wp2_with fail
          refine (szRow_any d _ _ _ IU.out hr0 (by omega)).mono ?_
          rintro e w2 ⟨rfl, x2⟩
          have hx2 := hx.trans x2
          clear x2 hx c0 c1 c2 c3 c4 c5 c6 c7 c8 c9
          rw [L.out]
          go_wp2
          go_roundw
          case rel => exact ⟨k + 1, q, by omega, by go_num, rfl, hq0, Lib.hid (by have h1 := hr.out; have h2 := HS.out; have h3 := HQ.out; omega), hx2⟩
          case measure => simp [intOf]; omega
      · obtain rfl : k = R.length := by omega
        go_wp2
        go_ret
        refine ⟨?_, hx⟩
        have h1 := hr.out
        have h3 := HBK.out
        have h4 := sumN_all (lensR R)
        rw [lensR_len] at h4
        have he : lessened left (bulkR R) = r := by rw [lessened_yes (by omega)]; omega
        rw [he]; rfl

def bulks (T : List (List RowD)) : List Nat := T.map bulkR
theorem bulks_len (T : List (List RowD)) : (bulks T).length = T.length := by simp [bulks]
theorem bulks_get {T : List (List RowD)} {k : Nat} (h : k < T.length) : (bulks T)[k]'(by rw [bulks_len]; exact h) = bulkR T[k] := by simp [bulks]

set_option maxHeartbeats 1000000 in
theorem szRowSS_any (v : Value) (T : List (List RowD)) (left : Int) (w : World) (hv : Rowzz w v T) (h0 : 0 ≤ left) (h1 : left ≤ 1099511627776) :
    Calls Try.prog 56 #[v, .int .i64 left] w (IntExt (lessened left (bulkT T)) w) := by
  obtain ⟨av, cv, rfl, hlv, _, hcv⟩ := hv
  unfold maxLen at hlv
  have hb : bulkT T = T.length + (bulks T).sum := rfl
  by_cases hlt : left < T.length
  · rw [lessened_no (by omega)]
    clear hb hcv
    go_enter Try.func56, Try.ntmps56
    go_wp2
    go_ret
    exact ⟨rfl, Ext.refl _⟩
  · have HBK := Lib.hid hb
    have hle : (T.length : Int) ≤ left := by omega
    clear hb hlt
    go_enter Try.func56, Try.ntmps56
    go_wp2
    go_loopw [1, 5] (fun m i wr => ∃ (k : Nat) (r : Int), k ≤ T.length ∧ i = .int .i64 k ∧ m = .int .i64 r ∧ 0 ≤ r ∧ Hid (r = left - T.length - sumN (bulks T) k) ∧ Ext w wr) (fun _ i _ => T.length - (intOf i).toNat)
    case atStart => exact ⟨0, left - T.length, Nat.zero_le _, rfl, rfl, by omega, Lib.hid (by rw [sumN_zero]; simp), Ext.refl _⟩
    case round =>
      obtain ⟨k, r, hk, rfl, rfl, hr0, hr, hx⟩ := hrel
      have hr1 : r ≤ 1099511627776 := by have := hr.out; omega
      by_cases hlt : k < T.length
      · obtain ⟨b, off, rfl, dv⟩ := hcv (by omega)
        obtain ⟨u, hu, iu⟩ := dv k hlt
        have hs := sumN_succ (g := bulks T) (k := k) (by rw [bulks_len]; exact hlt)
        rw [bulks_get hlt] at hs
        obtain ⟨d, hd⟩ : ∃ d, d = T[k] := ⟨_, rfl⟩
        rw [← hd] at iu hs
        have c0 := hx.cell hu
        have IU := Lib.hid (iu.ext hx)
        have HS := Lib.hid hs
        clear hcv dv hu iu hs hd
        by_cases hl : r < bulkR d
        · have L := Lib.hid (lessened_no hl)
          have hsum := sumN_mono (g := bulks T) (k := k + 1) (by rw [bulks_len]; omega)
          have HL := Lib.hid (show lessened left (bulkT T) = -1 from lessened_no (by have h1 := hr.out; have h2 := HS.out; have h3 := HBK.out; omega))
          clear hl hsum
          go_wp2_with fail
          refine (szRowS_any _ d _ _ IU.out hr0 (by omega)).mono ?_
          rintro e w2 ⟨rfl, x2⟩
          have hx2 := hx.trans x2
          clear x2 hx c0
          rw [L.out]
          go_wp2
          go_ret
          exact ⟨by rw [HL.out]; rfl, hx2⟩
        · obtain ⟨q, hq⟩ : ∃ q, q = r - (bulkR d : Int) := ⟨_, rfl⟩
          have hq0 : 0 ≤ q := by omega
          have L : Hid (lessened r (bulkR d) = q) := Lib.hid (by rw [hq]; exact lessened_yes (by omega))
          have HQ := Lib.hid hq
          clear hl hq
          go_wp2_with fail
          refine (szRowS_any _ d _ _ IU.out hr0 (by omega)).mono ?_
          rintro e w2 ⟨rfl, x2⟩
          have hx2 := hx.trans x2
          clear x2 hx c0
          rw [L.out]
          go_wp2
          go_roundw
          case rel => exact ⟨k + 1, q, by omega, by go_num, rfl, hq0, Lib.hid (by have h1 := hr.out; have h2 := HS.out; have h3 := HQ.out; omega), hx2⟩
          case measure => simp [intOf]; omega
      · obtain rfl : k = T.length := by omega
        go_wp2
        go_ret
        refine ⟨?_, hx⟩
        have h1 := hr.out
        have h3 := HBK.out
        have h4 := sumN_all (bulks T)
        rw [bulks_len] at h4
        have he : lessened left (bulkT T) = r := by rw [lessened_yes (by omega)]; omega
        rw [he]; rfl

set_option maxHeartbeats 1000000 in
theorem szTable_any (n : Int) (u : Value) (T : List (List RowD)) (left : Int) (w : World) (hv : Rowzz w u T) (h0 : 0 ≤ left) (h1 : left ≤ 1099511627776) :
    Calls Try.prog 24 #[.agg #[.int .i64 n, u], .int .i64 left] w (IntExt (lessened left (bulkT T)) w) := by
  have HB := attrAt_new w 42 n u
  by_cases hlt : left < bulkT T
  · have L := Lib.hid (lessened_no hlt)
    clear hlt
    go_enter Try.func24, Try.ntmps24
    go_wp2_with fail
    refine (szRowSS_any _ _ _ _ (hv.ext (Ext.alloc (Ext.refl _) _)) h0 h1).mono ?_
    rintro e w1 ⟨rfl, x1⟩
    have hx := (Ext.alloc (Ext.refl w) _).trans x1
    clear x1 HB
    rw [L.out]
    go_wp2
    go_ret
    exact ⟨by rw [L.out]; rfl, hx⟩
  · obtain ⟨q, hq⟩ : ∃ q, q = left - (bulkT T : Int) := ⟨_, rfl⟩
    have hq0 : 0 ≤ q := by omega
    have LR : Hid (lessened left (bulkT T) = q) := Lib.hid (by rw [hq]; exact lessened_yes (by omega))
    clear hlt hq
    rw [LR.out]
    go_enter Try.func24, Try.ntmps24
    go_wp2_with fail
    refine (szRowSS_any _ _ _ _ (hv.ext (Ext.alloc (Ext.refl _) _)) h0 h1).mono ?_
    rintro e w1 ⟨rfl, x1⟩
    have hx := (Ext.alloc (Ext.refl w) _).trans x1
    clear x1 HB
    rw [LR.out]
    go_wp2
    go_ret
    exact ⟨rfl, hx⟩

end Go.Proofs.Ytihknedmkkakhaa
