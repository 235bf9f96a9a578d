/- Texts of this proof, part m: words, plain facts, contracts. -/
import Derived.Test.YtcpmfcigciknlaaGreatMOrderIng
import Derived.Deep.Cut
import Derived.Test.YtcpmfcigciknlaaGreatMOrderIne
import Derived.Test.YtcpmfcigciknlaaGreatMOrderInf
import Derived.Test.YtcpmfcigciknlaaGreatMOrderInk
import Derived.Deep.RegionHeld3
import Derived.Test.YtcpmfcigciknlaaGreatMOrderInl

namespace Go.Proofs.YtcpmfcigciknlaaGreat
open Go.RowKit Go.Maps
set_option linter.unusedVariables false

theorem field_rowA (b v st k i f t a s : Int) (u : Value) (W : World) : (Instr.field 83 (.agg #[.int .i64 b, .int .i64 v, .int .i64 st, .int .i64 k, .int .i64 i, .int .i64 f, .int .i64 t, .int .i64 a, .int .i64 s, u]) 4).run Tryz.prog W = .ok (.agg #[.int .i64 s, u]) W := by kernel_rfl
theorem zeroRow (W : World) : (zeroValue 83).run Tryz.prog W = .ok (.agg #[.int .i64 0, .int .i64 0, .int .i64 0, .int .i64 0, .int .i64 0, .int .i64 0, .int .i64 0, .int .i64 0, .int .i64 0, .slice none 0 0]) W := by kernel_rfl

theorem cell_offG {W : World} {g o : Nat} {a : Addr} {z u : Value} (hne : a.block ≠ g) (h : W.cell? a = some u) : (W.setCell ⟨g, o, none⟩ z).cell? a = some u := by
  have hh := Below.heap_setCell W ⟨g, o, none⟩ z a.block hne
  have e : (W.setCell ⟨g, o, none⟩ z).cell? a = W.cell? a := by unfold World.cell?; rw [hh]
  rw [e]; exact h
/-- From place k on the lists are nil. -/
def NilFrom (vs : List Value) (k : Nat) : Prop := ∀ (i : Nat) (z : Value), k ≤ i → vs[i]? = some z → z = .slice none 0 0
/-- The list at place k lies behind block b. -/
def Behind (vs : List Value) (k b : Nat) : Prop := ∀ z : Value, vs[k]? = some z → ∀ g, z.ownBlock = some g → b < g

/-- What a map has at an instance that is there. -/
theorem look_inst {W : World} {B n0 : Nat} {D : DataW Value} {S : Nat → Nat → Bool} {f : Nat → Nat → Value} (hm : RowMap W B n0 D) (hd : MapOf D S f) {p q : Nat} (hs : S p q = true) :
    (Instr.lookup 106 (.map (some B)) (.agg #[.int .i64 p, .int .i64 ((q : Int) + 1)]) false).run Tryz.prog W = .ok (f p q) W := by
  have hl := hd.low p q hs
  obtain ⟨v, ps, hrun, hv⟩ := hm.lookup instKeyed Tryz.underlying106 (zeroRow W) (zd := .held _) (zp := []) rfl (keyOf_inst (a := p) (b := (q : Int) + 1) (wf_small (by omega) (by omega)) (wf_small (by omega) (by omega)))
  rw [hd.val p q hs] at hv
  simp only [asIs, Option.some.injEq, Prod.mk.injEq, DataW.held.injEq] at hv
  rw [hv.1] at hrun
  exact hrun

set_option maxHeartbeats 4000000 in
set_option maxRecDepth 100000 in
theorem graphAmong_any (n : Int) (T : List (List RowD)) (U : Nat → Nat → Value) (L : List (Nat × Nat)) (v : Value) (B n0 : Nat) (D : DataW Value) (S : Nat → Nat → Bool) (w : World) (hv : InstsAt w v L) (hl : L.length ≤ 1000)
    (hm : RowMap w B n0 D) (hd : MapOf D S (rowF n T U)) (hS : ∀ x ∈ L, S x.1 x.2 = true) (hC : ∀ p q, S p q = true → instCom T p q = true) (hg : goodTab n T = true) (hli : Lists w n T U) :
    Calls Tryz.prog 60 #[v, .map (some B)] w (NewIntss (graphP n T L) w) := by
  obtain ⟨au, cu, rfl, hlu, _, hcu⟩ := hv
  unfold maxLen at hlu
  obtain ⟨i0, hi, hz0, hz1, hz2⟩ := info_parts Tryz.infoInts
  have HCU := Lib.hid hcu
  have HM := Lib.hid hm
  have HD := Lib.hid hd
  have HS := Lib.hid hS
  have HC := Lib.hid hC
  have HG := Lib.hid hg
  have HLI := Lib.hid hli
  clear hcu hm hd hS hC hg hli
  go_enter Tryz.func60, Tryz.ntmps60
  go_wp2_with (at_make; refine wpList_make_full _ rfl _ _ 63 rfl w.heap.size 26 i0 (.slice none 0 0) 1 Tryz.underlying63 hi hz0 hz1 _ _ _ _ L.length rfl rfl rfl rfl ?c1 ?c2 ?c3 ?_)
  case c1 => rw [hz2]; omega
  case c2 => unfold maxLen; omega
  case c3 => simp
  intro w1 ho1 hg1
  have hx1 : Ext w w1 := ext_of_grown hg1
  have ho : w1.ownsRow w.heap.size 26 1 (.slice (some ⟨w.heap.size, 0, none⟩) L.length L.length) L.length (List.replicate L.length (.slice none 0 0)) := by
    rw [toList_madeCells_one] at ho1
    simpa using ho1
  have hsz : w.heap.size < w1.heap.size := by
    rcases ho1.2 with ⟨h, _⟩ | ⟨g, cap, cur, h, hb, hg, _⟩
    · cases h
    · simp only [Value.slice.injEq, Option.some.injEq, Addr.mk.injEq, and_true, true_and] at h
      obtain ⟨rfl, _⟩ := h
      exact (Array.getElem?_eq_some_iff.1 hg).1
  have hrows : Rows_ (w.heap.size + 1) w1 (List.replicate L.length (.slice none 0 0)) (halfG n T L 0 0) := by
    rw [halfG_zero]
    refine ⟨by simp, fun j u l hu hl => ?_, fun i j u z _ hu _ => ?_⟩
    · rw [List.getElem?_replicate] at hu hl
      split at hu
      · rw [if_pos (by assumption)] at hl
        cases hu
        cases hl
        exact ⟨rfl, .inl ⟨rfl, rfl⟩⟩
      · cases hu
    · rw [List.getElem?_replicate] at hu
      split at hu
      · cases hu
        exact .inl rfl
      · cases hu
  have HO1 := Lib.hid ho
  have HR1 := Lib.hid hrows
  have HX1 := Lib.hid hx1
  have HZ1 := Lib.hid hsz
  clear ho1 hg1 hz0 hz1 hz2 hi ho hrows hx1 hsz
  go_wp2
  go_loopw [15] (fun i wr => ∃ (k : Nat) (vs : List Value), k ≤ L.length ∧ i = .int .i64 k ∧ Hid (wr.ownsRow w.heap.size 26 1 (.slice (some ⟨w.heap.size, 0, none⟩) L.length L.length) L.length vs) ∧ Hid (Rows_ (w.heap.size + 1) wr vs (halfG n T L k 0)) ∧ Hid (w.heap.size < wr.heap.size) ∧ Hid (Ext w wr) ∧ Hid (NilFrom vs k)) (fun i _ => L.length - (intOf i).toNat)
  case atStart => exact ⟨0, _, Nat.zero_le _, rfl, HO1, HR1, HZ1, HX1, Lib.hid (fun i z _ hz => by rw [List.getElem?_replicate] at hz; split at hz <;> cases hz; rfl)⟩
  case round =>
    clear HO1 HR1 HZ1 HX1
    obtain ⟨k, vs, hk, rfl, HO, HR, HZ, HX, HN⟩ := hrel
    by_cases hlt : k < L.length
    · obtain ⟨bu, ou, rfl, du⟩ := HCU.out (by omega)
      obtain ⟨q0, q1⟩ := du k hlt
      obtain ⟨x, hx⟩ : ∃ x, x = L[k] := ⟨_, rfl⟩
      rw [← hx] at q0 q1
      have g0 := HX.out.cell q0
      have g1 := HX.out.cell q1
      have hxm : x ∈ L := by rw [hx]; exact List.getElem_mem hlt
      have hsx := HS.out x hxm
      have HSX := Lib.hid hsx
      have HXK := Lib.hid hx
      obtain ⟨p, q⟩ := x
      have HDU := Lib.hid du
      clear q0 q1 hx hxm hsx du
      obtain ⟨b7, hb7⟩ : ∃ b7, b7 = wr.heap.size := ⟨_, rfl⟩
      have hbox : PairAt (wr.alloc (.cells #[.int .i64 p, .int .i64 ((q : Int) + 1)] 101)) b7 (p : Int) ((q : Int) + 1) := by rw [hb7]; exact ⟨by go_simp, by go_simp⟩
      have HB7 := Lib.hid hb7
      have HBOX := Lib.hid hbox
      have OA := Lib.hid ((Ext.alloc1 wr (.cells #[.int .i64 p, .int .i64 ((q : Int) + 1)] 101)).ownsRow HO.out)
      have RA := Lib.hid (HR.out.ext (Ext.alloc1 wr (.cells #[.int .i64 p, .int .i64 ((q : Int) + 1)] 101)))
      have ZA : Hid (w.heap.size < (wr.alloc (.cells #[.int .i64 p, .int .i64 ((q : Int) + 1)] 101)).heap.size) := Lib.hid (Nat.lt_of_lt_of_le HZ.out (Ext.alloc1 _ _).size)
      have XA := Lib.hid (HX.out.alloc (.cells #[.int .i64 p, .int .i64 ((q : Int) + 1)] 101))
      have NA : Hid (NilFrom vs (k + 1)) := Lib.hid (fun i z hi hz => HN.out i z (by omega) hz)
      have KA : Hid (Behind vs k b7) := Lib.hid (fun z hz g hg => by rw [HN.out k z (Nat.le_refl _) hz] at hg; cases hg)
      clear hbox hb7
      go_wp2
      rw [← HB7.out]
      go_loopw [22] (fun i wr => ∃ (j : Nat) (vs : List Value), j ≤ L.length ∧ i = .int .i64 j ∧ Hid (wr.ownsRow w.heap.size 26 1 (.slice (some ⟨w.heap.size, 0, none⟩) L.length L.length) L.length vs) ∧ Hid (Rows_ (w.heap.size + 1) wr vs (halfG n T L k j)) ∧ Hid (w.heap.size < wr.heap.size) ∧ Hid (Ext w wr) ∧ Hid (PairAt wr b7 (p : Int) ((q : Int) + 1)) ∧ Hid (NilFrom vs (k + 1)) ∧ Hid (Behind vs k b7)) (fun i _ => L.length - (intOf i).toNat)
      case atStart => exact ⟨0, vs, Nat.zero_le _, rfl, OA, RA, ZA, XA, HBOX, NA, KA⟩
      case round =>
        have HB70 : Hid (w.heap.size < b7) := Lib.hid (by rw [HB7.out]; exact HZ.out)
        clear OA RA ZA XA HBOX NA KA g0 g1 HO HR HZ HX HN HB7
        obtain ⟨j, vs, hj, rfl, HO, HR, HZ, HX, HB, HN, HK7⟩ := hrel
        by_cases hjl : j < L.length
        · obtain ⟨q0, q1⟩ := HDU.out j hjl
          obtain ⟨y, hy⟩ : ∃ y, y = L[j] := ⟨_, rfl⟩
          rw [← hy] at q0 q1
          have g0 := HX.out.cell q0
          have g1 := HX.out.cell q1
          have hsy := HS.out y (by rw [hy]; exact List.getElem_mem hjl)
          have HSY := Lib.hid hsy
          have HYK := Lib.hid hy
          obtain ⟨p', q'⟩ := y
          clear q0 q1 hy hsy
          go_upto_region 8 with fail
          obtain ⟨w9, hw9⟩ : ∃ w9, w9 = wr.alloc (.cells #[.int .i64 p', .int .i64 ((q' : Int) + 1)] 101) := ⟨_, rfl⟩
          obtain ⟨b9, hb9⟩ : ∃ b9, b9 = wr.heap.size := ⟨_, rfl⟩
          have x29 : Ext wr w9 := by rw [hw9]; exact Ext.alloc1 _ _
          have k0 : w9.cell? ⟨b9, 0, none⟩ = some (.int .i64 p') := by rw [hw9, hb9]; go_simp
          have k1 : w9.cell? ⟨b9, 1, none⟩ = some (.int .i64 ((q' : Int) + 1)) := by rw [hw9, hb9]; go_simp
          rw [← hw9, ← hb9]
          obtain ⟨f0, f1⟩ := HB.out.ext x29
          have f0 := fun E : ExtOf w9 => E.cell f0
          have f1 := fun E : ExtOf w9 => E.cell f1
          have k0 := fun E : ExtOf w9 => E.cell k0
          have k1 := fun E : ExtOf w9 => E.cell k1
          clear g0 g1 hw9 hb9
          have hcx := com_row HG.out (HC.out p q HSX.out)
          have hcy := com_row HG.out (HC.out p' q' HSY.out)
          obtain ⟨bb, hbb⟩ : ∃ b, b = decide ((q' : Int) + 1 ≤ depI (rowOf n T p q) p') := ⟨_, rfl⟩
          have hedge : edgeB n T (p, q) (p', q') = (!(decide ((p, q) = (p', q'))) && bb) := by unfold edgeB; rw [hbb]
          have HEDGE0 := Lib.hid hedge
          clear hedge
          by_cases he : p = p' ∧ q = q'
          · obtain ⟨rfl, rfl⟩ := he
            have HEDGE : Hid (edgeB n T (p, q) (p, q) = false) := Lib.hid (by rw [HEDGE0.out]; simp)
            clear hbb HEDGE0 hcx hcy
            have cA : True := trivial
            go_wp2_with fail
            refine wp_region_ext_lit (by kernel_rfl) (by kernel_rfl) ?_
            repeat (go_big_quiet_step (first | (go_at_call 108; fail)))
            refine wpQuiet_nil ?_
            rintro _ ⟨E, rfl⟩
            have he : rowE n T L L[k] (j + 1) = rowE n T L L[k] j := by rw [rowE_succ hjl, ← HXK.out, ← HYK.out, HEDGE.out]; simp
            have RN : Hid (Rows_ (w.heap.size + 1) E.1 vs (halfG n T L k (j + 1))) := Lib.hid (by rw [halfG_stay j hlt he]; exact HR.out.ext (x29.trans E.2))
            have ON := Lib.hid ((x29.trans E.2).ownsRow HO.out)
            have ZN : Hid (w.heap.size < E.1.heap.size) := Lib.hid (Nat.lt_of_lt_of_le HZ.out (x29.trans E.2).size)
            have XN := Lib.hid (HX.out.trans (x29.trans E.2))
            have BN := Lib.hid (HB.out.ext (x29.trans E.2))
            clear he HR HO HZ HX HB x29
            go_wp2
            go_roundw
            case rel => exact ⟨j + 1, vs, by omega, by go_num, ON, RN, ZN, XN, BN, HN, HK7⟩
            case measure => simp [intOf]; omega
          · have hzne : ¬ ((p' : Int) = p) ∨ (p = p' ∧ ¬ ((q' : Int) = q)) := by omega
            obtain ⟨au, cu', hUf, _⟩ := HLI.out p q (instCom_inT (HC.out p q HSX.out))
            have hi9 : Ints w9 (U p q) (rowOf n T p q).l := (HLI.out p q (instCom_inT (HC.out p q HSX.out))).ext (HX.out.trans x29)
            have hlk : ∀ E : ExtOf w9, (Instr.lookup 106 (.map (some B)) (.agg #[.int .i64 p, .int .i64 ((q : Int) + 1)]) false).run Tryz.prog E.1 = .ok (rowF n T U p q) E.1 := fun E => look_inst (HM.out.ext ((HX.out.trans x29).trans E.2)) HD.out HSX.out
            unfold rowF rowV at hlk
            obtain ⟨d, hd⟩ : ∃ d, d = rowOf n T p q := ⟨_, rfl⟩
            rw [← hd] at hlk hUf hi9 hcx hbb
            rw [hUf] at hlk hi9
            have hfd : ∀ E : ExtOf w9, (Instr.field 83 (.agg #[.int .i64 d.b, .int .i64 d.v, .int .i64 d.st, .int .i64 d.k, .int .i64 d.i, .int .i64 d.f, .int .i64 d.t, .int .i64 d.a, .int .i64 d.s, .slice au d.l.length cu']) 4).run Tryz.prog E.1 = .ok (.agg #[.int .i64 d.s, .slice au d.l.length cu']) E.1 := fun E => field_rowA _ _ _ _ _ _ _ _ _ _ _
            have cA : ∀ E : ExtOf w9, Calls Tryz.prog 108 #[.agg #[.int .i64 d.s, .slice au d.l.length cu'], .agg #[.int .i64 p', .int .i64 ((q' : Int) + 1)]] E.1 (BoolExt bb E.1) := fun E => by
              rw [hbb]
              exact hangs_any d.s _ d.l p' q' E.1 (hi9.ext E.2) (by omega) (by omega)
            clear hUf hd hi9 hcx hcy hbb
            rcases hzne with hzn | ⟨rfl, hzn⟩
            · cases bb with
              | false =>
                have HEDGE : Hid (edgeB n T (p, q) (p', q') = false) := Lib.hid (by rw [HEDGE0.out]; simp)
                go_wp2_with fail
                refine wp_region_ext_lit (by kernel_rfl) (by kernel_rfl) ?_
                repeat (go_big_quiet_step (first | (go_at_call 108; with_reducible exact Calls.ext_of _ (cA _))))
                refine wpQuiet_nil ?_
                rintro _ ⟨E, rfl⟩
                have he : rowE n T L L[k] (j + 1) = rowE n T L L[k] j := by rw [rowE_succ hjl, ← HXK.out, ← HYK.out, HEDGE.out]; simp
                have RN : Hid (Rows_ (w.heap.size + 1) E.1 vs (halfG n T L k (j + 1))) := Lib.hid (by rw [halfG_stay j hlt he]; exact HR.out.ext (x29.trans E.2))
                have ON := Lib.hid ((x29.trans E.2).ownsRow HO.out)
                have ZN : Hid (w.heap.size < E.1.heap.size) := Lib.hid (Nat.lt_of_lt_of_le HZ.out (x29.trans E.2).size)
                have XN := Lib.hid (HX.out.trans (x29.trans E.2))
                have BN := Lib.hid (HB.out.ext (x29.trans E.2))
                clear he HR HO HZ HX HB x29
                go_wp2
                go_roundw
                case rel => exact ⟨j + 1, vs, by omega, by go_num, ON, RN, ZN, XN, BN, HN, HK7⟩
                case measure => simp [intOf]; omega
              | true =>
                have HEDGE : Hid (edgeB n T (p, q) (p', q') = true) := Lib.hid (by rw [HEDGE0.out]; simp; omega)
                go_wp2_with fail
                refine wp_region_ext_lit (by kernel_rfl) (by kernel_rfl) ?_
                repeat (go_big_quiet_step (first | (go_at_call 108; with_reducible exact Calls.ext_of _ (cA _))))
                refine wpQuiet_nil ?_
                rintro _ ⟨E, rfl⟩
                have he : rowE n T L L[k] (j + 1) = rowE n T L L[k] j ++ [(j : Int)] := by rw [rowE_succ hjl, ← HXK.out, ← HYK.out, HEDGE.out]; simp
                obtain ⟨z, hz⟩ : ∃ z, vs[k]? = some z := ⟨_, List.getElem?_eq_getElem (by have := HR.out.len; rw [halfG_len] at this; omega)⟩
                obtain ⟨W, hW⟩ : ∃ W, W = E.1 := ⟨_, rfl⟩
                have xW : Ext wr W := by rw [hW]; exact x29.trans E.2
                rw [← hW]
                clear hW
                have fz : Fresh (w.heap.size + 1) wr z (rowE n T L L[k] j) := HR.out.row k z _ hz (halfG_at j hlt)
                have FZ := Lib.hid ((fz.ext xW).ext (Ext.alloc1 W (.cells #[.int .i64 j] 3)))
                have gz := ((xW.ownsRow HO.out).cellAt k (by omega)).trans hz
                have HZV := Lib.hid hz
                have HXW := Lib.hid xW
                have HE := Lib.hid he
                have hlen := rowE_len n T L L[k] j
                have HLEN : Hid ((rowE n T L L[k] j).length ≤ 1099511627776) := Lib.hid (by omega)
                have HSZW : Hid (w.heap.size + 1 ≤ (W.alloc (.cells #[.int .i64 j] 3)).heap.size) := Lib.hid (by have := HZ.out; have := xW.size; simp; omega)
                obtain ⟨az, cz, hzf, _⟩ := fz.ints
                obtain ⟨lz, hlz⟩ : ∃ lz, lz = (rowE n T L L[k] j).length := ⟨_, rfl⟩
                rw [← hlz] at hzf
                subst hzf
                clear fz x29 hlen he xW hlz
                go_wp2_with (at_builtin; refine wpList_pushAt rfl _ _ rfl (w.heap.size + 1) _ (rowE n T L L[k] j) (j : Int) rfl FZ.out ⟨W.heap.size, 0, none⟩ 1 rfl (cell_alloc_one _ _ _) HLEN.out HSZW.out ?_)
                intro v' w5 f5 hg5 hk5 hloc5
                have hsA : (W.alloc (.cells #[.int .i64 j] 3)).heap.size = W.heap.size + 1 := by simp
                have xa := HXW.out.trans (Ext.alloc1 W (.cells #[.int .i64 j] 3))
                have hro := (HR.out.ext xa).push HZV.out hg5 f5 (by rw [hsA]; exact hloc5)
                rw [← HE.out, ← halfG_set j hlt] at hro
                have hne : ∀ g, (Value.slice az lz cz).ownBlock = some g → w.heap.size + 1 ≤ g := fun g hgz => (World.ownsRow.lt FZ.out g hgz).1
                have ho5 : w5.ownsRow w.heap.size 26 1 (.slice (some ⟨w.heap.size, 0, none⟩) L.length L.length) L.length vs := World.ownsRow.kept (xa.ownsRow HO.out) hg5 (.inr (fun e => by have := hne w.heap.size e.symm; omega))
                have gf := ho5.frozenAt k
                have gs := (ho5.cellAt k (by omega)).trans HZV.out
                have hst := ho5.stored k v'
                obtain ⟨av, cv, hvf, _⟩ := f5.ints
                obtain ⟨lv, hlv⟩ : ∃ lv, lv = (rowE n T L L[k] j ++ [(j : Int)]).length := ⟨_, rfl⟩
                rw [← hlv] at hvf
                have hb5 : PairAt w5 b7 (p : Int) ((q : Int) + 1) := by
                  have h0 := HB.out.ext xa
                  have hb : ∀ g, (Value.slice az lz cz).ownBlock = some g → b7 < g := HK7.out _ HZV.out
                  exact ⟨World.grownBy.cell hg5 h0.1 (fun e => by have := hb b7 e.symm; omega), World.grownBy.cell hg5 h0.2 (fun e => by have := hb b7 e.symm; omega)⟩
                have hrn := hro.touch hst.2 (hro.low (Nat.lt_succ_self _))
                have RN := Lib.hid hrn
                have ON := Lib.hid hst.1
                have hxx : Ext w w5 := hk5 w (HX.out.trans xa) (by omega)
                have XN : Hid (Ext w (w5.setCell ⟨w.heap.size, k, none⟩ v')) := Lib.hid (hxx.setc (Nat.le_refl _))
                have ZN : Hid (w.heap.size < (w5.setCell ⟨w.heap.size, k, none⟩ v').heap.size) := Lib.hid (by have := HZ.out; have := xa.size; have := hg5.size; have := hst.2.size; omega)
                have BN : Hid (PairAt (w5.setCell ⟨w.heap.size, k, none⟩ v') b7 (p : Int) ((q : Int) + 1)) := Lib.hid (by
                  have := HB70.out
                  exact ⟨cell_offG (by dsimp only; omega) hb5.1, cell_offG (by dsimp only; omega) hb5.2⟩)
                have NN : Hid (NilFrom (vs.set k v') (k + 1)) := Lib.hid (fun i z hi hz => by
                  rw [List.getElem?_set_ne (by omega)] at hz
                  exact HN.out i z hi hz)
                have KN : Hid (Behind (vs.set k v') k b7) := Lib.hid (fun z hz g hg => by
                  rw [List.getElem?_set] at hz
                  split at hz
                  · split at hz
                    · cases hz
                      rcases hloc5 with e | e
                      · rw [e] at hg
                        exact HK7.out _ HZV.out g hg
                      · rw [e] at hg
                        cases hg
                        have h1 : b7 < (W.alloc (.cells #[.int .i64 j] 3)).heap.size := World.block_lt_of_cell? _ _ (HB.out.ext xa).1
                        rw [hsA] at h1
                        exact h1
                    · cases hz
                  · omega)
                subst hvf
                clear hlv hsA hro hne ho5 hst hb5 hrn hxx f5 hg5 hk5 hloc5 xa HR HO HZ HX HB HK7 HN FZ
                go_wp2
                go_roundw
                case rel => exact ⟨j + 1, _, by omega, by go_num, ON, RN, ZN, XN, BN, NN, KN⟩
                case measure => simp [intOf]; omega
            · cases bb with
              | false =>
                have HEDGE : Hid (edgeB n T (p, q) (p, q') = false) := Lib.hid (by rw [HEDGE0.out]; simp)
                go_wp2_with fail
                refine wp_region_ext_lit (by kernel_rfl) (by kernel_rfl) ?_
                repeat (go_big_quiet_step (first | (go_at_call 108; with_reducible exact Calls.ext_of _ (cA _))))
                refine wpQuiet_nil ?_
                rintro _ ⟨E, rfl⟩
                have he : rowE n T L L[k] (j + 1) = rowE n T L L[k] j := by rw [rowE_succ hjl, ← HXK.out, ← HYK.out, HEDGE.out]; simp
                have RN : Hid (Rows_ (w.heap.size + 1) E.1 vs (halfG n T L k (j + 1))) := Lib.hid (by rw [halfG_stay j hlt he]; exact HR.out.ext (x29.trans E.2))
                have ON := Lib.hid ((x29.trans E.2).ownsRow HO.out)
                have ZN : Hid (w.heap.size < E.1.heap.size) := Lib.hid (Nat.lt_of_lt_of_le HZ.out (x29.trans E.2).size)
                have XN := Lib.hid (HX.out.trans (x29.trans E.2))
                have BN := Lib.hid (HB.out.ext (x29.trans E.2))
                clear he HR HO HZ HX HB x29
                go_wp2
                go_roundw
                case rel => exact ⟨j + 1, vs, by omega, by go_num, ON, RN, ZN, XN, BN, HN, HK7⟩
                case measure => simp [intOf]; omega
              | true =>
                have HEDGE : Hid (edgeB n T (p, q) (p, q') = true) := Lib.hid (by rw [HEDGE0.out]; simp; omega)
                go_wp2_with fail
                refine wp_region_ext_lit (by kernel_rfl) (by kernel_rfl) ?_
                repeat (go_big_quiet_step (first | (go_at_call 108; with_reducible exact Calls.ext_of _ (cA _))))
                refine wpQuiet_nil ?_
                rintro _ ⟨E, rfl⟩
                have he : rowE n T L L[k] (j + 1) = rowE n T L L[k] j ++ [(j : Int)] := by rw [rowE_succ hjl, ← HXK.out, ← HYK.out, HEDGE.out]; simp
                obtain ⟨z, hz⟩ : ∃ z, vs[k]? = some z := ⟨_, List.getElem?_eq_getElem (by have := HR.out.len; rw [halfG_len] at this; omega)⟩
                obtain ⟨W, hW⟩ : ∃ W, W = E.1 := ⟨_, rfl⟩
                have xW : Ext wr W := by rw [hW]; exact x29.trans E.2
                rw [← hW]
                clear hW
                have fz : Fresh (w.heap.size + 1) wr z (rowE n T L L[k] j) := HR.out.row k z _ hz (halfG_at j hlt)
                have FZ := Lib.hid ((fz.ext xW).ext (Ext.alloc1 W (.cells #[.int .i64 j] 3)))
                have gz := ((xW.ownsRow HO.out).cellAt k (by omega)).trans hz
                have HZV := Lib.hid hz
                have HXW := Lib.hid xW
                have HE := Lib.hid he
                have hlen := rowE_len n T L L[k] j
                have HLEN : Hid ((rowE n T L L[k] j).length ≤ 1099511627776) := Lib.hid (by omega)
                have HSZW : Hid (w.heap.size + 1 ≤ (W.alloc (.cells #[.int .i64 j] 3)).heap.size) := Lib.hid (by have := HZ.out; have := xW.size; simp; omega)
                obtain ⟨az, cz, hzf, _⟩ := fz.ints
                obtain ⟨lz, hlz⟩ : ∃ lz, lz = (rowE n T L L[k] j).length := ⟨_, rfl⟩
                rw [← hlz] at hzf
                subst hzf
                clear fz x29 hlen he xW hlz
                go_wp2_with (at_builtin; refine wpList_pushAt rfl _ _ rfl (w.heap.size + 1) _ (rowE n T L L[k] j) (j : Int) rfl FZ.out ⟨W.heap.size, 0, none⟩ 1 rfl (cell_alloc_one _ _ _) HLEN.out HSZW.out ?_)
                intro v' w5 f5 hg5 hk5 hloc5
                have hsA : (W.alloc (.cells #[.int .i64 j] 3)).heap.size = W.heap.size + 1 := by simp
                have xa := HXW.out.trans (Ext.alloc1 W (.cells #[.int .i64 j] 3))
                have hro := (HR.out.ext xa).push HZV.out hg5 f5 (by rw [hsA]; exact hloc5)
                rw [← HE.out, ← halfG_set j hlt] at hro
                have hne : ∀ g, (Value.slice az lz cz).ownBlock = some g → w.heap.size + 1 ≤ g := fun g hgz => (World.ownsRow.lt FZ.out g hgz).1
                have ho5 : w5.ownsRow w.heap.size 26 1 (.slice (some ⟨w.heap.size, 0, none⟩) L.length L.length) L.length vs := World.ownsRow.kept (xa.ownsRow HO.out) hg5 (.inr (fun e => by have := hne w.heap.size e.symm; omega))
                have gf := ho5.frozenAt k
                have gs := (ho5.cellAt k (by omega)).trans HZV.out
                have hst := ho5.stored k v'
                obtain ⟨av, cv, hvf, _⟩ := f5.ints
                obtain ⟨lv, hlv⟩ : ∃ lv, lv = (rowE n T L L[k] j ++ [(j : Int)]).length := ⟨_, rfl⟩
                rw [← hlv] at hvf
                have hb5 : PairAt w5 b7 (p : Int) ((q : Int) + 1) := by
                  have h0 := HB.out.ext xa
                  have hb : ∀ g, (Value.slice az lz cz).ownBlock = some g → b7 < g := HK7.out _ HZV.out
                  exact ⟨World.grownBy.cell hg5 h0.1 (fun e => by have := hb b7 e.symm; omega), World.grownBy.cell hg5 h0.2 (fun e => by have := hb b7 e.symm; omega)⟩
                have hrn := hro.touch hst.2 (hro.low (Nat.lt_succ_self _))
                have RN := Lib.hid hrn
                have ON := Lib.hid hst.1
                have hxx : Ext w w5 := hk5 w (HX.out.trans xa) (by omega)
                have XN : Hid (Ext w (w5.setCell ⟨w.heap.size, k, none⟩ v')) := Lib.hid (hxx.setc (Nat.le_refl _))
                have ZN : Hid (w.heap.size < (w5.setCell ⟨w.heap.size, k, none⟩ v').heap.size) := Lib.hid (by have := HZ.out; have := xa.size; have := hg5.size; have := hst.2.size; omega)
                have BN : Hid (PairAt (w5.setCell ⟨w.heap.size, k, none⟩ v') b7 (p : Int) ((q : Int) + 1)) := Lib.hid (by
                  have := HB70.out
                  exact ⟨cell_offG (by dsimp only; omega) hb5.1, cell_offG (by dsimp only; omega) hb5.2⟩)
                have NN : Hid (NilFrom (vs.set k v') (k + 1)) := Lib.hid (fun i z hi hz => by
                  rw [List.getElem?_set_ne (by omega)] at hz
                  exact HN.out i z hi hz)
                have KN : Hid (Behind (vs.set k v') k b7) := Lib.hid (fun z hz g hg => by
                  rw [List.getElem?_set] at hz
                  split at hz
                  · split at hz
                    · cases hz
                      rcases hloc5 with e | e
                      · rw [e] at hg
                        exact HK7.out _ HZV.out g hg
                      · rw [e] at hg
                        cases hg
                        have h1 : b7 < (W.alloc (.cells #[.int .i64 j] 3)).heap.size := World.block_lt_of_cell? _ _ (HB.out.ext xa).1
                        rw [hsA] at h1
                        exact h1
                    · cases hz
                  · omega)
                subst hvf
                clear hlv hsA hro hne ho5 hst hb5 hrn hxx f5 hg5 hk5 hloc5 xa HR HO HZ HX HB HK7 HN FZ
                go_wp2
                go_roundw
                case rel => exact ⟨j + 1, _, by omega, by go_num, ON, RN, ZN, XN, BN, NN, KN⟩
                case measure => simp [intOf]; omega
        · obtain rfl : j = L.length := by omega
          have RN : Hid (Rows_ (w.heap.size + 1) wr vs (halfG n T L (k + 1) 0)) := Lib.hid (by rw [← halfG_next]; exact HR.out)
          clear HR HB HK7
          go_wp2
          go_roundw
          case rel => exact ⟨k + 1, vs, by omega, by go_num, HO, RN, HZ, HX, HN⟩
          case measure => simp [intOf]; omega
    · obtain rfl : k = L.length := by omega
      have RN : Hid (Rows_ (w.heap.size + 1) wr vs (graphP n T L)) := Lib.hid (by rw [← halfG_all]; exact HR.out)
      clear HR
      go_wp2
      go_ret
      have hgl : (graphP n T L).length = L.length := by simp [graphP]
      refine ⟨_, rfl, ⟨vs, ?_, RN.out.more (by omega), RN.out.low (g := w.heap.size) (by omega)⟩, HX.out⟩
      rw [hgl]
      exact HO.out

end Go.Proofs.YtcpmfcigciknlaaGreat

namespace Go.Proofs.YtcpmfcigciknlaaGreat
open Go.RowKit
set_option linter.unusedVariables false

/-- The numbers of a good row's list. -/
theorem dep_in {n : Int} {T : List (List RowD)} (hg : goodTab n T = true) {p : Nat} (hp : p < T.length) (q k : Nat) : 0 ≤ depI (rowOf n T p q) k ∧ depI (rowOf n T p q) k ≤ 6 := by
  have hz : ∀ j : Nat, (noneL n)[j]?.getD 0 = 0 := fun j => by
    unfold noneL
    split
    · rw [List.getElem?_replicate]
      split <;> rfl
    · rfl
  by_cases hq : q < T[p].length
  · rw [rowOf_in hp hq]
    have h := (goodTab_row hg hp hq).1
    unfold goodRow at h
    simp only [Bool.and_eq_true] at h
    have h2 := h.2
    unfold depI
    split at h2
    · unfold emptyB sameA at h2
      simp only [Bool.and_eq_true, decide_eq_true_eq] at h2
      rw [h2.2.2, hz]
      omega
    · unfold fullB at h2
      simp only [Bool.and_eq_true] at h2
      have h3 := (goodD_of h2.2).2.2
      by_cases hk : k < T[p][q].l.length
      · rw [List.getElem?_eq_getElem hk, Option.getD_some]
        have := List.all_eq_true.1 h3 _ (List.getElem_mem hk)
        unfold inB at this
        simp at this
        omega
      · rw [List.getElem?_eq_none (by omega)]
        simp
  · rw [rowOf_out hp (by omega)]
    unfold depI emptyR
    rw [hz]
    omega
end Go.Proofs.YtcpmfcigciknlaaGreat

namespace Go.Proofs.YtcpmfcigciknlaaGreat
open Go.RowKit Go.Maps
set_option linter.unusedVariables false

/-- Of a replica's first m instances those that are not x. -/
def depsAt (x : Nat × Nat) (k m : Nat) : List (Nat × Nat) := ((List.range m).filter fun i => !(decide ((k, i) = x))).map fun i => (k, i)
def depN (r : RowD) (k : Nat) : Nat := (depI r k).toNat
/-- .. of the first k replicas. -/
def depsTo (r : RowD) (x : Nat × Nat) (k : Nat) : List (Nat × Nat) := (List.range k).flatMap fun p => depsAt x p (depN r p)
def depsL (n : Int) (T : List (List RowD)) (x : Nat × Nat) : List (Nat × Nat) := depsTo (rowOf n T x.1 x.2) x (rowOf n T x.1 x.2).l.length
theorem depsAt_succ (x : Nat × Nat) (k m : Nat) : depsAt x k (m + 1) = depsAt x k m ++ if (k, m) = x then [] else [(k, m)] := by
  unfold depsAt
  rw [List.range_succ, List.filter_append, List.map_append]
  congr 1
  by_cases e : (k, m) = x <;> simp [e]
theorem depsTo_succ (r : RowD) (x : Nat × Nat) (k : Nat) : depsTo r x (k + 1) = depsTo r x k ++ depsAt x k (depN r k) := by simp [depsTo, List.range_succ]
theorem depsAt_len (x : Nat × Nat) (k m : Nat) : (depsAt x k m).length ≤ m := by
  unfold depsAt
  rw [List.length_map]
  have := List.length_filter_le (fun i => !(decide ((k, i) = x))) (List.range m)
  simpa using this
theorem depsTo_len {r : RowD} {x : Nat × Nat} (h : ∀ k, depN r k ≤ 6) (k : Nat) : (depsTo r x k).length ≤ 6 * k := by
  induction k with
  | zero => simp [depsTo]
  | succ k ih =>
    rw [depsTo_succ, List.length_append]
    have h1 := depsAt_len x k (depN r k)
    have h2 := h k
    omega
theorem mem_depsAt {x y : Nat × Nat} {k m : Nat} : y ∈ depsAt x k m ↔ y.1 = k ∧ y.2 < m ∧ y ≠ x := by
  unfold depsAt
  rw [List.mem_map]
  constructor
  · rintro ⟨i, hi, rfl⟩
    rw [List.mem_filter, List.mem_range] at hi
    exact ⟨rfl, hi.1, by simpa using hi.2⟩
  · rintro ⟨h1, h2, h3⟩
    refine ⟨y.2, ?_, ?_⟩
    · rw [List.mem_filter, List.mem_range]
      refine ⟨h2, ?_⟩
      have e : (k, y.2) = y := by rw [← h1]
      rw [e]
      simpa using h3
    · rw [← h1]
theorem mem_depsTo {r : RowD} {x y : Nat × Nat} {k : Nat} : y ∈ depsTo r x k ↔ y.1 < k ∧ y.2 < depN r y.1 ∧ y ≠ x := by
  unfold depsTo
  rw [List.mem_flatMap]
  constructor
  · rintro ⟨p, hp, hy⟩
    obtain ⟨h1, h2, h3⟩ := mem_depsAt.1 hy
    subst h1
    exact ⟨List.mem_range.1 hp, h2, h3⟩
  · rintro ⟨h1, h2, h3⟩
    exact ⟨y.1, List.mem_range.2 h1, mem_depsAt.2 ⟨rfl, h2, h3⟩⟩
theorem rowOf_list {n : Int} {T : List (List RowD)} (hg : goodTab n T = true) {p : Nat} (hp : p < T.length) (q : Nat) : (rowOf n T p q).l.length ≤ 5 := by
  by_cases hq : q < T[p].length
  · rw [rowOf_in hp hq]
    exact (goodTab_row hg hp hq).2.2
  · rw [rowOf_out hp (by omega)]
    unfold emptyR noneL
    split
    · rename_i h
      rcases isGrp_of h with e | e <;> subst e <;> decide
    · simp

set_option maxHeartbeats 4000000 in
set_option maxRecDepth 100000 in
theorem l6Deps_any (n : Int) (u : Value) (T : List (List RowD)) (p q : Nat) (w : World) (hu : Rowzz w u T) (hg : goodTab n T = true) (hp : p < T.length) (hq : q ≤ 5) :
    Calls Tryz.prog 137 #[.agg #[.int .i64 n, u], .int .i64 p, .int .i64 ((q : Int) + 1)] w (NewIntss ((depsL n T (p, q)).map pairOf) w) := by
  have HU := Lib.hid hu
  have HDI := Lib.hid (fun k => dep_in hg hp q k)
  have hlen := rowOf_list hg hp q
  have hx0 := Ext.alloc1 w (.cells #[.int .i64 n, u] 32)
  have HX0 := Lib.hid hx0
  obtain ⟨d, hd⟩ : ∃ d, d = rowOf n T p q := ⟨_, rfl⟩
  have cR : ∀ W, Ext w W → Calls Tryz.prog 65 #[.agg #[.int .i64 n, u], .int .i64 p, .int .i64 ((q : Int) + 1)] W (NewRow d W) := fun W hW => by
    rw [hd]
    exact l4At_any n _ T p q _ (hu.ext hW) hg hp hq
  have CR := Lib.hid cR
  have hgoal : depsL n T (p, q) = depsTo d (p, q) d.l.length := by unfold depsL; simp only [hd]
  rw [hgoal]
  rw [← hd] at hlen HDI
  obtain ⟨au, cu, rfl, hlu, _, _⟩ := hu
  clear hx0 cR hgoal hd hg
  go_enter Tryz.func137, Tryz.ntmps137
  go_wp2_with fail
  refine (CR.out _ HX0.out).mono ?_
  rintro e w1 ⟨ux, rfl, fx, x1⟩
  obtain ⟨ax, kx, rfl⟩ := fx.form
  have hfd := fun W => field_rowA d.b d.v d.st d.k d.i d.f d.t d.a d.s (.slice ax d.l.length kx) W
  have I1 := Lib.hid fx.ints
  have X1 := Lib.hid (HX0.out.trans x1)
  clear fx x1
  obtain ⟨W, hW⟩ : ∃ W, W = w1.alloc (.cells #[.int .i64 d.s, .slice ax d.l.length kx] 81) := ⟨_, rfl⟩
  have hbx := attrAt_new w1 81 d.s (.slice ax d.l.length kx)
  rw [← hW] at hbx
  have xW : Ext w1 W := by rw [hW]; exact Ext.alloc1 _ _
  have HBX := Lib.hid hbx
  have IW := Lib.hid (I1.out.ext xW)
  have XW := Lib.hid (X1.out.trans xW)
  have HWW := Lib.hid hW
  have HWS : Hid (w.heap.size ≤ W.heap.size) := Lib.hid (X1.out.trans xW).size
  clear hbx xW hW X1 I1
  go_wp2
  rw [← HWW.out]
  go_loopw [8, 20] (fun o i wr => ∃ k : Nat, k ≤ d.l.length ∧ i = .int .i64 k ∧ Hid (FreshSS W.heap.size wr o ((depsTo d (p, q) k).map pairOf)) ∧ Hid (Ext W wr)) (fun _ i _ => d.l.length - (intOf i).toNat)
  case atStart => exact ⟨0, Nat.zero_le _, rfl, Lib.hid (FreshSS.nil _ _), Lib.hid (Ext.refl _)⟩
  case round =>
    obtain ⟨k, hk, rfl, HF, HX⟩ := hrel
    by_cases hlt : k < d.l.length
    · obtain ⟨a', c', e', hlx, _, dl⟩ := IW.out.ext HX.out
      obtain ⟨bl, ol, ha', dl⟩ := dl (by omega)
      simp only [Value.slice.injEq] at e'
      have eax : ax = some ⟨bl, ol, none⟩ := e'.1.trans ha'
      have ekx : kx = c' := e'.2.2
      subst eax
      have gl := dl k hlt
      have gl2 : wr.cell? ⟨bl, ol + k, none⟩ = some (.int .i64 (depI d k)) := gl
      have hdk := HDI.out k
      obtain ⟨m, hm⟩ : ∃ m, m = depN d k := ⟨_, rfl⟩
      have hmd : depI d k = (m : Int) := by rw [hm]; unfold depN; omega
      rw [hmd] at gl2
      obtain ⟨t0, t1⟩ := HBX.out.ext HX.out
      have hm6 : m ≤ 6 := by omega
      have HMM := Lib.hid hm
      have HDL : Hid ((depsTo d (p, q) k).length ≤ 1000) := Lib.hid (by
        have := depsTo_len (r := d) (x := (p, q)) (fun k => by have := HDI.out k; unfold depN; omega) k
        omega)
      clear e' dl gl hdk hm hmd ha' ekx hlx
      go_wp2
      go_loopw [8, 11] (fun o i wr => ∃ j : Nat, j ≤ m ∧ i = .int .i64 ((j : Int) + 1) ∧ Hid (FreshSS W.heap.size wr o ((depsTo d (p, q) k ++ depsAt (p, q) k j).map pairOf)) ∧ Hid (Ext W wr)) (fun _ i _ => m + 1 - (intOf i).toNat)
      case atStart => exact ⟨0, Nat.zero_le _, rfl, Lib.hid (by have h := HF.out; simpa [depsAt] using h), HX⟩
      case round =>
        clear gl2 t0 t1 HF HX
        obtain ⟨j, hj, rfl, HF, HX⟩ := hrel
        by_cases hjm : j < m
        · by_cases hx : (k, j) = (p, q)
          · have hno : depsAt (p, q) k (j + 1) = depsAt (p, q) k j := by rw [depsAt_succ, if_pos hx]; simp
            have FN : Hid (FreshSS W.heap.size wr u8 ((depsTo d (p, q) k ++ depsAt (p, q) k (j + 1)).map pairOf)) := Lib.hid (by rw [hno]; exact HF.out)
            simp only [Prod.mk.injEq] at hx
            obtain ⟨rfl, rfl⟩ := hx
            clear hno HF
            go_wp2
            go_roundw
            case rel => exact ⟨j + 1, by omega, by go_num, FN, HX⟩
            case measure => simp [intOf]; omega
          · by_cases hkp : k = p
            · have hjq : ¬ j = q := fun e => hx (by rw [hkp, e])
              have n1 : ((k : Int) != (p : Int)) = false := by simp [hkp]
              have n2 : ((j : Int) + 1 != (q : Int) + 1) = true := by simp; omega
              clear hkp hjq
              have hyes : depsAt (p, q) k (j + 1) = depsAt (p, q) k j ++ [(k, j)] := by rw [depsAt_succ, if_neg hx]
              have HYES := Lib.hid hyes
              have HG := Lib.hid HF.out
              have HBB : Hid (W.heap.size ≤ wr.heap.size) := Lib.hid HX.out.size
              have hll : ((depsTo d (p, q) k ++ depsAt (p, q) k j).map pairOf).length ≤ 1048576 := by
                rw [List.length_map, List.length_append]
                have h1 := depsAt_len (p, q) k j
                have h2 := HDL.out
                omega
              have HLL := Lib.hid hll
              have hfr : Fresh wr.heap.size ((wr.alloc (.cells #[.int .i64 k, .int .i64 ((j : Int) + 1)] 3)).alloc (.cells #[.slice (some ⟨wr.heap.size, 0, none⟩) 2 2] 26)) (.slice (some ⟨wr.heap.size, 0, none⟩) 2 2) (pairOf (k, j)) := (fresh_lit wr (pairOf (k, j)) #[.int .i64 k, .int .i64 ((j : Int) + 1)] wr.heap.size rfl (Nat.le_refl _) (by simp [pairOf])).ext (Ext.alloc1 _ _)
              have HFR := Lib.hid hfr
              clear hyes hll hfr hx
              go_wp2_with (at_builtin; refine wpList_pushSS rfl _ _ rfl W.heap.size _ ((depsTo d (p, q) k ++ depsAt (p, q) k j).map pairOf) (pairOf (k, j)) wr rfl HG.out (Ext.alloc2 _ _ _) _ HFR.out ⟨wr.heap.size + 1, 0, none⟩ 1 rfl (by go_simp) rfl HLL.out HBB.out ?_)
              intro v' w' f' k'
              have HZ : Hid (Ext W w') := Lib.hid (k' W (HX.out.trans (Ext.alloc2 _ _ _)) (Nat.le_refl _))
              have FF : Hid (FreshSS W.heap.size w' v' ((depsTo d (p, q) k ++ depsAt (p, q) k (j + 1)).map pairOf)) := Lib.hid (by
                have e : (depsTo d (p, q) k ++ depsAt (p, q) k (j + 1)).map pairOf = (depsTo d (p, q) k ++ depsAt (p, q) k j).map pairOf ++ [pairOf (k, j)] := by rw [HYES.out]; simp
                rw [e]
                rw [List.map_append, List.append_assoc]
                exact f')
              clear f' k' HG HF HX
              go_wp2
              go_roundw
              case rel => exact ⟨j + 1, by omega, by go_num, FF, HZ⟩
              case measure => simp [intOf]; omega
            · have n1 : ((k : Int) != (p : Int)) = true := by simp; omega
              clear hkp
              have hyes : depsAt (p, q) k (j + 1) = depsAt (p, q) k j ++ [(k, j)] := by rw [depsAt_succ, if_neg hx]
              have HYES := Lib.hid hyes
              have HG := Lib.hid HF.out
              have HBB : Hid (W.heap.size ≤ wr.heap.size) := Lib.hid HX.out.size
              have hll : ((depsTo d (p, q) k ++ depsAt (p, q) k j).map pairOf).length ≤ 1048576 := by
                rw [List.length_map, List.length_append]
                have h1 := depsAt_len (p, q) k j
                have h2 := HDL.out
                omega
              have HLL := Lib.hid hll
              have hfr : Fresh wr.heap.size ((wr.alloc (.cells #[.int .i64 k, .int .i64 ((j : Int) + 1)] 3)).alloc (.cells #[.slice (some ⟨wr.heap.size, 0, none⟩) 2 2] 26)) (.slice (some ⟨wr.heap.size, 0, none⟩) 2 2) (pairOf (k, j)) := (fresh_lit wr (pairOf (k, j)) #[.int .i64 k, .int .i64 ((j : Int) + 1)] wr.heap.size rfl (Nat.le_refl _) (by simp [pairOf])).ext (Ext.alloc1 _ _)
              have HFR := Lib.hid hfr
              clear hyes hll hfr hx
              go_wp2_with (at_builtin; refine wpList_pushSS rfl _ _ rfl W.heap.size _ ((depsTo d (p, q) k ++ depsAt (p, q) k j).map pairOf) (pairOf (k, j)) wr rfl HG.out (Ext.alloc2 _ _ _) _ HFR.out ⟨wr.heap.size + 1, 0, none⟩ 1 rfl (by go_simp) rfl HLL.out HBB.out ?_)
              intro v' w' f' k'
              have HZ : Hid (Ext W w') := Lib.hid (k' W (HX.out.trans (Ext.alloc2 _ _ _)) (Nat.le_refl _))
              have FF : Hid (FreshSS W.heap.size w' v' ((depsTo d (p, q) k ++ depsAt (p, q) k (j + 1)).map pairOf)) := Lib.hid (by
                have e : (depsTo d (p, q) k ++ depsAt (p, q) k (j + 1)).map pairOf = (depsTo d (p, q) k ++ depsAt (p, q) k j).map pairOf ++ [pairOf (k, j)] := by rw [HYES.out]; simp
                rw [e]
                rw [List.map_append, List.append_assoc]
                exact f')
              clear f' k' HG HF HX
              go_wp2
              go_roundw
              case rel => exact ⟨j + 1, by omega, by go_num, FF, HZ⟩
              case measure => simp [intOf]; omega
        · obtain rfl : j = m := by omega
          have FN : Hid (FreshSS W.heap.size wr u8 ((depsTo d (p, q) (k + 1)).map pairOf)) := Lib.hid (by rw [depsTo_succ, ← HMM.out]; exact HF.out)
          clear HF
          go_wp2
          go_roundw
          case rel => exact ⟨k + 1, by omega, by go_num, FN, HX⟩
          case measure => simp [intOf]; omega
    · obtain rfl : k = d.l.length := by omega
      obtain ⟨t0, t1⟩ := HBX.out.ext HX.out
      have XE := Lib.hid (XW.out.trans HX.out)
      go_wp2
      go_ret
      exact ⟨_, rfl, HF.out.more HWS.out, XE.out⟩

end Go.Proofs.YtcpmfcigciknlaaGreat

namespace Go.Proofs.YtcpmfcigciknlaaGreat
open Go.RowKit Go.Maps
set_option linter.unusedVariables false

theorem mem_insL {L : List (Nat × Nat)} {x z : Nat × Nat} : z ∈ insL L x ↔ z = x ∨ z ∈ L := by
  unfold insL
  conv => rhs; rw [← List.take_append_drop (insKI L x) L]
  simp only [List.mem_append, List.mem_singleton]
  constructor
  · rintro ((h | h) | h)
    · exact .inr (.inl h)
    · exact .inl h
    · exact .inr (.inr h)
  · rintro (h | h | h)
    · exact .inl (.inr h)
    · exact .inl (.inl h)
    · exact .inr h

theorem mem_depsL {n : Int} {T : List (List RowD)} {x z : Nat × Nat} : z ∈ depsL n T x ↔ z ∈ hungL (rowOf n T x.1 x.2) ∧ z ≠ x := by
  unfold depsL depsTo hungL hungTo depsAt hungAt depN depM
  simp only [List.mem_flatMap, List.mem_range, List.mem_map, List.mem_filter]
  constructor
  · rintro ⟨p, hp, i, ⟨hi, hne⟩, rfl⟩
    exact ⟨⟨p, hp, i, hi, rfl⟩, by simpa using hne⟩
  · rintro ⟨⟨p, hp, i, hi, rfl⟩, hne⟩
    exact ⟨p, hp, i, ⟨hi, by simpa using hne⟩, rfl⟩

theorem insAtI_spec (L : List (Nat × Nat)) (x : Nat × Nat) : ∀ k, k ≤ L.length → (∀ i y, insAtI L x k ≤ i → i < k → L[i]? = some y → lexL x y) ∧ (insAtI L x k = 0 ∨ ∃ y, L[insAtI L x k - 1]? = some y ∧ ¬ lexL x y)
  | 0, _ => ⟨fun i y _ h => by omega, .inl rfl⟩
  | k + 1, hk => by
    have e : L[k]? = some (L[k]'(by omega)) := List.getElem?_eq_getElem _
    by_cases h : lexL x (L[k]'(by omega))
    · have e2 : insAtI L x (k + 1) = insAtI L x k := by
        conv => lhs; unfold insAtI
        rw [e]
        simp only [if_pos h]
      rw [e2]
      obtain ⟨i1, i2⟩ := insAtI_spec L x k (by omega)
      refine ⟨fun i y h1 h2 hy => ?_, i2⟩
      by_cases hi : i = k
      · subst hi
        rw [e] at hy
        rw [← Option.some.inj hy]; exact h
      · exact i1 i y h1 (by omega) hy
    · have e2 : insAtI L x (k + 1) = k + 1 := by
        conv => lhs; unfold insAtI
        rw [e]
        simp only [if_neg h]
      rw [e2]
      exact ⟨fun i y h1 h2 _ => by omega, .inr ⟨_, e, h⟩⟩
theorem lexL_trans {a b c : Nat × Nat} (h : lexL a b) (k : lexL b c) : lexL a c := by unfold lexL at *; omega
theorem lexL_total {a b : Nat × Nat} (h : ¬ lexL a b) (hne : a ≠ b) : lexL b a := by
  unfold lexL at *
  have : ¬ (a.1 = b.1 ∧ a.2 = b.2) := fun e => hne (Prod.ext e.1 e.2)
  omega
theorem insL_sorted {L : List (Nat × Nat)} {x : Nat × Nat} (h : L.Pairwise lexL) (hx : x ∉ L) : (insL L x).Pairwise lexL := by
  obtain ⟨h1, h2⟩ := insAtI_spec L x L.length (Nat.le_refl _)
  have hk : insKI L x ≤ L.length := insAtI_le L x _
  have hdrop : ∀ z ∈ L.drop (insKI L x), lexL x z := by
    intro z hz
    obtain ⟨i, hi, e⟩ := List.getElem_of_mem hz
    rw [List.length_drop] at hi
    rw [List.getElem_drop] at e
    exact h1 (insKI L x + i) z (Nat.le_add_right _ _) (by omega) (by rw [List.getElem?_eq_getElem (by omega), e])
  have htake : ∀ z ∈ L.take (insKI L x), lexL z x := by
    intro z hz
    obtain ⟨i, hi, e⟩ := List.getElem_of_mem hz
    rw [List.length_take] at hi
    rw [List.getElem_take] at e
    have hlt : i < L.length := by omega
    rcases h2 with h0 | ⟨y, hy, hn⟩
    · have : insKI L x = 0 := h0
      omega
    · have hy' : L[insKI L x - 1]? = some y := hy
      have hlt2 := (List.getElem?_eq_some_iff.1 hy').1
      have hym : y ∈ L := List.mem_of_getElem? hy'
      have hyx : lexL y x := lexL_total hn (fun e => hx (by rw [e]; exact hym))
      by_cases hi2 : i = insKI L x - 1
      · have : z = y := by
          rw [← e]
          have := (List.getElem?_eq_some_iff.1 hy').2
          rw [← this]
          congr
        rw [this]; exact hyx
      · have hlex : lexL z y := by
          have := List.pairwise_iff_getElem.1 h i (insKI L x - 1) hlt hlt2 (by omega)
          rw [e, (List.getElem?_eq_some_iff.1 hy').2] at this
          exact this
        exact lexL_trans hlex hyx
  unfold insL
  rw [List.append_assoc, List.pairwise_append]
  refine ⟨h.sublist (List.take_sublist _ _), ?_, ?_⟩
  · rw [List.singleton_append, List.pairwise_cons]
    exact ⟨hdrop, h.sublist (List.drop_sublist _ _)⟩
  · intro a ha b hb
    rw [List.singleton_append, List.mem_cons] at hb
    rcases hb with rfl | hb
    · exact htake a ha
    · exact lexL_trans (htake a ha) (hdrop b hb)

/-- One instance more to which one comes: the met ones, and the blockers. -/
def addB (T : List (List RowD)) (s : List (Nat × Nat) × List (Nat × Nat)) (x : Nat × Nat) : List (Nat × Nat) × List (Nat × Nat) :=
  if x ∈ s.1 ∨ x ∈ s.2 then s else if instCom T x.1 x.2 then (s.1 ++ [x], s.2) else (s.1, insL s.2 x)

/-- What holds of the met ones and the blockers, the first i of the met ones and the first j that the next one hangs on looked through. -/
structure BlkI (n : Int) (T : List (List RowD)) (x0 : Nat × Nat) (i j : Nat) (s : List (Nat × Nat) × List (Nat × Nat)) : Prop where
  first : x0 ∈ s.1
  com : ∀ z ∈ s.1, instCom T z.1 z.2 = true
  not : ∀ z ∈ s.2, instCom T z.1 z.2 = false
  nodup : s.1.Nodup
  done : ∀ k y, k < i → s.1[k]? = some y → ∀ z ∈ depsL n T y, z ∈ s.1 ∨ z ∈ s.2
  part : ∀ y, s.1[i]? = some y → ∀ z ∈ (depsL n T y).take j, z ∈ s.1 ∨ z ∈ s.2
  led : ∀ C : Nat × Nat → Prop, (∀ y, C y → instCom T y.1 y.2 = true → ∀ z ∈ hungL (rowOf n T y.1 y.2), C z) → C x0 → (∀ z ∈ s.1, C z) ∧ ∀ z ∈ s.2, C z
  sorted : s.2.Pairwise lexL

theorem BlkI.start {n : Int} {T : List (List RowD)} {x0 : Nat × Nat} (h : instCom T x0.1 x0.2 = true) : BlkI n T x0 0 0 ([x0], []) where
  first := by simp
  com := fun z hz => by obtain rfl : z = x0 := by simpa using hz
                        exact h
  not := fun z hz => by cases hz
  nodup := by simp
  done := fun k y hk => by omega
  part := fun y _ z hz => by simp at hz
  led := fun C _ hC => ⟨fun z hz => by obtain rfl : z = x0 := by simpa using hz
                                       exact hC, fun z hz => by cases hz⟩
  sorted := List.Pairwise.nil

theorem addB_keep {T : List (List RowD)} {s : List (Nat × Nat) × List (Nat × Nat)} {x : Nat × Nat} : (∀ (k : Nat) (y : Nat × Nat), s.1[k]? = some y → (addB T s x).1[k]? = some y) ∧ (∀ z, z ∈ s.1 ∨ z ∈ s.2 → z ∈ (addB T s x).1 ∨ z ∈ (addB T s x).2) ∧ (x ∈ (addB T s x).1 ∨ x ∈ (addB T s x).2) := by
  unfold addB
  split
  · rename_i h
    exact ⟨fun _ _ h => h, fun _ h => h, h⟩
  · split
    · refine ⟨fun k y h => ?_, fun z h => ?_, .inl (by simp)⟩
      · have hk := (List.getElem?_eq_some_iff.1 h).1
        rw [List.getElem?_append_left hk]
        exact h
      · rcases h with h | h
        · exact .inl (List.mem_append_left _ h)
        · exact .inr h
    · refine ⟨fun _ _ h => h, fun z h => ?_, .inr (mem_insL.2 (.inl rfl))⟩
      rcases h with h | h
      · exact .inl h
      · exact .inr (mem_insL.2 (.inr h))

theorem BlkI.step {n : Int} {T : List (List RowD)} {x0 : Nat × Nat} {i j : Nat} {s : List (Nat × Nat) × List (Nat × Nat)} (h : BlkI n T x0 i j s) {y x : Nat × Nat} (hy : s.1[i]? = some y) (hx : (depsL n T y)[j]? = some x) : BlkI n T x0 i (j + 1) (addB T s x) := by
  obtain ⟨k1, k2, k3⟩ := addB_keep (T := T) (s := s) (x := x)
  have old : ∀ k, k ≤ i → ∀ y', (addB T s x).1[k]? = some y' → s.1[k]? = some y' := by
    intro k hk y' h'
    have hi := (List.getElem?_eq_some_iff.1 hy).1
    have e : s.1[k]? = some (s.1[k]'(by omega)) := List.getElem?_eq_getElem _
    have := k1 k _ e
    rw [this] at h'
    rw [e, h']
  have hmem : x ∈ depsL n T y := List.mem_of_getElem? hx
  have hled : ∀ C : Nat × Nat → Prop, (∀ y, C y → instCom T y.1 y.2 = true → ∀ z ∈ hungL (rowOf n T y.1 y.2), C z) → C x0 → C x := fun C hC h0 => hC y ((h.led C hC h0).1 y (List.mem_of_getElem? hy)) (h.com y (List.mem_of_getElem? hy)) x (mem_depsL.1 hmem).1
  have hdone : ∀ k y', k < i → (addB T s x).1[k]? = some y' → ∀ z ∈ depsL n T y', z ∈ (addB T s x).1 ∨ z ∈ (addB T s x).2 := fun k y' hk h' z hz => k2 z (h.done k y' hk (old k (by omega) y' h') z hz)
  have hpart : ∀ y', (addB T s x).1[i]? = some y' → ∀ z ∈ (depsL n T y').take (j + 1), z ∈ (addB T s x).1 ∨ z ∈ (addB T s x).2 := by
    intro y' h' z hz
    have e := old i (Nat.le_refl _) y' h'
    obtain rfl : y = y' := by rw [hy] at e; exact Option.some.inj e
    rw [List.take_add_one, hx] at hz
    rcases List.mem_append.1 hz with hz | hz
    · exact k2 z (h.part y hy z hz)
    · obtain rfl : z = x := by simpa using hz
      exact k3
  refine ⟨?_, ?_, ?_, ?_, hdone, hpart, ?_, ?_⟩
  · have h0 := h.first
    unfold addB
    split
    · exact h0
    · split
      · exact List.mem_append_left _ h0
      · exact h0
  · have h0 := h.com
    unfold addB
    split
    · exact h0
    · split
      · rename_i hc
        intro z hz
        rcases List.mem_append.1 hz with hz | hz
        · exact h0 z hz
        · obtain rfl : z = x := by simpa using hz
          exact hc
      · exact h0
  · have h0 := h.not
    unfold addB
    split
    · exact h0
    · split
      · exact h0
      · rename_i hc
        intro z hz
        rcases mem_insL.1 hz with rfl | hz
        · simpa using hc
        · exact h0 z hz
  · have h0 := h.nodup
    unfold addB
    split
    · exact h0
    · rename_i hn
      split
      · refine List.nodup_append.2 ⟨h0, by simp, fun a ha b hb => ?_⟩
        obtain rfl : b = x := by simpa using hb
        intro e
        subst e
        exact hn (.inl ha)
      · exact h0
  · intro C hC hx0
    have h0 := h.led C hC hx0
    have hxc := hled C hC hx0
    unfold addB
    split
    · exact h0
    · split
      · refine ⟨fun z hz => ?_, h0.2⟩
        rcases List.mem_append.1 hz with hz | hz
        · exact h0.1 z hz
        · obtain rfl : z = x := by simpa using hz
          exact hxc
      · refine ⟨h0.1, fun z hz => ?_⟩
        rcases mem_insL.1 hz with rfl | hz
        · exact hxc
        · exact h0.2 z hz
  · have h0 := h.sorted
    unfold addB
    split
    · exact h0
    · rename_i hn
      split
      · exact h0
      · exact insL_sorted h0 (fun e => hn (.inr e))

theorem BlkI.next {n : Int} {T : List (List RowD)} {x0 : Nat × Nat} {i j : Nat} {s : List (Nat × Nat) × List (Nat × Nat)} (h : BlkI n T x0 i j s) {y : Nat × Nat} (hy : s.1[i]? = some y) (hj : (depsL n T y).length ≤ j) : BlkI n T x0 (i + 1) 0 s := by
  refine ⟨h.first, h.com, h.not, h.nodup, fun k y' hk h' z hz => ?_, fun y' _ z hz => by simp at hz, h.led, h.sorted⟩
  by_cases hki : k < i
  · exact h.done k y' hki h' z hz
  · obtain rfl : k = i := by omega
    obtain rfl : y = y' := by rw [hy] at h'; exact Option.some.inj h'
    exact h.part y hy z (by rw [List.take_of_length_le hj]; exact hz)

/-- No blocker: ready; and the other way about. -/
theorem BlkI.ready {n : Int} {T : List (List RowD)} {x0 : Nat × Nat} {i : Nat} {s : List (Nat × Nat) × List (Nat × Nat)} (h : BlkI n T x0 i 0 s) (hi : s.1.length ≤ i) : s.2 = [] ↔ readyP n T x0 := by
  constructor
  · intro h0
    refine ⟨fun z => z ∈ s.1, ⟨h.com, fun y hy z hz => ?_⟩, h.first⟩
    by_cases e : z = y
    · rw [e]; exact hy
    · obtain ⟨k, hk⟩ := List.getElem?_of_mem hy
      have hlt := (List.getElem?_eq_some_iff.1 hk).1
      rcases h.done k y (by omega) hk z (mem_depsL.2 ⟨hz, e⟩) with g | g
      · exact g
      · rw [h0] at g; cases g
  · rintro ⟨C, hC, h0⟩
    have hl := (h.led C (fun y hy _ z hz => hC.2 y hy z hz) h0).2
    cases hs : s.2 with
    | nil => rfl
    | cons z r =>
      have hz : z ∈ s.2 := by rw [hs]; simp
      have a := hC.1 z (hl z hz)
      rw [h.not z hz] at a
      cases a

theorem insL_perm (L : List (Nat × Nat)) (x : Nat × Nat) : (insL L x).Perm (x :: L) := by
  unfold insL
  rw [List.append_assoc, List.singleton_append]
  have h := List.perm_middle (a := x) (l₁ := L.take (insKI L x)) (l₂ := L.drop (insKI L x))
  rw [List.take_append_drop] at h
  exact h

/-- The met ones and the blockers are instances that a table may have, each once. -/
structure BlkB (s : List (Nat × Nat) × List (Nat × Nat)) : Prop where
  n1 : s.1.Nodup
  n2 : s.2.Nodup
  in1 : ∀ z ∈ s.1, z.1 < 5 ∧ z.2 < 6
  in2 : ∀ z ∈ s.2, z.1 < 5 ∧ z.2 < 6

theorem few_of {l : List (Nat × Nat)} (hn : l.Nodup) (hb : ∀ z ∈ l, z.1 < 5 ∧ z.2 < 6) : l.length ≤ 30 := by
  have h := nodup_len 30 (l.map fun z => z.1 * 6 + z.2) (by
    unfold List.Nodup at hn ⊢
    rw [List.pairwise_map]
    refine List.Pairwise.imp_of_mem ?_ hn
    intro a b ha hb' hne e
    have h1 := hb a ha
    have h2 := hb b hb'
    apply hne
    exact Prod.ext (by omega) (by omega)) (by
    intro i hi
    obtain ⟨z, hz, rfl⟩ := List.mem_map.1 hi
    have := hb z hz
    omega)
  rwa [List.length_map] at h
theorem BlkB.few {s : List (Nat × Nat) × List (Nat × Nat)} (h : BlkB s) : s.1.length ≤ 30 ∧ s.2.length ≤ 30 := ⟨few_of h.n1 h.in1, few_of h.n2 h.in2⟩

theorem depsL_in {n : Int} {T : List (List RowD)} (hg : goodTab n T = true) {y x : Nat × Nat} (hy : y.1 < T.length) (hx : x ∈ depsL n T y) : x.1 < 5 ∧ x.2 < 6 := by
  have h := (mem_depsL.1 hx).1
  unfold hungL hungTo hungAt depM at h
  simp only [List.mem_flatMap, List.mem_range, List.mem_map] at h
  obtain ⟨p, hp, i, hi, rfl⟩ := h
  have h1 := rowOf_list hg hy y.2
  have h2 := dep_in hg hy y.2 p
  exact ⟨by show p < 5; omega, by show i < 6; omega⟩

theorem BlkB.step {n : Int} {T : List (List RowD)} (hg : goodTab n T = true) {s : List (Nat × Nat) × List (Nat × Nat)} (h : BlkB s) {y x : Nat × Nat} (hy : y.1 < T.length) (hx : x ∈ depsL n T y) : BlkB (addB T s x) := by
  have hb := depsL_in hg hy hx
  unfold addB
  split
  · exact h
  · rename_i hn
    split
    · refine ⟨List.nodup_append.2 ⟨h.n1, by simp, fun a ha b hb' => ?_⟩, h.n2, fun z hz => ?_, h.in2⟩
      · obtain rfl : b = x := by simpa using hb'
        intro e
        subst e
        exact hn (.inl ha)
      · rcases List.mem_append.1 hz with hz | hz
        · exact h.in1 z hz
        · obtain rfl : z = x := by simpa using hz
          exact hb
    · refine ⟨h.n1, (insL_perm s.2 x).nodup_iff.2 (List.nodup_cons.2 ⟨fun e => hn (.inr e), h.n2⟩), h.in1, fun z hz => ?_⟩
      rcases mem_insL.1 hz with rfl | hz
      · exact hb
      · exact h.in2 z hz
end Go.Proofs.YtcpmfcigciknlaaGreat
