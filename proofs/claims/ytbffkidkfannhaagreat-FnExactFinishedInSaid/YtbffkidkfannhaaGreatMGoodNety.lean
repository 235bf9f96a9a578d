/- Texts of this proof, part y: words, plain facts, contracts. -/
import Derived.Test.YtbffkidkfannhaaGreatMGoodNetx
import Derived.Test.YtbffkidkfannhaaGreatMGoodNetw
import Derived.Deep.RegionHeld3
import Derived.Test.YtbffkidkfannhaaGreatMGoodNetq4
import Derived.Test.YtbffkidkfannhaaGreatMGoodNett

namespace Go.Proofs.YtbffkidkfannhaaGreat
open Go.RowKit Go.Maps
set_option linter.unusedVariables false

/-- All that was there stands, but the map b that was made later. -/
def KeptBut (b : Nat) (w w' : World) : Prop := ∀ w0, Ext w0 w → w0.heap.size ≤ b → Ext w0 w'
theorem KeptBut.refl (b : Nat) (w : World) : KeptBut b w w := fun _ h _ => h
theorem KeptBut.then {b : Nat} {w w1 w2 : World} (h : KeptBut b w w1) (e : Ext w1 w2) : KeptBut b w w2 := fun w0 h0 hb => (h w0 h0 hb).trans e
theorem KeptBut.turned {b g : Nat} {w w1 w2 : World} (h : KeptBut b w w1) (t : w1.grownBy w2 (some g)) (hg : b ≤ g) : KeptBut b w w2 := fun w0 h0 hb => (h w0 h0 hb).turned t (Nat.le_trans hb hg)

/-- What is in both while the map of the one is walked. -/
def bothL (S S' : Nat → Nat → Bool) (left : Lit → Bool) (p q : Nat) : Bool := S p q || (S' p q && !left (kl (p : Int) ((q : Int) + 1)))
theorem bothL_start {S S' : Nat → Nat → Bool} {D : DataW Value} {f : Nat → Nat → Value} (h : MapOf D S' f) (p q : Nat) : bothL S S' (Maps.has D) p q = S p q := by
  unfold bothL
  cases hi : S' p q with
  | false => simp
  | true => rw [h.has p q hi]; simp
theorem bothL_end {S S' : Nat → Nat → Bool} {left : Lit → Bool} (h : ∀ l, left l = false) (p q : Nat) : (S p q || S' p q) = bothL S S' left p q := by
  unfold bothL
  rw [h]
  simp
theorem bothL_step {S S' : Nat → Nat → Bool} {left : Lit → Bool} {p0 q0 : Nat} (hlow : ∀ p q, S' p q = true → p ≤ 1048576 ∧ q ≤ 1048576) (hi : S' p0 q0 = true) (p q : Nat) :
    bothL S S' (fun z => left z && !z.sameKey (kl (p0 : Int) ((q0 : Int) + 1))) p q = (bothL S S' left p q || (decide (p = p0) && decide (q = q0))) := by
  unfold bothL
  cases hs : S' p q with
  | false =>
    by_cases e : p = p0 ∧ q = q0
    · obtain ⟨rfl, rfl⟩ := e
      rw [hi] at hs
      cases hs
    · have : (decide (p = p0) && decide (q = q0)) = false := by simpa using e
      rw [this]; simp
  | true =>
    show (S p q || true && !(left (kl (p : Int) ((q : Int) + 1)) && !(kl (p : Int) ((q : Int) + 1)).sameKey (kl (p0 : Int) ((q0 : Int) + 1)))) = _
    rw [same_kl (hlow p q hs) (hlow p0 q0 hi)]
    cases S p q <;> cases left (kl (p : Int) ((q : Int) + 1)) <;> cases (decide (p = p0) && decide (q = q0)) <;> rfl

set_option maxHeartbeats 4000000 in
set_option maxRecDepth 100000 in
theorem copySet_any (bd bs nd ns : Nat) (Dd Ds : DataW Value) (S S' : Nat → Nat → Bool) (w : World) (hd : RowMap w bd nd Dd) (hs : RowMap w bs ns Ds) (md : MapOf Dd S yesV) (ms : MapOf Ds S' yesV) (hne : bd ≠ bs) (hN : nd + ns ≤ 100000) :
    Calls Tryz.prog 53 #[.map (some bd), .map (some bs)] w (fun e w' => (∃ r, e = .returned r) ∧ ∃ n D, RowMap w' bd n D ∧ n ≤ nd + ns ∧ MapOf D (fun p q => S p q || S' p q) yesV ∧ KeptBut bd w w') := by
  have HD := Lib.hid hd
  have HS := Lib.hid hs
  have MD := Lib.hid md
  have MS := Lib.hid ms
  have hlt := World.ownsMap.lt hd
  have hsz : Maps.size Ds ≤ ns := World.ownsMap.size_le hs
  have HLT0 := Lib.hid hlt
  have HSZ := Lib.hid hsz
  clear hd hs md ms hlt hsz
  go_enter Tryz.func53, Tryz.ntmps53
  go_wp2_with (first | (at_range; refine wpList_range_own _ rfl _ 58 rfl 112 4 instKeyed Tryz.underlying58 asIs bs ns Ds rfl HS.out ?_; intro w2 hrg2 hg2 hs2) | go_in)
  go_frame
  have R2 := Lib.hid hrg2
  have M2 := Lib.hid (RowMap.ext HD.out (ext_of_grown hg2))
  have K2 : Hid (KeptBut bd w w2) := Lib.hid ((KeptBut.refl bd w).then (ext_of_grown hg2))
  obtain ⟨r, hr⟩ : ∃ r, r = w.heap.size := ⟨_, rfl⟩
  rw [← hr] at R2 HLT0 ⊢
  have hbr : bd ≠ r := by have := HLT0.out; omega
  clear hrg2 hg2 hs2 hr HD HS
  go_loopw [4, 5] (fun _ _ wr => ∃ (left : Lit → Bool) (cnt N : Nat) (D : DataW Value), Hid (RowRange wr bs r ns Ds left cnt) ∧ Hid (RowMap wr bd N D) ∧ Hid (N + cnt ≤ nd + ns) ∧ Hid (MapOf D (bothL S S' left) yesV) ∧ Hid (KeptBut bd w wr)) (fun _ _ wr => wr.rangeLeft bs r)
  case atStart => exact ⟨_, _, nd, Dd, R2, M2, Lib.hid (by have := HSZ.out; omega), Lib.hid (MD.out.congr (fun p q => bothL_start MS.out p q) (fun _ _ _ => rfl)), K2⟩
  case round =>
    clear R2 M2 K2 MD
    obtain ⟨left, cnt, N, D, R, M, HN, HD, K⟩ := hrel
    go_wp2_with (first | (at_next; refine wpList_next_inst _ rfl _ rfl bs r ns Ds left cnt _ _ rfl R.out MS.out ?_ ?_) | go_in)
    · intro hl
      have HD' := Lib.hid (HD.out.congr (S' := fun p q => S p q || S' p q) (f' := yesV) (fun p q => bothL_end hl p q) (fun _ _ _ => rfl))
      clear HD R
      go_wp2
      exact bodyPost_end (results_none rfl _ _ _) rfl ⟨⟨_, rfl⟩, N, D, M.out, by have := HN.out; omega, HD'.out, K.out⟩
    · intro p q w3 cnt3 hS hlk hrg3 hlt hg3 hs3 hen
      unfold yesV at hen ⊢
      have M3 := Lib.hid (World.ownsMap.kept M.out hg3 (by simpa using hbr))
      have K3 : Hid (KeptBut bd w w3) := Lib.hid (K.out.turned hg3 (by have := HLT0.out; omega))
      have hlow := MS.out.low p q hS
      have HST := Lib.hid (fun p' q' => bothL_step (S := S) (left := left) MS.out.low hS p' q')
      have HLT := Lib.hid hlt
      have HRO := Lib.hid R.out
      have R3 := Lib.hid hrg3
      clear hrg3 hg3 hs3 hlk R hS hlt M K
      go_wp2_with (at_mapUpdate; refine wpList_mapUpdate_own _ rfl _ _ _ 58 rfl 112 4 instKeyed Tryz.underlying58 asIs bd N D rfl (RowMap.ext M3.out (Ext.alloc1 _ _)) (by have := HN.out; unfold maxLen; omega) _ _ (kl (p : Int) ((q : Int) + 1)) rfl rfl (keyOf_inst (wf_small (by omega) (by omega)) (wf_small (by omega) (by omega))) (.held (.bool true)) [] rfl ?_)
      intro w8 hown8 hgrow8
      have M8 := Lib.hid hown8
      have R8 := Lib.hid (World.ranges.kept (RowRange.ext R3.out (Ext.alloc1 _ _)) hgrow8 (by simpa using fun e => hne e.symm) (by simpa using fun e => hbr e.symm))
      have D8 := Lib.hid ((HD.out.put (p := p) (q := q) (v := .bool true) hlow rfl).congr (S' := bothL S S' (fun z => left z && !z.sameKey (kl (p : Int) ((q : Int) + 1)))) (f' := yesV) (fun p' q' => by rw [HST.out]) (fun _ _ _ => rfl))
      have K8 : Hid (KeptBut bd w w8) := Lib.hid ((K3.out.then (Ext.alloc1 _ _)).turned hgrow8 (Nat.le_refl _))
      clear hown8 hgrow8 M3 R3 HD K3
      go_wp2
      go_roundw
      case rel => exact ⟨_, cnt3, N + 1, _, R8, M8, Lib.hid (by have := HN.out; have := HLT.out; omega), D8, K8⟩
      case measure => rw [R8.out.left_eq, HRO.out.left_eq]; exact HLT.out

theorem all_of_take {α : Type} {l : List α} {k : Nat} {f : α → Bool} (h : (l.take k).all f = false) : l.all f = false := by
  rw [List.all_eq_false] at h ⊢
  obtain ⟨x, hx, hf⟩ := h
  exact ⟨x, List.mem_of_mem_take hx, hf⟩
theorem keepS {w1 W W' : World} {a b c d e : Addr} {p q r s t : Value} (x : Ext W W') (h : Ext w1 W ∧ W.cell? a = some p ∧ W.cell? b = some q ∧ W.cell? c = some r ∧ W.cell? d = some s ∧ W.cell? e = some t) :
    Ext w1 W' ∧ W'.cell? a = some p ∧ W'.cell? b = some q ∧ W'.cell? c = some r ∧ W'.cell? d = some s ∧ W'.cell? e = some t :=
  ⟨h.1.trans x, x.cell h.2.1, x.cell h.2.2.1, x.cell h.2.2.2.1, x.cell h.2.2.2.2.1, x.cell h.2.2.2.2.2⟩

set_option maxHeartbeats 4000000 in
set_option maxRecDepth 100000 in
theorem isSettledFor_any (u v z mv : Value) (R : List RepD) (Ms : List MsgD) (K : List AskD) (m : List Int) (p q : Nat) (w : World) (hn : NetL w u v z R Ms K) (hm : Ints w mv m) (hg : goodNet R Ms K = true) (hr : riseB m 0 ((R.length : Int) - 1) = true) (hp : p < R.length) (hq : q ≤ 5) :
    Calls Tryz.prog 57 #[.agg #[u, v, z], mv, .agg #[.int .i64 p, .int .i64 ((q : Int) + 1)]] w (BoolExt (allCom R m p q) w) := by
  obtain ⟨wb, hwb⟩ : ∃ wb, wb = (w.alloc (.cells #[u, v, z] 35)).alloc (.cells #[.int .i64 p, .int .i64 ((q : Int) + 1)] 112) := ⟨_, rfl⟩
  have x0 : Ext w wb := by rw [hwb]; exact Ext.alloc2 _ _ _
  have hb0 : wb.cell? ⟨w.heap.size, 0, none⟩ = some u := by rw [hwb]; go_simp
  have hb1 : wb.cell? ⟨w.heap.size + 1, 0, none⟩ = some (.int .i64 p) := by rw [hwb]; go_simp
  have hb2 : wb.cell? ⟨w.heap.size + 1, 1, none⟩ = some (.int .i64 ((q : Int) + 1)) := by rw [hwb]; go_simp
  have HX0 := Lib.hid x0
  have HW := Lib.hid hwb
  have HR := Lib.hid hr
  have HG := Lib.hid hg
  have HP := Lib.hid hp
  have HQ := Lib.hid hq
  have H0 := Lib.hid hb0
  have H1 := Lib.hid hb1
  have H2 := Lib.hid hb2
  obtain ⟨⟨au, cu, rfl, hlu, _, hcu⟩, _, _⟩ := hn.ext x0
  unfold maxLen at hlu
  have HCU := Lib.hid hcu
  obtain ⟨am, cm, rfl, hlm, _, hcm⟩ := hm.ext x0
  unfold maxLen at hlm
  have HCM := Lib.hid hcm
  clear x0 hcu hm hn hcm hr hg hp hq hb0 hb1 hb2 hwb
  go_enter Tryz.func57, Tryz.ntmps57
  go_wp2
  rw [← HW.out]
  go_loopw [11] (fun i wr => ∃ k : Nat, k ≤ m.length ∧ i = .int .i64 k ∧ Hid (((m.take k).all fun a => instCom (tabR R a.toNat) p q) = true) ∧ Hid (Ext wb wr)) (fun i _ => m.length - (intOf i).toNat)
  case atStart => exact ⟨0, Nat.zero_le _, rfl, Lib.hid (by simp), Lib.hid (Ext.refl _)⟩
  case round =>
    obtain ⟨k, hk, rfl, HT, HY⟩ := hrel
    by_cases hkt : k < m.length
    · obtain ⟨bm, om, rfl, dm⟩ := HCM.out (by omega)
      have gm0 := HY.out.cell (dm k hkt)
      obtain ⟨c, hc, hcR⟩ := rise_at HR.out hkt
      rw [List.getElem?_eq_getElem hkt, Option.getD_some, hc] at gm0
      have hall : ((m.take (k + 1)).all fun a => instCom (tabR R a.toNat) p q) = (((m.take k).all fun a => instCom (tabR R a.toNat) p q) && instCom (tabR R (m[k]'hkt).toNat) p q) := all_take hkt (fun a => instCom (tabR R a.toNat) p q)
      obtain ⟨b, off, rfl, dv⟩ := HCU.out (by omega)
      obtain ⟨d, hd⟩ : ∃ d, d = R[c] := ⟨_, rfl⟩
      obtain ⟨y1, y2, hy, iy⟩ := dv c hcR
      have hgt := goodNet_tab HG.out hcR
      rw [← hd] at hy iy hgt
      have htab : tabR R (m[k]'hkt).toNat = d.T := by rw [hc, hd]; exact tabR_get hcR
      obtain ⟨hg1, hg2⟩ := hgt
      have hTl : p < d.T.length := by have := (goodTab_of hg1).2.1; have := HP.out; omega
      have hg3 : goodTab d.n d.T = true := by rw [hg2]; exact hg1
      have i1 := iy.i1.ext HY.out
      obtain ⟨b1, c1, rfl, _⟩ := id iy.i1
      obtain ⟨b2, c2, rfl, _⟩ := id iy.i2
      obtain ⟨r0, r1, r2, r3⟩ := repIn_cells (hy.ext HY.out)
      have a0 := HY.out.cell H0.out
      have a1 := HY.out.cell H1.out
      have a2 := HY.out.cell H2.out
      obtain ⟨r, hr⟩ : ∃ r, r = rowOf d.n d.T p q := ⟨_, rfl⟩
      have cR : ∀ W, Ext wr W → Calls Tryz.prog 85 #[.agg #[.int .i64 d.n, .slice b1 d.T.length c1], .int .i64 p, .int .i64 ((q : Int) + 1)] W (NewRow r W) := fun W x => by
        rw [hr]
        exact implRowOf_any d.n _ d.T p q _ (i1.ext x) hg3 hTl HQ.out
      have hB3 : ((m.take (k + 1)).all fun a => instCom (tabR R a.toNat) p q) = (r.st == 3) := by rw [hall, HT.out, htab, instCom_rowOf hTl, ← hr]; rfl
      have ks : ∀ W, Ext wr W → Ext wr W ∧ W.cell? ⟨w.heap.size, 0, none⟩ = some (.slice (some ⟨b, off, none⟩) R.length cu) ∧ W.cell? ⟨b, off + c * 4 + 1, none⟩ = some (.int .i64 d.n) ∧ W.cell? ⟨b, off + c * 4 + 2, none⟩ = some (.slice b1 d.T.length c1) ∧ W.cell? ⟨w.heap.size + 1, 0, none⟩ = some (.int .i64 p) ∧ W.cell? ⟨w.heap.size + 1, 1, none⟩ = some (.int .i64 ((q : Int) + 1)) := fun W x => ⟨x, x.cell a0, x.cell r1, x.cell r2, x.cell a1, x.cell a2⟩
      have KS := Lib.hid ks
      have CR := Lib.hid cR
      have HB3 := Lib.hid hB3
      have HKT := Lib.hid hkt
      have HRR := Lib.hid (Ext.drew (Ext.refl wr))
      clear dm dv hd hy iy hg1 hg2 hg3 htab hc hTl hall i1 cR hB3 hr ks a0 a1 a2 r0 r1 r2 r3
      go_wp2_with fail
      go_region_held3 (fun W => Ext wr W ∧ W.cell? ⟨w.heap.size, 0, none⟩ = some (.slice (some ⟨b, off, none⟩) R.length cu) ∧ W.cell? ⟨b, off + c * 4 + 1, none⟩ = some (.int .i64 d.n) ∧ W.cell? ⟨b, off + c * 4 + 2, none⟩ = some (.slice b1 d.T.length c1) ∧ W.cell? ⟨w.heap.size + 1, 0, none⟩ = some (.int .i64 p) ∧ W.cell? ⟨w.heap.size + 1, 1, none⟩ = some (.int .i64 ((q : Int) + 1))) (first | (with_reducible exact KS.out _ HRR.out) | (with_reducible exact KS.out _ SS.out)) (first | (go_at_call 85; refine (CR.out _ (And.left (by with_reducible assumption))).mono ?_; rintro e W3 ⟨ur, rfl, fr, x3⟩; obtain ⟨ar, kr, rfl⟩ := fr.form; have hfd := fun W => field_rowSt r.b r.v r.st r.k r.i r.f r.t r.a r.s (.slice ar r.l.length kr) W; have SS := Lib.hid (Ext.trans (And.left (by with_reducible assumption)) x3)))
      clear hfd fr x3 KS CR HRR
      have HY3 := Lib.hid (HY.out.trans SS.out)
      clear SS
      cases hs : (r.st == 3) with
      | false =>
        have ns : (r.st != 3) = true := by have : ¬ r.st = 3 := by simpa using hs
                                           simp [this]
        have HO : Hid (allCom R m p q = false) := Lib.hid (all_of_take (by rw [HB3.out, hs]))
        clear hs
        go_wp2
        go_ret
        exact ⟨by rw [HO.out]; rfl, HX0.out.trans HY3.out⟩
      | true =>
        have ns : (r.st != 3) = false := by have : r.st = 3 := by simpa using hs
                                            simp [this]
        have HT3 : Hid (((m.take (k + 1)).all fun a => instCom (tabR R a.toNat) p q) = true) := Lib.hid (by rw [HB3.out, hs])
        clear hs
        go_wp2
        go_roundw
        case rel => exact ⟨k + 1, by have := HKT.out; omega, by go_num, HT3, HY3⟩
        case measure => simp [intOf]; have := HKT.out; omega
    · obtain rfl : k = m.length := by omega
      have HO : Hid (allCom R m p q = true) := Lib.hid (by have h := HT.out; rw [List.take_length] at h; exact h)
      go_wp2
      go_ret
      exact ⟨by rw [HO.out]; rfl, HX0.out.trans HY.out⟩

set_option maxHeartbeats 2000000 in
set_option maxRecDepth 100000 in
/-- The closure that is handed to DeleteFunc. -/
theorem settledClosure_any (u v z mv : Value) (R : List RepD) (Ms : List MsgD) (K : List AskD) (m : List Int) (p q bx bm : Nat) (w : World) (hn : NetL w u v z R Ms K) (hm : Ints w mv m) (hg : goodNet R Ms K = true) (hr : riseB m 0 ((R.length : Int) - 1) = true) (hp : p < R.length) (hq : q ≤ 5)
    (h0 : w.cell? ⟨bx, 0, none⟩ = some u) (h1 : w.cell? ⟨bx, 1, none⟩ = some v) (h2 : w.cell? ⟨bx, 2, none⟩ = some z) (h3 : w.cell? ⟨bm, 0, none⟩ = some mv) (b : Bool) :
    Calls Tryz.prog 56 #[.agg #[.int .i64 p, .int .i64 ((q : Int) + 1)], .bool b, .pointer (some ⟨bx, 0, none⟩), .pointer (some ⟨bm, 0, none⟩)] w (BoolExt (allCom R m p q) w) := by
  have xa := Ext.alloc1 w (.cells #[.int .i64 p, .int .i64 ((q : Int) + 1)] 112)
  have g0 := xa.cell h0
  have g1 := xa.cell h1
  have g2 := xa.cell h2
  have g3 := xa.cell h3
  have XA := Lib.hid xa
  have HN := Lib.hid (hn.ext xa)
  have HM := Lib.hid (hm.ext xa)
  have HG := Lib.hid hg
  have HR := Lib.hid hr
  have HP := Lib.hid hp
  have HQ := Lib.hid hq
  obtain ⟨⟨au, cu, rfl, _⟩, ⟨av, cv, rfl, _⟩, ⟨az, cz, rfl, _⟩⟩ := hn
  obtain ⟨am, cm, rfl, _⟩ := hm
  clear hg hr hp hq h0 h1 h2 h3 xa
  go_enter Tryz.func56, Tryz.ntmps56
  go_wp2_with fail
  refine (isSettledFor_any _ _ _ _ R Ms K m p q _ HN.out HM.out HG.out HR.out HP.out HQ.out).mono ?_
  rintro e w2 ⟨rfl, x2⟩
  have X2 := Lib.hid (XA.out.trans x2)
  clear x2 g0 g1 g2 g3
  go_wp2
  go_ret
  exact ⟨rfl, X2.out⟩

/-- What is left while the set is swept. -/
def restL (S T : Nat → Nat → Bool) (left : Lit → Bool) (p q : Nat) : Bool := S p q && (!T p q || left (kl (p : Int) ((q : Int) + 1)))
theorem restL_start {S T : Nat → Nat → Bool} {D : DataW Value} {f : Nat → Nat → Value} (h : MapOf D S f) (p q : Nat) : restL S T (Maps.has D) p q = S p q := by
  unfold restL
  cases hi : S p q with
  | false => rfl
  | true => rw [h.has p q hi]; simp
theorem restL_end {S T : Nat → Nat → Bool} {left : Lit → Bool} (h : ∀ l, left l = false) (p q : Nat) : (S p q && !T p q) = restL S T left p q := by
  unfold restL
  rw [h]
  simp
theorem restL_in {S T : Nat → Nat → Bool} {left : Lit → Bool} {p q : Nat} (h : restL S T left p q = true) : S p q = true := by
  unfold restL at h
  rw [Bool.and_eq_true] at h
  exact h.1
theorem restL_step {S T : Nat → Nat → Bool} {left : Lit → Bool} {p0 q0 : Nat} (hlow : ∀ p q, S p q = true → p ≤ 1048576 ∧ q ≤ 1048576) (hi : S p0 q0 = true) (p q : Nat) :
    restL S T (fun z => left z && !z.sameKey (kl (p0 : Int) ((q0 : Int) + 1))) p q = (restL S T left p q && !(T p0 q0 && (decide (p = p0) && decide (q = q0)))) := by
  unfold restL
  cases hs : S p q with
  | false => rfl
  | true =>
    show (true && (!T p q || (left (kl (p : Int) ((q : Int) + 1)) && !(kl (p : Int) ((q : Int) + 1)).sameKey (kl (p0 : Int) ((q0 : Int) + 1))))) = _
    rw [same_kl (hlow p q hs) (hlow p0 q0 hi)]
    by_cases e : p = p0 ∧ q = q0
    · obtain ⟨rfl, rfl⟩ := e
      cases T p q <;> cases left (kl (p : Int) ((q : Int) + 1)) <;> simp
    · have : (decide (p = p0) && decide (q = q0)) = false := by simpa using e
      rw [this]
      simp

set_option maxHeartbeats 4000000 in
set_option maxRecDepth 100000 in
theorem strikeSet_any (b n0 : Nat) (D0 : DataW Value) (S T : Nat → Nat → Bool) (c1 c2 : Value) (w : World) (hb : RowMap w b n0 D0) (hd : MapOf D0 S yesV)
    (hc : ∀ W p q, KeptBut b w W → S p q = true → Calls Tryz.prog 56 #[.agg #[.int .i64 p, .int .i64 ((q : Int) + 1)], .bool true, c1, c2] W (BoolExt (T p q) W)) :
    Calls Tryz.prog 55 #[.map (some b), .func (.func 56) #[] #[c1, c2]] w (fun e w' => (∃ r, e = .returned r) ∧ ∃ D, RowMap w' b n0 D ∧ MapOf D (fun p q => S p q && !T p q) yesV ∧ KeptBut b w w') := by
  have HB := Lib.hid hb
  have HD0 := Lib.hid hd
  have HC := Lib.hid hc
  have hlt := World.ownsMap.lt hb
  have HLT0 := Lib.hid hlt
  clear hb hd hc hlt
  go_enter Tryz.func55, Tryz.ntmps55
  go_wp2_with (first | (at_range; refine wpList_range_own _ rfl _ 58 rfl 112 4 instKeyed Tryz.underlying58 asIs b n0 D0 rfl HB.out ?_; intro w2 hrg2 hg2 hs2) | go_in)
  go_frame
  have R2 := Lib.hid hrg2
  have K2 : Hid (KeptBut b w w2) := Lib.hid ((KeptBut.refl b w).then (ext_of_grown hg2))
  obtain ⟨r, hr⟩ : ∃ r, r = w.heap.size := ⟨_, rfl⟩
  rw [← hr] at R2 HLT0 ⊢
  clear hrg2 hg2 hs2 hr HB
  go_loopw [4, 5] (fun _ _ wr => ∃ (left : Lit → Bool) (cnt : Nat) (D : DataW Value), Hid (RowRange wr b r n0 D left cnt) ∧ Hid (MapOf D (restL S T left) yesV) ∧ Hid (KeptBut b w wr)) (fun _ _ wr => wr.rangeLeft b r)
  case atStart => exact ⟨_, _, D0, R2, Lib.hid (HD0.out.congr (fun p q => restL_start HD0.out p q) (fun _ _ _ => rfl)), K2⟩
  case round =>
    clear R2 K2
    obtain ⟨left, cnt, D, R, HD, K⟩ := hrel
    go_wp2_with (first | (at_next; refine wpList_next_inst _ rfl _ rfl b r n0 D left cnt _ _ rfl R.out HD.out ?_ ?_) | go_in)
    · intro hl
      have HD' := Lib.hid (HD.out.congr (S' := fun p q => S p q && !T p q) (f' := yesV) (fun p q => restL_end hl p q) (fun _ _ _ => rfl))
      have R' := Lib.hid R.out.owns
      clear HD R
      go_wp2
      exact bodyPost_end (results_none rfl _ _ _) rfl ⟨⟨_, rfl⟩, D, R'.out, HD'.out, K.out⟩
    · intro p q w3 cnt3 hS hlk hrg3 hlt hg3 hs3 hen
      unfold yesV at hen ⊢
      have hS0 := restL_in hS
      have K3 : Hid (KeptBut b w w3) := Lib.hid (K.out.turned hg3 (by have := HLT0.out; omega))
      have hlow := HD0.out.low p q hS0
      have HST := Lib.hid (fun p' q' => restL_step (T := T) (left := left) HD0.out.low hS0 p' q')
      have HLT := Lib.hid hlt
      have HRO := Lib.hid R.out
      have R3 := Lib.hid hrg3
      have CC := Lib.hid (HC.out _ p q (K3.out.then (Ext.alloc1 w3 (.cells #[.int .i64 p, .int .i64 ((q : Int) + 1)] 112))) hS0)
      clear hrg3 hg3 hs3 hlk R hS hlt K hS0
      go_wp2_with fail
      refine CC.out.mono ?_
      rintro e w5 ⟨rfl, x5⟩
      have x35 := (Ext.alloc1 w3 (.cells #[.int .i64 p, .int .i64 ((q : Int) + 1)] 112)).trans x5
      have g0 : w5.cell? ⟨w3.heap.size, 0, none⟩ = some (.int .i64 p) := x5.cell (by go_simp)
      have g1 : w5.cell? ⟨w3.heap.size, 1, none⟩ = some (.int .i64 ((q : Int) + 1)) := x5.cell (by go_simp)
      have R5 := Lib.hid (RowRange.ext R3.out x35)
      have K5 := Lib.hid (K3.out.then x35)
      clear x5 x35 R3 K3 CC
      cases ht : T p q with
      | false =>
        have D6 := Lib.hid (HD.out.congr (S' := restL S T (fun z => left z && !z.sameKey (kl (p : Int) ((q : Int) + 1)))) (f' := yesV) (fun p' q' => by rw [HST.out, ht]; simp) (fun _ _ _ => rfl))
        clear ht HD
        go_wp2
        go_roundw
        case rel => exact ⟨_, cnt3, D, R5, D6, K5⟩
        case measure => rw [R5.out.left_eq, HRO.out.left_eq]; exact HLT.out
      | true =>
        have D6 := Lib.hid ((HD.out.del (p := p) (q := q) hlow).congr (S' := restL S T (fun z => left z && !z.sameKey (kl (p : Int) ((q : Int) + 1)))) (f' := yesV) (fun p' q' => by rw [HST.out, ht]; simp) (fun _ _ _ => rfl))
        clear ht HD
        go_wp2_with (first | (at_delete; refine wpList_delete_ranges _ rfl _ _ 58 112 rfl 4 instKeyed Tryz.underlying58 asIs b r n0 D _ _ rfl R5.out _ (kl (p : Int) ((q : Int) + 1)) rfl (keyOf_inst (wf_small (by omega) (by omega)) (wf_small (by omega) (by omega))) ?_; intro w7 cnt7 hrg7 hle7 ht7; go_frame) | go_in)
        rw [Maps.strike_twice] at hrg7
        have R7 := Lib.hid hrg7
        have K7 : Hid (KeptBut b w w7) := Lib.hid (K5.out.turned ht7.grown (Nat.le_refl _))
        have HLE := Lib.hid hle7
        clear hrg7 ht7 hle7 R5 K5 g0 g1
        go_wp2
        go_roundw
        case rel => exact ⟨_, _, _, R7, D6, K7⟩
        case measure => rw [R7.out.left_eq, HRO.out.left_eq]; exact Nat.lt_of_le_of_lt HLE.out HLT.out
end Go.Proofs.YtbffkidkfannhaaGreat

namespace Go.Proofs.YtbffkidkfannhaaGreat
open Go.RowKit Go.Maps
set_option linter.unusedVariables false

theorem rise_ge {m : List Int} {hi : Int} (h : riseB m 0 hi = true) : ∀ k (hk : k < m.length), (k : Int) ≤ m[k] := by
  intro k
  induction k with
  | zero => intro hk; exact ((riseB_of h).2 _ (List.getElem_mem hk)).1
  | succ k ih =>
    intro hk
    have h1 := ih (by omega)
    have h2 := (List.pairwise_iff_getElem.1 (riseB_of h).1) k (k + 1) (by omega) hk (by omega)
    omega
theorem rise_short {m : List Int} {n : Int} (h : riseB m 0 (n - 1) = true) (hn : 0 ≤ n) : (m.length : Int) ≤ n := by
  by_cases h0 : m.length = 0
  · omega
  · have h1 := rise_ge h (m.length - 1) (by omega)
    have h2 := ((riseB_of h).2 _ (List.getElem_mem (show m.length - 1 < m.length by omega))).2
    omega
theorem none_left {w : World} {b n : Nat} {D : DataW Value} {S : Nat → Nat → Bool} {f : Nat → Nat → Value} (h : RowMap w b n D) (hm : MapOf D S f) : Maps.size D = 0 ↔ ∀ p q, S p q = false := by
  obtain ⟨es, rfl, _, hk⟩ := World.ownsMap.entries h instKeyed
  rw [Maps.size_eq]
  constructor
  · intro h0 p q
    cases hs : S p q with
    | false => rfl
    | true =>
      have := hm.has p q hs
      rw [List.eq_nil_of_length_eq_zero h0, Maps.has_eq] at this
      simp at this
  · intro h0
    match es, hk, hm with
    | [], _, _ => rfl
    | x :: t, hk, hm =>
      exfalso
      have hx : Maps.has (.map (x :: t)) x.1 = true := by
        rw [Maps.has_eq, List.any_cons, WideAt.sameKey_self (hk x (by simp))]
        rfl
      obtain ⟨p, q, _, hs⟩ := hm.keys _ hx
      rw [h0] at hs
      cases hs
/-- What the first k members have met. -/
def metK (n : Int) (R : List RepD) (m : List Int) (k : Nat) (p q : Nat) : Bool := (m.take k).any fun a => metB n (tabR R a.toNat) p q
theorem metK_succ {n : Int} {R : List RepD} {m : List Int} {k : Nat} (h : k < m.length) (p q : Nat) : metK n R m (k + 1) p q = (metK n R m k p q || metB n (tabR R (m[k]).toNat) p q) := by
  unfold metK
  rw [List.take_succ_eq_append_getElem h, List.any_append]
  simp
theorem metK_all (n : Int) (R : List RepD) (m : List Int) (p q : Nat) : metM n R m p q = metK n R m m.length p q := by
  unfold metK metM
  rw [List.take_length]

set_option maxHeartbeats 4000000 in
set_option maxRecDepth 100000 in
theorem openFor_any (u v z mv : Value) (R : List RepD) (Ms : List MsgD) (K : List AskD) (m : List Int) (w : World) (hn : NetL w u v z R Ms K) (hm : Ints w mv m) (hg : goodNet R Ms K = true) (hr : riseB m 0 ((R.length : Int) - 1) = true) :
    Calls Tryz.prog 29 #[.agg #[u, v, z], mv] w (NewSet (openB R.length R m) 4650 w) := by
  obtain ⟨wb, hwb⟩ : ∃ wb, wb = (w.alloc (.cells #[u, v, z] 35)).alloc (.cells #[mv] 27) := ⟨_, rfl⟩
  have x0 : Ext w wb := by rw [hwb]; exact Ext.alloc2 _ _ _
  have sb : wb.heap.size = w.heap.size + 2 := by rw [hwb]; simp
  have hb0 : wb.cell? ⟨w.heap.size, 0, none⟩ = some u := by rw [hwb]; go_simp
  have hb1 : wb.cell? ⟨w.heap.size, 1, none⟩ = some v := by rw [hwb]; go_simp
  have hb2 : wb.cell? ⟨w.heap.size, 2, none⟩ = some z := by rw [hwb]; go_simp
  have hb3 : wb.cell? ⟨w.heap.size + 1, 0, none⟩ = some mv := by rw [hwb]; go_simp
  have hm0 : RowMap (wb.alloc (.map #[] 0)) (w.heap.size + 2) 0 (.map []) := by
    have h := World.ownsMap_made wb Tryz.prog 112 asIs
    rw [sb] at h
    exact h
  have hmm := @run_makeMap Tryz.prog
  have hgr := isGrp_bd (goodNet_grp hg)
  have hm5 := rise_short hr (by omega)
  have HM5 : Hid (m.length ≤ 5) := Lib.hid (by omega)
  clear hm5
  have HX0 := Lib.hid x0
  have HW := Lib.hid hwb
  have HR := Lib.hid hr
  have HG := Lib.hid hg
  have H0 := Lib.hid hb0
  have H1 := Lib.hid hb1
  have H2 := Lib.hid hb2
  have H3 := Lib.hid hb3
  have HM0 := Lib.hid hm0
  have SB := Lib.hid sb
  have HN := Lib.hid (hn.ext x0)
  have HM := Lib.hid (hm.ext x0)
  obtain ⟨⟨au, cu, rfl, hlu, _, hcu⟩, _, _⟩ := hn.ext x0
  unfold maxLen at hlu
  have HCU := Lib.hid hcu
  obtain ⟨am, cm, rfl, hlm, _, hcm⟩ := hm.ext x0
  unfold maxLen at hlm
  have HCM := Lib.hid hcm
  have c3 := hb3
  rw [hwb] at c3
  have c3' := (Ext.alloc1 ((w.alloc (.cells #[.slice au R.length cu, v, z] 35)).alloc (.cells #[.slice am m.length cm] 27)) (.map #[] 0)).cell c3
  clear x0 hcu hm hn hcm hr hg hgr hb0 hb1 hb2 hb3 hwb sb hm0
  go_enter Tryz.func29, Tryz.ntmps29
  go_wp2
  rw [← HW.out]
  clear c3 c3' hmm
  obtain ⟨b, hb⟩ : ∃ b, b = w.heap.size + 1 + 1 := ⟨_, rfl⟩
  have M1 : Hid (RowMap (wb.alloc (.map #[] 0)) b 0 (.map [])) := Lib.hid (by rw [hb]; exact HM0.out)
  have HBW : Hid (wb.heap.size ≤ b ∧ w.heap.size ≤ b) := Lib.hid (by have := SB.out; omega)
  rw [← hb]
  clear hb HM0
  go_loopw [7, 11] (fun _ i wr => ∃ (k N : Nat) (D : DataW Value), k ≤ m.length ∧ i = .int .i64 k ∧ Hid (RowMap wr b N D) ∧ Hid (N ≤ 930 * k) ∧ Hid (MapOf D (metK R.length R m k) yesV) ∧ Hid (Ext wb wr)) (fun _ i _ => m.length - (intOf i).toNat)
  case atStart => exact ⟨0, 0, _, Nat.zero_le _, rfl, M1, Lib.hid (Nat.le_refl _), Lib.hid ((MapOf.empty yesV).congr (fun p q => by simp [metK]) (fun _ _ h => by cases h)), Lib.hid (Ext.alloc1 _ _)⟩
  case round =>
    clear M1
    obtain ⟨k, N, D, hk, rfl, M, HNN, HD, HX⟩ := hrel
    by_cases hkt : k < m.length
    · obtain ⟨bm, om, rfl, dm⟩ := HCM.out (by omega)
      have gm0 := HX.out.cell (dm k hkt)
      obtain ⟨c, hc, hcR⟩ := rise_at HR.out hkt
      rw [List.getElem?_eq_getElem hkt, Option.getD_some, hc] at gm0
      obtain ⟨b0, off, rfl, dv⟩ := HCU.out (by omega)
      obtain ⟨d, hd⟩ : ∃ d, d = R[c] := ⟨_, rfl⟩
      obtain ⟨y1, y2, hy, iy⟩ := dv c hcR
      have hgt := goodNet_tab HG.out hcR
      rw [← hd] at hy iy hgt
      have htab : tabR R (m[k]'hkt).toNat = d.T := by rw [hc, hd]; exact tabR_get hcR
      obtain ⟨hg1, hg2⟩ := hgt
      have hg3 : goodTab d.n d.T = true := by rw [hg2]; exact hg1
      have i1 := iy.i1.ext HX.out
      obtain ⟨b1, c1, rfl, _⟩ := id iy.i1
      obtain ⟨b2, c2, rfl, _⟩ := id iy.i2
      obtain ⟨r0, r1, r2, r3⟩ := repIn_cells (hy.ext HX.out)
      have a0 := HX.out.cell H0.out
      have hst : ∀ p q, metK R.length R m (k + 1) p q = (metK R.length R m k p q || metB d.n d.T p q) := fun p q => by rw [metK_succ hkt, htab, hg2]
      have HST := Lib.hid hst
      have HKT := Lib.hid hkt
      have CM := Lib.hid (metIn_any d.n _ d.T _ i1 hg3)
      clear dm dv hd hy iy hg1 hg2 hg3 htab hc i1 hst
      go_wp2_with fail
      refine CM.out.mono ?_
      rintro e w4 ⟨bs, ns, Ds, rfl, ms, hns, mds, hbs, x4⟩
      have hne : b ≠ bs := by have := World.ownsMap.lt M.out; omega
      have M4 := Lib.hid (RowMap.ext M.out x4)
      have X4 := Lib.hid (HX.out.trans x4)
      have MS := Lib.hid ms
      have MDS := Lib.hid mds
      have HNS := Lib.hid hns
      have HNE := Lib.hid hne
      clear ms mds hns hbs x4 M HX gm0 r0 r1 r2 r3 a0 CM hne
      go_wp2_with fail
      refine (copySet_any b bs N ns D Ds _ _ _ M4.out MS.out HD.out MDS.out HNE.out (by have := HNN.out; have := HNS.out; have := HKT.out; have := HM5.out; omega)).mono ?_
      rintro e w5 ⟨⟨r5, rfl⟩, N5, D5, m5, hn5, md5, k5⟩
      have M5 := Lib.hid m5
      have X5 : Hid (Ext wb w5) := Lib.hid (k5 wb X4.out HBW.out.1)
      have D5' := Lib.hid (md5.congr (S' := metK R.length R m (k + 1)) (f' := yesV) (fun p q => by rw [HST.out]) (fun _ _ _ => rfl))
      have N5' : Hid (N5 ≤ 930 * (k + 1)) := Lib.hid (by have := HNN.out; have := HNS.out; omega)
      clear m5 hn5 md5 k5 M4 MS MDS HD X4
      go_wp2
      go_roundw
      case rel => exact ⟨k + 1, N5, D5, by have := HKT.out; omega, by go_num, M5, N5', D5', X5⟩
      case measure => simp [intOf]; have := HKT.out; omega
    · obtain rfl : k = m.length := by omega
      have HD' := Lib.hid (HD.out.congr (S' := metM R.length R m) (f' := yesV) (fun p q => metK_all _ _ _ p q) (fun _ _ _ => rfl))
      clear HD
      go_wp2_with fail
      refine (strikeSet_any b N D (metM R.length R m) (allCom R m) _ _ _ M.out HD'.out (fun W p q hk' hs => ?_)).mono ?_
      · have xW : Ext wb W := hk' wb HX.out HBW.out.1
        obtain ⟨hp, hq⟩ := metM_low HG.out HR.out hs
        exact settledClosure_any _ _ _ _ R Ms K m p q _ _ W (HN.out.ext xW) (HM.out.ext xW) HG.out HR.out hp (by omega) (xW.cell H0.out) (xW.cell H1.out) (xW.cell H2.out) (xW.cell H3.out) true
      rintro e w5 ⟨⟨r5, rfl⟩, D5, m5, md5, k5⟩
      have M5 := Lib.hid m5
      have X5 : Hid (Ext w w5) := Lib.hid (HX0.out.trans (k5 wb HX.out HBW.out.1))
      have D5' := Lib.hid (md5.congr (S' := openB R.length R m) (f' := yesV) (fun p q => rfl) (fun _ _ _ => rfl))
      clear m5 md5 k5 M HD' HX
      go_wp2
      go_ret
      exact ⟨b, N, D5, rfl, M5.out, by have := HNN.out; have := HM5.out; omega, D5'.out, HBW.out.2, X5.out⟩

open Classical in
theorem fin_open {R : List RepD} {m : List Int} {w : World} {b n : Nat} {D : DataW Value} (h : RowMap w b n D) (hm : MapOf D (openB R.length R m) yesV) : finB R.length R m = decide (Maps.size D = 0) := by
  unfold finB
  rw [Bool.eq_iff_iff]
  simp only [decide_eq_true_eq]
  exact (none_left h hm).symm

set_option maxHeartbeats 4000000 in
set_option maxRecDepth 100000 in
theorem implFinishedIn_any (u v z mv : Value) (R : List RepD) (Ms : List MsgD) (K : List AskD) (m : List Int) (w : World) (hn : NetL w u v z R Ms K) (hm : Ints w mv m) (hrb : bulkRep R ≤ 549755813888) (hmb : bulkMes Ms ≤ 549755813888) :
    Calls Tryz.prog 10 #[.agg #[u, v, z], mv] w (TwoB (isF R Ms K m) (okF R Ms K m) w) := by
  obtain ⟨wb, hwb⟩ : ∃ wb, wb = w.alloc (.cells #[u, v, z] 35) := ⟨_, rfl⟩
  have x0 : Ext w wb := by rw [hwb]; exact Ext.alloc1 _ _
  have HB := Lib.hid (show BoxV wb w.heap.size [u, v, z] by rw [hwb]; exact boxV_new w [u, v, z] 35)
  have HN := Lib.hid (hn.ext x0)
  have HM := Lib.hid (hm.ext x0)
  have HX0 := Lib.hid x0
  have HW := Lib.hid hwb
  have HRB := Lib.hid hrb
  have HMB := Lib.hid hmb
  obtain ⟨⟨au, cu, rfl, hlu, _, _⟩, _, _⟩ := hn
  unfold maxLen at hlu
  obtain ⟨am, cm, rfl, hlm, _, _⟩ := hm
  unfold maxLen at hlm
  clear x0 hrb hmb
  have a0 := HB.out.cell 0 _ rfl
  have a1 := HB.out.cell 1 _ rfl
  have a2 := HB.out.cell 2 _ rfl
  rw [hwb] at a0 a1 a2
  clear hwb
  go_enter Tryz.func10, Tryz.ntmps10
  go_wp2_with fail
  rw [← HW.out]
  refine (implGoodNet_any _ _ _ R Ms K _ HN.out HRB.out HMB.out).mono ?_
  rintro e w1 ⟨rfl, x1⟩
  have X1 := Lib.hid x1
  clear a0 a1 a2 x1
  have a0 := (HB.out.ext X1.out).cell 0 _ rfl
  have a1 := (HB.out.ext X1.out).cell 1 _ rfl
  have a2 := (HB.out.ext X1.out).cell 2 _ rfl
  cases hg : goodNet R Ms K with
  | false =>
    have HO := Lib.hid (okF_no0 (m := m) hg)
    clear hg
    go_wp2
    go_ret2
    exact ⟨by rw [HO.out, isF_no HO.out]; rfl, HX0.out.trans X1.out⟩
  | true =>
    have HG := Lib.hid hg
    have HGR := Lib.hid (goodNet_grp hg)
    clear hg
    by_cases h0 : m.length = 0
    · have HO := Lib.hid (okF_no1 (R := R) (Ms := Ms) (K := K) h0)
      rw [h0]
      clear h0
      go_wp2
      go_ret2
      exact ⟨by rw [HO.out, isF_no HO.out]; rfl, HX0.out.trans X1.out⟩
    · have HNE := Lib.hid h0
      have hne : ((m.length : Int) == 0) = false := by rw [beq_eq_false_iff_ne]; omega
      clear h0
      go_wp2_with fail
      refine (areRisers_any _ _ m _ (HM.out.ext X1.out) HGR.out).mono ?_
      rintro e w2 ⟨rfl, x2⟩
      have X2 := Lib.hid (X1.out.trans x2)
      clear x2 a0 a1 a2
      have a0 := (HB.out.ext X2.out).cell 0 _ rfl
      have a1 := (HB.out.ext X2.out).cell 1 _ rfl
      have a2 := (HB.out.ext X2.out).cell 2 _ rfl
      cases hr : riseB m 0 ((R.length : Int) - 1) with
      | false =>
        have HO := Lib.hid (okF_no2 (Ms := Ms) (K := K) hr)
        clear hr
        go_wp2
        go_ret2
        exact ⟨by rw [HO.out, isF_no HO.out]; rfl, HX0.out.trans X2.out⟩
      | true =>
        have HO := Lib.hid (okF_yes HG.out HNE.out hr)
        have HR := Lib.hid hr
        clear hr
        go_wp2_with fail
        refine (openFor_any _ _ _ _ R Ms K m _ (HN.out.ext X2.out) (HM.out.ext X2.out) HG.out HR.out).mono ?_
        rintro e w3 ⟨b, n, D, rfl, m3, hn3, d3, hb3, x3⟩
        have X3 := Lib.hid (X2.out.trans x3)
        have HF : Hid (finB R.length R m = decide (Maps.size D = 0)) := Lib.hid (fin_open m3 d3)
        have M3 := Lib.hid m3
        clear m3 d3 x3 hb3 hn3 a0 a1 a2
        obtain ⟨sz, hsz⟩ : ∃ sz, sz = Maps.size D := ⟨_, rfl⟩
        have HSZ := Lib.hid hsz
        clear hsz
        by_cases hz : sz = 0
        · have HF2 : Hid (finB R.length R m = true) := Lib.hid (by rw [HF.out, ← HSZ.out, decide_eq_true hz])
          go_wp2_with (first | (at_len; refine wpList_len_own _ rfl _ 58 rfl 112 4 Tryz.underlying58 asIs b n D rfl M3.out ?_; rw [← HSZ.out, hz]) | go_in)
          go_ret2
          exact ⟨by rw [HO.out, isF_yes HO.out, HF2.out]; rfl, HX0.out.trans X3.out⟩
        · have HF2 : Hid (finB R.length R m = false) := Lib.hid (by rw [HF.out, ← HSZ.out, decide_eq_false hz])
          have hne : ((sz : Int) == 0) = false := by rw [beq_eq_false_iff_ne]; omega
          go_wp2_with (first | (at_len; refine wpList_len_own _ rfl _ 58 rfl 112 4 Tryz.underlying58 asIs b n D rfl M3.out ?_; rw [← HSZ.out]) | go_in)
          go_ret2
          exact ⟨by rw [HO.out, isF_yes HO.out, HF2.out]; rfl, HX0.out.trans X3.out⟩
end Go.Proofs.YtbffkidkfannhaaGreat
