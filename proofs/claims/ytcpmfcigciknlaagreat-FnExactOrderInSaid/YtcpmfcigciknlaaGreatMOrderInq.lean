/- Texts of this proof, part q: words, plain facts, contracts. -/
import Derived.Test.YtcpmfcigciknlaaGreatMOrderInd
import Derived.Test.YtcpmfcigciknlaaGreatMOrderIne
import Derived.Test.YtcpmfcigciknlaaGreatMOrderIna
import Derived.Deep.RegionHeld3
import Derived.Test.YtcpmfcigciknlaaGreatMOrderInn
import Derived.Test.YtcpmfcigciknlaaGreatMOrderIng
import Derived.Test.YtcpmfcigciknlaaGreatMOrderIno

namespace Go.Proofs.YtcpmfcigciknlaaGreat
open Go.RowKit
set_option linter.unusedVariables false

/-- How many marks rows bear. -/
def weigh (R : List RowD) : List Nat := R.map fun r => 9 + r.l.length
theorem weigh_len (R : List RowD) : (weigh R).length = R.length := by simp [weigh]
theorem weigh_get {R : List RowD} {k : Nat} (h : k < R.length) : (weigh R)[k]'(by rw [weigh_len]; exact h) = 9 + R[k].l.length := by simp [weigh]
theorem weigh_sum (R : List RowD) : (weigh R).sum ≤ 10 * bulkR R := by
  unfold weigh bulkR
  induction R with
  | nil => simp
  | cons r R ih => simp at ih ⊢; omega

set_option maxHeartbeats 4000000 in
set_option maxRecDepth 100000 in
theorem markRowS_any (lo hi : Nat) (v : Value) (R : List RowD) (k : Int) (w : World) (hv : FreshI lo hi w v R) (h0 : 0 ≤ k) (hk : k ≤ 1099511627776) (h1 : bulkR R ≤ 1099511627776) :
    Calls Tryz.prog 75 #[v, .int .i64 k] w (fun e w' => e = .returned (.int .i64 (k + (weigh R).sum)) ∧ Ins lo hi w w') := by
  obtain ⟨xs, us, ho, hC, hR, hout, hU, hUs⟩ := hv
  have hul : us.length = R.length := by have := hR.len; simpa using this
  have hws := weigh_sum R
  rcases ho.2 with ⟨rfl, hn⟩ | ⟨g, cap, cur, rfl, hb, hg, hnc, hcm, hcs, htake⟩
  · obtain rfl : R = [] := List.eq_nil_of_length_eq_zero hn
    clear h1 hws
    go_enter Tryz.func75, Tryz.ntmps75
    go_wp2
    refine wp_loop_rounds 1 ?_; rw [rounds_succ]
    go_wp2
    go_ret
    exact ⟨by simp [weigh], Ins.refl _ _ _⟩
  · have hout' : ∀ (j : Nat) (u : Value), us[j]? = some u → u.ownBlock = none ∨ u.ownBlock ≠ some g := hout
    have hgi : lo ≤ g ∧ g < hi := ⟨hb, hU g rfl⟩
    have hfr : Hid (∀ i (h : i < R.length) (h' : i < us.length), 0 ≤ i → Fresh lo w us[i] R[i].l) := Lib.hid fun i h h' _ => hR.row i _ _ (List.getElem?_eq_getElem h') (by simp [List.getElem?_eq_getElem h])
    have hxr : Hid (∀ i (h : i < R.length) (h' : i < us.length), 0 ≤ i → XRow xs (i * 10) R[i] us[i]) := Lib.hid fun i h h' _ => hC i h h'
    have HOUT := Lib.hid hout'
    have HAP := Lib.hid hR.apart
    have HUS := Lib.hid hUs
    have HUL := Lib.hid hul
    have HWS := Lib.hid hws
    have HGI := Lib.hid hgi
    have H1 := Lib.hid h1
    have hLen : R.length ≤ 1099511627776 := by unfold bulkR at h1; omega
    clear hg hnc hcm hcs htake cur hb hout hout' hU hUs hul hR hC hws hgi h1
    go_enter Tryz.func75, Tryz.ntmps75
    go_wp2
    go_loopw [1, 5] (fun m i wr => ∃ (j : Nat) (r : Int) (ys : List Value), j ≤ R.length ∧ i = .int .i64 j ∧ m = .int .i64 r ∧ Hid (r = k + sumN (weigh R) j) ∧ wr.ownsRow lo 83 10 (.slice (some ⟨g, 0, none⟩) R.length cap) R.length ys ∧ Hid (∀ i (h : i < R.length) (h' : i < us.length), j ≤ i → Fresh lo wr us[i] R[i].l) ∧ Hid (∀ i (h : i < R.length) (h' : i < us.length), j ≤ i → XRow ys (i * 10) R[i] us[i]) ∧ Ins lo hi w wr) (fun _ i _ => R.length - (intOf i).toNat)
    case atStart => exact ⟨0, k, xs, Nat.zero_le _, rfl, rfl, Lib.hid (by rw [sumN_zero]; simp), ho, hfr, hxr, Ins.refl _ _ _⟩
    case round =>
      clear ho hfr hxr
      obtain ⟨j, r, ys, hj, rfl, rfl, hr, ho, hF, hX, hI⟩ := hrel
      by_cases hlt : j < R.length
      · have hju : j < us.length := by rw [HUL.out]; exact hlt
        obtain ⟨d, hd⟩ : ∃ d, d = R[j] := ⟨_, rfl⟩
        obtain ⟨u, hu⟩ : ∃ u, u = us[j] := ⟨_, rfl⟩
        have hx := hX.out j hlt hju (Nat.le_refl _)
        have hf := hF.out j hlt hju (Nat.le_refl _)
        rw [← hd, ← hu] at hx hf
        have hlen : d.l.length ≤ 1099511627776 := by rw [hd]; have := bulkR_row hlt; have := H1.out; omega
        have hr0 : 0 ≤ r := by have := hr.out; omega
        have hr1 : r ≤ 21990232555520 := by
          have h := hr.out
          have h2 := sumN_mono (g := weigh R) (k := j) (by rw [weigh_len]; omega)
          have := HWS.out; have := H1.out; omega
        obtain ⟨g0, g1, g2, g3, g4, g5, g6, g7, g8, g9⟩ := hx.rowIn ho hlt
        have gf : ∀ q, wr.frozen? ⟨g, q, none⟩ = false := fun q => ho.frozenAt q
        obtain ⟨au, cu, rfl⟩ := hf.form
        have HO := Lib.hid ho
        have HFF := Lib.hid hf
        have HD := Lib.hid hd
        have HU := Lib.hid hu
        clear ho hf hx hd hu
        have hst := ownsRow_stores [.int .i64 r, .int .i64 (r + 1), .int .i64 (r + 1 + 1), .int .i64 (r + 1 + 1 + 1), .int .i64 (r + 1 + 1 + 1 + 1), .int .i64 (r + 1 + 1 + 1 + 1 + 1), .int .i64 (r + 1 + 1 + 1 + 1 + 1 + 1), .int .i64 (r + 1 + 1 + 1 + 1 + 1 + 1 + 1), .int .i64 (r + 1 + 1 + 1 + 1 + 1 + 1 + 1 + 1)] (j * 10) wr ys HO.out
        have hub : ∀ b, (Value.slice au d.l.length cu).ownBlock = some b → lo ≤ b ∧ b < hi ∧ b ≠ g := fun b e => by
          have h1 := (World.ownsRow.lt HFF.out b e).1
          have hju' : us[j]? = some (.slice au d.l.length cu) := by rw [List.getElem?_eq_getElem hju, HU.out]
          have h2 := HUS.out j _ hju' b e
          refine ⟨h1, h2, fun e' => ?_⟩
          rcases HOUT.out j _ hju' with h | h
          · rw [h] at e; cases e
          · exact h (by rw [e, e'])
        have hf9 : Fresh lo (wr.setCells g (j * 10) [.int .i64 r, .int .i64 (r + 1), .int .i64 (r + 1 + 1), .int .i64 (r + 1 + 1 + 1), .int .i64 (r + 1 + 1 + 1 + 1), .int .i64 (r + 1 + 1 + 1 + 1 + 1), .int .i64 (r + 1 + 1 + 1 + 1 + 1 + 1), .int .i64 (r + 1 + 1 + 1 + 1 + 1 + 1 + 1), .int .i64 (r + 1 + 1 + 1 + 1 + 1 + 1 + 1 + 1)]) (.slice au d.l.length cu) d.l := World.ownsRow.kept HFF.out hst.2 (by
          cases hob : (Value.slice au d.l.length cu).ownBlock with
          | none => exact .inl rfl
          | some b => exact .inr fun e => (hub b hob).2.2 (Option.some.inj e))
        have hi9 : Ins lo hi wr (wr.setCells g (j * 10) [.int .i64 r, .int .i64 (r + 1), .int .i64 (r + 1 + 1), .int .i64 (r + 1 + 1 + 1), .int .i64 (r + 1 + 1 + 1 + 1), .int .i64 (r + 1 + 1 + 1 + 1 + 1), .int .i64 (r + 1 + 1 + 1 + 1 + 1 + 1), .int .i64 (r + 1 + 1 + 1 + 1 + 1 + 1 + 1), .int .i64 (r + 1 + 1 + 1 + 1 + 1 + 1 + 1 + 1)]) := Ins.of_grown hst.2 (fun q e => by rw [← Option.some.inj e]; exact HGI.out)
        have HST := Lib.hid hst
        have HUB := Lib.hid hub
        have HF9 := Lib.hid hf9
        have HI9 := Lib.hid hi9
        clear hst hub hf9 hi9
        go_wp2_with fail
        refine (markIntS_any lo _ d.l _ (wr.setCells g (j * 10) [.int .i64 r, .int .i64 (r + 1), .int .i64 (r + 1 + 1), .int .i64 (r + 1 + 1 + 1), .int .i64 (r + 1 + 1 + 1 + 1), .int .i64 (r + 1 + 1 + 1 + 1 + 1), .int .i64 (r + 1 + 1 + 1 + 1 + 1 + 1), .int .i64 (r + 1 + 1 + 1 + 1 + 1 + 1 + 1), .int .i64 (r + 1 + 1 + 1 + 1 + 1 + 1 + 1 + 1)]) HF9.out (by omega) (by omega)).mono ?_
        rintro e w3 ⟨rfl, f3, t3⟩
        have T3 := Lib.hid t3
        have hs := sumN_succ (g := weigh R) (k := j) (by rw [weigh_len]; exact hlt)
        rw [weigh_get hlt, ← HD.out] at hs
        have HS := Lib.hid hs
        clear f3 t3 hs g0 g1 g2 g3 g4 g5 g6 g7 g8 g9 gf
        obtain ⟨q, hq⟩ : ∃ q, q = r + 1 + 1 + 1 + 1 + 1 + 1 + 1 + 1 + 1 + (d.l.length : Int) := ⟨_, rfl⟩
        have hq0 : 0 ≤ q := by omega
        rw [← hq]
        have HQ := Lib.hid hq
        clear hq
        go_wp2
        go_roundw
        case rel =>
          have hju' : us[j]? = some (.slice au d.l.length cu) := by rw [List.getElem?_eq_getElem hju, HU.out]
          refine ⟨j + 1, q, _, by omega, by go_num, rfl, Lib.hid (by have h1 := hr.out; have h2 := HS.out; have h3 := HQ.out; omega), World.ownsRow.kept HST.out.1 T3.out ?_, Lib.hid fun i h h' hij => ?_, Lib.hid fun i h h' hij => ?_, (hI.trans HI9.out).trans (Ins.of_grown T3.out (fun b e => ⟨(HUB.out b e).1, (HUB.out b e).2.1⟩))⟩
          · refine .inr fun e => ?_
            have := (HUB.out g e.symm).2.2
            exact this rfl
          · have h9 : Fresh lo (wr.setCells g (j * 10) [.int .i64 r, .int .i64 (r + 1), .int .i64 (r + 1 + 1), .int .i64 (r + 1 + 1 + 1), .int .i64 (r + 1 + 1 + 1 + 1), .int .i64 (r + 1 + 1 + 1 + 1 + 1), .int .i64 (r + 1 + 1 + 1 + 1 + 1 + 1), .int .i64 (r + 1 + 1 + 1 + 1 + 1 + 1 + 1), .int .i64 (r + 1 + 1 + 1 + 1 + 1 + 1 + 1 + 1)]) us[i] R[i].l := World.ownsRow.kept (hF.out i h h' (by omega)) HST.out.2 (HOUT.out i _ (List.getElem?_eq_getElem h'))
            exact World.ownsRow.kept h9 T3.out (HAP.out i j _ _ (by omega) (List.getElem?_eq_getElem h') hju')
          · have hl9 : ∀ (vs : List Value), vs.length = 9 → XRow (putL ys (j * 10) vs) (i * 10) R[i] us[i] := fun vs hvs => by
              obtain ⟨p0, p1, p2, p3, p4, p5, p6, p7, p8, p9⟩ := hX.out i h h' (by omega)
              refine ⟨?_, ?_, ?_, ?_, ?_, ?_, ?_, ?_, ?_, ?_⟩ <;> (rw [putL_out _ _ _ _ (by rw [hvs]; omega)]; assumption)
            exact hl9 _ rfl
        case measure => simp [intOf]; omega
      · obtain rfl : j = R.length := by omega
        go_wp2
        go_ret
        refine ⟨?_, hI⟩
        have h := hr.out
        have h2 := sumN_all (weigh R)
        rw [weigh_len] at h2
        rw [h2] at h
        rw [h]; rfl

end Go.Proofs.YtcpmfcigciknlaaGreat

namespace Go.Proofs.YtcpmfcigciknlaaGreat
open Go.RowKit
set_option linter.unusedVariables false

def weighs (T : List (List RowD)) : List Nat := T.map fun R => (weigh R).sum
theorem weighs_len (T : List (List RowD)) : (weighs T).length = T.length := by simp [weighs]
theorem weighs_get {T : List (List RowD)} {k : Nat} (h : k < T.length) : (weighs T)[k]'(by rw [weighs_len]; exact h) = (weigh T[k]).sum := by simp [weighs]
theorem weighs_sum (T : List (List RowD)) : (weighs T).sum ≤ 10 * bulkT T := by
  unfold weighs bulkT
  induction T with
  | nil => simp
  | cons R T ih =>
    have := weigh_sum R
    simp at ih ⊢; omega

/-- So many marks were laid, and nothing else has turned. -/
def Marked (lo hi : Nat) (k : Int) (n : Nat) (w : World) (e : Ending) (w' : World) : Prop := e = .returned (.int .i64 (k + n)) ∧ Ins lo hi w w'

set_option maxHeartbeats 4000000 in
set_option maxRecDepth 100000 in
theorem markRowSS_any (lo hi : Nat) (v : Value) (T : List (List RowD)) (k : Int) (w : World) (hv : FreshT lo hi w v T) (h0 : 0 ≤ k) (hk : k ≤ 1073741824) (h1 : bulkT T ≤ 10995116277) :
    Calls Tryz.prog 41 #[v, .int .i64 k] w (Marked lo hi k (weighs T).sum w) := by
  obtain ⟨vs, cut, ho, hU, hcut, hc0, hcn, hF⟩ := hv
  have hvl : vs.length = T.length := by have := ho.1; omega
  have hws := weighs_sum T
  rcases ho.2 with ⟨rfl, hn⟩ | ⟨g, cap, cur, rfl, hb, hg, hnc, hcm, hcs, htake⟩
  · obtain rfl : T = [] := List.eq_nil_of_length_eq_zero hn
    clear h1 hws
    go_enter Tryz.func41, Tryz.ntmps41
    go_wp2
    refine wp_loop_rounds 1 ?_; rw [rounds_succ]
    go_wp2
    go_ret
    exact ⟨by simp [weighs], Ins.refl _ _ _⟩
  · have hgc : g < cut 0 := hU g rfl
    have hm := cut_mono hcut
    have hfr : Hid (∀ i (h : i < T.length) (h' : i < vs.length), 0 ≤ i → FreshI (cut i) (cut (i + 1)) w vs[i] T[i]) := Lib.hid fun i h h' _ => hF i h h'
    have HM := Lib.hid hm
    have HGC := Lib.hid hgc
    have HC0 := Lib.hid hc0
    have HCN := Lib.hid hcn
    have HVL := Lib.hid hvl
    have HWS := Lib.hid hws
    have H1 := Lib.hid h1
    have hLen : T.length ≤ 1099511627776 := by unfold bulkT at h1; omega
    clear hg hnc hcm hcs htake cur hb hU hcut hF hm hgc hc0 hcn hvl hws h1
    go_enter Tryz.func41, Tryz.ntmps41
    go_wp2
    go_loopw [1, 5] (fun m i wr => ∃ (j : Nat) (r : Int), j ≤ T.length ∧ i = .int .i64 j ∧ m = .int .i64 r ∧ Hid (r = k + sumN (weighs T) j) ∧ wr.ownsRow lo 117 1 (.slice (some ⟨g, 0, none⟩) T.length cap) T.length vs ∧ Hid (∀ i (h : i < T.length) (h' : i < vs.length), j ≤ i → FreshI (cut i) (cut (i + 1)) wr vs[i] T[i]) ∧ Ins lo hi w wr) (fun _ i _ => T.length - (intOf i).toNat)
    case atStart => exact ⟨0, k, Nat.zero_le _, rfl, rfl, Lib.hid (by rw [sumN_zero]; simp), ho, hfr, Ins.refl _ _ _⟩
    case round =>
      clear ho hfr
      obtain ⟨j, r, hj, rfl, rfl, hr, ho, hF, hI⟩ := hrel
      by_cases hlt : j < T.length
      · have hjv : j < vs.length := by rw [HVL.out]; exact hlt
        obtain ⟨d, hd⟩ : ∃ d, d = T[j] := ⟨_, rfl⟩
        obtain ⟨u, hu⟩ : ∃ u, u = vs[j] := ⟨_, rfl⟩
        have hf := hF.out j hlt hjv (Nat.le_refl _)
        rw [← hd, ← hu] at hf
        have hlen : bulkR d ≤ 1099511627776 := by rw [hd]; have := bulkT_row hlt; have := H1.out; omega
        have hr0 : 0 ≤ r := by have := hr.out; omega
        have hr1 : r ≤ 1099511627776 := by
          have h := hr.out
          have h2 := sumN_mono (g := weighs T) (k := j) (by rw [weighs_len]; omega)
          have := HWS.out; have := H1.out; omega
        have hwd := weigh_sum d
        have hc := (ho.cellAt j (by omega)).trans (List.getElem?_eq_getElem hjv)
        rw [← hu] at hc
        have HO := Lib.hid ho
        have HFF := Lib.hid hf
        have HD := Lib.hid hd
        have HU := Lib.hid hu
        clear ho hf hd hu
        go_wp2_with fail
        refine (markRowS_any (cut j) (cut (j + 1)) _ d _ _ HFF.out hr0 hr1 hlen).mono ?_
        rintro e w3 ⟨rfl, t3⟩
        have T3 := Lib.hid t3
        have hs := sumN_succ (g := weighs T) (k := j) (by rw [weighs_len]; exact hlt)
        rw [weighs_get hlt, ← HD.out] at hs
        have HS := Lib.hid hs
        clear t3 hs hc
        obtain ⟨q, hq⟩ : ∃ q, q = r + ((weigh d).sum : Int) := ⟨_, rfl⟩
        have hq0 : 0 ≤ q := by omega
        rw [← hq]
        have HQ := Lib.hid hq
        clear hq
        go_wp2
        go_roundw
        case rel =>
          have m1 := HM.out 0 j (by omega) (by omega)
          have m2 := HM.out (j + 1) T.length (by omega) (Nat.le_refl _)
          have m3 := HGC.out
          have m4 := HC0.out
          have m5 := HCN.out
          refine ⟨j + 1, q, by omega, by go_num, rfl, Lib.hid (by have h1 := hr.out; have h2 := HS.out; have h3 := HQ.out; omega), T3.out.row HO.out (fun b e => .inl (by have := Option.some.inj e; simp at this; omega)), Lib.hid fun i h h' hij => ?_, hI.trans (T3.out.more (by omega) (by omega))⟩
          obtain ⟨zs, us, q1, q2, q3, q4, q5, q6⟩ := hF.out i h h' (by omega)
          have m6 := HM.out (j + 1) i (by omega) (by omega)
          refine ⟨zs, us, T3.out.row q1 (fun b e => .inr (by have := (World.ownsRow.lt q1 b e).1; omega)), q2, ⟨q3.len, fun a z l hz hl => T3.out.row (q3.row a z l hz hl) (fun b e => .inr (by have := (World.ownsRow.lt (q3.row a z l hz hl) b e).1; omega)), q3.apart⟩, q4, q5, q6⟩
        case measure => simp [intOf]; omega
      · obtain rfl : j = T.length := by omega
        go_wp2
        go_ret
        refine ⟨?_, hI⟩
        have h := hr.out
        have h2 := sumN_all (weighs T)
        rw [weighs_len] at h2
        rw [h2] at h
        rw [h]; rfl

set_option maxHeartbeats 1000000 in
theorem markTable_any (lo hi : Nat) (n : Int) (v : Value) (T : List (List RowD)) (k : Int) (w : World) (hv : FreshT lo hi w v T) (hhi : hi ≤ w.heap.size) (h0 : 0 ≤ k) (hk : k ≤ 1073741824) (h1 : bulkT T ≤ 10995116277) :
    Calls Tryz.prog 14 #[.agg #[.int .i64 n, v], .int .i64 k] w (Marked lo hi k (weighs T).sum w) := by
  have hws := weighs_sum T
  have hq0 : 0 ≤ k + ((weighs T).sum : Int) := by omega
  have HX : Hid (Ins lo hi w (w.alloc (.cells #[.int .i64 n, v] 32))) := Lib.hid (Ins.of_ext (Ext.alloc (Ext.refl _) _))
  have HV := Lib.hid (hv.kept (Stood.of_ext (Ext.alloc (Ext.refl _) (.cells #[.int .i64 n, v] 32)) hhi))
  have H1 := Lib.hid h1
  clear hws hv h1
  go_enter Tryz.func14, Tryz.ntmps14
  go_wp2_with fail
  refine (markRowSS_any lo hi _ T _ _ HV.out h0 hk H1.out).mono ?_
  rintro e w1 ⟨rfl, t1⟩
  have T1 := Lib.hid t1
  clear t1
  go_wp2
  go_ret
  exact ⟨rfl, HX.out.trans T1.out⟩

end Go.Proofs.YtcpmfcigciknlaaGreat

namespace Go.Proofs.YtcpmfcigciknlaaGreat
open Go.RowKit
set_option linter.unusedVariables false

theorem RowAt.ins {lo hi b : Nat} {w w' : World} {r : RowD} {u : Value} (h : RowAt w b r u) (k : Ins lo hi w w') (hb : b < lo ∨ hi ≤ b) : RowAt w' b r u := by
  obtain ⟨h0, h1, h2, h3, h4, h5, h6, h7, h8, h9⟩ := h
  exact ⟨k.cell h0 hb, k.cell h1 hb, k.cell h2 hb, k.cell h3 hb, k.cell h4 hb, k.cell h5 hb, k.cell h6 hb, k.cell h7 hb, k.cell h8 hb, k.cell h9 hb⟩
theorem AttrAt.ins {lo hi b : Nat} {w w' : World} {s : Int} {u : Value} (h : AttrAt w b s u) (k : Ins lo hi w w') (hb : b < lo ∨ hi ≤ b) : AttrAt w' b s u := ⟨k.cell h.1 hb, k.cell h.2 hb⟩
theorem Rowzz.ins {lo hi : Nat} {w0 w w' : World} {v : Value} {T : List (List RowD)} (h0 : Rowzz w0 v T) (x : Ext w0 w) (k : Ins lo hi w w') (hb : w0.heap.size ≤ lo) : Rowzz w' v T := h0.ext (k.ext x hb)

end Go.Proofs.YtcpmfcigciknlaaGreat

namespace Go.Proofs.YtcpmfcigciknlaaGreat
open Go.RowKit
set_option linter.unusedVariables false

theorem eqss_succ {L R : List (List Int)} {k : Nat} (h1 : k < L.length) (h2 : k < R.length) (h : L.take k = R.take k) (he : L[k] = R[k]) : L.take (k + 1) = R.take (k + 1) := by
  rw [List.take_add_one, List.take_add_one, h, List.getElem?_eq_getElem h1, List.getElem?_eq_getElem h2, he]

set_option maxHeartbeats 400000 in
theorem eqIntSS_any (u v : Value) (L R : List (List Int)) (w : World) (hu : Intss w u L) (hv : Intss w v R) :
    Calls Tryz.prog 29 #[u, v] w (BoolExt (decide (L = R)) w) := by
  obtain ⟨au, cu, rfl, hlu, _, hcu⟩ := hu
  obtain ⟨av, cv, rfl, hlv, _, hcv⟩ := hv
  unfold maxLen at hlu hlv
  by_cases hl : L.length = R.length
  · have e0 : ((L.length : Int) != (R.length : Int)) = false := by simp [hl]
    have HL := Lib.hid hl
    clear hl
    go_enter Tryz.func29, Tryz.ntmps29
    go_wp2
    go_loopw [5] (fun i wr => ∃ k : Nat, k ≤ L.length ∧ i = .int .i64 k ∧ L.take k = R.take k ∧ Ext w wr) (fun i _ => L.length - (intOf i).toNat)
    case atStart => exact ⟨0, Nat.zero_le _, rfl, rfl, Ext.refl _⟩
    case round =>
      obtain ⟨k, hk, rfl, ht, hx⟩ := hrel
      have HT := Lib.hid ht
      clear ht
      by_cases hlt : k < L.length
      · have hltr : k < R.length := by have := HL.out; omega
        obtain ⟨bu, ou, rfl, du⟩ := hcu (by omega)
        obtain ⟨bv, ov, rfl, dv⟩ := hcv (by omega)
        obtain ⟨x, hx1, ix⟩ := du k hlt
        obtain ⟨y, hy1, iy⟩ := dv k hltr
        rw [List.getElem?_eq_getElem hlt] at ix
        rw [List.getElem?_eq_getElem hltr] at iy
        have gu := hx.cell hx1
        have gv := hx.cell hy1
        have IX := Lib.hid (ix.ext hx)
        have IY := Lib.hid (iy.ext hx)
        clear hcu hcv du dv hx1 hy1 ix iy
        go_wp2_with fail
        go_region_held3 (fun W => Ext wr W ∧ W.cell? ⟨bu, ou + k, none⟩ = some x ∧ W.cell? ⟨bv, ov + k, none⟩ = some y) (first | (exact step2 (by assumption) (by assumption)) | (exact ⟨Ext.drew (Ext.refl _), gu, gv⟩)) (first | (go_at_call 11; refine (eqIntS_any _ _ _ _ _ (IX.out.ext (Ext.drew (Ext.refl _))) (IY.out.ext (Ext.drew (Ext.refl _)))).mono ?_; rintro e W ⟨rfl, x9⟩))
        rename_i hH
        have hx2 : Ext w W := hx.trans hH.1
        clear hH x9 gu gv hx
        by_cases he : L[k] = R[k]
        · rw [decide_eq_true he]
          have HE := Lib.hid he
          clear he
          go_wp2
          go_roundw
          case rel => exact ⟨k + 1, by omega, by go_num, eqss_succ hlt hltr HT.out HE.out, hx2⟩
          case measure => simp [intOf]; omega
        · rw [decide_eq_false he]
          have HE := Lib.hid he
          clear he
          go_wp2
          go_ret
          refine ⟨?_, hx2⟩
          have hne : decide (L = R) = false := decide_eq_false (fun h => HE.out (by subst h; rfl))
          rw [hne]; rfl
      · have hk' : k = L.length := by omega
        subst hk'
        go_wp2
        go_ret
        refine ⟨?_, hx⟩
        have he : decide (L = R) = true := by
          have h := HT.out
          rw [List.take_length, HL.out, List.take_length] at h
          exact decide_eq_true h
        rw [he]; rfl
  · have e0 : ((L.length : Int) != (R.length : Int)) = true := by simp; omega
    have HL := Lib.hid hl
    clear hl
    go_enter Tryz.func29, Tryz.ntmps29
    go_wp2
    go_ret
    refine ⟨?_, Ext.refl w⟩
    have hne : decide (L = R) = false := decide_eq_false (fun h => HL.out (by rw [h]))
    rw [hne]; rfl

end Go.Proofs.YtcpmfcigciknlaaGreat

namespace Go.Proofs.YtcpmfcigciknlaaGreat
open Go.RowKit
set_option linter.unusedVariables false

/-- The first j lists bear marks, the others are as they were. -/
def markedSS (k : Int) (L : List (List Int)) (j : Nat) : List (List Int) := (List.range L.length).map fun i => if i < j then marks (k + sumTo L i) (L[i]?.getD []).length else L[i]?.getD []
theorem markedSS_length (k : Int) (L : List (List Int)) (j : Nat) : (markedSS k L j).length = L.length := by simp [markedSS]
theorem markedSS_zero (k : Int) (L : List (List Int)) : markedSS k L 0 = L := by
  apply List.ext_getElem
  · simp [markedSS]
  · intro i h1 h2
    simp [markedSS, List.getElem?_eq_getElem h2]
theorem markedSS_old {k : Int} {L : List (List Int)} {j i : Nat} (hi : i < L.length) (h : j ≤ i) : (markedSS k L j)[i]? = some L[i] := by
  simp [markedSS, hi, Nat.not_lt.2 h]
theorem markedSS_new {k : Int} {L : List (List Int)} {j i : Nat} (hi : i < L.length) (h : i < j) : (markedSS k L j)[i]? = some (marks (k + sumTo L i) (L[i]).length) := by
  simp [markedSS, hi, h]
theorem markedSS_succ {k : Int} {L : List (List Int)} {j : Nat} (h : j < L.length) : (markedSS k L j).set j (marks (k + sumTo L j) (L[j]).length) = markedSS k L (j + 1) := by
  apply List.ext_getElem?
  intro i
  rw [List.getElem?_set, markedSS_length]
  by_cases hi : i < L.length
  · by_cases e : j = i
    · subst e
      rw [if_pos rfl, if_pos h, markedSS_new h (by omega)]
    · rw [if_neg e]
      by_cases hij : i < j
      · rw [markedSS_new hi hij, markedSS_new hi (by omega)]
      · rw [markedSS_old hi (by omega), markedSS_old hi (by omega)]
  · rw [List.getElem?_eq_none (by rw [markedSS_length]; omega), List.getElem?_eq_none (by rw [markedSS_length]; omega)]
    split
    · omega
    · rfl

theorem Rows_.mark {B : Nat} {w w' : World} {vs : List Value} {L : List (List Int)} {j : Nat} {z : Value} {l : List Int} (h : Rows_ B w vs L) (hj : vs[j]? = some z) (t : w.grownBy w' z.ownBlock) (hz : Fresh B w' z l) : Rows_ B w' vs (L.set j l) := by
  have hjl : j < L.length := by rw [← h.len]; exact (List.getElem?_eq_some_iff.1 hj).1
  refine ⟨by simp [h.len], fun i u r hu hr => ?_, h.apart⟩
  rw [List.getElem?_set] at hr
  by_cases e : j = i
  · subst e
    rw [if_pos rfl, if_pos hjl] at hr
    rw [hj] at hu
    cases hu
    cases hr
    exact hz
  · rw [if_neg e] at hr
    exact World.ownsRow.kept (h.row i u r hu hr) t (h.apart i j u z (fun e' => e e'.symm) hu hj)

/-- What comes back of the marks: the number behind the last, and nothing below B has turned. -/
def MarksSS (B : Nat) (k : Int) (v : Value) (L : List (List Int)) (w : World) (e : Ending) (w' : World) : Prop :=
  e = .returned (.int .i64 (k + (L.map List.length).sum)) ∧ FreshSS B w' v (markedSS k L L.length) ∧ Below B w w'

set_option maxHeartbeats 800000 in
theorem markIntSS_any (B : Nat) (v : Value) (L : List (List Int)) (k : Int) (w : World) (hv : FreshSS B w v L) (hB : B ≤ w.heap.size) (h0 : 0 ≤ k) (hk : k ≤ 1048576) (h1 : bulk L ≤ 1099511627776) :
    Calls Tryz.prog 30 #[v, .int .i64 k] w (MarksSS B k v L w) := by
  obtain ⟨vs, ho, hR, hout⟩ := hv
  have hvl := hR.len
  have hL : L.length ≤ 1099511627776 := by unfold bulk at h1; omega
  have hsum : (L.map List.length).sum ≤ 1099511627776 := by unfold bulk at h1; omega
  rcases ho.2 with ⟨rfl, hn⟩ | ⟨g, cap, cur, rfl, hb, hg, hnc, hcm, hcs, htake⟩
  · obtain rfl : L = [] := List.eq_nil_of_length_eq_zero hn
    clear h1 hsum
    go_enter Tryz.func30, Tryz.ntmps30
    go_wp2
    refine wp_loop_rounds 1 ?_; rw [rounds_succ]
    go_wp2
    go_ret
    exact ⟨by simp, FreshSS.nil _ _, Below.refl _ _⟩
  · have hout' : ∀ (j : Nat) (u : Value), vs[j]? = some u → u.ownBlock = none ∨ u.ownBlock ≠ some g := hout
    have HOUT := Lib.hid hout'
    have H1 := Lib.hid h1
    have HVL := Lib.hid hvl
    have HSUM := Lib.hid hsum
    clear hg hnc hcm hcs htake cur hb hout hout' h1 hvl hsum
    go_enter Tryz.func30, Tryz.ntmps30
    go_wp2
    go_loopw [1, 5] (fun m i wr => ∃ (j : Nat) (r : Int), j ≤ L.length ∧ i = .int .i64 j ∧ m = .int .i64 r ∧ Hid (r = k + sumTo L j) ∧ wr.ownsRow B 26 1 (.slice (some ⟨g, 0, none⟩) L.length cap) L.length vs ∧ Rows_ B wr vs (markedSS k L j) ∧ Below B w wr) (fun _ i _ => L.length - (intOf i).toNat)
    case atStart => exact ⟨0, k, Nat.zero_le _, rfl, rfl, Lib.hid (by simp [sumTo]), ho, by rw [markedSS_zero]; exact hR, Below.refl _ _⟩
    case round =>
      clear ho hR
      obtain ⟨j, r, hj, rfl, rfl, hr, ho, hR, hx⟩ := hrel
      by_cases hlt : j < L.length
      · obtain ⟨z, hz⟩ : ∃ z, vs[j]? = some z := ⟨_, List.getElem?_eq_getElem (by rw [HVL.out]; exact hlt)⟩
        have hc := (ho.cellAt j (by omega)).trans hz
        have hf := hR.row j z _ hz (markedSS_old hlt (Nat.le_refl _))
        have hrow : (L[j]).length ≤ 1099511627776 := by have := bulk_row hlt; have := H1.out; omega
        have hr0 : 0 ≤ r := by have := hr.out; omega
        have hr1 : r ≤ 2199024304128 := by have h := hr.out; have := sumTo_mono (L := L) (k := j) hj; have := HSUM.out; omega
        have HO := Lib.hid ho
        have HR := Lib.hid hR
        have HZ := Lib.hid hz
        have HX := Lib.hid hx
        have HFF := Lib.hid hf
        clear ho hR hz hx hf
        go_wp2_with fail
        refine (markIntS_any B _ _ _ _ HFF.out hr0 (by omega)).mono ?_
        rintro e w2 ⟨rfl, f2, t2⟩
        have hR2 := HR.out.mark HZ.out t2 (by
          have e := hr.out
          rw [e] at f2
          exact f2)
        rw [markedSS_succ hlt] at hR2
        have ho2 := World.ownsRow.kept HO.out t2 (by
          rcases HOUT.out j z HZ.out with h | h
          · exact .inr (by rw [h]; simp [Value.ownBlock])
          · exact .inr (fun e => h e.symm))
        have hx2 : Below B w w2 := Below.grown HX.out t2 (Nat.le_trans hB HX.out.size) (fun q hq => (World.ownsRow.lt HFF.out q hq).1)
        have hs := sumTo_succ hlt
        have HS := Lib.hid hs
        clear f2 t2 hc hs
        go_wp2
        go_roundw
        case rel => exact ⟨j + 1, r + (L[j]).length, by omega, by go_num, rfl, Lib.hid (by have := hr.out; have := HS.out; omega), ho2, hR2, hx2⟩
        case measure => simp [intOf]; omega
      · obtain rfl : j = L.length := by omega
        have HO := Lib.hid ho
        have HR := Lib.hid hR
        clear ho hR
        go_wp2
        go_ret
        refine ⟨?_, ⟨vs, by rw [markedSS_length]; exact HO.out, HR.out, HOUT.out⟩, hx⟩
        have h := hr.out
        rw [sumTo_all] at h
        rw [h]; rfl

set_option maxHeartbeats 800000 in
/-- Where the marks lie, they are met. -/
theorem heldIntSS_yes (v : Value) (L : List (List Int)) (k : Int) (w : World) (hv : Intss w v (markedSS k L L.length)) (h0 : 0 ≤ k) (hk : k ≤ 1048576) (h1 : bulk L ≤ 1099511627776) :
    Calls Tryz.prog 31 #[v, .int .i64 k] w (IntExt (k + (L.map List.length).sum) w) := by
  obtain ⟨av, cv, rfl, hlv, _, hcv⟩ := hv
  rw [markedSS_length] at hcv hlv ⊢
  unfold maxLen at hlv
  have hL : L.length ≤ 1099511627776 := by unfold bulk at h1; omega
  have hsum : (L.map List.length).sum ≤ 1099511627776 := by unfold bulk at h1; omega
  have H1 := Lib.hid h1
  have HSUM := Lib.hid hsum
  clear h1 hsum
  go_enter Tryz.func31, Tryz.ntmps31
  go_wp2
  go_loopw [1, 5] (fun m i wr => ∃ (j : Nat) (r : Int), j ≤ L.length ∧ i = .int .i64 j ∧ m = .int .i64 r ∧ Hid (r = k + sumTo L j) ∧ Ext w wr) (fun _ i _ => L.length - (intOf i).toNat)
  case atStart => exact ⟨0, k, Nat.zero_le _, rfl, rfl, Lib.hid (by simp [sumTo]), Ext.refl _⟩
  case round =>
    obtain ⟨j, r, hj, rfl, rfl, hr, hx⟩ := hrel
    by_cases hlt : j < L.length
    · obtain ⟨bv, ov, rfl, dv⟩ := hcv (by omega)
      obtain ⟨x, hx1, ix⟩ := dv j hlt
      rw [markedSS_new hlt hlt, Option.getD_some] at ix
      have gv := hx.cell hx1
      have hrow : (L[j]).length ≤ 1099511627776 := by have := bulk_row hlt; have := H1.out; omega
      have hr0 : 0 ≤ r := by have := hr.out; omega
      have hr1 : r ≤ 2199024304128 := by have h := hr.out; have := sumTo_mono (L := L) (k := j) hj; have := HSUM.out; omega
      rw [← hr.out] at ix
      have IX := Lib.hid (ix.ext hx)
      have HS := Lib.hid (sumTo_succ hlt)
      clear hcv dv hx1 ix
      go_wp2_with fail
      refine (heldIntS_yes _ _ _ _ IX.out hr0 (by omega)).mono ?_
      rintro e w2 ⟨rfl, x2⟩
      have hr2 : 0 ≤ r + (L[j]).length := by omega
      go_wp2
      go_roundw
      case rel => exact ⟨j + 1, r + (L[j]).length, by omega, by go_num, rfl, Lib.hid (by have := hr.out; have := HS.out; omega), hx.trans x2⟩
      case measure => simp [intOf]; omega
    · obtain rfl : j = L.length := by omega
      go_wp2
      go_ret
      refine ⟨?_, hx⟩
      have h := hr.out
      rw [sumTo_all] at h
      rw [h]; rfl

/-- What was made before B stands while nothing below B turns. -/
theorem Ext.under {B : Nat} {w0 w w' : World} (e : Ext w0 w) (k : Below B w w') (hb : w0.heap.size ≤ B) : Ext w0 w' := Below.trans e (Below.mono k hb)

end Go.Proofs.YtcpmfcigciknlaaGreat

namespace Go.Proofs.YtcpmfcigciknlaaGreat
open Go.RowKit
set_option linter.unusedVariables false

theorem eqIntSS_self (u v : Value) (L : List (List Int)) (w : World) (hu : Intss w u L) (hv : Intss w v L) : Calls Tryz.prog 29 #[u, v] w (BoolExt true w) := by
  have h := eqIntSS_any u v L L w hu hv
  rwa [decide_eq_true rfl] at h

/-- As FreshSS, from block 0 on, all below h. -/
def SSI (h : Nat) (w : World) (v : Value) (L : List (List Int)) : Prop := ∃ vs, w.ownsRow 0 26 1 v L.length vs ∧ Rows_ 0 w vs L ∧ Und h v ∧ ∀ (j : Nat) (u : Value), vs[j]? = some u → Und h u
theorem FreshSS.below {B h : Nat} {w : World} {v : Value} {L : List (List Int)} (f : FreshSS B w v L) (hb : w.heap.size ≤ h) : SSI h w v L := by
  obtain ⟨vs, h1, h2, _⟩ := f
  refine ⟨vs, ownsRow_more h1 (Nat.zero_le _), h2.more (Nat.zero_le _), fun b e => Nat.lt_of_lt_of_le (World.ownsRow.lt h1 b e).2 hb, fun j u hu => ?_⟩
  have hj : j < vs.length := (List.getElem?_eq_some_iff.1 hu).1
  exact (h2.row j u _ hu (List.getElem?_eq_getElem (by rw [← h2.len]; exact hj))).und.more hb
theorem SSI.stood {h : Nat} {w w' : World} {v : Value} {L : List (List Int)} (f : SSI h w v L) (k : Stood 0 h w w') : SSI h w' v L := by
  obtain ⟨vs, h1, h2, h3, h4⟩ := f
  refine ⟨vs, k.row h1 (fun b e => ⟨Nat.zero_le _, h3 b e⟩), ⟨h2.len, fun j u l hu hl => k.row (h2.row j u l hu hl) (fun b e => ⟨Nat.zero_le _, h4 j u hu b e⟩), h2.apart⟩, h3, h4⟩
theorem SSI.ext {h : Nat} {w w' : World} {v : Value} {L : List (List Int)} (f : SSI h w v L) (e : Ext w w') : SSI h w' v L := by
  obtain ⟨vs, h1, h2, h3, h4⟩ := f
  exact ⟨vs, e.ownsRow h1, h2.ext e, h3, h4⟩
theorem SSI.intss {h : Nat} {w : World} {v : Value} {L : List (List Int)} (f : SSI h w v L) : Intss w v L := by
  obtain ⟨vs, h1, h2, h3, h4⟩ := f
  exact (FreshSS.of h1 h2).intss
theorem FreshSS.ins {lo hi B : Nat} {w w' : World} {v : Value} {L : List (List Int)} (f : FreshSS B w v L) (k : Ins lo hi w w') (hb : hi ≤ B) : FreshSS B w' v L := by
  obtain ⟨vs, h1, h2, h3⟩ := f
  exact ⟨vs, k.row h1 (fun b e => .inr (Nat.le_trans hb (World.ownsRow.lt h1 b e).1)), ⟨h2.len, fun j u l hu hl => (h2.row j u l hu hl).ins_high k hb, h2.apart⟩, h3⟩

/-- The argument's box N, the model's answer v3 (below h3), the program's v5 (from B on). -/
def LiveS (w W : World) (N h3 B : Nat) (n : Int) (v v3 v5 : Value) (L M : List (List Int)) : Prop :=
  Ext w W ∧ AttrAt W N n v ∧ SSI h3 W v3 L ∧ FreshSS B W v5 M
theorem LiveS.ext {w W W' : World} {N h3 B : Nat} {n : Int} {v v3 v5 : Value} {L M : List (List Int)} (h : LiveS w W N h3 B n v v3 v5 L M) (e : Ext W W') : LiveS w W' N h3 B n v v3 v5 L M :=
  ⟨h.1.trans e, h.2.1.ext e, h.2.2.1.ext e, h.2.2.2.ext e⟩
theorem LiveS.ins {w W W' : World} {N h3 B lo hi : Nat} {n : Int} {v v3 v5 : Value} {L M : List (List Int)} (h : LiveS w W N h3 B n v v3 v5 L M) (k : Ins lo hi W W')
    (h0 : w.heap.size ≤ lo) (hN : N < lo) (hh : h3 ≤ lo) (hB : hi ≤ B) (hs : h3 ≤ W.heap.size) : LiveS w W' N h3 B n v v3 v5 L M := by
  obtain ⟨a, b, c, e⟩ := h
  exact ⟨k.ext a h0, b.ins k (.inl hN), c.stood (k.stood hs (.inl hh)), e.ins k hB⟩
theorem LiveS.mark {w W W' : World} {N h3 B : Nat} {n : Int} {v v3 v5 : Value} {L M M' : List (List Int)} (h : LiveS w W N h3 B n v v3 v5 L M) (k : Below B W W') (f' : FreshSS B W' v5 M')
    (h0 : w.heap.size ≤ B) (hN : N < B) (hh : h3 ≤ B) : LiveS w W' N h3 B n v v3 v5 L M' := by
  obtain ⟨a, b, c, e⟩ := h
  exact ⟨a.under k h0, ⟨(Below.cell k (p := ⟨N, 0, none⟩) hN).trans b.1, (Below.cell k (p := ⟨N, 1, none⟩) hN).trans b.2⟩, c.stood ⟨k.size, fun x _ h2 => Below.block k x (by omega)⟩, f'⟩

end Go.Proofs.YtcpmfcigciknlaaGreat

namespace Go.Proofs.YtcpmfcigciknlaaGreat
open Go.RowKit
set_option linter.unusedVariables false

/-- A slice that reads as L, and a Bool, come back. -/
def ReadSS (L : List (List Int)) (b : Bool) (w : World) (e : Ending) (w' : World) : Prop := ∃ v, e = .returned (.tuple #[v, .bool b]) ∧ Intss w' v L ∧ Ext w w'
/-- The argument's box N, the model's answer v3 as it lay in W3, the program's v5 (from B on). -/
structure LiveQ (w W3 W : World) (N B : Nat) (n : Int) (v v3 v5 : Value) (L M : List (List Int)) : Prop where
  ext : Ext w W
  arg : AttrAt W N n v
  old : Ext W3 W
  i3 : Intss W3 v3 L
  f5 : FreshSS B W v5 M
theorem LiveQ.read {w W3 W : World} {N B : Nat} {n : Int} {v v3 v5 : Value} {L M : List (List Int)} (h : LiveQ w W3 W N B n v v3 v5 L M) : Intss W v3 L := h.i3.ext h.old
theorem LiveQ.on {w W3 W W' : World} {N B : Nat} {n : Int} {v v3 v5 : Value} {L M : List (List Int)} (h : LiveQ w W3 W N B n v v3 v5 L M) (e : Ext W W') : LiveQ w W3 W' N B n v v3 v5 L M :=
  ⟨h.ext.trans e, h.arg.ext e, h.old.trans e, h.i3, h.f5.ext e⟩
theorem LiveQ.ins {w W3 W W' : World} {N B lo hi : Nat} {n : Int} {v v3 v5 : Value} {L M : List (List Int)} (h : LiveQ w W3 W N B n v v3 v5 L M) (k : Ins lo hi W W')
    (h0 : w.heap.size ≤ lo) (hN : N < lo) (hh : W3.heap.size ≤ lo) (hB : hi ≤ B) : LiveQ w W3 W' N B n v v3 v5 L M :=
  ⟨k.ext h.ext h0, h.arg.ins k (.inl hN), k.ext h.old hh, h.i3, h.f5.ins k hB⟩
theorem LiveQ.mark {w W3 W W' : World} {N B : Nat} {n : Int} {v v3 v5 : Value} {L M M' : List (List Int)} (h : LiveQ w W3 W N B n v v3 v5 L M) (k : Below B W W') (f' : FreshSS B W' v5 M')
    (h0 : w.heap.size ≤ B) (hN : N < B) (hh : W3.heap.size ≤ B) : LiveQ w W3 W' N B n v v3 v5 L M' :=
  ⟨h.ext.under k h0, ⟨(Below.cell k (p := ⟨N, 0, none⟩) hN).trans h.arg.1, (Below.cell k (p := ⟨N, 1, none⟩) hN).trans h.arg.2⟩, h.old.under k hh, h.i3, f'⟩
end Go.Proofs.YtcpmfcigciknlaaGreat

namespace Go.Proofs.YtcpmfcigciknlaaGreat
open Go.RowKit
set_option linter.unusedVariables false

/-- As FreshSS, all blocks below h. -/
def FreshSB (B h : Nat) (w : World) (v : Value) (L : List (List Int)) : Prop :=
  ∃ vs, w.ownsRow B 26 1 v L.length vs ∧ Rows_ B w vs L ∧ (∀ (j : Nat) (u : Value), vs[j]? = some u → u.ownBlock = none ∨ u.ownBlock ≠ v.ownBlock) ∧ Und h v ∧ ∀ (j : Nat) (u : Value), vs[j]? = some u → Und h u
theorem FreshSB.nil (B h : Nat) (w : World) : FreshSB B h w (.slice none 0 0) [] := ⟨[], World.ownsRow_nil _ _ _ _, Rows_.nil _ _, (fun _ _ h => by simp at h), (fun b e => by cases e), (fun _ _ h => by simp at h)⟩
theorem FreshSB.of {B h : Nat} {w : World} {v : Value} {L : List (List Int)} (f : FreshSS B w v L) (hb : w.heap.size ≤ h) : FreshSB B h w v L := by
  obtain ⟨vs, h1, h2, h3⟩ := f
  refine ⟨vs, h1, h2, h3, fun b e => Nat.lt_of_lt_of_le (World.ownsRow.lt h1 b e).2 hb, fun j u hu => ?_⟩
  have hj : j < vs.length := (List.getElem?_eq_some_iff.1 hu).1
  exact (h2.row j u _ hu (List.getElem?_eq_getElem (by rw [← h2.len]; exact hj))).und.more hb
theorem FreshSB.ss {B h : Nat} {w : World} {v : Value} {L : List (List Int)} (f : FreshSB B h w v L) : FreshSS B w v L := by
  obtain ⟨vs, h1, h2, h3, _, _⟩ := f
  exact ⟨vs, h1, h2, h3⟩
theorem FreshSB.ext {B h : Nat} {w w' : World} {v : Value} {L : List (List Int)} (f : FreshSB B h w v L) (e : Ext w w') : FreshSB B h w' v L := by
  obtain ⟨vs, h1, h2, h3, h4, h5⟩ := f
  exact ⟨vs, e.ownsRow h1, h2.ext e, h3, h4, h5⟩
theorem FreshSB.intss {B h : Nat} {w : World} {v : Value} {L : List (List Int)} (f : FreshSB B h w v L) : Intss w v L := f.ss.intss
theorem FreshSB.ins {B h lo hi : Nat} {w w' : World} {v : Value} {L : List (List Int)} (f : FreshSB B h w v L) (k : Ins lo hi w w') (hb : hi ≤ B ∨ h ≤ lo) : FreshSB B h w' v L := by
  obtain ⟨vs, h1, h2, h3, h4, h5⟩ := f
  refine ⟨vs, k.row h1 (fun b e => ?_), ⟨h2.len, fun j u l hu hl => k.row (h2.row j u l hu hl) (fun b e => ?_), h2.apart⟩, h3, h4, h5⟩
  · have := World.ownsRow.lt h1 b e
    have := h4 b e
    omega
  · have := World.ownsRow.lt (h2.row j u l hu hl) b e
    have := h5 j u hu b e
    omega
def MarksSB (B h : Nat) (k : Int) (v : Value) (L : List (List Int)) (w : World) (e : Ending) (w' : World) : Prop :=
  e = .returned (.int .i64 (k + (L.map List.length).sum)) ∧ FreshSB B h w' v (markedSS k L L.length) ∧ Ins B h w w'

set_option maxHeartbeats 800000 in
theorem markIntSS_ins (B h : Nat) (v : Value) (L : List (List Int)) (k : Int) (w : World) (hv : FreshSB B h w v L) (hB : B ≤ w.heap.size) (h0 : 0 ≤ k) (hk : k ≤ 1048576) (h1 : bulk L ≤ 1099511627776) :
    Calls Tryz.prog 30 #[v, .int .i64 k] w (MarksSB B h k v L w) := by
  obtain ⟨vs, ho, hR, hout, hund, hunds⟩ := hv
  have HUND := Lib.hid hund
  have HUNDS := Lib.hid hunds
  clear hund hunds
  have hvl := hR.len
  have hL : L.length ≤ 1099511627776 := by unfold bulk at h1; omega
  have hsum : (L.map List.length).sum ≤ 1099511627776 := by unfold bulk at h1; omega
  rcases ho.2 with ⟨rfl, hn⟩ | ⟨g, cap, cur, rfl, hb, hg, hnc, hcm, hcs, htake⟩
  · obtain rfl : L = [] := List.eq_nil_of_length_eq_zero hn
    clear h1 hsum
    go_enter Tryz.func30, Tryz.ntmps30
    go_wp2
    refine wp_loop_rounds 1 ?_; rw [rounds_succ]
    go_wp2
    go_ret
    exact ⟨by simp, FreshSB.nil _ _ _, Ins.refl _ _ _⟩
  · have hout' : ∀ (j : Nat) (u : Value), vs[j]? = some u → u.ownBlock = none ∨ u.ownBlock ≠ some g := hout
    have HOUT := Lib.hid hout'
    have H1 := Lib.hid h1
    have HVL := Lib.hid hvl
    have HSUM := Lib.hid hsum
    clear hg hnc hcm hcs htake cur hb hout hout' h1 hvl hsum
    go_enter Tryz.func30, Tryz.ntmps30
    go_wp2
    go_loopw [1, 5] (fun m i wr => ∃ (j : Nat) (r : Int), j ≤ L.length ∧ i = .int .i64 j ∧ m = .int .i64 r ∧ Hid (r = k + sumTo L j) ∧ wr.ownsRow B 26 1 (.slice (some ⟨g, 0, none⟩) L.length cap) L.length vs ∧ Rows_ B wr vs (markedSS k L j) ∧ Ins B h w wr) (fun _ i _ => L.length - (intOf i).toNat)
    case atStart => exact ⟨0, k, Nat.zero_le _, rfl, rfl, Lib.hid (by simp [sumTo]), ho, by rw [markedSS_zero]; exact hR, Ins.refl _ _ _⟩
    case round =>
      clear ho hR
      obtain ⟨j, r, hj, rfl, rfl, hr, ho, hR, hx⟩ := hrel
      by_cases hlt : j < L.length
      · obtain ⟨z, hz⟩ : ∃ z, vs[j]? = some z := ⟨_, List.getElem?_eq_getElem (by rw [HVL.out]; exact hlt)⟩
        have hc := (ho.cellAt j (by omega)).trans hz
        have hf := hR.row j z _ hz (markedSS_old hlt (Nat.le_refl _))
        have hrow : (L[j]).length ≤ 1099511627776 := by have := bulk_row hlt; have := H1.out; omega
        have hr0 : 0 ≤ r := by have := hr.out; omega
        have hr1 : r ≤ 2199024304128 := by have hq := hr.out; have := sumTo_mono (L := L) (k := j) hj; have := HSUM.out; omega
        have HO := Lib.hid ho
        have HR := Lib.hid hR
        have HZ := Lib.hid hz
        have HX := Lib.hid hx
        have HFF := Lib.hid hf
        clear ho hR hz hx hf
        go_wp2_with fail
        refine (markIntS_any B _ _ _ _ HFF.out hr0 (by omega)).mono ?_
        rintro e w2 ⟨rfl, f2, t2⟩
        have hR2 := HR.out.mark HZ.out t2 (by
          have e := hr.out
          rw [e] at f2
          exact f2)
        rw [markedSS_succ hlt] at hR2
        have ho2 := World.ownsRow.kept HO.out t2 (by
          rcases HOUT.out j z HZ.out with hq | hq
          · exact .inr (by rw [hq]; simp [Value.ownBlock])
          · exact .inr (fun e => hq e.symm))
        have hx2 : Ins B h w w2 := HX.out.trans (Ins.of_grown t2 (fun q hq => ⟨(World.ownsRow.lt HFF.out q hq).1, HUNDS.out j z HZ.out q hq⟩))
        have hs := sumTo_succ hlt
        have HS := Lib.hid hs
        clear f2 t2 hc hs
        go_wp2
        go_roundw
        case rel => exact ⟨j + 1, r + (L[j]).length, by omega, by go_num, rfl, Lib.hid (by have := hr.out; have := HS.out; omega), ho2, hR2, hx2⟩
        case measure => simp [intOf]; omega
      · obtain rfl : j = L.length := by omega
        have HO := Lib.hid ho
        have HR := Lib.hid hR
        clear ho hR
        go_wp2
        go_ret
        refine ⟨?_, ⟨vs, by rw [markedSS_length]; exact HO.out, HR.out, HOUT.out, HUND.out, HUNDS.out⟩, hx⟩
        have hq := hr.out
        rw [sumTo_all] at hq
        rw [hq]; rfl

/-- The argument's box N, the model's answers v3, u3 (below h3), the program's v5 (in [B, C)), u5 (in [C, H)). -/
structure LiveD (w W : World) (N h3 B C H : Nat) (n : Int) (v v3 u3 v5 u5 : Value) (L M L5 M5 : List (List Int)) : Prop where
  ext : Ext w W
  arg : AttrAt W N n v
  s3 : SSI h3 W v3 L
  t3 : SSI h3 W u3 M
  f5 : FreshSB B C W v5 L5
  g5 : FreshSB C H W u5 M5
theorem LiveD.on {w W W' : World} {N h3 B C H : Nat} {n : Int} {v v3 u3 v5 u5 : Value} {L M L5 M5 : List (List Int)} (h : LiveD w W N h3 B C H n v v3 u3 v5 u5 L M L5 M5) (e : Ext W W') : LiveD w W' N h3 B C H n v v3 u3 v5 u5 L M L5 M5 :=
  ⟨h.ext.trans e, h.arg.ext e, h.s3.ext e, h.t3.ext e, h.f5.ext e, h.g5.ext e⟩
theorem LiveD.ins {w W W' : World} {N h3 B C H lo hi : Nat} {n : Int} {v v3 u3 v5 u5 : Value} {L M L5 M5 : List (List Int)} (h : LiveD w W N h3 B C H n v v3 u3 v5 u5 L M L5 M5) (k : Ins lo hi W W')
    (h0 : w.heap.size ≤ lo) (hN : N < lo) (hh : h3 ≤ lo) (hs : h3 ≤ W.heap.size) (hB : hi ≤ B) (hC : B ≤ C) : LiveD w W' N h3 B C H n v v3 u3 v5 u5 L M L5 M5 :=
  ⟨k.ext h.ext h0, h.arg.ins k (.inl hN), h.s3.stood (k.stood hs (.inl hh)), h.t3.stood (k.stood hs (.inl hh)), h.f5.ins k (.inl hB), h.g5.ins k (.inl (Nat.le_trans hB hC))⟩
theorem LiveD.mark1 {w W W' : World} {N h3 B C H : Nat} {n : Int} {v v3 u3 v5 u5 : Value} {L M L5 M5 L6 : List (List Int)} (h : LiveD w W N h3 B C H n v v3 u3 v5 u5 L M L5 M5) (k : Ins B C W W') (f : FreshSB B C W' v5 L6)
    (h0 : w.heap.size ≤ B) (hN : N < B) (hh : h3 ≤ B) (hs : h3 ≤ W.heap.size) : LiveD w W' N h3 B C H n v v3 u3 v5 u5 L M L6 M5 :=
  ⟨k.ext h.ext h0, h.arg.ins k (.inl hN), h.s3.stood (k.stood hs (.inl hh)), h.t3.stood (k.stood hs (.inl hh)), f, h.g5.ins k (.inl (Nat.le_refl _))⟩
theorem LiveD.mark2 {w W W' : World} {N h3 B C H : Nat} {n : Int} {v v3 u3 v5 u5 : Value} {L M L5 M5 M6 : List (List Int)} (h : LiveD w W N h3 B C H n v v3 u3 v5 u5 L M L5 M5) (k : Ins C H W W') (g : FreshSB C H W' u5 M6)
    (h0 : w.heap.size ≤ C) (hN : N < C) (hh : h3 ≤ C) (hs : h3 ≤ W.heap.size) : LiveD w W' N h3 B C H n v v3 u3 v5 u5 L M L5 M6 :=
  ⟨k.ext h.ext h0, h.arg.ins k (.inl hN), h.s3.stood (k.stood hs (.inl hh)), h.t3.stood (k.stood hs (.inl hh)), h.f5.ins k (.inr (Nat.le_refl _)), g⟩

theorem bulk_by {L : List (List Int)} (r : Nat) (h : ∀ l ∈ L, l.length ≤ r) : bulk L ≤ (r + 1) * L.length := by
  unfold bulk
  induction L with
  | nil => simp
  | cons x t ih =>
    have h1 := h x (by simp)
    have h2 := ih (fun l hl => h l (by simp [hl]))
    simp only [List.map_cons, List.sum_cons, List.length_cons] at h2 ⊢
    rw [Nat.mul_add]
    omega

end Go.Proofs.YtcpmfcigciknlaaGreat

namespace Go.Proofs.YtcpmfcigciknlaaGreat
open Go.RowKit Go.Maps
set_option linter.unusedVariables false

theorem PairsAt.form {w : World} {v : Value} {vs : List Value} {L : List (Nat × Nat)} (h : PairsAt w v vs L) : ∃ a c, v = .slice a vs.length c := by
  rcases h.reads with ⟨rfl, rfl⟩ | ⟨b, off, cap, rfl, _⟩
  · exact ⟨none, 0, rfl⟩
  · exact ⟨_, cap, rfl⟩
theorem readyL_take {n : Int} {T : List (List RowD)} {j : Nat} {x : Nat × Nat} (hx : (insts T)[j]? = some x) : ((insts T).take (j + 1)).filter (fun x => readyB n T x.1 x.2) = ((insts T).take j).filter (fun x => readyB n T x.1 x.2) ++ if readyB n T x.1 x.2 then [x] else [] := by
  rw [List.take_add_one, hx, List.filter_append]
  congr 1
  cases h : readyB n T x.1 x.2 <;> simp [h]

set_option maxHeartbeats 8000000 in
set_option maxRecDepth 100000 in
theorem l6Ready_any (n : Int) (u : Value) (T : List (List RowD)) (w : World) (hu : Rowzz w u T) (hg : goodTab n T = true) :
    Calls Tryz.prog 92 #[.agg #[.int .i64 n, u]] w (fun e w' => ∃ v vs, e = .returned v ∧ PairsAt w' v vs (readyL n T) ∧ Ext w w') := by
  have H56 := Lib.hid (goodTab_both hg)
  have HG := Lib.hid hg
  have HU := Lib.hid hu
  have hx0 := Ext.alloc1 w (.cells #[.int .i64 n, u] 32)
  have b0 := attrAt_new w 32 n u
  obtain ⟨au, cu, rfl, hlu, _, _⟩ := hu
  clear hg
  go_enter Tryz.func92, Tryz.ntmps92
  go_wp2_with fail
  refine (l4Committed_any n _ T _ (HU.out.ext hx0) H56.out.1 H56.out.2).mono ?_
  rintro e W ⟨v1, rfl, f1, x1⟩
  have HB := Lib.hid (b0.ext x1)
  have XW := Lib.hid (hx0.trans x1)
  have f1' : FreshSS w.heap.size W v1 ((insts T).map pairOf) := by
    have h := f1.more hx0.size
    rw [allTo_insts] at h
    exact h
  obtain ⟨vs, fv, rv⟩ := f1'.vals
  have hvl : vs.length = (insts T).length := by rw [rv.len, List.length_map]
  have HV : Hid (FreshV w.heap.size W v1 vs) := Lib.hid fv
  have HRV : Hid (PRows w.heap.size W vs (insts T)) := Lib.hid ⟨hvl, fun j u x hu hx => rv.row j u _ hu (by rw [List.getElem?_map, hx]; rfl)⟩
  obtain ⟨a1, k1, rfl, hl1, hcap1, hc1⟩ := f1'.intss
  rw [pairs_len] at hl1 hcap1 HV ⊢
  have HSH := Lib.hid (insts_short HG.out)
  obtain ⟨m, hm⟩ : ∃ m, m = (insts T).length := ⟨_, rfl⟩
  rw [← hm] at hl1 hcap1 HV ⊢
  unfold maxLen at hl1
  have HM := Lib.hid hm
  have HVL : Hid (vs.length = m) := Lib.hid (by rw [hvl, hm])
  have hm30 : m ≤ 30 := by rw [hm]; exact HSH.out
  clear f1 f1' hx0 x1 b0 hc1 hm fv rv hvl
  go_wp2
  go_loopw [3, 9] (fun o i wr => ∃ (j : Nat) (os : List Value), j ≤ m ∧ i = .int .i64 j ∧ Hid (FreshV W.heap.size wr o os) ∧ Hid (PRows w.heap.size W os (((insts T).take j).filter fun x => readyB n T x.1 x.2)) ∧ Hid (Ext W wr)) (fun _ i _ => m - (intOf i).toNat)
  case atStart => exact ⟨0, [], Nat.zero_le _, rfl, Lib.hid (FreshV.nil _ _), Lib.hid (by simpa using PRows.nil _ _), Lib.hid (Ext.refl _)⟩
  case round =>
    obtain ⟨j, os, hj, rfl, HF, HO, HX⟩ := hrel
    by_cases hlt : j < m
    · have hjl : j < (insts T).length := by rw [← HM.out]; exact hlt
      obtain ⟨x, hx⟩ : ∃ x, (insts T)[j]? = some x := ⟨_, List.getElem?_eq_getElem hjl⟩
      obtain ⟨xv, hxv⟩ : ∃ xv, vs[j]? = some xv := ⟨_, List.getElem?_eq_getElem (by rw [HVL.out]; exact hlt)⟩
      obtain ⟨g1, k1', hvd, _, _⟩ := HV.out.big (by rw [HVL.out]; omega)
      simp only [Value.slice.injEq] at hvd
      obtain ⟨rfl, hvn, hvk⟩ := hvd
      subst hvk
      clear hvn
      have gx := HX.out.cell (HV.out.at HVL.out hxv)
      have HXF0 := Lib.hid (HRV.out.2 j xv x hxv hx)
      have HXF := Lib.hid (HXF0.out.ext HX.out)
      obtain ⟨bx, ox, cx, rfl, x0, x1⟩ := pair_at HXF.out.ints
      have hxc : instCom T x.1 x.2 = true := mem_insts.1 (List.mem_of_getElem? hx)
      have HXC := Lib.hid hxc
      have HXX := Lib.hid hx
      have hbx := HB.out.ext HX.out
      have ks : ∀ V, Ext wr V → Ext wr V ∧ V.cell? ⟨w.heap.size, 0, none⟩ = some (.int .i64 n) ∧ V.cell? ⟨w.heap.size, 1, none⟩ = some (.slice au T.length cu) ∧ V.cell? ⟨bx, ox, none⟩ = some (.int .i64 x.1) ∧ V.cell? ⟨bx, ox + 1, none⟩ = some (.int .i64 ((x.2 : Int) + 1)) := fun V hV => ⟨hV, hV.cell hbx.1, hV.cell hbx.2, hV.cell x0, hV.cell x1⟩
      have KS := Lib.hid ks
      have HR := Lib.hid (Ext.drew (Ext.refl wr))
      have cB : ∀ V, Ext wr V → Calls Tryz.prog 134 #[.agg #[.int .i64 n, .slice au T.length cu], .int .i64 x.1, .int .i64 ((x.2 : Int) + 1)] V (BlkR n T (x.1, x.2) V) := fun V hV => l6Blockers_any n _ T x.1 x.2 _ (HU.out.ext (XW.out.trans (HX.out.trans hV))) HG.out hxc
      have CB := Lib.hid cB
      clear x0 x1 hx hxv hxc hbx ks cB
      go_wp2_with fail
      go_region_held3 (fun V => Ext wr V ∧ V.cell? ⟨w.heap.size, 0, none⟩ = some (.int .i64 n) ∧ V.cell? ⟨w.heap.size, 1, none⟩ = some (.slice au T.length cu) ∧ V.cell? ⟨bx, ox, none⟩ = some (.int .i64 x.1) ∧ V.cell? ⟨bx, ox + 1, none⟩ = some (.int .i64 ((x.2 : Int) + 1))) (first | (with_reducible exact KS.out _ HR.out) | (with_reducible exact KS.out _ SS.out)) (first | (go_at_call 134; refine (CB.out _ (And.left (by with_reducible assumption))).mono ?_; rintro e W3 ⟨vd, ds, s', i', rfl, hpa, hbi, hi', hbb, x3⟩; obtain ⟨ad, kd, rfl⟩ := hpa.form; have SS := Lib.hid (Ext.trans (And.left (by with_reducible assumption)) x3)))
      have hrd : readyB n T x.1 x.2 = decide (ds.length = 0) := by
        rw [Bool.eq_iff_iff, readyB_iff, decide_eq_true_iff]
        have h1 := hbi.ready hi'
        have h2 := hpa.len
        constructor
        · intro h
          rw [h2, h1.2 h]; rfl
        · intro h
          exact h1.1 (List.eq_nil_of_length_eq_zero (by omega))
      obtain ⟨l0, hl0⟩ : ∃ l0, l0 = ds.length := ⟨_, rfl⟩
      have hl31 : l0 ≤ 30 := by rw [hl0, hpa.len]; exact hbb.few.2
      rw [← hl0] at hrd ⊢
      have HXW := Lib.hid (HX.out.trans SS.out)
      have HF3 := Lib.hid (HF.out.ext SS.out)
      have HTK := Lib.hid (readyL_take (n := n) HXX.out)
      have HXV : Hid (Fresh w.heap.size W (.slice (some ⟨bx, ox, none⟩) 2 cx) (pairOf x)) := HXF0
      clear hpa hbi hi' hbb x3 KS CB HR hl0 gx HXF SS HX HF
      by_cases h0 : l0 = 0
      · subst h0
        have HRD : Hid (readyB n T x.1 x.2 = true) := Lib.hid (by rw [hrd]; rfl)
        have HLL : Hid (os.length ≤ 1048576) := Lib.hid (by
          have h1 := HO.out.1
          have h2 := List.length_filter_le (fun x : Nat × Nat => readyB n T x.1 x.2) ((insts T).take j)
          have h3 := HSH.out
          rw [List.length_take] at h2
          omega)
        have HSZ : Hid (W.heap.size ≤ (W3.alloc (.cells #[.slice (some ⟨bx, ox, none⟩) 2 cx] 26)).heap.size) := Lib.hid (HXW.out.alloc _).size
        have HF4 := Lib.hid (HF3.out.ext (Ext.alloc1 W3 (.cells #[.slice (some ⟨bx, ox, none⟩) 2 cx] 26)))
        clear hrd hl31 HF3
        go_wp2_with (at_builtin; refine wpList_pushV rfl _ _ rfl W.heap.size _ os rfl HF4.out (.slice (some ⟨bx, ox, none⟩) 2 cx) ⟨W3.heap.size, 0, none⟩ 1 rfl (cell_alloc_one _ _ _) rfl HLL.out HSZ.out ?_)
        intro v5 w5 f5 g5 k5
        have F5 := Lib.hid f5
        have X5 := Lib.hid (k5 W (HXW.out.alloc _) (Nat.le_refl _))
        have HON := Lib.hid (HO.out.snoc HXV.out)
        clear f5 g5 k5 HF4 HLL HSZ
        go_wp2
        go_roundw
        case rel => exact ⟨j + 1, _, by omega, by go_num, F5, Lib.hid (by rw [HTK.out, HRD.out, if_pos rfl]; exact HON.out), X5⟩
        case measure => simp [intOf]; omega
      · have HRD : Hid (readyB n T x.1 x.2 = false) := Lib.hid (by rw [hrd]; exact decide_eq_false h0)
        have ne : ((l0 : Int) == 0) = false := by simpa using h0
        clear hrd h0
        go_wp2
        go_roundw
        case rel => exact ⟨j + 1, os, by omega, by go_num, HF3, Lib.hid (by rw [HTK.out, HRD.out]; simpa using HO.out), HXW⟩
        case measure => simp [intOf]; omega
    · obtain rfl : j = m := by omega
      have HE : Hid (PRows w.heap.size wr os (readyL n T)) := Lib.hid (by
        have h := HO.out.ext HX.out
        rw [HM.out, List.take_length] at h
        exact h)
      have FE := Lib.hid HF.out
      have XE := Lib.hid (XW.out.trans HX.out)
      clear HO HF HX
      go_wp2
      go_ret
      exact ⟨_, os, rfl, PRows.at (FE.out.more XW.out.size) HE.out, XE.out⟩

theorem readyR_bulk (n : Int) (T : List (List RowD)) : bulk (readyR n T) ≤ 1000 := by
  unfold readyR
  cases hg : goodTab n T with
  | false => simp [bulk]
  | true =>
    have h1 := readyL_short hg
    have h2 := bulk_by (L := (readyL n T).map pairOf) 2 (fun l hl => by
      obtain ⟨x, _, rfl⟩ := List.mem_map.1 hl
      simp [pairOf])
    rw [List.length_map] at h2
    simp only [if_true]
    omega
end Go.Proofs.YtcpmfcigciknlaaGreat
