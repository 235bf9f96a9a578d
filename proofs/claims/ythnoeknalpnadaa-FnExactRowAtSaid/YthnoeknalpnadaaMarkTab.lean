/- Contracts of the laws' marks in tables. -/
import Derived.Test.YthnoeknalpnadaaMarkRow
namespace Go.Proofs.Ythnoeknalpnadaa
open Go.RowKit
set_option linter.unusedVariables false

def weighs (T : List (List RowD)) : List Nat := T.map fun R => (weigh R).sum
theorem weighs_len (T : List (List RowD)) : (weighs T).length = T.length := by simp [weighs]
theorem weighs_get {T : List (List RowD)} {k : Nat} (h : k < T.length) : (weighs T)[k]'(by rw [weighs_len]; exact h) = (weigh T[k]).sum := by simp [weighs]
theorem weighs_sum (T : List (List RowD)) : (weighs T).sum ≤ 10 * bulkT T := by
  unfold weighs bulkT
  induction T with
  | nil => simp
  | cons R T ih =>
    have := weigh_sum R
    simp at ih ⊢; omega

/-- So many marks were laid, and nothing else has turned. -/
def Marked (lo hi : Nat) (k : Int) (n : Nat) (w : World) (e : Ending) (w' : World) : Prop := e = .returned (.int .i64 (k + n)) ∧ Ins lo hi w w'

set_option maxHeartbeats 4000000 in
set_option maxRecDepth 100000 in
theorem markRowSS_any (lo hi : Nat) (v : Value) (T : List (List RowD)) (k : Int) (w : World) (hv : FreshT lo hi w v T) (h0 : 0 ≤ k) (hk : k ≤ 1048576) (h1 : bulkT T ≤ 10995116277) :
    Calls Try.prog 109 #[v, .int .i64 k] w (Marked lo hi k (weighs T).sum w) := by
  obtain ⟨vs, cut, ho, hU, hcut, hc0, hcn, hF⟩ := hv
  have hvl : vs.length = T.length := by have := ho.1; omega
  have hws := weighs_sum T
  rcases ho.2 with ⟨rfl, hn⟩ | ⟨g, cap, cur, rfl, hb, hg, hnc, hcm, hcs, htake⟩
  · obtain rfl : T = [] := List.eq_nil_of_length_eq_zero hn
    clear h1 hws
    go_enter Try.func109, Try.ntmps109
    go_wp2
    refine wp_loop_rounds 1 ?_; rw [rounds_succ]
    go_wp2
    go_ret
    exact ⟨by simp [weighs], Ins.refl _ _ _⟩
  · have hgc : g < cut 0 := hU g rfl
    have hm := cut_mono hcut
    have hfr : Hid (∀ i (h : i < T.length) (h' : i < vs.length), 0 ≤ i → FreshI (cut i) (cut (i + 1)) w vs[i] T[i]) := Lib.hid fun i h h' _ => hF i h h'
    have HM := Lib.hid hm
    have HGC := Lib.hid hgc
    have HC0 := Lib.hid hc0
    have HCN := Lib.hid hcn
    have HVL := Lib.hid hvl
    have HWS := Lib.hid hws
    have H1 := Lib.hid h1
    have hLen : T.length ≤ 1099511627776 := by unfold bulkT at h1; omega
    clear hg hnc hcm hcs htake cur hb hU hcut hF hm hgc hc0 hcn hvl hws h1
    go_enter Try.func109, Try.ntmps109
    go_wp2
    go_loopw [1, 5] (fun m i wr => ∃ (j : Nat) (r : Int), j ≤ T.length ∧ i = .int .i64 j ∧ m = .int .i64 r ∧ Hid (r = k + sumN (weighs T) j) ∧ wr.ownsRow lo 42 1 (.slice (some ⟨g, 0, none⟩) T.length cap) T.length vs ∧ Hid (∀ i (h : i < T.length) (h' : i < vs.length), j ≤ i → FreshI (cut i) (cut (i + 1)) wr vs[i] T[i]) ∧ Ins lo hi w wr) (fun _ i _ => T.length - (intOf i).toNat)
    case atStart => exact ⟨0, k, Nat.zero_le _, rfl, rfl, Lib.hid (by rw [sumN_zero]; simp), ho, hfr, Ins.refl _ _ _⟩
    case round =>
      clear ho hfr
      obtain ⟨j, r, hj, rfl, rfl, hr, ho, hF, hI⟩ := hrel
      by_cases hlt : j < T.length
      · have hjv : j < vs.length := by rw [HVL.out]; exact hlt
        obtain ⟨d, hd⟩ : ∃ d, d = T[j] := ⟨_, rfl⟩
        obtain ⟨u, hu⟩ : ∃ u, u = vs[j] := ⟨_, rfl⟩
        have hf := hF.out j hlt hjv (Nat.le_refl _)
        rw [← hd, ← hu] at hf
        have hlen : bulkR d ≤ 1099511627776 := by rw [hd]; have := bulkT_row hlt; have := H1.out; omega
        have hr0 : 0 ≤ r := by have := hr.out; omega
        have hr1 : r ≤ 1099511627776 := by
          have h := hr.out
          have h2 := sumN_mono (g := weighs T) (k := j) (by rw [weighs_len]; omega)
          have := HWS.out; have := H1.out; omega
        have hwd := weigh_sum d
        have hc := (ho.cellAt j (by omega)).trans (List.getElem?_eq_getElem hjv)
        rw [← hu] at hc
        have HO := Lib.hid ho
        have HFF := Lib.hid hf
        have HD := Lib.hid hd
        have HU := Lib.hid hu
        clear ho hf hd hu
        go_wp2_with fail
        refine (markRowS_any (cut j) (cut (j + 1)) _ d _ _ HFF.out hr0 hr1 hlen).mono ?_
        rintro e w3 ⟨rfl, t3⟩
        have T3 := Lib.hid t3
        have hs := sumN_succ (g := weighs T) (k := j) (by rw [weighs_len]; exact hlt)
        rw [weighs_get hlt, ← HD.out] at hs
        have HS := Lib.hid hs
        clear t3 hs hc
        obtain ⟨q, hq⟩ : ∃ q, q = r + ((weigh d).sum : Int) := ⟨_, rfl⟩
        have hq0 : 0 ≤ q := by omega
        rw [← hq]
        have HQ := Lib.hid hq
        clear hq
        go_wp2
        go_roundw
        case rel =>
          have m1 := HM.out 0 j (by omega) (by omega)
          have m2 := HM.out (j + 1) T.length (by omega) (Nat.le_refl _)
          have m3 := HGC.out
          have m4 := HC0.out
          have m5 := HCN.out
          refine ⟨j + 1, q, by omega, by go_num, rfl, Lib.hid (by have h1 := hr.out; have h2 := HS.out; have h3 := HQ.out; omega), T3.out.row HO.out (fun b e => .inl (by have := Option.some.inj e; simp at this; omega)), Lib.hid fun i h h' hij => ?_, hI.trans (T3.out.more (by omega) (by omega))⟩
          obtain ⟨zs, us, q1, q2, q3, q4, q5, q6⟩ := hF.out i h h' (by omega)
          have m6 := HM.out (j + 1) i (by omega) (by omega)
          refine ⟨zs, us, T3.out.row q1 (fun b e => .inr (by have := (World.ownsRow.lt q1 b e).1; omega)), q2, ⟨q3.len, fun a z l hz hl => T3.out.row (q3.row a z l hz hl) (fun b e => .inr (by have := (World.ownsRow.lt (q3.row a z l hz hl) b e).1; omega)), q3.apart⟩, q4, q5, q6⟩
        case measure => simp [intOf]; omega
      · obtain rfl : j = T.length := by omega
        go_wp2
        go_ret
        refine ⟨?_, hI⟩
        have h := hr.out
        have h2 := sumN_all (weighs T)
        rw [weighs_len] at h2
        rw [h2] at h
        rw [h]; rfl

set_option maxHeartbeats 1000000 in
theorem markTable_any (lo hi : Nat) (n : Int) (v : Value) (T : List (List RowD)) (k : Int) (w : World) (hv : FreshT lo hi w v T) (hhi : hi ≤ w.heap.size) (h0 : 0 ≤ k) (hk : k ≤ 1048576) (h1 : bulkT T ≤ 10995116277) :
    Calls Try.prog 44 #[.agg #[.int .i64 n, v], .int .i64 k] w (Marked lo hi k (weighs T).sum w) := by
  have hws := weighs_sum T
  have hq0 : 0 ≤ k + ((weighs T).sum : Int) := by omega
  have HX : Hid (Ins lo hi w (w.alloc (.cells #[.int .i64 n, v] 24))) := Lib.hid (Ins.of_ext (Ext.alloc (Ext.refl _) _))
  have HV := Lib.hid (hv.kept (Stood.of_ext (Ext.alloc (Ext.refl _) (.cells #[.int .i64 n, v] 24)) hhi))
  have H1 := Lib.hid h1
  clear hws hv h1
  go_enter Try.func44, Try.ntmps44
  go_wp2_with fail
  refine (markRowSS_any lo hi _ T _ _ HV.out h0 hk H1.out).mono ?_
  rintro e w1 ⟨rfl, t1⟩
  have T1 := Lib.hid t1
  clear t1
  go_wp2
  go_ret
  exact ⟨rfl, HX.out.trans T1.out⟩

end Go.Proofs.Ythnoeknalpnadaa
