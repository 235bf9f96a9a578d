/- Texts of this proof, part h: words, plain facts, contracts. -/
import Derived.Test.YthnoeknalpnadaaMAttrForc
import Derived.Test.YthnoeknalpnadaaMAttrFord

namespace Go.Proofs.Ythnoeknalpnadaa
open Go.RowKit
set_option linter.unusedVariables false

def lensR (R : List RowD) : List Nat := R.map fun r => r.l.length
theorem lensR_len (R : List RowD) : (lensR R).length = R.length := by simp [lensR]
theorem lensR_get {R : List RowD} {k : Nat} (h : k < R.length) : (lensR R)[k]'(by rw [lensR_len]; exact h) = R[k].l.length := by simp [lensR]

set_option maxHeartbeats 1000000 in
theorem szRowS_any (v : Value) (R : List RowD) (left : Int) (w : World) (hv : Rowz w v R) (h0 : 0 ≤ left) (h1 : left ≤ 1099511627776) :
    Calls Try.prog 20 #[v, .int .i64 left] w (IntExt (lessened left (bulkR R)) w) := by
  obtain ⟨av, cv, rfl, hlv, _, hcv⟩ := hv
  unfold maxLen at hlv
  have hb : bulkR R = R.length + (lensR R).sum := rfl
  by_cases hlt : left < R.length
  · rw [lessened_no (by omega)]
    clear hb hcv
    go_enter Try.func20, Try.ntmps20
    go_wp2
    go_ret
    exact ⟨rfl, Ext.refl _⟩
  · have HBK := Lib.hid hb
    have hle : (R.length : Int) ≤ left := by omega
    clear hb hlt
    go_enter Try.func20, Try.ntmps20
    go_wp2
    go_loopw [1, 5] (fun m i wr => ∃ (k : Nat) (r : Int), k ≤ R.length ∧ i = .int .i64 k ∧ m = .int .i64 r ∧ 0 ≤ r ∧ Hid (r = left - R.length - sumN (lensR R) k) ∧ Ext w wr) (fun _ i _ => R.length - (intOf i).toNat)
    case atStart => exact ⟨0, left - R.length, Nat.zero_le _, rfl, rfl, by omega, Lib.hid (by rw [sumN_zero]; simp), Ext.refl _⟩
    case round =>
      obtain ⟨k, r, hk, rfl, rfl, hr0, hr, hx⟩ := hrel
      have hr1 : r ≤ 1099511627776 := by have := hr.out; omega
      by_cases hlt : k < R.length
      · obtain ⟨b, off, rfl, dv⟩ := hcv (by omega)
        obtain ⟨u, hu, iu⟩ := dv k hlt
        have hs := sumN_succ (g := lensR R) (k := k) (by rw [lensR_len]; exact hlt)
        rw [lensR_get hlt] at hs
        obtain ⟨d, hd⟩ : ∃ d, d = R[k] := ⟨_, rfl⟩
        rw [← hd] at hu iu hs
        obtain ⟨c0, c1, c2, c3, c4, c5, c6, c7, c8, c9⟩ := hu.ext hx
        have IU := Lib.hid (iu.ext hx)
        have HS := Lib.hid hs
        clear hcv dv hu iu hs hd
        by_cases hl : r < d.l.length
        · have L := Lib.hid (lessened_no hl)
          have hsum := sumN_mono (g := lensR R) (k := k + 1) (by rw [lensR_len]; omega)
          have HL := Lib.hid (show lessened left (bulkR R) = -1 from lessened_no (by have h1 := hr.out; have h2 := HS.out; have h3 := HBK.out; omega))
          clear hl hsum
          go_wp2_with fail
          refine (szRow_any d _ _ _ IU.out hr0 (by omega)).mono ?_
          rintro e w2 ⟨rfl, x2⟩
          have hx2 := hx.trans x2
          clear x2 hx c0 c1 c2 c3 c4 c5 c6 c7 c8 c9
          rw [L.out]
          go_wp2
          go_ret
          exact ⟨by rw [HL.out]; rfl, hx2⟩
        · obtain ⟨q, hq⟩ : ∃ q, q = r - (d.l.length : Int) := ⟨_, rfl⟩
          have hq0 : 0 ≤ q := by omega
          have L : Hid (lessened r d.l.length = q) := Lib.hid (by rw [hq]; exact lessened_yes (by omega))
          have HQ := Lib.hid hq
          clear hl hq
          go_wp2_with fail
          refine (szRow_any d _ _ _ IU.out hr0 (by omega)).mono ?_
          rintro e w2 ⟨rfl, x2⟩
          have hx2 := hx.trans x2
          clear x2 hx c0 c1 c2 c3 c4 c5 c6 c7 c8 c9
          rw [L.out]
          go_wp2
          go_roundw
          case rel => exact ⟨k + 1, q, by omega, by go_num, rfl, hq0, Lib.hid (by have h1 := hr.out; have h2 := HS.out; have h3 := HQ.out; omega), hx2⟩
          case measure => simp [intOf]; omega
      · obtain rfl : k = R.length := by omega
        go_wp2
        go_ret
        refine ⟨?_, hx⟩
        have h1 := hr.out
        have h3 := HBK.out
        have h4 := sumN_all (lensR R)
        rw [lensR_len] at h4
        have he : lessened left (bulkR R) = r := by rw [lessened_yes (by omega)]; omega
        rw [he]; rfl

def bulks (T : List (List RowD)) : List Nat := T.map bulkR
theorem bulks_len (T : List (List RowD)) : (bulks T).length = T.length := by simp [bulks]
theorem bulks_get {T : List (List RowD)} {k : Nat} (h : k < T.length) : (bulks T)[k]'(by rw [bulks_len]; exact h) = bulkR T[k] := by simp [bulks]

set_option maxHeartbeats 1000000 in
theorem szRowSS_any (v : Value) (T : List (List RowD)) (left : Int) (w : World) (hv : Rowzz w v T) (h0 : 0 ≤ left) (h1 : left ≤ 1099511627776) :
    Calls Try.prog 101 #[v, .int .i64 left] w (IntExt (lessened left (bulkT T)) w) := by
  obtain ⟨av, cv, rfl, hlv, _, hcv⟩ := hv
  unfold maxLen at hlv
  have hb : bulkT T = T.length + (bulks T).sum := rfl
  by_cases hlt : left < T.length
  · rw [lessened_no (by omega)]
    clear hb hcv
    go_enter Try.func101, Try.ntmps101
    go_wp2
    go_ret
    exact ⟨rfl, Ext.refl _⟩
  · have HBK := Lib.hid hb
    have hle : (T.length : Int) ≤ left := by omega
    clear hb hlt
    go_enter Try.func101, Try.ntmps101
    go_wp2
    go_loopw [1, 5] (fun m i wr => ∃ (k : Nat) (r : Int), k ≤ T.length ∧ i = .int .i64 k ∧ m = .int .i64 r ∧ 0 ≤ r ∧ Hid (r = left - T.length - sumN (bulks T) k) ∧ Ext w wr) (fun _ i _ => T.length - (intOf i).toNat)
    case atStart => exact ⟨0, left - T.length, Nat.zero_le _, rfl, rfl, by omega, Lib.hid (by rw [sumN_zero]; simp), Ext.refl _⟩
    case round =>
      obtain ⟨k, r, hk, rfl, rfl, hr0, hr, hx⟩ := hrel
      have hr1 : r ≤ 1099511627776 := by have := hr.out; omega
      by_cases hlt : k < T.length
      · obtain ⟨b, off, rfl, dv⟩ := hcv (by omega)
        obtain ⟨u, hu, iu⟩ := dv k hlt
        have hs := sumN_succ (g := bulks T) (k := k) (by rw [bulks_len]; exact hlt)
        rw [bulks_get hlt] at hs
        obtain ⟨d, hd⟩ : ∃ d, d = T[k] := ⟨_, rfl⟩
        rw [← hd] at iu hs
        have c0 := hx.cell hu
        have IU := Lib.hid (iu.ext hx)
        have HS := Lib.hid hs
        clear hcv dv hu iu hs hd
        by_cases hl : r < bulkR d
        · have L := Lib.hid (lessened_no hl)
          have hsum := sumN_mono (g := bulks T) (k := k + 1) (by rw [bulks_len]; omega)
          have HL := Lib.hid (show lessened left (bulkT T) = -1 from lessened_no (by have h1 := hr.out; have h2 := HS.out; have h3 := HBK.out; omega))
          clear hl hsum
          go_wp2_with fail
          refine (szRowS_any _ d _ _ IU.out hr0 (by omega)).mono ?_
          rintro e w2 ⟨rfl, x2⟩
          have hx2 := hx.trans x2
          clear x2 hx c0
          rw [L.out]
          go_wp2
          go_ret
          exact ⟨by rw [HL.out]; rfl, hx2⟩
        · obtain ⟨q, hq⟩ : ∃ q, q = r - (bulkR d : Int) := ⟨_, rfl⟩
          have hq0 : 0 ≤ q := by omega
          have L : Hid (lessened r (bulkR d) = q) := Lib.hid (by rw [hq]; exact lessened_yes (by omega))
          have HQ := Lib.hid hq
          clear hl hq
          go_wp2_with fail
          refine (szRowS_any _ d _ _ IU.out hr0 (by omega)).mono ?_
          rintro e w2 ⟨rfl, x2⟩
          have hx2 := hx.trans x2
          clear x2 hx c0
          rw [L.out]
          go_wp2
          go_roundw
          case rel => exact ⟨k + 1, q, by omega, by go_num, rfl, hq0, Lib.hid (by have h1 := hr.out; have h2 := HS.out; have h3 := HQ.out; omega), hx2⟩
          case measure => simp [intOf]; omega
      · obtain rfl : k = T.length := by omega
        go_wp2
        go_ret
        refine ⟨?_, hx⟩
        have h1 := hr.out
        have h3 := HBK.out
        have h4 := sumN_all (bulks T)
        rw [bulks_len] at h4
        have he : lessened left (bulkT T) = r := by rw [lessened_yes (by omega)]; omega
        rw [he]; rfl

set_option maxHeartbeats 1000000 in
theorem szTable_any (n : Int) (u : Value) (T : List (List RowD)) (left : Int) (w : World) (hv : Rowzz w u T) (h0 : 0 ≤ left) (h1 : left ≤ 1099511627776) :
    Calls Try.prog 36 #[.agg #[.int .i64 n, u], .int .i64 left] w (IntExt (lessened left (bulkT T)) w) := by
  have HB := attrAt_new w 52 n u
  by_cases hlt : left < bulkT T
  · have L := Lib.hid (lessened_no hlt)
    clear hlt
    go_enter Try.func36, Try.ntmps36
    go_wp2_with fail
    refine (szRowSS_any _ _ _ _ (hv.ext (Ext.alloc (Ext.refl _) _)) h0 h1).mono ?_
    rintro e w1 ⟨rfl, x1⟩
    have hx := (Ext.alloc (Ext.refl w) _).trans x1
    clear x1 HB
    rw [L.out]
    go_wp2
    go_ret
    exact ⟨by rw [L.out]; rfl, hx⟩
  · obtain ⟨q, hq⟩ : ∃ q, q = left - (bulkT T : Int) := ⟨_, rfl⟩
    have hq0 : 0 ≤ q := by omega
    have LR : Hid (lessened left (bulkT T) = q) := Lib.hid (by rw [hq]; exact lessened_yes (by omega))
    clear hlt hq
    rw [LR.out]
    go_enter Try.func36, Try.ntmps36
    go_wp2_with fail
    refine (szRowSS_any _ _ _ _ (hv.ext (Ext.alloc (Ext.refl _) _)) h0 h1).mono ?_
    rintro e w1 ⟨rfl, x1⟩
    have hx := (Ext.alloc (Ext.refl w) _).trans x1
    clear x1 HB
    rw [LR.out]
    go_wp2
    go_ret
    exact ⟨rfl, hx⟩

end Go.Proofs.Ythnoeknalpnadaa

namespace Go.Proofs.Ythnoeknalpnadaa
open Go.RowKit
set_option linter.unusedVariables false

/-- How many marks rows bear. -/
def weigh (R : List RowD) : List Nat := R.map fun r => 9 + r.l.length
theorem weigh_len (R : List RowD) : (weigh R).length = R.length := by simp [weigh]
theorem weigh_get {R : List RowD} {k : Nat} (h : k < R.length) : (weigh R)[k]'(by rw [weigh_len]; exact h) = 9 + R[k].l.length := by simp [weigh]
theorem weigh_sum (R : List RowD) : (weigh R).sum ≤ 10 * bulkR R := by
  unfold weigh bulkR
  induction R with
  | nil => simp
  | cons r R ih => simp at ih ⊢; omega

set_option maxHeartbeats 4000000 in
set_option maxRecDepth 100000 in
theorem markRowS_any (lo hi : Nat) (v : Value) (R : List RowD) (k : Int) (w : World) (hv : FreshI lo hi w v R) (h0 : 0 ≤ k) (hk : k ≤ 1099511627776) (h1 : bulkR R ≤ 1099511627776) :
    Calls Try.prog 27 #[v, .int .i64 k] w (fun e w' => e = .returned (.int .i64 (k + (weigh R).sum)) ∧ Ins lo hi w w') := by
  obtain ⟨xs, us, ho, hC, hR, hout, hU, hUs⟩ := hv
  have hul : us.length = R.length := by have := hR.len; simpa using this
  have hws := weigh_sum R
  rcases ho.2 with ⟨rfl, hn⟩ | ⟨g, cap, cur, rfl, hb, hg, hnc, hcm, hcs, htake⟩
  · obtain rfl : R = [] := List.eq_nil_of_length_eq_zero hn
    clear h1 hws
    go_enter Try.func27, Try.ntmps27
    go_wp2
    refine wp_loop_rounds 1 ?_; rw [rounds_succ]
    go_wp2
    go_ret
    exact ⟨by simp [weigh], Ins.refl _ _ _⟩
  · have hout' : ∀ (j : Nat) (u : Value), us[j]? = some u → u.ownBlock = none ∨ u.ownBlock ≠ some g := hout
    have hgi : lo ≤ g ∧ g < hi := ⟨hb, hU g rfl⟩
    have hfr : Hid (∀ i (h : i < R.length) (h' : i < us.length), 0 ≤ i → Fresh lo w us[i] R[i].l) := Lib.hid fun i h h' _ => hR.row i _ _ (List.getElem?_eq_getElem h') (by simp [List.getElem?_eq_getElem h])
    have hxr : Hid (∀ i (h : i < R.length) (h' : i < us.length), 0 ≤ i → XRow xs (i * 10) R[i] us[i]) := Lib.hid fun i h h' _ => hC i h h'
    have HOUT := Lib.hid hout'
    have HAP := Lib.hid hR.apart
    have HUS := Lib.hid hUs
    have HUL := Lib.hid hul
    have HWS := Lib.hid hws
    have HGI := Lib.hid hgi
    have H1 := Lib.hid h1
    have hLen : R.length ≤ 1099511627776 := by unfold bulkR at h1; omega
    clear hg hnc hcm hcs htake cur hb hout hout' hU hUs hul hR hC hws hgi h1
    go_enter Try.func27, Try.ntmps27
    go_wp2
    go_loopw [1, 5] (fun m i wr => ∃ (j : Nat) (r : Int) (ys : List Value), j ≤ R.length ∧ i = .int .i64 j ∧ m = .int .i64 r ∧ Hid (r = k + sumN (weigh R) j) ∧ wr.ownsRow lo 71 10 (.slice (some ⟨g, 0, none⟩) R.length cap) R.length ys ∧ Hid (∀ i (h : i < R.length) (h' : i < us.length), j ≤ i → Fresh lo wr us[i] R[i].l) ∧ Hid (∀ i (h : i < R.length) (h' : i < us.length), j ≤ i → XRow ys (i * 10) R[i] us[i]) ∧ Ins lo hi w wr) (fun _ i _ => R.length - (intOf i).toNat)
    case atStart => exact ⟨0, k, xs, Nat.zero_le _, rfl, rfl, Lib.hid (by rw [sumN_zero]; simp), ho, hfr, hxr, Ins.refl _ _ _⟩
    case round =>
      clear ho hfr hxr
      obtain ⟨j, r, ys, hj, rfl, rfl, hr, ho, hF, hX, hI⟩ := hrel
      by_cases hlt : j < R.length
      · have hju : j < us.length := by rw [HUL.out]; exact hlt
        obtain ⟨d, hd⟩ : ∃ d, d = R[j] := ⟨_, rfl⟩
        obtain ⟨u, hu⟩ : ∃ u, u = us[j] := ⟨_, rfl⟩
        have hx := hX.out j hlt hju (Nat.le_refl _)
        have hf := hF.out j hlt hju (Nat.le_refl _)
        rw [← hd, ← hu] at hx hf
        have hlen : d.l.length ≤ 1099511627776 := by rw [hd]; have := bulkR_row hlt; have := H1.out; omega
        have hr0 : 0 ≤ r := by have := hr.out; omega
        have hr1 : r ≤ 21990232555520 := by
          have h := hr.out
          have h2 := sumN_mono (g := weigh R) (k := j) (by rw [weigh_len]; omega)
          have := HWS.out; have := H1.out; omega
        obtain ⟨g0, g1, g2, g3, g4, g5, g6, g7, g8, g9⟩ := hx.rowIn ho hlt
        have gf : ∀ q, wr.frozen? ⟨g, q, none⟩ = false := fun q => ho.frozenAt q
        obtain ⟨au, cu, rfl⟩ := hf.form
        have HO := Lib.hid ho
        have HFF := Lib.hid hf
        have HD := Lib.hid hd
        have HU := Lib.hid hu
        clear ho hf hx hd hu
        have hst := ownsRow_stores [.int .i64 r, .int .i64 (r + 1), .int .i64 (r + 1 + 1), .int .i64 (r + 1 + 1 + 1), .int .i64 (r + 1 + 1 + 1 + 1), .int .i64 (r + 1 + 1 + 1 + 1 + 1), .int .i64 (r + 1 + 1 + 1 + 1 + 1 + 1), .int .i64 (r + 1 + 1 + 1 + 1 + 1 + 1 + 1), .int .i64 (r + 1 + 1 + 1 + 1 + 1 + 1 + 1 + 1)] (j * 10) wr ys HO.out
        have hub : ∀ b, (Value.slice au d.l.length cu).ownBlock = some b → lo ≤ b ∧ b < hi ∧ b ≠ g := fun b e => by
          have h1 := (World.ownsRow.lt HFF.out b e).1
          have hju' : us[j]? = some (.slice au d.l.length cu) := by rw [List.getElem?_eq_getElem hju, HU.out]
          have h2 := HUS.out j _ hju' b e
          refine ⟨h1, h2, fun e' => ?_⟩
          rcases HOUT.out j _ hju' with h | h
          · rw [h] at e; cases e
          · exact h (by rw [e, e'])
        have hf9 : Fresh lo (wr.setCells g (j * 10) [.int .i64 r, .int .i64 (r + 1), .int .i64 (r + 1 + 1), .int .i64 (r + 1 + 1 + 1), .int .i64 (r + 1 + 1 + 1 + 1), .int .i64 (r + 1 + 1 + 1 + 1 + 1), .int .i64 (r + 1 + 1 + 1 + 1 + 1 + 1), .int .i64 (r + 1 + 1 + 1 + 1 + 1 + 1 + 1), .int .i64 (r + 1 + 1 + 1 + 1 + 1 + 1 + 1 + 1)]) (.slice au d.l.length cu) d.l := World.ownsRow.kept HFF.out hst.2 (by
          cases hob : (Value.slice au d.l.length cu).ownBlock with
          | none => exact .inl rfl
          | some b => exact .inr fun e => (hub b hob).2.2 (Option.some.inj e))
        have hi9 : Ins lo hi wr (wr.setCells g (j * 10) [.int .i64 r, .int .i64 (r + 1), .int .i64 (r + 1 + 1), .int .i64 (r + 1 + 1 + 1), .int .i64 (r + 1 + 1 + 1 + 1), .int .i64 (r + 1 + 1 + 1 + 1 + 1), .int .i64 (r + 1 + 1 + 1 + 1 + 1 + 1), .int .i64 (r + 1 + 1 + 1 + 1 + 1 + 1 + 1), .int .i64 (r + 1 + 1 + 1 + 1 + 1 + 1 + 1 + 1)]) := Ins.of_grown hst.2 (fun q e => by rw [← Option.some.inj e]; exact HGI.out)
        have HST := Lib.hid hst
        have HUB := Lib.hid hub
        have HF9 := Lib.hid hf9
        have HI9 := Lib.hid hi9
        clear hst hub hf9 hi9
        go_wp2_with fail
        refine (markIntS_any lo _ d.l _ (wr.setCells g (j * 10) [.int .i64 r, .int .i64 (r + 1), .int .i64 (r + 1 + 1), .int .i64 (r + 1 + 1 + 1), .int .i64 (r + 1 + 1 + 1 + 1), .int .i64 (r + 1 + 1 + 1 + 1 + 1), .int .i64 (r + 1 + 1 + 1 + 1 + 1 + 1), .int .i64 (r + 1 + 1 + 1 + 1 + 1 + 1 + 1), .int .i64 (r + 1 + 1 + 1 + 1 + 1 + 1 + 1 + 1)]) HF9.out (by omega) (by omega)).mono ?_
        rintro e w3 ⟨rfl, f3, t3⟩
        have T3 := Lib.hid t3
        have hs := sumN_succ (g := weigh R) (k := j) (by rw [weigh_len]; exact hlt)
        rw [weigh_get hlt, ← HD.out] at hs
        have HS := Lib.hid hs
        clear f3 t3 hs g0 g1 g2 g3 g4 g5 g6 g7 g8 g9 gf
        obtain ⟨q, hq⟩ : ∃ q, q = r + 1 + 1 + 1 + 1 + 1 + 1 + 1 + 1 + 1 + (d.l.length : Int) := ⟨_, rfl⟩
        have hq0 : 0 ≤ q := by omega
        rw [← hq]
        have HQ := Lib.hid hq
        clear hq
        go_wp2
        go_roundw
        case rel =>
          have hju' : us[j]? = some (.slice au d.l.length cu) := by rw [List.getElem?_eq_getElem hju, HU.out]
          refine ⟨j + 1, q, _, by omega, by go_num, rfl, Lib.hid (by have h1 := hr.out; have h2 := HS.out; have h3 := HQ.out; omega), World.ownsRow.kept HST.out.1 T3.out ?_, Lib.hid fun i h h' hij => ?_, Lib.hid fun i h h' hij => ?_, (hI.trans HI9.out).trans (Ins.of_grown T3.out (fun b e => ⟨(HUB.out b e).1, (HUB.out b e).2.1⟩))⟩
          · refine .inr fun e => ?_
            have := (HUB.out g e.symm).2.2
            exact this rfl
          · have h9 : Fresh lo (wr.setCells g (j * 10) [.int .i64 r, .int .i64 (r + 1), .int .i64 (r + 1 + 1), .int .i64 (r + 1 + 1 + 1), .int .i64 (r + 1 + 1 + 1 + 1), .int .i64 (r + 1 + 1 + 1 + 1 + 1), .int .i64 (r + 1 + 1 + 1 + 1 + 1 + 1), .int .i64 (r + 1 + 1 + 1 + 1 + 1 + 1 + 1), .int .i64 (r + 1 + 1 + 1 + 1 + 1 + 1 + 1 + 1)]) us[i] R[i].l := World.ownsRow.kept (hF.out i h h' (by omega)) HST.out.2 (HOUT.out i _ (List.getElem?_eq_getElem h'))
            exact World.ownsRow.kept h9 T3.out (HAP.out i j _ _ (by omega) (List.getElem?_eq_getElem h') hju')
          · have hl9 : ∀ (vs : List Value), vs.length = 9 → XRow (putL ys (j * 10) vs) (i * 10) R[i] us[i] := fun vs hvs => by
              obtain ⟨p0, p1, p2, p3, p4, p5, p6, p7, p8, p9⟩ := hX.out i h h' (by omega)
              refine ⟨?_, ?_, ?_, ?_, ?_, ?_, ?_, ?_, ?_, ?_⟩ <;> (rw [putL_out _ _ _ _ (by rw [hvs]; omega)]; assumption)
            exact hl9 _ rfl
        case measure => simp [intOf]; omega
      · obtain rfl : j = R.length := by omega
        go_wp2
        go_ret
        refine ⟨?_, hI⟩
        have h := hr.out
        have h2 := sumN_all (weigh R)
        rw [weigh_len] at h2
        rw [h2] at h
        rw [h]; rfl

end Go.Proofs.Ythnoeknalpnadaa

namespace Go.Proofs.Ythnoeknalpnadaa
open Go.RowKit
set_option linter.unusedVariables false

def weighs (T : List (List RowD)) : List Nat := T.map fun R => (weigh R).sum
theorem weighs_len (T : List (List RowD)) : (weighs T).length = T.length := by simp [weighs]
theorem weighs_get {T : List (List RowD)} {k : Nat} (h : k < T.length) : (weighs T)[k]'(by rw [weighs_len]; exact h) = (weigh T[k]).sum := by simp [weighs]
theorem weighs_sum (T : List (List RowD)) : (weighs T).sum ≤ 10 * bulkT T := by
  unfold weighs bulkT
  induction T with
  | nil => simp
  | cons R T ih =>
    have := weigh_sum R
    simp at ih ⊢; omega

/-- So many marks were laid, and nothing else has turned. -/
def Marked (lo hi : Nat) (k : Int) (n : Nat) (w : World) (e : Ending) (w' : World) : Prop := e = .returned (.int .i64 (k + n)) ∧ Ins lo hi w w'

set_option maxHeartbeats 4000000 in
set_option maxRecDepth 100000 in
theorem markRowSS_any (lo hi : Nat) (v : Value) (T : List (List RowD)) (k : Int) (w : World) (hv : FreshT lo hi w v T) (h0 : 0 ≤ k) (hk : k ≤ 1048576) (h1 : bulkT T ≤ 10995116277) :
    Calls Try.prog 109 #[v, .int .i64 k] w (Marked lo hi k (weighs T).sum w) := by
  obtain ⟨vs, cut, ho, hU, hcut, hc0, hcn, hF⟩ := hv
  have hvl : vs.length = T.length := by have := ho.1; omega
  have hws := weighs_sum T
  rcases ho.2 with ⟨rfl, hn⟩ | ⟨g, cap, cur, rfl, hb, hg, hnc, hcm, hcs, htake⟩
  · obtain rfl : T = [] := List.eq_nil_of_length_eq_zero hn
    clear h1 hws
    go_enter Try.func109, Try.ntmps109
    go_wp2
    refine wp_loop_rounds 1 ?_; rw [rounds_succ]
    go_wp2
    go_ret
    exact ⟨by simp [weighs], Ins.refl _ _ _⟩
  · have hgc : g < cut 0 := hU g rfl
    have hm := cut_mono hcut
    have hfr : Hid (∀ i (h : i < T.length) (h' : i < vs.length), 0 ≤ i → FreshI (cut i) (cut (i + 1)) w vs[i] T[i]) := Lib.hid fun i h h' _ => hF i h h'
    have HM := Lib.hid hm
    have HGC := Lib.hid hgc
    have HC0 := Lib.hid hc0
    have HCN := Lib.hid hcn
    have HVL := Lib.hid hvl
    have HWS := Lib.hid hws
    have H1 := Lib.hid h1
    have hLen : T.length ≤ 1099511627776 := by unfold bulkT at h1; omega
    clear hg hnc hcm hcs htake cur hb hU hcut hF hm hgc hc0 hcn hvl hws h1
    go_enter Try.func109, Try.ntmps109
    go_wp2
    go_loopw [1, 5] (fun m i wr => ∃ (j : Nat) (r : Int), j ≤ T.length ∧ i = .int .i64 j ∧ m = .int .i64 r ∧ Hid (r = k + sumN (weighs T) j) ∧ wr.ownsRow lo 42 1 (.slice (some ⟨g, 0, none⟩) T.length cap) T.length vs ∧ Hid (∀ i (h : i < T.length) (h' : i < vs.length), j ≤ i → FreshI (cut i) (cut (i + 1)) wr vs[i] T[i]) ∧ Ins lo hi w wr) (fun _ i _ => T.length - (intOf i).toNat)
    case atStart => exact ⟨0, k, Nat.zero_le _, rfl, rfl, Lib.hid (by rw [sumN_zero]; simp), ho, hfr, Ins.refl _ _ _⟩
    case round =>
      clear ho hfr
      obtain ⟨j, r, hj, rfl, rfl, hr, ho, hF, hI⟩ := hrel
      by_cases hlt : j < T.length
      · have hjv : j < vs.length := by rw [HVL.out]; exact hlt
        obtain ⟨d, hd⟩ : ∃ d, d = T[j] := ⟨_, rfl⟩
        obtain ⟨u, hu⟩ : ∃ u, u = vs[j] := ⟨_, rfl⟩
        have hf := hF.out j hlt hjv (Nat.le_refl _)
        rw [← hd, ← hu] at hf
        have hlen : bulkR d ≤ 1099511627776 := by rw [hd]; have := bulkT_row hlt; have := H1.out; omega
        have hr0 : 0 ≤ r := by have := hr.out; omega
        have hr1 : r ≤ 1099511627776 := by
          have h := hr.out
          have h2 := sumN_mono (g := weighs T) (k := j) (by rw [weighs_len]; omega)
          have := HWS.out; have := H1.out; omega
        have hwd := weigh_sum d
        have hc := (ho.cellAt j (by omega)).trans (List.getElem?_eq_getElem hjv)
        rw [← hu] at hc
        have HO := Lib.hid ho
        have HFF := Lib.hid hf
        have HD := Lib.hid hd
        have HU := Lib.hid hu
        clear ho hf hd hu
        go_wp2_with fail
        refine (markRowS_any (cut j) (cut (j + 1)) _ d _ _ HFF.out hr0 hr1 hlen).mono ?_
        rintro e w3 ⟨rfl, t3⟩
        have T3 := Lib.hid t3
        have hs := sumN_succ (g := weighs T) (k := j) (by rw [weighs_len]; exact hlt)
        rw [weighs_get hlt, ← HD.out] at hs
        have HS := Lib.hid hs
        clear t3 hs hc
        obtain ⟨q, hq⟩ : ∃ q, q = r + ((weigh d).sum : Int) := ⟨_, rfl⟩
        have hq0 : 0 ≤ q := by omega
        rw [← hq]
        have HQ := Lib.hid hq
        clear hq
        go_wp2
        go_roundw
        case rel =>
          have m1 := HM.out 0 j (by omega) (by omega)
          have m2 := HM.out (j + 1) T.length (by omega) (Nat.le_refl _)
          have m3 := HGC.out
          have m4 := HC0.out
          have m5 := HCN.out
          refine ⟨j + 1, q, by omega, by go_num, rfl, Lib.hid (by have h1 := hr.out; have h2 := HS.out; have h3 := HQ.out; omega), T3.out.row HO.out (fun b e => .inl (by have := Option.some.inj e; simp at this; omega)), Lib.hid fun i h h' hij => ?_, hI.trans (T3.out.more (by omega) (by omega))⟩
          obtain ⟨zs, us, q1, q2, q3, q4, q5, q6⟩ := hF.out i h h' (by omega)
          have m6 := HM.out (j + 1) i (by omega) (by omega)
          refine ⟨zs, us, T3.out.row q1 (fun b e => .inr (by have := (World.ownsRow.lt q1 b e).1; omega)), q2, ⟨q3.len, fun a z l hz hl => T3.out.row (q3.row a z l hz hl) (fun b e => .inr (by have := (World.ownsRow.lt (q3.row a z l hz hl) b e).1; omega)), q3.apart⟩, q4, q5, q6⟩
        case measure => simp [intOf]; omega
      · obtain rfl : j = T.length := by omega
        go_wp2
        go_ret
        refine ⟨?_, hI⟩
        have h := hr.out
        have h2 := sumN_all (weighs T)
        rw [weighs_len] at h2
        rw [h2] at h
        rw [h]; rfl

set_option maxHeartbeats 1000000 in
theorem markTable_any (lo hi : Nat) (n : Int) (v : Value) (T : List (List RowD)) (k : Int) (w : World) (hv : FreshT lo hi w v T) (hhi : hi ≤ w.heap.size) (h0 : 0 ≤ k) (hk : k ≤ 1048576) (h1 : bulkT T ≤ 10995116277) :
    Calls Try.prog 44 #[.agg #[.int .i64 n, v], .int .i64 k] w (Marked lo hi k (weighs T).sum w) := by
  have hws := weighs_sum T
  have hq0 : 0 ≤ k + ((weighs T).sum : Int) := by omega
  have HX : Hid (Ins lo hi w (w.alloc (.cells #[.int .i64 n, v] 24))) := Lib.hid (Ins.of_ext (Ext.alloc (Ext.refl _) _))
  have HV := Lib.hid (hv.kept (Stood.of_ext (Ext.alloc (Ext.refl _) (.cells #[.int .i64 n, v] 24)) hhi))
  have H1 := Lib.hid h1
  clear hws hv h1
  go_enter Try.func44, Try.ntmps44
  go_wp2_with fail
  refine (markRowSS_any lo hi _ T _ _ HV.out h0 hk H1.out).mono ?_
  rintro e w1 ⟨rfl, t1⟩
  have T1 := Lib.hid t1
  clear t1
  go_wp2
  go_ret
  exact ⟨rfl, HX.out.trans T1.out⟩

end Go.Proofs.Ythnoeknalpnadaa

namespace Go.Proofs.Ythnoeknalpnadaa
open Go.RowKit
set_option linter.unusedVariables false

set_option maxHeartbeats 1000000 in
theorem markRow_any (B : Nat) (r : RowD) (u : Value) (k : Int) (w : World) (hv : Fresh B w u r.l) (h0 : 0 ≤ k) (h1 : k + r.l.length ≤ 4611686018427387904) :
    Calls Try.prog 45 #[.agg #[.int .i64 r.b, .int .i64 r.v, .int .i64 r.st, .int .i64 r.k, .int .i64 r.i, .int .i64 r.f, .int .i64 r.t, .int .i64 r.a, .int .i64 r.s, u], .int .i64 k] w (MarkedA B k u r.l w) := by
  have H1 := Lib.hid h1
  clear h1
  go_enter Try.func45, Try.ntmps45
  go_wp2_with fail
  refine (markAttr_any B _ _ r.l _ _ (hv.ext (Ext.alloc (Ext.refl _) _)) h0 H1.out).mono ?_
  rintro e w1 ⟨rfl, f1, t1⟩
  have T := Lib.hid t1
  have F := Lib.hid f1
  clear t1 f1 hv
  go_wp2
  go_ret
  exact ⟨rfl, F.out, (World.grownBy_alloc _ _ _).trans T.out⟩

set_option maxHeartbeats 1000000 in
theorem heldRow_yes (r : RowD) (u : Value) (n : Nat) (k : Int) (w : World) (hv : Ints w u (marks k n)) (h0 : 0 ≤ k) (h1 : k + n ≤ 4611686018427387904) :
    Calls Try.prog 54 #[.agg #[.int .i64 r.b, .int .i64 r.v, .int .i64 r.st, .int .i64 r.k, .int .i64 r.i, .int .i64 r.f, .int .i64 r.t, .int .i64 r.a, .int .i64 r.s, u], .int .i64 k] w (IntExt (k + n) w) := by
  have H1 := Lib.hid h1
  have hk : 0 ≤ k + (n : Int) := by omega
  go_enter Try.func54, Try.ntmps54
  go_wp2_with fail
  refine (heldAttr_yes _ _ n _ _ (hv.ext (Ext.alloc (Ext.refl _) _)) h0 H1.out).mono ?_
  rintro e w1 ⟨rfl, x1⟩
  have hx : Ext w w1 := (Ext.alloc (Ext.refl _) _).trans x1
  clear x1 hv
  go_wp2
  go_ret
  exact ⟨rfl, hx⟩

theorem RowAt.ins {lo hi b : Nat} {w w' : World} {r : RowD} {u : Value} (h : RowAt w b r u) (k : Ins lo hi w w') (hb : b < lo ∨ hi ≤ b) : RowAt w' b r u := by
  obtain ⟨h0, h1, h2, h3, h4, h5, h6, h7, h8, h9⟩ := h
  exact ⟨k.cell h0 hb, k.cell h1 hb, k.cell h2 hb, k.cell h3 hb, k.cell h4 hb, k.cell h5 hb, k.cell h6 hb, k.cell h7 hb, k.cell h8 hb, k.cell h9 hb⟩
theorem AttrAt.ins {lo hi b : Nat} {w w' : World} {s : Int} {u : Value} (h : AttrAt w b s u) (k : Ins lo hi w w') (hb : b < lo ∨ hi ≤ b) : AttrAt w' b s u := ⟨k.cell h.1 hb, k.cell h.2 hb⟩
theorem Rowzz.ins {lo hi : Nat} {w0 w w' : World} {v : Value} {T : List (List RowD)} (h0 : Rowzz w0 v T) (x : Ext w0 w) (k : Ins lo hi w w') (hb : w0.heap.size ≤ lo) : Rowzz w' v T := h0.ext (k.ext x hb)

end Go.Proofs.Ythnoeknalpnadaa

namespace Go.Proofs.Ythnoeknalpnadaa
open Go.RowKit
set_option linter.unusedVariables false

theorem CmdAt.ins {lo hi b : Nat} {w w' : World} {k i f t a : Int} (h : CmdAt w b k i f t a) (q : Ins lo hi w w') (hb : b < lo ∨ hi ≤ b) : CmdAt w' b k i f t a :=
  ⟨q.cell h.1 hb, q.cell h.2.1 hb, q.cell h.2.2.1 hb, q.cell h.2.2.2.1 hb, q.cell h.2.2.2.2 hb⟩
/-- The slice v does not lie in the block g. -/
def Off (g : Nat) (v : Value) : Prop := ∀ b, v.ownBlock = some b → b ≠ g
/-- The arguments' boxes N and N + 1, the model's answer in the box P (list v3, below h3), the program's in the box Q (list v5, from B on, reading as M). -/
def LiveT (w W : World) (N P Q h3 B : Nat) (n : Int) (v v3 v5 : Value) (ck ci cf ct ca s : Int) (L M : List Int) : Prop :=
  Ext w W ∧ AttrAt W N n v ∧ CmdAt W (N + 1) ck ci cf ct ca ∧ AttrAt W P s v3 ∧ Fresh 0 W v3 L ∧ AttrAt W Q s v5 ∧ Fresh B W v5 M ∧ Und h3 v3 ∧ Off Q v5
theorem LiveT.ext {w W W' : World} {N P Q h3 B : Nat} {n : Int} {v v3 v5 : Value} {ck ci cf ct ca s : Int} {L M : List Int} (h : LiveT w W N P Q h3 B n v v3 v5 ck ci cf ct ca s L M) (e : Ext W W') : LiveT w W' N P Q h3 B n v v3 v5 ck ci cf ct ca s L M :=
  ⟨h.1.trans e, h.2.1.ext e, h.2.2.1.ext e, h.2.2.2.1.ext e, h.2.2.2.2.1.ext e, h.2.2.2.2.2.1.ext e, h.2.2.2.2.2.2.1.ext e, h.2.2.2.2.2.2.2⟩
theorem LiveT.ins {w W W' : World} {N P Q h3 B lo hi : Nat} {n : Int} {v v3 v5 : Value} {ck ci cf ct ca s : Int} {L M : List Int} (h : LiveT w W N P Q h3 B n v v3 v5 ck ci cf ct ca s L M) (k : Ins lo hi W W')
    (h0 : w.heap.size ≤ lo) (hN : N + 1 < lo) (hP : P < lo) (hh : h3 ≤ lo) (hB : hi ≤ B) (hQ : hi ≤ Q) : LiveT w W' N P Q h3 B n v v3 v5 ck ci cf ct ca s L M := by
  obtain ⟨a, b, b', c, e, f, g, i, j⟩ := h
  exact ⟨k.ext a h0, b.ins k (.inl (by omega)), b'.ins k (.inl hN), c.ins k (.inl hP), k.row e (fun q hq => .inl (Nat.lt_of_lt_of_le (i q hq) hh)), f.ins k (.inr hQ), g.ins_high k hB, i, j⟩
theorem LiveT.mark {w W W' : World} {N P Q h3 B : Nat} {n : Int} {v v3 v5 : Value} {ck ci cf ct ca s : Int} {L M M' : List Int} (h : LiveT w W N P Q h3 B n v v3 v5 ck ci cf ct ca s L M) (t : W.grownBy W' v5.ownBlock) (f' : Fresh B W' v5 M')
    (h0 : w.heap.size ≤ B) (hN : N + 1 < B) (hP : P < B) (hh : h3 ≤ B) : LiveT w W' N P Q h3 B n v v3 v5 ck ci cf ct ca s L M' := by
  obtain ⟨a, b, b', c, e, f, g, i, j⟩ := h
  have k : Ins B W.heap.size W W' := Ins.of_grown t (fun q hq => World.ownsRow.lt g q hq)
  exact ⟨k.ext a h0, b.ins k (.inl (by omega)), b'.ins k (.inl hN), c.ins k (.inl hP), k.row e (fun q hq => .inl (Nat.lt_of_lt_of_le (i q hq) hh)), ⟨World.grownBy.cell t f.1 (fun e => j Q e.symm rfl), World.grownBy.cell t f.2 (fun e => j Q e.symm rfl)⟩, f', i, j⟩

theorem keep7 {W W' : World} {a b c d e f g : Addr} {x0 x1 x2 x3 x4 x5 x6 : Value} (x : Ext W W')
    (h : (W.cell? a = some x0 ∧ W.cell? b = some x1) ∧ W.cell? c = some x2 ∧ W.cell? d = some x3 ∧ W.cell? e = some x4 ∧ W.cell? f = some x5 ∧ W.cell? g = some x6) :
    (W'.cell? a = some x0 ∧ W'.cell? b = some x1) ∧ W'.cell? c = some x2 ∧ W'.cell? d = some x3 ∧ W'.cell? e = some x4 ∧ W'.cell? f = some x5 ∧ W'.cell? g = some x6 :=
  ⟨⟨x.cell h.1.1, x.cell h.1.2⟩, x.cell h.2.1, x.cell h.2.2.1, x.cell h.2.2.2.1, x.cell h.2.2.2.2.1, x.cell h.2.2.2.2.2⟩
theorem cell_swap {W : World} {o o' : Obj} {a : Addr} {u : Value} (ha : a.block < W.heap.size) (h : (W.alloc o).cell? a = some u) : (W.alloc o').cell? a = some u := by
  rw [World.cell?_alloc_lt _ _ _ ha] at h ⊢; exact h
theorem keep7A {W : World} {o o' : Obj} {a b c d e f g : Addr} {x0 x1 x2 x3 x4 x5 x6 : Value} (ha : a.block < W.heap.size) (hb : b.block < W.heap.size) (hc : c.block < W.heap.size) (hd : d.block < W.heap.size) (he : e.block < W.heap.size) (hf : f.block < W.heap.size) (hg : g.block < W.heap.size)
    (h : ((W.alloc o).cell? a = some x0 ∧ (W.alloc o).cell? b = some x1) ∧ (W.alloc o).cell? c = some x2 ∧ (W.alloc o).cell? d = some x3 ∧ (W.alloc o).cell? e = some x4 ∧ (W.alloc o).cell? f = some x5 ∧ (W.alloc o).cell? g = some x6) :
    ((W.alloc o').cell? a = some x0 ∧ (W.alloc o').cell? b = some x1) ∧ (W.alloc o').cell? c = some x2 ∧ (W.alloc o').cell? d = some x3 ∧ (W.alloc o').cell? e = some x4 ∧ (W.alloc o').cell? f = some x5 ∧ (W.alloc o').cell? g = some x6 :=
  ⟨⟨cell_swap ha h.1.1, cell_swap hb h.1.2⟩, cell_swap hc h.2.1, cell_swap hd h.2.2.1, cell_swap he h.2.2.2.1, cell_swap hf h.2.2.2.2.1, cell_swap hg h.2.2.2.2.2⟩
theorem setc_far {W : World} {a p : Addr} {u v : Value} (ha : a.block ≠ p.block) (h : W.cell? a = some u) : (W.setCell p v).cell? a = some u := by
  rw [World.cell?_setCell_other _ _ _ _ (fun e => ha (by rw [e]))]; exact h
theorem keep7S {W : World} {p : Addr} {v : Value} {a b c d e f g : Addr} {x0 x1 x2 x3 x4 x5 x6 : Value} (ha : a.block ≠ p.block) (hb : b.block ≠ p.block) (hc : c.block ≠ p.block) (hd : d.block ≠ p.block) (he : e.block ≠ p.block) (hf : f.block ≠ p.block) (hg : g.block ≠ p.block)
    (h : (W.cell? a = some x0 ∧ W.cell? b = some x1) ∧ W.cell? c = some x2 ∧ W.cell? d = some x3 ∧ W.cell? e = some x4 ∧ W.cell? f = some x5 ∧ W.cell? g = some x6) :
    ((W.setCell p v).cell? a = some x0 ∧ (W.setCell p v).cell? b = some x1) ∧ (W.setCell p v).cell? c = some x2 ∧ (W.setCell p v).cell? d = some x3 ∧ (W.setCell p v).cell? e = some x4 ∧ (W.setCell p v).cell? f = some x5 ∧ (W.setCell p v).cell? g = some x6 :=
  ⟨⟨setc_far ha h.1.1, setc_far hb h.1.2⟩, setc_far hc h.2.1, setc_far hd h.2.2.1, setc_far he h.2.2.2.1, setc_far hf h.2.2.2.2.1, setc_far hg h.2.2.2.2.2⟩

end Go.Proofs.Ythnoeknalpnadaa
