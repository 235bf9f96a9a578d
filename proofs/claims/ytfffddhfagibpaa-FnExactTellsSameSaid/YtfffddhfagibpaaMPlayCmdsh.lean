/- Texts of this proof, part h: words, plain facts, contracts. -/
import Derived.Test.YtfffddhfagibpaaMPlayCmdse
import Derived.Test.YtfffddhfagibpaaMPlayCmdsg
import Derived.Test.YtfffddhfagibpaaMPlayCmdsf
import Derived.Test.YtfffddhfagibpaaMPlayCmdsd
import Derived.Test.YtfffddhfagibpaaMPlayCmdsb
import Derived.Deep.DeepCutAuto
import Derived.Test.YtfffddhfagibpaaMPlayCmdsc
import Derived.Maps.RangeWalk
import Derived.Maps.OwnSet
import Derived.Maps.OwnOps
import Derived.DeepKeys5
import Derived.WalkArith

namespace Go.Proofs.Ytfffddhfagibpaa
open Go.RowKit
set_option linter.unusedVariables false

theorem Try.infoCd : ((Try.prog.info? 35).map (fun i => (i.zero, i.size))) = some (some (.agg #[.int .i64 0, .int .i64 0, .int .i64 0, .int .i64 0, .int .i64 0]), 5) := by kernel_rfl
theorem cd_parts : ∃ i, Try.prog.info? 35 = some i ∧ i.zero = some (.agg #[.int .i64 0, .int .i64 0, .int .i64 0, .int .i64 0, .int .i64 0]) ∧ i.size = 5 := by
  have h := Try.infoCd
  cases hi : Try.prog.info? 35 with
  | none => rw [hi] at h; cases h
  | some i =>
    rw [hi] at h
    simp only [Option.map_some, Option.some.injEq, Prod.mk.injEq] at h
    exact ⟨i, rfl, h.1, h.2⟩
theorem cd_bytes : ∀ i, Try.prog.info? 35 = some i → i.bytes ≤ 256 := by
  intro i hi
  have h : ((Try.prog.info? 35).map (fun i => decide (i.bytes ≤ 256))) = some true := by kernel_rfl
  rw [hi] at h
  simpa using h
theorem cdz_of {w : World} {g n : Nat} {xs : List Value} {L : List CmdD} (hb : BoxV w g xs) (hn : n = L.length) (hm : n ≤ maxLen) (hl : xs.length = L.length * 5) (h : CdsTo xs L n) : CdzM g w.heap.size w (.slice (some ⟨g, 0, none⟩) n n) L := by
  subst hn
  exact ⟨g, xs, Nat.le_refl _, hb.lt, rfl, hm, hb, hl, h⟩

set_option maxHeartbeats 8000000 in
set_option maxRecDepth 100000 in
theorem toCdS_any (u : Value) (L : List CmdD) (w : World) (hu : Cdz w u L) (hs : bulkCd L ≤ 549755813888) :
    Calls Try.prog 24 #[u] w (NewCdS L w) := by
  obtain ⟨au, cu, rfl, hlu, _, hcu⟩ := hu
  unfold maxLen at hlu
  have hL : L.length ≤ 549755813888 := by unfold bulkCd at hs; omega
  obtain ⟨i0, hi, hz0, hz1⟩ := cd_parts
  have hz2 := cd_bytes i0 hi
  have HS := Lib.hid hs
  clear hs
  go_enter Try.func24, Try.ntmps24
  go_wp2_with (at_make; refine wpList_make_full _ rfl _ _ 44 rfl w.heap.size 35 i0 _ 5 Try.underlying44 hi hz0 hz1 _ _ _ _ L.length rfl rfl rfl rfl ?c1 ?c2 ?c3 ?_)
  case c1 =>
    have hmul := Nat.mul_le_mul hL hz2
    first
    | exact Nat.le_trans hmul (by decide)
    | (rw [Nat.mul_comm]; exact Nat.le_trans hmul (by decide))
  case c2 => unfold maxLen; omega
  case c3 => simp
  intro w1 ho1 hg1
  have hx1 : Ext w w1 := ext_of_grown hg1
  have hsz : w.heap.size < w1.heap.size := by
    rcases ho1.2 with ⟨h, _⟩ | ⟨g, cap, cur, h, hb, hg, _⟩
    · cases h
    · simp only [Value.slice.injEq, Option.some.injEq, Addr.mk.injEq, and_true, true_and] at h
      obtain ⟨rfl, _⟩ := h
      exact (Array.getElem?_eq_some_iff.1 hg).1
  obtain ⟨xs0, hxs⟩ : ∃ xs, xs = (madeCells #[.int .i64 0, .int .i64 0, .int .i64 0, .int .i64 0, .int .i64 0] (L.length * 5)).toList := ⟨_, rfl⟩
  rw [← hxs] at ho1
  have hlx : xs0.length = L.length * 5 := ho1.1
  have hbx : BoxV w1 w.heap.size xs0 := ⟨fun j v hj => by
    rw [ho1.cellAt _ (by have := (List.getElem?_eq_some_iff.1 hj).1; omega)]; exact hj, fun j _ => ho1.frozenAt j, hsz⟩
  clear hg1 hz0 hz1 hz2 hi hxs ho1 hsz
  have HBX := Lib.hid hbx
  clear hbx
  go_wp2
  go_loopw [4] (fun i wr => ∃ (k : Nat) (xs : List Value), k ≤ L.length ∧ i = .int .i64 k ∧ Hid (BoxV wr w.heap.size xs) ∧ xs.length = L.length * 5 ∧ Hid (CdsTo xs L k) ∧ Ext w wr) (fun i _ => L.length - (intOf i).toNat)
  case atStart => exact ⟨0, xs0, Nat.zero_le _, rfl, HBX, hlx, Lib.hid (fun j _ h => by omega), hx1⟩
  case round =>
    clear hx1 HBX hlx
    obtain ⟨k, xs, hk, rfl, hB, hl, hT, hx⟩ := hrel
    by_cases hlt : k < L.length
    · obtain ⟨bu, ou, rfl, du⟩ := hcu (by omega)
      have hy := du k hlt
      obtain ⟨d, hd⟩ : ∃ d, d = L[k] := ⟨_, rfl⟩
      have hbk : bulk1Cd d ≤ 549755813888 := by rw [hd]; have := bulkCd_at hlt; have := HS.out; omega
      rw [← hd] at hy
      have hy := hy.ext hx
      skip
      have HD := Lib.hid hd
      obtain ⟨c0, c1, c2, c3, c4⟩ := cdIn_cells hy
      clear hcu du hy hd
      go_wp2_with fail
      refine (toCmd_any d.k d.i d.f d.t d.a _).mono ?_
      rintro e w2 ⟨rfl, x2⟩
      clear c0 c1 c2 c3 c4
      have hb2 := hB.out.ext x2
      have HT2 := hT
      skip
      have HB2 := Lib.hid hb2
      obtain ⟨o0, g0⟩ : ∃ v, w2.cell? ⟨w.heap.size, k * 5, none⟩ = some v := ⟨_, hb2.cell (k * 5) _ (List.getElem?_eq_getElem (by omega))⟩
      have n0 := hb2.free (k * 5) (by omega)
      obtain ⟨o1, g1⟩ : ∃ v, w2.cell? ⟨w.heap.size, k * 5 + 1, none⟩ = some v := ⟨_, hb2.cell (k * 5 + 1) _ (List.getElem?_eq_getElem (by omega))⟩
      have n1 := hb2.free (k * 5 + 1) (by omega)
      obtain ⟨o2, g2⟩ : ∃ v, w2.cell? ⟨w.heap.size, k * 5 + 2, none⟩ = some v := ⟨_, hb2.cell (k * 5 + 2) _ (List.getElem?_eq_getElem (by omega))⟩
      have n2 := hb2.free (k * 5 + 2) (by omega)
      obtain ⟨o3, g3⟩ : ∃ v, w2.cell? ⟨w.heap.size, k * 5 + 3, none⟩ = some v := ⟨_, hb2.cell (k * 5 + 3) _ (List.getElem?_eq_getElem (by omega))⟩
      have n3 := hb2.free (k * 5 + 3) (by omega)
      obtain ⟨o4, g4⟩ : ∃ v, w2.cell? ⟨w.heap.size, k * 5 + 4, none⟩ = some v := ⟨_, hb2.cell (k * 5 + 4) _ (List.getElem?_eq_getElem (by omega))⟩
      have n4 := hb2.free (k * 5 + 4) (by omega)
      have hxx := hx.trans x2
      clear hb2 hx x2 hB hT
      skip
      go_wp2
      go_roundw
      case rel =>
        refine ⟨k + 1, putL xs (k * 5) (cdVs d ), by omega, by go_num, Lib.hid ?_, by rw [putL_len]; exact hl, Lib.hid ?_, ?_⟩
        · rw [← setCells_cd]
          exact boxV_puts _ _ _ _ HB2.out (by rw [cdVs_len]; omega)
        · have hd := HD.out
          subst hd
          exact HT2.out.put hlt hl
        · rw [← setCells_cd]
          exact (ins_puts (lo := w.heap.size) (hi := w.heap.size + 1) (Nat.le_refl _) (Nat.lt_succ_self _) _ _ _).ext hxx (Nat.le_refl _)
      case measure => simp [intOf]; omega
    · obtain rfl : k = L.length := by omega
      go_wp2
      go_ret
      exact ⟨_, rfl, cdz_of hB.out rfl (by unfold maxLen; omega) hl hT.out, hx⟩
end Go.Proofs.Ytfffddhfagibpaa

namespace Go.Proofs.Ytfffddhfagibpaa
open Go.RowKit
set_option linter.unusedVariables false

set_option maxHeartbeats 4000000 in
set_option maxRecDepth 100000 in
theorem eqCdS_same (u v : Value) (L : List CmdD) (w : World) (hu : Cdz w u L) (hv : Cdz w v L) :
    Calls Try.prog 27 #[u, v] w (BoolExt true w) := by
  obtain ⟨au, cu, rfl, hlu, _, hcu⟩ := hu
  obtain ⟨av, cv, rfl, hlv, _, hcv⟩ := hv
  unfold maxLen at hlu hlv
  have e0 : ((L.length : Int) != (L.length : Int)) = false := by simp
  go_enter Try.func27, Try.ntmps27
  go_wp2
  go_loopw [5] (fun i wr => ∃ k : Nat, k ≤ L.length ∧ i = .int .i64 k ∧ Ext w wr) (fun i _ => L.length - (intOf i).toNat)
  case atStart => exact ⟨0, Nat.zero_le _, rfl, Ext.refl _⟩
  case round =>
    obtain ⟨k, hk, rfl, hx⟩ := hrel
    by_cases hlt : k < L.length
    · obtain ⟨bu, ou, rfl, du⟩ := hcu (by omega)
      obtain ⟨bv, ov, rfl, dv⟩ := hcv (by omega)
      have hx1 := du k hlt
      have hy1 := dv k hlt
      obtain ⟨d, hd⟩ : ∃ d, d = L[k] := ⟨_, rfl⟩
      rw [← hd] at hx1 hy1
      obtain ⟨p0, p1, p2, p3, p4⟩ := cdIn_cells (hx1.ext hx)
      obtain ⟨q0, q1, q2, q3, q4⟩ := cdIn_cells (hy1.ext hx)
      have cE : ∀ E : ExtOf wr, Calls Try.prog 56 #[.agg #[.int .i64 d.k, .int .i64 d.i, .int .i64 d.f, .int .i64 d.t, .int .i64 d.a], .agg #[.int .i64 d.k, .int .i64 d.i, .int .i64 d.f, .int .i64 d.t, .int .i64 d.a]] E.1 (BoolExt true E.1) := fun E => eqCmd_same d.k d.i d.f d.t d.a _
      have p0 := fun E : ExtOf wr => E.cell p0
      have q0 := fun E : ExtOf wr => E.cell q0
      have p1 := fun E : ExtOf wr => E.cell p1
      have q1 := fun E : ExtOf wr => E.cell q1
      have p2 := fun E : ExtOf wr => E.cell p2
      have q2 := fun E : ExtOf wr => E.cell q2
      have p3 := fun E : ExtOf wr => E.cell p3
      have q3 := fun E : ExtOf wr => E.cell q3
      have p4 := fun E : ExtOf wr => E.cell p4
      have q4 := fun E : ExtOf wr => E.cell q4
      have HX := Lib.hid hx
      have HLT := Lib.hid hlt
      clear hcu hcv du dv hx1 hy1 hd hx
      go_wp2_with fail
      refine wp_region_ext_lit (by kernel_rfl) (by kernel_rfl) ?_
      repeat (go_big_quiet_step (first | (go_at_call 56; with_reducible exact Calls.ext_of _ (cE _))))
      refine wpQuiet_nil ?_
      rintro _ ⟨E, rfl⟩
      have hx2 : Ext w E.1 := HX.out.trans E.2
      clear cE p0 p1 p2 p3 p4 q0 q1 q2 q3 q4
      go_wp2
      go_roundw
      case rel => exact ⟨k + 1, by have := HLT.out; omega, by go_num, hx2⟩
      case measure => simp [intOf]; have := HLT.out; omega
    · obtain rfl : k = L.length := by omega
      go_wp2
      go_ret
      exact ⟨rfl, hx⟩
end Go.Proofs.Ytfffddhfagibpaa

namespace Go.Proofs.Ytfffddhfagibpaa
open Go.RowKit
set_option linter.unusedVariables false

/-- From q0 on the cells of vs stand in ys, from o on. -/
def RestX (ys : List Value) (o q0 : Nat) (vs : List Value) : Prop := ∀ q v, q0 ≤ q → vs[q]? = some v → ys[o + q]? = some v
theorem RestX.put {ys vs ms : List Value} {o q0 p q1 : Nat} (h : RestX ys o q0 vs) (h0 : q0 ≤ q1) (h1 : p + ms.length ≤ o + q1) : RestX (putL ys p ms) o q1 vs := fun q v hq hv => by
  rw [putL_out _ _ _ _ (by omega)]
  exact h q v (by omega) hv
/-- But from a on, below b, the lists are one. -/
def KeptX (ys zs : List Value) (a b : Nat) : Prop := zs.length = ys.length ∧ ∀ q, (q < a ∨ b ≤ q) → zs[q]? = ys[q]?
theorem KeptX.refl (ys : List Value) (a b : Nat) : KeptX ys ys a b := ⟨rfl, fun _ _ => rfl⟩
theorem KeptX.put {ys zs ms : List Value} {a b p : Nat} (h : KeptX ys zs a b) (h1 : a ≤ p) (h2 : p + ms.length ≤ b) : KeptX ys (putL zs p ms) a b :=
  ⟨by rw [putL_len]; exact h.1, fun q hq => by rw [putL_out _ _ _ _ (by omega)]; exact h.2 q hq⟩
theorem BoxV.ins' {lo hi : Nat} {w w' : World} {b : Nat} {vs : List Value} (h : BoxV w b vs) (k : Ins lo hi w w') (hb : b < lo ∨ hi ≤ b) : BoxV w' b vs :=
  ⟨fun j v hj => k.cell (h.cell j v hj) hb, fun j hj => by
    have := h.free j hj
    unfold World.frozen? at this ⊢
    rw [k.block b h.lt hb]
    exact this, Nat.lt_of_lt_of_le h.lt k.size⟩
/-- Marks were laid, so many at most, between two blocks. -/
def MarkUp (lo hi : Nat) (k : Int) (n : Nat) (w : World) (e : Ending) (w' : World) : Prop := ∃ k' : Int, e = .returned (.int .i64 k') ∧ k ≤ k' ∧ k' ≤ k + 16 * (n : Int) ∧ Ins lo hi w w'
end Go.Proofs.Ytfffddhfagibpaa

namespace Go.Proofs.Ytfffddhfagibpaa
open Go.RowKit
set_option linter.unusedVariables false

set_option maxHeartbeats 8000000 in
set_option maxRecDepth 100000 in
theorem markCmdS_any (lo hi : Nat) (v : Value) (L : List CmdD) (k : Int) (w : World) (hv : CdzM lo hi w v L) (hs : hi ≤ w.heap.size) (h0 : 0 ≤ k) (hk : k ≤ 268435456) (h1 : bulkCd L ≤ 1048576) :
    Calls Try.prog 28 #[v, .int .i64 k] w (MarkUp lo hi k (bulkCd L) w) := by
  obtain ⟨g, xs0, hg, hgh, rfl, hm, hb, hl0, hT⟩ := hv
  unfold maxLen at hm
  have hLen : L.length ≤ 1048576 := by unfold bulkCd at h1; omega
  have hbu : bulkCd L = L.length + (weighCd L).sum := rfl
  have HBU := Lib.hid hbu
  have HGH : Hid (lo ≤ g ∧ g < hi ∧ hi ≤ w.heap.size) := Lib.hid ⟨hg, hgh, hs⟩
  skip
  have H1 := Lib.hid h1
  have HB0 := Lib.hid hb
  have HT0 : Hid (∀ i (h : i < L.length), 0 ≤ i → XCd xs0 (i * 5) L[i] ) := Lib.hid fun i h _ => hT i h h
  clear hb hbu  hT hg hgh hs h1 hm
  go_enter Try.func28, Try.ntmps28
  go_wp2
  go_loopw [1, 5] (fun m i wr => ∃ (j : Nat) (r : Int) (ys : List Value), j ≤ L.length ∧ i = .int .i64 j ∧ m = .int .i64 r ∧ Hid (k ≤ r ∧ r ≤ k + 16 * ((j : Int) + sumN (weighCd L) j)) ∧ Hid (BoxV wr g ys) ∧ ys.length = L.length * 5 ∧ Hid (∀ i (h : i < L.length), j ≤ i → XCd ys (i * 5) L[i] ) ∧ Hid (Ins lo hi w wr)) (fun _ i _ => L.length - (intOf i).toNat)
  case atStart => exact ⟨0, k, xs0, Nat.zero_le _, rfl, rfl, Lib.hid ⟨by omega, by rw [sumN_zero]; omega⟩, HB0, hl0, HT0, Lib.hid (Ins.refl _ _ _)⟩
  case round =>
    clear HB0 HT0 hl0
    obtain ⟨j, r, ys, hj, rfl, rfl, hr, hB, hl, hP, hI⟩ := hrel
    by_cases hlt : j < L.length
    · have hr0 : 0 ≤ r := by have := hr.out; omega
      have hr1 : r ≤ 268435456 + 16777216 := by
        have h := hr.out
        have h2 := sumN_mono (g := weighCd L) (k := j) (by rw [weighCd_len]; omega)
        have := HBU.out; have := H1.out; omega
      have hsu := sumN_succ (g := weighCd L) (k := j) (by rw [weighCd_len]; exact hlt)
      rw [weighCd_get hlt] at hsu
      have hX := hP.out j hlt (Nat.le_refl _)
      obtain ⟨d, hd⟩ : ∃ d, d = L[j] := ⟨_, rfl⟩
      have hbk : bulk1Cd d ≤ 1048576 := by
        rw [hd]
        have h2 := sumN_mono (g := weighCd L) (k := j + 1) (by rw [weighCd_len]; omega)
        have := HBU.out; have := H1.out; omega
      rw [← hd] at hX hsu
      skip
      have HSU := Lib.hid hsu
      skip
      have HP : Hid (g + 1 ≤ hi ∧ hi ≤ wr.heap.size ∧ lo ≤ g) := Lib.hid (by have e4 := HGH.out; have e5 := hI.out.size; omega)
      have HR : Hid (RestX ys (j * 5) 0 (cdVs d )) := Lib.hid (fun q v _ h => hX q v h)
      have HK : Hid (KeptX ys ys (j * 5) (j * 5 + 5)) := Lib.hid (KeptX.refl _ _ _)
      have HI : Hid (Ins g (hi) wr wr) := Lib.hid (Ins.refl _ _ _)
      have HB := hB
      clear hX hsu hd hB   
      have c0 := HB.out.cell (j * 5) _ (HR.out 0 _ (by omega) rfl)
      have n0 := HB.out.free (j * 5) (by have := HK.out.1; omega)
      have c1 := HB.out.cell (j * 5 + 1) _ (HR.out 1 _ (by omega) rfl)
      have n1 := HB.out.free (j * 5 + 1) (by have := HK.out.1; omega)
      have c2 := HB.out.cell (j * 5 + 2) _ (HR.out 2 _ (by omega) rfl)
      have n2 := HB.out.free (j * 5 + 2) (by have := HK.out.1; omega)
      have c3 := HB.out.cell (j * 5 + 3) _ (HR.out 3 _ (by omega) rfl)
      have n3 := HB.out.free (j * 5 + 3) (by have := HK.out.1; omega)
      have c4 := HB.out.cell (j * 5 + 4) _ (HR.out 4 _ (by omega) rfl)
      have n4 := HB.out.free (j * 5 + 4) (by have := HK.out.1; omega)
      go_wp2
      clear c0 n0 c1 n1 c2 n2 c3 n3 c4 n4
      have kS : Ins g (g + 1) wr (wr.setCells g (j * 5) [.int .i64 r, .int .i64 (r + 1), .int .i64 (r + 1 + 1), .int .i64 (r + 1 + 1 + 1), .int .i64 (r + 1 + 1 + 1 + 1)]) := ins_puts (Nat.le_refl _) (Nat.lt_succ_self _) [.int .i64 r, .int .i64 (r + 1), .int .i64 (r + 1 + 1), .int .i64 (r + 1 + 1 + 1), .int .i64 (r + 1 + 1 + 1 + 1)] _ _
      have hB2 := boxV_puts [.int .i64 r, .int .i64 (r + 1), .int .i64 (r + 1 + 1), .int .i64 (r + 1 + 1 + 1), .int .i64 (r + 1 + 1 + 1 + 1)] (j * 5) _ _ HB.out (by have := HK.out.1; simp only [List.length_cons, List.length_nil]; omega)
      have HK := Lib.hid (HK.out.put (p := j * 5) (ms := [.int .i64 r, .int .i64 (r + 1), .int .i64 (r + 1 + 1), .int .i64 (r + 1 + 1 + 1), .int .i64 (r + 1 + 1 + 1 + 1)]) (by omega) (by simp only [List.length_cons, List.length_nil]; omega))
      have HR := Lib.hid (HR.out.put (ms := [.int .i64 r, .int .i64 (r + 1), .int .i64 (r + 1 + 1), .int .i64 (r + 1 + 1 + 1), .int .i64 (r + 1 + 1 + 1 + 1)]) (p := j * 5) (q1 := 5) (by omega) (by simp only [List.length_cons, List.length_nil]; omega))
      have HI2 := Lib.hid (HI.out.trans (kS.more (Nat.le_refl _) (by have h := HP.out; have h2 := HI.out.size; omega)))
      have HI := HI2
      have HBn := Lib.hid hB2
      clear kS hB2 HI2
      have HB := HBn
      go_roundw
      case rel =>
        refine ⟨j + 1, r + 1 + 1 + 1 + 1 + 1, _, by omega, by go_num, rfl, Lib.hid ?_, HB, HK.out.1.trans hl, Lib.hid (fun i h hij => ?_), Lib.hid (hI.out.trans (HI.out.more (by have h := HP.out; omega) (by have h := HP.out; omega)))⟩
        · have z0 := hr.out
          have zs := HSU.out
          
          unfold bulk1Cd at zs
          omega
        · have a := hP.out i h (by omega)
          exact fun q v hq => by have := cd_lt hq; rw [HK.out.2 _ (by omega)]; exact a q v hq
      case measure => simp [intOf]; omega
    · obtain rfl : j = L.length := by omega
      go_wp2
      go_ret
      have h := hr.out
      have h2 := sumN_all (weighCd L)
      rw [weighCd_len] at h2
      rw [h2] at h
      exact ⟨r, rfl, h.1, by have := HBU.out; omega, hI.out⟩
end Go.Proofs.Ytfffddhfagibpaa

namespace Go.Proofs.Ytfffddhfagibpaa
open Go.RowKit
set_option linter.unusedVariables false

def eqC (x d : CmdD) : Bool := x.k == d.k && (x.i == d.i && (x.f == d.f && (x.t == d.t && x.a == d.a)))
theorem eqC_iff {x d : CmdD} : eqC x d = true ↔ x = d := by
  obtain ⟨a, b, c, e, f⟩ := x
  obtain ⟨a', b', c', e', f'⟩ := d
  simp [eqC]
theorem eqC_self (d : CmdD) : eqC d d = true := eqC_iff.2 rfl
def cdV (d : CmdD) : Value := .agg #[.int .i64 d.k, .int .i64 d.i, .int .i64 d.f, .int .i64 d.t, .int .i64 d.a]
def eqT (x d : TldD) : Bool := x.c == d.c && x.s == d.s
theorem eqT_iff {x d : TldD} : eqT x d = true ↔ x = d := by
  obtain ⟨a, b⟩ := x
  obtain ⟨a', b'⟩ := d
  simp [eqT]

set_option maxRecDepth 100000 in
theorem equalCd (x d : CmdD) (w : World) : (Op.equalIn 10000 35 (cdV x) (cdV d)).run Try.prog w = .ok (eqC x d) w := by
  have u3 := Try.underlying3
  have hS : Try.prog.underlying 35 = some (.struct (Try.prog.fieldsOf 35)) := by kernel_rfl
  have hp : Try.prog.stoodInHeld 35 = false := by kernel_rfl
  unfold cdV
  rw [show (10000 : Nat) = 9999 + 1 from rfl, run_equalIn_agg w 9999 35 _ _ hS hp]
  simp only [Program.fieldsOf, Try.underlying35]
  go_simp
  unfold eqC
  by_cases h1 : x.k = d.k <;> by_cases h2 : x.i = d.i <;> by_cases h3 : x.f = d.f <;> by_cases h4 : x.t = d.t <;> by_cases h5 : x.a = d.a <;> simp [h1, h2, h3, h4, h5]
theorem neqCd (x d : CmdD) (w : World) : (binOp .neq 35 (cdV x) (cdV d)).run Try.prog w = .ok (.bool (!(eqC x d))) w := by
  have h := equalCd x d w
  unfold cdV at h ⊢
  rw [run_neq_struct, h]
  rfl
set_option maxRecDepth 100000 in
theorem equalTd (x d : TldD) (w : World) : (Op.equalIn 10000 32 (.agg #[.int .i64 x.c, .int .i64 x.s]) (.agg #[.int .i64 d.c, .int .i64 d.s])).run Try.prog w = .ok (eqT x d) w := by
  have u3 := Try.underlying3
  have hS : Try.prog.underlying 32 = some (.struct (Try.prog.fieldsOf 32)) := by kernel_rfl
  have hp : Try.prog.stoodInHeld 32 = false := by kernel_rfl
  rw [show (10000 : Nat) = 9999 + 1 from rfl, run_equalIn_agg w 9999 32 _ _ hS hp]
  simp only [Program.fieldsOf, Try.underlying32]
  go_simp
  unfold eqT
  by_cases h1 : x.c = d.c <;> by_cases h2 : x.s = d.s <;> simp [h1, h2]
theorem neqTd (x d : TldD) (w : World) : (binOp .neq 32 (.agg #[.int .i64 x.c, .int .i64 x.s]) (.agg #[.int .i64 d.c, .int .i64 d.s])).run Try.prog w = .ok (.bool (!(eqT x d))) w := by
  rw [run_neq_struct, equalTd]
  rfl

/-- The places below k where d stands. -/
def hits (L : List CmdD) (d : CmdD) (k : Nat) : List Nat := (List.range k).filter fun j => eqC ((L[j]?).getD ⟨0, 0, 0, 0, 0⟩) d
theorem hits_yes {L : List CmdD} {d : CmdD} {k : Nat} (hk : k < L.length) (h : eqC L[k] d = true) : hits L d (k + 1) = hits L d k ++ [k] := by
  unfold hits
  rw [List.range_succ, List.filter_append]
  simp [List.getElem?_eq_getElem hk, h]
theorem hits_no {L : List CmdD} {d : CmdD} {k : Nat} (hk : k < L.length) (h : eqC L[k] d = false) : hits L d (k + 1) = hits L d k := by
  unfold hits
  rw [List.range_succ, List.filter_append]
  simp [List.getElem?_eq_getElem hk, h]
theorem hits_lt {L : List CmdD} {d : CmdD} {k j : Nat} (h : j ∈ hits L d k) : j < k := by
  unfold hits at h
  exact List.mem_range.1 (List.mem_filter.1 h).1
theorem hits_more (L : List CmdD) (d : CmdD) (k m : Nat) : ∃ r, hits L d (k + m) = hits L d k ++ r := by
  induction m with
  | zero => exact ⟨[], by simp⟩
  | succ m ih =>
    obtain ⟨r, hr⟩ := ih
    unfold hits at hr ⊢
    rw [← Nat.add_assoc, List.range_succ, List.filter_append, hr]
    exact ⟨_, List.append_assoc _ _ _⟩
/-- Where d stands just once; -1 else. -/
def onceI (L : List CmdD) (d : CmdD) : Int := match hits L d L.length with
  | [j] => (j : Int)
  | _ => -1
theorem onceI_two {L : List CmdD} {d : CmdD} {k i j : Nat} (hk : k ≤ L.length) (h : hits L d k = [i, j]) : onceI L d = -1 := by
  obtain ⟨r, hr⟩ := hits_more L d k (L.length - k)
  rw [show k + (L.length - k) = L.length by omega, h] at hr
  unfold onceI
  rw [hr]
  cases r <;> rfl
/-- What the model has met so far. -/
def metI (l : List Nat) : Int := match l with
  | [j] => (j : Int)
  | _ => -1

set_option maxRecDepth 100000 in
set_option maxHeartbeats 4000000 in
theorem l11Once_any (v : Value) (L : List CmdD) (d : CmdD) (w : World) (hv : Cdz w v L) (hl : L.length ≤ 1048576) :
    Calls Try.prog 57 #[v, .agg #[.int .i64 d.k, .int .i64 d.i, .int .i64 d.f, .int .i64 d.t, .int .i64 d.a]] w (IntExt (onceI L d) w) := by
  obtain ⟨av, cv, rfl, hlv, _, hcv⟩ := hv
  clear hlv
  have hq := equalCd
  unfold cdV at hq
  have x0 : Ext w (w.alloc (.cells #[.int .i64 d.k, .int .i64 d.i, .int .i64 d.f, .int .i64 d.t, .int .i64 d.a] 35)) := Ext.alloc (Ext.refl _) _
  have BX := Lib.hid (boxV_new w [.int .i64 d.k, .int .i64 d.i, .int .i64 d.f, .int .i64 d.t, .int .i64 d.a] 35)
  go_enter Try.func57, Try.ntmps57
  go_wp2
  obtain ⟨wb, hwb⟩ : ∃ wb, wb = w.alloc (.cells #[.int .i64 d.k, .int .i64 d.i, .int .i64 d.f, .int .i64 d.t, .int .i64 d.a] 35) := ⟨_, rfl⟩
  rw [← hwb] at x0
  rw [show BoxV (w.alloc (.cells ([.int .i64 d.k, .int .i64 d.i, .int .i64 d.f, .int .i64 d.t, .int .i64 d.a] : List Value).toArray 35)) = BoxV wb by rw [hwb]] at BX
  rw [← hwb]
  clear hwb
  go_loopw [5, 6, 7, 10] (fun at_ _ _ i wr => ∃ k : Nat, k ≤ L.length ∧ i = .int .i64 k ∧ at_ = .int .i64 (metI (hits L d k)) ∧ (hits L d k = [] ∨ ∃ j, hits L d k = [j]) ∧ Ext wb wr) (fun _ _ _ i _ => L.length - (intOf i).toNat)
  case atStart => exact ⟨0, Nat.zero_le _, rfl, rfl, .inl rfl, Ext.refl _⟩
  case round =>
    obtain ⟨k, hk, rfl, rfl, hh, hx⟩ := hrel
    by_cases hlt : k < L.length
    · obtain ⟨b, off, rfl, dv⟩ := hcv (by omega)
      have hd0 := (dv k hlt).ext (x0.trans hx)
      obtain ⟨y, hy⟩ : ∃ y, y = L[k] := ⟨_, rfl⟩
      rw [← hy] at hd0
      obtain ⟨c0, c1, c2, c3, c4⟩ := cdIn_cells hd0
      obtain ⟨w2, hw2⟩ : ∃ w2, w2 = wr.alloc (.cells #[.int .i64 y.k, .int .i64 y.i, .int .i64 y.f, .int .i64 y.t, .int .i64 y.a] 35) := ⟨_, rfl⟩
      have x2 : Ext wr w2 := by rw [hw2]; exact Ext.alloc (Ext.refl _) _
      have hn : BoxV w2 wr.heap.size [.int .i64 y.k, .int .i64 y.i, .int .i64 y.f, .int .i64 y.t, .int .i64 y.a] := by rw [hw2]; exact boxV_new _ _ _
      have hb := BX.out.ext (hx.trans x2)
      have b0 := hb.cell 0 _ rfl
      have b1 := hb.cell 1 _ rfl
      have b2 := hb.cell 2 _ rfl
      have b3 := hb.cell 3 _ rfl
      have b4 := hb.cell 4 _ rfl
      have e0 := hn.cell 0 _ rfl
      have e1 := hn.cell 1 _ rfl
      have e2 := hn.cell 2 _ rfl
      have e3 := hn.cell 3 _ rfl
      have e4 := hn.cell 4 _ rfl
      have HW2 := Lib.hid hw2
      have hx2 := hx.trans x2
      have HY := Lib.hid hy
      clear dv hd0 hy hb hn hw2 x2
      go_upto_region 5 with fail
      rw [← HW2.out]
      clear c0 c1 c2 c3 c4
      cases he : eqC y d with
      | false =>
        have hq1 := fun W => hq y d W
        rw [he] at hq1
        have HN := Lib.hid (hits_no hlt (by rw [← HY.out]; exact he))
        clear hcv
        go_wp2
        go_roundw
        case rel => exact ⟨k + 1, by omega, by go_num, by rw [HN.out], by rw [HN.out]; exact hh, hx2⟩
        case measure => simp [intOf]; omega
      | true =>
        have hq1 := fun W => hq y d W
        rw [he] at hq1
        have HN := Lib.hid (hits_yes hlt (by rw [← HY.out]; exact he))
        rcases hh with hh | ⟨j, hh⟩
        · have HH := Lib.hid hh
          have hm : metI (hits L d k) = -1 := by rw [hh]; rfl
          rw [hm]
          clear hcv hm hh
          go_wp2
          go_roundw
          case rel => exact ⟨k + 1, by omega, by go_num, by rw [HN.out, HH.out]; rfl, .inr ⟨k, by rw [HN.out, HH.out]; rfl⟩, hx2⟩
          case measure => simp [intOf]; omega
        · have hm : metI (hits L d k) = (j : Int) := by rw [hh]; rfl
          have HO := Lib.hid (onceI_two (L := L) (d := d) (k := k + 1) (i := j) (j := k) (by omega) (by rw [HN.out, hh]; rfl))
          rw [hm]
          have hj0 : (0 : Int) ≤ (j : Int) := by omega
          clear hcv hm hh
          go_wp2
          go_ret
          exact ⟨by rw [HO.out]; rfl, x0.trans hx2⟩
    · obtain rfl : k = L.length := by omega
      have HO : Hid (onceI L d = metI (hits L d L.length)) := Lib.hid rfl
      clear hcv
      go_wp2
      go_ret
      exact ⟨by rw [HO.out]; rfl, x0.trans hx⟩

end Go.Proofs.Ytfffddhfagibpaa

namespace Go.Proofs.Ytfffddhfagibpaa
open Go.RowKit
set_option linter.unusedVariables false

def cdAt (L : List CmdD) (k : Nat) : CmdD := (L[k]?).getD ⟨0, 0, 0, 0, 0⟩
theorem cdAt_eq {L : List CmdD} {k : Nat} (h : k < L.length) : cdAt L k = L[k] := by unfold cdAt; rw [List.getElem?_eq_getElem h]; rfl
def tdAt (L : List TldD) (k : Nat) : TldD := (L[k]?).getD ⟨0, 0⟩
theorem tdAt_eq {L : List TldD} {k : Nat} (h : k < L.length) : tdAt L k = L[k] := by unfold tdAt; rw [List.getElem?_eq_getElem h]; rfl
/-- Each of the k first of each list is in the other just once. -/
def onceB (A B : List CmdD) (k : Nat) : Bool := (List.range k).all fun j => decide (0 ≤ onceI B (cdAt A j)) && decide (0 ≤ onceI A (cdAt B j))
theorem onceB_succ (A B : List CmdD) (k : Nat) : onceB A B (k + 1) = (onceB A B k && (decide (0 ≤ onceI B (cdAt A k)) && decide (0 ≤ onceI A (cdAt B k)))) := by
  unfold onceB
  rw [List.range_succ, List.all_append]
  simp
theorem onceB_mono {A B : List CmdD} {k n : Nat} (h : k ≤ n) (hn : onceB A B n = true) : onceB A B k = true := by
  unfold onceB at *
  rw [List.all_eq_true] at *
  exact fun x hx => hn x (List.mem_range.2 (Nat.lt_of_lt_of_le (List.mem_range.1 hx) h))
theorem onceB_at {A B : List CmdD} {k n : Nat} (h : k < n) (hn : onceB A B n = true) : 0 ≤ onceI B (cdAt A k) ∧ 0 ≤ onceI A (cdAt B k) := by
  unfold onceB at hn
  rw [List.all_eq_true] at hn
  simpa using hn k (List.mem_range.2 h)
theorem onceB_bad {A B : List CmdD} {k n : Nat} (h : k < n) (hb : (decide (0 ≤ onceI B (cdAt A k)) && decide (0 ≤ onceI A (cdAt B k))) = false) : onceB A B n = false := by
  unfold onceB
  rw [List.all_eq_false]
  exact ⟨k, List.mem_range.2 h, by rw [hb]; simp⟩
def tsOk (A B : List CmdD) : Bool := (cmdsB A && cmdsB B) && (decide (A.length = B.length) && onceB A B A.length)
/-- The k first of the one list tell as the same in the other. -/
def sameT (A B : List CmdD) (k : Nat) : Bool := (List.range k).all fun j => eqT (tdAt (toldN A A.length) j) (tdAt (toldN B B.length) (onceI B (cdAt A j)).toNat)
theorem sameT_succ (A B : List CmdD) (k : Nat) : sameT A B (k + 1) = (sameT A B k && eqT (tdAt (toldN A A.length) k) (tdAt (toldN B B.length) (onceI B (cdAt A k)).toNat)) := by
  unfold sameT
  rw [List.range_succ, List.all_append]
  simp
theorem sameT_bad {A B : List CmdD} {k n : Nat} (h : k < n) (hb : eqT (tdAt (toldN A A.length) k) (tdAt (toldN B B.length) (onceI B (cdAt A k)).toNat) = false) : sameT A B n = false := by
  unfold sameT
  rw [List.all_eq_false]
  exact ⟨k, List.mem_range.2 h, by rw [hb]; simp⟩
def tsIs (A B : List CmdD) : Bool := sameT A B A.length && decide (sumsAt A A.length = sumsAt B B.length)
theorem onceI_lt {L : List CmdD} {d : CmdD} (h : 0 ≤ onceI L d) : ∃ j : Nat, onceI L d = (j : Int) ∧ j < L.length ∧ hits L d L.length = [j] := by
  unfold onceI at h ⊢
  match hh : hits L d L.length with
  | [j] => exact ⟨j, rfl, hits_lt (k := L.length) (by rw [hh]; simp), rfl⟩
  | [] => rw [hh] at h; simp at h
  | a :: b :: r => rw [hh] at h; simp at h
theorem hits_at {L : List CmdD} {d : CmdD} {k j : Nat} (h : j ∈ hits L d k) : eqC (cdAt L j) d = true := by
  unfold hits at h
  exact (List.mem_filter.1 h).2
theorem hits_mem {L : List CmdD} {d : CmdD} {k j : Nat} (hj : j < k) (h : cdAt L j = d) : j ∈ hits L d k := by
  unfold hits
  rw [List.mem_filter]
  exact ⟨List.mem_range.2 hj, by show eqC (cdAt L j) d = true; rw [h]; exact eqC_self d⟩

end Go.Proofs.Ytfffddhfagibpaa

namespace Go.Proofs.Ytfffddhfagibpaa
open Go.RowKit
set_option linter.unusedVariables false

set_option maxRecDepth 100000 in
set_option maxHeartbeats 8000000 in
theorem specTells_any (u v : Value) (A B : List CmdD) (w : World) (hu : Cdz w u A) (hv : Cdz w v B) :
    Calls Try.prog 33 #[u, v] w (TwoB (tsOk A B && tsIs A B) (tsOk A B) w) := by
  have CA := Lib.hid (specCmds_any u A w hu)
  have HV := Lib.hid hv
  have HU := Lib.hid hu
  obtain ⟨au, cu, rfl, _⟩ := id hu
  obtain ⟨av, cv, rfl, _⟩ := id hv
  clear hu hv
  cases ha : cmdsB A with
  | false =>
    have hn : tsOk A B = false := by unfold tsOk; rw [ha]; rfl
    rw [ha] at CA
    rw [hn]
    clear HV HU ha hn
    go_enter Try.func33, Try.ntmps33
    go_wp2_with fail
    refine CA.out.mono ?_
    rintro e w1 ⟨rfl, x1⟩
    go_wp2
    go_ret2
    exact ⟨rfl, x1⟩
  | true =>
  cases hb : cmdsB B with
  | false =>
    have hn : tsOk A B = false := by unfold tsOk; rw [hb, Bool.and_false]; rfl
    have HB := Lib.hid hb
    rw [ha] at CA
    rw [hn]
    clear HU ha hn hb
    go_enter Try.func33, Try.ntmps33
    go_wp2_with fail
    refine CA.out.mono ?_
    rintro e w1 ⟨rfl, x1⟩
    go_wp2_with fail
    refine (specCmds_any _ B _ (HV.out.ext x1)).mono ?_
    rintro e w2 ⟨rfl, x2⟩
    rw [HB.out]
    go_wp2
    go_ret2
    exact ⟨rfl, x1.trans x2⟩
  | true =>
  by_cases hl : A.length = B.length
  · have HA := Lib.hid ha
    have HB := Lib.hid hb
    have HL := Lib.hid hl
    have H60 : Hid (A.length ≤ 60 ∧ B.length ≤ 60) := Lib.hid ⟨(cmdsB_yes ha).1, (cmdsB_yes hb).1⟩
    have hOk : tsOk A B = onceB A B A.length := by unfold tsOk; rw [ha, hb, decide_eq_true hl]; rfl
    have HOK := Lib.hid hOk
    have e0 : ((A.length : Int) != (B.length : Int)) = false := by simp [hl]
    rw [ha] at CA
    clear ha hb hl hOk
    go_enter Try.func33, Try.ntmps33
    go_wp2_with fail
    refine CA.out.mono ?_
    rintro e w1 ⟨rfl, x1⟩
    go_wp2_with fail
    refine (specCmds_any _ B _ (HV.out.ext x1)).mono ?_
    rintro e w2 ⟨rfl, x2⟩
    rw [HB.out]
    have X2 := Lib.hid (x1.trans x2)
    clear x1 x2 CA
    go_wp2
    go_loopw [6, 30] (fun _ i wr => ∃ k : Nat, k ≤ A.length ∧ i = .int .i64 k ∧ Hid (onceB A B k = true) ∧ Hid (Ext w wr)) (fun _ i _ => A.length - (intOf i).toNat)
    case atStart => exact ⟨0, Nat.zero_le _, rfl, Lib.hid rfl, X2⟩
    case round =>
      clear X2
      obtain ⟨k, hk, rfl, hO, hX⟩ := hrel
      by_cases hlt : k < A.length
      · have hlt2 : k < B.length := by rw [← HL.out]; exact hlt
        obtain ⟨bu, ou, du⟩ : ∃ b off, au = some ⟨b, off, none⟩ ∧ CdIn w b (off + k * 5) (cdAt A k) := by
          obtain ⟨ao, c, h, _, _, hc⟩ := HU.out
          obtain ⟨b, off, rfl, hd⟩ := hc (by omega)
          injection h with h1 h2 h3
          exact ⟨b, off, h1, by rw [cdAt_eq hlt]; exact hd k hlt⟩
        obtain ⟨bv, ov, dv⟩ : ∃ b off, av = some ⟨b, off, none⟩ ∧ CdIn w b (off + k * 5) (cdAt B k) := by
          obtain ⟨ao, c, h, _, _, hc⟩ := HV.out
          obtain ⟨b, off, rfl, hd⟩ := hc (by omega)
          injection h with h1 h2 h3
          exact ⟨b, off, h1, by rw [cdAt_eq hlt2]; exact hd k hlt2⟩
        obtain ⟨rfl, du⟩ := du
        obtain ⟨rfl, dv⟩ := dv
        obtain ⟨p0, p1, p2, p3, p4⟩ := cdIn_cells (du.ext hX.out)
        have DV := Lib.hid dv
        clear du dv
        have hs := onceB_succ A B k
        obtain ⟨i1, hi1⟩ : ∃ i, i = onceI B (cdAt A k) := ⟨_, rfl⟩
        obtain ⟨i2, hi2⟩ : ∃ i, i = onceI A (cdAt B k) := ⟨_, rfl⟩
        have HI1 := Lib.hid hi1
        have HI2 := Lib.hid hi2
        by_cases h1 : i1 < 0
        · have HN := Lib.hid (show onceB A B A.length = false from onceB_bad hlt (by rw [← hi1, decide_eq_false (by omega), Bool.false_and]))
          clear hs hi1 hi2
          go_wp2_with fail
          refine (l11Once_any _ B (cdAt A k) _ (HV.out.ext hX.out) (by have := H60.out; omega)).mono ?_
          rintro e w3 ⟨rfl, x3⟩
          rw [← HI1.out]
          go_wp2
          go_ret2
          rw [HOK.out, HN.out]
          exact ⟨rfl, hX.out.trans x3⟩
        · have h1' : ¬ i1 < 0 := h1
          clear hi1 hi2
          go_wp2_with fail
          refine (l11Once_any _ B (cdAt A k) _ (HV.out.ext hX.out) (by have := H60.out; omega)).mono ?_
          rintro e w3 ⟨rfl, x3⟩
          rw [← HI1.out]
          have X3 := Lib.hid (hX.out.trans x3)
          clear x3 p0 p1 p2 p3 p4
          obtain ⟨p0, p1, p2, p3, p4⟩ := cdIn_cells (DV.out.ext X3.out)
          go_wp2_with fail
          refine (l11Once_any _ A (cdAt B k) _ (HU.out.ext X3.out) (by have := H60.out; omega)).mono ?_
          rintro e w4 ⟨rfl, x4⟩
          rw [← HI2.out]
          have X4 := Lib.hid (X3.out.trans x4)
          clear x4 p0 p1 p2 p3 p4
          by_cases h2 : i2 < 0
          · have HN := Lib.hid (show onceB A B A.length = false from onceB_bad hlt (by rw [← HI2.out, decide_eq_false (show ¬ (0 : Int) ≤ i2 by omega), Bool.and_false]))
            clear hs
            go_wp2
            go_ret2
            rw [HOK.out, HN.out]
            exact ⟨rfl, X4.out⟩
          · have HN := Lib.hid (show onceB A B (k + 1) = true by rw [hs, hO.out, ← HI1.out, ← HI2.out, decide_eq_true (show (0 : Int) ≤ i1 by omega), decide_eq_true (show (0 : Int) ≤ i2 by omega)]; rfl)
            have hk60 : k < 60 := by have := H60.out; omega
            clear hs
            go_wp2
            go_roundw
            case rel => exact ⟨k + 1, by omega, by go_num, HN, X4⟩
            case measure => simp [intOf]; omega
      · obtain rfl : k = A.length := by omega
        have HO2 : Hid (tsOk A B = true) := Lib.hid (by rw [HOK.out]; exact hO.out)
        have HOA := hO
        go_wp2_with fail
        refine (l11Play_any _ A _ (HU.out.ext hX.out) HA.out).mono ?_
        rintro e w3 ⟨va, ua, rfl, ia, ta, x3⟩
        have IA := Lib.hid ia
        have TA := Lib.hid ta
        have X3 := Lib.hid (hX.out.trans x3)
        clear ia ta x3 hX hO
        go_wp2_with fail
        refine (l11Play_any _ B _ (HV.out.ext X3.out) HB.out).mono ?_
        rintro e w4 ⟨vb, ub, rfl, ib, tb, x4⟩
        have IB := Lib.hid ib
        have TB := Lib.hid tb
        have IA4 := Lib.hid (IA.out.ext x4)
        have TA4 := Lib.hid (TA.out.ext x4)
        have X4 := Lib.hid (X3.out.trans x4)
        clear IA TA X3 x4 ib tb
        obtain ⟨ata, ca, rfl, _⟩ : ∃ a c, ua = .slice a (toldN A A.length).length c ∧ True := by
          obtain ⟨a, c, h, _⟩ := TA4.out
          exact ⟨a, c, h, trivial⟩
        obtain ⟨atb, cb, rfl, _⟩ : ∃ a c, ub = .slice a (toldN B B.length).length c ∧ True := by
          obtain ⟨a, c, h, _⟩ := TB.out
          exact ⟨a, c, h, trivial⟩
        rw [toldN_len, toldN_len]
        go_wp2
        go_loopw [11, 12, 62] (fun _ _ i wr => ∃ k : Nat, k ≤ A.length ∧ i = .int .i64 k ∧ Hid (sameT A B k = true) ∧ Hid (Ext w4 wr)) (fun _ _ i _ => A.length - (intOf i).toNat)
        case atStart => exact ⟨0, Nat.zero_le _, rfl, Lib.hid rfl, Lib.hid (Ext.refl _)⟩
        case round =>
          obtain ⟨k, hk, rfl, hS, hX⟩ := hrel
          by_cases hlt : k < A.length
          · obtain ⟨bu, ou, du⟩ : ∃ b off, au = some ⟨b, off, none⟩ ∧ CdIn w b (off + k * 5) (cdAt A k) := by
              obtain ⟨ao, c, h, _, _, hc⟩ := HU.out
              obtain ⟨b, off, rfl, hd⟩ := hc (by omega)
              injection h with h1 h2 h3
              exact ⟨b, off, h1, by rw [cdAt_eq hlt]; exact hd k hlt⟩
            obtain ⟨j, hj, hjl, _⟩ := onceI_lt (onceB_at hlt HOA.out).1
            obtain ⟨bt, ot, dt⟩ : ∃ b off, ata = some ⟨b, off, none⟩ ∧ TdIn w4 b (off + k * 2) (tdAt (toldN A A.length) k) := by
              obtain ⟨ao, c, h, _, _, hc⟩ := TA4.out
              obtain ⟨b, off, rfl, hd⟩ := hc (by rw [toldN_len]; omega)
              injection h with h1 h2 h3
              exact ⟨b, off, h1, by rw [tdAt_eq (by rw [toldN_len]; exact hlt)]; exact hd k (by rw [toldN_len]; exact hlt)⟩
            obtain ⟨bs, os, ds⟩ : ∃ b off, atb = some ⟨b, off, none⟩ ∧ TdIn w4 b (off + j * 2) (tdAt (toldN B B.length) j) := by
              obtain ⟨ao, c, h, _, _, hc⟩ := TB.out
              obtain ⟨b, off, rfl, hd⟩ := hc (by rw [toldN_len]; omega)
              injection h with h1 h2 h3
              exact ⟨b, off, h1, by rw [tdAt_eq (by rw [toldN_len]; exact hjl)]; exact hd j (by rw [toldN_len]; exact hjl)⟩
            obtain ⟨rfl, du⟩ := du
            obtain ⟨rfl, dt⟩ := dt
            obtain ⟨rfl, ds⟩ := ds
            obtain ⟨c, hc⟩ : ∃ c, c = cdAt A k := ⟨_, rfl⟩
            obtain ⟨x, hx⟩ : ∃ x, x = tdAt (toldN A A.length) k := ⟨_, rfl⟩
            obtain ⟨y, hy⟩ : ∃ y, y = tdAt (toldN B B.length) j := ⟨_, rfl⟩
            rw [← hc] at du
            rw [← hx] at dt
            rw [← hy] at ds
            obtain ⟨p0, p1, p2, p3, p4⟩ := cdIn_cells (du.ext (X4.out.trans hX.out))
            obtain ⟨w5, hw5⟩ : ∃ w5, w5 = wr.alloc (.cells #[.int .i64 c.k, .int .i64 c.i, .int .i64 c.f, .int .i64 c.t, .int .i64 c.a] 35) := ⟨_, rfl⟩
            have x5 : Ext wr w5 := by rw [hw5]; exact Ext.alloc (Ext.refl _) _
            have hn : BoxV w5 wr.heap.size [.int .i64 c.k, .int .i64 c.i, .int .i64 c.f, .int .i64 c.t, .int .i64 c.a] := by rw [hw5]; exact boxV_new _ _ _
            have q0 := fun E : ExtOf w5 => E.cell (hn.cell 0 _ rfl)
            have q1 := fun E : ExtOf w5 => E.cell (hn.cell 1 _ rfl)
            have q2 := fun E : ExtOf w5 => E.cell (hn.cell 2 _ rfl)
            have q3 := fun E : ExtOf w5 => E.cell (hn.cell 3 _ rfl)
            have q4 := fun E : ExtOf w5 => E.cell (hn.cell 4 _ rfl)
            obtain ⟨t0, t1⟩ := tdIn_cells (dt.ext (hX.out.trans x5))
            obtain ⟨s0, s1⟩ := tdIn_cells (ds.ext (hX.out.trans x5))
            have t0 := fun E : ExtOf w5 => E.cell t0
            have t1 := fun E : ExtOf w5 => E.cell t1
            have s0 := fun E : ExtOf w5 => E.cell s0
            have s1 := fun E : ExtOf w5 => E.cell s1
            have hcall : ∀ E : ExtOf w5, Calls Try.prog 57 #[.slice av B.length cv, .agg #[.int .i64 c.k, .int .i64 c.i, .int .i64 c.f, .int .i64 c.t, .int .i64 c.a]] E.1 (IntExt (j : Int) E.1) := fun E => by
              rw [← hj, ← hc]
              exact l11Once_any _ B c _ (HV.out.ext ((X4.out.trans (hX.out.trans x5)).trans E.2)) (by have := H60.out; omega)
            have hq := fun W => equalTd x y W
            have j0 : (0 : Int) ≤ (j : Int) := by omega
            have j1 : (j : Int) < (B.length : Int) := by omega
            have k1 : (k : Int) < (A.length : Int) := by omega
            have HSS := Lib.hid (show sameT A B (k + 1) = eqT x y by rw [sameT_succ, hS.out, hj, ← hx, Int.toNat_natCast, ← hy, Bool.true_and])
            have HBAD := Lib.hid (fun h : eqT x y = false => sameT_bad (A := A) (B := B) hlt (by rw [hj, ← hx, Int.toNat_natCast, ← hy]; exact h))
            have HW5 := Lib.hid hw5
            have X5 := Lib.hid (X4.out.trans (hX.out.trans x5))
            have Z5 := Lib.hid (hX.out.trans x5)
            clear du dt ds hn hw5 x5 hc hx hy hj hjl
            go_upto_region 14 with fail
            rw [← HW5.out]
            clear p0 p1 p2 p3 p4
            refine wp_region_ext_lit (by kernel_rfl) (by kernel_rfl) ?_
            repeat (go_big_quiet_step (first | (go_at_call 57; with_reducible exact Calls.ext_of _ (hcall _))))
            refine wpQuiet_nil ?_
            rintro _ ⟨E, rfl⟩
            have Y5 := Lib.hid (X5.out.trans E.2)
            have V5 := Lib.hid (Z5.out.trans E.2)
            clear hcall q0 q1 q2 q3 q4 t0 t1 s0 s1
            have hk60 : k < 60 := by have := H60.out; omega
            cases ht : eqT x y with
            | true =>
              rw [ht] at hq
              go_wp2
              go_roundw
              case rel => exact ⟨k + 1, by omega, by go_num, Lib.hid (by rw [HSS.out]; exact ht), V5⟩
              case measure => simp [intOf]; omega
            | false =>
              rw [ht] at hq
              have HN := Lib.hid (HBAD.out ht)
              have HI := Lib.hid (show tsIs A B = false by unfold tsIs; rw [HN.out, Bool.false_and])
              go_wp2
              go_ret2
              rw [HO2.out, HI.out]
              exact ⟨rfl, Y5.out⟩
          · obtain rfl : k = A.length := by omega
            go_wp2_with fail
            refine (l1Same_any _ _ _ _ _ (IA4.out.ext hX.out) (IB.out.ext hX.out)).mono ?_
            rintro e w6 ⟨rfl, x6⟩
            have HI := Lib.hid (show tsIs A B = decide (sumsAt A A.length = sumsAt B B.length) by unfold tsIs; rw [hS.out, Bool.true_and])
            go_wp2
            go_ret2
            rw [HO2.out, HI.out]
            exact ⟨by simp, (X4.out.trans hX.out).trans x6⟩
  · have hn : tsOk A B = false := by unfold tsOk; rw [decide_eq_false hl, Bool.false_and, Bool.and_false]
    have HB := Lib.hid hb
    have e0 : ((A.length : Int) != (B.length : Int)) = true := by simp; omega
    rw [ha] at CA
    rw [hn]
    clear HU ha hn hb
    go_enter Try.func33, Try.ntmps33
    go_wp2_with fail
    refine CA.out.mono ?_
    rintro e w1 ⟨rfl, x1⟩
    go_wp2_with fail
    refine (specCmds_any _ B _ (HV.out.ext x1)).mono ?_
    rintro e w2 ⟨rfl, x2⟩
    rw [HB.out]
    go_wp2
    go_ret2
    exact ⟨rfl, x1.trans x2⟩

end Go.Proofs.Ytfffddhfagibpaa

namespace Go.Proofs.Ytfffddhfagibpaa
open Go.RowKit Go.Maps
set_option linter.unusedVariables false

def wfC (d : CmdD) : Prop := wf64 d.k ∧ wf64 d.i ∧ wf64 d.f ∧ wf64 d.t ∧ wf64 d.a
/-- What a command reads as, as a key. -/
def kC (d : CmdD) : Lit := .string (keyBytes [.int .i64 d.k, .int .i64 d.i, .int .i64 d.f, .int .i64 d.t, .int .i64 d.a])
theorem two_ofC {n : Nat} (h : 1 ≤ n) : ∃ d, n + 1 = d + 2 := ⟨n - 1, by omega⟩
set_option maxRecDepth 100000
theorem cdWide : (match Try.prog.underlying 35 with | some (.array _ _) | some (.struct _) => true | _ => false) = true := by kernel_rfl
theorem cdKeyed : Keyed Try.prog 35 :=
  Keyed.of_law (deep_law_laid (by kernel_rfl) (m := 2) (by omega) (of_decide_eq_true (by kernel_rfl)) (by kernel_rfl) cdWide)
theorem cdType : Try.prog.keyType 35 = true := by kernel_rfl
theorem litC_int {d : Nat} {a : Int} (ha : wf64 a) : Try.prog.keyLits (d + 1) 3 [.int .i64 a] = some [.int .i64 a] := by
  unfold Program.keyLits
  rw [Try.underlying3]
  unfold wf64 at ha
  simp [ha]
theorem litC_inv {d : Nat} {v : Value} {L : List Lit} (h : Try.prog.keyLits (d + 1) 3 [v] = some L) : ∃ a, v = .int .i64 a ∧ wf64 a ∧ L = [.int .i64 a] := by
  unfold Program.keyLits at h
  rw [Try.underlying3] at h
  cases v <;> simp at h
  obtain ⟨⟨rfl, hw⟩, rfl⟩ := h
  exact ⟨_, rfl, hw, rfl⟩
theorem cellsCd : Try.prog.cellsOf 35 = 5 := by kernel_rfl
theorem cellsCInt : Try.prog.cellsOf 3 = 1 := by kernel_rfl
theorem lits_cd {d : Nat} {c : CmdD} (h : wfC c) : Try.prog.keyLits (d + 2) 35 [.int .i64 c.k, .int .i64 c.i, .int .i64 c.f, .int .i64 c.t, .int .i64 c.a] = some [.int .i64 c.k, .int .i64 c.i, .int .i64 c.f, .int .i64 c.t, .int .i64 c.a] := by
  unfold Program.keyLits
  rw [Try.underlying35]
  simp [cellsCd, cellsCInt, litC_int h.1, litC_int h.2.1, litC_int h.2.2.1, litC_int h.2.2.2.1, litC_int h.2.2.2.2]
theorem keyOf_cd {c : CmdD} (h : wfC c) : keyOf Try.prog 35 (cdV c) = some (kC c) := by
  unfold keyOf
  rw [Try.underlying35]
  have hf : Value.formed Try.prog 35 (cdV c) = true := by
    unfold Value.formed cdV
    simp [Try.underlying35, cellsCd]
  obtain ⟨d, hd⟩ : ∃ d, Try.prog.types.size + 1 = d + 2 := two_ofC (of_decide_eq_true (by kernel_rfl))
  simp only [cdType, hf, Bool.and_self, if_true, hd]
  unfold cdV
  simp only [Value.cells]
  rw [lits_cd h]
  rfl
theorem keyOf_cd_inv {v : Value} {l : Lit} (h : keyOf Try.prog 35 v = some l) : ∃ c, v = cdV c ∧ l = kC c ∧ wfC c := by
  obtain ⟨xs, L, rfl, hL, rfl⟩ := keyOf_top cdWide h
  obtain ⟨d, hd⟩ : ∃ d, Try.prog.types.size + 1 = d + 2 := two_ofC (of_decide_eq_true (by kernel_rfl))
  rw [hd] at hL
  unfold Program.keyLits at hL
  rw [Try.underlying35] at hL
  simp only [cellsCd] at hL
  split at hL
  · rename_i hc
    obtain ⟨x, y, z, u, v, hxy⟩ : ∃ x y z u v, xs.toList = [x, y, z, u, v] := by
      match h : xs.toList with
      | [x, y, z, u, v] => exact ⟨x, y, z, u, v, rfl⟩
      | [] => simp [h] at hc
      | [_] => simp [h] at hc
      | [_, _] => simp [h] at hc
      | [_, _, _] => simp [h] at hc
      | [_, _, _, _] => simp [h] at hc
      | _ :: _ :: _ :: _ :: _ :: _ :: _ => simp [h] at hc
    rw [hxy] at hL
    cases h1 : Try.prog.keyLits (d + 1) 3 [x] with
    | none => simp [cellsCInt, h1] at hL
    | some A =>
      cases h2 : Try.prog.keyLits (d + 1) 3 [y] with
      | none => simp [cellsCInt, h1, h2] at hL
      | some B =>
        cases h3 : Try.prog.keyLits (d + 1) 3 [z] with
        | none => simp [cellsCInt, h1, h2, h3] at hL
        | some C =>
          cases h4 : Try.prog.keyLits (d + 1) 3 [u] with
          | none => simp [cellsCInt, h1, h2, h3, h4] at hL
          | some D =>
            cases h5 : Try.prog.keyLits (d + 1) 3 [v] with
            | none => simp [cellsCInt, h1, h2, h3, h4, h5] at hL
            | some E =>
              simp [cellsCInt, h1, h2, h3, h4, h5] at hL
              obtain ⟨a, rfl, wa, rfl⟩ := litC_inv h1
              obtain ⟨b, rfl, wb, rfl⟩ := litC_inv h2
              obtain ⟨c, rfl, wc, rfl⟩ := litC_inv h3
              obtain ⟨e, rfl, we, rfl⟩ := litC_inv h4
              obtain ⟨g, rfl, wg, rfl⟩ := litC_inv h5
              refine ⟨⟨a, b, c, e, g⟩, ?_, ?_, wa, wb, wc, we, wg⟩
              · unfold cdV
                rw [← Array.toArray_toList (xs := xs), hxy]
              · subst hL
                rfl
  · cases hL
theorem kC_inj {c d : CmdD} (hc : wfC c) (hd : wfC d) (h : kC c = kC d) : c = d := by
  have e := cdKeyed.inj (keyOf_cd hc) (h ▸ keyOf_cd hd)
  obtain ⟨a, b, c', f, g⟩ := c
  obtain ⟨a', b', c'', f', g'⟩ := d
  unfold cdV at e
  simpa using e
/-- A good command's numbers are small. -/
theorem good_wf {c : CmdD} (h : goodB c.k c.i c.f c.t c.a = true) : wfC c := by
  have hs : ∀ {x : Int}, 0 ≤ x → x ≤ 1000 → wf64 x := fun h0 h1 => WalkArith.wf_i64 (by omega)
  obtain ⟨k, i, f, t, a⟩ := c
  have hi : ∀ {x lo hi : Int}, inB x lo hi = true → lo ≤ x ∧ x ≤ hi := fun h => by unfold inB at h; simpa using h
  rcases good_kind h with h' | h' | h'
  · dsimp only at h' h
    subst h'
    rw [goodB_0] at h
    unfold zeroB at h
    simp at h
    obtain ⟨rfl, rfl, rfl, rfl⟩ := h
    unfold wfC
    dsimp only
    exact ⟨hs (by omega) (by omega), hs (by omega) (by omega), hs (by omega) (by omega), hs (by omega) (by omega), hs (by omega) (by omega)⟩
  · dsimp only at h' h
    subst h'
    have h2 := h
    obtain ⟨F, T, rfl, rfl, hF, hT, hne, ha, ha1⟩ := good_1 h2
    rw [goodB_1] at h
    unfold codeM at h
    have hii : inB i 1 999 = true := by
      cases hi' : inB i 1 999 with
      | true => rfl
      | false =>
        rw [hi'] at h
        cases h1 : acctB (F : Int) <;> cases h3 : acctB (T : Int) <;> cases h4 : ((F : Int) == (T : Int)) <;> simp [h1, h3, h4] at h
    have := hi hii
    unfold wfC
    dsimp only
    exact ⟨hs (by omega) (by omega), hs (by omega) (by omega), hs (by omega) (by omega), hs (by omega) (by omega), hs (by omega) (by omega)⟩
  · dsimp only at h' h
    subst h'
    obtain ⟨F, rfl, hF⟩ := good_2 h
    rw [goodB_2] at h
    simp only [Bool.and_eq_true, beq_iff_eq] at h
    obtain ⟨⟨h1, rfl⟩, rfl⟩ := h
    have hii : inB i 1 999 = true := by
      cases hi' : inB i 1 999 with
      | true => rfl
      | false =>
        unfold codeR at h1
        rw [hi'] at h1
        cases h3 : acctB (F : Int) <;> simp [h3] at h1
    have := hi hii
    unfold wfC
    dsimp only
    exact ⟨hs (by omega) (by omega), hs (by omega) (by omega), hs (by omega) (by omega), hs (by omega) (by omega), hs (by omega) (by omega)⟩

end Go.Proofs.Ytfffddhfagibpaa

namespace Go.Proofs.Ytfffddhfagibpaa
open Go.RowKit Go.Maps
set_option linter.unusedVariables false

def asIsC (v : Value) : Option (DataW Value × List MemPlace) := some (.held v, [])
def tdV (d : TldD) : Value := .agg #[.int .i64 d.c, .int .i64 d.s]
/-- The map holds just the commands of ks, each with what it is told by f. -/
structure MapC (D : DataW Value) (ks : List CmdD) (f : CmdD → TldD) : Prop where
  isMap : Maps.IsMap D
  tidy : Maps.Tidy D
  wf : ∀ d ∈ ks, wfC d
  one : ks.Nodup
  size : Maps.size D = ks.length
  has : ∀ d ∈ ks, Maps.has D (kC d) = true
  val : ∀ d ∈ ks, ∀ z, D.atKey (kC d) z = .held (tdV (f d))
  keys : ∀ l, Maps.has D l = true → ∃ d ∈ ks, l = kC d
theorem MapC.has_iff {D : DataW Value} {ks : List CmdD} {f : CmdD → TldD} (h : MapC D ks f) {d : CmdD} (hd : wfC d) : Maps.has D (kC d) = true ↔ d ∈ ks := by
  constructor
  · intro hh
    obtain ⟨d', hm, e⟩ := h.keys _ hh
    rw [kC_inj hd (h.wf d' hm) e]
    exact hm
  · exact h.has d
/-- A command more, or one told anew. -/
def putK (ks : List CmdD) (d : CmdD) : List CmdD := if ks.any (fun x => eqC x d) then ks else ks ++ [d]
theorem any_mem {ks : List CmdD} {d : CmdD} : ks.any (fun x => eqC x d) = true ↔ d ∈ ks := by
  rw [List.any_eq_true]
  constructor
  · rintro ⟨x, hx, he⟩
    rw [← eqC_iff.1 he]
    exact hx
  · intro h
    exact ⟨d, h, eqC_self d⟩
def putF (f : CmdD → TldD) (d : CmdD) (t : TldD) : CmdD → TldD := fun x => if eqC x d then t else f x
theorem mem_putK {ks : List CmdD} {d x : CmdD} : x ∈ putK ks d ↔ x = d ∨ x ∈ ks := by
  unfold putK
  by_cases h : ks.any (fun x => eqC x d) = true
  · rw [if_pos h]
    constructor
    · exact .inr
    · rintro (rfl | h')
      · exact any_mem.1 h
      · exact h'
  · rw [if_neg h]
    simp [or_comm]
theorem MapC.put {D : DataW Value} {ks : List CmdD} {f : CmdD → TldD} (h : MapC D ks f) {d : CmdD} (hd : wfC d) (t : TldD) : MapC (D.put (kC d) (.held (tdV t))) (putK ks d) (putF f d t) := by
  have hk : WideAt.IsKeyLit (kC d) := cdKeyed.key (keyOf_cd hd)
  refine ⟨h.isMap.put _ _, h.tidy.put hk _, fun x hx => ?_, ?_, ?_, fun x hx => ?_, fun x hx z => ?_, fun l hl => ?_⟩
  · rcases mem_putK.1 hx with rfl | hx
    · exact hd
    · exact h.wf x hx
  · unfold putK
    by_cases hh : ks.any (fun x => eqC x d) = true
    · rw [if_pos hh]; exact h.one
    · rw [if_neg hh]
      rw [List.nodup_append]
      refine ⟨h.one, by simp, fun a ha b hb => ?_⟩
      simp at hb
      subst hb
      intro e
      subst e
      exact hh (any_mem.2 ha)
  · rw [Maps.size_put h.tidy]
    unfold putK
    by_cases hh : ks.any (fun x => eqC x d) = true
    · rw [if_pos hh, if_pos (h.has d (any_mem.1 hh))]; exact h.size
    · have : Maps.has D (kC d) = false := by
        cases e : Maps.has D (kC d) with
        | false => rfl
        | true => exact absurd (any_mem.2 ((h.has_iff hd).1 e)) hh
      rw [if_neg hh, this]
      simp [h.size]
  · by_cases e : x = d
    · subst e
      exact Maps.has_put_same h.isMap hk _
    · have hx' := (mem_putK.1 hx).resolve_left e
      rw [Maps.has_put_other (fun q => e (kC_inj (h.wf x hx') hd q))]
      exact h.has x hx'
  · unfold putF
    by_cases e : x = d
    · subst e
      rw [Maps.atKey_put_same h.isMap hk, eqC_self]
      rfl
    · have hx' := (mem_putK.1 hx).resolve_left e
      have he : eqC x d = false := by
        cases q : eqC x d with
        | false => rfl
        | true => exact absurd (eqC_iff.1 q) e
      rw [Maps.atKey_put_other (fun q => e (kC_inj (h.wf x hx') hd q)), he]
      exact h.val x hx' z
  · by_cases e : l = kC d
    · exact ⟨d, mem_putK.2 (.inl rfl), e⟩
    · rw [Maps.has_put_other e] at hl
      obtain ⟨x, hx, e'⟩ := h.keys l hl
      exact ⟨x, mem_putK.2 (.inr hx), e'⟩
theorem MapC.empty (f : CmdD → TldD) : MapC (.map []) [] f :=
  ⟨⟨_, rfl⟩, ⟨_, rfl, List.Pairwise.nil⟩, fun _ h => (by cases h), List.nodup_nil, rfl, fun _ h => (by cases h), fun _ h => (by cases h), fun l h => (by cases h)⟩

theorem Ext.grownC {w w' : World} (e : Ext w w') : w.grownBy w' none := ⟨e.os, e.tape, e.output, e.size, fun k hk _ => Below.block e k hk⟩
abbrev CdMap (w : World) (b n : Nat) (D : DataW Value) : Prop := w.ownsMap Try.prog 35 asIsC b n D
abbrev CdRange (w : World) (b r n : Nat) (D : DataW Value) (left : Lit → Bool) (cnt : Nat) : Prop := w.ranges Try.prog 35 asIsC b r n D left cnt
theorem CdMap.ext {w w' : World} {b n : Nat} {D : DataW Value} (h : CdMap w b n D) (e : Ext w w') : CdMap w' b n D := h.kept e.grownC (by simp)
theorem CdRange.ext {w w' : World} {b r n : Nat} {D : DataW Value} {left : Lit → Bool} {cnt : Nat} (h : CdRange w b r n D left cnt) (e : Ext w w') : CdRange w' b r n D left cnt := h.kept e.grownC (by simp) (by simp)

/-- THE STEP of a range over such a map. -/
theorem wpList_next_cd (w : World) {ops : Array Oper} {rest : List Oper} {o : Oper} {a : Act} {Q : Exit → Act → World → Prop} (hg : o.guard = none) (it : Operand) (hop : o.op = Op.next it false)
    (b r n : Nat) (D : DataW Value) (left : Lit → Bool) (cnt : Nat) (ks : List CmdD) (f : CmdD → TldD)
    (hit : a.eval it = .pointer (some ⟨r, 0, none⟩)) (h : CdRange w b r n D left cnt) (hM : MapC D ks f)
    (hDone : (∀ l, left l = false) → wpList Try.prog ops Q rest (a.put o.dst (.tuple #[.bool false])) w)
    (hMore : ∀ (d : CmdD) (w' : World) (cnt' : Nat), d ∈ ks → left (kC d) = true → CdRange w' b r n D (fun z => left z && !z.sameKey (kC d)) cnt' → cnt' < cnt →
      w.grownBy w' (some r) → w'.heap.size = w.heap.size → (Instr.entry (.pointer (some ⟨r, 0, none⟩))).run Try.prog w' = .ok (.tuple #[cdV d, tdV (f d)]) w' →
        wpList Try.prog ops Q rest (a.put o.dst (.tuple #[.bool true, cdV d, tdV (f d)])) w') :
    wpList Try.prog ops Q (o :: rest) a w := by
  refine wpList_next_ranges w hg it hop 35 cdKeyed asIsC (fun x : CmdD => cdV x) (fun v : Value => v) (fun key l hk => ?_) (fun v y _ => ⟨v, rfl⟩) b r n D left cnt hit h (fun _ hl => hDone hl) ?_
  · obtain ⟨x, hv, _⟩ := keyOf_cd_inv hk
    exact ⟨x, hv⟩
  · intro x c l y w' cnt' hkey hlk hv hat hrg hlt hgr hsz hen
    obtain ⟨x', e1, e2, wx⟩ := keyOf_cd_inv hkey
    obtain ⟨d, hd, e3⟩ := hM.keys l (Maps.has_true_of_atKey hat)
    have hx : x' = d := kC_inj wx (hM.wf d hd) (e2.symm.trans e3)
    have hxd : x = d := by
      rw [← hx]
      obtain ⟨a1, a2, a3, a4, a5⟩ := x
      obtain ⟨b1, b2, b3, b4, b5⟩ := x'
      unfold cdV at e1
      simpa using e1
    subst hxd
    rw [e3] at hat hlk hrg
    have hc := (hM.val x hd .nil).symm.trans (hat .nil)
    simp only [asIsC, Option.some.injEq] at hv
    rw [← hv] at hc
    simp only [DataW.held.injEq] at hc
    rw [← hc] at hen ⊢
    exact hMore x w' cnt' hd hlk hrg hlt hgr hsz hen

end Go.Proofs.Ytfffddhfagibpaa
