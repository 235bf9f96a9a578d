/- Texts of this proof, part h: words, plain facts, contracts. -/
import Derived.Test.YtfffddhfagibpaaMPlayCmdse
import Derived.Test.YtfffddhfagibpaaMPlayCmdsg
import Derived.Test.YtfffddhfagibpaaMPlayCmdsf
import Derived.Test.YtfffddhfagibpaaMPlayCmdsd

namespace Go.Proofs.Ytfffddhfagibpaa
open Go.RowKit
set_option linter.unusedVariables false

theorem Try.infoCd : ((Try.prog.info? 35).map (fun i => (i.zero, i.size))) = some (some (.agg #[.int .i64 0, .int .i64 0, .int .i64 0, .int .i64 0, .int .i64 0]), 5) := by kernel_rfl
theorem cd_parts : ∃ i, Try.prog.info? 35 = some i ∧ i.zero = some (.agg #[.int .i64 0, .int .i64 0, .int .i64 0, .int .i64 0, .int .i64 0]) ∧ i.size = 5 := by
  have h := Try.infoCd
  cases hi : Try.prog.info? 35 with
  | none => rw [hi] at h; cases h
  | some i =>
    rw [hi] at h
    simp only [Option.map_some, Option.some.injEq, Prod.mk.injEq] at h
    exact ⟨i, rfl, h.1, h.2⟩
theorem cd_bytes : ∀ i, Try.prog.info? 35 = some i → i.bytes ≤ 256 := by
  intro i hi
  have h : ((Try.prog.info? 35).map (fun i => decide (i.bytes ≤ 256))) = some true := by kernel_rfl
  rw [hi] at h
  simpa using h
theorem cdz_of {w : World} {g n : Nat} {xs : List Value} {L : List CmdD} (hb : BoxV w g xs) (hn : n = L.length) (hm : n ≤ maxLen) (hl : xs.length = L.length * 5) (h : CdsTo xs L n) : CdzM g w.heap.size w (.slice (some ⟨g, 0, none⟩) n n) L := by
  subst hn
  exact ⟨g, xs, Nat.le_refl _, hb.lt, rfl, hm, hb, hl, h⟩

set_option maxHeartbeats 8000000 in
set_option maxRecDepth 100000 in
theorem toCdS_any (u : Value) (L : List CmdD) (w : World) (hu : Cdz w u L) (hs : bulkCd L ≤ 549755813888) :
    Calls Try.prog 24 #[u] w (NewCdS L w) := by
  obtain ⟨au, cu, rfl, hlu, _, hcu⟩ := hu
  unfold maxLen at hlu
  have hL : L.length ≤ 549755813888 := by unfold bulkCd at hs; omega
  obtain ⟨i0, hi, hz0, hz1⟩ := cd_parts
  have hz2 := cd_bytes i0 hi
  have HS := Lib.hid hs
  clear hs
  go_enter Try.func24, Try.ntmps24
  go_wp2_with (at_make; refine wpList_make_full _ rfl _ _ 44 rfl w.heap.size 35 i0 _ 5 Try.underlying44 hi hz0 hz1 _ _ _ _ L.length rfl rfl rfl rfl ?c1 ?c2 ?c3 ?_)
  case c1 =>
    have hmul := Nat.mul_le_mul hL hz2
    first
    | exact Nat.le_trans hmul (by decide)
    | (rw [Nat.mul_comm]; exact Nat.le_trans hmul (by decide))
  case c2 => unfold maxLen; omega
  case c3 => simp
  intro w1 ho1 hg1
  have hx1 : Ext w w1 := ext_of_grown hg1
  have hsz : w.heap.size < w1.heap.size := by
    rcases ho1.2 with ⟨h, _⟩ | ⟨g, cap, cur, h, hb, hg, _⟩
    · cases h
    · simp only [Value.slice.injEq, Option.some.injEq, Addr.mk.injEq, and_true, true_and] at h
      obtain ⟨rfl, _⟩ := h
      exact (Array.getElem?_eq_some_iff.1 hg).1
  obtain ⟨xs0, hxs⟩ : ∃ xs, xs = (madeCells #[.int .i64 0, .int .i64 0, .int .i64 0, .int .i64 0, .int .i64 0] (L.length * 5)).toList := ⟨_, rfl⟩
  rw [← hxs] at ho1
  have hlx : xs0.length = L.length * 5 := ho1.1
  have hbx : BoxV w1 w.heap.size xs0 := ⟨fun j v hj => by
    rw [ho1.cellAt _ (by have := (List.getElem?_eq_some_iff.1 hj).1; omega)]; exact hj, fun j _ => ho1.frozenAt j, hsz⟩
  clear hg1 hz0 hz1 hz2 hi hxs ho1 hsz
  have HBX := Lib.hid hbx
  clear hbx
  go_wp2
  go_loopw [4] (fun i wr => ∃ (k : Nat) (xs : List Value), k ≤ L.length ∧ i = .int .i64 k ∧ Hid (BoxV wr w.heap.size xs) ∧ xs.length = L.length * 5 ∧ Hid (CdsTo xs L k) ∧ Ext w wr) (fun i _ => L.length - (intOf i).toNat)
  case atStart => exact ⟨0, xs0, Nat.zero_le _, rfl, HBX, hlx, Lib.hid (fun j _ h => by omega), hx1⟩
  case round =>
    clear hx1 HBX hlx
    obtain ⟨k, xs, hk, rfl, hB, hl, hT, hx⟩ := hrel
    by_cases hlt : k < L.length
    · obtain ⟨bu, ou, rfl, du⟩ := hcu (by omega)
      have hy := du k hlt
      obtain ⟨d, hd⟩ : ∃ d, d = L[k] := ⟨_, rfl⟩
      have hbk : bulk1Cd d ≤ 549755813888 := by rw [hd]; have := bulkCd_at hlt; have := HS.out; omega
      rw [← hd] at hy
      have hy := hy.ext hx
      skip
      have HD := Lib.hid hd
      obtain ⟨c0, c1, c2, c3, c4⟩ := cdIn_cells hy
      clear hcu du hy hd
      go_wp2_with fail
      refine (toCmd_any d.k d.i d.f d.t d.a _).mono ?_
      rintro e w2 ⟨rfl, x2⟩
      clear c0 c1 c2 c3 c4
      have hb2 := hB.out.ext x2
      have HT2 := hT
      skip
      have HB2 := Lib.hid hb2
      obtain ⟨o0, g0⟩ : ∃ v, w2.cell? ⟨w.heap.size, k * 5, none⟩ = some v := ⟨_, hb2.cell (k * 5) _ (List.getElem?_eq_getElem (by omega))⟩
      have n0 := hb2.free (k * 5) (by omega)
      obtain ⟨o1, g1⟩ : ∃ v, w2.cell? ⟨w.heap.size, k * 5 + 1, none⟩ = some v := ⟨_, hb2.cell (k * 5 + 1) _ (List.getElem?_eq_getElem (by omega))⟩
      have n1 := hb2.free (k * 5 + 1) (by omega)
      obtain ⟨o2, g2⟩ : ∃ v, w2.cell? ⟨w.heap.size, k * 5 + 2, none⟩ = some v := ⟨_, hb2.cell (k * 5 + 2) _ (List.getElem?_eq_getElem (by omega))⟩
      have n2 := hb2.free (k * 5 + 2) (by omega)
      obtain ⟨o3, g3⟩ : ∃ v, w2.cell? ⟨w.heap.size, k * 5 + 3, none⟩ = some v := ⟨_, hb2.cell (k * 5 + 3) _ (List.getElem?_eq_getElem (by omega))⟩
      have n3 := hb2.free (k * 5 + 3) (by omega)
      obtain ⟨o4, g4⟩ : ∃ v, w2.cell? ⟨w.heap.size, k * 5 + 4, none⟩ = some v := ⟨_, hb2.cell (k * 5 + 4) _ (List.getElem?_eq_getElem (by omega))⟩
      have n4 := hb2.free (k * 5 + 4) (by omega)
      have hxx := hx.trans x2
      clear hb2 hx x2 hB hT
      skip
      go_wp2
      go_roundw
      case rel =>
        refine ⟨k + 1, putL xs (k * 5) (cdVs d ), by omega, by go_num, Lib.hid ?_, by rw [putL_len]; exact hl, Lib.hid ?_, ?_⟩
        · rw [← setCells_cd]
          exact boxV_puts _ _ _ _ HB2.out (by rw [cdVs_len]; omega)
        · have hd := HD.out
          subst hd
          exact HT2.out.put hlt hl
        · rw [← setCells_cd]
          exact (ins_puts (lo := w.heap.size) (hi := w.heap.size + 1) (Nat.le_refl _) (Nat.lt_succ_self _) _ _ _).ext hxx (Nat.le_refl _)
      case measure => simp [intOf]; omega
    · obtain rfl : k = L.length := by omega
      go_wp2
      go_ret
      exact ⟨_, rfl, cdz_of hB.out rfl (by unfold maxLen; omega) hl hT.out, hx⟩
end Go.Proofs.Ytfffddhfagibpaa

namespace Go.Proofs.Ytfffddhfagibpaa
open Go.RowKit
set_option linter.unusedVariables false

set_option maxHeartbeats 4000000 in
set_option maxRecDepth 100000 in
theorem eqCdS_same (u v : Value) (L : List CmdD) (w : World) (hu : Cdz w u L) (hv : Cdz w v L) :
    Calls Try.prog 27 #[u, v] w (BoolExt true w) := by
  obtain ⟨au, cu, rfl, hlu, _, hcu⟩ := hu
  obtain ⟨av, cv, rfl, hlv, _, hcv⟩ := hv
  unfold maxLen at hlu hlv
  have e0 : ((L.length : Int) != (L.length : Int)) = false := by simp
  go_enter Try.func27, Try.ntmps27
  go_wp2
  go_loopw [5] (fun i wr => ∃ k : Nat, k ≤ L.length ∧ i = .int .i64 k ∧ Ext w wr) (fun i _ => L.length - (intOf i).toNat)
  case atStart => exact ⟨0, Nat.zero_le _, rfl, Ext.refl _⟩
  case round =>
    obtain ⟨k, hk, rfl, hx⟩ := hrel
    by_cases hlt : k < L.length
    · obtain ⟨bu, ou, rfl, du⟩ := hcu (by omega)
      obtain ⟨bv, ov, rfl, dv⟩ := hcv (by omega)
      have hx1 := du k hlt
      have hy1 := dv k hlt
      obtain ⟨d, hd⟩ : ∃ d, d = L[k] := ⟨_, rfl⟩
      rw [← hd] at hx1 hy1
      obtain ⟨p0, p1, p2, p3, p4⟩ := cdIn_cells (hx1.ext hx)
      obtain ⟨q0, q1, q2, q3, q4⟩ := cdIn_cells (hy1.ext hx)
      have cE : ∀ E : ExtOf wr, Calls Try.prog 56 #[.agg #[.int .i64 d.k, .int .i64 d.i, .int .i64 d.f, .int .i64 d.t, .int .i64 d.a], .agg #[.int .i64 d.k, .int .i64 d.i, .int .i64 d.f, .int .i64 d.t, .int .i64 d.a]] E.1 (BoolExt true E.1) := fun E => eqCmd_same d.k d.i d.f d.t d.a _
      have p0 := fun E : ExtOf wr => E.cell p0
      have q0 := fun E : ExtOf wr => E.cell q0
      have p1 := fun E : ExtOf wr => E.cell p1
      have q1 := fun E : ExtOf wr => E.cell q1
      have p2 := fun E : ExtOf wr => E.cell p2
      have q2 := fun E : ExtOf wr => E.cell q2
      have p3 := fun E : ExtOf wr => E.cell p3
      have q3 := fun E : ExtOf wr => E.cell q3
      have p4 := fun E : ExtOf wr => E.cell p4
      have q4 := fun E : ExtOf wr => E.cell q4
      have HX := Lib.hid hx
      have HLT := Lib.hid hlt
      clear hcu hcv du dv hx1 hy1 hd hx
      go_wp2_with fail
      refine wp_region_ext_lit (by kernel_rfl) (by kernel_rfl) ?_
      repeat (go_big_quiet_step (first | (go_at_call 56; with_reducible exact Calls.ext_of _ (cE _))))
      refine wpQuiet_nil ?_
      rintro _ ⟨E, rfl⟩
      have hx2 : Ext w E.1 := HX.out.trans E.2
      clear cE p0 p1 p2 p3 p4 q0 q1 q2 q3 q4
      go_wp2
      go_roundw
      case rel => exact ⟨k + 1, by have := HLT.out; omega, by go_num, hx2⟩
      case measure => simp [intOf]; have := HLT.out; omega
    · obtain rfl : k = L.length := by omega
      go_wp2
      go_ret
      exact ⟨rfl, hx⟩
end Go.Proofs.Ytfffddhfagibpaa

namespace Go.Proofs.Ytfffddhfagibpaa
open Go.RowKit
set_option linter.unusedVariables false

/-- From q0 on the cells of vs stand in ys, from o on. -/
def RestX (ys : List Value) (o q0 : Nat) (vs : List Value) : Prop := ∀ q v, q0 ≤ q → vs[q]? = some v → ys[o + q]? = some v
theorem RestX.put {ys vs ms : List Value} {o q0 p q1 : Nat} (h : RestX ys o q0 vs) (h0 : q0 ≤ q1) (h1 : p + ms.length ≤ o + q1) : RestX (putL ys p ms) o q1 vs := fun q v hq hv => by
  rw [putL_out _ _ _ _ (by omega)]
  exact h q v (by omega) hv
/-- But from a on, below b, the lists are one. -/
def KeptX (ys zs : List Value) (a b : Nat) : Prop := zs.length = ys.length ∧ ∀ q, (q < a ∨ b ≤ q) → zs[q]? = ys[q]?
theorem KeptX.refl (ys : List Value) (a b : Nat) : KeptX ys ys a b := ⟨rfl, fun _ _ => rfl⟩
theorem KeptX.put {ys zs ms : List Value} {a b p : Nat} (h : KeptX ys zs a b) (h1 : a ≤ p) (h2 : p + ms.length ≤ b) : KeptX ys (putL zs p ms) a b :=
  ⟨by rw [putL_len]; exact h.1, fun q hq => by rw [putL_out _ _ _ _ (by omega)]; exact h.2 q hq⟩
theorem BoxV.ins' {lo hi : Nat} {w w' : World} {b : Nat} {vs : List Value} (h : BoxV w b vs) (k : Ins lo hi w w') (hb : b < lo ∨ hi ≤ b) : BoxV w' b vs :=
  ⟨fun j v hj => k.cell (h.cell j v hj) hb, fun j hj => by
    have := h.free j hj
    unfold World.frozen? at this ⊢
    rw [k.block b h.lt hb]
    exact this, Nat.lt_of_lt_of_le h.lt k.size⟩
/-- Marks were laid, so many at most, between two blocks. -/
def MarkUp (lo hi : Nat) (k : Int) (n : Nat) (w : World) (e : Ending) (w' : World) : Prop := ∃ k' : Int, e = .returned (.int .i64 k') ∧ k ≤ k' ∧ k' ≤ k + 16 * (n : Int) ∧ Ins lo hi w w'
end Go.Proofs.Ytfffddhfagibpaa

namespace Go.Proofs.Ytfffddhfagibpaa
open Go.RowKit
set_option linter.unusedVariables false

set_option maxHeartbeats 8000000 in
set_option maxRecDepth 100000 in
theorem markCmdS_any (lo hi : Nat) (v : Value) (L : List CmdD) (k : Int) (w : World) (hv : CdzM lo hi w v L) (hs : hi ≤ w.heap.size) (h0 : 0 ≤ k) (hk : k ≤ 268435456) (h1 : bulkCd L ≤ 1048576) :
    Calls Try.prog 28 #[v, .int .i64 k] w (MarkUp lo hi k (bulkCd L) w) := by
  obtain ⟨g, xs0, hg, hgh, rfl, hm, hb, hl0, hT⟩ := hv
  unfold maxLen at hm
  have hLen : L.length ≤ 1048576 := by unfold bulkCd at h1; omega
  have hbu : bulkCd L = L.length + (weighCd L).sum := rfl
  have HBU := Lib.hid hbu
  have HGH : Hid (lo ≤ g ∧ g < hi ∧ hi ≤ w.heap.size) := Lib.hid ⟨hg, hgh, hs⟩
  skip
  have H1 := Lib.hid h1
  have HB0 := Lib.hid hb
  have HT0 : Hid (∀ i (h : i < L.length), 0 ≤ i → XCd xs0 (i * 5) L[i] ) := Lib.hid fun i h _ => hT i h h
  clear hb hbu  hT hg hgh hs h1 hm
  go_enter Try.func28, Try.ntmps28
  go_wp2
  go_loopw [1, 5] (fun m i wr => ∃ (j : Nat) (r : Int) (ys : List Value), j ≤ L.length ∧ i = .int .i64 j ∧ m = .int .i64 r ∧ Hid (k ≤ r ∧ r ≤ k + 16 * ((j : Int) + sumN (weighCd L) j)) ∧ Hid (BoxV wr g ys) ∧ ys.length = L.length * 5 ∧ Hid (∀ i (h : i < L.length), j ≤ i → XCd ys (i * 5) L[i] ) ∧ Hid (Ins lo hi w wr)) (fun _ i _ => L.length - (intOf i).toNat)
  case atStart => exact ⟨0, k, xs0, Nat.zero_le _, rfl, rfl, Lib.hid ⟨by omega, by rw [sumN_zero]; omega⟩, HB0, hl0, HT0, Lib.hid (Ins.refl _ _ _)⟩
  case round =>
    clear HB0 HT0 hl0
    obtain ⟨j, r, ys, hj, rfl, rfl, hr, hB, hl, hP, hI⟩ := hrel
    by_cases hlt : j < L.length
    · have hr0 : 0 ≤ r := by have := hr.out; omega
      have hr1 : r ≤ 268435456 + 16777216 := by
        have h := hr.out
        have h2 := sumN_mono (g := weighCd L) (k := j) (by rw [weighCd_len]; omega)
        have := HBU.out; have := H1.out; omega
      have hsu := sumN_succ (g := weighCd L) (k := j) (by rw [weighCd_len]; exact hlt)
      rw [weighCd_get hlt] at hsu
      have hX := hP.out j hlt (Nat.le_refl _)
      obtain ⟨d, hd⟩ : ∃ d, d = L[j] := ⟨_, rfl⟩
      have hbk : bulk1Cd d ≤ 1048576 := by
        rw [hd]
        have h2 := sumN_mono (g := weighCd L) (k := j + 1) (by rw [weighCd_len]; omega)
        have := HBU.out; have := H1.out; omega
      rw [← hd] at hX hsu
      skip
      have HSU := Lib.hid hsu
      skip
      have HP : Hid (g + 1 ≤ hi ∧ hi ≤ wr.heap.size ∧ lo ≤ g) := Lib.hid (by have e4 := HGH.out; have e5 := hI.out.size; omega)
      have HR : Hid (RestX ys (j * 5) 0 (cdVs d )) := Lib.hid (fun q v _ h => hX q v h)
      have HK : Hid (KeptX ys ys (j * 5) (j * 5 + 5)) := Lib.hid (KeptX.refl _ _ _)
      have HI : Hid (Ins g (hi) wr wr) := Lib.hid (Ins.refl _ _ _)
      have HB := hB
      clear hX hsu hd hB   
      have c0 := HB.out.cell (j * 5) _ (HR.out 0 _ (by omega) rfl)
      have n0 := HB.out.free (j * 5) (by have := HK.out.1; omega)
      have c1 := HB.out.cell (j * 5 + 1) _ (HR.out 1 _ (by omega) rfl)
      have n1 := HB.out.free (j * 5 + 1) (by have := HK.out.1; omega)
      have c2 := HB.out.cell (j * 5 + 2) _ (HR.out 2 _ (by omega) rfl)
      have n2 := HB.out.free (j * 5 + 2) (by have := HK.out.1; omega)
      have c3 := HB.out.cell (j * 5 + 3) _ (HR.out 3 _ (by omega) rfl)
      have n3 := HB.out.free (j * 5 + 3) (by have := HK.out.1; omega)
      have c4 := HB.out.cell (j * 5 + 4) _ (HR.out 4 _ (by omega) rfl)
      have n4 := HB.out.free (j * 5 + 4) (by have := HK.out.1; omega)
      go_wp2
      clear c0 n0 c1 n1 c2 n2 c3 n3 c4 n4
      have kS : Ins g (g + 1) wr (wr.setCells g (j * 5) [.int .i64 r, .int .i64 (r + 1), .int .i64 (r + 1 + 1), .int .i64 (r + 1 + 1 + 1), .int .i64 (r + 1 + 1 + 1 + 1)]) := ins_puts (Nat.le_refl _) (Nat.lt_succ_self _) [.int .i64 r, .int .i64 (r + 1), .int .i64 (r + 1 + 1), .int .i64 (r + 1 + 1 + 1), .int .i64 (r + 1 + 1 + 1 + 1)] _ _
      have hB2 := boxV_puts [.int .i64 r, .int .i64 (r + 1), .int .i64 (r + 1 + 1), .int .i64 (r + 1 + 1 + 1), .int .i64 (r + 1 + 1 + 1 + 1)] (j * 5) _ _ HB.out (by have := HK.out.1; simp only [List.length_cons, List.length_nil]; omega)
      have HK := Lib.hid (HK.out.put (p := j * 5) (ms := [.int .i64 r, .int .i64 (r + 1), .int .i64 (r + 1 + 1), .int .i64 (r + 1 + 1 + 1), .int .i64 (r + 1 + 1 + 1 + 1)]) (by omega) (by simp only [List.length_cons, List.length_nil]; omega))
      have HR := Lib.hid (HR.out.put (ms := [.int .i64 r, .int .i64 (r + 1), .int .i64 (r + 1 + 1), .int .i64 (r + 1 + 1 + 1), .int .i64 (r + 1 + 1 + 1 + 1)]) (p := j * 5) (q1 := 5) (by omega) (by simp only [List.length_cons, List.length_nil]; omega))
      have HI2 := Lib.hid (HI.out.trans (kS.more (Nat.le_refl _) (by have h := HP.out; have h2 := HI.out.size; omega)))
      have HI := HI2
      have HBn := Lib.hid hB2
      clear kS hB2 HI2
      have HB := HBn
      go_roundw
      case rel =>
        refine ⟨j + 1, r + 1 + 1 + 1 + 1 + 1, _, by omega, by go_num, rfl, Lib.hid ?_, HB, HK.out.1.trans hl, Lib.hid (fun i h hij => ?_), Lib.hid (hI.out.trans (HI.out.more (by have h := HP.out; omega) (by have h := HP.out; omega)))⟩
        · have z0 := hr.out
          have zs := HSU.out
          
          unfold bulk1Cd at zs
          omega
        · have a := hP.out i h (by omega)
          exact fun q v hq => by have := cd_lt hq; rw [HK.out.2 _ (by omega)]; exact a q v hq
      case measure => simp [intOf]; omega
    · obtain rfl : j = L.length := by omega
      go_wp2
      go_ret
      have h := hr.out
      have h2 := sumN_all (weighCd L)
      rw [weighCd_len] at h2
      rw [h2] at h
      exact ⟨r, rfl, h.1, by have := HBU.out; omega, hI.out⟩
end Go.Proofs.Ytfffddhfagibpaa
