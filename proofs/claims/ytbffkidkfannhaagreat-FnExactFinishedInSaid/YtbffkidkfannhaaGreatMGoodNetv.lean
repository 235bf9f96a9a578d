/- Texts of this proof, part v: words, plain facts, contracts. -/
import Derived.Test.YtbffkidkfannhaaGreatMGoodNete
import Derived.Test.YtbffkidkfannhaaGreatMGoodNetf
import Derived.Test.YtbffkidkfannhaaGreatMGoodNetu
import Derived.Test.YtbffkidkfannhaaGreatMGoodNetg
import Derived.Test.YtbffkidkfannhaaGreatMGoodNeta
import Derived.OpenShut
import Derived.Deep.Matrix
import Derived.Test.YtbffkidkfannhaaGreatMGoodNets
import Derived.Test.YtbffkidkfannhaaGreatMGoodNetr

namespace Go.Proofs.YtbffkidkfannhaaGreat
open Go.RowKit
set_option linter.unusedVariables false

set_option maxHeartbeats 8000000 in
set_option maxRecDepth 100000 in
theorem markLeadS_any (lo hi : Nat) (v : Value) (L : List LeadD) (k : Int) (w : World) (hv : LeadzF lo hi w v L) (hs : hi ≤ w.heap.size) (h0 : 0 ≤ k) (hk : k ≤ 536870912) (h1 : bulkL L ≤ 1048576) :
    Calls Tryz.prog 74 #[v, .int .i64 k] w (MarkUp lo hi k (bulkL L) w) := by
  obtain ⟨g, xs0, cut, hg, rfl, hm, hb, hl0, hC, hT⟩ := hv
  have hgh : g < hi := by have := hC.lo; have := hC.high (Nat.zero_le _); omega
  unfold maxLen at hm
  have hLen : L.length ≤ 1048576 := by unfold bulkL at h1; omega
  have hbu : bulkL L = L.length + (weighD L).sum := rfl
  have HBU := Lib.hid hbu
  have HGH : Hid (lo ≤ g ∧ g < hi ∧ hi ≤ w.heap.size) := Lib.hid ⟨hg, hgh, hs⟩
  have HC := Lib.hid hC
  have H1 := Lib.hid h1
  have HB0 := Lib.hid hb
  have HT0 : Hid (∀ i (h : i < L.length), 0 ≤ i → ∃ u1 u2 u3 u4, XLead xs0 (i * 16) L[i] u1 u2 u3 u4 ∧ LeadC (cut i) (cut (i + 1)) w L[i] u1 u2 u3 u4) := Lib.hid fun i h _ => hT i h h
  clear hb hbu hC hT hg hgh hs h1 hm
  go_enter Tryz.func74, Tryz.ntmps74
  go_wp2
  go_loopw [1, 5] (fun m i wr => ∃ (j : Nat) (r : Int) (ys : List Value), j ≤ L.length ∧ i = .int .i64 j ∧ m = .int .i64 r ∧ Hid (k ≤ r ∧ r ≤ k + 16 * ((j : Int) + sumN (weighD L) j)) ∧ Hid (BoxV wr g ys) ∧ ys.length = L.length * 16 ∧ Hid (∀ i (h : i < L.length), j ≤ i → ∃ u1 u2 u3 u4, XLead ys (i * 16) L[i] u1 u2 u3 u4 ∧ LeadC (cut i) (cut (i + 1)) wr L[i] u1 u2 u3 u4) ∧ Hid (Ins lo hi w wr)) (fun _ i _ => L.length - (intOf i).toNat)
  case atStart => exact ⟨0, k, xs0, Nat.zero_le _, rfl, rfl, Lib.hid ⟨by omega, by rw [sumN_zero]; omega⟩, HB0, hl0, HT0, Lib.hid (Ins.refl _ _ _)⟩
  case round =>
    clear HB0 HT0 hl0
    obtain ⟨j, r, ys, hj, rfl, rfl, hr, hB, hl, hP, hI⟩ := hrel
    by_cases hlt : j < L.length
    · have hr0 : 0 ≤ r := by have := hr.out; omega
      have hr1 : r ≤ 536870912 + 16777216 := by
        have h := hr.out
        have h2 := sumN_mono (g := weighD L) (k := j) (by rw [weighD_len]; omega)
        have := HBU.out; have := H1.out; omega
      have hsu := sumN_succ (g := weighD L) (k := j) (by rw [weighD_len]; exact hlt)
      rw [weighD_get hlt] at hsu
      obtain ⟨u1, u2, u3, u4, hX, hE⟩ := hP.out j hlt (Nat.le_refl _)
      obtain ⟨d, hd⟩ : ∃ d, d = L[j] := ⟨_, rfl⟩
      have hbk : bulkD d ≤ 1048576 := by
        rw [hd]
        have h2 := sumN_mono (g := weighD L) (k := j + 1) (by rw [weighD_len]; omega)
        have := HBU.out; have := H1.out; omega
      rw [← hd] at hX hE hsu
      have bl1 : d.l1.length ≤ 1048576 := by unfold bulkD at hbk; omega
      have bl2 : d.l2.length ≤ 1048576 := by unfold bulkD at hbk; omega
      have bl3 : d.who.length ≤ 1048576 := by unfold bulkD at hbk; omega
      have bl4 : bulkR d.seen ≤ 1048576 := by unfold bulkD at hbk; omega
      have bw4 := weigh_sum d.seen
      have HSU := Lib.hid hsu
      obtain ⟨pa, pb, pc, t1, t2, t3, t4, f1, f2, f3, f4⟩ := hE
      have HP : Hid (g + 1 ≤ cut j ∧ cut j ≤ pa ∧ pa ≤ pb ∧ pb ≤ pc ∧ pc ≤ cut (j + 1) ∧ cut (j + 1) ≤ hi ∧ hi ≤ wr.heap.size ∧ lo ≤ g) := Lib.hid (by
        have e1 := HC.out.low (j := j) (by omega)
        have e2 := HC.out.high (j := j + 1) (by omega)
        have e3 := HC.out.le (i := j) (j := j + 1) (by omega) (by omega)
        have e4 := HGH.out
        have e5 := hI.out.size
        omega)
      have F1 := Lib.hid f1
      have F2 := Lib.hid f2
      have F3 := Lib.hid f3
      have F4 := Lib.hid f4
      have HR : Hid (RestX ys (j * 16) 0 (leadVs d u1 u2 u3 u4)) := Lib.hid (fun q v _ h => hX q v h)
      have HK : Hid (KeptX ys ys (j * 16) (j * 16 + 16)) := Lib.hid (KeptX.refl _ _ _)
      have HI : Hid (Ins g (cut (j + 1)) wr wr) := Lib.hid (Ins.refl _ _ _)
      have HB := hB
      clear hX hsu hd hB f1 f2 f3 f4  t1 t2 t3 t4
      have c0 := HB.out.cell (j * 16) _ (HR.out 0 _ (by omega) rfl)
      have n0 := HB.out.free (j * 16) (by have := HK.out.1; omega)
      have c1 := HB.out.cell (j * 16 + 1) _ (HR.out 1 _ (by omega) rfl)
      have n1 := HB.out.free (j * 16 + 1) (by have := HK.out.1; omega)
      have c2 := HB.out.cell (j * 16 + 2) _ (HR.out 2 _ (by omega) rfl)
      have n2 := HB.out.free (j * 16 + 2) (by have := HK.out.1; omega)
      have c3 := HB.out.cell (j * 16 + 3) _ (HR.out 3 _ (by omega) rfl)
      have n3 := HB.out.free (j * 16 + 3) (by have := HK.out.1; omega)
      have c4 := HB.out.cell (j * 16 + 4) _ (HR.out 4 _ (by omega) rfl)
      have n4 := HB.out.free (j * 16 + 4) (by have := HK.out.1; omega)
      have c5 := HB.out.cell (j * 16 + 5) _ (HR.out 5 _ (by omega) rfl)
      have n5 := HB.out.free (j * 16 + 5) (by have := HK.out.1; omega)
      have c6 := HB.out.cell (j * 16 + 6) _ (HR.out 6 _ (by omega) rfl)
      have n6 := HB.out.free (j * 16 + 6) (by have := HK.out.1; omega)
      have c7 := HB.out.cell (j * 16 + 7) _ (HR.out 7 _ (by omega) rfl)
      have n7 := HB.out.free (j * 16 + 7) (by have := HK.out.1; omega)
      have c8 := HB.out.cell (j * 16 + 8) _ (HR.out 8 _ (by omega) rfl)
      have n8 := HB.out.free (j * 16 + 8) (by have := HK.out.1; omega)
      have c9 := HB.out.cell (j * 16 + 9) _ (HR.out 9 _ (by omega) rfl)
      have n9 := HB.out.free (j * 16 + 9) (by have := HK.out.1; omega)
      have c10 := HB.out.cell (j * 16 + 10) _ (HR.out 10 _ (by omega) rfl)
      have kS : Ins g (g + 1) wr (wr.setCells g (j * 16) [.int .i64 r, .int .i64 (r + 1), .int .i64 (r + 1 + 1), .int .i64 (r + 1 + 1 + 1), .int .i64 (r + 1 + 1 + 1 + 1), .int .i64 (r + 1 + 1 + 1 + 1 + 1), .int .i64 (r + 1 + 1 + 1 + 1 + 1 + 1), .int .i64 (r + 1 + 1 + 1 + 1 + 1 + 1 + 1), .int .i64 (r + 1 + 1 + 1 + 1 + 1 + 1 + 1 + 1), .int .i64 (r + 1 + 1 + 1 + 1 + 1 + 1 + 1 + 1 + 1)]) := ins_puts (Nat.le_refl _) (Nat.lt_succ_self _) [.int .i64 r, .int .i64 (r + 1), .int .i64 (r + 1 + 1), .int .i64 (r + 1 + 1 + 1), .int .i64 (r + 1 + 1 + 1 + 1), .int .i64 (r + 1 + 1 + 1 + 1 + 1), .int .i64 (r + 1 + 1 + 1 + 1 + 1 + 1), .int .i64 (r + 1 + 1 + 1 + 1 + 1 + 1 + 1), .int .i64 (r + 1 + 1 + 1 + 1 + 1 + 1 + 1 + 1), .int .i64 (r + 1 + 1 + 1 + 1 + 1 + 1 + 1 + 1 + 1)] _ _
      have hB2 := boxV_puts [.int .i64 r, .int .i64 (r + 1), .int .i64 (r + 1 + 1), .int .i64 (r + 1 + 1 + 1), .int .i64 (r + 1 + 1 + 1 + 1), .int .i64 (r + 1 + 1 + 1 + 1 + 1), .int .i64 (r + 1 + 1 + 1 + 1 + 1 + 1), .int .i64 (r + 1 + 1 + 1 + 1 + 1 + 1 + 1), .int .i64 (r + 1 + 1 + 1 + 1 + 1 + 1 + 1 + 1), .int .i64 (r + 1 + 1 + 1 + 1 + 1 + 1 + 1 + 1 + 1)] (j * 16) _ _ HB.out (by have := HK.out.1; simp only [List.length_cons, List.length_nil]; omega)
      have HK := Lib.hid (HK.out.put (p := j * 16) (ms := [.int .i64 r, .int .i64 (r + 1), .int .i64 (r + 1 + 1), .int .i64 (r + 1 + 1 + 1), .int .i64 (r + 1 + 1 + 1 + 1), .int .i64 (r + 1 + 1 + 1 + 1 + 1), .int .i64 (r + 1 + 1 + 1 + 1 + 1 + 1), .int .i64 (r + 1 + 1 + 1 + 1 + 1 + 1 + 1), .int .i64 (r + 1 + 1 + 1 + 1 + 1 + 1 + 1 + 1), .int .i64 (r + 1 + 1 + 1 + 1 + 1 + 1 + 1 + 1 + 1)]) (by omega) (by simp only [List.length_cons, List.length_nil]; omega))
      have HR := Lib.hid (HR.out.put (ms := [.int .i64 r, .int .i64 (r + 1), .int .i64 (r + 1 + 1), .int .i64 (r + 1 + 1 + 1), .int .i64 (r + 1 + 1 + 1 + 1), .int .i64 (r + 1 + 1 + 1 + 1 + 1), .int .i64 (r + 1 + 1 + 1 + 1 + 1 + 1), .int .i64 (r + 1 + 1 + 1 + 1 + 1 + 1 + 1), .int .i64 (r + 1 + 1 + 1 + 1 + 1 + 1 + 1 + 1), .int .i64 (r + 1 + 1 + 1 + 1 + 1 + 1 + 1 + 1 + 1)]) (p := j * 16) (q1 := 10) (by omega) (by simp only [List.length_cons, List.length_nil]; omega))
      have HI2 := Lib.hid (HI.out.trans (kS.more (Nat.le_refl _) (by have h := HP.out; have h2 := HI.out.size; omega)))
      have F1 := Lib.hid (F1.out.kept (kS.stood (by have h := HP.out; have h2 := HI.out.size; omega) (.inr (by have h := HP.out; omega))))
      have F2 := Lib.hid (F2.out.kept (kS.stood (by have h := HP.out; have h2 := HI.out.size; omega) (.inr (by have h := HP.out; omega))))
      have F3 := Lib.hid (F3.out.kept (kS.stood (by have h := HP.out; have h2 := HI.out.size; omega) (.inr (by have h := HP.out; omega))))
      have F4 := Lib.hid (F4.out.kept (kS.stood (by have h := HP.out; have h2 := HI.out.size; omega) (.inr (by have h := HP.out; omega))))
      have HI := HI2
      have HBn := Lib.hid hB2
      clear kS hB2 HI2
      go_wp2_with fail
      refine (markIntS_any (cut j) _ d.l1 _ (wr.setCells g (j * 16) [.int .i64 r, .int .i64 (r + 1), .int .i64 (r + 1 + 1), .int .i64 (r + 1 + 1 + 1), .int .i64 (r + 1 + 1 + 1 + 1), .int .i64 (r + 1 + 1 + 1 + 1 + 1), .int .i64 (r + 1 + 1 + 1 + 1 + 1 + 1), .int .i64 (r + 1 + 1 + 1 + 1 + 1 + 1 + 1), .int .i64 (r + 1 + 1 + 1 + 1 + 1 + 1 + 1 + 1), .int .i64 (r + 1 + 1 + 1 + 1 + 1 + 1 + 1 + 1 + 1)]) F1.out.fresh (by omega) (by omega)).mono ?_
      rintro e w1 ⟨rfl, ff, tt⟩
      have kC : Ins (cut j) (pa) (wr.setCells g (j * 16) [.int .i64 r, .int .i64 (r + 1), .int .i64 (r + 1 + 1), .int .i64 (r + 1 + 1 + 1), .int .i64 (r + 1 + 1 + 1 + 1), .int .i64 (r + 1 + 1 + 1 + 1 + 1), .int .i64 (r + 1 + 1 + 1 + 1 + 1 + 1), .int .i64 (r + 1 + 1 + 1 + 1 + 1 + 1 + 1), .int .i64 (r + 1 + 1 + 1 + 1 + 1 + 1 + 1 + 1), .int .i64 (r + 1 + 1 + 1 + 1 + 1 + 1 + 1 + 1 + 1)]) w1 := Ins.of_grown tt (fun b e => ⟨(World.ownsRow.lt F1.out.fresh b e).1, F1.out.und b e⟩)
      clear ff tt
      obtain ⟨r1, hr1⟩ : ∃ r1, r1 = r + 1 + 1 + 1 + 1 + 1 + 1 + 1 + 1 + 1 + 1 + (d.l1.length : Int) := ⟨_, rfl⟩
      rw [← hr1]
      have p1 : 0 ≤ r1 := by omega
      have b1 : r1 ≤ 536870912 + 16777216 + 11000000 := by omega
      have Q1 := Lib.hid hr1
      clear hr1
      have HB := Lib.hid (HBn.out.ins' kC (.inl (by have h := HP.out; omega)))
      have HI2 := Lib.hid (HI.out.trans (kC.more (by have h := HP.out; omega) (by have h := HP.out; omega)))
      have F2 := Lib.hid (F2.out.kept (kC.stood (by have h := HP.out; have h2 := HI.out.size; omega) (.inr (by have h := HP.out; omega))))
      have F3 := Lib.hid (F3.out.kept (kC.stood (by have h := HP.out; have h2 := HI.out.size; omega) (.inr (by have h := HP.out; omega))))
      have F4 := Lib.hid (F4.out.kept (kC.stood (by have h := HP.out; have h2 := HI.out.size; omega) (.inr (by have h := HP.out; omega))))
      have HI := HI2
      clear kC HI2 c0 n0 c1 n1 c2 n2 c3 n3 c4 n4 c5 n5 c6 n6 c7 n7 c8 n8 c9 n9 c10 HBn
      have c11 := HB.out.cell (j * 16 + 11) _ (HR.out 11 _ (by omega) rfl)
      have n11 := HB.out.free (j * 16 + 11) (by have := HK.out.1; omega)
      have c12 := HB.out.cell (j * 16 + 12) _ (HR.out 12 _ (by omega) rfl)
      have kS : Ins g (g + 1) w1 (w1.setCells g (j * 16 + 11) [.int .i64 r1]) := ins_puts (Nat.le_refl _) (Nat.lt_succ_self _) [.int .i64 r1] _ _
      have hB2 := boxV_puts [.int .i64 r1] (j * 16 + 11) _ _ HB.out (by have := HK.out.1; simp only [List.length_cons, List.length_nil]; omega)
      have HK := Lib.hid (HK.out.put (p := j * 16 + 11) (ms := [.int .i64 r1]) (by omega) (by simp only [List.length_cons, List.length_nil]; omega))
      have HR := Lib.hid (HR.out.put (ms := [.int .i64 r1]) (p := j * 16 + 11) (q1 := 12) (by omega) (by simp only [List.length_cons, List.length_nil]; omega))
      have HI2 := Lib.hid (HI.out.trans (kS.more (Nat.le_refl _) (by have h := HP.out; have h2 := HI.out.size; omega)))
      have F2 := Lib.hid (F2.out.kept (kS.stood (by have h := HP.out; have h2 := HI.out.size; omega) (.inr (by have h := HP.out; omega))))
      have F3 := Lib.hid (F3.out.kept (kS.stood (by have h := HP.out; have h2 := HI.out.size; omega) (.inr (by have h := HP.out; omega))))
      have F4 := Lib.hid (F4.out.kept (kS.stood (by have h := HP.out; have h2 := HI.out.size; omega) (.inr (by have h := HP.out; omega))))
      have HI := HI2
      have HBn := Lib.hid hB2
      clear kS hB2 HI2
      go_wp2_with fail
      refine (markIntS_any (pa) _ d.l2 _ (w1.setCells g (j * 16 + 11) [.int .i64 r1]) F2.out.fresh (by omega) (by omega)).mono ?_
      rintro e w2 ⟨rfl, ff, tt⟩
      have kC : Ins (pa) (pb) (w1.setCells g (j * 16 + 11) [.int .i64 r1]) w2 := Ins.of_grown tt (fun b e => ⟨(World.ownsRow.lt F2.out.fresh b e).1, F2.out.und b e⟩)
      clear ff tt
      obtain ⟨r2, hr2⟩ : ∃ r2, r2 = r1 + 1 + (d.l2.length : Int) := ⟨_, rfl⟩
      rw [← hr2]
      have p2 : 0 ≤ r2 := by omega
      have b2 : r2 ≤ 536870912 + 16777216 + 22000000 := by omega
      have Q2 := Lib.hid hr2
      clear hr2
      have HB := Lib.hid (HBn.out.ins' kC (.inl (by have h := HP.out; omega)))
      have HI2 := Lib.hid (HI.out.trans (kC.more (by have h := HP.out; omega) (by have h := HP.out; omega)))
      have F3 := Lib.hid (F3.out.kept (kC.stood (by have h := HP.out; have h2 := HI.out.size; omega) (.inr (by have h := HP.out; omega))))
      have F4 := Lib.hid (F4.out.kept (kC.stood (by have h := HP.out; have h2 := HI.out.size; omega) (.inr (by have h := HP.out; omega))))
      have HI := HI2
      clear kC HI2 c11 n11 c12 HBn
      have c13 := HB.out.cell (j * 16 + 13) _ (HR.out 13 _ (by omega) rfl)
      have n13 := HB.out.free (j * 16 + 13) (by have := HK.out.1; omega)
      have c14 := HB.out.cell (j * 16 + 14) _ (HR.out 14 _ (by omega) rfl)
      have kS : Ins g (g + 1) w2 (w2.setCells g (j * 16 + 13) [.bool (r2 % 3 == 0)]) := ins_puts (Nat.le_refl _) (Nat.lt_succ_self _) [.bool (r2 % 3 == 0)] _ _
      have hB2 := boxV_puts [.bool (r2 % 3 == 0)] (j * 16 + 13) _ _ HB.out (by have := HK.out.1; simp only [List.length_cons, List.length_nil]; omega)
      have HK := Lib.hid (HK.out.put (p := j * 16 + 13) (ms := [.bool (r2 % 3 == 0)]) (by omega) (by simp only [List.length_cons, List.length_nil]; omega))
      have HR := Lib.hid (HR.out.put (ms := [.bool (r2 % 3 == 0)]) (p := j * 16 + 13) (q1 := 14) (by omega) (by simp only [List.length_cons, List.length_nil]; omega))
      have HI2 := Lib.hid (HI.out.trans (kS.more (Nat.le_refl _) (by have h := HP.out; have h2 := HI.out.size; omega)))
      have F3 := Lib.hid (F3.out.kept (kS.stood (by have h := HP.out; have h2 := HI.out.size; omega) (.inr (by have h := HP.out; omega))))
      have F4 := Lib.hid (F4.out.kept (kS.stood (by have h := HP.out; have h2 := HI.out.size; omega) (.inr (by have h := HP.out; omega))))
      have HI := HI2
      have HBn := Lib.hid hB2
      clear kS hB2 HI2
      go_wp2_with fail
      refine (markIntS_any (pb) _ d.who _ (w2.setCells g (j * 16 + 13) [.bool (r2 % 3 == 0)]) F3.out.fresh (by omega) (by omega)).mono ?_
      rintro e w3 ⟨rfl, ff, tt⟩
      have kC : Ins (pb) (pc) (w2.setCells g (j * 16 + 13) [.bool (r2 % 3 == 0)]) w3 := Ins.of_grown tt (fun b e => ⟨(World.ownsRow.lt F3.out.fresh b e).1, F3.out.und b e⟩)
      clear ff tt
      obtain ⟨r3, hr3⟩ : ∃ r3, r3 = r2 + 1 + (d.who.length : Int) := ⟨_, rfl⟩
      rw [← hr3]
      have p3 : 0 ≤ r3 := by omega
      have b3 : r3 ≤ 536870912 + 16777216 + 33000000 := by omega
      have Q3 := Lib.hid hr3
      clear hr3
      have HB := Lib.hid (HBn.out.ins' kC (.inl (by have h := HP.out; omega)))
      have HI2 := Lib.hid (HI.out.trans (kC.more (by have h := HP.out; omega) (by have h := HP.out; omega)))
      have F4 := Lib.hid (F4.out.kept (kC.stood (by have h := HP.out; have h2 := HI.out.size; omega) (.inr (by have h := HP.out; omega))))
      have HI := HI2
      clear kC HI2 c13 n13 c14 HBn
      have c15 := HB.out.cell (j * 16 + 15) _ (HR.out 15 _ (by omega) rfl)
      go_wp2_with fail
      refine (markRowS_any (pc) (cut (j + 1)) _ d.seen _ w3 F4.out (by omega) (by omega) (by omega)).mono ?_
      rintro e w4 ⟨rfl, kC⟩
      obtain ⟨r4, hr4⟩ : ∃ r4, r4 = r3 + ((weigh d.seen).sum : Int) := ⟨_, rfl⟩
      rw [← hr4]
      have p4 : 0 ≤ r4 := by omega
      have b4 : r4 ≤ 536870912 + 16777216 + 44000000 := by omega
      have Q4 := Lib.hid hr4
      clear hr4
      have HB := Lib.hid (HB.out.ins' kC (.inl (by have h := HP.out; omega)))
      have HI2 := Lib.hid (HI.out.trans (kC.more (by have h := HP.out; omega) (by have h := HP.out; omega)))
      have HI := HI2
      clear kC HI2 c15
      go_wp2
      go_roundw
      case rel =>
        refine ⟨j + 1, r4, _, by omega, by go_num, rfl, Lib.hid ?_, HB, HK.out.1.trans hl, Lib.hid (fun i h hij => ?_), Lib.hid (hI.out.trans (HI.out.more (by have h := HP.out; omega) (by have h := HP.out; omega)))⟩
        · have z0 := hr.out
          have zs := HSU.out
          have z1 := Q1.out; have z2 := Q2.out; have z3 := Q3.out; have z4 := Q4.out;
          unfold bulkD at zs
          omega
        · obtain ⟨u1, u2, u3, u4, a, b⟩ := hP.out i h (by omega)
          have e3 := HC.out.le (i := j + 1) (j := i) (by omega) (by omega)
          have e4 := HC.out.high (j := i + 1) (by omega)
          exact ⟨_, _, _, _, fun q v hq => by have := lead_lt hq; rw [HK.out.2 _ (by omega)]; exact a q v hq, b.kept (HI.out.stood (by have h := HP.out; omega) (.inr e3))⟩
      case measure => simp [intOf]; omega
    · obtain rfl : j = L.length := by omega
      go_wp2
      go_ret
      have h := hr.out
      have h2 := sumN_all (weighD L)
      rw [weighD_len] at h2
      rw [h2] at h
      exact ⟨r, rfl, h.1, by have := HBU.out; omega, hI.out⟩
end Go.Proofs.YtbffkidkfannhaaGreat

namespace Go.Proofs.YtbffkidkfannhaaGreat
open Go.RowKit
set_option linter.unusedVariables false

set_option maxHeartbeats 8000000 in
set_option maxRecDepth 100000 in
theorem markReplicaS_any (lo hi : Nat) (v : Value) (L : List RepD) (k : Int) (w : World) (hv : RepzM lo hi w v L) (hs : hi ≤ w.heap.size) (h0 : 0 ≤ k) (hk : k ≤ 268435456) (h1 : bulkRep L ≤ 1048576) :
    Calls Tryz.prog 43 #[v, .int .i64 k] w (MarkUp lo hi k (bulkRep L) w) := by
  obtain ⟨g, xs0, cut, hg, rfl, hm, hb, hl0, hC, hT⟩ := hv
  have hgh : g < hi := by have := hC.lo; have := hC.high (Nat.zero_le _); omega
  unfold maxLen at hm
  have hLen : L.length ≤ 1048576 := by unfold bulkRep at h1; omega
  have hbu : bulkRep L = L.length + (weighRep L).sum := rfl
  have HBU := Lib.hid hbu
  have HGH : Hid (lo ≤ g ∧ g < hi ∧ hi ≤ w.heap.size) := Lib.hid ⟨hg, hgh, hs⟩
  have HC := Lib.hid hC
  have H1 := Lib.hid h1
  have HB0 := Lib.hid hb
  have HT0 : Hid (∀ i (h : i < L.length), 0 ≤ i → ∃ u1 u2, XRep xs0 (i * 4) L[i] u1 u2 ∧ RepE (cut i) (cut (i + 1)) w L[i] u1 u2) := Lib.hid fun i h _ => hT i h h
  clear hb hbu hC hT hg hgh hs h1 hm
  go_enter Tryz.func43, Tryz.ntmps43
  go_wp2
  go_loopw [1, 5] (fun m i wr => ∃ (j : Nat) (r : Int) (ys : List Value), j ≤ L.length ∧ i = .int .i64 j ∧ m = .int .i64 r ∧ Hid (k ≤ r ∧ r ≤ k + 16 * ((j : Int) + sumN (weighRep L) j)) ∧ Hid (BoxV wr g ys) ∧ ys.length = L.length * 4 ∧ Hid (∀ i (h : i < L.length), j ≤ i → ∃ u1 u2, XRep ys (i * 4) L[i] u1 u2 ∧ RepE (cut i) (cut (i + 1)) wr L[i] u1 u2) ∧ Hid (Ins lo hi w wr)) (fun _ i _ => L.length - (intOf i).toNat)
  case atStart => exact ⟨0, k, xs0, Nat.zero_le _, rfl, rfl, Lib.hid ⟨by omega, by rw [sumN_zero]; omega⟩, HB0, hl0, HT0, Lib.hid (Ins.refl _ _ _)⟩
  case round =>
    clear HB0 HT0 hl0
    obtain ⟨j, r, ys, hj, rfl, rfl, hr, hB, hl, hP, hI⟩ := hrel
    by_cases hlt : j < L.length
    · have hr0 : 0 ≤ r := by have := hr.out; omega
      have hr1 : r ≤ 268435456 + 16777216 := by
        have h := hr.out
        have h2 := sumN_mono (g := weighRep L) (k := j) (by rw [weighRep_len]; omega)
        have := HBU.out; have := H1.out; omega
      have hsu := sumN_succ (g := weighRep L) (k := j) (by rw [weighRep_len]; exact hlt)
      rw [weighRep_get hlt] at hsu
      obtain ⟨u1, u2, hX, hE⟩ := hP.out j hlt (Nat.le_refl _)
      obtain ⟨d, hd⟩ : ∃ d, d = L[j] := ⟨_, rfl⟩
      have hbk : bulk1Rep d ≤ 1048576 := by
        rw [hd]
        have h2 := sumN_mono (g := weighRep L) (k := j + 1) (by rw [weighRep_len]; omega)
        have := HBU.out; have := H1.out; omega
      rw [← hd] at hX hE hsu
      have bl1 : bulkT d.T ≤ 1048576 := by unfold bulk1Rep at hbk; omega
      have bl2 : bulkL d.L ≤ 1048576 := by unfold bulk1Rep at hbk; omega
      have bw1 := weighs_sum d.T
      have HSU := Lib.hid hsu
      obtain ⟨pa, t1, t2, f1, f2⟩ := hE
      have HP : Hid (g + 1 ≤ cut j ∧ cut j ≤ pa ∧ pa ≤ cut (j + 1) ∧ cut (j + 1) ≤ hi ∧ hi ≤ wr.heap.size ∧ lo ≤ g) := Lib.hid (by
        have e1 := HC.out.low (j := j) (by omega)
        have e2 := HC.out.high (j := j + 1) (by omega)
        have e3 := HC.out.le (i := j) (j := j + 1) (by omega) (by omega)
        have e4 := HGH.out
        have e5 := hI.out.size
        omega)
      have F1 := Lib.hid f1
      have F2 := Lib.hid f2
      have HR : Hid (RestX ys (j * 4) 0 (repVs d u1 u2)) := Lib.hid (fun q v _ h => hX q v h)
      have HK : Hid (KeptX ys ys (j * 4) (j * 4 + 4)) := Lib.hid (KeptX.refl _ _ _)
      have HI : Hid (Ins g (cut (j + 1)) wr wr) := Lib.hid (Ins.refl _ _ _)
      have HB := hB
      clear hX hsu hd hB f1 f2  t1 t2
      have c0 := HB.out.cell (j * 4) _ (HR.out 0 _ (by omega) rfl)
      have n0 := HB.out.free (j * 4) (by have := HK.out.1; omega)
      have c1 := HB.out.cell (j * 4 + 1) _ (HR.out 1 _ (by omega) rfl)
      have n1 := HB.out.free (j * 4 + 1) (by have := HK.out.1; omega)
      have c2 := HB.out.cell (j * 4 + 2) _ (HR.out 2 _ (by omega) rfl)
      have kS : Ins g (g + 1) wr (wr.setCells g (j * 4) [.int .i64 r, .int .i64 (r + 1)]) := ins_puts (Nat.le_refl _) (Nat.lt_succ_self _) [.int .i64 r, .int .i64 (r + 1)] _ _
      have hB2 := boxV_puts [.int .i64 r, .int .i64 (r + 1)] (j * 4) _ _ HB.out (by have := HK.out.1; simp only [List.length_cons, List.length_nil]; omega)
      have HK := Lib.hid (HK.out.put (p := j * 4) (ms := [.int .i64 r, .int .i64 (r + 1)]) (by omega) (by simp only [List.length_cons, List.length_nil]; omega))
      have HR := Lib.hid (HR.out.put (ms := [.int .i64 r, .int .i64 (r + 1)]) (p := j * 4) (q1 := 2) (by omega) (by simp only [List.length_cons, List.length_nil]; omega))
      have HI2 := Lib.hid (HI.out.trans (kS.more (Nat.le_refl _) (by have h := HP.out; have h2 := HI.out.size; omega)))
      have F1 := Lib.hid (F1.out.kept (kS.stood (by have h := HP.out; have h2 := HI.out.size; omega) (.inr (by have h := HP.out; omega))))
      have F2 := Lib.hid (F2.out.kept (kS.stood (by have h := HP.out; have h2 := HI.out.size; omega) (.inr (by have h := HP.out; omega))))
      have HI := HI2
      have HBn := Lib.hid hB2
      clear kS hB2 HI2
      go_wp2_with fail
      refine (markRowSS_any (cut j) (pa) _ d.T _ (wr.setCells g (j * 4) [.int .i64 r, .int .i64 (r + 1)]) F1.out (by omega) (by omega) (by omega)).mono ?_
      rintro e w1 ⟨rfl, kC⟩
      obtain ⟨r1, hr1⟩ : ∃ r1, r1 = r + 1 + 1 + ((weighs d.T).sum : Int) := ⟨_, rfl⟩
      rw [← hr1]
      have p1 : 0 ≤ r1 := by omega
      have b1 : r1 ≤ 268435456 + 16777216 + 11000000 := by omega
      have Q1 := Lib.hid hr1
      clear hr1
      have HB := Lib.hid (HBn.out.ins' kC (.inl (by have h := HP.out; omega)))
      have HI2 := Lib.hid (HI.out.trans (kC.more (by have h := HP.out; omega) (by have h := HP.out; omega)))
      have F2 := Lib.hid (F2.out.kept (kC.stood (by have h := HP.out; have h2 := HI.out.size; omega) (.inr (by have h := HP.out; omega))))
      have HI := HI2
      clear kC HI2 c0 n0 c1 n1 c2 HBn
      have c3 := HB.out.cell (j * 4 + 3) _ (HR.out 3 _ (by omega) rfl)
      go_wp2_with fail
      refine (markLeadS_any (pa) (cut (j + 1)) _ d.L _ w1 F2.out (by have h := HP.out; have h2 := HI.out.size; omega) (by omega) (by omega) (by omega)).mono ?_
      rintro e w2 ⟨r2, rfl, ra, rb, kC⟩
      have p2 : 0 ≤ r2 := by omega
      have b2 : r2 ≤ 268435456 + 16777216 + 34000000 := by omega
      have Q2 : Hid (r1 ≤ r2 ∧ r2 ≤ r1 + 16 * (bulkL d.L : Nat)) := Lib.hid ⟨by omega, by omega⟩
      clear ra rb
      have HB := Lib.hid (HB.out.ins' kC (.inl (by have h := HP.out; omega)))
      have HI2 := Lib.hid (HI.out.trans (kC.more (by have h := HP.out; omega) (by have h := HP.out; omega)))
      have HI := HI2
      clear kC HI2 c3
      go_wp2
      go_roundw
      case rel =>
        refine ⟨j + 1, r2, _, by omega, by go_num, rfl, Lib.hid ?_, HB, HK.out.1.trans hl, Lib.hid (fun i h hij => ?_), Lib.hid (hI.out.trans (HI.out.more (by have h := HP.out; omega) (by have h := HP.out; omega)))⟩
        · have z0 := hr.out
          have zs := HSU.out
          have z1 := Q1.out; have z2 := Q2.out;
          unfold bulk1Rep at zs
          omega
        · obtain ⟨u1, u2, a, b⟩ := hP.out i h (by omega)
          have e3 := HC.out.le (i := j + 1) (j := i) (by omega) (by omega)
          have e4 := HC.out.high (j := i + 1) (by omega)
          exact ⟨_, _, fun q v hq => by have := rep_lt hq; rw [HK.out.2 _ (by omega)]; exact a q v hq, b.kept (HI.out.stood (by have h := HP.out; omega) (.inr e3))⟩
      case measure => simp [intOf]; omega
    · obtain rfl : j = L.length := by omega
      go_wp2
      go_ret
      have h := hr.out
      have h2 := sumN_all (weighRep L)
      rw [weighRep_len] at h2
      rw [h2] at h
      exact ⟨r, rfl, h.1, by have := HBU.out; omega, hI.out⟩
end Go.Proofs.YtbffkidkfannhaaGreat

namespace Go.Proofs.YtbffkidkfannhaaGreat
open Go.RowKit
set_option linter.unusedVariables false

set_option maxHeartbeats 8000000 in
set_option maxRecDepth 100000 in
theorem markMsgS_any (lo hi : Nat) (v : Value) (L : List MsgD) (k : Int) (w : World) (hv : MeszM lo hi w v L) (hs : hi ≤ w.heap.size) (h0 : 0 ≤ k) (hk : k ≤ 268435456) (h1 : bulkMes L ≤ 1048576) :
    Calls Tryz.prog 44 #[v, .int .i64 k] w (MarkUp lo hi k (bulkMes L) w) := by
  obtain ⟨g, xs0, cut, hg, rfl, hm, hb, hl0, hC, hT⟩ := hv
  have hgh : g < hi := by have := hC.lo; have := hC.high (Nat.zero_le _); omega
  unfold maxLen at hm
  have hLen : L.length ≤ 1048576 := by unfold bulkMes at h1; omega
  have hbu : bulkMes L = L.length + (weighMes L).sum := rfl
  have HBU := Lib.hid hbu
  have HGH : Hid (lo ≤ g ∧ g < hi ∧ hi ≤ w.heap.size) := Lib.hid ⟨hg, hgh, hs⟩
  have HC := Lib.hid hC
  have H1 := Lib.hid h1
  have HB0 := Lib.hid hb
  have HT0 : Hid (∀ i (h : i < L.length), 0 ≤ i → ∃ u1, XMes xs0 (i * 15) L[i] u1 ∧ MesE (cut i) (cut (i + 1)) w L[i] u1) := Lib.hid fun i h _ => hT i h h
  clear hb hbu hC hT hg hgh hs h1 hm
  go_enter Tryz.func44, Tryz.ntmps44
  go_wp2
  go_loopw [1, 5] (fun m i wr => ∃ (j : Nat) (r : Int) (ys : List Value), j ≤ L.length ∧ i = .int .i64 j ∧ m = .int .i64 r ∧ Hid (k ≤ r ∧ r ≤ k + 16 * ((j : Int) + sumN (weighMes L) j)) ∧ Hid (BoxV wr g ys) ∧ ys.length = L.length * 15 ∧ Hid (∀ i (h : i < L.length), j ≤ i → ∃ u1, XMes ys (i * 15) L[i] u1 ∧ MesE (cut i) (cut (i + 1)) wr L[i] u1) ∧ Hid (Ins lo hi w wr)) (fun _ i _ => L.length - (intOf i).toNat)
  case atStart => exact ⟨0, k, xs0, Nat.zero_le _, rfl, rfl, Lib.hid ⟨by omega, by rw [sumN_zero]; omega⟩, HB0, hl0, HT0, Lib.hid (Ins.refl _ _ _)⟩
  case round =>
    clear HB0 HT0 hl0
    obtain ⟨j, r, ys, hj, rfl, rfl, hr, hB, hl, hP, hI⟩ := hrel
    by_cases hlt : j < L.length
    · have hr0 : 0 ≤ r := by have := hr.out; omega
      have hr1 : r ≤ 268435456 + 16777216 := by
        have h := hr.out
        have h2 := sumN_mono (g := weighMes L) (k := j) (by rw [weighMes_len]; omega)
        have := HBU.out; have := H1.out; omega
      have hsu := sumN_succ (g := weighMes L) (k := j) (by rw [weighMes_len]; exact hlt)
      rw [weighMes_get hlt] at hsu
      obtain ⟨u1, hX, hE⟩ := hP.out j hlt (Nat.le_refl _)
      obtain ⟨d, hd⟩ : ∃ d, d = L[j] := ⟨_, rfl⟩
      have hbk : bulk1Mes d ≤ 1048576 := by
        rw [hd]
        have h2 := sumN_mono (g := weighMes L) (k := j + 1) (by rw [weighMes_len]; omega)
        have := HBU.out; have := H1.out; omega
      rw [← hd] at hX hE hsu
      have bl1 : d.l.length ≤ 1048576 := by unfold bulk1Mes at hbk; omega
      have HSU := Lib.hid hsu
      have f1 : FrR (cut j) (cut (j + 1)) wr u1 d.l := hE
      have HP : Hid (g + 1 ≤ cut j ∧ cut j ≤ cut (j + 1) ∧ cut (j + 1) ≤ hi ∧ hi ≤ wr.heap.size ∧ lo ≤ g) := Lib.hid (by
        have e1 := HC.out.low (j := j) (by omega)
        have e2 := HC.out.high (j := j + 1) (by omega)
        have e3 := HC.out.le (i := j) (j := j + 1) (by omega) (by omega)
        have e4 := HGH.out
        have e5 := hI.out.size
        omega)
      have F1 := Lib.hid f1
      have HR : Hid (RestX ys (j * 15) 0 (mesVs d u1)) := Lib.hid (fun q v _ h => hX q v h)
      have HK : Hid (KeptX ys ys (j * 15) (j * 15 + 15)) := Lib.hid (KeptX.refl _ _ _)
      have HI : Hid (Ins g (cut (j + 1)) wr wr) := Lib.hid (Ins.refl _ _ _)
      have HB := hB
      clear hX hsu hd hB f1 hE 
      have c0 := HB.out.cell (j * 15) _ (HR.out 0 _ (by omega) rfl)
      have n0 := HB.out.free (j * 15) (by have := HK.out.1; omega)
      have c1 := HB.out.cell (j * 15 + 1) _ (HR.out 1 _ (by omega) rfl)
      have n1 := HB.out.free (j * 15 + 1) (by have := HK.out.1; omega)
      have c2 := HB.out.cell (j * 15 + 2) _ (HR.out 2 _ (by omega) rfl)
      have n2 := HB.out.free (j * 15 + 2) (by have := HK.out.1; omega)
      have c3 := HB.out.cell (j * 15 + 3) _ (HR.out 3 _ (by omega) rfl)
      have n3 := HB.out.free (j * 15 + 3) (by have := HK.out.1; omega)
      have c4 := HB.out.cell (j * 15 + 4) _ (HR.out 4 _ (by omega) rfl)
      have n4 := HB.out.free (j * 15 + 4) (by have := HK.out.1; omega)
      have c5 := HB.out.cell (j * 15 + 5) _ (HR.out 5 _ (by omega) rfl)
      have n5 := HB.out.free (j * 15 + 5) (by have := HK.out.1; omega)
      have c6 := HB.out.cell (j * 15 + 6) _ (HR.out 6 _ (by omega) rfl)
      have n6 := HB.out.free (j * 15 + 6) (by have := HK.out.1; omega)
      have c7 := HB.out.cell (j * 15 + 7) _ (HR.out 7 _ (by omega) rfl)
      have n7 := HB.out.free (j * 15 + 7) (by have := HK.out.1; omega)
      have c8 := HB.out.cell (j * 15 + 8) _ (HR.out 8 _ (by omega) rfl)
      have n8 := HB.out.free (j * 15 + 8) (by have := HK.out.1; omega)
      have c9 := HB.out.cell (j * 15 + 9) _ (HR.out 9 _ (by omega) rfl)
      have n9 := HB.out.free (j * 15 + 9) (by have := HK.out.1; omega)
      have c10 := HB.out.cell (j * 15 + 10) _ (HR.out 10 _ (by omega) rfl)
      have n10 := HB.out.free (j * 15 + 10) (by have := HK.out.1; omega)
      have c11 := HB.out.cell (j * 15 + 11) _ (HR.out 11 _ (by omega) rfl)
      have n11 := HB.out.free (j * 15 + 11) (by have := HK.out.1; omega)
      have c12 := HB.out.cell (j * 15 + 12) _ (HR.out 12 _ (by omega) rfl)
      have n12 := HB.out.free (j * 15 + 12) (by have := HK.out.1; omega)
      have c13 := HB.out.cell (j * 15 + 13) _ (HR.out 13 _ (by omega) rfl)
      have n13 := HB.out.free (j * 15 + 13) (by have := HK.out.1; omega)
      have c14 := HB.out.cell (j * 15 + 14) _ (HR.out 14 _ (by omega) rfl)
      have kS : Ins g (g + 1) wr (wr.setCells g (j * 15) [.int .i64 r, .int .i64 (r + 1), .int .i64 (r + 1 + 1), .int .i64 (r + 1 + 1 + 1), .int .i64 (r + 1 + 1 + 1 + 1), .int .i64 (r + 1 + 1 + 1 + 1 + 1), .int .i64 (r + 1 + 1 + 1 + 1 + 1 + 1), .int .i64 (r + 1 + 1 + 1 + 1 + 1 + 1 + 1), .int .i64 (r + 1 + 1 + 1 + 1 + 1 + 1 + 1 + 1), .int .i64 (r + 1 + 1 + 1 + 1 + 1 + 1 + 1 + 1 + 1), .int .i64 (r + 1 + 1 + 1 + 1 + 1 + 1 + 1 + 1 + 1 + 1), .int .i64 (r + 1 + 1 + 1 + 1 + 1 + 1 + 1 + 1 + 1 + 1 + 1), .int .i64 (r + 1 + 1 + 1 + 1 + 1 + 1 + 1 + 1 + 1 + 1 + 1 + 1), .int .i64 (r + 1 + 1 + 1 + 1 + 1 + 1 + 1 + 1 + 1 + 1 + 1 + 1 + 1)]) := ins_puts (Nat.le_refl _) (Nat.lt_succ_self _) [.int .i64 r, .int .i64 (r + 1), .int .i64 (r + 1 + 1), .int .i64 (r + 1 + 1 + 1), .int .i64 (r + 1 + 1 + 1 + 1), .int .i64 (r + 1 + 1 + 1 + 1 + 1), .int .i64 (r + 1 + 1 + 1 + 1 + 1 + 1), .int .i64 (r + 1 + 1 + 1 + 1 + 1 + 1 + 1), .int .i64 (r + 1 + 1 + 1 + 1 + 1 + 1 + 1 + 1), .int .i64 (r + 1 + 1 + 1 + 1 + 1 + 1 + 1 + 1 + 1), .int .i64 (r + 1 + 1 + 1 + 1 + 1 + 1 + 1 + 1 + 1 + 1), .int .i64 (r + 1 + 1 + 1 + 1 + 1 + 1 + 1 + 1 + 1 + 1 + 1), .int .i64 (r + 1 + 1 + 1 + 1 + 1 + 1 + 1 + 1 + 1 + 1 + 1 + 1), .int .i64 (r + 1 + 1 + 1 + 1 + 1 + 1 + 1 + 1 + 1 + 1 + 1 + 1 + 1)] _ _
      have hB2 := boxV_puts [.int .i64 r, .int .i64 (r + 1), .int .i64 (r + 1 + 1), .int .i64 (r + 1 + 1 + 1), .int .i64 (r + 1 + 1 + 1 + 1), .int .i64 (r + 1 + 1 + 1 + 1 + 1), .int .i64 (r + 1 + 1 + 1 + 1 + 1 + 1), .int .i64 (r + 1 + 1 + 1 + 1 + 1 + 1 + 1), .int .i64 (r + 1 + 1 + 1 + 1 + 1 + 1 + 1 + 1), .int .i64 (r + 1 + 1 + 1 + 1 + 1 + 1 + 1 + 1 + 1), .int .i64 (r + 1 + 1 + 1 + 1 + 1 + 1 + 1 + 1 + 1 + 1), .int .i64 (r + 1 + 1 + 1 + 1 + 1 + 1 + 1 + 1 + 1 + 1 + 1), .int .i64 (r + 1 + 1 + 1 + 1 + 1 + 1 + 1 + 1 + 1 + 1 + 1 + 1), .int .i64 (r + 1 + 1 + 1 + 1 + 1 + 1 + 1 + 1 + 1 + 1 + 1 + 1 + 1)] (j * 15) _ _ HB.out (by have := HK.out.1; simp only [List.length_cons, List.length_nil]; omega)
      have HK := Lib.hid (HK.out.put (p := j * 15) (ms := [.int .i64 r, .int .i64 (r + 1), .int .i64 (r + 1 + 1), .int .i64 (r + 1 + 1 + 1), .int .i64 (r + 1 + 1 + 1 + 1), .int .i64 (r + 1 + 1 + 1 + 1 + 1), .int .i64 (r + 1 + 1 + 1 + 1 + 1 + 1), .int .i64 (r + 1 + 1 + 1 + 1 + 1 + 1 + 1), .int .i64 (r + 1 + 1 + 1 + 1 + 1 + 1 + 1 + 1), .int .i64 (r + 1 + 1 + 1 + 1 + 1 + 1 + 1 + 1 + 1), .int .i64 (r + 1 + 1 + 1 + 1 + 1 + 1 + 1 + 1 + 1 + 1), .int .i64 (r + 1 + 1 + 1 + 1 + 1 + 1 + 1 + 1 + 1 + 1 + 1), .int .i64 (r + 1 + 1 + 1 + 1 + 1 + 1 + 1 + 1 + 1 + 1 + 1 + 1), .int .i64 (r + 1 + 1 + 1 + 1 + 1 + 1 + 1 + 1 + 1 + 1 + 1 + 1 + 1)]) (by omega) (by simp only [List.length_cons, List.length_nil]; omega))
      have HR := Lib.hid (HR.out.put (ms := [.int .i64 r, .int .i64 (r + 1), .int .i64 (r + 1 + 1), .int .i64 (r + 1 + 1 + 1), .int .i64 (r + 1 + 1 + 1 + 1), .int .i64 (r + 1 + 1 + 1 + 1 + 1), .int .i64 (r + 1 + 1 + 1 + 1 + 1 + 1), .int .i64 (r + 1 + 1 + 1 + 1 + 1 + 1 + 1), .int .i64 (r + 1 + 1 + 1 + 1 + 1 + 1 + 1 + 1), .int .i64 (r + 1 + 1 + 1 + 1 + 1 + 1 + 1 + 1 + 1), .int .i64 (r + 1 + 1 + 1 + 1 + 1 + 1 + 1 + 1 + 1 + 1), .int .i64 (r + 1 + 1 + 1 + 1 + 1 + 1 + 1 + 1 + 1 + 1 + 1), .int .i64 (r + 1 + 1 + 1 + 1 + 1 + 1 + 1 + 1 + 1 + 1 + 1 + 1), .int .i64 (r + 1 + 1 + 1 + 1 + 1 + 1 + 1 + 1 + 1 + 1 + 1 + 1 + 1)]) (p := j * 15) (q1 := 14) (by omega) (by simp only [List.length_cons, List.length_nil]; omega))
      have HI2 := Lib.hid (HI.out.trans (kS.more (Nat.le_refl _) (by have h := HP.out; have h2 := HI.out.size; omega)))
      have F1 := Lib.hid (F1.out.kept (kS.stood (by have h := HP.out; have h2 := HI.out.size; omega) (.inr (by have h := HP.out; omega))))
      have HI := HI2
      have HBn := Lib.hid hB2
      clear kS hB2 HI2
      go_wp2_with fail
      refine (markIntS_any (cut j) _ d.l _ (wr.setCells g (j * 15) [.int .i64 r, .int .i64 (r + 1), .int .i64 (r + 1 + 1), .int .i64 (r + 1 + 1 + 1), .int .i64 (r + 1 + 1 + 1 + 1), .int .i64 (r + 1 + 1 + 1 + 1 + 1), .int .i64 (r + 1 + 1 + 1 + 1 + 1 + 1), .int .i64 (r + 1 + 1 + 1 + 1 + 1 + 1 + 1), .int .i64 (r + 1 + 1 + 1 + 1 + 1 + 1 + 1 + 1), .int .i64 (r + 1 + 1 + 1 + 1 + 1 + 1 + 1 + 1 + 1), .int .i64 (r + 1 + 1 + 1 + 1 + 1 + 1 + 1 + 1 + 1 + 1), .int .i64 (r + 1 + 1 + 1 + 1 + 1 + 1 + 1 + 1 + 1 + 1 + 1), .int .i64 (r + 1 + 1 + 1 + 1 + 1 + 1 + 1 + 1 + 1 + 1 + 1 + 1), .int .i64 (r + 1 + 1 + 1 + 1 + 1 + 1 + 1 + 1 + 1 + 1 + 1 + 1 + 1)]) F1.out.fresh (by omega) (by omega)).mono ?_
      rintro e w1 ⟨rfl, ff, tt⟩
      have kC : Ins (cut j) (cut (j + 1)) (wr.setCells g (j * 15) [.int .i64 r, .int .i64 (r + 1), .int .i64 (r + 1 + 1), .int .i64 (r + 1 + 1 + 1), .int .i64 (r + 1 + 1 + 1 + 1), .int .i64 (r + 1 + 1 + 1 + 1 + 1), .int .i64 (r + 1 + 1 + 1 + 1 + 1 + 1), .int .i64 (r + 1 + 1 + 1 + 1 + 1 + 1 + 1), .int .i64 (r + 1 + 1 + 1 + 1 + 1 + 1 + 1 + 1), .int .i64 (r + 1 + 1 + 1 + 1 + 1 + 1 + 1 + 1 + 1), .int .i64 (r + 1 + 1 + 1 + 1 + 1 + 1 + 1 + 1 + 1 + 1), .int .i64 (r + 1 + 1 + 1 + 1 + 1 + 1 + 1 + 1 + 1 + 1 + 1), .int .i64 (r + 1 + 1 + 1 + 1 + 1 + 1 + 1 + 1 + 1 + 1 + 1 + 1), .int .i64 (r + 1 + 1 + 1 + 1 + 1 + 1 + 1 + 1 + 1 + 1 + 1 + 1 + 1)]) w1 := Ins.of_grown tt (fun b e => ⟨(World.ownsRow.lt F1.out.fresh b e).1, F1.out.und b e⟩)
      clear ff tt
      obtain ⟨r1, hr1⟩ : ∃ r1, r1 = r + 1 + 1 + 1 + 1 + 1 + 1 + 1 + 1 + 1 + 1 + 1 + 1 + 1 + 1 + (d.l.length : Int) := ⟨_, rfl⟩
      rw [← hr1]
      have p1 : 0 ≤ r1 := by omega
      have b1 : r1 ≤ 268435456 + 16777216 + 11000000 := by omega
      have Q1 := Lib.hid hr1
      clear hr1
      have HB := Lib.hid (HBn.out.ins' kC (.inl (by have h := HP.out; omega)))
      have HI2 := Lib.hid (HI.out.trans (kC.more (by have h := HP.out; omega) (by have h := HP.out; omega)))
      have HI := HI2
      clear kC HI2 c0 n0 c1 n1 c2 n2 c3 n3 c4 n4 c5 n5 c6 n6 c7 n7 c8 n8 c9 n9 c10 n10 c11 n11 c12 n12 c13 n13 c14 HBn
      go_wp2
      go_roundw
      case rel =>
        refine ⟨j + 1, r1, _, by omega, by go_num, rfl, Lib.hid ?_, HB, HK.out.1.trans hl, Lib.hid (fun i h hij => ?_), Lib.hid (hI.out.trans (HI.out.more (by have h := HP.out; omega) (by have h := HP.out; omega)))⟩
        · have z0 := hr.out
          have zs := HSU.out
          have z1 := Q1.out;
          unfold bulk1Mes at zs
          omega
        · obtain ⟨u1, a, b⟩ := hP.out i h (by omega)
          have e3 := HC.out.le (i := j + 1) (j := i) (by omega) (by omega)
          have e4 := HC.out.high (j := i + 1) (by omega)
          exact ⟨_, fun q v hq => by have := mes_lt hq; rw [HK.out.2 _ (by omega)]; exact a q v hq, b.kept (HI.out.stood (by have h := HP.out; omega) (.inr e3))⟩
      case measure => simp [intOf]; omega
    · obtain rfl : j = L.length := by omega
      go_wp2
      go_ret
      have h := hr.out
      have h2 := sumN_all (weighMes L)
      rw [weighMes_len] at h2
      rw [h2] at h
      exact ⟨r, rfl, h.1, by have := HBU.out; omega, hI.out⟩
end Go.Proofs.YtbffkidkfannhaaGreat

namespace Go.Proofs.YtbffkidkfannhaaGreat
open Go.RowKit
set_option linter.unusedVariables false

set_option maxHeartbeats 8000000 in
set_option maxRecDepth 100000 in
theorem markAskedS_any (lo hi : Nat) (v : Value) (L : List AskD) (k : Int) (w : World) (hv : AskzM lo hi w v L) (hs : hi ≤ w.heap.size) (h0 : 0 ≤ k) (hk : k ≤ 268435456) (h1 : bulkAsk L ≤ 1048576) :
    Calls Tryz.prog 45 #[v, .int .i64 k] w (MarkUp lo hi k (bulkAsk L) w) := by
  obtain ⟨g, xs0, hg, hgh, rfl, hm, hb, hl0, hT⟩ := hv
  unfold maxLen at hm
  have hLen : L.length ≤ 1048576 := by unfold bulkAsk at h1; omega
  have hbu : bulkAsk L = L.length + (weighAsk L).sum := rfl
  have HBU := Lib.hid hbu
  have HGH : Hid (lo ≤ g ∧ g < hi ∧ hi ≤ w.heap.size) := Lib.hid ⟨hg, hgh, hs⟩
  skip
  have H1 := Lib.hid h1
  have HB0 := Lib.hid hb
  have HT0 : Hid (∀ i (h : i < L.length), 0 ≤ i → XAsk xs0 (i * 7) L[i] ) := Lib.hid fun i h _ => hT i h h
  clear hb hbu  hT hg hgh hs h1 hm
  go_enter Tryz.func45, Tryz.ntmps45
  go_wp2
  go_loopw [1, 5] (fun m i wr => ∃ (j : Nat) (r : Int) (ys : List Value), j ≤ L.length ∧ i = .int .i64 j ∧ m = .int .i64 r ∧ Hid (k ≤ r ∧ r ≤ k + 16 * ((j : Int) + sumN (weighAsk L) j)) ∧ Hid (BoxV wr g ys) ∧ ys.length = L.length * 7 ∧ Hid (∀ i (h : i < L.length), j ≤ i → XAsk ys (i * 7) L[i] ) ∧ Hid (Ins lo hi w wr)) (fun _ i _ => L.length - (intOf i).toNat)
  case atStart => exact ⟨0, k, xs0, Nat.zero_le _, rfl, rfl, Lib.hid ⟨by omega, by rw [sumN_zero]; omega⟩, HB0, hl0, HT0, Lib.hid (Ins.refl _ _ _)⟩
  case round =>
    clear HB0 HT0 hl0
    obtain ⟨j, r, ys, hj, rfl, rfl, hr, hB, hl, hP, hI⟩ := hrel
    by_cases hlt : j < L.length
    · have hr0 : 0 ≤ r := by have := hr.out; omega
      have hr1 : r ≤ 268435456 + 16777216 := by
        have h := hr.out
        have h2 := sumN_mono (g := weighAsk L) (k := j) (by rw [weighAsk_len]; omega)
        have := HBU.out; have := H1.out; omega
      have hsu := sumN_succ (g := weighAsk L) (k := j) (by rw [weighAsk_len]; exact hlt)
      rw [weighAsk_get hlt] at hsu
      have hX := hP.out j hlt (Nat.le_refl _)
      obtain ⟨d, hd⟩ : ∃ d, d = L[j] := ⟨_, rfl⟩
      have hbk : bulk1Ask d ≤ 1048576 := by
        rw [hd]
        have h2 := sumN_mono (g := weighAsk L) (k := j + 1) (by rw [weighAsk_len]; omega)
        have := HBU.out; have := H1.out; omega
      rw [← hd] at hX hsu
      skip
      have HSU := Lib.hid hsu
      skip
      have HP : Hid (g + 1 ≤ hi ∧ hi ≤ wr.heap.size ∧ lo ≤ g) := Lib.hid (by have e4 := HGH.out; have e5 := hI.out.size; omega)
      have HR : Hid (RestX ys (j * 7) 0 (askVs d )) := Lib.hid (fun q v _ h => hX q v h)
      have HK : Hid (KeptX ys ys (j * 7) (j * 7 + 7)) := Lib.hid (KeptX.refl _ _ _)
      have HI : Hid (Ins g (hi) wr wr) := Lib.hid (Ins.refl _ _ _)
      have HB := hB
      clear hX hsu hd hB   
      have c0 := HB.out.cell (j * 7) _ (HR.out 0 _ (by omega) rfl)
      have n0 := HB.out.free (j * 7) (by have := HK.out.1; omega)
      have c1 := HB.out.cell (j * 7 + 1) _ (HR.out 1 _ (by omega) rfl)
      have n1 := HB.out.free (j * 7 + 1) (by have := HK.out.1; omega)
      have c2 := HB.out.cell (j * 7 + 2) _ (HR.out 2 _ (by omega) rfl)
      have n2 := HB.out.free (j * 7 + 2) (by have := HK.out.1; omega)
      have c3 := HB.out.cell (j * 7 + 3) _ (HR.out 3 _ (by omega) rfl)
      have n3 := HB.out.free (j * 7 + 3) (by have := HK.out.1; omega)
      have c4 := HB.out.cell (j * 7 + 4) _ (HR.out 4 _ (by omega) rfl)
      have n4 := HB.out.free (j * 7 + 4) (by have := HK.out.1; omega)
      have c5 := HB.out.cell (j * 7 + 5) _ (HR.out 5 _ (by omega) rfl)
      have n5 := HB.out.free (j * 7 + 5) (by have := HK.out.1; omega)
      have c6 := HB.out.cell (j * 7 + 6) _ (HR.out 6 _ (by omega) rfl)
      have n6 := HB.out.free (j * 7 + 6) (by have := HK.out.1; omega)
      go_wp2
      clear c0 n0 c1 n1 c2 n2 c3 n3 c4 n4 c5 n5 c6 n6
      have kS : Ins g (g + 1) wr (wr.setCells g (j * 7) [.int .i64 r, .int .i64 (r + 1), .int .i64 (r + 1 + 1), .int .i64 (r + 1 + 1 + 1), .int .i64 (r + 1 + 1 + 1 + 1), .int .i64 (r + 1 + 1 + 1 + 1 + 1), .int .i64 (r + 1 + 1 + 1 + 1 + 1 + 1)]) := ins_puts (Nat.le_refl _) (Nat.lt_succ_self _) [.int .i64 r, .int .i64 (r + 1), .int .i64 (r + 1 + 1), .int .i64 (r + 1 + 1 + 1), .int .i64 (r + 1 + 1 + 1 + 1), .int .i64 (r + 1 + 1 + 1 + 1 + 1), .int .i64 (r + 1 + 1 + 1 + 1 + 1 + 1)] _ _
      have hB2 := boxV_puts [.int .i64 r, .int .i64 (r + 1), .int .i64 (r + 1 + 1), .int .i64 (r + 1 + 1 + 1), .int .i64 (r + 1 + 1 + 1 + 1), .int .i64 (r + 1 + 1 + 1 + 1 + 1), .int .i64 (r + 1 + 1 + 1 + 1 + 1 + 1)] (j * 7) _ _ HB.out (by have := HK.out.1; simp only [List.length_cons, List.length_nil]; omega)
      have HK := Lib.hid (HK.out.put (p := j * 7) (ms := [.int .i64 r, .int .i64 (r + 1), .int .i64 (r + 1 + 1), .int .i64 (r + 1 + 1 + 1), .int .i64 (r + 1 + 1 + 1 + 1), .int .i64 (r + 1 + 1 + 1 + 1 + 1), .int .i64 (r + 1 + 1 + 1 + 1 + 1 + 1)]) (by omega) (by simp only [List.length_cons, List.length_nil]; omega))
      have HR := Lib.hid (HR.out.put (ms := [.int .i64 r, .int .i64 (r + 1), .int .i64 (r + 1 + 1), .int .i64 (r + 1 + 1 + 1), .int .i64 (r + 1 + 1 + 1 + 1), .int .i64 (r + 1 + 1 + 1 + 1 + 1), .int .i64 (r + 1 + 1 + 1 + 1 + 1 + 1)]) (p := j * 7) (q1 := 7) (by omega) (by simp only [List.length_cons, List.length_nil]; omega))
      have HI2 := Lib.hid (HI.out.trans (kS.more (Nat.le_refl _) (by have h := HP.out; have h2 := HI.out.size; omega)))
      have HI := HI2
      have HBn := Lib.hid hB2
      clear kS hB2 HI2
      have HB := HBn
      go_roundw
      case rel =>
        refine ⟨j + 1, r + 1 + 1 + 1 + 1 + 1 + 1 + 1, _, by omega, by go_num, rfl, Lib.hid ?_, HB, HK.out.1.trans hl, Lib.hid (fun i h hij => ?_), Lib.hid (hI.out.trans (HI.out.more (by have h := HP.out; omega) (by have h := HP.out; omega)))⟩
        · have z0 := hr.out
          have zs := HSU.out
          
          unfold bulk1Ask at zs
          omega
        · have a := hP.out i h (by omega)
          exact fun q v hq => by have := ask_lt hq; rw [HK.out.2 _ (by omega)]; exact a q v hq
      case measure => simp [intOf]; omega
    · obtain rfl : j = L.length := by omega
      go_wp2
      go_ret
      have h := hr.out
      have h2 := sumN_all (weighAsk L)
      rw [weighAsk_len] at h2
      rw [h2] at h
      exact ⟨r, rfl, h.1, by have := HBU.out; omega, hI.out⟩
end Go.Proofs.YtbffkidkfannhaaGreat

namespace Go.Proofs.YtbffkidkfannhaaGreat
open Go.RowKit
set_option linter.unusedVariables false

set_option maxHeartbeats 2000000 in
theorem markNet_any (lo hi : Nat) (u v z : Value) (R : List RepD) (M : List MsgD) (K : List AskD) (k : Int) (w : World) (hn : NetM lo hi w u v z R M K) (hs : hi ≤ w.heap.size) (h0 : 0 ≤ k) (hk : k ≤ 134217728) (h1 : bulkN R M K ≤ 1048576) :
    Calls Tryz.prog 17 #[.agg #[u, v, z], .int .i64 k] w (MarkUp lo hi k (bulkN R M K) w) := by
  obtain ⟨c1, c2, m1, m2, m3⟩ := hn
  have o1 := m1.ord
  have o2 := m2.ord
  have o3 := m3.ord
  unfold bulkN at h1
  have xb := Ext.alloc1 w (.cells #[u, v, z] 35)
  have HB := Lib.hid (boxV_new w [u, v, z] 35)
  have HS : Hid (lo ≤ c1 ∧ c1 ≤ c2 ∧ c2 ≤ hi ∧ hi ≤ w.heap.size ∧ hi ≤ (w.alloc (.cells #[u, v, z] 35)).heap.size) := Lib.hid ⟨o1, o2, o3, hs, Nat.le_trans hs xb.size⟩
  have M1 := Lib.hid (m1.kept (Stood.of_ext xb (by omega)))
  have M2 := Lib.hid (m2.kept (Stood.of_ext xb (by omega)))
  have M3 := Lib.hid (m3.kept (Stood.of_ext xb (by omega)))
  have X0 : Hid (Ins lo hi w (w.alloc (.cells #[u, v, z] 35))) := Lib.hid (Ins.of_ext xb)
  clear m1 m2 m3 o1 o2 o3 hs xb
  have a0 := HB.out.cell 0 _ rfl
  go_enter Tryz.func17, Tryz.ntmps17
  go_wp2_with fail
  refine (markReplicaS_any lo c1 _ R _ _ M1.out (by have h := HS.out; have h2 := X0.out.size; omega) (by omega) (by omega) (by omega)).mono ?_
  rintro e w1 ⟨r1, rfl, p1, q1, i1⟩
  have X1 := Lib.hid (X0.out.trans (i1.more (lo' := lo) (hi' := hi) (by have h := HS.out; omega) (by have h := HS.out; omega)))
  have HB := Lib.hid (HB.out.ins' i1 (.inr (by have h := HS.out; omega)))
  have M2 := Lib.hid (M2.out.kept (i1.stood (by have h := HS.out; have h2 := X0.out.size; omega) (.inr (by have h := HS.out; omega))))
  have M3 := Lib.hid (M3.out.kept (i1.stood (by have h := HS.out; have h2 := X0.out.size; omega) (.inr (by have h := HS.out; omega))))
  clear i1 a0
  have a1 := HB.out.cell 1 _ rfl
  go_wp2_with fail
  refine (markMsgS_any c1 c2 _ M _ _ M2.out (by have h := HS.out; have h2 := X1.out.size; omega) (by omega) (by omega) (by omega)).mono ?_
  rintro e w2 ⟨r2, rfl, p2, q2, i2⟩
  have X2 := Lib.hid (X1.out.trans (i2.more (lo' := lo) (hi' := hi) (by have h := HS.out; omega) (by have h := HS.out; omega)))
  have HB := Lib.hid (HB.out.ins' i2 (.inr (by have h := HS.out; omega)))
  have M3 := Lib.hid (M3.out.kept (i2.stood (by have h := HS.out; have h2 := X1.out.size; omega) (.inr (by have h := HS.out; omega))))
  clear i2 a1
  have a2 := HB.out.cell 2 _ rfl
  go_wp2_with fail
  refine (markAskedS_any c2 hi _ K _ _ M3.out (by have h := HS.out; have h2 := X2.out.size; omega) (by omega) (by omega) (by omega)).mono ?_
  rintro e w3 ⟨r3, rfl, p3, q3, i3⟩
  have X3 := Lib.hid (X2.out.trans (i3.more (lo' := lo) (hi' := hi) (by have h := HS.out; omega) (by have h := HS.out; omega)))
  have HB := Lib.hid (HB.out.ins' i3 (.inr (by have h := HS.out; omega)))
  clear i3 a2
  go_wp2
  go_ret
  exact ⟨r3, rfl, by omega, by unfold bulkN; omega, X3.out⟩
end Go.Proofs.YtbffkidkfannhaaGreat

namespace Go.Proofs.YtbffkidkfannhaaGreat
open Go.ChangeShapes Go.WideShapes Go.RowKit Go.Deep

theorem ints_ofS {w : World} {ao : Option Addr} {len cap : Nat} {zs : List Int} (hl : len ≤ cap) (hm : cap ≤ maxLen) (hz : zs.length = cap) (hn : ao = none → cap = 0)
    (hc : ∀ a, ao = some a → ∀ i, i < zs.length → w.cell? (a.add i) = some (.int .i64 (zs.getD i 0))) : Ints w (.slice ao len cap) (zs.take len) := by
  have e : (zs.take len).length = len := by rw [List.length_take]; omega
  refine ⟨ao, cap, by rw [e], by omega, ⟨by omega, hm, hn⟩, fun hp => ?_⟩
  rw [e] at hp
  cases ao with
  | none => have := hn rfl; omega
  | some a =>
    obtain ⟨b, off, rfl, hcc⟩ := ints_at (hc a rfl) (by omega)
    refine ⟨b, off, rfl, fun j hj => ?_⟩
    rw [hcc j (by omega), List.getElem?_take, if_pos (by omega), List.getD_eq_getElem?_getD]

set_option maxRecDepth 100000 in
theorem open_intS {H : Type} {enc : TypeId × Value → H} {w : World} {base : Nat} {held : Bool} {r : Go.Reach} {b0 : Nat} {v : Value} {d : DataW H} {p : List MemPlace}
    (hv : Value.okWide Tryz.prog w r b0 27 v) (h : DataW.Trod enc Tryz.prog w base (fun _ => true) held 27 v d p) :
    ∃ l, Ints w v l ∧ ∀ x ∈ l, wf64 x := by
  obtain ⟨a, len, cap, rfl⟩ := okWide_slice Tryz.underlying27 hv
  obtain ⟨fuel, hf⟩ := h
  rcases open_ints Tryz.underlying27 Tryz.underlying3 (by kernel_rfl) hf with ⟨hcs, _⟩ | ⟨x, l, c, zs, hcs, _, hl, hm, hz, _, hcell, hwz⟩
  · simp [Value.cells] at hcs
    obtain ⟨rfl, rfl, rfl⟩ := hcs
    exact ⟨[], Ints.nil w, fun _ h => by cases h⟩
  · simp [Value.cells] at hcs
    obtain ⟨rfl, rfl, rfl⟩ := hcs
    refine ⟨zs.take len, ints_ofS hl hm (by simpa using hz) (fun h => by cases h) (fun a' ha => by cases ha; exact hcell), fun y hy => hwz y (List.mem_of_mem_take hy)⟩

set_option maxRecDepth 100000 in
theorem open_intSS {H : Type} {enc : TypeId × Value → H} {w : World} {base : Nat} {held : Bool} {r : Go.Reach} {b0 : Nat} {v : Value} {d : DataW H} {p : List MemPlace}
    (hv : Value.okWide Tryz.prog w r b0 52 v) (h : DataW.Trod enc Tryz.prog w base (fun _ => true) held 52 v d p) :
    ∃ L, Intss w v L ∧ ∀ l ∈ L, ∀ x ∈ l, wf64 x := by
  obtain ⟨a, len, cap, rfl⟩ := okWide_slice Tryz.underlying52 hv
  obtain ⟨fuel, hf⟩ := h
  rcases open_int_rows Tryz.underlying52 Tryz.underlying27 Tryz.underlying3 (by kernel_rfl) (by kernel_rfl) hf with ⟨hcs, _⟩ | ⟨x, l, c, A, L, C, Z, hcs, _, hl, hm, _, hr⟩
  · simp [Value.cells] at hcs
    obtain ⟨rfl, rfl, rfl⟩ := hcs
    exact ⟨[], Intss.nil w, fun _ h => by cases h⟩
  · simp [Value.cells] at hcs
    obtain ⟨rfl, rfl, rfl⟩ := hcs
    have hlen : ((List.range len).map fun r => (Z r).take (L r)).length = len := by simp
    refine ⟨(List.range len).map fun r => (Z r).take (L r), ⟨some x, cap, by rw [hlen], by omega, ⟨by omega, hm, fun h => by cases h⟩, fun hp => ?_⟩, fun y hy z hz => ?_⟩
    · rw [hlen] at hp
      obtain ⟨b, off, spot⟩ := x
      have hspot : spot = none := by simpa [Addr.add] using World.cell?_spot (hr 0 (by omega)).1
      subst hspot
      refine ⟨b, off, rfl, fun j hj => ?_⟩
      rw [hlen] at hj
      obtain ⟨hc, h1, h2, h3, h4, h5, h6⟩ := hr j (by omega)
      refine ⟨_, by rw [← Go.WideShapes.add_plain]; exact hc, ?_⟩
      have e : ((List.range len).map fun r => (Z r).take (L r))[j]?.getD [] = (Z j).take (L j) := by simp [hj]
      rw [e]
      exact ints_ofS h1 h2 h3 h5 (fun a' ha i hi => (h6 a' ha).2 i (by omega))
    · obtain ⟨j, hj, rfl⟩ := List.mem_map.1 hy
      have hj' := List.mem_range.1 hj
      obtain ⟨hc, h1, h2, h3, h4, h5, h6⟩ := hr j (by omega)
      exact h4 z (List.mem_of_mem_take hz)

end Go.Proofs.YtbffkidkfannhaaGreat

namespace Go.Proofs.YtbffkidkfannhaaGreat
open Go.RowKit Go.Maps
set_option linter.unusedVariables false

/-- All instances on which a row hangs. -/
def hungAt (k m : Nat) : List (Nat × Nat) := (List.range m).map fun i => (k, i)
def depM (r : RowD) (k : Nat) : Nat := (depI r k).toNat
def hungTo (r : RowD) (k : Nat) : List (Nat × Nat) := (List.range k).flatMap fun p => hungAt p (depM r p)
def hungL (r : RowD) : List (Nat × Nat) := hungTo r r.l.length
theorem hungAt_succ (k m : Nat) : hungAt k (m + 1) = hungAt k m ++ [(k, m)] := by simp [hungAt, List.range_succ]
theorem hungTo_succ (r : RowD) (k : Nat) : hungTo r (k + 1) = hungTo r k ++ hungAt k (depM r k) := by simp [hungTo, List.range_succ]
theorem hungAt_len (k m : Nat) : (hungAt k m).length = m := by simp [hungAt]
theorem hungTo_len {r : RowD} (h : ∀ k, depM r k ≤ 6) (k : Nat) : (hungTo r k).length ≤ 6 * k := by
  induction k with
  | zero => simp [hungTo]
  | succ k ih =>
    rw [hungTo_succ, List.length_append, hungAt_len]
    have := h k
    omega
theorem mem_hungL {r : RowD} {y : Nat × Nat} : y ∈ hungL r ↔ y.1 < r.l.length ∧ y.2 < depM r y.1 := by
  unfold hungL hungTo hungAt
  rw [List.mem_flatMap]
  constructor
  · rintro ⟨p, hp, hy⟩
    obtain ⟨i, hi, rfl⟩ := List.mem_map.1 hy
    exact ⟨List.mem_range.1 hp, List.mem_range.1 hi⟩
  · rintro ⟨h1, h2⟩
    exact ⟨y.1, List.mem_range.2 h1, List.mem_map.2 ⟨y.2, List.mem_range.2 h2, rfl⟩⟩

/-- A list of instances comes back, in new memory. -/
def NewInst (L : List (Nat × Nat)) (w : World) (e : Ending) (w' : World) : Prop := ∃ v, e = .returned v ∧ FreshIn w.heap.size w' v L ∧ Ext w w'
theorem FreshIn.more {B B' : Nat} {w : World} {v : Value} {L : List (Nat × Nat)} (h : FreshIn B w v L) (hb : B' ≤ B) : FreshIn B' w v L := ownsRow_more h hb

set_option maxHeartbeats 2000000 in
set_option maxRecDepth 100000 in
theorem hungOn_any (r : RowD) (s : Int) (u : Value) (w : World) (hu : Ints w u r.l) (hl : r.l.length ≤ 5) (hd : ∀ k, 0 ≤ depI r k ∧ depI r k ≤ 6) :
    Calls Tryz.prog 84 #[.agg #[.int .i64 s, u]] w (NewInst (hungL r) w) := by
  obtain ⟨au, cu, rfl, hlu, _, hcu⟩ := hu
  have hx0 := Ext.alloc1 w (.cells #[.int .i64 s, .slice au r.l.length cu] 75)
  have HX0 := Lib.hid hx0
  have HD := Lib.hid hd
  unfold hungL
  clear hx0 hd
  go_enter Tryz.func84, Tryz.ntmps84
  go_wp2
  go_loopw [3, 10] (fun o i wr => ∃ k : Nat, k ≤ r.l.length ∧ i = .int .i64 k ∧ Hid (FreshIn w.heap.size wr o (hungTo r k)) ∧ Hid (Ext w wr)) (fun _ i _ => r.l.length - (intOf i).toNat)
  case atStart => exact ⟨0, Nat.zero_le _, rfl, Lib.hid (FreshIn.nil _ _), HX0⟩
  case round =>
    obtain ⟨k, hk, rfl, HF, HX⟩ := hrel
    by_cases hlt : k < r.l.length
    · obtain ⟨bu, ou, rfl, du⟩ := hcu (by omega)
      have gl : wr.cell? ⟨bu, ou + k, none⟩ = some (.int .i64 (depI r k)) := HX.out.cell (du k hlt)
      have hdk := HD.out k
      obtain ⟨m, hm⟩ : ∃ m, m = depM r k := ⟨_, rfl⟩
      have hmd : depI r k = (m : Int) := by rw [hm]; unfold depM; omega
      rw [hmd] at gl
      have hm6 : m ≤ 6 := by omega
      have HMM := Lib.hid hm
      have HLN : Hid ((hungTo r k).length ≤ 1000) := Lib.hid (by
        have := hungTo_len (r := r) (fun k => by have := HD.out k; unfold depM; omega) k
        omega)
      clear hdk hm hmd hcu du
      go_wp2
      go_loopw [3, 16] (fun o i wr => ∃ j : Nat, j ≤ m ∧ i = .int .i64 j ∧ Hid (FreshIn w.heap.size wr o (hungTo r k ++ hungAt k j)) ∧ Hid (Ext w wr)) (fun _ i _ => m - (intOf i).toNat)
      case atStart => exact ⟨0, Nat.zero_le _, rfl, Lib.hid (by have h := HF.out; simpa [hungAt] using h), HX⟩
      case round =>
        clear gl HF HX
        obtain ⟨j, hj, rfl, HF, HX⟩ := hrel
        by_cases hjm : j < m
        · have hll : (hungTo r k ++ hungAt k j).length ≤ 1048576 := by
            rw [List.length_append, hungAt_len]
            have := HLN.out
            omega
          have HLL := Lib.hid hll
          have HBB := Lib.hid HX.out.size
          clear hll
          go_wp2_with (at_builtin; refine wpList_pushI rfl _ _ rfl w.heap.size _ (hungTo r k ++ hungAt k j) (k, j) rfl (HF.out.ext (Ext.alloc1 _ _)) wr.heap.size 1 rfl (by go_simp) (by go_simp) HLL.out (Nat.le_trans HBB.out (Ext.alloc1 _ _).size) ?_)
          intro v' w4 f4 hg4 hk4
          have FN : Hid (FreshIn w.heap.size w4 v' (hungTo r k ++ hungAt k (j + 1))) := Lib.hid (by
            rw [hungAt_succ, ← List.append_assoc]
            first | exact f4 | (rw [List.append_assoc]; exact f4))
          have XN := Lib.hid (hk4 w (HX.out.trans (Ext.alloc1 _ _)) (Nat.le_refl _))
          clear f4 hg4 hk4 HF HX
          go_wp2
          go_roundw
          case rel => exact ⟨j + 1, by omega, by go_num, FN, XN⟩
          case measure => simp [intOf]; omega
        · obtain rfl : j = m := by omega
          have FN : Hid (FreshIn w.heap.size wr u3 (hungTo r (k + 1))) := Lib.hid (by rw [hungTo_succ, ← HMM.out]; exact HF.out)
          clear HF
          go_wp2
          go_roundw
          case rel => exact ⟨k + 1, by omega, by go_num, FN, HX⟩
          case measure => simp [intOf]; omega
    · obtain rfl : k = r.l.length := by omega
      go_wp2
      go_ret
      exact ⟨_, rfl, HF.out, HX.out⟩

end Go.Proofs.YtbffkidkfannhaaGreat

namespace Go.Proofs.YtbffkidkfannhaaGreat
open Go.RowKit
set_option linter.unusedVariables false

/-- The numbers of a good row's list. -/
theorem dep_in {n : Int} {T : List (List RowD)} (hg : goodTab n T = true) {p : Nat} (hp : p < T.length) (q k : Nat) : 0 ≤ depI (rowOf n T p q) k ∧ depI (rowOf n T p q) k ≤ 6 := by
  have hz : ∀ j : Nat, (noneL n)[j]?.getD 0 = 0 := fun j => by
    unfold noneL
    split
    · rw [List.getElem?_replicate]
      split <;> rfl
    · rfl
  by_cases hq : q < T[p].length
  · rw [rowOf_in hp hq]
    have h := (goodTab_row hg hp hq).1
    unfold goodRow at h
    simp only [Bool.and_eq_true] at h
    have h2 := h.2
    unfold depI
    split at h2
    · unfold emptyB sameA at h2
      simp only [Bool.and_eq_true, decide_eq_true_eq] at h2
      rw [h2.2.2, hz]
      omega
    · unfold fullB at h2
      simp only [Bool.and_eq_true] at h2
      have h3 := (goodD_of h2.2).2.2
      by_cases hk : k < T[p][q].l.length
      · rw [List.getElem?_eq_getElem hk, Option.getD_some]
        have := List.all_eq_true.1 h3 _ (List.getElem_mem hk)
        unfold inB at this
        simp at this
        omega
      · rw [List.getElem?_eq_none (by omega)]
        simp
  · rw [rowOf_out hp (by omega)]
    unfold depI emptyR
    rw [hz]
    omega
end Go.Proofs.YtbffkidkfannhaaGreat
