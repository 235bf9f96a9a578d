/- The law's marks in slices of Entry: which blocks they turn. -/
import Derived.Test.YtcpmfcigciknlaaLEnW
import Derived.Test.YtcpmfcigciknlaaRest
namespace Go.Proofs.Ytcpmfcigciknlaa
open Go.RowKit
set_option linter.unusedVariables false

set_option maxHeartbeats 8000000 in
set_option maxRecDepth 100000 in
theorem markEntryS_any (lo hi : Nat) (v : Value) (L : List EnD) (k : Int) (w : World) (hv : EnzM lo hi w v L) (hs : hi ≤ w.heap.size) (h0 : 0 ≤ k) (hk : k ≤ 268435456) (h1 : bulkEn L ≤ 1048576) :
    Calls Try.prog 10 #[v, .int .i64 k] w (MarkUp lo hi k (bulkEn L) w) := by
  obtain ⟨g, xs0, hg, hgh, rfl, hm, hb, hl0, hT⟩ := hv
  unfold maxLen at hm
  have hLen : L.length ≤ 1048576 := by unfold bulkEn at h1; omega
  have hbu : bulkEn L = L.length + (weighEn L).sum := rfl
  have HBU := Lib.hid hbu
  have HGH : Hid (lo ≤ g ∧ g < hi ∧ hi ≤ w.heap.size) := Lib.hid ⟨hg, hgh, hs⟩
  skip
  have H1 := Lib.hid h1
  have HB0 := Lib.hid hb
  have HT0 : Hid (∀ i (h : i < L.length), 0 ≤ i → XEn xs0 (i * 9) L[i] ) := Lib.hid fun i h _ => hT i h h
  clear hb hbu  hT hg hgh hs h1 hm
  go_enter Try.func10, Try.ntmps10
  go_wp2
  go_loopw [1, 5] (fun m i wr => ∃ (j : Nat) (r : Int) (ys : List Value), j ≤ L.length ∧ i = .int .i64 j ∧ m = .int .i64 r ∧ Hid (k ≤ r ∧ r ≤ k + 16 * ((j : Int) + sumN (weighEn L) j)) ∧ Hid (BoxV wr g ys) ∧ ys.length = L.length * 9 ∧ Hid (∀ i (h : i < L.length), j ≤ i → XEn ys (i * 9) L[i] ) ∧ Hid (Ins lo hi w wr)) (fun _ i _ => L.length - (intOf i).toNat)
  case atStart => exact ⟨0, k, xs0, Nat.zero_le _, rfl, rfl, Lib.hid ⟨by omega, by rw [sumN_zero]; omega⟩, HB0, hl0, HT0, Lib.hid (Ins.refl _ _ _)⟩
  case round =>
    clear HB0 HT0 hl0
    obtain ⟨j, r, ys, hj, rfl, rfl, hr, hB, hl, hP, hI⟩ := hrel
    by_cases hlt : j < L.length
    · have hr0 : 0 ≤ r := by have := hr.out; omega
      have hr1 : r ≤ 268435456 + 16777216 := by
        have h := hr.out
        have h2 := sumN_mono (g := weighEn L) (k := j) (by rw [weighEn_len]; omega)
        have := HBU.out; have := H1.out; omega
      have hsu := sumN_succ (g := weighEn L) (k := j) (by rw [weighEn_len]; exact hlt)
      rw [weighEn_get hlt] at hsu
      have hX := hP.out j hlt (Nat.le_refl _)
      obtain ⟨d, hd⟩ : ∃ d, d = L[j] := ⟨_, rfl⟩
      have hbk : bulk1En d ≤ 1048576 := by
        rw [hd]
        have h2 := sumN_mono (g := weighEn L) (k := j + 1) (by rw [weighEn_len]; omega)
        have := HBU.out; have := H1.out; omega
      rw [← hd] at hX hsu
      skip
      have HSU := Lib.hid hsu
      skip
      have HP : Hid (g + 1 ≤ hi ∧ hi ≤ wr.heap.size ∧ lo ≤ g) := Lib.hid (by have e4 := HGH.out; have e5 := hI.out.size; omega)
      have HR : Hid (RestX ys (j * 9) 0 (enVs d )) := Lib.hid (fun q v _ h => hX q v h)
      have HK : Hid (KeptX ys ys (j * 9) (j * 9 + 9)) := Lib.hid (KeptX.refl _ _ _)
      have HI : Hid (Ins g (hi) wr wr) := Lib.hid (Ins.refl _ _ _)
      have HB := hB
      clear hX hsu hd hB   
      have c0 := HB.out.cell (j * 9) _ (HR.out 0 _ (by omega) rfl)
      have n0 := HB.out.free (j * 9) (by have := HK.out.1; omega)
      have c1 := HB.out.cell (j * 9 + 1) _ (HR.out 1 _ (by omega) rfl)
      have n1 := HB.out.free (j * 9 + 1) (by have := HK.out.1; omega)
      have c2 := HB.out.cell (j * 9 + 2) _ (HR.out 2 _ (by omega) rfl)
      have n2 := HB.out.free (j * 9 + 2) (by have := HK.out.1; omega)
      have c3 := HB.out.cell (j * 9 + 3) _ (HR.out 3 _ (by omega) rfl)
      have n3 := HB.out.free (j * 9 + 3) (by have := HK.out.1; omega)
      have c4 := HB.out.cell (j * 9 + 4) _ (HR.out 4 _ (by omega) rfl)
      have n4 := HB.out.free (j * 9 + 4) (by have := HK.out.1; omega)
      have c5 := HB.out.cell (j * 9 + 5) _ (HR.out 5 _ (by omega) rfl)
      have n5 := HB.out.free (j * 9 + 5) (by have := HK.out.1; omega)
      have c6 := HB.out.cell (j * 9 + 6) _ (HR.out 6 _ (by omega) rfl)
      have n6 := HB.out.free (j * 9 + 6) (by have := HK.out.1; omega)
      have c7 := HB.out.cell (j * 9 + 7) _ (HR.out 7 _ (by omega) rfl)
      have n7 := HB.out.free (j * 9 + 7) (by have := HK.out.1; omega)
      have c8 := HB.out.cell (j * 9 + 8) _ (HR.out 8 _ (by omega) rfl)
      have n8 := HB.out.free (j * 9 + 8) (by have := HK.out.1; omega)
      go_wp2
      clear c0 n0 c1 n1 c2 n2 c3 n3 c4 n4 c5 n5 c6 n6 c7 n7 c8 n8
      have kS : Ins g (g + 1) wr (wr.setCells g (j * 9) [.int .i64 r, .int .i64 (r + 1), .int .i64 (r + 1 + 1), .int .i64 (r + 1 + 1 + 1), .int .i64 (r + 1 + 1 + 1 + 1), .int .i64 (r + 1 + 1 + 1 + 1 + 1), .int .i64 (r + 1 + 1 + 1 + 1 + 1 + 1), .int .i64 (r + 1 + 1 + 1 + 1 + 1 + 1 + 1), .int .i64 (r + 1 + 1 + 1 + 1 + 1 + 1 + 1 + 1)]) := ins_puts (Nat.le_refl _) (Nat.lt_succ_self _) [.int .i64 r, .int .i64 (r + 1), .int .i64 (r + 1 + 1), .int .i64 (r + 1 + 1 + 1), .int .i64 (r + 1 + 1 + 1 + 1), .int .i64 (r + 1 + 1 + 1 + 1 + 1), .int .i64 (r + 1 + 1 + 1 + 1 + 1 + 1), .int .i64 (r + 1 + 1 + 1 + 1 + 1 + 1 + 1), .int .i64 (r + 1 + 1 + 1 + 1 + 1 + 1 + 1 + 1)] _ _
      have hB2 := boxV_puts [.int .i64 r, .int .i64 (r + 1), .int .i64 (r + 1 + 1), .int .i64 (r + 1 + 1 + 1), .int .i64 (r + 1 + 1 + 1 + 1), .int .i64 (r + 1 + 1 + 1 + 1 + 1), .int .i64 (r + 1 + 1 + 1 + 1 + 1 + 1), .int .i64 (r + 1 + 1 + 1 + 1 + 1 + 1 + 1), .int .i64 (r + 1 + 1 + 1 + 1 + 1 + 1 + 1 + 1)] (j * 9) _ _ HB.out (by have := HK.out.1; simp only [List.length_cons, List.length_nil]; omega)
      have HK := Lib.hid (HK.out.put (p := j * 9) (ms := [.int .i64 r, .int .i64 (r + 1), .int .i64 (r + 1 + 1), .int .i64 (r + 1 + 1 + 1), .int .i64 (r + 1 + 1 + 1 + 1), .int .i64 (r + 1 + 1 + 1 + 1 + 1), .int .i64 (r + 1 + 1 + 1 + 1 + 1 + 1), .int .i64 (r + 1 + 1 + 1 + 1 + 1 + 1 + 1), .int .i64 (r + 1 + 1 + 1 + 1 + 1 + 1 + 1 + 1)]) (by omega) (by simp only [List.length_cons, List.length_nil]; omega))
      have HR := Lib.hid (HR.out.put (ms := [.int .i64 r, .int .i64 (r + 1), .int .i64 (r + 1 + 1), .int .i64 (r + 1 + 1 + 1), .int .i64 (r + 1 + 1 + 1 + 1), .int .i64 (r + 1 + 1 + 1 + 1 + 1), .int .i64 (r + 1 + 1 + 1 + 1 + 1 + 1), .int .i64 (r + 1 + 1 + 1 + 1 + 1 + 1 + 1), .int .i64 (r + 1 + 1 + 1 + 1 + 1 + 1 + 1 + 1)]) (p := j * 9) (q1 := 9) (by omega) (by simp only [List.length_cons, List.length_nil]; omega))
      have HI2 := Lib.hid (HI.out.trans (kS.more (Nat.le_refl _) (by have h := HP.out; have h2 := HI.out.size; omega)))
      have HI := HI2
      have HBn := Lib.hid hB2
      clear kS hB2 HI2
      have HB := HBn
      go_roundw
      case rel =>
        refine ⟨j + 1, r + 1 + 1 + 1 + 1 + 1 + 1 + 1 + 1 + 1, _, by omega, by go_num, rfl, Lib.hid ?_, HB, HK.out.1.trans hl, Lib.hid (fun i h hij => ?_), Lib.hid (hI.out.trans (HI.out.more (by have h := HP.out; omega) (by have h := HP.out; omega)))⟩
        · have z0 := hr.out
          have zs := HSU.out
          
          unfold bulk1En at zs
          omega
        · have a := hP.out i h (by omega)
          exact fun q v hq => by have := en_lt hq; rw [HK.out.2 _ (by omega)]; exact a q v hq
      case measure => simp [intOf]; omega
    · obtain rfl : j = L.length := by omega
      go_wp2
      go_ret
      have h := hr.out
      have h2 := sumN_all (weighEn L)
      rw [weighEn_len] at h2
      rw [h2] at h
      exact ⟨r, rfl, h.1, by have := HBU.out; omega, hI.out⟩
end Go.Proofs.Ytcpmfcigciknlaa
