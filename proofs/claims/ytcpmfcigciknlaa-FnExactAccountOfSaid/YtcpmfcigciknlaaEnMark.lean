/- The laws' marks in an answer's entries, exactly; and that they are met. -/
import Derived.Test.YtcpmfcigciknlaaEnP
import Derived.Test.YtcpmfcigciknlaaRest
namespace Go.Proofs.Ytcpmfcigciknlaa
open Go.RowKit
set_option linter.unusedVariables false

/-- The marks k, k + 1, .., nine for each. -/
def marksE (k : Int) (n : Nat) : List EnD := (List.range n).map fun (j : Nat) => ⟨k + 9 * (j : Int), k + 9 * (j : Int) + 1, k + 9 * (j : Int) + 2, k + 9 * (j : Int) + 3, k + 9 * (j : Int) + 4, k + 9 * (j : Int) + 5, k + 9 * (j : Int) + 6, k + 9 * (j : Int) + 7, k + 9 * (j : Int) + 8⟩
theorem marksE_len (k : Int) (n : Nat) : (marksE k n).length = n := by simp [marksE]
theorem marksE_at {k : Int} {n j : Nat} (h : j < (marksE k n).length) : (marksE k n)[j] = ⟨k + 9 * (j : Int), k + 9 * (j : Int) + 1, k + 9 * (j : Int) + 2, k + 9 * (j : Int) + 3, k + 9 * (j : Int) + 4, k + 9 * (j : Int) + 5, k + 9 * (j : Int) + 6, k + 9 * (j : Int) + 7, k + 9 * (j : Int) + 8⟩ := by simp [marksE]
theorem marksE_one {k m : Int} {n j : Nat} (h : j < (marksE k n).length) (hm : m = k + 9 * (j : Int)) : (marksE k n)[j] = ⟨m, m + 1, m + 1 + 1, m + 1 + 1 + 1, m + 1 + 1 + 1 + 1, m + 1 + 1 + 1 + 1 + 1, m + 1 + 1 + 1 + 1 + 1 + 1, m + 1 + 1 + 1 + 1 + 1 + 1 + 1, m + 1 + 1 + 1 + 1 + 1 + 1 + 1 + 1⟩ := by
  rw [marksE_at, ← hm]
  simp only [EnD.mk.injEq]
  refine ⟨?_, ?_, ?_, ?_, ?_, ?_, ?_, ?_, ?_⟩ <;> first | trivial | omega
theorem ensTo_put {k : Nat} {xs : List Value} {L : List EnD} (h : EnsTo xs L k) (hk : k < L.length) (hl : L.length * 9 ≤ xs.length) : EnsTo (putL xs (k * 9) (enVs L[k])) L (k + 1) := by
  intro j hj hjk
  by_cases e : j = k
  · subst e
    exact XEn.put (by omega)
  · exact XEn.put_other (h j hj (by omega)) (enVs_len _) (by omega)

set_option maxHeartbeats 4000000 in
set_option maxRecDepth 100000 in
theorem markEnS_any (lo hi : Nat) (v : Value) (L : List EnD) (k : Int) (w : World) (hv : EnW lo hi w v L) (h0 : 0 ≤ k) (h1 : k ≤ 1099511627776) (h2 : L.length ≤ 1048576) :
    Calls Try.prog 10 #[v, .int .i64 k] w (fun e w' => e = .returned (.int .i64 (k + 9 * (L.length : Int))) ∧ EnW lo hi w' v (marksE k L.length) ∧ Ins lo hi w w') := by
  obtain ⟨g, xs0, cap, hg, hgh, rfl, hcp, hm, hb, hl0, hT⟩ := hv
  have HG := Lib.hid (And.intro hg hgh)
  have HB0 := Lib.hid hb
  have HM := Lib.hid (And.intro hcp hm)
  clear hb hT hg hgh hm hcp
  obtain ⟨n, hn⟩ : ∃ n, n = L.length := ⟨_, rfl⟩
  rw [← hn] at hl0 h2 HM ⊢
  clear hn
  go_enter Try.func10, Try.ntmps10
  go_wp2
  go_loopw [1, 5] (fun m i wr => ∃ (j : Nat) (ys : List Value), j ≤ n ∧ i = .int .i64 j ∧ m = .int .i64 (k + 9 * (j : Int)) ∧ Hid (BoxV wr g ys) ∧ n * 9 ≤ ys.length ∧ Hid (EnsTo ys (marksE k n) j) ∧ Hid (Ins lo hi w wr)) (fun _ i _ => n - (intOf i).toNat)
  case atStart => exact ⟨0, xs0, Nat.zero_le _, rfl, by simp, HB0, hl0, Lib.hid (fun j _ h => by omega), Lib.hid (Ins.refl _ _ _)⟩
  case round =>
    clear HB0 hl0
    obtain ⟨j, ys, hj, rfl, rfl, hB, hl, hT, hI⟩ := hrel
    by_cases hlt : j < n
    · have hjn : j * 9 + 9 ≤ ys.length := by omega
      obtain ⟨o0, c0⟩ : ∃ v, wr.cell? ⟨g, j * 9, none⟩ = some v := ⟨_, hB.out.cell (j * 9) _ (List.getElem?_eq_getElem (by omega))⟩
      have n0 := hB.out.free (j * 9) (by omega)
      obtain ⟨o1, c1⟩ : ∃ v, wr.cell? ⟨g, j * 9 + 1, none⟩ = some v := ⟨_, hB.out.cell (j * 9 + 1) _ (List.getElem?_eq_getElem (by omega))⟩
      have n1 := hB.out.free (j * 9 + 1) (by omega)
      obtain ⟨o2, c2⟩ : ∃ v, wr.cell? ⟨g, j * 9 + 2, none⟩ = some v := ⟨_, hB.out.cell (j * 9 + 2) _ (List.getElem?_eq_getElem (by omega))⟩
      have n2 := hB.out.free (j * 9 + 2) (by omega)
      obtain ⟨o3, c3⟩ : ∃ v, wr.cell? ⟨g, j * 9 + 3, none⟩ = some v := ⟨_, hB.out.cell (j * 9 + 3) _ (List.getElem?_eq_getElem (by omega))⟩
      have n3 := hB.out.free (j * 9 + 3) (by omega)
      obtain ⟨o4, c4⟩ : ∃ v, wr.cell? ⟨g, j * 9 + 4, none⟩ = some v := ⟨_, hB.out.cell (j * 9 + 4) _ (List.getElem?_eq_getElem (by omega))⟩
      have n4 := hB.out.free (j * 9 + 4) (by omega)
      obtain ⟨o5, c5⟩ : ∃ v, wr.cell? ⟨g, j * 9 + 5, none⟩ = some v := ⟨_, hB.out.cell (j * 9 + 5) _ (List.getElem?_eq_getElem (by omega))⟩
      have n5 := hB.out.free (j * 9 + 5) (by omega)
      obtain ⟨o6, c6⟩ : ∃ v, wr.cell? ⟨g, j * 9 + 6, none⟩ = some v := ⟨_, hB.out.cell (j * 9 + 6) _ (List.getElem?_eq_getElem (by omega))⟩
      have n6 := hB.out.free (j * 9 + 6) (by omega)
      obtain ⟨o7, c7⟩ : ∃ v, wr.cell? ⟨g, j * 9 + 7, none⟩ = some v := ⟨_, hB.out.cell (j * 9 + 7) _ (List.getElem?_eq_getElem (by omega))⟩
      have n7 := hB.out.free (j * 9 + 7) (by omega)
      obtain ⟨o8, c8⟩ : ∃ v, wr.cell? ⟨g, j * 9 + 8, none⟩ = some v := ⟨_, hB.out.cell (j * 9 + 8) _ (List.getElem?_eq_getElem (by omega))⟩
      have n8 := hB.out.free (j * 9 + 8) (by omega)
      obtain ⟨m, hm⟩ : ∃ m, m = k + 9 * (j : Int) := ⟨_, rfl⟩
      rw [← hm]
      have hm0 : 0 ≤ m := by omega
      have hm1 : m ≤ 1099521069056 := by omega
      have HMM := Lib.hid hm
      have HD := Lib.hid (marksE_one (k := k) (n := n) (j := j) (by rw [marksE_len]; exact hlt) hm)
      clear hm
      go_wp2
      go_roundw
      case rel =>
        refine ⟨j + 1, putL ys (j * 9) (enVs ⟨m, m + 1, m + 1 + 1, m + 1 + 1 + 1, m + 1 + 1 + 1 + 1, m + 1 + 1 + 1 + 1 + 1, m + 1 + 1 + 1 + 1 + 1 + 1, m + 1 + 1 + 1 + 1 + 1 + 1 + 1, m + 1 + 1 + 1 + 1 + 1 + 1 + 1 + 1⟩), by omega, by go_num, by have := HMM.out; go_num, Lib.hid ?_, by rw [putL_len]; exact hl, Lib.hid ?_, Lib.hid ?_⟩
        · exact boxV_puts (enVs ⟨m, m + 1, m + 1 + 1, m + 1 + 1 + 1, m + 1 + 1 + 1 + 1, m + 1 + 1 + 1 + 1 + 1, m + 1 + 1 + 1 + 1 + 1 + 1, m + 1 + 1 + 1 + 1 + 1 + 1 + 1, m + 1 + 1 + 1 + 1 + 1 + 1 + 1 + 1⟩) (j * 9) _ _ hB.out (by rw [enVs_len]; omega)
        · rw [← HD.out]
          exact ensTo_put hT.out (by rw [marksE_len]; exact hlt) (by rw [marksE_len]; exact hl)
        · exact hI.out.trans ((ins_puts (lo := g) (hi := g + 1) (Nat.le_refl _) (Nat.lt_succ_self _) (enVs ⟨m, m + 1, m + 1 + 1, m + 1 + 1 + 1, m + 1 + 1 + 1 + 1, m + 1 + 1 + 1 + 1 + 1, m + 1 + 1 + 1 + 1 + 1 + 1, m + 1 + 1 + 1 + 1 + 1 + 1 + 1, m + 1 + 1 + 1 + 1 + 1 + 1 + 1 + 1⟩) (j * 9) wr).more HG.out.1 HG.out.2)
      case measure => simp [intOf]; omega
    · obtain rfl : j = n := by omega
      go_wp2
      go_ret
      refine ⟨rfl, ⟨g, ys, cap, HG.out.1, HG.out.2, by rw [marksE_len], by rw [marksE_len]; exact HM.out.1, HM.out.2, hB.out, by rw [marksE_len]; exact hl, ?_⟩, hI.out⟩
      rw [marksE_len]
      exact hT.out

set_option maxHeartbeats 2000000 in
set_option maxRecDepth 100000 in
theorem heldEnS_yes (v : Value) (n : Nat) (k : Int) (w : World) (hv : Enz w v (marksE k n)) (h0 : 0 ≤ k) (h1 : k ≤ 1099511627776) (h2 : n ≤ 1048576) :
    Calls Try.prog 11 #[v, .int .i64 k] w (IntExt (k + 9 * (n : Int)) w) := by
  obtain ⟨av, cv, rfl, hlv, _, hcv⟩ := hv
  have hl := marksE_len k n
  rw [hl]
  clear hlv
  go_enter Try.func11, Try.ntmps11
  go_wp2
  go_loopw [1, 5] (fun m i wr => ∃ j : Nat, j ≤ n ∧ i = .int .i64 j ∧ m = .int .i64 (k + 9 * (j : Int)) ∧ Ext w wr) (fun _ i _ => n - (intOf i).toNat)
  case atStart => exact ⟨0, Nat.zero_le _, rfl, by simp, Ext.refl _⟩
  case round =>
    obtain ⟨j, hj, rfl, rfl, hx⟩ := hrel
    by_cases hlt : j < n
    · obtain ⟨b, off, rfl, dv⟩ := hcv (by rw [hl]; omega)
      have hd := dv j (by rw [marksE_len]; exact hlt)
      obtain ⟨m, hm⟩ : ∃ m, m = k + 9 * (j : Int) := ⟨_, rfl⟩
      rw [marksE_one (by rw [marksE_len]; exact hlt) hm] at hd
      rw [← hm]
      have hm0 : 0 ≤ m := by omega
      have hm1 : m ≤ 1099521069056 := by omega
      obtain ⟨c0, c1, c2, c3, c4, c5, c6, c7, c8⟩ := enIn_cells (hd.ext hx)
      dsimp only at c0 c1 c2 c3 c4 c5 c6 c7 c8
      have HMM := Lib.hid hm
      clear hcv dv hd hm
      have e0 : (m != m) = false := by simp
      have e1 : (m + 1 != m + 1) = false := by simp
      have e2 : (m + 1 + 1 != m + 1 + 1) = false := by simp
      have e3 : (m + 1 + 1 + 1 != m + 1 + 1 + 1) = false := by simp
      have e4 : (m + 1 + 1 + 1 + 1 != m + 1 + 1 + 1 + 1) = false := by simp
      have e5 : (m + 1 + 1 + 1 + 1 + 1 != m + 1 + 1 + 1 + 1 + 1) = false := by simp
      have e6 : (m + 1 + 1 + 1 + 1 + 1 + 1 != m + 1 + 1 + 1 + 1 + 1 + 1) = false := by simp
      have e7 : (m + 1 + 1 + 1 + 1 + 1 + 1 + 1 != m + 1 + 1 + 1 + 1 + 1 + 1 + 1) = false := by simp
      have e8 : (m + 1 + 1 + 1 + 1 + 1 + 1 + 1 + 1 != m + 1 + 1 + 1 + 1 + 1 + 1 + 1 + 1) = false := by simp
      go_wp2
      go_roundw
      case rel => exact ⟨j + 1, by omega, by go_num, by have := HMM.out; go_num, hx⟩
      case measure => simp [intOf]; omega
    · obtain rfl : j = n := by omega
      go_wp2
      go_ret
      exact ⟨rfl, hx⟩

theorem ansEn_mark {lo hi : Nat} {v : Value} {L : List EnD} {k : Int} {w : World} (hv : AnsEn lo hi w v L) (h0 : 0 ≤ k) (h1 : k ≤ 1099511627776) (h2 : L.length ≤ 1048576) :
    Calls Try.prog 10 #[v, .int .i64 k] w (fun e w' => e = .returned (.int .i64 (k + 9 * (L.length : Int))) ∧ AnsEn lo hi w' v (marksE k L.length) ∧ Ins lo hi w w') := by
  rcases hv with ⟨rfl, rfl⟩ | h
  · go_enter Try.func10, Try.ntmps10
    go_wp2
    refine wp_loop_rounds 1 ?_; rw [rounds_succ]
    go_wp2
    go_ret
    exact ⟨by simp, .inl ⟨rfl, rfl⟩, Ins.refl _ _ _⟩
  · refine (markEnS_any lo hi v L k w h h0 h1 h2).mono ?_
    rintro e w' ⟨rfl, a, b⟩
    exact ⟨rfl, .inr a, b⟩
end Go.Proofs.Ytcpmfcigciknlaa
