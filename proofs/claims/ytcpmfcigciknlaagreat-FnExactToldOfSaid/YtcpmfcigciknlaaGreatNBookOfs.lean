/- Texts of this proof, part s: words, plain facts, contracts. -/
import Derived.Test.YtcpmfcigciknlaaGreatNBookOfa
import Derived.Test.YtcpmfcigciknlaaGreatNBookOfr
import Derived.Test.YtcpmfcigciknlaaGreatNBookOfg
import Derived.Test.YtcpmfcigciknlaaGreatNBookOfj
import Derived.Deep.DeepCutAuto
import Derived.Deep.RegionWith
import Derived.Deep.RegionHeld3
import Derived.Test.YtcpmfcigciknlaaGreatNBookOfp
import Derived.Test.YtcpmfcigciknlaaGreatNBookOfq
set_option linter.unusedVariables false
set_option linter.unusedSimpArgs false

namespace Go.Proofs.YtcpmfcigciknlaaGreat
open Go.RowKit
set_option linter.unusedVariables false
def RestX (ys : List Value) (o q0 : Nat) (vs : List Value) : Prop := ∀ q v, q0 ≤ q → vs[q]? = some v → ys[o + q]? = some v
theorem RestX.put {ys vs ms : List Value} {o q0 p q1 : Nat} (h : RestX ys o q0 vs) (h0 : q0 ≤ q1) (h1 : p + ms.length ≤ o + q1) : RestX (putL ys p ms) o q1 vs := fun q v hq hv => by
  rw [putL_out _ _ _ _ (by omega)]
  exact h q v (by omega) hv
def KeptX (ys zs : List Value) (a b : Nat) : Prop := zs.length = ys.length ∧ ∀ q, (q < a ∨ b ≤ q) → zs[q]? = ys[q]?
theorem KeptX.refl (ys : List Value) (a b : Nat) : KeptX ys ys a b := ⟨rfl, fun _ _ => rfl⟩
theorem KeptX.put {ys zs ms : List Value} {a b p : Nat} (h : KeptX ys zs a b) (h1 : a ≤ p) (h2 : p + ms.length ≤ b) : KeptX ys (putL zs p ms) a b :=
  ⟨by rw [putL_len]; exact h.1, fun q hq => by rw [putL_out _ _ _ _ (by omega)]; exact h.2 q hq⟩
end Go.Proofs.YtcpmfcigciknlaaGreat

namespace Go.Proofs.YtcpmfcigciknlaaGreat
open Go.RowKit
set_option linter.unusedVariables false
def marksE (k : Int) (n : Nat) : List EnD := (List.range n).map fun (j : Nat) => ⟨k + 9 * (j : Int), k + 9 * (j : Int) + 1, k + 9 * (j : Int) + 2, k + 9 * (j : Int) + 3, k + 9 * (j : Int) + 4, k + 9 * (j : Int) + 5, k + 9 * (j : Int) + 6, k + 9 * (j : Int) + 7, k + 9 * (j : Int) + 8⟩
theorem marksE_len (k : Int) (n : Nat) : (marksE k n).length = n := by simp [marksE]
theorem marksE_at {k : Int} {n j : Nat} (h : j < (marksE k n).length) : (marksE k n)[j] = ⟨k + 9 * (j : Int), k + 9 * (j : Int) + 1, k + 9 * (j : Int) + 2, k + 9 * (j : Int) + 3, k + 9 * (j : Int) + 4, k + 9 * (j : Int) + 5, k + 9 * (j : Int) + 6, k + 9 * (j : Int) + 7, k + 9 * (j : Int) + 8⟩ := by simp [marksE]
theorem marksE_one {k m : Int} {n j : Nat} (h : j < (marksE k n).length) (hm : m = k + 9 * (j : Int)) : (marksE k n)[j] = ⟨m, m + 1, m + 1 + 1, m + 1 + 1 + 1, m + 1 + 1 + 1 + 1, m + 1 + 1 + 1 + 1 + 1, m + 1 + 1 + 1 + 1 + 1 + 1, m + 1 + 1 + 1 + 1 + 1 + 1 + 1, m + 1 + 1 + 1 + 1 + 1 + 1 + 1 + 1⟩ := by
  rw [marksE_at, ← hm]
  simp only [EnD.mk.injEq]
  refine ⟨?_, ?_, ?_, ?_, ?_, ?_, ?_, ?_, ?_⟩ <;> first | trivial | omega
theorem ensTo_put {k : Nat} {xs : List Value} {L : List EnD} (h : EnsTo xs L k) (hk : k < L.length) (hl : L.length * 9 ≤ xs.length) : EnsTo (putL xs (k * 9) (enVs L[k])) L (k + 1) := by
  intro j hj hjk
  by_cases e : j = k
  · subst e
    exact XEn.put (by omega)
  · exact XEn.put_other (h j hj (by omega)) (enVs_len _) (by omega)
set_option maxHeartbeats 4000000 in
set_option maxRecDepth 100000 in
theorem markEnS_any (lo hi : Nat) (v : Value) (L : List EnD) (k : Int) (w : World) (hv : EnW lo hi w v L) (h0 : 0 ≤ k) (h1 : k ≤ 1099511627776) (h2 : L.length ≤ 1048576) :
    Calls Tryz.prog 16 #[v, .int .i64 k] w (fun e w' => e = .returned (.int .i64 (k + 9 * (L.length : Int))) ∧ EnW lo hi w' v (marksE k L.length) ∧ Ins lo hi w w') := by
  obtain ⟨g, xs0, cap, hg, hgh, rfl, hcp, hm, hb, hl0, hT⟩ := hv
  have HG := Lib.hid (And.intro hg hgh)
  have HB0 := Lib.hid hb
  have HM := Lib.hid (And.intro hcp hm)
  clear hb hT hg hgh hm hcp
  obtain ⟨n, hn⟩ : ∃ n, n = L.length := ⟨_, rfl⟩
  rw [← hn] at hl0 h2 HM ⊢
  clear hn
  go_enter Tryz.func16, Tryz.ntmps16
  go_wp2
  go_loopw [1, 5] (fun m i wr => ∃ (j : Nat) (ys : List Value), j ≤ n ∧ i = .int .i64 j ∧ m = .int .i64 (k + 9 * (j : Int)) ∧ Hid (BoxV wr g ys) ∧ n * 9 ≤ ys.length ∧ Hid (EnsTo ys (marksE k n) j) ∧ Hid (Ins lo hi w wr)) (fun _ i _ => n - (intOf i).toNat)
  case atStart => exact ⟨0, xs0, Nat.zero_le _, rfl, by simp, HB0, hl0, Lib.hid (fun j _ h => by omega), Lib.hid (Ins.refl _ _ _)⟩
  case round =>
    clear HB0 hl0
    obtain ⟨j, ys, hj, rfl, rfl, hB, hl, hT, hI⟩ := hrel
    by_cases hlt : j < n
    · have hjn : j * 9 + 9 ≤ ys.length := by omega
      obtain ⟨o0, c0⟩ : ∃ v, wr.cell? ⟨g, j * 9, none⟩ = some v := ⟨_, hB.out.cell (j * 9) _ (List.getElem?_eq_getElem (by omega))⟩
      have n0 := hB.out.free (j * 9) (by omega)
      obtain ⟨o1, c1⟩ : ∃ v, wr.cell? ⟨g, j * 9 + 1, none⟩ = some v := ⟨_, hB.out.cell (j * 9 + 1) _ (List.getElem?_eq_getElem (by omega))⟩
      have n1 := hB.out.free (j * 9 + 1) (by omega)
      obtain ⟨o2, c2⟩ : ∃ v, wr.cell? ⟨g, j * 9 + 2, none⟩ = some v := ⟨_, hB.out.cell (j * 9 + 2) _ (List.getElem?_eq_getElem (by omega))⟩
      have n2 := hB.out.free (j * 9 + 2) (by omega)
      obtain ⟨o3, c3⟩ : ∃ v, wr.cell? ⟨g, j * 9 + 3, none⟩ = some v := ⟨_, hB.out.cell (j * 9 + 3) _ (List.getElem?_eq_getElem (by omega))⟩
      have n3 := hB.out.free (j * 9 + 3) (by omega)
      obtain ⟨o4, c4⟩ : ∃ v, wr.cell? ⟨g, j * 9 + 4, none⟩ = some v := ⟨_, hB.out.cell (j * 9 + 4) _ (List.getElem?_eq_getElem (by omega))⟩
      have n4 := hB.out.free (j * 9 + 4) (by omega)
      obtain ⟨o5, c5⟩ : ∃ v, wr.cell? ⟨g, j * 9 + 5, none⟩ = some v := ⟨_, hB.out.cell (j * 9 + 5) _ (List.getElem?_eq_getElem (by omega))⟩
      have n5 := hB.out.free (j * 9 + 5) (by omega)
      obtain ⟨o6, c6⟩ : ∃ v, wr.cell? ⟨g, j * 9 + 6, none⟩ = some v := ⟨_, hB.out.cell (j * 9 + 6) _ (List.getElem?_eq_getElem (by omega))⟩
      have n6 := hB.out.free (j * 9 + 6) (by omega)
      obtain ⟨o7, c7⟩ : ∃ v, wr.cell? ⟨g, j * 9 + 7, none⟩ = some v := ⟨_, hB.out.cell (j * 9 + 7) _ (List.getElem?_eq_getElem (by omega))⟩
      have n7 := hB.out.free (j * 9 + 7) (by omega)
      obtain ⟨o8, c8⟩ : ∃ v, wr.cell? ⟨g, j * 9 + 8, none⟩ = some v := ⟨_, hB.out.cell (j * 9 + 8) _ (List.getElem?_eq_getElem (by omega))⟩
      have n8 := hB.out.free (j * 9 + 8) (by omega)
      obtain ⟨m, hm⟩ : ∃ m, m = k + 9 * (j : Int) := ⟨_, rfl⟩
      rw [← hm]
      have hm0 : 0 ≤ m := by omega
      have hm1 : m ≤ 1099521069056 := by omega
      have HMM := Lib.hid hm
      have HD := Lib.hid (marksE_one (k := k) (n := n) (j := j) (by rw [marksE_len]; exact hlt) hm)
      clear hm
      go_wp2
      go_roundw
      case rel =>
        refine ⟨j + 1, putL ys (j * 9) (enVs ⟨m, m + 1, m + 1 + 1, m + 1 + 1 + 1, m + 1 + 1 + 1 + 1, m + 1 + 1 + 1 + 1 + 1, m + 1 + 1 + 1 + 1 + 1 + 1, m + 1 + 1 + 1 + 1 + 1 + 1 + 1, m + 1 + 1 + 1 + 1 + 1 + 1 + 1 + 1⟩), by omega, by go_num, by have := HMM.out; go_num, Lib.hid ?_, by rw [putL_len]; exact hl, Lib.hid ?_, Lib.hid ?_⟩
        · exact boxV_puts (enVs ⟨m, m + 1, m + 1 + 1, m + 1 + 1 + 1, m + 1 + 1 + 1 + 1, m + 1 + 1 + 1 + 1 + 1, m + 1 + 1 + 1 + 1 + 1 + 1, m + 1 + 1 + 1 + 1 + 1 + 1 + 1, m + 1 + 1 + 1 + 1 + 1 + 1 + 1 + 1⟩) (j * 9) _ _ hB.out (by rw [enVs_len]; omega)
        · rw [← HD.out]
          exact ensTo_put hT.out (by rw [marksE_len]; exact hlt) (by rw [marksE_len]; exact hl)
        · exact hI.out.trans ((ins_puts (lo := g) (hi := g + 1) (Nat.le_refl _) (Nat.lt_succ_self _) (enVs ⟨m, m + 1, m + 1 + 1, m + 1 + 1 + 1, m + 1 + 1 + 1 + 1, m + 1 + 1 + 1 + 1 + 1, m + 1 + 1 + 1 + 1 + 1 + 1, m + 1 + 1 + 1 + 1 + 1 + 1 + 1, m + 1 + 1 + 1 + 1 + 1 + 1 + 1 + 1⟩) (j * 9) wr).more HG.out.1 HG.out.2)
      case measure => simp [intOf]; omega
    · obtain rfl : j = n := by omega
      go_wp2
      go_ret
      refine ⟨rfl, ⟨g, ys, cap, HG.out.1, HG.out.2, by rw [marksE_len], by rw [marksE_len]; exact HM.out.1, HM.out.2, hB.out, by rw [marksE_len]; exact hl, ?_⟩, hI.out⟩
      rw [marksE_len]
      exact hT.out
set_option maxHeartbeats 2000000 in
set_option maxRecDepth 100000 in
theorem heldEnS_yes (v : Value) (n : Nat) (k : Int) (w : World) (hv : Enz w v (marksE k n)) (h0 : 0 ≤ k) (h1 : k ≤ 1099511627776) (h2 : n ≤ 1048576) :
    Calls Tryz.prog 18 #[v, .int .i64 k] w (IntExt (k + 9 * (n : Int)) w) := by
  obtain ⟨av, cv, rfl, hlv, _, hcv⟩ := hv
  have hl := marksE_len k n
  rw [hl]
  clear hlv
  go_enter Tryz.func18, Tryz.ntmps18
  go_wp2
  go_loopw [1, 5] (fun m i wr => ∃ j : Nat, j ≤ n ∧ i = .int .i64 j ∧ m = .int .i64 (k + 9 * (j : Int)) ∧ Ext w wr) (fun _ i _ => n - (intOf i).toNat)
  case atStart => exact ⟨0, Nat.zero_le _, rfl, by simp, Ext.refl _⟩
  case round =>
    obtain ⟨j, hj, rfl, rfl, hx⟩ := hrel
    by_cases hlt : j < n
    · obtain ⟨b, off, rfl, dv⟩ := hcv (by rw [hl]; omega)
      have hd := dv j (by rw [marksE_len]; exact hlt)
      obtain ⟨m, hm⟩ : ∃ m, m = k + 9 * (j : Int) := ⟨_, rfl⟩
      rw [marksE_one (by rw [marksE_len]; exact hlt) hm] at hd
      rw [← hm]
      have hm0 : 0 ≤ m := by omega
      have hm1 : m ≤ 1099521069056 := by omega
      obtain ⟨c0, c1, c2, c3, c4, c5, c6, c7, c8⟩ := enIn_cells (hd.ext hx)
      dsimp only at c0 c1 c2 c3 c4 c5 c6 c7 c8
      have HMM := Lib.hid hm
      clear hcv dv hd hm
      have e0 : (m != m) = false := by simp
      have e1 : (m + 1 != m + 1) = false := by simp
      have e2 : (m + 1 + 1 != m + 1 + 1) = false := by simp
      have e3 : (m + 1 + 1 + 1 != m + 1 + 1 + 1) = false := by simp
      have e4 : (m + 1 + 1 + 1 + 1 != m + 1 + 1 + 1 + 1) = false := by simp
      have e5 : (m + 1 + 1 + 1 + 1 + 1 != m + 1 + 1 + 1 + 1 + 1) = false := by simp
      have e6 : (m + 1 + 1 + 1 + 1 + 1 + 1 != m + 1 + 1 + 1 + 1 + 1 + 1) = false := by simp
      have e7 : (m + 1 + 1 + 1 + 1 + 1 + 1 + 1 != m + 1 + 1 + 1 + 1 + 1 + 1 + 1) = false := by simp
      have e8 : (m + 1 + 1 + 1 + 1 + 1 + 1 + 1 + 1 != m + 1 + 1 + 1 + 1 + 1 + 1 + 1 + 1) = false := by simp
      go_wp2
      go_roundw
      case rel => exact ⟨j + 1, by omega, by go_num, by have := HMM.out; go_num, hx⟩
      case measure => simp [intOf]; omega
    · obtain rfl : j = n := by omega
      go_wp2
      go_ret
      exact ⟨rfl, hx⟩
theorem ansEn_mark {lo hi : Nat} {v : Value} {L : List EnD} {k : Int} {w : World} (hv : AnsEn lo hi w v L) (h0 : 0 ≤ k) (h1 : k ≤ 1099511627776) (h2 : L.length ≤ 1048576) :
    Calls Tryz.prog 16 #[v, .int .i64 k] w (fun e w' => e = .returned (.int .i64 (k + 9 * (L.length : Int))) ∧ AnsEn lo hi w' v (marksE k L.length) ∧ Ins lo hi w w') := by
  rcases hv with ⟨rfl, rfl⟩ | h
  · go_enter Tryz.func16, Tryz.ntmps16
    go_wp2
    refine wp_loop_rounds 1 ?_; rw [rounds_succ]
    go_wp2
    go_ret
    exact ⟨by simp, .inl ⟨rfl, rfl⟩, Ins.refl _ _ _⟩
  · refine (markEnS_any lo hi v L k w h h0 h1 h2).mono ?_
    rintro e w' ⟨rfl, a, b⟩
    exact ⟨rfl, .inr a, b⟩
end Go.Proofs.YtcpmfcigciknlaaGreat

namespace Go.Proofs.YtcpmfcigciknlaaGreat
open Go.RowKit
set_option linter.unusedVariables false
def EnApart (n0 : Nat) (v u : Value) (w : World) (D : List EnD) : Prop := (D = [] ∧ u = .slice none 0 0) ∨ ∃ g, v.ownBlock ≠ some g ∧ n0 ≤ g ∧ EnW g (g + 1) w u D
theorem EnApart.reads {n0 : Nat} {v u : Value} {w : World} {D : List EnD} (h : EnApart n0 v u w D) : Enz w u D := by
  rcases h with ⟨rfl, rfl⟩ | ⟨g, _, _, h⟩
  · exact Enz.nil w
  · exact h.reads
theorem EnApart.ext {n0 : Nat} {v u : Value} {w w' : World} {D : List EnD} (h : EnApart n0 v u w D) (e : Ext w w') : EnApart n0 v u w' D := by
  rcases h with h | ⟨g, h1, h2, h3⟩
  · exact .inl h
  · exact .inr ⟨g, h1, h2, h3.kept (Stood.of_ext e (by have := EnW.lt h3; omega))⟩
theorem EnApart.grown {n0 : Nat} {v u : Value} {w w' : World} {D : List EnD} (h : EnApart n0 v u w D) (t : w.grownBy w' v.ownBlock) : EnApart n0 v u w' D := by
  rcases h with h | ⟨g, h1, h2, h3⟩
  · exact .inl h
  · have hlt := EnW.lt h3
    exact .inr ⟨g, h1, h2, h3.kept ⟨t.size, fun b hb1 hb2 => t.block b (by omega) (fun e => h1 (by rw [← e]; exact congrArg some (by omega)))⟩⟩
theorem EnApart.other {n0 : Nat} {v u : Value} {w w' : World} {D : List EnD} {r : Option Nat} (h : EnApart n0 v u w D) (t : w.grownBy w' r) (hr : ∀ q, r = some q → q < n0) : EnApart n0 v u w' D := by
  rcases h with h | ⟨g, h1, h2, h3⟩
  · exact .inl h
  · have hlt := EnW.lt h3
    exact .inr ⟨g, h1, h2, h3.kept ⟨t.size, fun b hb1 hb2 => t.block b (by omega) (fun e => by have := hr b e.symm; omega)⟩⟩
theorem EnApart.ins {n0 lo hi : Nat} {v u : Value} {w w' : World} {D : List EnD} (h : EnApart n0 v u w D) (t : Ins lo hi w w') (hr : hi ≤ n0) : EnApart n0 v u w' D := by
  rcases h with h | ⟨g, h1, h2, h3⟩
  · exact .inl h
  · have hlt := EnW.lt h3
    exact .inr ⟨g, h1, h2, h3.kept (t.stood (by omega) (.inr (by omega)))⟩
theorem enApart_mark {n0 : Nat} {v u : Value} {D : List EnD} {k : Int} {w : World} (hv : EnApart n0 v u w D) (h0 : 0 ≤ k) (h1 : k ≤ 1099511627776) (h2 : D.length ≤ 1048576) :
    Calls Tryz.prog 16 #[u, .int .i64 k] w (fun e w' => e = .returned (.int .i64 (k + 9 * (D.length : Int))) ∧ EnApart n0 v u w' (marksE k D.length) ∧ ∃ r, w.grownBy w' r ∧ (∀ q, r = some q → n0 ≤ q) ∧ (v.ownBlock = none ∨ v.ownBlock ≠ r)) := by
  rcases hv with ⟨rfl, rfl⟩ | ⟨g, a, b, c⟩
  · refine (ansEn_mark (lo := 0) (hi := 0) (k := k) (w := w) (.inl ⟨rfl, rfl⟩) h0 h1 h2).mono ?_
    rintro e w' ⟨rfl, _, i⟩
    refine ⟨rfl, .inl ⟨by simp [marksE], rfl⟩, none, ⟨i.os, i.tape, i.output, i.size, fun b hb _ => i.block b hb (.inr (Nat.zero_le _))⟩, fun q h => (by cases h), ?_⟩
    cases v.ownBlock with
    | none => exact .inl rfl
    | some q => exact .inr (by simp)
  · refine (markEnS_any g (g + 1) u D k w c h0 h1 h2).mono ?_
    rintro e w' ⟨rfl, m, i⟩
    refine ⟨rfl, .inr ⟨g, a, b, m⟩, some g, ⟨i.os, i.tape, i.output, i.size, fun q hq hne => i.block q hq (by have : q ≠ g := fun e => hne (by rw [e]); omega)⟩, fun q h => (by cases h; exact b), .inr a⟩
end Go.Proofs.YtcpmfcigciknlaaGreat

namespace Go.Proofs.YtcpmfcigciknlaaGreat
open Go.RowKit Go.Maps
set_option linter.unusedVariables false
theorem pairs_len (T : List (List RowD)) : ((insts T).map pairOf).length = (insts T).length := by simp
theorem pair_at {w : World} {v : Value} {x : Nat × Nat} (h : Ints w v (pairOf x)) : ∃ b o c, v = .slice (some ⟨b, o, none⟩) 2 c ∧ w.cell? ⟨b, o, none⟩ = some (.int .i64 x.1) ∧ w.cell? ⟨b, o + 1, none⟩ = some (.int .i64 ((x.2 : Int) + 1)) := by
  obtain ⟨a, c, rfl, _, _, hc⟩ := h
  have hl : (pairOf x).length = 2 := rfl
  have h0 : 0 < (pairOf x).length := by omega
  have h1 : 1 < (pairOf x).length := by omega
  obtain ⟨b, o, rfl, hk⟩ := hc h0
  have z0 := hk 0 h0
  have z1 := hk 1 h1
  exact ⟨b, o, c, rfl, z0, z1⟩
end Go.Proofs.YtcpmfcigciknlaaGreat

namespace Go.Proofs.YtcpmfcigciknlaaGreat
open Go.RowKit
set_option linter.unusedVariables false
def BookedI (S : List Int) (D : List EnD) (b : Bool) (w : World) (e : Ending) (w' : World) : Prop :=
  ∃ v u, e = .returned (.tuple #[v, u, .bool b]) ∧ Fresh w.heap.size w' v S ∧ EnApart w.heap.size v u w' D ∧ Ext w w'
theorem field_rowC (b v st k i f t a s : Int) (u : Value) (W : World) : (Instr.field 83 (.agg #[.int .i64 b, .int .i64 v, .int .i64 st, .int .i64 k, .int .i64 i, .int .i64 f, .int .i64 t, .int .i64 a, .int .i64 s, u]) 3).run Tryz.prog W = .ok (.agg #[.int .i64 k, .int .i64 i, .int .i64 f, .int .i64 t, .int .i64 a]) W := by kernel_rfl
set_option maxHeartbeats 1000000 in
theorem entererOn_any (ao : Option Addr) (l c : Nat) (w : World) :
    Calls Tryz.prog 37 #[.slice ao l c] w (fun e w' => e = .returned (.func (.func 69) #[] #[.pointer (some ⟨w.heap.size, 0, none⟩)]) ∧ w'.cell? ⟨w.heap.size, 0, none⟩ = some (.slice ao l c) ∧ Ext w w' ∧ w.heap.size < w'.heap.size) := by
  go_enter Tryz.func37, Tryz.ntmps37
  go_wp2
  go_ret
  exact ⟨rfl, by go_simp, Ext.alloc (Ext.refl _) _, by simp⟩
theorem ensTo_ans {w : World} {g m : Nat} {xs : List Value} {L : List EnD} (hb : BoxV w g xs) (hL : L.length = m) (hm : m ≤ maxLen) (hl : xs.length = m * 9) (h : EnsTo xs L m) : EnW g (g + 1) w (.slice (some ⟨g, 0, none⟩) m m) L := by
  subst hL
  exact ⟨g, xs, L.length, Nat.le_refl _, Nat.lt_succ_self _, rfl, Nat.le_refl _, hm, hb, Nat.le_of_eq hl.symm, h⟩
set_option maxHeartbeats 8000000 in
set_option maxRecDepth 100000 in
theorem implBook_any (n : Int) (u : Value) (T : List (List RowD)) (w : World) (hu : Rowzz w u T) (hs : bulkT T ≤ 1099511627776) :
    Calls Tryz.prog 10 #[.agg #[.int .i64 n, u]] w (BookedI (bookSR n T) (bookER n T) (goodTab n T) w) := by
  obtain ⟨SR, hSR⟩ : ∃ x, x = bookSR n T := ⟨_, rfl⟩
  obtain ⟨ER, hER⟩ : ∃ x, x = bookER n T := ⟨_, rfl⟩
  obtain ⟨gd, hg⟩ : ∃ g, g = goodTab n T := ⟨_, rfl⟩
  rw [← hSR, ← hER, ← hg]
  have HS := Lib.hid hs
  have hx0 := Ext.alloc1 w (.cells #[.int .i64 n, u] 32)
  have b0 := attrAt_new w 32 n u
  have HU := Lib.hid (hu.ext hx0)
  have HX := Lib.hid hx0
  have HB0 := Lib.hid b0
  have HSR := Lib.hid hSR
  have HER := Lib.hid hER
  have HGG := Lib.hid hg
  obtain ⟨au, cu, rfl, hlu, _, _⟩ := hu
  clear hx0 hs hSR hER hg b0
  go_enter Tryz.func10, Tryz.ntmps10
  go_wp2_with fail
  refine (implOrderIn_any n _ T _ HU.out HS.out).mono ?_
  rintro e w1 ⟨v1, rfl, f1, x1⟩
  rw [← HGG.out]
  cases gd with
  | false =>
    have eS : SR = [] := by rw [HSR.out]; unfold bookSR; rw [← HGG.out]; rfl
    have eE : ER = [] := by rw [HER.out]; unfold bookER; rw [← HGG.out]; rfl
    have X1 := Lib.hid (HX.out.trans x1)
    have ES := Lib.hid eS
    have EE := Lib.hid eE
    clear eS eE f1 x1
    go_wp2
    go_ret3
    rw [ES.out, EE.out]
    exact ⟨_, _, rfl, fresh_nil _ _, .inl ⟨rfl, rfl⟩, X1.out⟩
  | true =>
    have hio := f1.intss
    rw [show orderR n T = (ordPts n T).map pairOf by rw [ordPts_pairs]; unfold orderR; rw [← HGG.out]; rfl] at hio
    obtain ⟨P, hP⟩ : ∃ P, P = ordPts n T := ⟨_, rfl⟩
    obtain ⟨C, hC⟩ : ∃ C, C = bookC n T := ⟨_, rfl⟩
    have hCl : C.length = P.length := by rw [hC, hP, bookC_len]
    have hP30 : P.length ≤ 30 := by rw [hP]; exact ordPts_len HGG.out.symm
    have hSE : SR = sumsAt C P.length ∧ ER = entsTo P C P.length := by
      refine ⟨?_, ?_⟩
      · rw [HSR.out]; unfold bookSR bookS; rw [← HGG.out, if_pos rfl, ← hC, hCl]
      · rw [HER.out]; unfold bookER bookE; rw [← HGG.out, if_pos rfl, ← hC, ← hP]
    have hgs : ∀ j, j ≤ P.length → goodS (sumsAt C j) = true := fun j hj => sumsAt_good (by rw [hC]; exact bookC_good HGG.out.symm) j (by omega)
    have hPm : ∀ x ∈ P, goodB (rowOf n T x.1 x.2).k (rowOf n T x.1 x.2).i (rowOf n T x.1 x.2).f (rowOf n T x.1 x.2).t (rowOf n T x.1 x.2).a = true ∧ x.1 < T.length ∧ x.2 ≤ 5 := fun x hx => ordPts_row HGG.out.symm (by rw [← hP]; exact hx)
    have hCx : ∀ j (hj : j < P.length) (hj' : j < C.length), C[j] = cmdR (rowOf n T P[j].1 P[j].2) := fun j hj hj' => by
      have h1 : C[j]? = some (cmdR (rowOf n T P[j].1 P[j].2)) := by
        rw [hC]
        unfold bookC
        rw [List.getElem?_map, ← hP, List.getElem?_eq_getElem hj]
        rfl
      exact (List.getElem?_eq_some_iff.1 h1).2
    rw [← hP] at hio
    obtain ⟨ai, ci, rfl, hli, _, hci⟩ := hio
    have hml : (P.map pairOf).length = P.length := by simp
    obtain ⟨m, hm⟩ : ∃ m, m = P.length := ⟨_, rfl⟩
    rw [hml, ← hm] at hli ⊢
    rw [← hm] at hP30
    have HGT := Lib.hid (goodTab_of HGG.out.symm).1
    have HCI := Lib.hid hci
    have HMM := Lib.hid hm
    have HCL := Lib.hid hCl
    have HSE := Lib.hid hSE
    have HGS := Lib.hid hgs
    have HPM := Lib.hid hPm
    have HCX := Lib.hid hCx
    have X1 := Lib.hid x1
    clear hci hm hCl hSE hgs hPm hCx hP hC hml f1 x1 HSR HER
    go_wp2_with fail
    refine (implNewSums_any _).mono ?_
    rintro e w2 ⟨v2, rfl, f2, x2⟩
    have F2 := Lib.hid f2
    obtain ⟨a2, c2, rfl⟩ := f2.form
    have X2 := Lib.hid x2
    clear f2 x2
    go_wp2_with fail
    refine (entererOn_any _ _ _ _).mono ?_
    rintro e w3 ⟨rfl, cb3, x3, l3⟩
    obtain ⟨bm, hbm⟩ : ∃ b, b = w2.heap.size := ⟨_, rfl⟩
    rw [← hbm] at cb3 ⊢
    have HBM := Lib.hid hbm
    have CB3 := Lib.hid cb3
    have L3 := Lib.hid l3
    have F3 := Lib.hid (F2.out.ext x3)
    have X3 := Lib.hid (X2.out.trans x3)
    obtain ⟨i0, hi, hz0, hz1, hz2⟩ := info_parts Tryz.infoEntry
    clear hbm cb3 x3 l3
    go_wp2_with (at_make; refine wpList_make_full _ rfl _ _ 27 rfl w3.heap.size 79 i0 _ 9 Tryz.underlying27 hi hz0 hz1 _ _ _ _ m rfl rfl rfl rfl ?c1 ?c2 ?c3 ?_)
    case c1 => rw [hz2]; omega
    case c2 => unfold maxLen; omega
    case c3 => simp
    intro w4 ho4 hg4
    have hx4 : Ext w3 w4 := ext_of_grown hg4
    have hsz : w3.heap.size < w4.heap.size := by
      rcases ho4.2 with ⟨h, _⟩ | ⟨g, cap, cur, h, hb, hg, _⟩
      · cases h
      · simp only [Value.slice.injEq, Option.some.injEq, Addr.mk.injEq, and_true, true_and] at h
        obtain ⟨rfl, _⟩ := h
        exact (Array.getElem?_eq_some_iff.1 hg).1
    obtain ⟨ys0, hys⟩ : ∃ ys, ys = (madeCells #[.int .i64 0, .int .i64 0, .int .i64 0, .int .i64 0, .int .i64 0, .int .i64 0, .int .i64 0, .int .i64 0, .int .i64 0] (m * 9)).toList := ⟨_, rfl⟩
    rw [← hys] at ho4
    have hly : ys0.length = m * 9 := ho4.1
    have hby : BoxV w4 w3.heap.size ys0 := ⟨fun j v hj => by
      rw [ho4.cellAt _ (by have := (List.getElem?_eq_some_iff.1 hj).1; omega)]; exact hj, fun j _ => ho4.frozenAt j, hsz⟩
    have HBY := Lib.hid hby
    have F4 := Lib.hid (F3.out.ext hx4)
    have CB4 := Lib.hid (hx4.cell CB3.out)
    have X4 := Lib.hid (X3.out.trans hx4)
    obtain ⟨g, hgq⟩ : ∃ g, g = w3.heap.size := ⟨_, rfl⟩
    rw [← hgq] at HBY ⊢
    have GS : Hid (w1.heap.size ≤ g) := Lib.hid (by rw [hgq]; exact X3.out.size)
    have GB : Hid (bm ≠ g) := Lib.hid (by rw [hgq, HBM.out]; have := L3.out; omega)
    have hob : ∀ b, (Value.slice a2 4 c2).ownBlock = some b → b < w2.heap.size := fun b hb => (World.ownsRow.lt F2.out b hb).2
    have NG : Hid ((Value.slice a2 4 c2).ownBlock ≠ some g) := Lib.hid (fun e => by have := hob _ e; have := L3.out; omega)
    have NB : Hid ((Value.slice a2 4 c2).ownBlock ≠ some bm) := Lib.hid (fun e => by have := hob _ e; have := HBM.out; omega)
    have KT : Hid (∀ V, Ext w1 V → V.cell? ⟨w.heap.size, 0, none⟩ = some (.int .i64 n) ∧ V.cell? ⟨w.heap.size, 1, none⟩ = some (.slice au T.length cu)) := Lib.hid (fun V hV => (HB0.out.ext X1.out).ext hV)
    clear ho4 hg4 hz0 hz1 hz2 hi hx4 hsz hys hby hgq hob F2 F3 CB3
    go_wp2
    go_loopw [10, 11, 27] (fun _ _ i wr => ∃ (k : Nat) (ys : List Value), k ≤ m ∧ i = .int .i64 k ∧ Hid (Fresh w1.heap.size wr (.slice a2 4 c2) (sumsAt C k)) ∧ Hid (BoxV wr g ys) ∧ Hid (ys.length = m * 9) ∧ Hid (EnsTo ys (entsTo P C m) k) ∧ Hid (wr.cell? ⟨bm, 0, none⟩ = some (.slice a2 4 c2)) ∧ Hid (Ext w1 wr)) (fun _ _ i _ => m - (intOf i).toNat)
    case atStart => exact ⟨0, ys0, Nat.zero_le _, rfl, F4, HBY, Lib.hid hly, Lib.hid (fun j _ h => by omega), CB4, X4⟩
    case round =>
      clear F4 HBY CB4 X4 hly
      obtain ⟨k, ys, hk, rfl, HF, HB, HYL, HT, HCB, HXW⟩ := hrel
      by_cases hlt : k < m
      · have hkP : k < P.length := Nat.lt_of_lt_of_eq hlt HMM.out
        obtain ⟨bi, oi, rfl, di⟩ := HCI.out (by rw [List.length_map]; omega)
        obtain ⟨xv, gx0, ix⟩ := di k (by rw [List.length_map]; exact hkP)
        rw [List.getElem?_map, List.getElem?_eq_getElem hkP] at ix
        replace ix : Ints w1 xv (pairOf P[k]) := ix
        have gx := HXW.out.cell gx0
        obtain ⟨x, hx⟩ : ∃ x, x = P[k] := ⟨_, rfl⟩
        rw [← hx] at ix
        obtain ⟨bx, ox, cx, rfl, q0, q1⟩ := pair_at ix
        have hxm : x ∈ P := by rw [hx]; exact List.getElem_mem hkP
        obtain ⟨hgb, hpT, hq5⟩ := HPM.out x hxm
        have hck := HCX.out k hkP (by have := HCL.out; omega)
        have hgk := HGS.out k (Nat.le_of_lt hkP)
        obtain ⟨p, q⟩ := x
        dsimp only at hgb hpT hq5
        have hee := entsTo_at (P := P) (C := C) (m := m) (k := k) (by rw [entsTo_len]; exact hlt) hkP (by have := HCL.out; omega)
        have hss := sumsAt_succ (L := C) (j := k) (by have := HCL.out; omega)
        rw [hck, ← hx] at hee hss
        obtain ⟨r, hr⟩ : ∃ r, r = rowOf n T p q := ⟨_, rfl⟩
        have cr : ∀ V, Ext wr V → Calls Tryz.prog 38 #[.agg #[.int .i64 n, .slice au T.length cu], .int .i64 p, .int .i64 ((q : Int) + 1)] V (NewRow r V) := fun V hV => by rw [hr]; exact implRowOf_any n _ T p q V (HU.out.ext (X1.out.trans (HXW.out.trans hV))) HGG.out.symm hpT hq5
        dsimp only at hee hss
        rw [← hr] at hee hss hgb
        obtain ⟨c, hc⟩ : ∃ c, c = didC r.k r.f r.a (sumsAt C k) := ⟨_, rfl⟩
        obtain ⟨s, hs⟩ : ∃ s, s = didS r.k r.f (sumsAt C k) := ⟨_, rfl⟩
        have HE : Hid ((entsTo P C m)[k]'(by rw [entsTo_len]; exact hlt) = ⟨(p : Int), (q : Int) + 1, r.k, r.i, r.f, r.t, r.a, c, s⟩) := Lib.hid (by rw [hee, hc, hs]; rfl)
        have HSS : Hid (didL r.k r.f r.t r.a (sumsAt C k) = sumsAt C (k + 1)) := Lib.hid hss.symm
        have ks : ∀ V, Ext w1 V → V.cell? ⟨w.heap.size, 0, none⟩ = some (.int .i64 n) ∧ V.cell? ⟨w.heap.size, 1, none⟩ = some (.slice au T.length cu) ∧ V.cell? ⟨bx, ox, none⟩ = some (.int .i64 (p : Int)) ∧ V.cell? ⟨bx, ox + 1, none⟩ = some (.int .i64 ((q : Int) + 1)) := fun V hV => by
          obtain ⟨t0, t1⟩ := KT.out V hV
          exact ⟨t0, t1, hV.cell q0, hV.cell q1⟩
        have KS := Lib.hid ks
        have CR := Lib.hid cr
        have HGB := Lib.hid hgb
        have HGK := Lib.hid hgk
        have HC1 := Lib.hid hc
        have HS1 := Lib.hid hs
        have HR := Lib.hid (Ext.trans HXW.out (Ext.drew (Ext.refl wr)))
        have HLTM := Lib.hid hlt
        clear di gx0 ix hx q0 q1 hxm hgb hpT hck hgk hee hss hr cr hc hs ks
        go_wp2_with fail
        clear gx
        go_region_held3 (fun V => V.cell? ⟨w.heap.size, 0, none⟩ = some (.int .i64 n) ∧ V.cell? ⟨w.heap.size, 1, none⟩ = some (.slice au T.length cu) ∧ V.cell? ⟨bx, ox, none⟩ = some (.int .i64 (p : Int)) ∧ V.cell? ⟨bx, ox + 1, none⟩ = some (.int .i64 ((q : Int) + 1))) (first | (with_reducible exact KS.out _ HR.out) | (with_reducible exact KS.out _ HW8.out) | (with_reducible exact KS.out _ HW9.out) | (exact KS.out _ HWS.out)) (first
          | (go_at_call 38; refine (CR.out _ (Ext.drew (Ext.refl _))).mono ?_; rintro e w8 ⟨z8, rfl, f8, x8'⟩; have x8 : Ext wr w8 := (Ext.drew (Ext.refl _)).trans x8'; have HW8 := Lib.hid (Ext.trans HXW.out x8); have hfd := field_rowC r.b r.v r.st r.k r.i r.f r.t r.a r.s z8)
          | (go_at_call 69; refine (enter_any w1.heap.size bm (.slice a2 4 c2) (sumsAt C k) p ((q : Int) + 1) r.k r.i r.f r.t r.a _ (Fresh.ext HF.out x8) HGK.out HGB.out (x8.cell HCB.out) NB.out).mono ?_; rintro e w9 ⟨rfl, f9, g9⟩; rw [← HC1.out, ← HS1.out]; have hw9 := Ext.touch (HXW.out.trans x8) (Fresh.ext HF.out x8) g9; have HW9 := Lib.hid hw9; have B9 := BoxV.but (HB.out.ext x8) g9 NG.out; have HWS : Hid (Ext w1 (w9.setCells g (k * 9) [.int .i64 (p : Int), .int .i64 ((q : Int) + 1), .int .i64 r.k, .int .i64 r.i, .int .i64 r.f, .int .i64 r.t, .int .i64 r.a, .int .i64 c, .int .i64 s])) := Lib.hid ((ins_puts (lo := g) (hi := g + 1) (Nat.le_refl _) (Nat.lt_succ_self _) [.int .i64 (p : Int), .int .i64 ((q : Int) + 1), .int .i64 r.k, .int .i64 r.i, .int .i64 r.f, .int .i64 r.t, .int .i64 r.a, .int .i64 c, .int .i64 s] (k * 9) w9).ext hw9 GS.out); have c9 := cell_but (x8.cell HCB.out) g9 NB.out; obtain ⟨o0, y0⟩ : ∃ v, w9.cell? ⟨g, k * 9, none⟩ = some v := ⟨_, B9.cell (k * 9) _ (List.getElem?_eq_getElem (by have := HYL.out; have := HLTM.out; omega))⟩; have z0 := B9.free (k * 9) (by have := HYL.out; have := HLTM.out; omega); obtain ⟨o1, y1⟩ : ∃ v, w9.cell? ⟨g, k * 9 + 1, none⟩ = some v := ⟨_, B9.cell (k * 9 + 1) _ (List.getElem?_eq_getElem (by have := HYL.out; have := HLTM.out; omega))⟩; have z1 := B9.free (k * 9 + 1) (by have := HYL.out; have := HLTM.out; omega); obtain ⟨o2, y2⟩ : ∃ v, w9.cell? ⟨g, k * 9 + 2, none⟩ = some v := ⟨_, B9.cell (k * 9 + 2) _ (List.getElem?_eq_getElem (by have := HYL.out; have := HLTM.out; omega))⟩; have z2 := B9.free (k * 9 + 2) (by have := HYL.out; have := HLTM.out; omega); obtain ⟨o3, y3⟩ : ∃ v, w9.cell? ⟨g, k * 9 + 3, none⟩ = some v := ⟨_, B9.cell (k * 9 + 3) _ (List.getElem?_eq_getElem (by have := HYL.out; have := HLTM.out; omega))⟩; have z3 := B9.free (k * 9 + 3) (by have := HYL.out; have := HLTM.out; omega); obtain ⟨o4, y4⟩ : ∃ v, w9.cell? ⟨g, k * 9 + 4, none⟩ = some v := ⟨_, B9.cell (k * 9 + 4) _ (List.getElem?_eq_getElem (by have := HYL.out; have := HLTM.out; omega))⟩; have z4 := B9.free (k * 9 + 4) (by have := HYL.out; have := HLTM.out; omega); obtain ⟨o5, y5⟩ : ∃ v, w9.cell? ⟨g, k * 9 + 5, none⟩ = some v := ⟨_, B9.cell (k * 9 + 5) _ (List.getElem?_eq_getElem (by have := HYL.out; have := HLTM.out; omega))⟩; have z5 := B9.free (k * 9 + 5) (by have := HYL.out; have := HLTM.out; omega); obtain ⟨o6, y6⟩ : ∃ v, w9.cell? ⟨g, k * 9 + 6, none⟩ = some v := ⟨_, B9.cell (k * 9 + 6) _ (List.getElem?_eq_getElem (by have := HYL.out; have := HLTM.out; omega))⟩; have z6 := B9.free (k * 9 + 6) (by have := HYL.out; have := HLTM.out; omega); obtain ⟨o7, y7⟩ : ∃ v, w9.cell? ⟨g, k * 9 + 7, none⟩ = some v := ⟨_, B9.cell (k * 9 + 7) _ (List.getElem?_eq_getElem (by have := HYL.out; have := HLTM.out; omega))⟩; have z7 := B9.free (k * 9 + 7) (by have := HYL.out; have := HLTM.out; omega); obtain ⟨o8, y8⟩ : ∃ v, w9.cell? ⟨g, k * 9 + 8, none⟩ = some v := ⟨_, B9.cell (k * 9 + 8) _ (List.getElem?_eq_getElem (by have := HYL.out; have := HLTM.out; omega))⟩; have z8 := B9.free (k * 9 + 8) (by have := HYL.out; have := HLTM.out; omega)))
        have FN : Hid (Fresh w1.heap.size (w9.setCells g (k * 9) [.int .i64 (p : Int), .int .i64 ((q : Int) + 1), .int .i64 r.k, .int .i64 r.i, .int .i64 r.f, .int .i64 r.t, .int .i64 r.a, .int .i64 c, .int .i64 s]) (.slice a2 4 c2) (sumsAt C (k + 1))) := Lib.hid (by rw [← HSS.out]; exact fresh_puts NG.out [.int .i64 (p : Int), .int .i64 ((q : Int) + 1), .int .i64 r.k, .int .i64 r.i, .int .i64 r.f, .int .i64 r.t, .int .i64 r.a, .int .i64 c, .int .i64 s] (k * 9) f9)
        have BN := Lib.hid (boxV_puts [.int .i64 (p : Int), .int .i64 ((q : Int) + 1), .int .i64 r.k, .int .i64 r.i, .int .i64 r.f, .int .i64 r.t, .int .i64 r.a, .int .i64 c, .int .i64 s] (k * 9) _ _ B9 (by simp only [List.length_cons, List.length_nil]; have := HYL.out; have := HLTM.out; omega))
        have TN : Hid (EnsTo (putL ys (k * 9) [.int .i64 (p : Int), .int .i64 ((q : Int) + 1), .int .i64 r.k, .int .i64 r.i, .int .i64 r.f, .int .i64 r.t, .int .i64 r.a, .int .i64 c, .int .i64 s]) (entsTo P C m) (k + 1)) := Lib.hid (by
          have h := HT.out.put (k := k) (by rw [entsTo_len]; exact HLTM.out) (by rw [entsTo_len]; exact HYL.out)
          rw [HE.out] at h
          exact h)
        have CN := Lib.hid (cell_puts (g := g) (a := ⟨bm, 0, none⟩) (by exact GB.out) [.int .i64 (p : Int), .int .i64 ((q : Int) + 1), .int .i64 r.k, .int .i64 r.i, .int .i64 r.f, .int .i64 r.t, .int .i64 r.a, .int .i64 c, .int .i64 s] (k * 9) c9)
        clear y0 z0 y1 z1 y2 z2 y3 z3 y4 z4 y5 z5 y6 z6 y7 z7 y8 z8 f9 g9 hw9 B9 c9 x8 x8' f8 hfd HW8 HW9
        go_wp2
        go_roundw
        case rel => exact ⟨k + 1, _, by have := HLTM.out; omega, by go_num, FN, BN, Lib.hid (by rw [putL_len]; exact HYL.out), TN, CN, HWS⟩
        case measure => simp [intOf]; have := HLTM.out; omega
      · obtain rfl : k = m := by omega
        obtain ⟨eS, eE⟩ := HSE.out
        rw [← HMM.out] at eS eE
        have FE : Hid (Fresh w.heap.size wr (.slice a2 4 c2) SR) := Lib.hid (by rw [eS]; exact HF.out.more ((HX.out.trans X1.out).size))
        have AE : Hid (EnApart w.heap.size (.slice a2 4 c2) (.slice (some ⟨g, 0, none⟩) k k) wr ER) := Lib.hid (by
          rw [eE]
          exact .inr ⟨g, NG.out, Nat.le_trans (HX.out.trans X1.out).size GS.out, ensTo_ans HB.out (entsTo_len _ _ _) (by unfold maxLen; omega) HYL.out HT.out⟩)
        have XE := Lib.hid (HX.out.trans (X1.out.trans HXW.out))
        clear HF HB HYL HT HCB HXW eS eE
        go_wp2
        go_ret3
        exact ⟨_, _, rfl, FE.out, AE.out, XE.out⟩
end Go.Proofs.YtcpmfcigciknlaaGreat
