/- Texts of this proof, part g: words, plain facts, contracts. -/
import Derived.Test.YtfffddhfagibpaaMPlayCmdsf
import Derived.Test.YtfffddhfagibpaaMPlayCmdse
import Derived.Test.YtfffddhfagibpaaMPlayCmdsc
import Derived.Laws.CopyOwn
import Derived.Deep.RegionLaw
import Derived.StillTailTactics
import Derived.Laws.OwnMore
import Derived.Test.YtfffddhfagibpaaMPlayCmdsb

namespace Go.Proofs.Ytfffddhfagibpaa
open Go.RowKit
set_option linter.unusedVariables false

/-- The marks k, k + 1, .., two for each. -/
def marksT (k : Int) (n : Nat) : List TldD := (List.range n).map fun (j : Nat) => ⟨k + 2 * (j : Int), k + 2 * (j : Int) + 1⟩
theorem marksT_len (k : Int) (n : Nat) : (marksT k n).length = n := by simp [marksT]
theorem marksT_at {k : Int} {n j : Nat} (h : j < (marksT k n).length) : (marksT k n)[j] = ⟨k + 2 * (j : Int), k + 2 * (j : Int) + 1⟩ := by simp [marksT]

set_option maxHeartbeats 2000000 in
set_option maxRecDepth 100000 in
theorem markTdS_any (lo hi : Nat) (v : Value) (L : List TldD) (k : Int) (w : World) (hv : TdzM lo hi w v L) (h0 : 0 ≤ k) (h1 : k ≤ 1099511627776) (h2 : L.length ≤ 1048576) :
    Calls Try.prog 29 #[v, .int .i64 k] w (fun e w' => e = .returned (.int .i64 (k + 2 * (L.length : Int))) ∧ TdzM lo hi w' v (marksT k L.length) ∧ Ins lo hi w w') := by
  obtain ⟨g, xs0, hg, hgh, rfl, hm, hb, hl0, hT⟩ := hv
  have HG := Lib.hid (And.intro hg hgh)
  have HB0 := Lib.hid hb
  have HM := Lib.hid hm
  clear hb hT hg hgh hm
  obtain ⟨n, hn⟩ : ∃ n, n = L.length := ⟨_, rfl⟩
  rw [← hn] at hl0 h2 HM ⊢
  clear hn
  go_enter Try.func29, Try.ntmps29
  go_wp2
  go_loopw [1, 5] (fun m i wr => ∃ (j : Nat) (ys : List Value), j ≤ n ∧ i = .int .i64 j ∧ m = .int .i64 (k + 2 * (j : Int)) ∧ Hid (BoxV wr g ys) ∧ ys.length = n * 2 ∧ Hid (TdsTo ys (marksT k n) j) ∧ Hid (Ins lo hi w wr)) (fun _ i _ => n - (intOf i).toNat)
  case atStart => exact ⟨0, xs0, Nat.zero_le _, rfl, by simp, HB0, hl0, Lib.hid (fun j _ h => by omega), Lib.hid (Ins.refl _ _ _)⟩
  case round =>
    clear HB0 hl0
    obtain ⟨j, ys, hj, rfl, rfl, hB, hl, hT, hI⟩ := hrel
    by_cases hlt : j < n
    · obtain ⟨o0, c0⟩ : ∃ v, wr.cell? ⟨g, j * 2, none⟩ = some v := ⟨_, hB.out.cell (j * 2) _ (List.getElem?_eq_getElem (by omega))⟩
      obtain ⟨o1, c1⟩ : ∃ v, wr.cell? ⟨g, j * 2 + 1, none⟩ = some v := ⟨_, hB.out.cell (j * 2 + 1) _ (List.getElem?_eq_getElem (by omega))⟩
      have n0 := hB.out.free (j * 2) (by omega)
      have n1 := hB.out.free (j * 2 + 1) (by omega)
      obtain ⟨m, hm⟩ : ∃ m, m = k + 2 * (j : Int) := ⟨_, rfl⟩
      rw [← hm]
      have hm0 : 0 ≤ m := by omega
      have hm1 : m ≤ 1099513724928 := by omega
      have HMM := Lib.hid hm
      have HD := Lib.hid (show (marksT k n)[j]'(by rw [marksT_len]; exact hlt) = ⟨m, m + 1⟩ by rw [marksT_at, hm])
      clear hm
      go_wp2
      go_roundw
      case rel =>
        refine ⟨j + 1, putL ys (j * 2) (tdVs ⟨m, m + 1⟩), by omega, by go_num, by have := HMM.out; go_num, Lib.hid ?_, by rw [putL_len]; exact hl, Lib.hid ?_, Lib.hid ?_⟩
        · exact boxV_puts (tdVs ⟨m, m + 1⟩) (j * 2) _ _ hB.out (by rw [tdVs_len]; omega)
        · rw [← HD.out]
          exact hT.out.put (by rw [marksT_len]; exact hlt) (by rw [marksT_len]; exact hl)
        · exact hI.out.trans ((ins_puts (lo := g) (hi := g + 1) (Nat.le_refl _) (Nat.lt_succ_self _) (tdVs ⟨m, m + 1⟩) (j * 2) wr).more HG.out.1 HG.out.2)
      case measure => simp [intOf]; omega
    · obtain rfl : j = n := by omega
      go_wp2
      go_ret
      refine ⟨rfl, ⟨g, ys, HG.out.1, HG.out.2, by rw [marksT_len], by rw [marksT_len]; exact HM.out, hB.out, by rw [marksT_len]; exact hl, ?_⟩, hI.out⟩
      rw [marksT_len]
      exact hT.out

set_option maxHeartbeats 1000000 in
set_option maxRecDepth 100000 in
theorem heldTdS_yes (v : Value) (n : Nat) (k : Int) (w : World) (hv : Tdz w v (marksT k n)) (h0 : 0 ≤ k) (h1 : k ≤ 1099511627776) (h2 : n ≤ 1048576) :
    Calls Try.prog 30 #[v, .int .i64 k] w (IntExt (k + 2 * (n : Int)) w) := by
  obtain ⟨av, cv, rfl, hlv, _, hcv⟩ := hv
  have hl := marksT_len k n
  rw [hl]
  clear hlv
  go_enter Try.func30, Try.ntmps30
  go_wp2
  go_loopw [1, 5] (fun m i wr => ∃ j : Nat, j ≤ n ∧ i = .int .i64 j ∧ m = .int .i64 (k + 2 * (j : Int)) ∧ Ext w wr) (fun _ i _ => n - (intOf i).toNat)
  case atStart => exact ⟨0, Nat.zero_le _, rfl, by simp, Ext.refl _⟩
  case round =>
    obtain ⟨j, hj, rfl, rfl, hx⟩ := hrel
    by_cases hlt : j < n
    · obtain ⟨b, off, rfl, dv⟩ := hcv (by rw [hl]; omega)
      have hd := dv j (by rw [marksT_len]; exact hlt)
      rw [marksT_at] at hd
      obtain ⟨m, hm⟩ : ∃ m, m = k + 2 * (j : Int) := ⟨_, rfl⟩
      rw [← hm] at hd ⊢
      have hm0 : 0 ≤ m := by omega
      have hm1 : m ≤ 1099513724928 := by omega
      obtain ⟨c0, c1⟩ := tdIn_cells (hd.ext hx)
      have HMM := Lib.hid hm
      clear hcv dv hd hm
      have e0 : (m != m) = false := by simp
      have e1 : (m + 1 != m + 1) = false := by simp
      go_wp2
      go_roundw
      case rel => exact ⟨j + 1, by omega, by go_num, by have := HMM.out; go_num, hx⟩
      case measure => simp [intOf]; omega
    · obtain rfl : j = n := by omega
      go_wp2
      go_ret
      exact ⟨rfl, hx⟩

/-- What is told, in a block of its own from lo on, below hi, or nothing. -/
def AnsTd (lo hi : Nat) (w : World) (v : Value) (L : List TldD) : Prop := (L = [] ∧ v = .slice none 0 0) ∨ TdzM lo hi w v L
theorem AnsTd.reads {lo hi : Nat} {w : World} {v : Value} {L : List TldD} (h : AnsTd lo hi w v L) : Tdz w v L := by
  rcases h with ⟨rfl, rfl⟩ | h
  · exact Tdz.nil w
  · exact h.reads
theorem AnsTd.kept {lo hi : Nat} {w w' : World} {v : Value} {L : List TldD} (h : AnsTd lo hi w v L) (s : Stood lo hi w w') : AnsTd lo hi w' v L := by
  rcases h with h | h
  · exact .inl h
  · exact .inr (h.kept s)
theorem ansTd_mark {lo hi : Nat} {v : Value} {L : List TldD} {k : Int} {w : World} (hv : AnsTd lo hi w v L) (h0 : 0 ≤ k) (h1 : k ≤ 1099511627776) (h2 : L.length ≤ 1048576) :
    Calls Try.prog 29 #[v, .int .i64 k] w (fun e w' => e = .returned (.int .i64 (k + 2 * (L.length : Int))) ∧ AnsTd lo hi w' v (marksT k L.length) ∧ Ins lo hi w w') := by
  rcases hv with ⟨rfl, rfl⟩ | h
  · go_enter Try.func29, Try.ntmps29
    go_wp2
    refine wp_loop_rounds 1 ?_; rw [rounds_succ]
    go_wp2
    go_ret
    exact ⟨by simp, .inl ⟨rfl, rfl⟩, Ins.refl _ _ _⟩
  · refine (markTdS_any lo hi v L k w h h0 h1 h2).mono ?_
    rintro e w' ⟨rfl, a, b⟩
    exact ⟨rfl, .inr a, b⟩

end Go.Proofs.Ytfffddhfagibpaa

namespace Go.Proofs.Ytfffddhfagibpaa
open Go.RowKit
set_option linter.unusedVariables false

/-- An instance's two cells. -/
def cellsTd (x : TldD) : List Value := [.int .i64 x.c, .int .i64 x.s]
def flatTd (L : List TldD) : List Value := L.flatMap cellsTd
theorem flatTd_len (L : List TldD) : (flatTd L).length = L.length * 2 := by
  unfold flatTd
  induction L with
  | nil => rfl
  | cons x t ih => rw [List.flatMap_cons, List.length_append, ih]; simp [cellsTd]; omega
theorem flatTd_at {L : List TldD} {j : Nat} (h : j < L.length) : (flatTd L)[j * 2]? = some (.int .i64 L[j].c) ∧ (flatTd L)[j * 2 + 1]? = some (.int .i64 L[j].s) := by
  induction L generalizing j with
  | nil => simp at h
  | cons x t ih =>
    unfold flatTd
    rw [List.flatMap_cons]
    cases j with
    | zero => simp [cellsTd]
    | succ j =>
      have h' : j < t.length := by simpa using h
      obtain ⟨i1, i2⟩ := ih h'
      unfold flatTd at i1 i2
      have e1 : (j + 1) * 2 = (cellsTd x).length + j * 2 := by simp [cellsTd]; omega
      refine ⟨?_, ?_⟩
      · rw [e1, List.getElem?_append_right (by omega), Nat.add_sub_cancel_left, i1]
        simp
      · rw [e1, Nat.add_assoc, List.getElem?_append_right (by omega), Nat.add_sub_cancel_left, i2]
        simp

/-- v is a slice of instances of a block that was made from block number B on. -/
def FreshTd (B : Nat) (w : World) (v : Value) (L : List TldD) : Prop := w.ownsRow B 32 2 v L.length (flatTd L)
theorem FreshTd.nil (B : Nat) (w : World) : FreshTd B w (.slice none 0 0) [] := ⟨rfl, .inl ⟨rfl, rfl⟩⟩
theorem FreshTd.ext {B : Nat} {w w' : World} {v : Value} {L : List TldD} (h : FreshTd B w v L) (e : Ext w w') : FreshTd B w' v L := e.ownsRow h

theorem FreshTd.at {B : Nat} {w : World} {v : Value} {L : List TldD} (h : FreshTd B w v L) : Tdz w v L := by
  rcases h.2 with ⟨rfl, hn⟩ | ⟨g, cap, cur, rfl, hb, hg, hnc, hcm, hcs, htake⟩
  · obtain rfl : L = [] := List.eq_nil_of_length_eq_zero hn
    exact Tdz.nil w
  · refine ⟨some ⟨g, 0, none⟩, cap, rfl, by omega, ⟨by omega, by omega, fun h => by cases h⟩, fun _ => ⟨g, 0, rfl, fun j hj => ?_⟩⟩
    have hc1 := World.ownsRow.cellAt h (j * 2) (by omega)
    have hc2 := World.ownsRow.cellAt h (j * 2 + 1) (by omega)
    obtain ⟨f1, f2⟩ := flatTd_at hj
    rw [Nat.zero_add]
    intro q x hq
    match q, td_lt hq, hq with
    | 0, _, hq => simp [tdVs] at hq; subst hq; exact hc1.trans f1
    | 1, _, hq => simp [tdVs] at hq; subst hq; exact hc2.trans f2

theorem Try.infoTold : (Try.prog.info? 32).map (fun i => (i.zero, i.size, i.bytes)) = some (some (.agg #[.int .i64 0, .int .i64 0]), 2, 16) := by kernel_rfl

/-- append(s, x), s of the call's own. -/
theorem wpList_pushTd {ops : Array Oper} {rest : List Oper} {o : Oper} {a : Act} {Q : Exit → Act → World → Prop} {w : World} (hgd : o.guard = none) (s x : Operand)
    (ho : o.op = .call { callee := .builtin .append, args := #[s, x], argTypes := #[41, 41] })
    (B : Nat) (v : Value) (L : List TldD) (y : TldD) (hs : a.eval s = v) (hf : FreshTd B w v L) (g : Nat) (c : Nat) (hx : a.eval x = .slice (some ⟨g, 0, none⟩) 1 c)
    (hc0 : w.cell? ⟨g, 0, none⟩ = some (.int .i64 y.c)) (hc1 : w.cell? ⟨g, 1, none⟩ = some (.int .i64 y.s)) (hl : L.length ≤ 1048576) (hB : B ≤ w.heap.size)
    (h : ∀ v' w', FreshTd B w' v' (L ++ [y]) → w.grownBy w' v.ownBlock → Kept B w w' → wpList Try.prog ops Q rest (a.put o.dst v') w') : wpList Try.prog ops Q (o :: rest) a w := by
  obtain ⟨i0, hi, hz0, hz1, hz2⟩ := info_parts Try.infoTold
  refine wpList_append_own _ hgd s x 41 ho B 32 i0 (.agg #[.int .i64 0, .int .i64 0]) 2 16 Try.underlying41 hi hz0 hz1 hz2 rfl (by decide) v L.length _ hs hf ⟨g, 0, none⟩ 1 c (cellsTd y) hx rfl ?_ ?_ ?_ ?_ hB ?_
  · intro j u hj
    match j, hj with
    | 0, hj => simp [cellsTd] at hj; subst hj; simpa [Addr.add] using hc0
    | 1, hj => simp [cellsTd] at hj; subst hj; simpa [Addr.add] using hc1
  · intro u hu
    simp [cellsTd] at hu
    rcases hu with rfl | rfl <;> rfl
  · unfold maxLen; omega
  · omega
  · intro v' w' ho' hg _
    refine h v' w' ?_ hg (fun w0 hx0 hB0 => Below.grown hx0 hg hx0.size (fun q hq => Nat.le_trans hB0 (World.ownsRow.lt hf q hq).1))
    unfold FreshTd
    have e : flatTd (L ++ [y]) = flatTd L ++ cellsTd y := by simp [flatTd]
    rw [e, List.length_append]
    exact ho'

/-- Whether commands can be played: good ones, sixty at most. -/
def goodCd (d : CmdD) : Bool := goodB d.k d.i d.f d.t d.a
def cmdsB (L : List CmdD) : Bool := decide (L.length ≤ 60) && L.all goodCd
theorem cmdsB_yes {L : List CmdD} (h : cmdsB L = true) : L.length ≤ 60 ∧ ∀ j (hj : j < L.length), goodB L[j].k L[j].i L[j].f L[j].t L[j].a = true := by
  unfold cmdsB at h
  simp only [Bool.and_eq_true, decide_eq_true_eq, List.all_eq_true] at h
  exact ⟨h.1, fun j hj => h.2 _ (List.getElem_mem hj)⟩
theorem cmdsB_bad {L : List CmdD} {j : Nat} (hj : j < L.length) (h : goodB L[j].k L[j].i L[j].f L[j].t L[j].a = false) : cmdsB L = false := by
  have : L.all goodCd = false := by
    rw [List.all_eq_false]
    exact ⟨L[j], List.getElem_mem hj, by unfold goodCd; rw [h]; simp⟩
  unfold cmdsB
  rw [this, Bool.and_false]
theorem cmdsB_all {L : List CmdD} (h : ∀ j (hj : j < L.length), goodB L[j].k L[j].i L[j].f L[j].t L[j].a = true) : cmdsB L = decide (L.length ≤ 60) := by
  have : L.all goodCd = true := by
    rw [List.all_eq_true]
    intro x hx
    obtain ⟨j, hj, rfl⟩ := List.mem_iff_getElem.1 hx
    exact h j hj
  unfold cmdsB
  rw [this, Bool.and_true]
/-- The sums behind the first j. -/
def didD (s : List Int) (d : CmdD) : List Int := didL d.k d.f d.t d.a s
def sumsAt (L : List CmdD) (j : Nat) : List Int := (L.take j).foldl didD [100, 100, 100, 100]
theorem sumsAt_succ {L : List CmdD} {j : Nat} (hj : j < L.length) : sumsAt L (j + 1) = didL L[j].k L[j].f L[j].t L[j].a (sumsAt L j) := by
  unfold sumsAt
  rw [List.take_add_one, List.getElem?_eq_getElem hj, List.foldl_append]
  rfl
theorem sumsAt_good {L : List CmdD} (h : ∀ j (hj : j < L.length), goodB L[j].k L[j].i L[j].f L[j].t L[j].a = true) : ∀ j, j ≤ L.length → goodS (sumsAt L j) = true
  | 0, _ => by unfold sumsAt; rfl
  | j + 1, hj => by
    rw [sumsAt_succ (by omega)]
    exact good_didL (sumsAt_good h j (by omega)) (h j (by omega))
/-- What each is told. -/
def toldOne (s : List Int) (d : CmdD) : TldD := ⟨didC d.k d.f d.a s, didS d.k d.f s⟩
def toldN (L : List CmdD) (n : Nat) : List TldD := (List.range n).map fun j => toldOne (sumsAt L j) ((L[j]?).getD ⟨0, 0, 0, 0, 0⟩)
theorem toldN_len (L : List CmdD) (n : Nat) : (toldN L n).length = n := by simp [toldN]
theorem toldN_succ {L : List CmdD} {j : Nat} (hj : j < L.length) : toldN L (j + 1) = toldN L j ++ [toldOne (sumsAt L j) L[j]] := by
  unfold toldN
  rw [List.range_succ, List.map_append, List.map_singleton, List.getElem?_eq_getElem hj]
  rfl
theorem toldN_at {L : List CmdD} {n j : Nat} (hj : j < L.length) (hn : j < (toldN L n).length) : (toldN L n)[j] = toldOne (sumsAt L j) L[j] := by
  simp [toldN, List.getElem?_eq_getElem hj]

end Go.Proofs.Ytfffddhfagibpaa

namespace Go.Proofs.Ytfffddhfagibpaa
open Go.RowKit
set_option linter.unusedVariables false

set_option maxHeartbeats 2000000 in
set_option maxRecDepth 100000 in
theorem specCmds_any (v : Value) (L : List CmdD) (w : World) (hv : Cdz w v L) :
    Calls Try.prog 53 #[v] w (BoolExt (cmdsB L) w) := by
  obtain ⟨av, cv, rfl, hlv, _, hcv⟩ := hv
  unfold maxLen at hlv
  · go_enter Try.func53, Try.ntmps53
    go_wp2
    go_loopw [4, 7] (fun _ i wr => ∃ k : Nat, k ≤ L.length ∧ i = .int .i64 k ∧ Hid (∀ j (hj : j < L.length), j < k → goodB L[j].k L[j].i L[j].f L[j].t L[j].a = true) ∧ Ext w wr) (fun _ i _ => L.length - (intOf i).toNat)
    case atStart => exact ⟨0, Nat.zero_le _, rfl, Lib.hid (fun j _ h => by omega), Ext.refl _⟩
    case round =>
      obtain ⟨k, hk, rfl, hG, hx⟩ := hrel
      by_cases hlt : k < L.length
      · obtain ⟨b, off, rfl, dv⟩ := hcv (by omega)
        have hd0 := (dv k hlt).ext hx
        obtain ⟨d, hd⟩ : ∃ d, d = L[k] := ⟨_, rfl⟩
        rw [← hd] at hd0
        obtain ⟨c0, c1, c2, c3, c4⟩ := cdIn_cells hd0
        have HD := Lib.hid hd
        clear hcv dv hd0 hd
        cases hg : goodB d.k d.i d.f d.t d.a with
        | true =>
          go_wp2_with fail
          refine (specGood_any _ _ _ _ _ _).mono ?_
          rintro e w2 ⟨rfl, x2⟩
          rw [hg]
          have hx2 := (hx.alloc _).trans x2
          clear c0 c1 c2 c3 c4 x2 hx
          go_wp2
          go_roundw
          case rel =>
            refine ⟨k + 1, by omega, by go_num, Lib.hid (fun j hj hjk => ?_), hx2⟩
            by_cases e : j = k
            · subst e
              rw [← HD.out]
              exact hg
            · exact hG.out j hj (by omega)
          case measure => simp [intOf]; omega
        | false =>
          go_wp2_with fail
          refine (specGood_any _ _ _ _ _ _).mono ?_
          rintro e w2 ⟨rfl, x2⟩
          rw [hg]
          have hx2 := (hx.alloc _).trans x2
          have HB := Lib.hid (cmdsB_bad hlt (by rw [← HD.out]; exact hg))
          clear c0 c1 c2 c3 c4 x2 hx
          go_wp2
          go_ret
          exact ⟨by rw [HB.out]; rfl, hx2⟩
      · obtain rfl : k = L.length := by omega
        have HB := Lib.hid (cmdsB_all (fun j hj => hG.out j hj hj))
        clear hcv
        by_cases h60 : L.length ≤ 60
        · have HB2 := Lib.hid (show cmdsB L = true by rw [HB.out]; exact decide_eq_true h60)
          have h61 : (L.length : Int) ≤ 60 := by omega
          go_wp2
          go_ret
          exact ⟨by rw [HB2.out]; rfl, hx⟩
        · have HB2 := Lib.hid (show cmdsB L = false by rw [HB.out]; exact decide_eq_false h60)
          have h61 : ¬ (L.length : Int) ≤ 60 := by omega
          go_wp2
          go_ret
          exact ⟨by rw [HB2.out]; rfl, hx⟩

set_option maxHeartbeats 2000000 in
set_option maxRecDepth 100000 in
theorem implCmds_any (v : Value) (L : List CmdD) (w : World) (hv : Cdz w v L) :
    Calls Try.prog 55 #[v] w (BoolExt (cmdsB L) w) := by
  obtain ⟨av, cv, rfl, hlv, _, hcv⟩ := hv
  unfold maxLen at hlv
  by_cases h60 : L.length ≤ 60
  · go_enter Try.func55, Try.ntmps55
    go_wp2
    go_loopw [4, 10] (fun _ i wr => ∃ k : Nat, k ≤ L.length ∧ i = .int .i64 k ∧ Hid (∀ j (hj : j < L.length), j < k → goodB L[j].k L[j].i L[j].f L[j].t L[j].a = true) ∧ Ext w wr) (fun _ i _ => L.length - (intOf i).toNat)
    case atStart => exact ⟨0, Nat.zero_le _, rfl, Lib.hid (fun j _ h => by omega), Ext.refl _⟩
    case round =>
      obtain ⟨k, hk, rfl, hG, hx⟩ := hrel
      by_cases hlt : k < L.length
      · obtain ⟨b, off, rfl, dv⟩ := hcv (by omega)
        have hd0 := (dv k hlt).ext hx
        obtain ⟨d, hd⟩ : ∃ d, d = L[k] := ⟨_, rfl⟩
        rw [← hd] at hd0
        obtain ⟨c0, c1, c2, c3, c4⟩ := cdIn_cells hd0
        have HD := Lib.hid hd
        clear hcv dv hd0 hd
        cases hg : goodB d.k d.i d.f d.t d.a with
        | true =>
          go_wp2_with fail
          refine (implGood_any _ _ _ _ _ _).mono ?_
          rintro e w2 ⟨rfl, x2⟩
          rw [hg]
          have hx2 := (hx.alloc _).trans x2
          clear c0 c1 c2 c3 c4 x2 hx
          go_wp2
          go_roundw
          case rel =>
            refine ⟨k + 1, by omega, by go_num, Lib.hid (fun j hj hjk => ?_), hx2⟩
            by_cases e : j = k
            · subst e
              rw [← HD.out]
              exact hg
            · exact hG.out j hj (by omega)
          case measure => simp [intOf]; omega
        | false =>
          go_wp2_with fail
          refine (implGood_any _ _ _ _ _ _).mono ?_
          rintro e w2 ⟨rfl, x2⟩
          rw [hg]
          have hx2 := (hx.alloc _).trans x2
          have HB := Lib.hid (cmdsB_bad hlt (by rw [← HD.out]; exact hg))
          clear c0 c1 c2 c3 c4 x2 hx
          go_wp2
          go_ret
          exact ⟨by rw [HB.out]; rfl, hx2⟩
      · obtain rfl : k = L.length := by omega
        have HB := Lib.hid (cmdsB_all (fun j hj => hG.out j hj hj))
        have HB2 := Lib.hid (show cmdsB L = true by rw [HB.out]; exact decide_eq_true h60)
        clear hcv HB
        go_wp2
        go_ret
        exact ⟨by rw [HB2.out]; rfl, hx⟩
  · have HB := Lib.hid (show cmdsB L = false by unfold cmdsB; rw [decide_eq_false h60, Bool.false_and])
    have h61 : (60 : Int) < (L.length : Int) := by omega
    clear hcv
    go_enter Try.func55, Try.ntmps55
    go_wp2
    go_ret
    exact ⟨by rw [HB.out]; rfl, Ext.refl _⟩

end Go.Proofs.Ytfffddhfagibpaa

namespace Go.Proofs.Ytfffddhfagibpaa
open Go.RowKit
set_option linter.unusedVariables false

theorem mul64_14 (w : World) :
    Calls Try.prog 107 #[.int .u64 1, .int .u64 4] w fun e w' => e = .returned (.tuple #[.int .u64 0, .int .u64 4]) ∧ w = w' := by
  go_enter Try.func107, Try.ntmps107
  go_wp2
  go_ret2
  exact ⟨rfl, rfl⟩

theorem mul_14 (w : World) :
    Calls Try.prog 80 #[.int .u64 1, .int .u64 4] w fun e w' => e = .returned (.tuple #[.int .u64 0, .int .u64 4]) ∧ w = w' := by
  go_enter Try.func80, Try.ntmps80
  go_wp2_with fail
  refine (mul64_14 _).mono ?_
  rintro e w' ⟨rfl, rfl⟩
  go_wp2
  go_ret2
  exact ⟨rfl, rfl⟩

/-- k times x, and 0 up to four. -/
def rep4 (x : Int) (k : Nat) : List Value := List.replicate k (Value.int .i64 x) ++ List.replicate (4 - k) (Value.int .i64 0)
theorem rep4_splice1 (x : Int) : splice (rep4 x 0) 0 [Value.int .i64 x] = rep4 x 1 := rfl
theorem rep4_splice2 (x : Int) : splice (rep4 x 1) 1 [Value.int .i64 x] = rep4 x 2 := rfl
theorem rep4_splice4 (x : Int) : splice (rep4 x 2) 2 [Value.int .i64 x, Value.int .i64 x] = rep4 x 4 := rfl

set_option maxRecDepth 100000 in
set_option maxHeartbeats 2000000 in
theorem repeat4_any (w : World) (x : Int) (b : Nat) (hb : w.cell? ⟨b, 0, none⟩ = some (.int .i64 x)) :
    Calls Try.prog 47 #[.slice (some ⟨b, 0, none⟩) 1 1, .int .i64 4] w (NewInts [x, x, x, x] w) := by
  obtain ⟨i0, hi, hz0, hz1, hz2⟩ := info_parts Try.infoInt
  have hbl := World.block_lt_of_cell? w _ hb
  have HBL := Lib.hid hbl
  have HB := Lib.hid hb
  clear hbl hb
  go_enter Try.func47, Try.ntmps47
  go_wp2_with fail
  refine (mul_14 _).mono ?_
  rintro e w' ⟨rfl, rfl⟩
  go_wp2_with (first | (at_make; refine wpList_make_full _ rfl _ _ 22 rfl w.heap.size 3 i0 (.int .i64 0) 1 Try.underlying22 hi hz0 hz1 _ _ _ _ 4 rfl rfl rfl rfl ?c1 ?c2 ?c3 ?_))
  case c1 => rw [hz2]; omega
  case c2 => unfold maxLen; omega
  case c3 => simp
  intro w1 ho1 hg1
  have hx1 : Ext w w1 := ext_of_grown hg1
  have hb1 : w1.heap[w.heap.size]? = some (.cells (rep4 x 0).toArray 3 (0, 0)) := by
    rcases ho1.2 with ⟨h, _⟩ | ⟨g, cap, cur, h, _, hg, _, _, hs, ht⟩
    · cases h
    · injection h with h1 h2 h3
      injection h1 with h1
      injection h1 with h1
      subst h1
      subst h3
      rw [hg]
      have e : cur.toList = rep4 x 0 := by
        rw [List.take_of_length_le (by rw [Array.length_toList, hs]; exact Nat.le_refl _)] at ht
        rw [ht, toList_madeCells_one]; rfl
      have e2 : cur = (rep4 x 0).toArray := by rw [← e]
      rw [e2]
  have H1 := Lib.hid hb1
  have hc1 := hx1.cell HB.out
  have X1 := Lib.hid hx1
  clear ho1 hg1 hb1 hx1 hi hz0 hz1 hz2
  go_wp2_with (with_reducible refine wpList_copy_splice rfl _ _ 22 22 rfl 3 Try.underlying22 rfl _ _ 4 4 1 1 rfl rfl w.heap.size 0 (rep4 x 0) 3 H1.out [Value.int .i64 x] rfl ?c2 (Nat.le_of_ble_eq_true rfl) ?c3 w.heap.size w ?c4 (Nat.le_refl _) ?_)
  case c2 =>
    intro j v hj
    match j, hj with
    | 0, hj => simp at hj; subst hj; simpa [Addr.add] using hc1
  case c3 => intro z hz; simp at hz; subst hz; rfl
  case c4 => exact X1.out
  intro w2 hg2 hb2
  have H2 := hg2
  rw [rep4_splice1] at H2
  have X2 : Hid (Ext w w2) := Lib.hid hb2
  clear hg2 hb2 hc1 H1 X1
  go_wp2_with fail
  go_loopw [8] (fun n wr => ∃ (k : Nat) (m : Int), (k = 1 ∧ m = 1 ∨ k = 2 ∧ m = 2 ∨ k = 4 ∧ m = 4) ∧ n = .int .i64 m ∧ wr.heap[w.heap.size]? = some (.cells (rep4 x k).toArray 3 (0, 0)) ∧ Ext w wr) (fun n _ => 4 - (intOf n).toNat)
  case atStart => exact ⟨1, 1, .inl ⟨rfl, rfl⟩, rfl, H2.out, X2.out⟩
  case round =>
    clear H2 X2
    obtain ⟨k, m, hk, rfl, hh, hx⟩ := hrel
    have HH := Lib.hid hh
    have HX := Lib.hid hx
    clear hh hx
    rcases hk with ⟨rfl, rfl⟩ | ⟨rfl, rfl⟩ | ⟨rfl, rfl⟩
    · have hp : Hid (0 < ([Value.int .i64 x] : List Value).length → (some ⟨w.heap.size, 1, none⟩ : Option Addr) = some ⟨w.heap.size, 1, none⟩ ∧ ∃ ad, (some ⟨w.heap.size, 0, none⟩ : Option Addr) = some ad ∧ ∀ j v, ([Value.int .i64 x] : List Value)[j]? = some v → wr.drew.cell? (ad.add j) = some v) := Lib.hid (fun _ => ⟨rfl, _, rfl, fun j v hj => by
        have hw : wr.drew.cell? (Addr.add ⟨w.heap.size, 0, none⟩ j) = (rep4 x 1)[j]? := by
          have e : (Addr.add ⟨w.heap.size, 0, none⟩ j) = ⟨w.heap.size, j, none⟩ := by simp [Addr.add] <;> omega
          rw [e]
          exact (cell_of_row wr.drew _ j _ _ _ HH.out).trans (List.getElem?_toArray)
        rw [hw]
        match j, hj with
        | 0, hj => exact hj
        | 1, hj => first | exact hj | (simp at hj)⟩)
      have h1 : Hid (∀ v ∈ ([Value.int .i64 x] : List Value), v.oneCell' = true) := Lib.hid (fun v hv => by simp at hv; subst hv; rfl)
      go_wp2_with fail
      go_region_law (refine step_copy_splice rfl (.tmp 41) (.tmp 44) 22 22 rfl 3 Try.underlying22 rfl (some ⟨w.heap.size, 1, none⟩) (some ⟨w.heap.size, 0, none⟩) 3 3 1 4 (by with_reducible go_simp) (by with_reducible go_simp) w.heap.size 1 (rep4 x 1) 3 HH.out [Value.int .i64 x] rfl (fun _ => ⟨rfl, (hp.out (Nat.le_of_ble_eq_true rfl)).2⟩) (Nat.le_of_ble_eq_true rfl) h1.out w.heap.size w HX.out.drew (Nat.le_refl _) ?_; intro w4 hg4 hb4)
      all_goals
        go_wp2
        go_roundw
        case rel => exact ⟨.int .i64 2, _, _, _, _, _, _, _, _, _, _, _, _, _, ⟨2, 2, .inr (.inl ⟨rfl, rfl⟩), rfl, by rw [← rep4_splice2]; exact hg4.out, hb4⟩, rfl⟩
        case measure => exact (show (2 : Nat) < 3 by decide)
    · have hp : Hid (0 < ([Value.int .i64 x, Value.int .i64 x] : List Value).length → (some ⟨w.heap.size, 2, none⟩ : Option Addr) = some ⟨w.heap.size, 2, none⟩ ∧ ∃ ad, (some ⟨w.heap.size, 0, none⟩ : Option Addr) = some ad ∧ ∀ j v, ([Value.int .i64 x, Value.int .i64 x] : List Value)[j]? = some v → wr.drew.cell? (ad.add j) = some v) := Lib.hid (fun _ => ⟨rfl, _, rfl, fun j v hj => by
        have hw : wr.drew.cell? (Addr.add ⟨w.heap.size, 0, none⟩ j) = (rep4 x 2)[j]? := by
          have e : (Addr.add ⟨w.heap.size, 0, none⟩ j) = ⟨w.heap.size, j, none⟩ := by simp [Addr.add] <;> omega
          rw [e]
          exact (cell_of_row wr.drew _ j _ _ _ HH.out).trans (List.getElem?_toArray)
        rw [hw]
        match j, hj with
        | 0, hj => exact hj
        | 1, hj => first | exact hj | (simp at hj)⟩)
      have h1 : Hid (∀ v ∈ ([Value.int .i64 x, Value.int .i64 x] : List Value), v.oneCell' = true) := Lib.hid (fun v hv => by simp at hv; subst hv; rfl)
      go_wp2_with fail
      go_region_law (refine step_copy_splice rfl (.tmp 41) (.tmp 44) 22 22 rfl 3 Try.underlying22 rfl (some ⟨w.heap.size, 2, none⟩) (some ⟨w.heap.size, 0, none⟩) 2 2 2 4 (by with_reducible go_simp) (by with_reducible go_simp) w.heap.size 2 (rep4 x 2) 3 HH.out [Value.int .i64 x, Value.int .i64 x] rfl (fun _ => ⟨rfl, (hp.out (Nat.le_of_ble_eq_true rfl)).2⟩) (Nat.le_of_ble_eq_true rfl) h1.out w.heap.size w HX.out.drew (Nat.le_refl _) ?_; intro w4 hg4 hb4)
      all_goals
        go_wp2
        go_roundw
        case rel => exact ⟨.int .i64 4, _, _, _, _, _, _, _, _, _, _, _, _, _, ⟨4, 4, .inr (.inr ⟨rfl, rfl⟩), rfl, by rw [← rep4_splice4]; exact hg4.out, hb4⟩, rfl⟩
        case measure => exact (show (0 : Nat) < 2 by decide)
    · go_wp2
      go_ret
      refine ⟨_, rfl, ?_, HX.out⟩
      exact ⟨rfl, .inr ⟨w.heap.size, 4, _, rfl, Nat.le_refl _, HH.out, Nat.le_refl _, by unfold maxLen; omega, rfl, rfl⟩⟩

theorem implNewSums_any (w : World) : Calls Try.prog 15 #[] w (NewInts [100, 100, 100, 100] w) := by
  go_enter Try.func15, Try.ntmps15
  go_wp2_with fail
  refine (repeat4_any _ 100 w.heap.size (cell_alloc_one w _ _)).mono ?_
  rintro e w1 ⟨v1, rfl, f1, x1⟩
  go_wp2
  go_ret
  exact ⟨_, rfl, f1.more (by simp), (Ext.alloc (Ext.refl _) _).trans x1⟩

/-- k times 100. -/
def hundreds (k : Nat) : List Int := List.replicate k 100
theorem hundreds_succ (k : Nat) : hundreds (k + 1) = hundreds k ++ [100] := by simp [hundreds, List.replicate_succ']

set_option maxHeartbeats 1000000 in
theorem specNewSums_any (w : World) : Calls Try.prog 14 #[] w (NewInts [100, 100, 100, 100] w) := by
  go_enter Try.func14, Try.ntmps14
  go_wp2
  go_loopw [1, 2] (fun o i wr => ∃ k : Nat, k ≤ 4 ∧ i = .int .i64 k ∧ Fresh w.heap.size wr o (hundreds k) ∧ Ext w wr) (fun _ i _ => 4 - (intOf i).toNat)
  case atStart => exact ⟨0, Nat.zero_le _, rfl, fresh_nil _ _, Ext.refl _⟩
  case round =>
    obtain ⟨k, hk, rfl, hf, hx⟩ := hrel
    by_cases hlt : k < 4
    · have F := Lib.hid hf
      have X := Lib.hid hx
      clear hf hx
      have hb : w.heap.size ≤ wr.heap.size := Ext.size X.out
      have hbb : w.heap.size ≤ (wr.alloc (.cells #[.int .i64 100] 3)).heap.size := size_alloc_le hb
      have HB := Lib.hid hbb
      clear hbb
      have hc := Lib.hid (cell_alloc_one wr (.int .i64 100) 3)
      have hl : (hundreds k).length ≤ 1099511627776 := by simp [hundreds]; omega
      have HL := Lib.hid hl
      clear hl
      go_wp2_with (at_builtin; refine wpList_push rfl _ _ rfl w.heap.size _ (hundreds k) 100 rfl (F.out.ext (Ext.alloc (Ext.refl _) _)) ⟨wr.heap.size, 0, none⟩ 1 rfl hc.out HL.out HB.out ?_)
      intro v' w' hf' hg' hk'
      have F' : Hid (Fresh w.heap.size w' v' (hundreds (k + 1))) := Lib.hid (by rw [hundreds_succ]; exact hf')
      have X' := Lib.hid (hk' w (X.out.trans (Ext.alloc (Ext.refl _) _)) (Nat.le_refl _))
      clear hf' hg' hk' F X hc HL HB hb
      go_wp2
      go_roundw
      case rel => exact ⟨k + 1, by omega, by go_num, F'.out, X'.out⟩
      case measure => simp [intOf]; omega
    · obtain rfl : k = 4 := by omega
      have F := Lib.hid hf
      have X := Lib.hid hx
      clear hf hx
      go_wp2
      go_ret
      exact ⟨_, rfl, F.out, X.out⟩

end Go.Proofs.Ytfffddhfagibpaa

namespace Go.Proofs.Ytfffddhfagibpaa
open Go.RowKit
set_option linter.unusedVariables false

/-- What is told lies in a block of its own, apart from v's, or it is nothing. -/
def TdApart (n0 : Nat) (v u : Value) (w : World) (D : List TldD) : Prop := (D = [] ∧ u = .slice none 0 0) ∨ ∃ g, v.ownBlock ≠ some g ∧ n0 ≤ g ∧ TdzM g (g + 1) w u D
theorem TdApart.reads {n0 : Nat} {v u : Value} {w : World} {D : List TldD} (h : TdApart n0 v u w D) : Tdz w u D := by
  rcases h with ⟨rfl, rfl⟩ | ⟨g, _, _, h⟩
  · exact Tdz.nil w
  · exact h.reads
theorem TdApart.lt {g : Nat} {u : Value} {w : World} {D : List TldD} (h : TdzM g (g + 1) w u D) : g < w.heap.size := by
  obtain ⟨g', xs, h1, h2, _, _, hb, _⟩ := h
  have := hb.lt
  omega
theorem TdApart.ext {n0 : Nat} {v u : Value} {w w' : World} {D : List TldD} (h : TdApart n0 v u w D) (e : Ext w w') : TdApart n0 v u w' D := by
  rcases h with h | ⟨g, h1, h2, h3⟩
  · exact .inl h
  · exact .inr ⟨g, h1, h2, h3.kept (Stood.of_ext e (by have := TdApart.lt h3; omega))⟩
theorem TdApart.grown {n0 : Nat} {v u : Value} {w w' : World} {D : List TldD} (h : TdApart n0 v u w D) (t : w.grownBy w' v.ownBlock) : TdApart n0 v u w' D := by
  rcases h with h | ⟨g, h1, h2, h3⟩
  · exact .inl h
  · have hlt := TdApart.lt h3
    exact .inr ⟨g, h1, h2, h3.kept ⟨t.size, fun b hb1 hb2 => t.block b (by omega) (fun e => h1 (by rw [← e]; exact congrArg some (by omega)))⟩⟩
theorem TdApart.other {n0 : Nat} {v u : Value} {w w' : World} {D : List TldD} {r : Option Nat} (h : TdApart n0 v u w D) (t : w.grownBy w' r) (hr : ∀ q, r = some q → q < n0) : TdApart n0 v u w' D := by
  rcases h with h | ⟨g, h1, h2, h3⟩
  · exact .inl h
  · have hlt := TdApart.lt h3
    exact .inr ⟨g, h1, h2, h3.kept ⟨t.size, fun b hb1 hb2 => t.block b (by omega) (fun e => by have := hr b e.symm; omega)⟩⟩
theorem TdApart.ins {n0 lo hi : Nat} {v u : Value} {w w' : World} {D : List TldD} (h : TdApart n0 v u w D) (t : Ins lo hi w w') (hr : hi ≤ n0) : TdApart n0 v u w' D := by
  rcases h with h | ⟨g, h1, h2, h3⟩
  · exact .inl h
  · have hlt := TdApart.lt h3
    exact .inr ⟨g, h1, h2, h3.kept (t.stood (by omega) (.inr (by omega)))⟩
theorem tdApart_mark {n0 : Nat} {v u : Value} {D : List TldD} {k : Int} {w : World} (hv : TdApart n0 v u w D) (h0 : 0 ≤ k) (h1 : k ≤ 1099511627776) (h2 : D.length ≤ 1048576) :
    Calls Try.prog 29 #[u, .int .i64 k] w (fun e w' => e = .returned (.int .i64 (k + 2 * (D.length : Int))) ∧ TdApart n0 v u w' (marksT k D.length) ∧ ∃ r, w.grownBy w' r ∧ (∀ q, r = some q → n0 ≤ q) ∧ (v.ownBlock = none ∨ v.ownBlock ≠ r)) := by
  rcases hv with ⟨rfl, rfl⟩ | ⟨g, a, b, c⟩
  · refine (ansTd_mark (lo := 0) (hi := 0) (k := k) (w := w) (.inl ⟨rfl, rfl⟩) h0 h1 h2).mono ?_
    rintro e w' ⟨rfl, _, i⟩
    refine ⟨rfl, .inl ⟨by simp [marksT], rfl⟩, none, ⟨i.os, i.tape, i.output, i.size, fun b hb _ => i.block b hb (.inr (Nat.zero_le _))⟩, fun q h => (by cases h), ?_⟩
    cases v.ownBlock with
    | none => exact .inl rfl
    | some q => exact .inr (by simp)
  · refine (markTdS_any g (g + 1) u D k w c h0 h1 h2).mono ?_
    rintro e w' ⟨rfl, m, i⟩
    refine ⟨rfl, .inr ⟨g, a, b, m⟩, some g, ⟨i.os, i.tape, i.output, i.size, fun q hq hne => i.block q hq (by have : q ≠ g := fun e => hne (by rw [e]); omega)⟩, fun q h => (by cases h; exact b), .inr a⟩
/-- Sums in new memory, what is told, and a Bool come back: the program's. -/
def PlayedI (S : List Int) (D : List TldD) (b : Bool) (w : World) (e : Ending) (w' : World) : Prop :=
  ∃ v u, e = .returned (.tuple #[v, u, .bool b]) ∧ Fresh w.heap.size w' v S ∧ TdApart w.heap.size v u w' D ∧ Ext w w'

/-- The sums and the room for what is told. -/
def Laid2 (w1 wx : World) (v : Value) (g : Nat) (xs : List Value) : Prop := Fresh w1.heap.size wx v [100, 100, 100, 100] ∧ BoxV wx g xs ∧ v.ownBlock ≠ some g ∧ w1.heap.size ≤ g ∧ Ext w1 wx
theorem laid_a {w1 W w2 W2 : World} {v : Value} {xs : List Value} (hk : BoxV W2 w2.heap.size xs ∧ Ext w2 W2) (e : Ext w1 W) (x : Ext W w2) (f : Fresh W.heap.size w2 v [100, 100, 100, 100]) : Laid2 w1 W2 v w2.heap.size xs :=
  ⟨(f.ext hk.2).more e.size, hk.1, fun h => by have := (World.ownsRow.lt f _ h).2; omega, (e.trans x).size, (e.trans x).trans hk.2⟩
theorem laid_b {w1 W w2 W2 : World} {v : Value} {xs : List Value} (hk : BoxV W2 W.heap.size xs ∧ Ext W W2) (e : Ext w1 W) (x : Ext W2 w2) (f : Fresh W2.heap.size w2 v [100, 100, 100, 100]) : Laid2 w1 w2 v W.heap.size xs :=
  ⟨f.more (e.trans hk.2).size, hk.1.ext x, fun h => by have h1 := (World.ownsRow.lt f _ h).1; have h2 := hk.1.lt; omega, e.size, (e.trans hk.2).trans x⟩
theorem Try.infoTold2 : (Try.prog.info? 32).map (fun i => (i.zero, i.size, i.bytes)) = some (some (.agg #[.int .i64 0, .int .i64 0]), 2, 16) := by kernel_rfl
theorem make_told (n : Nat) (hn : n ≤ 60) : ∃ (MK : World → World) (xs : List Value), xs.length = n * 2 ∧ ∀ W, (Instr.makeSlice 41 (.int .i64 (n : Int)) (.int .i64 (n : Int))).run Try.prog W = .ok (.slice (some ⟨W.heap.size, 0, none⟩) n n) (MK W) ∧ BoxV (MK W) W.heap.size xs ∧ Ext W (MK W) := by
  obtain ⟨i0, hi, hz0, hz1, hz2⟩ := info_parts Try.infoTold2
  have h := fun W : World => run_make_full (P := Try.prog) W W.heap.size 41 32 i0 _ 2 Try.underlying41 hi hz0 hz1 .i64 .i64 n (by rw [hz2]; omega) (by unfold maxLen; omega) (Nat.le_refl _)
  obtain ⟨MK, hMK⟩ := Classical.axiomOfChoice h
  refine ⟨MK, (madeCells (Value.agg #[.int .i64 0, .int .i64 0]).cells (n * 2)).toList, ?_, fun W => ⟨(hMK W).1, ?_, ext_of_grown (hMK W).2.2⟩⟩
  · exact (hMK default).2.1.1
  · have ho := (hMK W).2.1
    have hsz : W.heap.size < (MK W).heap.size := by
      rcases ho.2 with ⟨h, _⟩ | ⟨g, cap, cur, h, hb, hg, _⟩
      · cases h
      · simp only [Value.slice.injEq, Option.some.injEq, Addr.mk.injEq, and_true, true_and] at h
        obtain ⟨rfl, _⟩ := h
        exact (Array.getElem?_eq_some_iff.1 hg).1
    exact ⟨fun j v hj => by rw [ho.cellAt _ (by have := (List.getElem?_eq_some_iff.1 hj).1; rw [ho.1] at this; exact this)]; exact hj, fun j _ => ho.frozenAt j, hsz⟩

set_option maxRecDepth 100000 in
set_option maxHeartbeats 4000000 in
theorem implPlay_yes (v : Value) (L : List CmdD) (w : World) (hv : Cdz w v L) (hb : cmdsB L = true) :
    Calls Try.prog 25 #[v] w (PlayedI (sumsAt L L.length) (toldN L L.length) true w) := by
  have HC := Lib.hid (implCmds_any v L w hv)
  rw [hb] at HC
  obtain ⟨h60, hg0⟩ := cmdsB_yes hb
  obtain ⟨av, cv, rfl, hlv, _, hcv⟩ := hv
  unfold maxLen at hlv
  have HG := Lib.hid hg0
  have HS := Lib.hid (sumsAt_good hg0)
  have H60 := Lib.hid h60
  have HCV := Lib.hid hcv
  have i1 : (0 : Int) ≤ (L.length : Int) := by omega
  have i2 : (L.length : Int) ≤ 60 := by omega
  clear hb hg0 hcv
  go_enter Try.func25, Try.ntmps25
  go_wp2_with fail
  refine HC.out.mono ?_
  rintro e w1 ⟨rfl, x1⟩
  obtain ⟨MK, xs0, hxl, hMK⟩ := make_told L.length H60.out
  have hm := fun W => (hMK W).1
  have HK := Lib.hid (fun W => (hMK W).2)
  have HXL := Lib.hid hxl
  have X1 := Lib.hid x1
  clear hMK hxl x1
  go_upto_region 3 with fail
  go_cut [5, 6] (fun s5 s6 wx => ∃ (v : Value) (g : Nat), s5 = v ∧ s6 = .slice (some ⟨g, 0, none⟩) L.length L.length ∧ Laid2 w1 wx v g xs0)
  case first =>
    go_region_law (first | (go_simp; go_at_call 15; refine (implNewSums_any _).mono ?_; rintro e w2 ⟨v2, rfl, f2, x2⟩))
    all_goals
      go_wp2_with fail
      go_meet
      refine ⟨v2, _, rfl, rfl, ?_⟩
      first
      | exact laid_a (W := w1) (HK.out _) (Ext.refl _) x2 f2
      | exact laid_a (W := w1.drew) (HK.out _) (Ext.drew (Ext.refl _)) x2 f2
      | exact laid_b (W := w1) (HK.out w1) (Ext.refl _) x2 f2
      | exact laid_b (W := w1.drew) (HK.out w1.drew) (Ext.drew (Ext.refl _)) x2 f2
  case rest =>
    obtain ⟨_, g, rfl, rfl, hl2⟩ := hcut
    obtain ⟨w3, hw3⟩ : ∃ x : World, x = wc := ⟨_, rfl⟩
    subst hw3
    obtain ⟨h1, h2, h3, h4, h5⟩ := hl2
    have GNE := Lib.hid h3
    have GLE := Lib.hid (And.intro h4 X1.out.size)
    have F0 := Lib.hid h1
    have T0 := Lib.hid h2
    have Y0 := Lib.hid (X1.out.trans h5)
    clear h1 h2 h3 h4 h5 hm HK
    go_wp2_with fail
    go_loopw [7, 8, 18] (fun _ _ i wr => ∃ (k : Nat) (ys : List Value), k ≤ L.length ∧ i = .int .i64 k ∧ Hid (Fresh w1.heap.size wr u5 (sumsAt L k)) ∧ Hid (BoxV wr g ys) ∧ ys.length = L.length * 2 ∧ Hid (TdsTo ys (toldN L L.length) k) ∧ Hid (Ext w wr)) (fun _ _ i _ => L.length - (intOf i).toNat)
    case atStart => exact ⟨0, xs0, Nat.zero_le _, rfl, F0, T0, HXL.out, Lib.hid (fun j _ h => by omega), Y0⟩
    case round =>
      clear F0 T0 Y0
      obtain ⟨k, ys, hk, rfl, hF, hB, hl, hT, hX⟩ := hrel
      by_cases hlt : k < L.length
      · obtain ⟨b, off, rfl, dv⟩ := HCV.out (by omega)
        have hd0 := (dv k hlt).ext hX.out
        have hgk := HG.out k hlt
        obtain ⟨d, hd⟩ : ∃ d, d = L[k] := ⟨_, rfl⟩
        rw [← hd] at hd0 hgk
        obtain ⟨kk, ii, ff, tt, aa⟩ := d
        obtain ⟨c0, c1, c2, c3, c4⟩ := cdIn_cells hd0
        dsimp only at hgk c0 c1 c2 c3 c4
        have HD := Lib.hid hd
        have HSK := Lib.hid (HS.out k hk)
        have HGK := Lib.hid hgk
        clear dv hd0 hd HCV
        rcases good_kind hgk with rfl | rfl | rfl
        · go_wp2_with fail
          refine (deedOf_0 _ _ _ _ _).mono ?_
          rintro e w4 ⟨rfl, x4⟩
          have X4 := Lib.hid ((Ext.alloc (Ext.refl _) _).trans x4)
          have F4 := Lib.hid (hF.out.ext X4.out)
          have hm := meth_0
          unfold deedV
          rw [if_neg (by decide), if_neg (by decide)]
          clear x4 c0 c1 c2 c3 c4
          go_wp2_with fail
          refine (did_0 (f := ff) (t := tt) (a := aa) F4.out).mono ?_
          rintro e w5 ⟨rfl, f5, g5⟩
          have B5 := Lib.hid (BoxV.grown (hB.out.ext X4.out) g5 GNE.out)
          have E5 := Lib.hid (Ext.touch (hX.out.trans X4.out) (F4.out.more GLE.out.2) g5)
          have F5 := Lib.hid f5
          obtain ⟨c, hc⟩ : ∃ c, c = didC 0 ff aa (sumsAt L k) := ⟨_, rfl⟩
          obtain ⟨s, hs⟩ : ∃ s, s = didS 0 ff (sumsAt L k) := ⟨_, rfl⟩
          rw [← hc, ← hs]
          have HY := Lib.hid (show (toldN L L.length)[k]'(by rw [toldN_len]; exact hlt) = ⟨c, s⟩ by rw [toldN_at hlt, ← HD.out, hc, hs]; rfl)
          have HN : Hid (didL 0 ff tt aa (sumsAt L k) = sumsAt L (k + 1)) := Lib.hid (by rw [sumsAt_succ hlt, ← HD.out])
          obtain ⟨o0, e0⟩ : ∃ v, w5.cell? ⟨g, k * 2, none⟩ = some v := ⟨_, B5.out.cell (k * 2) _ (List.getElem?_eq_getElem (by omega))⟩
          obtain ⟨o1, e1⟩ : ∃ v, w5.cell? ⟨g, k * 2 + 1, none⟩ = some v := ⟨_, B5.out.cell (k * 2 + 1) _ (List.getElem?_eq_getElem (by omega))⟩
          have n0 := B5.out.free (k * 2) (by omega)
          have n1 := B5.out.free (k * 2 + 1) (by omega)
          clear f5 g5 hm hc hs X4 F4
          go_wp2
          go_roundw
          case rel =>
            have i6 := ins_puts (lo := g) (hi := g + 1) (Nat.le_refl _) (Nat.lt_succ_self _) (tdVs ⟨c, s⟩) (k * 2) w5
            refine ⟨k + 1, putL ys (k * 2) (tdVs ⟨c, s⟩), by omega, by go_num, Lib.hid ?_, Lib.hid ?_, by rw [putL_len]; exact hl, Lib.hid ?_, Lib.hid ?_⟩
            · rw [← HN.out]
              exact i6.row F5.out (fun b hb => by have h : b ≠ g := fun e => GNE.out (by rw [hb, e]); omega)
            · exact boxV_puts (tdVs ⟨c, s⟩) (k * 2) _ _ B5.out (by rw [tdVs_len]; omega)
            · rw [← HY.out]
              exact hT.out.put (by rw [toldN_len]; exact hlt) (by rw [toldN_len]; exact hl)
            · exact i6.ext E5.out (by have := GLE.out; omega)
          case measure => simp [intOf]; omega
        · go_wp2_with fail
          refine (deedOf_1 _ _ _ _ _).mono ?_
          rintro e w4 ⟨rfl, x4⟩
          have X4 := Lib.hid ((Ext.alloc (Ext.refl _) _).trans x4)
          have F4 := Lib.hid (hF.out.ext X4.out)
          have hm := meth_1 ff tt aa
          unfold deedV
          rw [if_pos rfl]
          clear x4 c0 c1 c2 c3 c4
          go_wp2_with fail
          refine (did_1 HSK.out HGK.out F4.out).mono ?_
          rintro e w5 ⟨rfl, f5, g5⟩
          have B5 := Lib.hid (BoxV.grown (hB.out.ext X4.out) g5 GNE.out)
          have E5 := Lib.hid (Ext.touch (hX.out.trans X4.out) (F4.out.more GLE.out.2) g5)
          have F5 := Lib.hid f5
          obtain ⟨c, hc⟩ : ∃ c, c = didC 1 ff aa (sumsAt L k) := ⟨_, rfl⟩
          obtain ⟨s, hs⟩ : ∃ s, s = didS 1 ff (sumsAt L k) := ⟨_, rfl⟩
          rw [← hc, ← hs]
          have HY := Lib.hid (show (toldN L L.length)[k]'(by rw [toldN_len]; exact hlt) = ⟨c, s⟩ by rw [toldN_at hlt, ← HD.out, hc, hs]; rfl)
          have HN : Hid (didL 1 ff tt aa (sumsAt L k) = sumsAt L (k + 1)) := Lib.hid (by rw [sumsAt_succ hlt, ← HD.out])
          obtain ⟨o0, e0⟩ : ∃ v, w5.cell? ⟨g, k * 2, none⟩ = some v := ⟨_, B5.out.cell (k * 2) _ (List.getElem?_eq_getElem (by omega))⟩
          obtain ⟨o1, e1⟩ : ∃ v, w5.cell? ⟨g, k * 2 + 1, none⟩ = some v := ⟨_, B5.out.cell (k * 2 + 1) _ (List.getElem?_eq_getElem (by omega))⟩
          have n0 := B5.out.free (k * 2) (by omega)
          have n1 := B5.out.free (k * 2 + 1) (by omega)
          clear f5 g5 hm hc hs X4 F4
          go_wp2
          go_roundw
          case rel =>
            have i6 := ins_puts (lo := g) (hi := g + 1) (Nat.le_refl _) (Nat.lt_succ_self _) (tdVs ⟨c, s⟩) (k * 2) w5
            refine ⟨k + 1, putL ys (k * 2) (tdVs ⟨c, s⟩), by omega, by go_num, Lib.hid ?_, Lib.hid ?_, by rw [putL_len]; exact hl, Lib.hid ?_, Lib.hid ?_⟩
            · rw [← HN.out]
              exact i6.row F5.out (fun b hb => by have h : b ≠ g := fun e => GNE.out (by rw [hb, e]); omega)
            · exact boxV_puts (tdVs ⟨c, s⟩) (k * 2) _ _ B5.out (by rw [tdVs_len]; omega)
            · rw [← HY.out]
              exact hT.out.put (by rw [toldN_len]; exact hlt) (by rw [toldN_len]; exact hl)
            · exact i6.ext E5.out (by have := GLE.out; omega)
          case measure => simp [intOf]; omega
        · go_wp2_with fail
          refine (deedOf_2 _ _ _ _ _).mono ?_
          rintro e w4 ⟨rfl, x4⟩
          have X4 := Lib.hid ((Ext.alloc (Ext.refl _) _).trans x4)
          have F4 := Lib.hid (hF.out.ext X4.out)
          have hm := meth_2 ff
          unfold deedV
          rw [if_neg (by decide), if_pos rfl]
          clear x4 c0 c1 c2 c3 c4
          go_wp2_with fail
          refine (did_2 HSK.out HGK.out F4.out).mono ?_
          rintro e w5 ⟨rfl, f5, g5⟩
          have B5 := Lib.hid (BoxV.grown (hB.out.ext X4.out) g5 GNE.out)
          have E5 := Lib.hid (Ext.touch (hX.out.trans X4.out) (F4.out.more GLE.out.2) g5)
          have F5 := Lib.hid f5
          obtain ⟨c, hc⟩ : ∃ c, c = didC 2 ff aa (sumsAt L k) := ⟨_, rfl⟩
          obtain ⟨s, hs⟩ : ∃ s, s = didS 2 ff (sumsAt L k) := ⟨_, rfl⟩
          rw [← hc, ← hs]
          have HY := Lib.hid (show (toldN L L.length)[k]'(by rw [toldN_len]; exact hlt) = ⟨c, s⟩ by rw [toldN_at hlt, ← HD.out, hc, hs]; rfl)
          have HN : Hid (didL 2 ff tt aa (sumsAt L k) = sumsAt L (k + 1)) := Lib.hid (by rw [sumsAt_succ hlt, ← HD.out])
          obtain ⟨o0, e0⟩ : ∃ v, w5.cell? ⟨g, k * 2, none⟩ = some v := ⟨_, B5.out.cell (k * 2) _ (List.getElem?_eq_getElem (by omega))⟩
          obtain ⟨o1, e1⟩ : ∃ v, w5.cell? ⟨g, k * 2 + 1, none⟩ = some v := ⟨_, B5.out.cell (k * 2 + 1) _ (List.getElem?_eq_getElem (by omega))⟩
          have n0 := B5.out.free (k * 2) (by omega)
          have n1 := B5.out.free (k * 2 + 1) (by omega)
          clear f5 g5 hm hc hs X4 F4
          go_wp2
          go_roundw
          case rel =>
            have i6 := ins_puts (lo := g) (hi := g + 1) (Nat.le_refl _) (Nat.lt_succ_self _) (tdVs ⟨c, s⟩) (k * 2) w5
            refine ⟨k + 1, putL ys (k * 2) (tdVs ⟨c, s⟩), by omega, by go_num, Lib.hid ?_, Lib.hid ?_, by rw [putL_len]; exact hl, Lib.hid ?_, Lib.hid ?_⟩
            · rw [← HN.out]
              exact i6.row F5.out (fun b hb => by have h : b ≠ g := fun e => GNE.out (by rw [hb, e]); omega)
            · exact boxV_puts (tdVs ⟨c, s⟩) (k * 2) _ _ B5.out (by rw [tdVs_len]; omega)
            · rw [← HY.out]
              exact hT.out.put (by rw [toldN_len]; exact hlt) (by rw [toldN_len]; exact hl)
            · exact i6.ext E5.out (by have := GLE.out; omega)
          case measure => simp [intOf]; omega
      · obtain rfl : k = L.length := by omega
        go_wp2
        go_ret3
        refine ⟨_, _, rfl, hF.out.more GLE.out.2, .inr ⟨g, GNE.out, by have := GLE.out; omega, g, ys, Nat.le_refl _, Nat.lt_succ_self _, by rw [toldN_len]; rfl, by rw [toldN_len]; unfold maxLen; omega, hB.out, by rw [toldN_len]; exact hl, ?_⟩, hX.out⟩
        rw [toldN_len]
        exact hT.out

set_option maxRecDepth 100000 in
set_option maxHeartbeats 2000000 in
theorem implPlay_no (v : Value) (L : List CmdD) (w : World) (hv : Cdz w v L) (hb : cmdsB L = false) :
    Calls Try.prog 25 #[v] w (fun e w' => e = .returned (.tuple #[.slice none 0 0, .slice none 0 0, .bool false]) ∧ Ext w w') := by
  have HC := Lib.hid (implCmds_any v L w hv)
  rw [hb] at HC
  clear hv
  go_enter Try.func25, Try.ntmps25
  go_wp2_with fail
  refine HC.out.mono ?_
  rintro e w1 ⟨rfl, x1⟩
  go_wp2
  go_ret3
  exact ⟨rfl, x1⟩

def playS (L : List CmdD) : List Int := if cmdsB L then sumsAt L L.length else []
def playT (L : List CmdD) : List TldD := if cmdsB L then toldN L L.length else []
theorem implPlay_any (v : Value) (L : List CmdD) (w : World) (hv : Cdz w v L) :
    Calls Try.prog 25 #[v] w (PlayedI (playS L) (playT L) (cmdsB L) w) := by
  unfold playS playT
  cases h : cmdsB L with
  | true => exact implPlay_yes v L w hv h
  | false =>
    refine (implPlay_no v L w hv h).mono ?_
    rintro e w' ⟨rfl, x⟩
    exact ⟨_, _, rfl, fresh_nil _ _, .inl ⟨rfl, rfl⟩, x⟩

end Go.Proofs.Ytfffddhfagibpaa

namespace Go.Proofs.Ytfffddhfagibpaa
open Go.RowKit
set_option linter.unusedVariables false

theorem told_cells (w : World) (c s : Int) (T : TypeId) : ((w.alloc (.cells #[.int .i64 c, .int .i64 s] T)).alloc (.cells #[.int .i64 c, .int .i64 s] T)).cell? ⟨w.heap.size + 1, 0, none⟩ = some (.int .i64 c) ∧ ((w.alloc (.cells #[.int .i64 c, .int .i64 s] T)).alloc (.cells #[.int .i64 c, .int .i64 s] T)).cell? ⟨w.heap.size + 1, 1, none⟩ = some (.int .i64 s) := by
  refine ⟨?_, ?_⟩ <;> go_simp
theorem td_apart {B B' : Nat} {w w' : World} {v u : Value} {l : List Int} {D : List TldD} (h : Fresh B' w' v l) (k : FreshTd B w u D) (hle : w.heap.size ≤ B') : v.ownBlock = none ∨ v.ownBlock ≠ u.ownBlock := by
  cases hv : v.ownBlock with
  | none => exact .inl rfl
  | some q =>
    refine .inr fun e => ?_
    have h1 := (World.ownsRow.lt h q hv).1
    have h2 := (World.ownsRow.lt k q e.symm).2
    omega
/-- Sums and what is told come back. -/
def Played2 (S : List Int) (D : List TldD) (w : World) (e : Ending) (w' : World) : Prop :=
  ∃ v u, e = .returned (.tuple #[v, u]) ∧ Ints w' v S ∧ Tdz w' u D ∧ Ext w w'

set_option maxRecDepth 100000 in
set_option maxHeartbeats 4000000 in
theorem l11Play_any (v : Value) (L : List CmdD) (w : World) (hv : Cdz w v L) (hb : cmdsB L = true) :
    Calls Try.prog 54 #[v] w (Played2 (sumsAt L L.length) (toldN L L.length) w) := by
  obtain ⟨h60, hg0⟩ := cmdsB_yes hb
  obtain ⟨av, cv, rfl, hlv, _, hcv⟩ := hv
  unfold maxLen at hlv
  have HG := Lib.hid hg0
  have HS := Lib.hid (sumsAt_good hg0)
  have H60 := Lib.hid h60
  clear hb hg0
  go_enter Try.func54, Try.ntmps54
  go_wp2_with fail
  refine (specNewSums_any _).mono ?_
  rintro e w1 ⟨v1, rfl, f1, x1⟩
  have hi1 := f1.ints
  clear f1
  go_wp2
  go_loopw [4, 5, 7, 8, 9, 13] (fun s o _ _ _ i wr => ∃ k : Nat, k ≤ L.length ∧ i = .int .i64 k ∧ Ints wr s (sumsAt L k) ∧ FreshTd w.heap.size wr o (toldN L k) ∧ Ext w wr) (fun _ _ _ _ _ i _ => L.length - (intOf i).toNat)
  case atStart => exact ⟨0, Nat.zero_le _, rfl, hi1, FreshTd.nil _ _, x1⟩
  case round =>
    clear hi1 x1
    obtain ⟨k, hk, rfl, hs, ho, hx⟩ := hrel
    by_cases hlt : k < L.length
    · obtain ⟨b, off, rfl, dv⟩ := hcv (by omega)
      have hd0 := (dv k hlt).ext hx
      obtain ⟨d, hd⟩ : ∃ d, d = L[k] := ⟨_, rfl⟩
      rw [← hd] at hd0
      obtain ⟨c0, c1, c2, c3, c4⟩ := cdIn_cells hd0
      have hgk := HG.out k hlt
      rw [← hd] at hgk
      have hsk := HS.out k hk
      have HD := Lib.hid hd
      have HGK := Lib.hid hgk
      have HSK := Lib.hid hsk
      have S := Lib.hid (hs.ext (Ext.alloc (Ext.refl _) (.cells #[.int .i64 d.k, .int .i64 d.i, .int .i64 d.f, .int .i64 d.t, .int .i64 d.a] 35)))
      have O := Lib.hid ho
      have X := Lib.hid hx
      have hlt' := hlt
      clear hcv dv hd0 hd hgk hsk hs ho hx
      go_wp2_with fail
      refine (l11Apply_any _ (sumsAt L k) _ _ _ _ _ _ S.out HSK.out HGK.out).mono ?_
      rintro e w2 ⟨v2, rfl, f2, x2⟩
      have X2 := Lib.hid ((X.out.alloc _).trans x2)
      have O2 := Lib.hid (O.out.ext ((Ext.alloc (Ext.refl _) _).trans x2))
      obtain ⟨c, hc⟩ : ∃ c, c = didC d.k d.f d.a (sumsAt L k) := ⟨_, rfl⟩
      obtain ⟨s, hs⟩ : ∃ s, s = didS d.k d.f (sumsAt L k) := ⟨_, rfl⟩
      rw [← hc, ← hs]
      have HY : Hid (toldN L (k + 1) = toldN L k ++ [(⟨c, s⟩ : TldD)]) := Lib.hid (by rw [toldN_succ hlt, ← HD.out, hc, hs]; rfl)
      have HN : Hid (didL d.k d.f d.t d.a (sumsAt L k) = sumsAt L (k + 1)) := Lib.hid (by rw [sumsAt_succ hlt, ← HD.out])
      have hi2 := f2
      rw [HN.out] at hi2
      have I2 := Lib.hid hi2
      have AP := Lib.hid (td_apart hi2 O.out (by simp))
      have XX : Hid (Ext w2 ((w2.alloc (.cells #[.int .i64 c, .int .i64 s] 32)).alloc (.cells #[.int .i64 c, .int .i64 s] 32))) := Lib.hid (Ext.alloc (Ext.alloc (Ext.refl _) _) _)
      have HC := Lib.hid (told_cells w2 c s 32)
      have HL : Hid ((toldN L k).length ≤ 1048576) := Lib.hid (by rw [toldN_len]; have := H60.out; omega)
      have HZ := Lib.hid (Ext.size (X2.out.trans XX.out))
      clear f2 x2 hc hs hi2 c0 c1 c2 c3 c4
      go_wp2_with (at_builtin; refine wpList_pushTd rfl _ _ rfl w.heap.size _ (toldN L k) ⟨c, s⟩ rfl (O2.out.ext XX.out) (w2.heap.size + 1) 1 rfl HC.out.1 HC.out.2 HL.out HZ.out ?_)
      intro v' w' hf' hg' hk'
      have F' : Hid (FreshTd w.heap.size w' v' (toldN L (k + 1))) := Lib.hid (by rw [HY.out]; exact hf')
      have X' := Lib.hid (hk' w (X2.out.trans XX.out) (Nat.le_refl _))
      have J' := Lib.hid ((Fresh.touch (I2.out.ext XX.out) hg' AP.out).ints)
      clear hf' hg' hk' I2 AP O O2 S X X2 XX HC HL HZ HY HN
      go_wp2
      go_roundw
      case rel => exact ⟨k + 1, by omega, by go_num, J'.out, F'.out, X'.out⟩
      case measure => simp [intOf]; omega
    · obtain rfl : k = L.length := by omega
      have hs' := Lib.hid hs
      have ho' := Lib.hid ho.at
      clear hs ho hcv
      go_wp2
      go_ret2
      exact ⟨_, _, rfl, hs'.out, ho'.out, hx⟩

/-- Sums in new memory, what is told, and a Bool come back: the model's. -/
def PlayedS (S : List Int) (D : List TldD) (b : Bool) (w : World) (e : Ending) (w' : World) : Prop :=
  ∃ v u, e = .returned (.tuple #[v, u, .bool b]) ∧ Ints w' v S ∧ Tdz w' u D ∧ Ext w w'

set_option maxRecDepth 100000 in
set_option maxHeartbeats 2000000 in
theorem specPlay_any (v : Value) (L : List CmdD) (w : World) (hv : Cdz w v L) :
    Calls Try.prog 23 #[v] w (PlayedS (playS L) (playT L) (cmdsB L) w) := by
  have HC := Lib.hid (specCmds_any v L w hv)
  unfold playS playT
  cases h : cmdsB L with
  | false =>
    rw [h] at HC
    go_enter Try.func23, Try.ntmps23
    go_wp2_with fail
    refine HC.out.mono ?_
    rintro e w1 ⟨rfl, x1⟩
    go_wp2
    go_ret3
    exact ⟨_, _, rfl, Ints.nil _, Tdz.nil _, x1⟩
  | true =>
    rw [h] at HC
    have HV := Lib.hid hv
    clear hv
    go_enter Try.func23, Try.ntmps23
    go_wp2_with fail
    refine HC.out.mono ?_
    rintro e w1 ⟨rfl, x1⟩
    go_wp2_with fail
    refine (l11Play_any v L _ (HV.out.ext x1) h).mono ?_
    rintro e w2 ⟨v2, u2, rfl, h1, h2, x2⟩
    have H1 := Lib.hid h1
    have H2 := Lib.hid h2
    clear h1 h2
    go_wp2
    go_ret3
    exact ⟨_, _, rfl, H1.out, H2.out, x1.trans x2⟩

end Go.Proofs.Ytfffddhfagibpaa

namespace Go.Proofs.Ytfffddhfagibpaa
open Go.RowKit
set_option linter.unusedVariables false

theorem weighCd_zero (R : List CmdD) : (weighCd R).sum = 0 := by
  induction R with
  | nil => rfl
  | cons a t ih =>
    show 0 + (weighCd t).sum = 0
    rw [ih]
set_option maxHeartbeats 2000000 in
set_option maxRecDepth 100000 in
theorem szCdS_any (v : Value) (R : List CmdD) (left : Int) (w : World) (hv : Cdz w v R) (h0 : 0 ≤ left) (h1 : left ≤ 1099511627776) :
    Calls Try.prog 22 #[v, .int .i64 left] w (IntExt (lessened left (bulkCd R)) w) := by
  obtain ⟨av, cv, rfl, hlv, _, hcv⟩ := hv
  unfold maxLen at hlv
  have hb : bulkCd R = R.length + (weighCd R).sum := rfl
  by_cases hlt : left < R.length
  · rw [lessened_no (by omega)]
    clear hb hcv
    go_enter Try.func22, Try.ntmps22
    go_wp2
    go_ret
    exact ⟨rfl, Ext.refl _⟩
  · have hw := weighCd_zero R
    have hq : lessened left (bulkCd R) = left - R.length := by rw [lessened_yes (by omega)]; omega
    rw [hq]
    clear hb hcv hq hw
    go_enter Try.func22, Try.ntmps22
    go_wp2
    go_ret
    exact ⟨rfl, Ext.refl _⟩
end Go.Proofs.Ytfffddhfagibpaa
