/- Contract of the program's CmdText: the text of a good command, where the tables that it reads lie as the program lays them. -/
import Derived.Test.YtfadmcgaojnghaaDoorText
import Derived.Test.YtfadmcgaojnghaaDoorItoa
import Derived.Lib.AppendIntMem
import Derived.Lib.SmallJoins
import Derived.Lib.LaidTab
namespace Go.Proofs.YtfadmcgaojnghaaDoor
open Go.RowKit
set_option linter.unusedVariables false

/-- The forms of the commands lie there. -/
def Forms (w : World) : Prop :=
  (w.cell? ⟨0, 0, none⟩ = some (.string ⟨#[45]⟩) ∧ w.cell? ⟨0, 2, none⟩ = some (.string ⟨#[109, 111, 118, 101]⟩) ∧ w.cell? ⟨0, 4, none⟩ = some (.string ⟨#[114, 101, 97, 100]⟩)) ∧
  w.cell? ⟨0, 1, none⟩ = some (.int .i64 1) ∧ w.cell? ⟨0, 3, none⟩ = some (.int .i64 5) ∧ w.cell? ⟨0, 5, none⟩ = some (.int .i64 3)
theorem Forms.ext {w w' : World} (h : Forms w) (e : Ext w w') : Forms w' :=
  ⟨⟨e.cell h.1.1, e.cell h.1.2.1, e.cell h.1.2.2⟩, e.cell h.2.1, e.cell h.2.2.1, e.cell h.2.2.2⟩

def numsOf (k i f t a : Int) : List Int := if k == 1 then [i, f, t, a] else if k == 2 then [i, f] else []

theorem numbersOf_any (k i f t a : Int) (w : World) :
    Calls Tryd.prog 34 #[.agg #[.int .i64 k, .int .i64 i, .int .i64 f, .int .i64 t, .int .i64 a]] w (NewInts (numsOf k i f t a) w) := by
  by_cases h1 : k = 1
  · subst h1
    go_enter Tryd.func34, Tryd.ntmps34
    go_wp2
    go_ret
    exact ⟨_, rfl, fresh_lit2 w _ [i, f, t, a] 4 #[.int .i64 i, .int .i64 f, .int .i64 t, .int .i64 a] rfl rfl (by simp), (Ext.alloc (Ext.refl _) _).alloc _⟩
  · have e1 : (k == 1) = false := by simp [h1]
    by_cases h2 : k = 2
    · subst h2
      go_enter Tryd.func34, Tryd.ntmps34
      go_wp2
      go_ret
      exact ⟨_, rfl, fresh_lit2 w _ [i, f] 2 #[.int .i64 i, .int .i64 f] rfl rfl (by simp), (Ext.alloc (Ext.refl _) _).alloc _⟩
    · have e2 : (k == 2) = false := by simp [h2]
      have hn : numsOf k i f t a = [] := by simp [numsOf, e1, e2]
      rw [hn]
      go_enter Tryd.func34, Tryd.ntmps34
      go_wp2
      go_ret
      exact ⟨_, rfl, fresh_nil _ _, Ext.alloc (Ext.refl _) _⟩

def wordOf (k : Int) : List UInt8 := if k == 1 then [109, 111, 118, 101] else if k == 2 then [114, 101, 97, 100] else [45]
/-- A word, and numbers behind it, each behind a blank. -/
def wordsTo (u : List UInt8) (l : List Int) : List UInt8 := u ++ l.flatMap fun n => 32 :: decI n
theorem wordsTo_succ (u : List UInt8) (l : List Int) (n : Nat) (h : n < l.length) : wordsTo u (l.take (n + 1)) = wordsTo u (l.take n) ++ (32 :: decI l[n]) := by
  unfold wordsTo
  rw [List.take_add_one, List.getElem?_eq_getElem h, List.flatMap_append, List.append_assoc]
  simp only [Option.toList, List.flatMap_cons, List.flatMap_nil, List.append_nil]
theorem wordsTo_len (u : List UInt8) : ∀ l : List Int, (∀ n ∈ l, n ≤ 99999) → (wordsTo u l).length ≤ u.length + 21 * l.length := by
  intro l
  unfold wordsTo
  induction l with
  | nil => intro _; simp
  | cons x l ih =>
    intro h
    have h1 := decI_len (h x (by simp))
    have h2 := ih (fun n hn => h n (by simp [hn]))
    simp at h2 ⊢
    omega
theorem textOf_words {k i f t a : Int} (hg : goodB k i f t a = true) : textOf k i f t a = wordsTo (wordOf k) (numsOf k i f t a) := by
  rcases goodB_cases hg with ⟨rfl, rfl, rfl, rfl, rfl⟩ | ⟨rfl, _⟩ | ⟨rfl, _, rfl, rfl⟩
  · rfl
  · show textM i f t a = wordsTo [109, 111, 118, 101] [i, f, t, a]
    unfold textM wordsTo; simp
  · show textR i f = wordsTo [114, 101, 97, 100] [i, f]
    unfold textR wordsTo; simp
theorem numsOf_bounds {k i f t a : Int} (hg : goodB k i f t a = true) : ∀ n ∈ numsOf k i f t a, 0 ≤ n ∧ n ≤ 99999 := by
  rcases goodB_cases hg with ⟨rfl, rfl, rfl, rfl, rfl⟩ | ⟨rfl, hc⟩ | ⟨rfl, hc, rfl, rfl⟩
  · intro n hn; simp [numsOf] at hn
  · obtain ⟨hf, ht, _, hi, ha⟩ := codeM_good hc
    have hi' := inB_of hi
    have ha' := inB_of ha
    intro n hn
    simp [numsOf] at hn
    rcases hn with rfl | rfl | rfl | rfl <;> omega
  · obtain ⟨hf, hi⟩ := codeR_good hc
    have hi' := inB_of hi
    intro n hn
    simp [numsOf] at hn
    rcases hn with rfl | rfl <;> omega
theorem numsOf_len (k i f t a : Int) : (numsOf k i f t a).length ≤ 4 := by
  unfold numsOf
  split
  · simp
  · split <;> simp

set_option maxRecDepth 100000 in
set_option maxHeartbeats 2000000 in
theorem implText_good (k i f t a : Int) (w : World) (hg : goodB k i f t a = true) (hp : Pow w) (hfm : Forms w) :
    Calls Tryd.prog 9 #[.agg #[.int .i64 k, .int .i64 i, .int .i64 f, .int .i64 t, .int .i64 a]] w (TwoStr (wordsTo (wordOf k) (numsOf k i f t a)) true w) := by
  have hnb := numsOf_bounds hg
  have hnl := numsOf_len k i f t a
  have hk : k = 0 ∨ k = 1 ∨ k = 2 := by rcases goodB_cases hg with ⟨h, _⟩ | ⟨h, _⟩ | ⟨h, _⟩ <;> omega
  have hul : (wordOf k).length ≤ 4 := by rcases hk with rfl | rfl | rfl <;> simp [wordOf]
  have hcell : ∀ W, Forms W → W.cell? ⟨0, k.toNat * 2, none⟩ = some (.string ⟨(wordOf k).toArray⟩) := by
    intro W h
    rcases hk with rfl | rfl | rfl
    · exact h.1.1
    · exact h.1.2.1
    · exact h.1.2.2
  obtain ⟨u, hu⟩ : ∃ u, u = wordOf k := ⟨_, rfl⟩
  obtain ⟨l, hl⟩ : ∃ l, l = numsOf k i f t a := ⟨_, rfl⟩
  rw [← hu] at hul hcell
  rw [← hl] at hnb hnl
  rw [← hu, ← hl]
  have HN := Lib.hid hnb
  have HC := Lib.hid hcell
  have HL := Lib.hid hl
  have HG := Lib.hid hg
  have HP := Lib.hid hp
  have HF := Lib.hid hfm
  have hk0 : 0 ≤ k := by omega
  have hk2 : k < 3 := by omega
  clear hnb hcell hl hu hg hk hp hfm
  go_enter Tryd.func9, Tryd.ntmps9
  go_wp2_with fail
  refine (implGood_any _ _ _ _ _ _).mono ?_
  rintro e w1 ⟨rfl, x1⟩
  rw [HG.out]
  have y1 : Ext w w1 := (Ext.alloc (Ext.refl _) _).trans x1
  obtain ⟨c0, c1, c2, c3, c4⟩ := (cmdAt_new w 25 k i f t a).ext x1
  have hw := HC.out _ (HF.out.ext y1)
  go_wp2_with fail
  refine (numbersOf_any _ _ _ _ _ _).mono ?_
  rintro e w2 ⟨v, rfl, f2, x2⟩
  rw [← HL.out] at f2
  have y2 : Ext w w2 := y1.trans x2
  obtain ⟨av, cv, rfl, hlv, hcap, hcv⟩ := f2.ints
  have HCP := Lib.hid hcap
  clear c0 c1 c2 c3 c4 hw x1 x2 y1 f2 hcap hlv
  have hst : wordsTo u (l.take 0) = u := by simp [wordsTo]
  have HST := Lib.hid hst
  clear hst
  go_wp2
  go_loopw [4, 18] (fun s j wr => ∃ n : Nat, n ≤ l.length ∧ j = .int .i64 n ∧ s = .string ⟨(wordsTo u (l.take n)).toArray⟩ ∧ Ext w2 wr) (fun _ j _ => l.length - (intOf j).toNat)
  case atStart => exact ⟨0, by omega, rfl, by rw [HST.out], Ext.refl _⟩
  case round =>
    obtain ⟨n, hn, rfl, rfl, hx⟩ := hrel
    by_cases hlt : n < l.length
    · obtain ⟨bv, ov, rfl, dv⟩ := hcv (by omega)
      have gv := hx.cell (dv n hlt)
      clear hcv dv
      have hbd := HN.out l[n] (List.getElem_mem hlt)
      have hci := itoa_at l[n] hbd.1 hbd.2
      have hln := decI_len hbd.2
      have hwl := wordsTo_len u (l.take n) (fun x hx => (HN.out x (List.mem_of_mem_take hx)).2)
      have htl : (l.take n).length ≤ 4 := by simp; omega
      have hsu := wordsTo_succ u l n hlt
      obtain ⟨q, hq⟩ : ∃ q, q = decI l[n] := ⟨_, rfl⟩
      obtain ⟨s0, hs0⟩ : ∃ s0, s0 = wordsTo u (l.take n) := ⟨_, rfl⟩
      rw [← hq] at hci hln hsu
      rw [← hs0] at hwl hsu
      rw [← hs0]
      have b1 : ∀ W : World, (Op.stringOp .add ⟨#[32]⟩ ⟨q.toArray⟩).run Tryd.prog W = .ok (.string ⟨(32 :: q).toArray⟩) W := fun W => cat_run W [32] q (by simp; omega)
      have b2 : ∀ W : World, (Op.stringOp .add ⟨s0.toArray⟩ ⟨(32 :: q).toArray⟩).run Tryd.prog W = .ok (.string ⟨(s0 ++ 32 :: q).toArray⟩) W := fun W => cat_run W s0 (32 :: q) (by simp; omega)
      obtain ⟨q1, hq1⟩ : ∃ q1, q1 = 32 :: q := ⟨_, rfl⟩
      obtain ⟨q2, hq2⟩ : ∃ q2, q2 = s0 ++ 32 :: q := ⟨_, rfl⟩
      rw [← hq2] at b2 hsu
      rw [← hq1] at b1 b2
      have HSU := Lib.hid hsu
      have HCI := Lib.hid hci
      clear hsu hci hq hs0 hq1 hq2 hbd hwl htl hln
      go_wp2_with fail
      refine (HCI.out _ (HP.out.ext (y2.trans hx))).mono ?_
      rintro e w3 ⟨rfl, x3⟩
      go_wp2
      go_roundw
      case rel => exact ⟨n + 1, by omega, by go_num, by rw [HSU.out], hx.trans x3⟩
      case measure => simp [intOf]; omega
    · obtain rfl : n = l.length := by omega
      have ht : l.take l.length = l := List.take_length
      rw [ht]
      clear ht
      go_wp2
      go_ret2
      exact ⟨rfl, y2.trans hx⟩

theorem implText_any (k i f t a : Int) (w : World) (hp : Pow w) (hfm : Forms w) :
    Calls Tryd.prog 9 #[.agg #[.int .i64 k, .int .i64 i, .int .i64 f, .int .i64 t, .int .i64 a]] w (TwoStr (cmdText k i f t a) (goodB k i f t a) w) := by
  cases hg : goodB k i f t a with
  | true => rw [cmdText_good hg, textOf_words hg]; exact implText_good k i f t a w hg hp hfm
  | false =>
    rw [cmdText_bad hg]
    have HG := Lib.hid hg
    clear hg hp hfm
    go_enter Tryd.func9, Tryd.ntmps9
    go_wp2_with fail
    refine (implGood_any _ _ _ _ _ _).mono ?_
    rintro e w1 ⟨rfl, x1⟩
    rw [HG.out]
    go_wp2
    go_ret2
    exact ⟨rfl, (Ext.alloc (Ext.refl _) _).trans x1⟩

end Go.Proofs.YtfadmcgaojnghaaDoor
