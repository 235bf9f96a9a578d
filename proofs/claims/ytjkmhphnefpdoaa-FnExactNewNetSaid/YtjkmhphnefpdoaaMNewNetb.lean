/- Texts of this proof, part b: words, plain facts, contracts. -/
import Derived.Test.YtjkmhphnefpdoaaMNewNeta
import Derived.Laws.CopyOwn

namespace Go.Proofs.Ytjkmhphnefpdoaa
open Go.RowKit
set_option linter.unusedVariables false

def lensR (R : List RowD) : List Nat := R.map fun r => r.l.length
theorem lensR_len (R : List RowD) : (lensR R).length = R.length := by simp [lensR]
theorem lensR_get {R : List RowD} {k : Nat} (h : k < R.length) : (lensR R)[k]'(by rw [lensR_len]; exact h) = R[k].l.length := by simp [lensR]

set_option maxHeartbeats 1000000 in
theorem szRowS_any (v : Value) (R : List RowD) (left : Int) (w : World) (hv : Rowz w v R) (h0 : 0 ≤ left) (h1 : left ≤ 1099511627776) :
    Calls Try.prog 102 #[v, .int .i64 left] w (IntExt (lessened left (bulkR R)) w) := by
  obtain ⟨av, cv, rfl, hlv, _, hcv⟩ := hv
  unfold maxLen at hlv
  have hb : bulkR R = R.length + (lensR R).sum := rfl
  by_cases hlt : left < R.length
  · rw [lessened_no (by omega)]
    clear hb hcv
    go_enter Try.func102, Try.ntmps102
    go_wp2
    go_ret
    exact ⟨rfl, Ext.refl _⟩
  · have HBK := Lib.hid hb
    have hle : (R.length : Int) ≤ left := by omega
    clear hb hlt
    go_enter Try.func102, Try.ntmps102
    go_wp2
    go_loopw [1, 5] (fun m i wr => ∃ (k : Nat) (r : Int), k ≤ R.length ∧ i = .int .i64 k ∧ m = .int .i64 r ∧ 0 ≤ r ∧ Hid (r = left - R.length - sumN (lensR R) k) ∧ Ext w wr) (fun _ i _ => R.length - (intOf i).toNat)
    case atStart => exact ⟨0, left - R.length, Nat.zero_le _, rfl, rfl, by omega, Lib.hid (by rw [sumN_zero]; simp), Ext.refl _⟩
    case round =>
      obtain ⟨k, r, hk, rfl, rfl, hr0, hr, hx⟩ := hrel
      have hr1 : r ≤ 1099511627776 := by have := hr.out; omega
      by_cases hlt : k < R.length
      · obtain ⟨b, off, rfl, dv⟩ := hcv (by omega)
        obtain ⟨u, hu, iu⟩ := dv k hlt
        have hs := sumN_succ (g := lensR R) (k := k) (by rw [lensR_len]; exact hlt)
        rw [lensR_get hlt] at hs
        obtain ⟨d, hd⟩ : ∃ d, d = R[k] := ⟨_, rfl⟩
        rw [← hd] at hu iu hs
        obtain ⟨c0, c1, c2, c3, c4, c5, c6, c7, c8, c9⟩ := hu.ext hx
        have IU := Lib.hid (iu.ext hx)
        have HS := Lib.hid hs
        clear hcv dv hu iu hs hd
        by_cases hl : r < d.l.length
        · have L := Lib.hid (lessened_no hl)
          have hsum := sumN_mono (g := lensR R) (k := k + 1) (by rw [lensR_len]; omega)
          have HL := Lib.hid (show lessened left (bulkR R) = -1 from lessened_no (by have h1 := hr.out; have h2 := HS.out; have h3 := HBK.out; omega))
          clear hl hsum
          go_wp2_with fail
          refine (szRow_any d _ _ _ IU.out hr0 (by omega)).mono ?_
          rintro e w2 ⟨rfl, x2⟩
          have hx2 := hx.trans x2
          clear x2 hx c0 c1 c2 c3 c4 c5 c6 c7 c8 c9
          rw [L.out]
          go_wp2
          go_ret
          exact ⟨by rw [HL.out]; rfl, hx2⟩
        · obtain ⟨q, hq⟩ : ∃ q, q = r - (d.l.length : Int) := ⟨_, rfl⟩
          have hq0 : 0 ≤ q := by omega
          have L : Hid (lessened r d.l.length = q) := Lib.hid (by rw [hq]; exact lessened_yes (by omega))
          have HQ := Lib.hid hq
          clear hl hq
          go_wp2_with fail
          refine (szRow_any d _ _ _ IU.out hr0 (by omega)).mono ?_
          rintro e w2 ⟨rfl, x2⟩
          have hx2 := hx.trans x2
          clear x2 hx c0 c1 c2 c3 c4 c5 c6 c7 c8 c9
          rw [L.out]
          go_wp2
          go_roundw
          case rel => exact ⟨k + 1, q, by omega, by go_num, rfl, hq0, Lib.hid (by have h1 := hr.out; have h2 := HS.out; have h3 := HQ.out; omega), hx2⟩
          case measure => simp [intOf]; omega
      · obtain rfl : k = R.length := by omega
        go_wp2
        go_ret
        refine ⟨?_, hx⟩
        have h1 := hr.out
        have h3 := HBK.out
        have h4 := sumN_all (lensR R)
        rw [lensR_len] at h4
        have he : lessened left (bulkR R) = r := by rw [lessened_yes (by omega)]; omega
        rw [he]; rfl

def bulks (T : List (List RowD)) : List Nat := T.map bulkR
theorem bulks_len (T : List (List RowD)) : (bulks T).length = T.length := by simp [bulks]
theorem bulks_get {T : List (List RowD)} {k : Nat} (h : k < T.length) : (bulks T)[k]'(by rw [bulks_len]; exact h) = bulkR T[k] := by simp [bulks]

set_option maxHeartbeats 1000000 in
theorem szRowSS_any (v : Value) (T : List (List RowD)) (left : Int) (w : World) (hv : Rowzz w v T) (h0 : 0 ≤ left) (h1 : left ≤ 1099511627776) :
    Calls Try.prog 46 #[v, .int .i64 left] w (IntExt (lessened left (bulkT T)) w) := by
  obtain ⟨av, cv, rfl, hlv, _, hcv⟩ := hv
  unfold maxLen at hlv
  have hb : bulkT T = T.length + (bulks T).sum := rfl
  by_cases hlt : left < T.length
  · rw [lessened_no (by omega)]
    clear hb hcv
    go_enter Try.func46, Try.ntmps46
    go_wp2
    go_ret
    exact ⟨rfl, Ext.refl _⟩
  · have HBK := Lib.hid hb
    have hle : (T.length : Int) ≤ left := by omega
    clear hb hlt
    go_enter Try.func46, Try.ntmps46
    go_wp2
    go_loopw [1, 5] (fun m i wr => ∃ (k : Nat) (r : Int), k ≤ T.length ∧ i = .int .i64 k ∧ m = .int .i64 r ∧ 0 ≤ r ∧ Hid (r = left - T.length - sumN (bulks T) k) ∧ Ext w wr) (fun _ i _ => T.length - (intOf i).toNat)
    case atStart => exact ⟨0, left - T.length, Nat.zero_le _, rfl, rfl, by omega, Lib.hid (by rw [sumN_zero]; simp), Ext.refl _⟩
    case round =>
      obtain ⟨k, r, hk, rfl, rfl, hr0, hr, hx⟩ := hrel
      have hr1 : r ≤ 1099511627776 := by have := hr.out; omega
      by_cases hlt : k < T.length
      · obtain ⟨b, off, rfl, dv⟩ := hcv (by omega)
        obtain ⟨u, hu, iu⟩ := dv k hlt
        have hs := sumN_succ (g := bulks T) (k := k) (by rw [bulks_len]; exact hlt)
        rw [bulks_get hlt] at hs
        obtain ⟨d, hd⟩ : ∃ d, d = T[k] := ⟨_, rfl⟩
        rw [← hd] at iu hs
        have c0 := hx.cell hu
        have IU := Lib.hid (iu.ext hx)
        have HS := Lib.hid hs
        clear hcv dv hu iu hs hd
        by_cases hl : r < bulkR d
        · have L := Lib.hid (lessened_no hl)
          have hsum := sumN_mono (g := bulks T) (k := k + 1) (by rw [bulks_len]; omega)
          have HL := Lib.hid (show lessened left (bulkT T) = -1 from lessened_no (by have h1 := hr.out; have h2 := HS.out; have h3 := HBK.out; omega))
          clear hl hsum
          go_wp2_with fail
          refine (szRowS_any _ d _ _ IU.out hr0 (by omega)).mono ?_
          rintro e w2 ⟨rfl, x2⟩
          have hx2 := hx.trans x2
          clear x2 hx c0
          rw [L.out]
          go_wp2
          go_ret
          exact ⟨by rw [HL.out]; rfl, hx2⟩
        · obtain ⟨q, hq⟩ : ∃ q, q = r - (bulkR d : Int) := ⟨_, rfl⟩
          have hq0 : 0 ≤ q := by omega
          have L : Hid (lessened r (bulkR d) = q) := Lib.hid (by rw [hq]; exact lessened_yes (by omega))
          have HQ := Lib.hid hq
          clear hl hq
          go_wp2_with fail
          refine (szRowS_any _ d _ _ IU.out hr0 (by omega)).mono ?_
          rintro e w2 ⟨rfl, x2⟩
          have hx2 := hx.trans x2
          clear x2 hx c0
          rw [L.out]
          go_wp2
          go_roundw
          case rel => exact ⟨k + 1, q, by omega, by go_num, rfl, hq0, Lib.hid (by have h1 := hr.out; have h2 := HS.out; have h3 := HQ.out; omega), hx2⟩
          case measure => simp [intOf]; omega
      · obtain rfl : k = T.length := by omega
        go_wp2
        go_ret
        refine ⟨?_, hx⟩
        have h1 := hr.out
        have h3 := HBK.out
        have h4 := sumN_all (bulks T)
        rw [bulks_len] at h4
        have he : lessened left (bulkT T) = r := by rw [lessened_yes (by omega)]; omega
        rw [he]; rfl

set_option maxHeartbeats 1000000 in
theorem szTable_any (n : Int) (u : Value) (T : List (List RowD)) (left : Int) (w : World) (hv : Rowzz w u T) (h0 : 0 ≤ left) (h1 : left ≤ 1099511627776) :
    Calls Try.prog 16 #[.agg #[.int .i64 n, u], .int .i64 left] w (IntExt (lessened left (bulkT T)) w) := by
  have HB := attrAt_new w 24 n u
  by_cases hlt : left < bulkT T
  · have L := Lib.hid (lessened_no hlt)
    clear hlt
    go_enter Try.func16, Try.ntmps16
    go_wp2_with fail
    refine (szRowSS_any _ _ _ _ (hv.ext (Ext.alloc (Ext.refl _) _)) h0 h1).mono ?_
    rintro e w1 ⟨rfl, x1⟩
    have hx := (Ext.alloc (Ext.refl w) _).trans x1
    clear x1 HB
    rw [L.out]
    go_wp2
    go_ret
    exact ⟨by rw [L.out]; rfl, hx⟩
  · obtain ⟨q, hq⟩ : ∃ q, q = left - (bulkT T : Int) := ⟨_, rfl⟩
    have hq0 : 0 ≤ q := by omega
    have LR : Hid (lessened left (bulkT T) = q) := Lib.hid (by rw [hq]; exact lessened_yes (by omega))
    clear hlt hq
    rw [LR.out]
    go_enter Try.func16, Try.ntmps16
    go_wp2_with fail
    refine (szRowSS_any _ _ _ _ (hv.ext (Ext.alloc (Ext.refl _) _)) h0 h1).mono ?_
    rintro e w1 ⟨rfl, x1⟩
    have hx := (Ext.alloc (Ext.refl w) _).trans x1
    clear x1 HB
    rw [LR.out]
    go_wp2
    go_ret
    exact ⟨rfl, hx⟩

end Go.Proofs.Ytjkmhphnefpdoaa

namespace Go.Proofs.Ytjkmhphnefpdoaa
open Go.RowKit

theorem l1In_any (n lo hi : Int) (w : World) :
    Calls Try.prog 34 #[.int .i64 n, .int .i64 lo, .int .i64 hi] w fun e w' => e = .returned (.bool (inB n lo hi)) ∧ w = w' := by
  by_cases h1 : lo ≤ n
  · by_cases h2 : n ≤ hi
    · go_enter Try.func34, Try.ntmps34
      go_wp2
      go_ret
      exact ⟨by rw [inB_yes h1 h2]; rfl, rfl⟩
    · go_enter Try.func34, Try.ntmps34
      go_wp2
      go_ret
      exact ⟨by rw [inB_no (by omega)]; rfl, rfl⟩
  · go_enter Try.func34, Try.ntmps34
    go_wp2
    go_ret
    exact ⟨by rw [inB_no (by omega)]; rfl, rfl⟩


end Go.Proofs.Ytjkmhphnefpdoaa

namespace Go.Proofs.Ytjkmhphnefpdoaa
open Go.RowKit

def acctB (n : Int) : Bool := inB n 0 3
theorem acctB_yes {n : Int} (h : acctB n = true) : 0 ≤ n ∧ n ≤ 3 := by unfold acctB inB at h; simpa using h

theorem l2Account_any (n : Int) (w : World) :
    Calls Try.prog 125 #[.int .i64 n] w fun e w' => e = .returned (.bool (acctB n)) ∧ w = w' := by
  go_enter Try.func125, Try.ntmps125
  go_wp2_with (go_at_call 34; refine (l1In_any _ _ _ _).mono ?_; rintro e w' ⟨rfl, rfl⟩)
  go_ret
  exact ⟨rfl, rfl⟩

theorem isAccount_any (n : Int) (w : World) :
    Calls Try.prog 128 #[.int .i64 n] w fun e w' => e = .returned (.bool (acctB n)) ∧ w = w' := by
  unfold acctB
  by_cases h1 : 0 ≤ n
  · by_cases h2 : n < 4
    · go_enter Try.func128, Try.ntmps128
      go_wp2
      go_ret
      exact ⟨by rw [inB_yes h1 (by omega)]; rfl, rfl⟩
    · go_enter Try.func128, Try.ntmps128
      go_wp2
      go_ret
      exact ⟨by rw [inB_no (by omega)]; rfl, rfl⟩
  · go_enter Try.func128, Try.ntmps128
    go_wp2
    go_ret
    exact ⟨by rw [inB_no (by omega)]; rfl, rfl⟩

theorem isCmdId_any (n : Int) (w : World) :
    Calls Try.prog 129 #[.int .i64 n] w fun e w' => e = .returned (.bool (inB n 1 999)) ∧ w = w' := by
  by_cases h1 : 1 ≤ n
  · by_cases h2 : n ≤ 999
    · go_enter Try.func129, Try.ntmps129
      go_wp2
      go_ret
      exact ⟨by rw [inB_yes h1 (by omega)]; rfl, rfl⟩
    · go_enter Try.func129, Try.ntmps129
      go_wp2
      go_ret
      exact ⟨by rw [inB_no (by omega)]; rfl, rfl⟩
  · go_enter Try.func129, Try.ntmps129
    go_wp2
    go_ret
    exact ⟨by rw [inB_no (by omega)]; rfl, rfl⟩

theorem isAmount_any (n : Int) (w : World) :
    Calls Try.prog 130 #[.int .i64 n] w fun e w' => e = .returned (.bool (inB n 1 1000)) ∧ w = w' := by
  by_cases h1 : 1 ≤ n
  · by_cases h2 : n ≤ 1000
    · go_enter Try.func130, Try.ntmps130
      go_wp2
      go_ret
      exact ⟨by rw [inB_yes h1 (by omega)]; rfl, rfl⟩
    · go_enter Try.func130, Try.ntmps130
      go_wp2
      go_ret
      exact ⟨by rw [inB_no (by omega)]; rfl, rfl⟩
  · go_enter Try.func130, Try.ntmps130
    go_wp2
    go_ret
    exact ⟨by rw [inB_no (by omega)]; rfl, rfl⟩

/-- What is wrong with a command that moves. -/
def codeM (i f t a : Int) : Int := if acctB f then (if acctB t then (if f == t then 5 else if inB i 1 999 then (if inB a 1 1000 then 0 else 6) else 6) else 4) else 4
/-- What is wrong with another one. -/
def codeR (i f : Int) : Int := if acctB f then (if inB i 1 999 then 0 else 6) else 4

set_option maxHeartbeats 1000000 in
theorem l2Code_move (i f t a : Int) (w : World) :
    Calls Try.prog 115 #[.agg #[.int .i64 1, .int .i64 i, .int .i64 f, .int .i64 t, .int .i64 a]] w (IntExt (codeM i f t a) w) := by
  unfold codeM
  cases h0 : acctB f with
  | false =>
    go_enter Try.func115, Try.ntmps115
    go_wp2_with (first | (go_at_call 125; refine (l2Account_any _ _).mono ?_; rintro e w' ⟨rfl, rfl⟩) | (go_at_call 34; refine (l1In_any _ _ _ _).mono ?_; rintro e w' ⟨rfl, rfl⟩))
    go_ret
    exact ⟨rfl, by repeat (first | exact Ext.refl _ | apply Ext.drew | apply Ext.alloc)⟩
  | true =>
    cases h1 : acctB t with
    | false =>
      go_enter Try.func115, Try.ntmps115
      go_wp2_with (first | (go_at_call 125; refine (l2Account_any _ _).mono ?_; rintro e w' ⟨rfl, rfl⟩) | (go_at_call 34; refine (l1In_any _ _ _ _).mono ?_; rintro e w' ⟨rfl, rfl⟩))
      go_ret
      exact ⟨rfl, by repeat (first | exact Ext.refl _ | apply Ext.drew | apply Ext.alloc)⟩
    | true =>
      cases h2 : (f == t) with
      | true =>
        go_enter Try.func115, Try.ntmps115
        go_wp2_with (first | (go_at_call 125; refine (l2Account_any _ _).mono ?_; rintro e w' ⟨rfl, rfl⟩) | (go_at_call 34; refine (l1In_any _ _ _ _).mono ?_; rintro e w' ⟨rfl, rfl⟩))
        go_ret
        exact ⟨rfl, by repeat (first | exact Ext.refl _ | apply Ext.drew | apply Ext.alloc)⟩
      | false =>
        cases h3 : inB i 1 999 with
        | false =>
          go_enter Try.func115, Try.ntmps115
          go_wp2_with (first | (go_at_call 125; refine (l2Account_any _ _).mono ?_; rintro e w' ⟨rfl, rfl⟩) | (go_at_call 34; refine (l1In_any _ _ _ _).mono ?_; rintro e w' ⟨rfl, rfl⟩))
          go_ret
          exact ⟨rfl, by repeat (first | exact Ext.refl _ | apply Ext.drew | apply Ext.alloc)⟩
        | true =>
          cases h4 : inB a 1 1000 with
          | false =>
            go_enter Try.func115, Try.ntmps115
            go_wp2_with (first | (go_at_call 125; refine (l2Account_any _ _).mono ?_; rintro e w' ⟨rfl, rfl⟩) | (go_at_call 34; refine (l1In_any _ _ _ _).mono ?_; rintro e w' ⟨rfl, rfl⟩))
            go_ret
            exact ⟨rfl, by repeat (first | exact Ext.refl _ | apply Ext.drew | apply Ext.alloc)⟩
          | true =>
            go_enter Try.func115, Try.ntmps115
            go_wp2_with (first | (go_at_call 125; refine (l2Account_any _ _).mono ?_; rintro e w' ⟨rfl, rfl⟩) | (go_at_call 34; refine (l1In_any _ _ _ _).mono ?_; rintro e w' ⟨rfl, rfl⟩))
            go_ret
            exact ⟨rfl, by repeat (first | exact Ext.refl _ | apply Ext.drew | apply Ext.alloc)⟩

set_option maxHeartbeats 1000000 in
theorem l2Code_read (k i f t a : Int) (w : World) (hk : (k == 1) = false) (_hk0 : (k == 0) = false) :
    Calls Try.prog 115 #[.agg #[.int .i64 k, .int .i64 i, .int .i64 f, .int .i64 t, .int .i64 a]] w (IntExt (codeR i f) w) := by
  unfold codeR
  cases h0 : acctB f with
  | false =>
    go_enter Try.func115, Try.ntmps115
    go_wp2_with (first | (go_at_call 125; refine (l2Account_any _ _).mono ?_; rintro e w' ⟨rfl, rfl⟩) | (go_at_call 34; refine (l1In_any _ _ _ _).mono ?_; rintro e w' ⟨rfl, rfl⟩))
    go_ret
    exact ⟨rfl, by repeat (first | exact Ext.refl _ | apply Ext.drew | apply Ext.alloc)⟩
  | true =>
    cases h1 : inB i 1 999 with
    | false =>
      go_enter Try.func115, Try.ntmps115
      go_wp2_with (first | (go_at_call 125; refine (l2Account_any _ _).mono ?_; rintro e w' ⟨rfl, rfl⟩) | (go_at_call 34; refine (l1In_any _ _ _ _).mono ?_; rintro e w' ⟨rfl, rfl⟩))
      go_ret
      exact ⟨rfl, by repeat (first | exact Ext.refl _ | apply Ext.drew | apply Ext.alloc)⟩
    | true =>
      go_enter Try.func115, Try.ntmps115
      go_wp2_with (first | (go_at_call 125; refine (l2Account_any _ _).mono ?_; rintro e w' ⟨rfl, rfl⟩) | (go_at_call 34; refine (l1In_any _ _ _ _).mono ?_; rintro e w' ⟨rfl, rfl⟩))
      go_ret
      exact ⟨rfl, by repeat (first | exact Ext.refl _ | apply Ext.drew | apply Ext.alloc)⟩

set_option maxHeartbeats 1000000 in
theorem faultOfCmd_move (i f t a : Int) (w : World) :
    Calls Try.prog 124 #[.agg #[.int .i64 1, .int .i64 i, .int .i64 f, .int .i64 t, .int .i64 a]] w (IntExt (codeM i f t a) w) := by
  unfold codeM
  cases h0 : acctB f with
  | false =>
    go_enter Try.func124, Try.ntmps124
    go_wp2_with (first | (go_at_call 128; refine (isAccount_any _ _).mono ?_; rintro e w' ⟨rfl, rfl⟩) | (go_at_call 129; refine (isCmdId_any _ _).mono ?_; rintro e w' ⟨rfl, rfl⟩) | (go_at_call 130; refine (isAmount_any _ _).mono ?_; rintro e w' ⟨rfl, rfl⟩))
    go_ret
    exact ⟨rfl, by repeat (first | exact Ext.refl _ | apply Ext.drew | apply Ext.alloc)⟩
  | true =>
    cases h1 : acctB t with
    | false =>
      go_enter Try.func124, Try.ntmps124
      go_wp2_with (first | (go_at_call 128; refine (isAccount_any _ _).mono ?_; rintro e w' ⟨rfl, rfl⟩) | (go_at_call 129; refine (isCmdId_any _ _).mono ?_; rintro e w' ⟨rfl, rfl⟩) | (go_at_call 130; refine (isAmount_any _ _).mono ?_; rintro e w' ⟨rfl, rfl⟩))
      go_ret
      exact ⟨rfl, by repeat (first | exact Ext.refl _ | apply Ext.drew | apply Ext.alloc)⟩
    | true =>
      cases h2 : (f == t) with
      | true =>
        go_enter Try.func124, Try.ntmps124
        go_wp2_with (first | (go_at_call 128; refine (isAccount_any _ _).mono ?_; rintro e w' ⟨rfl, rfl⟩) | (go_at_call 129; refine (isCmdId_any _ _).mono ?_; rintro e w' ⟨rfl, rfl⟩) | (go_at_call 130; refine (isAmount_any _ _).mono ?_; rintro e w' ⟨rfl, rfl⟩))
        go_ret
        exact ⟨rfl, by repeat (first | exact Ext.refl _ | apply Ext.drew | apply Ext.alloc)⟩
      | false =>
        cases h3 : inB i 1 999 with
        | false =>
          go_enter Try.func124, Try.ntmps124
          go_wp2_with (first | (go_at_call 128; refine (isAccount_any _ _).mono ?_; rintro e w' ⟨rfl, rfl⟩) | (go_at_call 129; refine (isCmdId_any _ _).mono ?_; rintro e w' ⟨rfl, rfl⟩) | (go_at_call 130; refine (isAmount_any _ _).mono ?_; rintro e w' ⟨rfl, rfl⟩))
          go_ret
          exact ⟨rfl, by repeat (first | exact Ext.refl _ | apply Ext.drew | apply Ext.alloc)⟩
        | true =>
          cases h4 : inB a 1 1000 with
          | false =>
            go_enter Try.func124, Try.ntmps124
            go_wp2_with (first | (go_at_call 128; refine (isAccount_any _ _).mono ?_; rintro e w' ⟨rfl, rfl⟩) | (go_at_call 129; refine (isCmdId_any _ _).mono ?_; rintro e w' ⟨rfl, rfl⟩) | (go_at_call 130; refine (isAmount_any _ _).mono ?_; rintro e w' ⟨rfl, rfl⟩))
            go_ret
            exact ⟨rfl, by repeat (first | exact Ext.refl _ | apply Ext.drew | apply Ext.alloc)⟩
          | true =>
            go_enter Try.func124, Try.ntmps124
            go_wp2_with (first | (go_at_call 128; refine (isAccount_any _ _).mono ?_; rintro e w' ⟨rfl, rfl⟩) | (go_at_call 129; refine (isCmdId_any _ _).mono ?_; rintro e w' ⟨rfl, rfl⟩) | (go_at_call 130; refine (isAmount_any _ _).mono ?_; rintro e w' ⟨rfl, rfl⟩))
            go_ret
            exact ⟨rfl, by repeat (first | exact Ext.refl _ | apply Ext.drew | apply Ext.alloc)⟩

set_option maxHeartbeats 1000000 in
theorem faultOfCmd_read (k i f t a : Int) (w : World) (hk : (k == 1) = false) (_hk0 : (k == 0) = false) :
    Calls Try.prog 124 #[.agg #[.int .i64 k, .int .i64 i, .int .i64 f, .int .i64 t, .int .i64 a]] w (IntExt (codeR i f) w) := by
  unfold codeR
  cases h0 : acctB f with
  | false =>
    go_enter Try.func124, Try.ntmps124
    go_wp2_with (first | (go_at_call 128; refine (isAccount_any _ _).mono ?_; rintro e w' ⟨rfl, rfl⟩) | (go_at_call 129; refine (isCmdId_any _ _).mono ?_; rintro e w' ⟨rfl, rfl⟩) | (go_at_call 130; refine (isAmount_any _ _).mono ?_; rintro e w' ⟨rfl, rfl⟩))
    go_ret
    exact ⟨rfl, by repeat (first | exact Ext.refl _ | apply Ext.drew | apply Ext.alloc)⟩
  | true =>
    cases h1 : inB i 1 999 with
    | false =>
      go_enter Try.func124, Try.ntmps124
      go_wp2_with (first | (go_at_call 128; refine (isAccount_any _ _).mono ?_; rintro e w' ⟨rfl, rfl⟩) | (go_at_call 129; refine (isCmdId_any _ _).mono ?_; rintro e w' ⟨rfl, rfl⟩) | (go_at_call 130; refine (isAmount_any _ _).mono ?_; rintro e w' ⟨rfl, rfl⟩))
      go_ret
      exact ⟨rfl, by repeat (first | exact Ext.refl _ | apply Ext.drew | apply Ext.alloc)⟩
    | true =>
      go_enter Try.func124, Try.ntmps124
      go_wp2_with (first | (go_at_call 128; refine (isAccount_any _ _).mono ?_; rintro e w' ⟨rfl, rfl⟩) | (go_at_call 129; refine (isCmdId_any _ _).mono ?_; rintro e w' ⟨rfl, rfl⟩) | (go_at_call 130; refine (isAmount_any _ _).mono ?_; rintro e w' ⟨rfl, rfl⟩))
      go_ret
      exact ⟨rfl, by repeat (first | exact Ext.refl _ | apply Ext.drew | apply Ext.alloc)⟩

end Go.Proofs.Ytjkmhphnefpdoaa

namespace Go.Proofs.Ytjkmhphnefpdoaa
open Go.RowKit
set_option linter.unusedVariables false

def zeroB (i f t a : Int) : Bool := i == 0 && (f == 0 && (t == 0 && a == 0))
/-- Whether a command is good. -/
def goodB (k i f t a : Int) : Bool := if k == 0 then zeroB i f t a else if k == 1 then codeM i f t a == 0 else if k == 2 then (codeR i f == 0 && t == 0) && a == 0 else false
theorem goodB_0 (i f t a : Int) : goodB 0 i f t a = zeroB i f t a := rfl
theorem goodB_1 (i f t a : Int) : goodB 1 i f t a = (codeM i f t a == 0) := rfl
theorem goodB_2 (i f t a : Int) : goodB 2 i f t a = ((codeR i f == 0 && t == 0) && a == 0) := rfl
theorem goodB_else {k : Int} (i f t a : Int) (h0 : (k == 0) = false) (h1 : (k == 1) = false) (h2 : (k == 2) = false) : goodB k i f t a = false := by
  unfold goodB; simp [h0, h1, h2]

set_option maxHeartbeats 1000000 in
theorem specGood_0 (i f t a : Int) (w : World) :
    Calls Try.prog 81 #[.agg #[.int .i64 0, .int .i64 i, .int .i64 f, .int .i64 t, .int .i64 a]] w (BoolExt (zeroB i f t a) w) := by
  unfold zeroB
  go_enter Try.func81, Try.ntmps81
  go_wp2
  all_goals go_ret
  all_goals refine ⟨?_, by repeat (first | assumption | exact Ext.refl _ | apply Ext.drew | apply Ext.alloc)⟩
  all_goals first | rfl | simp [*]

set_option maxHeartbeats 1000000 in
theorem specGood_1 (i f t a : Int) (w : World) :
    Calls Try.prog 81 #[.agg #[.int .i64 1, .int .i64 i, .int .i64 f, .int .i64 t, .int .i64 a]] w (BoolExt (codeM i f t a == 0) w) := by
  go_enter Try.func81, Try.ntmps81
  go_wp2_with fail
  refine (l2Code_move _ _ _ _ _).mono ?_
  rintro e w' ⟨rfl, hx⟩
  go_wp2
  go_ret
  exact ⟨rfl, Ext.trans (Ext.alloc (Ext.refl _) _) hx⟩

set_option maxHeartbeats 1000000 in
theorem specGood_2 (i f t a : Int) (w : World) :
    Calls Try.prog 81 #[.agg #[.int .i64 2, .int .i64 i, .int .i64 f, .int .i64 t, .int .i64 a]] w (BoolExt ((codeR i f == 0 && t == 0) && a == 0) w) := by
  by_cases ht : t = 0
  · by_cases ha : a = 0
    · subst ht; subst ha
      cases hc : (codeR i f == 0) with
      | false =>
        go_enter Try.func81, Try.ntmps81
        go_wp2_with fail
        refine (l2Code_read 2 _ _ _ _ _ rfl rfl).mono ?_
        rintro e w' ⟨rfl, hx⟩
        go_wp2
        go_ret
        exact ⟨rfl, Ext.trans (Ext.alloc (Ext.refl _) _) hx⟩
      | true =>
        go_enter Try.func81, Try.ntmps81
        go_wp2_with fail
        refine (l2Code_read 2 _ _ _ _ _ rfl rfl).mono ?_
        rintro e w' ⟨rfl, hx⟩
        have c1 := hx.cell (a := ⟨w.heap.size, 3, none⟩) (v := .int .i64 0) (by go_simp)
        have c2 := hx.cell (a := ⟨w.heap.size, 4, none⟩) (v := .int .i64 0) (by go_simp)
        go_wp2
        go_ret
        exact ⟨rfl, Ext.trans (Ext.alloc (Ext.refl _) _) hx⟩
    · have e2 : (a == 0) = false := by simp [ha]
      subst ht
      cases hc : (codeR i f == 0) with
      | false =>
        go_enter Try.func81, Try.ntmps81
        go_wp2_with fail
        refine (l2Code_read 2 _ _ _ _ _ rfl rfl).mono ?_
        rintro e w' ⟨rfl, hx⟩
        go_wp2
        go_ret
        exact ⟨rfl, Ext.trans (Ext.alloc (Ext.refl _) _) hx⟩
      | true =>
        go_enter Try.func81, Try.ntmps81
        go_wp2_with fail
        refine (l2Code_read 2 _ _ _ _ _ rfl rfl).mono ?_
        rintro e w' ⟨rfl, hx⟩
        have c1 := hx.cell (a := ⟨w.heap.size, 3, none⟩) (v := .int .i64 0) (by go_simp)
        have c2 := hx.cell (a := ⟨w.heap.size, 4, none⟩) (v := .int .i64 a) (by go_simp)
        go_wp2
        go_ret
        exact ⟨by rw [e2]; rfl, Ext.trans (Ext.alloc (Ext.refl _) _) hx⟩
  · have e1 : (t == 0) = false := by simp [ht]
    cases hc : (codeR i f == 0) with
    | false =>
      go_enter Try.func81, Try.ntmps81
      go_wp2_with fail
      refine (l2Code_read 2 _ _ _ _ _ rfl rfl).mono ?_
      rintro e w' ⟨rfl, hx⟩
      go_wp2
      go_ret
      exact ⟨rfl, Ext.trans (Ext.alloc (Ext.refl _) _) hx⟩
    | true =>
      go_enter Try.func81, Try.ntmps81
      go_wp2_with fail
      refine (l2Code_read 2 _ _ _ _ _ rfl rfl).mono ?_
      rintro e w' ⟨rfl, hx⟩
      have c1 := hx.cell (a := ⟨w.heap.size, 3, none⟩) (v := .int .i64 t) (by go_simp)
      go_wp2
      go_ret
      exact ⟨by rw [e1]; rfl, Ext.trans (Ext.alloc (Ext.refl _) _) hx⟩

set_option maxHeartbeats 1000000 in
theorem specGood_else (k i f t a : Int) (w : World) (h0 : (k == 0) = false) (h1 : (k == 1) = false) (h2 : (k == 2) = false) :
    Calls Try.prog 81 #[.agg #[.int .i64 k, .int .i64 i, .int .i64 f, .int .i64 t, .int .i64 a]] w (BoolExt false w) := by
  go_enter Try.func81, Try.ntmps81
  go_wp2
  go_ret
  exact ⟨rfl, by repeat (first | assumption | exact Ext.refl _ | apply Ext.drew | apply Ext.alloc)⟩

theorem specGood_any (k i f t a : Int) (w : World) :
    Calls Try.prog 81 #[.agg #[.int .i64 k, .int .i64 i, .int .i64 f, .int .i64 t, .int .i64 a]] w (BoolExt (goodB k i f t a) w) := by
  by_cases h0 : k = 0
  · subst h0; exact specGood_0 i f t a w
  · by_cases h1 : k = 1
    · subst h1; exact specGood_1 i f t a w
    · by_cases h2 : k = 2
      · subst h2; exact specGood_2 i f t a w
      · have g0 : (k == 0) = false := by simp [h0]
        have g1 : (k == 1) = false := by simp [h1]
        have g2 : (k == 2) = false := by simp [h2]
        rw [goodB_else i f t a g0 g1 g2]
        exact specGood_else k i f t a w g0 g1 g2

set_option maxHeartbeats 1000000 in
theorem implGood_0 (i f t a : Int) (w : World) :
    Calls Try.prog 106 #[.agg #[.int .i64 0, .int .i64 i, .int .i64 f, .int .i64 t, .int .i64 a]] w (BoolExt (zeroB i f t a) w) := by
  unfold zeroB
  go_enter Try.func106, Try.ntmps106
  go_wp2
  all_goals go_ret
  all_goals refine ⟨?_, by repeat (first | assumption | exact Ext.refl _ | apply Ext.drew | apply Ext.alloc)⟩
  all_goals first | rfl | simp [*]

set_option maxHeartbeats 1000000 in
theorem implGood_1 (i f t a : Int) (w : World) :
    Calls Try.prog 106 #[.agg #[.int .i64 1, .int .i64 i, .int .i64 f, .int .i64 t, .int .i64 a]] w (BoolExt (codeM i f t a == 0) w) := by
  go_enter Try.func106, Try.ntmps106
  go_wp2_with fail
  refine (faultOfCmd_move _ _ _ _ _).mono ?_
  rintro e w' ⟨rfl, hx⟩
  go_wp2
  go_ret
  exact ⟨rfl, Ext.trans (Ext.alloc (Ext.refl _) _) hx⟩

set_option maxHeartbeats 1000000 in
theorem implGood_2 (i f t a : Int) (w : World) :
    Calls Try.prog 106 #[.agg #[.int .i64 2, .int .i64 i, .int .i64 f, .int .i64 t, .int .i64 a]] w (BoolExt ((codeR i f == 0 && t == 0) && a == 0) w) := by
  by_cases ht : t = 0
  · by_cases ha : a = 0
    · subst ht; subst ha
      go_enter Try.func106, Try.ntmps106
      go_wp2_with fail
      refine (faultOfCmd_read 2 _ _ _ _ _ rfl rfl).mono ?_
      rintro e w' ⟨rfl, hx⟩
      go_wp2
      go_ret
      exact ⟨by simp, Ext.trans (Ext.alloc (Ext.refl _) _) hx⟩
    · have e2 : (a != 0) = true := by simp [ha]
      have e3 : (a == 0) = false := by simp [ha]
      subst ht
      go_enter Try.func106, Try.ntmps106
      go_wp2
      go_ret
      exact ⟨by simp [ha], by repeat (first | assumption | exact Ext.refl _ | apply Ext.drew | apply Ext.alloc)⟩
  · have e1 : (t != 0) = true := by simp [ht]
    go_enter Try.func106, Try.ntmps106
    go_wp2
    go_ret
    exact ⟨by simp [ht], by repeat (first | assumption | exact Ext.refl _ | apply Ext.drew | apply Ext.alloc)⟩

set_option maxHeartbeats 1000000 in
theorem implGood_else (k i f t a : Int) (w : World) (h0 : (k == 0) = false) (h1 : (k == 1) = false) (h2 : (k == 2) = false) :
    Calls Try.prog 106 #[.agg #[.int .i64 k, .int .i64 i, .int .i64 f, .int .i64 t, .int .i64 a]] w (BoolExt false w) := by
  go_enter Try.func106, Try.ntmps106
  go_wp2
  go_ret
  exact ⟨rfl, by repeat (first | assumption | exact Ext.refl _ | apply Ext.drew | apply Ext.alloc)⟩

theorem implGood_any (k i f t a : Int) (w : World) :
    Calls Try.prog 106 #[.agg #[.int .i64 k, .int .i64 i, .int .i64 f, .int .i64 t, .int .i64 a]] w (BoolExt (goodB k i f t a) w) := by
  by_cases h0 : k = 0
  · subst h0; exact implGood_0 i f t a w
  · by_cases h1 : k = 1
    · subst h1; exact implGood_1 i f t a w
    · by_cases h2 : k = 2
      · subst h2; exact implGood_2 i f t a w
      · have g0 : (k == 0) = false := by simp [h0]
        have g1 : (k == 1) = false := by simp [h1]
        have g2 : (k == 2) = false := by simp [h2]
        rw [goodB_else i f t a g0 g1 g2]
        exact implGood_else k i f t a w g0 g1 g2

end Go.Proofs.Ytjkmhphnefpdoaa

namespace Go.Proofs.Ytjkmhphnefpdoaa
open Go.RowKit

def isGrp (n : Int) : Bool := n == 3 || n == 5
theorem isGrp_of {n : Int} (h : isGrp n = true) : n = 3 ∨ n = 5 := by simpa [isGrp] using h
theorem isGrp_no {n : Int} (h : isGrp n = false) : (n == 3) = false ∧ (n == 5) = false := by simpa [isGrp] using h

theorem specIsGroup_any (n : Int) (w : World) : Calls Try.prog 63 #[.int .i64 n] w (fun e w' => e = .returned (.bool (isGrp n)) ∧ w = w') := by
  cases h : isGrp n with
  | true =>
    rcases isGrp_of h with rfl | rfl
    all_goals
      clear h
      go_enter Try.func63, Try.ntmps63
      go_wp2
      go_ret
      exact ⟨rfl, rfl⟩
  | false =>
    obtain ⟨h3, h5⟩ := isGrp_no h
    clear h
    go_enter Try.func63, Try.ntmps63
    go_wp2
    go_ret
    exact ⟨rfl, rfl⟩
theorem implIsGroup_any (n : Int) (w : World) : Calls Try.prog 65 #[.int .i64 n] w (fun e w' => e = .returned (.bool (isGrp n)) ∧ w = w') := by
  cases h : isGrp n with
  | true =>
    rcases isGrp_of h with rfl | rfl
    all_goals
      clear h
      go_enter Try.func65, Try.ntmps65
      go_wp2
      go_ret
      exact ⟨rfl, rfl⟩
  | false =>
    obtain ⟨h3, h5⟩ := isGrp_no h
    clear h
    go_enter Try.func65, Try.ntmps65
    go_wp2
    go_ret
    exact ⟨rfl, rfl⟩

end Go.Proofs.Ytjkmhphnefpdoaa

namespace Go.Proofs.Ytjkmhphnefpdoaa
open Go.RowKit

set_option maxHeartbeats 400000 in
theorem l1All_any (v : Value) (l : List Int) (lo hi : Int) (w : World) (hv : Ints w v l) :
    Calls Try.prog 114 #[v, .int .i64 lo, .int .i64 hi] w (BoolExt (allIn l lo hi) w) := by
  obtain ⟨av, cv, rfl, hlv, _, hcv⟩ := hv
  unfold maxLen at hlv
  go_enter Try.func114, Try.ntmps114
  go_wp2
  go_loopw [8, 11] (fun _ i wr => ∃ k : Nat, k ≤ l.length ∧ i = .int .i64 k ∧ (l.take k).all (fun x => inB x lo hi) = true ∧ Ext w wr) (fun _ i _ => l.length - (intOf i).toNat)
  case atStart => exact ⟨0, Nat.zero_le _, rfl, by simp, Ext.refl _⟩
  case round =>
    obtain ⟨k, hk, rfl, ht, hx⟩ := hrel
    have HT := Lib.hid ht
    clear ht
    by_cases hlt : k < l.length
    · obtain ⟨bv, ov, rfl, dv⟩ := hcv (by omega)
      have gv := hx.cell (dv k hlt)
      clear hcv dv
      cases hp : inB l[k] lo hi with
      | true =>
        go_wp2_with (go_at_call 34; refine (l1In_any _ _ _ _).mono ?_; rintro e w' ⟨rfl, rfl⟩)
        go_roundw
        case rel => exact ⟨k + 1, by omega, by go_num, all_take_succ hlt _ HT.out (by simpa [hlt] using hp), hx⟩
        case measure => simp [intOf]; omega
      | false =>
        go_wp2_with (go_at_call 34; refine (l1In_any _ _ _ _).mono ?_; rintro e w' ⟨rfl, rfl⟩)
        go_ret
        refine ⟨?_, hx⟩
        have hf : allIn l lo hi = false := all_false_at hlt _ (by simpa [hlt] using hp)
        rw [hf]; rfl
    · obtain rfl : k = l.length := by omega
      go_wp2
      go_ret
      refine ⟨?_, hx⟩
      have hf : allIn l lo hi = true := by have h := HT.out; rwa [List.take_length] at h
      rw [hf]; rfl


end Go.Proofs.Ytjkmhphnefpdoaa

namespace Go.Proofs.Ytjkmhphnefpdoaa
open Go.RowKit
set_option linter.unusedVariables false

/-- Whether the numbers fit a group of n. -/
def goodD (n s : Int) (l : List Int) : Bool := inB s 0 999 && decide ((l.length : Int) = n) && allIn l 0 6
def goodA (n s : Int) (l : List Int) : Bool := isGrp n && goodD n s l
theorem goodD_s {n s : Int} {l : List Int} (h : inB s 0 999 = false) : goodD n s l = false := by unfold goodD; rw [h]; rfl
theorem goodD_l {n s : Int} {l : List Int} (h : (l.length : Int) ≠ n) : goodD n s l = false := by unfold goodD; rw [decide_eq_false h, Bool.and_false, Bool.false_and]
theorem goodD_a {n s : Int} {l : List Int} (h : inB s 0 999 = true) (hl : (l.length : Int) = n) : goodD n s l = allIn l 0 6 := by unfold goodD; rw [h, decide_eq_true hl]; rfl
theorem goodD_of {n s : Int} {l : List Int} (h : goodD n s l = true) : inB s 0 999 = true ∧ (l.length : Int) = n ∧ allIn l 0 6 = true := by
  unfold goodD at h
  simp only [Bool.and_eq_true, decide_eq_true_eq] at h
  exact ⟨h.1.1, h.1.2, h.2⟩

set_option maxHeartbeats 1000000 in
theorem l3Attr_any (n s : Int) (u : Value) (l : List Int) (w : World) (hv : Ints w u l) :
    Calls Try.prog 80 #[.int .i64 n, .agg #[.int .i64 s, u]] w (BoolExt (goodD n s l) w) := by
  obtain ⟨au, cu, rfl, hlu, hcap, hcu⟩ := hv
  have HV : Hid (Ints w (.slice au l.length cu) l) := Lib.hid ⟨au, cu, rfl, hlu, hcap, hcu⟩
  clear hlu hcap hcu
  cases hp : inB s 0 999 with
  | false =>
    have HG := Lib.hid (goodD_s (n := n) (l := l) hp)
    have HP := Lib.hid hp
    clear hp
    go_enter Try.func80, Try.ntmps80
    go_wp2_with fail
    refine (l1In_any _ _ _ _).mono ?_
    rintro e w' ⟨rfl, rfl⟩
    rw [HP.out]
    go_wp2
    go_ret
    exact ⟨by rw [HG.out]; rfl, Ext.alloc (Ext.refl _) _⟩
  | true =>
    by_cases hl : (l.length : Int) = n
    · have HG := Lib.hid (goodD_a (n := n) hp hl)
      have HP := Lib.hid hp
      have e0 : ((l.length : Int) == n) = true := by simp [hl]
      clear hp hl
      rw [HG.out]
      go_enter Try.func80, Try.ntmps80
      go_wp2_with fail
      refine (l1In_any _ _ _ _).mono ?_
      rintro e w' ⟨rfl, rfl⟩
      rw [HP.out]
      go_wp2_with fail
      refine (l1All_any _ _ _ _ _ (HV.out.ext (Ext.alloc (Ext.refl _) _))).mono ?_
      rintro e w1 ⟨rfl, x1⟩
      have hx : Ext w w1 := (Ext.alloc (Ext.refl _) _).trans x1
      clear x1
      cases hA : allIn l 0 6
      all_goals
        have HA := Lib.hid hA
        clear hA
        go_wp2
        go_ret
        exact ⟨by rw [HA.out]; rfl, hx⟩
    · have HG := Lib.hid (goodD_l (s := s) hl)
      have HP := Lib.hid hp
      have e0 : ((l.length : Int) == n) = false := by simp [hl]
      clear hp hl
      go_enter Try.func80, Try.ntmps80
      go_wp2_with fail
      refine (l1In_any _ _ _ _).mono ?_
      rintro e w' ⟨rfl, rfl⟩
      rw [HP.out]
      go_wp2
      go_ret
      exact ⟨by rw [HG.out]; rfl, Ext.alloc (Ext.refl _) _⟩

theorem goodA_no {n s : Int} {l : List Int} (h : isGrp n = false) : goodA n s l = false := by unfold goodA; rw [h]; rfl
theorem goodA_d {n s : Int} {l : List Int} (h : goodD n s l = false) : goodA n s l = false := by unfold goodA; rw [h, Bool.and_false]
theorem goodA_of {n s : Int} {l : List Int} (h : goodA n s l = true) : isGrp n = true ∧ goodD n s l = true := by unfold goodA at h; simpa using h

set_option maxHeartbeats 1000000 in
/-- The program's function where the loop is not come to. -/
theorem implGoodAttr_early (n s : Int) (u : Value) (l : List Int) (w : World) (hv : Ints w u l) (h : isGrp n = false ∨ (l.length : Int) ≠ n ∨ s < 0 ∨ 999 < s) :
    Calls Try.prog 107 #[.int .i64 n, .agg #[.int .i64 s, u]] w (BoolExt false w) := by
  obtain ⟨au, cu, rfl, hlu, hcap, hcu⟩ := hv
  clear hlu hcap hcu
  cases hg : isGrp n with
  | false =>
    have HG := Lib.hid hg
    clear hg h
    go_enter Try.func107, Try.ntmps107
    go_wp2_with fail
    refine (implIsGroup_any _ _).mono ?_
    rintro e w' ⟨rfl, rfl⟩
    rw [HG.out]
    go_wp2
    go_ret
    exact ⟨rfl, Ext.alloc (Ext.refl _) _⟩
  | true =>
    have h' : (l.length : Int) ≠ n ∨ s < 0 ∨ 999 < s := by
      rcases h with h | h
      · rw [hg] at h; cases h
      · exact h
    clear h
    have HG := Lib.hid hg
    clear hg
    by_cases hl : (l.length : Int) = n
    · have h2 : s < 0 ∨ 999 < s := by
        rcases h' with h | h
        · exact absurd hl h
        · exact h
      have e0 : ((l.length : Int) != n) = false := by simp [hl]
      clear h' hl
      by_cases hs : s < 0
      · clear h2
        go_enter Try.func107, Try.ntmps107
        go_wp2_with fail
        refine (implIsGroup_any _ _).mono ?_
        rintro e w' ⟨rfl, rfl⟩
        rw [HG.out]
        go_wp2
        go_ret
        exact ⟨rfl, Ext.alloc (Ext.refl _) _⟩
      · have h0 : 0 ≤ s := by omega
        have h1 : 999 < s := by omega
        clear h2 hs
        go_enter Try.func107, Try.ntmps107
        go_wp2_with fail
        refine (implIsGroup_any _ _).mono ?_
        rintro e w' ⟨rfl, rfl⟩
        rw [HG.out]
        go_wp2
        go_ret
        exact ⟨rfl, Ext.alloc (Ext.refl _) _⟩
    · have e0 : ((l.length : Int) != n) = true := by simp [hl]
      clear h' hl
      go_enter Try.func107, Try.ntmps107
      go_wp2_with fail
      refine (implIsGroup_any _ _).mono ?_
      rintro e w' ⟨rfl, rfl⟩
      rw [HG.out]
      go_wp2
      go_ret
      exact ⟨rfl, Ext.alloc (Ext.refl _) _⟩

set_option maxHeartbeats 1000000 in
/-- The program's function where the loop is come to. -/
theorem implGoodAttr_loop (n s : Int) (u : Value) (l : List Int) (w : World) (hv : Ints w u l) (hg : isGrp n = true) (hl : (l.length : Int) = n) (h0 : 0 ≤ s) (h1 : s ≤ 999) :
    Calls Try.prog 107 #[.int .i64 n, .agg #[.int .i64 s, u]] w (BoolExt (allIn l 0 6) w) := by
  obtain ⟨au, cu, rfl, hlu, hcap, hcu⟩ := hv
  have hlen : l.length ≤ 5 := by rcases isGrp_of hg with h | h <;> omega
  have HG := Lib.hid hg
  have e0 : ((l.length : Int) != n) = false := by simp [hl]
  have e1 : (s < 0) = False := by simp; omega
  clear hlu hcap hg hl e1
  go_enter Try.func107, Try.ntmps107
  go_wp2_with fail
  refine (implIsGroup_any _ _).mono ?_
  rintro e w' ⟨rfl, rfl⟩
  rw [HG.out]
  go_wp2
  go_loopw [6, 30] (fun _ i wr => ∃ k : Nat, k ≤ l.length ∧ i = .int .i64 k ∧ Hid ((l.take k).all (fun x => inB x 0 6) = true) ∧ Ext w wr) (fun _ i _ => l.length - (intOf i).toNat)
  case atStart => exact ⟨0, Nat.zero_le _, rfl, Lib.hid (by simp), Ext.alloc (Ext.refl _) _⟩
  case round =>
    obtain ⟨k, hk, rfl, HT, hx⟩ := hrel
    by_cases hlt : k < l.length
    · obtain ⟨bv, ov, rfl, dv⟩ := hcu (by omega)
      have gv := hx.cell (dv k hlt)
      rw [List.getElem?_eq_getElem hlt, Option.getD_some] at gv
      obtain ⟨y, hy⟩ : ∃ y : Int, y = l[k] := ⟨_, rfl⟩
      rw [← hy] at gv
      have HY := Lib.hid hy
      clear hcu dv hy
      by_cases ha : y < 0
      · go_wp2
        go_ret
        refine ⟨?_, hx⟩
        have hf : allIn l 0 6 = false := all_false_at hlt _ (by rw [List.getElem?_eq_getElem hlt, Option.getD_some, ← HY.out]; exact inB_no (by omega))
        rw [hf]; rfl
      · have ha' : 0 ≤ y := by omega
        clear ha
        by_cases hb : 6 < y
        · go_wp2
          go_ret
          refine ⟨?_, hx⟩
          have hf : allIn l 0 6 = false := all_false_at hlt _ (by rw [List.getElem?_eq_getElem hlt, Option.getD_some, ← HY.out]; exact inB_no (by omega))
          rw [hf]; rfl
        · have hb' : y ≤ 6 := by omega
          clear hb
          go_wp2
          go_roundw
          case rel => exact ⟨k + 1, by omega, by go_num, Lib.hid (all_take_succ hlt _ HT.out (by rw [List.getElem?_eq_getElem hlt, Option.getD_some, ← HY.out]; exact inB_yes ha' hb')), hx⟩
          case measure => simp [intOf]; omega
    · obtain rfl : k = l.length := by omega
      go_wp2
      go_ret
      refine ⟨?_, hx⟩
      have hf : allIn l 0 6 = true := by have h := HT.out; rwa [List.take_length] at h
      rw [hf]; rfl

theorem implGoodAttr_any (n s : Int) (u : Value) (l : List Int) (w : World) (hv : Ints w u l) :
    Calls Try.prog 107 #[.int .i64 n, .agg #[.int .i64 s, u]] w (BoolExt (goodA n s l) w) := by
  by_cases h : isGrp n = false ∨ (l.length : Int) ≠ n ∨ s < 0 ∨ 999 < s
  · have e : goodA n s l = false := by
      rcases h with h | h | h
      · exact goodA_no h
      · exact goodA_d (goodD_l h)
      · exact goodA_d (goodD_s (inB_no (by omega)))
    rw [e]
    exact implGoodAttr_early n s u l w hv h
  · have hg : isGrp n = true := by
      cases hh : isGrp n with
      | true => rfl
      | false => exact absurd (Or.inl hh) h
    have hl : (l.length : Int) = n := Classical.byContradiction fun hh => h (.inr (.inl hh))
    have h0 : 0 ≤ s := by
      by_cases hh : s < 0
      · exact absurd (.inr (.inr (.inl hh))) h
      · omega
    have h1 : s ≤ 999 := by
      by_cases hh : 999 < s
      · exact absurd (.inr (.inr (.inr hh))) h
      · omega
    have e : goodA n s l = allIn l 0 6 := by unfold goodA; rw [hg, goodD_a (inB_yes h0 h1) hl]; rfl
    rw [e]
    exact implGoodAttr_loop n s u l w hv hg hl h0 h1

end Go.Proofs.Ytjkmhphnefpdoaa

namespace Go.Proofs.Ytjkmhphnefpdoaa
open Go.RowKit
set_option linter.unusedVariables false

/-- The number at a place, 0 behind the end. -/
def at0 (l : List Int) (j : Nat) : Int := l[j]?.getD 0
/-- The first five numbers. -/
def five (l : List Int) : Array Value := #[.int .i64 (at0 l 0), .int .i64 (at0 l 1), .int .i64 (at0 l 2), .int .i64 (at0 l 3), .int .i64 (at0 l 4)]
def FiveExt (l : List Int) (w : World) (e : Ending) (w' : World) : Prop := e = .returned (.agg (five l)) ∧ Ext w w'

theorem splice_five (l : List Int) : splice [Value.int .i64 0, .int .i64 0, .int .i64 0, .int .i64 0, .int .i64 0] 0 ((l.map (Value.int .i64)).take 5) = (five l).toList := by
  match l with
  | [] => rfl
  | [a] => rfl
  | [a, b] => rfl
  | [a, b, c] => rfl
  | [a, b, c, d] => rfl
  | a :: b :: c :: d :: e :: r => simp [splice, five, at0]

theorem setc_heap (w : World) (b o : Nat) (v : Value) (k : Nat) (h : k ≠ b) : (w.setCell ⟨b, o, none⟩ v).heap[k]? = w.heap[k]? := Below.heap_setCell _ _ _ k h

set_option maxRecDepth 100000 in
set_option maxHeartbeats 1000000 in
theorem depsIn_any (u : Value) (l : List Int) (w : World) (hv : Ints w u l) :
    Calls Try.prog 119 #[u] w (FiveExt l w) := by
  obtain ⟨au, cu, rfl, hlu, hcap, hcu⟩ := hv
  have hlu' : l.length ≤ 9223372036854775807 := by unfold maxLen at hlu; exact hlu
  have HCU := Lib.hid hcu
  have hcap1 : l.length ≤ cu := hcap.1
  clear hlu hcap hcu
  have hz0 : (w.alloc (.cells #[.int .i64 0, .int .i64 0, .int .i64 0, .int .i64 0, .int .i64 0] 148)).heap.size = w.heap.size + 1 := by simp
  have HZ := Lib.hid hz0
  clear hz0
  go_enter Try.func119, Try.ntmps119
  go_wp2_with (with_reducible refine wpList_copy_splice rfl _ _ 44 44 rfl 3 Try.underlying44 rfl _ _ 5 5 l.length cu rfl rfl (w.heap.size + 1) 0 [Value.int .i64 0, .int .i64 0, .int .i64 0, .int .i64 0, .int .i64 0] 148 ?c1 ((l.take 5).map (Value.int .i64)) ?c2 ?c3 ?c4 ?c5 (w.heap.size + 1) (w.alloc (.cells #[.int .i64 0, .int .i64 0, .int .i64 0, .int .i64 0, .int .i64 0] 148)) ?c6 (Nat.le_refl _) ?_)
  case c1 =>
    have h := heap_alloc_new (w.alloc (.cells #[.int .i64 0, .int .i64 0, .int .i64 0, .int .i64 0, .int .i64 0] 148)) (.cells #[.int .i64 0, .int .i64 0, .int .i64 0, .int .i64 0, .int .i64 0] 148)
    rw [HZ.out] at h
    exact h
  case c2 =>
    rw [List.length_map, List.length_take]
    exact Nat.min_comm _ _
  case c3 =>
    intro hp
    have hp' : 0 < l.length := by
      omega
    obtain ⟨b, off, rfl, hc⟩ := HCU.out hp'
    refine ⟨_, rfl, fun j z hj => ?_⟩
    have hj5 : j < l.length := by
      have := (List.getElem?_eq_some_iff.1 hj).1
      simp at this; omega
    have hx := (Ext.alloc (Ext.alloc (Ext.refl w) (.cells #[.int .i64 0, .int .i64 0, .int .i64 0, .int .i64 0, .int .i64 0] 148)) (.cells #[.int .i64 0, .int .i64 0, .int .i64 0, .int .i64 0, .int .i64 0] 148)).cell (hc j hj5)
    rw [show (⟨b, off, none⟩ : Addr).add j = ⟨b, off + j, none⟩ by simp [Addr.add], hx]
    have hj' : j < ((l.map (Value.int .i64)).take 5).length := (List.getElem?_eq_some_iff.1 hj).1
    rw [List.getElem?_eq_getElem hj'] at hj
    rw [← hj]
    simp [List.getElem?_eq_getElem hj5]
  case c4 =>
    rw [List.length_map, List.length_take]
    simp; omega
  case c5 =>
    intro z hz
    obtain ⟨q, _, rfl⟩ := List.mem_map.1 hz
    rfl
  case c6 => exact (Below.refl _ _).alloc (by rw [HZ.out]; exact Nat.le_refl _) _
  intro w' HG hb
  have hg := HG.out
  rw [splice_five] at hg
  have hcells : ∀ j, w'.cell? ⟨w.heap.size + 1, j, none⟩ = (five l)[j]? := fun j => by rw [cell_of_row w' _ j _ _ _ hg]
  have hx : Ext w w' := (Ext.alloc (Ext.refl w) _).trans (by
    show Below _ _ _
    rw [HZ.out]; exact hb)
  have d0 : w'.cell? ⟨w.heap.size + 1, 0, none⟩ = some (.int .i64 (at0 l 0)) := hcells 0
  have d1 : w'.cell? ⟨w.heap.size + 1, 1, none⟩ = some (.int .i64 (at0 l 1)) := hcells 1
  have d2 : w'.cell? ⟨w.heap.size + 1, 2, none⟩ = some (.int .i64 (at0 l 2)) := hcells 2
  have d3 : w'.cell? ⟨w.heap.size + 1, 3, none⟩ = some (.int .i64 (at0 l 3)) := hcells 3
  have d4 : w'.cell? ⟨w.heap.size + 1, 4, none⟩ = some (.int .i64 (at0 l 4)) := hcells 4
  have hlow : ∀ j, w'.cell? ⟨w.heap.size, j, none⟩ = (w.alloc (.cells #[.int .i64 0, .int .i64 0, .int .i64 0, .int .i64 0, .int .i64 0] 148)).cell? ⟨w.heap.size, j, none⟩ := fun j => hb.cell (p := ⟨w.heap.size, j, none⟩) (Nat.lt_succ_self _)
  have hfro : ∀ j, w'.frozen? ⟨w.heap.size, j, none⟩ = (w.alloc (.cells #[.int .i64 0, .int .i64 0, .int .i64 0, .int .i64 0, .int .i64 0] 148)).frozen? ⟨w.heap.size, j, none⟩ := fun j => hb.frozen (p := ⟨w.heap.size, j, none⟩) (Nat.lt_succ_self _)
  have c0 : w'.cell? ⟨w.heap.size, 0, none⟩ = some (.int .i64 0) := (hlow 0).trans (by go_simp)
  have c1 : w'.cell? ⟨w.heap.size, 1, none⟩ = some (.int .i64 0) := (hlow 1).trans (by go_simp)
  have c2 : w'.cell? ⟨w.heap.size, 2, none⟩ = some (.int .i64 0) := (hlow 2).trans (by go_simp)
  have c3 : w'.cell? ⟨w.heap.size, 3, none⟩ = some (.int .i64 0) := (hlow 3).trans (by go_simp)
  have c4 : w'.cell? ⟨w.heap.size, 4, none⟩ = some (.int .i64 0) := (hlow 4).trans (by go_simp)
  have f0 : w'.frozen? ⟨w.heap.size, 0, none⟩ = false := (hfro 0).trans (by go_simp)
  have f1 : w'.frozen? ⟨w.heap.size, 1, none⟩ = false := (hfro 1).trans (by go_simp)
  have f2 : w'.frozen? ⟨w.heap.size, 2, none⟩ = false := (hfro 2).trans (by go_simp)
  have f3 : w'.frozen? ⟨w.heap.size, 3, none⟩ = false := (hfro 3).trans (by go_simp)
  have f4 : w'.frozen? ⟨w.heap.size, 4, none⟩ = false := (hfro 4).trans (by go_simp)
  clear hcells hlow hfro hb HG hg hlu' hcap1
  go_wp2
  refine bodyPost_ret (v := .agg (five l)) (by simp [results, Try.results119, go_sem, c0, c1, c2, c3, c4, five]) rfl ⟨rfl, ?_⟩
  exact ((((hx.setc (Nat.le_refl _)).setc (Nat.le_refl _)).setc (Nat.le_refl _)).setc (Nat.le_refl _)).setc (Nat.le_refl _)

end Go.Proofs.Ytjkmhphnefpdoaa
