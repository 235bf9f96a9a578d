/- Contract of the program's readNumber and readNumbers at numbers of at most three digits. -/
import Derived.Test.YtfadmcgaojnghaaDoorReadNum
namespace Go.Proofs.YtfadmcgaojnghaaDoor
open Go.RowKit
set_option linter.unusedVariables false

/-- A number, where a text is one of at most three digits. -/
def isNumT (l : List UInt8) : Bool := decide (l.length ≤ 3) && decide (0 ≤ readL l)
def numValT (l : List UInt8) : Int := if isNumT l then readL l else 0
theorem isNumT_yes {l : List UInt8} (h : isNumT l = true) : l.length ≤ 3 ∧ 0 ≤ readL l := by simpa [isNumT] using h
theorem isNumT_of {l : List UInt8} {m : Int} (hl : l.length ≤ 3) (h0 : 0 ≤ m) (hd : decI m = l) : isNumT l = true ∧ numValT l = m := by
  have hr : readL l = m := by
    have := dec_readL m.toNat (by unfold decI at hd; rw [hd]; omega)
    unfold decI at hd
    rw [hd] at this
    omega
  have hi : isNumT l = true := by simp [isNumT, hl, hr, h0]
  exact ⟨hi, by unfold numValT; rw [hi]; exact hr⟩
theorem isNumT_no {l : List UInt8} (h : isNumT l = false) : numValT l = 0 := by unfold numValT; rw [h]; rfl
/-- Where a text is no number, what Atoi reads of it has another text. -/
theorem notNumT {l : List UInt8} (hl : l.length ≤ 3) (h : isNumT l = false) : Lib.atoi l = none ∨ ∃ m, Lib.atoi l = some m ∧ (m < 0 ∨ 0 ≤ m ∧ decI m ≠ l) := by
  cases ha : Lib.atoi l with
  | none => exact .inl rfl
  | some m =>
    refine .inr ⟨m, rfl, ?_⟩
    by_cases h0 : 0 ≤ m
    · refine .inr ⟨h0, fun hd => ?_⟩
      rw [(isNumT_of hl h0 hd).1] at h
      cases h
    · left; omega
theorem yesNumT {l : List UInt8} (h : isNumT l = true) : ∃ m, Lib.atoi l = some m ∧ 0 ≤ m ∧ decI m = l ∧ numValT l = m := by
  obtain ⟨hl, hr⟩ := isNumT_yes h
  have hd := readL_dec hr
  have ha := atoi_dec (readL l).toNat
  rw [hd] at ha
  refine ⟨((readL l).toNat : Int), ha, by omega, by unfold decI; rw [Int.toNat_natCast]; exact hd, ?_⟩
  unfold numValT; rw [h, if_pos rfl]; omega

set_option maxRecDepth 100000 in
set_option maxHeartbeats 1000000 in
theorem readNumberT_any (s : ByteArray) (w : World) (hs : s.size ≤ 1048576) (hp : Pow w) (he : ErrAt w) :
    Calls Tryd.prog 60 #[.string s, .int .i64 3] w (IntB (numValT s.data.toList) (isNumT s.data.toList) w) := by
  have hlen : s.data.toList.length = s.size := Array.length_toList
  by_cases h4 : s.size ≤ 3
  · cases hn : isNumT s.data.toList with
    | true =>
      obtain ⟨m, ha, h0, hd, hv⟩ := yesNumT hn
      rw [hv]
      have hb := atoi_bound ha (by omega)
      have hm1 := hb.2
      have cA := atoi_yes s m (by omega) ha
      have cI := itoa_any m h0 hm1
      have CA := Lib.hid cA
      have CI := Lib.hid cI
      have HP := Lib.hid hp
      have hse : (⟨(decI m).toArray⟩ : ByteArray) = s := by rw [hd]
      have HSE := Lib.hid hse
      clear hn ha hd hv hb cA cI hp he hlen hse
      go_enter Tryd.func60, Tryd.ntmps60
      go_wp2_with fail
      refine (CA.out _).mono ?_
      rintro e w1 ⟨rfl, x1⟩
      go_wp2_with fail
      refine (CI.out _ (HP.out.ext x1)).mono ?_
      rintro e w2 ⟨rfl, x2⟩
      rw [HSE.out]
      go_wp2
      go_ret2
      exact ⟨rfl, x1.trans x2⟩
    | false =>
      rw [isNumT_no hn]
      rcases notNumT (by omega) hn with ha | ⟨m, ha, hm | ⟨h0, hd⟩⟩
      · have cA := atoi_no s (by omega) ha w he
        have CA := Lib.hid cA
        clear hn ha cA hp he hlen
        go_enter Tryd.func60, Tryd.ntmps60
        go_wp2_with fail
        refine CA.out.mono ?_
        rintro e w1 ⟨t, p, rfl, x1⟩
        go_wp2
        go_ret2
        exact ⟨rfl, x1⟩
      · have cA := atoi_yes s m (by omega) ha
        have CA := Lib.hid cA
        clear hn ha cA hp he hlen
        go_enter Tryd.func60, Tryd.ntmps60
        go_wp2_with fail
        refine (CA.out _).mono ?_
        rintro e w1 ⟨rfl, x1⟩
        go_wp2
        go_ret2
        exact ⟨rfl, x1⟩
      · have hb := atoi_bound ha (by omega)
        have hm1 := hb.2
        have cA := atoi_yes s m (by omega) ha
        have cI := itoa_any m h0 hm1
        have CA := Lib.hid cA
        have CI := Lib.hid cI
        have HP := Lib.hid hp
        obtain ⟨q, hq⟩ : ∃ q, q = decI m := ⟨_, rfl⟩
        rw [← hq] at CI hd
        have hse : (q == s.toList) = false := by
          rw [beq_eq_false_iff_ne, Lib.toList_data]
          exact hd
        clear hn ha hd hb cA cI hp he hlen hq
        go_enter Tryd.func60, Tryd.ntmps60
        go_wp2_with fail
        refine (CA.out _).mono ?_
        rintro e w1 ⟨rfl, x1⟩
        go_wp2_with fail
        refine (CI.out _ (HP.out.ext x1)).mono ?_
        rintro e w2 ⟨rfl, x2⟩
        go_wp2
        go_ret2
        exact ⟨rfl, x1.trans x2⟩
  · have hn : isNumT s.data.toList = false := by
      unfold isNumT
      rw [hlen]
      simp [h4]
    rw [hn, isNumT_no hn]
    have h5 : (3 : Int) < (s.size : Int) := by omega
    clear hn hp he hlen h4
    go_enter Tryd.func60, Tryd.ntmps60
    go_wp2
    go_ret2
    exact ⟨rfl, Ext.refl _⟩

/-- The numbers of some words. -/
def numsWT (ws : List ByteArray) : List Int := ws.map fun s => numValT s.data.toList
def allNumT (ws : List ByteArray) : Bool := ws.all fun s => isNumT s.data.toList

set_option maxRecDepth 100000 in
set_option maxHeartbeats 1000000 in
theorem readNumbersT_any (v : Value) (ws : List ByteArray) (w : World) (hv : Strs w v ws) (hs : ∀ s ∈ ws, s.size ≤ 1048576) (hl : ws.length ≤ 1048576) (hp : Pow w) (he : ErrAt w) :
    Calls Tryd.prog 41 #[v, .int .i64 3] w (TwoInts (if allNumT ws then numsWT ws else []) (allNumT ws) w) := by
  obtain ⟨L, hL⟩ : ∃ L, L = (if allNumT ws then numsWT ws else []) := ⟨_, rfl⟩
  obtain ⟨A, hA⟩ : ∃ A, A = allNumT ws := ⟨_, rfl⟩
  rw [← hL, ← hA]
  have HL := Lib.hid hL
  have HA := Lib.hid hA
  obtain ⟨av, cv, rfl, hlv, hcap, hcv⟩ := hv
  have HS := Lib.hid hs
  have HP := Lib.hid hp
  have HE := Lib.hid he
  have HCAP := Lib.hid hcap
  clear hlv hs hp he hL hA hcap
  go_enter Tryd.func41, Tryd.ntmps41
  go_wp2
  go_loopw [6, 13] (fun z i wr => ∃ k : Nat, k ≤ ws.length ∧ i = .int .i64 k ∧ (ws.take k).all (fun s => isNumT s.data.toList) = true ∧ Fresh w.heap.size wr z (numsWT (ws.take k)) ∧ Ext w wr) (fun _ i _ => ws.length - (intOf i).toNat)
  case atStart => exact ⟨0, Nat.zero_le _, rfl, by simp, by simpa [numsWT] using fresh_nil _ _, Ext.refl _⟩
  case round =>
    obtain ⟨k, hk, rfl, ht, hf, hx⟩ := hrel
    have HT := Lib.hid ht
    clear ht
    by_cases hlt : k < ws.length
    · obtain ⟨bv, ov, rfl, dv⟩ := hcv (by omega)
      have gv := hx.cell (dv k hlt)
      have hsz := HS.out ws[k] (List.getElem_mem hlt)
      have hbnd : (numsWT (ws.take k)).length ≤ 1099511627776 := by simp [numsWT]; omega
      have HB := Lib.hid hbnd
      have HFR := Lib.hid hf
      clear hcv dv hbnd hf
      go_wp2_with fail
      refine (readNumberT_any _ _ hsz (HP.out.ext hx) (HE.out.ext hx)).mono ?_
      rintro e w2 ⟨rfl, x2⟩
      have hx2 : Ext w w2 := hx.trans x2
      cases hn : isNumT ws[k].data.toList with
      | false =>
        have ha : allNumT ws = false := by
          unfold allNumT
          rw [List.all_eq_false]
          exact ⟨ws[k], List.getElem_mem hlt, by rw [hn]; simp⟩
        have hA' : A = false := by rw [HA.out, ha]
        have hL' : L = [] := by rw [HL.out, ha]; rfl
        subst hA'
        subst hL'
        clear hn ha gv
        go_wp2
        go_ret2
        exact ⟨_, rfl, fresh_nil _ _, hx2⟩
      | true =>
        have ht2 : (ws.take (k + 1)).all (fun s => isNumT s.data.toList) = true := by
          rw [List.take_add_one, List.all_append, HT.out, List.getElem?_eq_getElem hlt]
          simpa using hn
        have hns : numsWT (ws.take (k + 1)) = numsWT (ws.take k) ++ [numValT ws[k].data.toList] := by
          unfold numsWT
          rw [List.take_add_one, List.map_append, List.getElem?_eq_getElem hlt]; rfl
        have HT2 := Lib.hid ht2
        have HNS := Lib.hid hns
        have hf2 := HFR.out.ext x2
        obtain ⟨y, hy⟩ : ∃ y, y = numValT ws[k].data.toList := ⟨_, rfl⟩
        rw [← hy] at HNS
        rw [← hy]
        clear hn ht2 hns gv x2 hy
        go_wp2_with (at_builtin; refine wpList_push rfl _ _ rfl w.heap.size _ (numsWT (ws.take k)) y rfl (hf2.ext (Ext.alloc (Ext.refl _) _)) ⟨w2.heap.size, 0, none⟩ 1 rfl (cell_alloc_one _ _ _) HB.out (size_alloc_le hx2.size) ?_)
        intro v3 w3 f3 g3 k3
        have hx3 : Ext w w3 := k3 w (hx2.alloc _) (Nat.le_refl _)
        rw [← HNS.out] at f3
        clear g3 k3 hf2 hx2
        go_wp2
        go_roundw
        case rel => exact ⟨k + 1, by omega, by go_num, HT2.out, f3, hx3⟩
        case measure => simp [intOf]; omega
    · obtain rfl : k = ws.length := by omega
      have htk : ws.take ws.length = ws := List.take_length
      have ha : allNumT ws = true := by have h := HT.out; rw [htk] at h; exact h
      have hA' : A = true := by rw [HA.out, ha]
      have hL' : L = numsWT ws := by rw [HL.out, ha]; rfl
      rw [htk] at hf
      subst hA'
      rw [← hL'] at hf
      clear hL' ha htk
      go_wp2
      go_ret2
      exact ⟨_, rfl, hf, hx⟩

end Go.Proofs.YtfadmcgaojnghaaDoor
