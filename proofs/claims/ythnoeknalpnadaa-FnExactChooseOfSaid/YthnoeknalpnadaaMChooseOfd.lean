/- Texts of this proof, part d: words, plain facts, contracts. -/
import Derived.Test.YthnoeknalpnadaaMChooseOfb
import Derived.Deep.RegionHeld3
import Derived.ChangeKeysEq
import Derived.Test.YthnoeknalpnadaaMChooseOfa
import Derived.Test.YthnoeknalpnadaaMChooseOfc

namespace Go.Proofs.Ythnoeknalpnadaa
open Go.RowKit
set_option linter.unusedVariables false

theorem ints_drop {w : World} {b off cap : Nat} {l : List Int} (k : Nat) (hk : k ≤ l.length) (hm : l.length ≤ 9223372036854775807) (hcap : l.length ≤ cap) (hcm : cap ≤ 9223372036854775807)
    (h : ∀ j, j < l.length → w.cell? ⟨b, off + j, none⟩ = some (.int .i64 (l[j]?.getD 0))) : Ints w (.slice (some ⟨b, off + k, none⟩) (l.length - k) (cap - k)) (l.drop k) := by
  refine ⟨some ⟨b, off + k, none⟩, cap - k, by rw [List.length_drop], by unfold maxLen; rw [List.length_drop]; omega, ⟨by rw [List.length_drop]; omega, by unfold maxLen; omega, fun h => by cases h⟩, fun _ => ⟨b, off + k, rfl, fun j hj => ?_⟩⟩
  rw [List.length_drop] at hj
  rw [Nat.add_assoc, h (k + j) (by omega), List.getElem?_drop]

/-- Whether the first five numbers are the same. -/
def sameFive (l r : List Int) : Bool := at0 l 0 == at0 r 0 && at0 l 1 == at0 r 1 && at0 l 2 == at0 r 2 && at0 l 3 == at0 r 3 && at0 l 4 == at0 r 4
theorem sameFive_take : ∀ (l r : List Int), l.length = r.length → (sameFive l r = true ↔ l.take 5 = r.take 5)
  | [], [], _ => by simp [sameFive]
  | [a], [b], _ => by simp [sameFive, at0]
  | [a, b], [c, d], _ => by simp [sameFive, at0]
  | [a, b, c], [d, e, f], _ => by simp [sameFive, at0, and_assoc]
  | [a, b, c, d], [e, f, g, h], _ => by simp [sameFive, at0, and_assoc]
  | a :: b :: c :: d :: e :: l, f :: g :: h :: i :: j :: r, _ => by simp [sameFive, at0, and_assoc]
theorem take_five {l r : List Int} (h : l.length = r.length) (m : Nat) (ht : l.take (5 * m) = r.take (5 * m)) (hs : sameFive (l.drop (5 * m)) (r.drop (5 * m)) = true) : l.take (5 * (m + 1)) = r.take (5 * (m + 1)) := by
  have h5 := (sameFive_take _ _ (by simp [h])).1 hs
  rw [show 5 * (m + 1) = 5 * m + 5 by omega, List.take_add, List.take_add, ht, h5]
theorem differ_five {l r : List Int} (hl : l.length = r.length) (m : Nat) (hs : sameFive (l.drop (5 * m)) (r.drop (5 * m)) = false) : l ≠ r := by
  intro e
  subst e
  have := (sameFive_take (l.drop (5 * m)) (l.drop (5 * m)) rfl).2 rfl
  rw [this] at hs
  cases hs

set_option maxHeartbeats 1000000 in
theorem eq_five (L R : List Int) (W : World) : (Op.equalIn 10000 178 (.agg (five L)) (.agg (five R))).run Try.prog W = .ok (sameFive L R) W := by
  obtain ⟨i0, hi, hz0, hz1, hz2⟩ := info_parts Try.infoInt
  have hc : Try.prog.cellsOf 3 = 1 := by kernel_rfl
  have hp : ∀ (xs : Array Value) (j : Nat) (x : Int) (W : World), xs[j]? = some (.int .i64 x) → (part 3 xs j).run Try.prog W = .ok (.int .i64 x) W := by
    intro xs j x W hx
    unfold part
    go_simp
  have hq : ∀ (a b : Int) (W : World), (Op.equalIn 9999 3 (.int .i64 a) (.int .i64 b)).run Try.prog W = .ok (a == b) W := fun a b W => run_equalIn_int W 9998 3 .i64 .i64 a b Try.underlying3
  rw [show (10000 : Nat) = 9999 + 1 from rfl, run_equalIn_array W 9999 _ _ Try.underlying178 hi, hc, show List.range 5 = [0, 1, 2, 3, 4] from rfl]
  simp only [Op.eqItems, Sem.run_bind]
  rw [hp _ _ (at0 L 0) _ rfl]
  simp only [Result.andThen_ok]
  rw [hp _ _ (at0 R 0) _ rfl]
  simp only [Result.andThen_ok]
  rw [hq]
  simp only [Result.andThen_ok]
  unfold sameFive
  cases h0 : (at0 L 0 == at0 R 0)
  · simp
  simp only [Bool.not_true, Bool.false_eq_true, if_false, Sem.run_bind]
  rw [hp _ _ (at0 L 1) _ rfl]
  simp only [Result.andThen_ok]
  rw [hp _ _ (at0 R 1) _ rfl]
  simp only [Result.andThen_ok]
  rw [hq]
  simp only [Result.andThen_ok]
  cases h1 : (at0 L 1 == at0 R 1)
  · simp
  simp only [Bool.not_true, Bool.false_eq_true, if_false, Sem.run_bind]
  rw [hp _ _ (at0 L 2) _ rfl]
  simp only [Result.andThen_ok]
  rw [hp _ _ (at0 R 2) _ rfl]
  simp only [Result.andThen_ok]
  rw [hq]
  simp only [Result.andThen_ok]
  cases h2 : (at0 L 2 == at0 R 2)
  · simp
  simp only [Bool.not_true, Bool.false_eq_true, if_false, Sem.run_bind]
  rw [hp _ _ (at0 L 3) _ rfl]
  simp only [Result.andThen_ok]
  rw [hp _ _ (at0 R 3) _ rfl]
  simp only [Result.andThen_ok]
  rw [hq]
  simp only [Result.andThen_ok]
  cases h3 : (at0 L 3 == at0 R 3)
  · simp
  simp only [Bool.not_true, Bool.false_eq_true, if_false, Sem.run_bind]
  rw [hp _ _ (at0 L 4) _ rfl]
  simp only [Result.andThen_ok]
  rw [hp _ _ (at0 R 4) _ rfl]
  simp only [Result.andThen_ok]
  rw [hq]
  simp only [Result.andThen_ok]
  cases h4 : (at0 L 4 == at0 R 4)
  · simp
  simp

set_option maxRecDepth 100000 in
set_option maxHeartbeats 2000000 in
theorem implSame_loop (s : Int) (u v : Value) (l r : List Int) (w : World) (hu : Ints w u l) (hv : Ints w v r) (hl : l.length = r.length) (hsz : l.length ≤ 1099511627776) :
    Calls Try.prog 149 #[.agg #[.int .i64 s, u], .agg #[.int .i64 s, v]] w (BoolExt (decide (l = r)) w) := by
  obtain ⟨au, cu, rfl, hlu, hcapu, hcu⟩ := hu
  obtain ⟨av, cv, rfl, hlv, hcapv, hcv⟩ := hv
  have hcu1 := hcapu.1
  have hcu2 := hcapu.2.1
  have hcv1 := hcapv.1
  have hcv2 := hcapv.2.1
  unfold maxLen at hlu hlv hcu2 hcv2
  have e0 : ((l.length : Int) != (r.length : Int)) = false := by simp [hl]
  have es : (s != s) = false := by simp
  have HCU := Lib.hid hcu
  have HCV := Lib.hid hcv
  have HB := Lib.hid (box2 w s s (.slice au l.length cu) (.slice av r.length cv) 39)
  have HL := Lib.hid hl
  clear hcapu hcapv hcu hcv hl
  go_enter Try.func149, Try.ntmps149
  go_wp2
  go_loopw [5] (fun i wr => ∃ k : Nat, i = .int .i64 k ∧ k ≤ l.length + 4 ∧ Hid (∃ m, k = 5 * m ∧ l.take (5 * m) = r.take (5 * m)) ∧ Ext ((w.alloc (.cells #[.int .i64 s, .slice au l.length cu] 39)).alloc (.cells #[.int .i64 s, .slice av r.length cv] 39)) wr) (fun i _ => l.length + 5 - (intOf i).toNat)
  case atStart => exact ⟨0, rfl, by omega, Lib.hid ⟨0, rfl, rfl⟩, Ext.refl _⟩
  case round =>
    obtain ⟨k, rfl, hm, HT, hx⟩ := hrel
    obtain ⟨⟨c0, c1⟩, d0, d1⟩ := And.intro (HB.out.1.ext hx) (HB.out.2.ext hx)
    have X := Lib.hid ((Ext.alloc2 _ _ _).trans hx : Ext w wr)
    have X' := Lib.hid hx
    clear c0 d0 hx
    by_cases hlt : k < l.length
    · have hltr : k < r.length := by have := HL.out; omega
      obtain ⟨bu, ou, rfl, du⟩ := HCU.out (by omega)
      obtain ⟨bv, ov, rfl, dv⟩ := HCV.out (by omega)
      have iu := ints_drop k (by omega) hlu hcu1 hcu2 du
      have iv := ints_drop k (by omega) hlv hcv1 hcv2 dv
      have IU := Lib.hid (iu.ext X.out)
      have IV := Lib.hid (iv.ext X.out)
      have hc1 : k < cu := by omega
      have hc2 : k < cv := by omega
      have hd1 : cu ≠ k := by omega
      have hd2 : cv ≠ k := by omega
      have i0 : (0 : Int) ≤ k := by omega
      have i1 : (k : Int) ≤ l.length := by omega
      have i2 : (k : Int) ≤ r.length := by omega
      have heq := fun (W : World) => eq_five (l.drop k) (r.drop k) W
      clear du dv iu iv
      go_wp2
      go_region_held3 (fun W => Ext wr W ∧ W.cell? ⟨w.heap.size, 1, none⟩ = some (.slice (some ⟨bu, ou, none⟩) l.length cu) ∧ W.cell? ⟨w.heap.size + 1, 1, none⟩ = some (.slice (some ⟨bv, ov, none⟩) r.length cv)) (first | (exact keep2 (by assumption) (by assumption)) | (exact ⟨Ext.drew (Ext.refl _), c1, d1⟩)) (first | (go_at_call_of 147 (Value.slice (some ⟨bu, ou + k, none⟩) (l.length - k) (cu - k)); refine (depsIn_any _ _ _ (IU.out.ext (And.left (by assumption)))).mono ?_; rintro e W ⟨rfl, x⟩) | (go_at_call_of 147 (Value.slice (some ⟨bv, ov + k, none⟩) (r.length - k) (cv - k)); refine (depsIn_any _ _ _ (IV.out.ext (And.left (by assumption)))).mono ?_; rintro e W ⟨rfl, x⟩))
      rename_i hH
      have hx2 := X'.out.trans hH.1
      have hy2 := X.out.trans hH.1
      clear hH heq
      cases hsf : sameFive (l.drop k) (r.drop k)
      · have HSF := Lib.hid hsf
        clear hsf
        go_wp2
        go_ret
        refine ⟨?_, hy2⟩
        have hne : decide (l = r) = false := decide_eq_false (by
          obtain ⟨m, hkm, _⟩ := HT.out
          have h := HSF.out
          rw [hkm] at h
          exact differ_five HL.out m h)
        rw [hne]; rfl
      · have HSF := Lib.hid hsf
        clear hsf
        go_wp2
        go_roundw
        case rel => exact ⟨k + 5, by go_num, by omega, Lib.hid (by
          obtain ⟨m, hkm, ht⟩ := HT.out
          have h := HSF.out
          rw [hkm] at h
          exact ⟨m + 1, by omega, take_five HL.out m ht h⟩), hx2⟩
        case measure => simp [intOf]; omega
    · go_wp2
      go_ret
      refine ⟨?_, X.out⟩
      have he : decide (l = r) = true := decide_eq_true (by
        obtain ⟨m, hkm, ht⟩ := HT.out
        have h1 := HL.out
        rw [List.take_of_length_le (by omega), List.take_of_length_le (by omega)] at ht
        exact ht)
      rw [he]; rfl

set_option maxHeartbeats 1000000 in
theorem implSame_any (s t : Int) (u v : Value) (l r : List Int) (w : World) (hu : Ints w u l) (hv : Ints w v r) (hsz : l.length ≤ 1099511627776) :
    Calls Try.prog 149 #[.agg #[.int .i64 s, u], .agg #[.int .i64 t, v]] w (BoolExt (sameA s t l r) w) := by
  unfold sameA
  by_cases hs : s = t
  · subst hs
    rw [show (s == s) = true by simp, Bool.true_and]
    by_cases hl : l.length = r.length
    · exact implSame_loop s u v l r w hu hv hl hsz
    · have hne : decide (l = r) = false := decide_eq_false (fun h => hl (by rw [h]))
      rw [hne]
      obtain ⟨au, cu, rfl, hlu, _, _⟩ := hu
      obtain ⟨av, cv, rfl, hlv, _, _⟩ := hv
      unfold maxLen at hlu hlv
      have e0 : ((l.length : Int) != (r.length : Int)) = true := by simp; omega
      have es : (s != s) = false := by simp
      clear hl hne
      go_enter Try.func149, Try.ntmps149
      go_wp2
      go_ret
      exact ⟨rfl, Ext.alloc2 _ _ _⟩
  · rw [show (s == t) = false by simp [hs], Bool.false_and]
    have es : (s != t) = true := by simp [hs]
    clear hs
    go_enter Try.func149, Try.ntmps149
    go_wp2
    go_ret
    exact ⟨rfl, Ext.alloc2 _ _ _⟩

end Go.Proofs.Ythnoeknalpnadaa

namespace Go.Proofs.Ythnoeknalpnadaa
open Go.RowKit
set_option linter.unusedVariables false

def zeroC (k i f t a : Int) : Bool := k == 0 && (i == 0 && (f == 0 && (t == 0 && a == 0)))
/-- What is asked of an empty row, of another one. -/
def emptyB (n : Int) (r : RowD) : Bool := (r.v == 0 && zeroC r.k r.i r.f r.t r.a) && sameA r.s 0 r.l (noneL n)
def fullB (n : Int) (r : RowD) : Bool := goodB r.k r.i r.f r.t r.a && goodD n r.s r.l
def headB (r : RowD) : Bool := (inB r.b 0 9999 && inB r.v 0 r.b) && inB r.st 0 3
/-- Whether a row is good in a table of n. -/
def goodRow (n : Int) (r : RowD) : Bool := headB r && (if r.st == 0 then emptyB n r else fullB n r)
theorem goodRow_head {n : Int} {r : RowD} (h : headB r = false) : goodRow n r = false := by unfold goodRow; rw [h]; rfl
theorem goodRow_empty {n : Int} {r : RowD} (h : headB r = true) (h0 : (r.st == 0) = true) : goodRow n r = emptyB n r := by unfold goodRow; rw [h, h0]; rfl
theorem goodRow_full {n : Int} {r : RowD} (h : headB r = true) (h0 : (r.st == 0) = false) : goodRow n r = fullB n r := by unfold goodRow; rw [h, h0]; rfl

set_option maxHeartbeats 1000000 in
theorem eq_zero (k i f t a : Int) (W : World) : (Op.equalIn 10000 36 (.agg #[.int .i64 k, .int .i64 i, .int .i64 f, .int .i64 t, .int .i64 a]) (.agg #[.int .i64 0, .int .i64 0, .int .i64 0, .int .i64 0, .int .i64 0])).run Try.prog W = .ok (zeroC k i f t a) W := by
  have hS : Try.prog.underlying 36 = some (.struct (Try.prog.fieldsOf 36)) := by kernel_rfl
  have hp : Try.prog.stoodInHeld 36 = false := by kernel_rfl
  have hF : (Try.prog.fieldsOf 36).toList.map (fun f => (f.name == "_", f.type, f.offset)) = [(false, 3, 0), (false, 3, 1), (false, 3, 2), (false, 3, 3), (false, 3, 4)] := by kernel_rfl
  have hpart : ∀ (xs : Array Value) (j : Nat) (x : Int) (W : World), xs[j]? = some (.int .i64 x) → (part 3 xs j).run Try.prog W = .ok (.int .i64 x) W := by
    intro xs j x W hx
    obtain ⟨i0, hi, hz0, hz1, hz2⟩ := info_parts Try.infoInt
    unfold part
    go_simp
  have hq : ∀ (a b : Int) (W : World), (Op.equalIn 9999 3 (.int .i64 a) (.int .i64 b)).run Try.prog W = .ok (a == b) W := fun a b W => run_equalIn_int W 9998 3 .i64 .i64 a b Try.underlying3
  rw [show (10000 : Nat) = 9999 + 1 from rfl, run_equalIn_struct W 9999 _ _ _ hS hp]
  obtain ⟨L, hL⟩ : ∃ L, L = (Try.prog.fieldsOf 36).toList := ⟨_, rfl⟩
  rw [← hL] at hF ⊢
  clear hL hS hp
  obtain ⟨f0, f1, f2, f3, f4, rfl⟩ : ∃ f0 f1 f2 f3 f4, L = [f0, f1, f2, f3, f4] := by
    have hl : L.length = 5 := by have := congrArg List.length hF; simpa using this
    match L, hl with
    | [a, b, c, d, e], _ => exact ⟨a, b, c, d, e, rfl⟩
  simp only [List.map_cons, List.map_nil, List.cons.injEq, Prod.mk.injEq, and_true, beq_eq_false_iff_ne] at hF
  obtain ⟨⟨n0, t0, o0⟩, ⟨n1, t1, o1⟩, ⟨n2, t2, o2⟩, ⟨n3, t3, o3⟩, ⟨n4, t4, o4⟩⟩ := hF
  unfold zeroC
  simp only [Op.eqFields, n0, n1, n2, n3, n4, t0, t1, t2, t3, t4, o0, o1, o2, o3, o4, ne_eq, not_false_eq_true, if_true, Sem.run_bind]
  rw [hpart _ _ k _ rfl]
  simp only [Result.andThen_ok]
  rw [hpart _ _ 0 _ rfl]
  simp only [Result.andThen_ok]
  rw [hq]
  simp only [Result.andThen_ok]
  cases h0 : (k == 0)
  · simp
  simp only [Bool.not_true, Bool.false_eq_true, if_false, Sem.run_bind]
  rw [hpart _ _ i _ rfl]
  simp only [Result.andThen_ok]
  rw [hpart _ _ 0 _ rfl]
  simp only [Result.andThen_ok]
  rw [hq]
  simp only [Result.andThen_ok]
  cases h1 : (i == 0)
  · simp
  simp only [Bool.not_true, Bool.false_eq_true, if_false, Sem.run_bind]
  rw [hpart _ _ f _ rfl]
  simp only [Result.andThen_ok]
  rw [hpart _ _ 0 _ rfl]
  simp only [Result.andThen_ok]
  rw [hq]
  simp only [Result.andThen_ok]
  cases h2 : (f == 0)
  · simp
  simp only [Bool.not_true, Bool.false_eq_true, if_false, Sem.run_bind]
  rw [hpart _ _ t _ rfl]
  simp only [Result.andThen_ok]
  rw [hpart _ _ 0 _ rfl]
  simp only [Result.andThen_ok]
  rw [hq]
  simp only [Result.andThen_ok]
  cases h3 : (t == 0)
  · simp
  simp only [Bool.not_true, Bool.false_eq_true, if_false, Sem.run_bind]
  rw [hpart _ _ a _ rfl]
  simp only [Result.andThen_ok]
  rw [hpart _ _ 0 _ rfl]
  simp only [Result.andThen_ok]
  rw [hq]
  simp only [Result.andThen_ok]
  cases h4 : (a == 0) <;> simp

end Go.Proofs.Ythnoeknalpnadaa

namespace Go.Proofs.Ythnoeknalpnadaa
open Go.RowKit
set_option linter.unusedVariables false

set_option maxHeartbeats 1000000 in
theorem szRow_any (r : RowD) (u : Value) (left : Int) (w : World) (hv : Ints w u r.l) (h0 : 0 ≤ left) (h1 : left ≤ 1099511627776) :
    Calls Try.prog 37 #[.agg #[.int .i64 r.b, .int .i64 r.v, .int .i64 r.st, .int .i64 r.k, .int .i64 r.i, .int .i64 r.f, .int .i64 r.t, .int .i64 r.a, .int .i64 r.s, u], .int .i64 left] w (IntExt (lessened left r.l.length) w) := by
  have HB := rowAt_new w 64 r u
  by_cases hlt : left < r.l.length
  · have L := Lib.hid (lessened_no hlt)
    clear hlt
    go_enter Try.func37, Try.ntmps37
    go_wp2_with fail
    refine (szAttr_any _ _ _ _ _ (hv.ext (Ext.alloc (Ext.refl _) _)) h0 h1).mono ?_
    rintro e w1 ⟨rfl, x1⟩
    have hx := (Ext.alloc (Ext.refl w) _).trans x1
    clear x1 HB
    rw [L.out]
    go_wp2
    go_ret
    exact ⟨by rw [L.out]; rfl, hx⟩
  · obtain ⟨q, hq⟩ : ∃ q, q = left - (r.l.length : Int) := ⟨_, rfl⟩
    have hq0 : 0 ≤ q := by omega
    have LR : Hid (lessened left r.l.length = q) := Lib.hid (by rw [hq]; exact lessened_yes (by omega))
    clear hlt hq
    rw [LR.out]
    go_enter Try.func37, Try.ntmps37
    go_wp2_with fail
    refine (szAttr_any _ _ _ _ _ (hv.ext (Ext.alloc (Ext.refl _) _)) h0 h1).mono ?_
    rintro e w1 ⟨rfl, x1⟩
    have hx := (Ext.alloc (Ext.refl w) _).trans x1
    clear x1 HB
    rw [LR.out]
    go_wp2
    go_ret
    exact ⟨rfl, hx⟩

end Go.Proofs.Ythnoeknalpnadaa

namespace Go.Proofs.Ythnoeknalpnadaa
open Go.RowKit

set_option maxHeartbeats 1000000 in
theorem toCmd_any (k i f t a : Int) (w : World) :
    Calls Try.prog 58 #[.agg #[.int .i64 k, .int .i64 i, .int .i64 f, .int .i64 t, .int .i64 a]] w (CmdExt k i f t a w) := by
  go_enter Try.func58, Try.ntmps58
  go_wp2
  exact bodyPost_ret (v := .agg #[.int .i64 k, .int .i64 i, .int .i64 f, .int .i64 t, .int .i64 a]) (by simp [results, Try.results58, go_sem]) rfl ⟨rfl, by repeat (first | exact Ext.refl _ | apply Ext.drew | apply Ext.alloc)⟩

end Go.Proofs.Ythnoeknalpnadaa

namespace Go.Proofs.Ythnoeknalpnadaa
open Go.RowKit
set_option linter.unusedVariables false

/-- Ten cells of the block b may be written. -/
def FreeAt (w : World) (b : Nat) : Prop :=
  w.frozen? ⟨b, 0, none⟩ = false ∧ w.frozen? ⟨b, 1, none⟩ = false ∧ w.frozen? ⟨b, 2, none⟩ = false ∧ w.frozen? ⟨b, 3, none⟩ = false ∧ w.frozen? ⟨b, 4, none⟩ = false ∧ w.frozen? ⟨b, 5, none⟩ = false ∧ w.frozen? ⟨b, 6, none⟩ = false ∧ w.frozen? ⟨b, 7, none⟩ = false ∧ w.frozen? ⟨b, 8, none⟩ = false ∧ w.frozen? ⟨b, 9, none⟩ = false
theorem FreeAt.ext {w w' : World} {b : Nat} (hl : b < w.heap.size) (h : FreeAt w b) (e : Ext w w') : FreeAt w' b := by
  obtain ⟨h0, h1, h2, h3, h4, h5, h6, h7, h8, h9⟩ := h
  exact ⟨e.frozen hl h0, e.frozen hl h1, e.frozen hl h2, e.frozen hl h3, e.frozen hl h4, e.frozen hl h5, e.frozen hl h6, e.frozen hl h7, e.frozen hl h8, e.frozen hl h9⟩
def zeroR : RowD := ⟨0, 0, 0, 0, 0, 0, 0, 0, 0, []⟩
/-- A row comes back whose list lies in new memory. -/
def NewRow (r : RowD) (w : World) (e : Ending) (w' : World) : Prop :=
  ∃ u, e = .returned (.agg #[.int .i64 r.b, .int .i64 r.v, .int .i64 r.st, .int .i64 r.k, .int .i64 r.i, .int .i64 r.f, .int .i64 r.t, .int .i64 r.a, .int .i64 r.s, u]) ∧ Fresh w.heap.size w' u r.l ∧ Ext w w'
/-- .. and a Bool. -/
def TwoRow (r : RowD) (b : Bool) (w : World) (e : Ending) (w' : World) : Prop :=
  ∃ u, e = .returned (.tuple #[.agg #[.int .i64 r.b, .int .i64 r.v, .int .i64 r.st, .int .i64 r.k, .int .i64 r.i, .int .i64 r.f, .int .i64 r.t, .int .i64 r.a, .int .i64 r.s, u], .bool b]) ∧ Fresh w.heap.size w' u r.l ∧ Ext w w'

theorem row_three (w : World) (T T' : TypeId) (a : Obj) (b v st k i f t c s b' v' st' k' i' f' t' c' s' : Int) (u u' : Value) :
    (RowAt (((w.alloc a).alloc (.cells #[.int .i64 b, .int .i64 v, .int .i64 st, .int .i64 k, .int .i64 i, .int .i64 f, .int .i64 t, .int .i64 c, .int .i64 s, u] T)).alloc (.cells #[.int .i64 b', .int .i64 v', .int .i64 st', .int .i64 k', .int .i64 i', .int .i64 f', .int .i64 t', .int .i64 c', .int .i64 s', u'] T')) (w.heap.size + 1) ⟨b, v, st, k, i, f, t, c, s, []⟩ u ∧
     FreeAt (((w.alloc a).alloc (.cells #[.int .i64 b, .int .i64 v, .int .i64 st, .int .i64 k, .int .i64 i, .int .i64 f, .int .i64 t, .int .i64 c, .int .i64 s, u] T)).alloc (.cells #[.int .i64 b', .int .i64 v', .int .i64 st', .int .i64 k', .int .i64 i', .int .i64 f', .int .i64 t', .int .i64 c', .int .i64 s', u'] T')) (w.heap.size + 1)) ∧
    (RowAt (((w.alloc a).alloc (.cells #[.int .i64 b, .int .i64 v, .int .i64 st, .int .i64 k, .int .i64 i, .int .i64 f, .int .i64 t, .int .i64 c, .int .i64 s, u] T)).alloc (.cells #[.int .i64 b', .int .i64 v', .int .i64 st', .int .i64 k', .int .i64 i', .int .i64 f', .int .i64 t', .int .i64 c', .int .i64 s', u'] T')) (w.heap.size + 1 + 1) ⟨b', v', st', k', i', f', t', c', s', []⟩ u' ∧
     FreeAt (((w.alloc a).alloc (.cells #[.int .i64 b, .int .i64 v, .int .i64 st, .int .i64 k, .int .i64 i, .int .i64 f, .int .i64 t, .int .i64 c, .int .i64 s, u] T)).alloc (.cells #[.int .i64 b', .int .i64 v', .int .i64 st', .int .i64 k', .int .i64 i', .int .i64 f', .int .i64 t', .int .i64 c', .int .i64 s', u'] T')) (w.heap.size + 1 + 1)) := by
  refine ⟨⟨⟨?_, ?_, ?_, ?_, ?_, ?_, ?_, ?_, ?_, ?_⟩, ⟨?_, ?_, ?_, ?_, ?_, ?_, ?_, ?_, ?_, ?_⟩⟩, ⟨⟨?_, ?_, ?_, ?_, ?_, ?_, ?_, ?_, ?_, ?_⟩, ⟨?_, ?_, ?_, ?_, ?_, ?_, ?_, ?_, ?_, ?_⟩⟩⟩ <;> go_simp

theorem row_set5 {w : World} {b : Nat} {d : RowD} {y : Value} (k i f t a : Int) (h : RowAt w b d y) :
    RowAt (((((w.setCell ⟨b, 3, none⟩ (.int .i64 k)).setCell ⟨b, 4, none⟩ (.int .i64 i)).setCell ⟨b, 5, none⟩ (.int .i64 f)).setCell ⟨b, 6, none⟩ (.int .i64 t)).setCell ⟨b, 7, none⟩ (.int .i64 a)) b ⟨d.b, d.v, d.st, k, i, f, t, a, d.s, d.l⟩ y := by
  obtain ⟨h0, h1, h2, h3, h4, h5, h6, h7, h8, h9⟩ := h
  refine ⟨?_, ?_, ?_, ?_, ?_, ?_, ?_, ?_, ?_, ?_⟩ <;> go_simp
theorem free_set {w : World} {b : Nat} (a : Addr) (v : Value) (h : FreeAt w b) : FreeAt (w.setCell a v) b := by
  obtain ⟨h0, h1, h2, h3, h4, h5, h6, h7, h8, h9⟩ := h
  refine ⟨?_, ?_, ?_, ?_, ?_, ?_, ?_, ?_, ?_, ?_⟩ <;> (rw [World.frozen?_setCell]; assumption)
theorem row_apart {w : World} {b : Nat} {d : RowD} {y : Value} (a : Addr) (v : Value) (hne : a.block ≠ b) (h : RowAt w b d y) : RowAt (w.setCell a v) b d y := by
  obtain ⟨h0, h1, h2, h3, h4, h5, h6, h7, h8, h9⟩ := h
  refine ⟨?_, ?_, ?_, ?_, ?_, ?_, ?_, ?_, ?_, ?_⟩ <;> (rw [World.cell?_setCell_other _ _ _ _ (fun e => hne (by rw [e]))]; assumption)

set_option maxHeartbeats 2000000 in
set_option maxRecDepth 100000 in
theorem toRow_any (r : RowD) (u : Value) (w : World) (hv : Ints w u r.l) (hs : r.l.length ≤ 35184372088831) :
    Calls Try.prog 40 #[.agg #[.int .i64 r.b, .int .i64 r.v, .int .i64 r.st, .int .i64 r.k, .int .i64 r.i, .int .i64 r.f, .int .i64 r.t, .int .i64 r.a, .int .i64 r.s, u]] w (NewRow r w) := by
  have HS := Lib.hid hs
  have hb := rowAt_new w 64 r u
  clear hs
  obtain ⟨wb, hwb⟩ : ∃ wb, wb = ((w.alloc (.cells #[.int .i64 r.b, .int .i64 r.v, .int .i64 r.st, .int .i64 r.k, .int .i64 r.i, .int .i64 r.f, .int .i64 r.t, .int .i64 r.a, .int .i64 r.s, u] 64)).alloc (.cells #[.int .i64 0, .int .i64 0, .int .i64 0, .int .i64 0, .int .i64 0, .int .i64 0, .int .i64 0, .int .i64 0, .int .i64 0, .slice none 0 0] 71)).alloc (.cells #[.int .i64 r.b, .int .i64 r.v, .int .i64 r.st, .int .i64 0, .int .i64 0, .int .i64 0, .int .i64 0, .int .i64 0, .int .i64 0, .slice none 0 0] 71) := ⟨_, rfl⟩
  have h3 := row_three w 71 71 (.cells #[.int .i64 r.b, .int .i64 r.v, .int .i64 r.st, .int .i64 r.k, .int .i64 r.i, .int .i64 r.f, .int .i64 r.t, .int .i64 r.a, .int .i64 r.s, u] 64) 0 0 0 0 0 0 0 0 0 r.b r.v r.st 0 0 0 0 0 0 (.slice none 0 0) (.slice none 0 0)
  have xb : Ext w wb := by rw [hwb]; exact Ext.alloc3 _ _ _ _
  have sb : wb.heap.size = w.heap.size + 3 := by rw [hwb]; exact size3 _ _ _ _
  have rb : RowAt wb w.heap.size r u := by rw [hwb]; exact hb.ext (((Ext.refl _).alloc _).alloc _)
  rw [← hwb] at h3
  have HWB := Lib.hid hwb
  have H3 := Lib.hid h3
  have SB := Lib.hid sb
  have RB := Lib.hid rb
  clear hwb h3 sb rb hb
  go_enter Try.func40, Try.ntmps40
  go_wp2_with fail
  rw [← HWB.out]
  refine (toCmd_any _ _ _ _ _ _).mono ?_
  rintro e w1 ⟨rfl, x1⟩
  have hsz : w.heap.size + 3 ≤ w1.heap.size := by have := x1.size; have := SB.out; omega
  obtain ⟨⟨⟨o0, o1, o2, o3, o4, o5, o6, o7, o8, o9⟩, ⟨z0, z1, z2, z3, z4, z5, z6, z7, z8, z9⟩⟩, ⟨⟨p0, p1, p2, p3, p4, p5, p6, p7, p8, p9⟩, ⟨y0, y1, y2, y3, y4, y5, y6, y7, y8, y9⟩⟩⟩ : (RowAt w1 (w.heap.size + 1) _ _ ∧ FreeAt w1 (w.heap.size + 1)) ∧ (RowAt w1 (w.heap.size + 1 + 1) _ _ ∧ FreeAt w1 (w.heap.size + 1 + 1)) :=
    ⟨⟨H3.out.1.1.ext x1, H3.out.1.2.ext (by have := SB.out; omega) x1⟩, ⟨H3.out.2.1.ext x1, H3.out.2.2.ext (by have := SB.out; omega) x1⟩⟩
  obtain ⟨q0, q1, q2, q3, q4, q5, q6, q7, q8, q9⟩ := RB.out.ext x1
  go_wp2_with fail
  have xc : Ext w (((((w1.setCell ⟨w.heap.size + 1 + 1, 3, none⟩ (.int .i64 r.k)).setCell ⟨w.heap.size + 1 + 1, 4, none⟩ (.int .i64 r.i)).setCell ⟨w.heap.size + 1 + 1, 5, none⟩ (.int .i64 r.f)).setCell ⟨w.heap.size + 1 + 1, 6, none⟩ (.int .i64 r.t)).setCell ⟨w.heap.size + 1 + 1, 7, none⟩ (.int .i64 r.a)) :=
    (((((xb.trans x1).setc (by dsimp only; omega)).setc (by dsimp only; omega)).setc (by dsimp only; omega)).setc (by dsimp only; omega)).setc (by dsimp only; omega)
  have rp := row_set5 r.k r.i r.f r.t r.a (show RowAt w1 (w.heap.size + 1 + 1) ⟨r.b, r.v, r.st, 0, 0, 0, 0, 0, 0, []⟩ _ from ⟨p0, p1, p2, p3, p4, p5, p6, p7, p8, p9⟩)
  have fp : FreeAt (((((w1.setCell ⟨w.heap.size + 1 + 1, 3, none⟩ (.int .i64 r.k)).setCell ⟨w.heap.size + 1 + 1, 4, none⟩ (.int .i64 r.i)).setCell ⟨w.heap.size + 1 + 1, 5, none⟩ (.int .i64 r.f)).setCell ⟨w.heap.size + 1 + 1, 6, none⟩ (.int .i64 r.t)).setCell ⟨w.heap.size + 1 + 1, 7, none⟩ (.int .i64 r.a)) (w.heap.size + 1 + 1) :=
    free_set _ _ (free_set _ _ (free_set _ _ (free_set _ _ (free_set _ _ ⟨y0, y1, y2, y3, y4, y5, y6, y7, y8, y9⟩))))
  have ro : RowAt (((((w1.setCell ⟨w.heap.size + 1 + 1, 3, none⟩ (.int .i64 r.k)).setCell ⟨w.heap.size + 1 + 1, 4, none⟩ (.int .i64 r.i)).setCell ⟨w.heap.size + 1 + 1, 5, none⟩ (.int .i64 r.f)).setCell ⟨w.heap.size + 1 + 1, 6, none⟩ (.int .i64 r.t)).setCell ⟨w.heap.size + 1 + 1, 7, none⟩ (.int .i64 r.a)) (w.heap.size + 1) zeroR (.slice none 0 0) :=
    row_apart _ _ (by simp) (row_apart _ _ (by simp) (row_apart _ _ (by simp) (row_apart _ _ (by simp) (row_apart _ _ (by simp) ⟨o0, o1, o2, o3, o4, o5, o6, o7, o8, o9⟩))))
  have fo : FreeAt (((((w1.setCell ⟨w.heap.size + 1 + 1, 3, none⟩ (.int .i64 r.k)).setCell ⟨w.heap.size + 1 + 1, 4, none⟩ (.int .i64 r.i)).setCell ⟨w.heap.size + 1 + 1, 5, none⟩ (.int .i64 r.f)).setCell ⟨w.heap.size + 1 + 1, 6, none⟩ (.int .i64 r.t)).setCell ⟨w.heap.size + 1 + 1, 7, none⟩ (.int .i64 r.a)) (w.heap.size + 1) :=
    free_set _ _ (free_set _ _ (free_set _ _ (free_set _ _ (free_set _ _ ⟨z0, z1, z2, z3, z4, z5, z6, z7, z8, z9⟩))))
  have hsz2 : w.heap.size + 3 ≤ (((((w1.setCell ⟨w.heap.size + 1 + 1, 3, none⟩ (.int .i64 r.k)).setCell ⟨w.heap.size + 1 + 1, 4, none⟩ (.int .i64 r.i)).setCell ⟨w.heap.size + 1 + 1, 5, none⟩ (.int .i64 r.f)).setCell ⟨w.heap.size + 1 + 1, 6, none⟩ (.int .i64 r.t)).setCell ⟨w.heap.size + 1 + 1, 7, none⟩ (.int .i64 r.a)).heap.size := by simp only [World.size_setCell]; exact hsz
  refine (toAttr_any _ _ r.l _ (hv.ext xc) HS.out).mono ?_
  clear p0 p1 p2 p3 p4 p5 p6 p7 p8 p9 o0 o1 o2 o3 o4 o5 o6 o7 o8 o9 q0 q1 q2 q3 q4 q5 q6 q7 q8 q9 z0 z1 z2 z3 z4 z5 z6 z7 z8 z9 y0 y1 y2 y3 y4 y5 y6 y7 y8 y9
  obtain ⟨wc, hwc⟩ : ∃ wc, wc = (((((w1.setCell ⟨w.heap.size + 1 + 1, 3, none⟩ (.int .i64 r.k)).setCell ⟨w.heap.size + 1 + 1, 4, none⟩ (.int .i64 r.i)).setCell ⟨w.heap.size + 1 + 1, 5, none⟩ (.int .i64 r.f)).setCell ⟨w.heap.size + 1 + 1, 6, none⟩ (.int .i64 r.t)).setCell ⟨w.heap.size + 1 + 1, 7, none⟩ (.int .i64 r.a)) := ⟨_, rfl⟩
  rw [← hwc] at xc rp fp ro fo hsz2 ⊢
  clear hwc
  rintro e w2 ⟨v, rfl, f2, x2⟩
  have hy : Ext w w2 := xc.trans x2
  obtain ⟨p0, p1, p2, p3, p4, p5, p6, p7, p8, p9⟩ := rp.ext x2
  obtain ⟨o0, o1, o2, o3, o4, o5, o6, o7, o8, o9⟩ := ro.ext x2
  obtain ⟨y0, y1, y2, y3, y4, y5, y6, y7, y8, y9⟩ := fp.ext (by omega) x2
  obtain ⟨z0, z1, z2, z3, z4, z5, z6, z7, z8, z9⟩ := fo.ext (by omega) x2
  obtain ⟨au, cu, rfl⟩ := f2.form
  have F := Lib.hid f2
  have HZ := Lib.hid hsz2
  clear f2 rp ro fp fo xc xb x1 x2 hsz2
  go_wp2
  refine bodyPost_ret (v := .agg #[.int .i64 r.b, .int .i64 r.v, .int .i64 r.st, .int .i64 r.k, .int .i64 r.i, .int .i64 r.f, .int .i64 r.t, .int .i64 r.a, .int .i64 r.s, .slice au r.l.length cu]) (by simp [results, Try.results40, go_sem, o0, o1, o2, o3, o4, o5, o6, o7, o8, o9]) rfl ⟨_, rfl, ?_, ?_⟩
  · exact ((((((((((((F.out.set _ _ _ (by have := HZ.out; omega)).set _ _ _ (by have := HZ.out; omega)).set _ _ _ (by have := HZ.out; omega)).set _ _ _ (by have := HZ.out; omega)).set _ _ _ (by have := HZ.out; omega)).set _ _ _ (by have := HZ.out; omega)).set _ _ _ (by have := HZ.out; omega)).set _ _ _ (by have := HZ.out; omega)).set _ _ _ (by have := HZ.out; omega)).set _ _ _ (by have := HZ.out; omega)).set _ _ _ (by have := HZ.out; omega)).set _ _ _ (by have := HZ.out; omega)).more (by have := HZ.out; omega)
  · exact (((((((((((hy.setc (by dsimp only; omega)).setc (by dsimp only; omega)).setc (by dsimp only; omega)).setc (by dsimp only; omega)).setc (by dsimp only; omega)).setc (by dsimp only; omega)).setc (by dsimp only; omega)).setc (by dsimp only; omega)).setc (by dsimp only; omega)).setc (by dsimp only; omega)).setc (by dsimp only; omega)).setc (by dsimp only; omega)

end Go.Proofs.Ythnoeknalpnadaa

namespace Go.Proofs.Ythnoeknalpnadaa
open Go.RowKit
set_option linter.unusedVariables false

structure MsgD where
  kd : Int
  fr : Int
  tt : Int
  rp : Int
  no : Int
  b : Int
  v : Int
  st : Int
  k : Int
  i : Int
  f : Int
  t : Int
  a : Int
  s : Int
  l : List Int

def MsgAt (w : World) (b : Nat) (r : MsgD) (u : Value) : Prop :=
  w.cell? ⟨b, 0, none⟩ = some (.int .i64 r.kd) ∧ w.cell? ⟨b, 1, none⟩ = some (.int .i64 r.fr) ∧ w.cell? ⟨b, 2, none⟩ = some (.int .i64 r.tt) ∧ w.cell? ⟨b, 3, none⟩ = some (.int .i64 r.rp) ∧ w.cell? ⟨b, 4, none⟩ = some (.int .i64 r.no) ∧ w.cell? ⟨b, 5, none⟩ = some (.int .i64 r.b) ∧ w.cell? ⟨b, 6, none⟩ = some (.int .i64 r.v) ∧ w.cell? ⟨b, 7, none⟩ = some (.int .i64 r.st) ∧ w.cell? ⟨b, 8, none⟩ = some (.int .i64 r.k) ∧ w.cell? ⟨b, 9, none⟩ = some (.int .i64 r.i) ∧ w.cell? ⟨b, 10, none⟩ = some (.int .i64 r.f) ∧ w.cell? ⟨b, 11, none⟩ = some (.int .i64 r.t) ∧ w.cell? ⟨b, 12, none⟩ = some (.int .i64 r.a) ∧ w.cell? ⟨b, 13, none⟩ = some (.int .i64 r.s) ∧ w.cell? ⟨b, 14, none⟩ = some u
theorem MsgAt.ext {w w' : World} {b : Nat} {r : MsgD} {u : Value} (h : MsgAt w b r u) (e : Ext w w') : MsgAt w' b r u := by
  obtain ⟨h0, h1, h2, h3, h4, h5, h6, h7, h8, h9, h10, h11, h12, h13, h14⟩ := h
  exact ⟨e.cell h0, e.cell h1, e.cell h2, e.cell h3, e.cell h4, e.cell h5, e.cell h6, e.cell h7, e.cell h8, e.cell h9, e.cell h10, e.cell h11, e.cell h12, e.cell h13, e.cell h14⟩
theorem msgAt_new (w : World) (T : TypeId) (r : MsgD) (u : Value) : MsgAt (w.alloc (.cells #[.int .i64 r.kd, .int .i64 r.fr, .int .i64 r.tt, .int .i64 r.rp, .int .i64 r.no, .int .i64 r.b, .int .i64 r.v, .int .i64 r.st, .int .i64 r.k, .int .i64 r.i, .int .i64 r.f, .int .i64 r.t, .int .i64 r.a, .int .i64 r.s, u] T)) w.heap.size r u := by
  refine ⟨?_, ?_, ?_, ?_, ?_, ?_, ?_, ?_, ?_, ?_, ?_, ?_, ?_, ?_, ?_⟩ <;> go_simp
theorem two_msgs (w : World) (T T' : TypeId) (r d : MsgD) (u v : Value) :
    MsgAt ((w.alloc (.cells #[.int .i64 r.kd, .int .i64 r.fr, .int .i64 r.tt, .int .i64 r.rp, .int .i64 r.no, .int .i64 r.b, .int .i64 r.v, .int .i64 r.st, .int .i64 r.k, .int .i64 r.i, .int .i64 r.f, .int .i64 r.t, .int .i64 r.a, .int .i64 r.s, u] T)).alloc (.cells #[.int .i64 d.kd, .int .i64 d.fr, .int .i64 d.tt, .int .i64 d.rp, .int .i64 d.no, .int .i64 d.b, .int .i64 d.v, .int .i64 d.st, .int .i64 d.k, .int .i64 d.i, .int .i64 d.f, .int .i64 d.t, .int .i64 d.a, .int .i64 d.s, v] T')) w.heap.size r u ∧
    MsgAt ((w.alloc (.cells #[.int .i64 r.kd, .int .i64 r.fr, .int .i64 r.tt, .int .i64 r.rp, .int .i64 r.no, .int .i64 r.b, .int .i64 r.v, .int .i64 r.st, .int .i64 r.k, .int .i64 r.i, .int .i64 r.f, .int .i64 r.t, .int .i64 r.a, .int .i64 r.s, u] T)).alloc (.cells #[.int .i64 d.kd, .int .i64 d.fr, .int .i64 d.tt, .int .i64 d.rp, .int .i64 d.no, .int .i64 d.b, .int .i64 d.v, .int .i64 d.st, .int .i64 d.k, .int .i64 d.i, .int .i64 d.f, .int .i64 d.t, .int .i64 d.a, .int .i64 d.s, v] T')) (w.heap.size + 1) d v := by
  refine ⟨⟨?_, ?_, ?_, ?_, ?_, ?_, ?_, ?_, ?_, ?_, ?_, ?_, ?_, ?_, ?_⟩, ⟨?_, ?_, ?_, ?_, ?_, ?_, ?_, ?_, ?_, ?_, ?_, ?_, ?_, ?_, ?_⟩⟩ <;> go_simp

/-- Fifteen cells of the block b may be written. -/
def FreeM (w : World) (b : Nat) : Prop :=
  w.frozen? ⟨b, 0, none⟩ = false ∧ w.frozen? ⟨b, 1, none⟩ = false ∧ w.frozen? ⟨b, 2, none⟩ = false ∧ w.frozen? ⟨b, 3, none⟩ = false ∧ w.frozen? ⟨b, 4, none⟩ = false ∧ w.frozen? ⟨b, 5, none⟩ = false ∧ w.frozen? ⟨b, 6, none⟩ = false ∧ w.frozen? ⟨b, 7, none⟩ = false ∧ w.frozen? ⟨b, 8, none⟩ = false ∧ w.frozen? ⟨b, 9, none⟩ = false ∧ w.frozen? ⟨b, 10, none⟩ = false ∧ w.frozen? ⟨b, 11, none⟩ = false ∧ w.frozen? ⟨b, 12, none⟩ = false ∧ w.frozen? ⟨b, 13, none⟩ = false ∧ w.frozen? ⟨b, 14, none⟩ = false
theorem FreeM.ext {w w' : World} {b : Nat} (hl : b < w.heap.size) (h : FreeM w b) (e : Ext w w') : FreeM w' b := by
  obtain ⟨h0, h1, h2, h3, h4, h5, h6, h7, h8, h9, h10, h11, h12, h13, h14⟩ := h
  exact ⟨e.frozen hl h0, e.frozen hl h1, e.frozen hl h2, e.frozen hl h3, e.frozen hl h4, e.frozen hl h5, e.frozen hl h6, e.frozen hl h7, e.frozen hl h8, e.frozen hl h9, e.frozen hl h10, e.frozen hl h11, e.frozen hl h12, e.frozen hl h13, e.frozen hl h14⟩
theorem freeM_set {w : World} {b : Nat} (a : Addr) (v : Value) (h : FreeM w b) : FreeM (w.setCell a v) b := by
  obtain ⟨h0, h1, h2, h3, h4, h5, h6, h7, h8, h9, h10, h11, h12, h13, h14⟩ := h
  refine ⟨?_, ?_, ?_, ?_, ?_, ?_, ?_, ?_, ?_, ?_, ?_, ?_, ?_, ?_, ?_⟩ <;> (rw [World.frozen?_setCell]; assumption)
theorem msg_apart {w : World} {b : Nat} {d : MsgD} {y : Value} (a : Addr) (v : Value) (hne : a.block ≠ b) (h : MsgAt w b d y) : MsgAt (w.setCell a v) b d y := by
  obtain ⟨h0, h1, h2, h3, h4, h5, h6, h7, h8, h9, h10, h11, h12, h13, h14⟩ := h
  refine ⟨?_, ?_, ?_, ?_, ?_, ?_, ?_, ?_, ?_, ?_, ?_, ?_, ?_, ?_, ?_⟩ <;> (rw [World.cell?_setCell_other _ _ _ _ (fun e => hne (by rw [e]))]; assumption)
theorem msg_set5 {w : World} {b : Nat} {d : MsgD} {y : Value} (k i f t a : Int) (h : MsgAt w b d y) :
    MsgAt (((((w.setCell ⟨b, 8, none⟩ (.int .i64 k)).setCell ⟨b, 9, none⟩ (.int .i64 i)).setCell ⟨b, 10, none⟩ (.int .i64 f)).setCell ⟨b, 11, none⟩ (.int .i64 t)).setCell ⟨b, 12, none⟩ (.int .i64 a)) b ⟨d.kd, d.fr, d.tt, d.rp, d.no, d.b, d.v, d.st, k, i, f, t, a, d.s, d.l⟩ y := by
  obtain ⟨h0, h1, h2, h3, h4, h5, h6, h7, h8, h9, h10, h11, h12, h13, h14⟩ := h
  refine ⟨?_, ?_, ?_, ?_, ?_, ?_, ?_, ?_, ?_, ?_, ?_, ?_, ?_, ?_, ?_⟩ <;> go_simp
def NewMsg (r : MsgD) (w : World) (e : Ending) (w' : World) : Prop :=
  ∃ u, e = .returned (.agg #[.int .i64 r.kd, .int .i64 r.fr, .int .i64 r.tt, .int .i64 r.rp, .int .i64 r.no, .int .i64 r.b, .int .i64 r.v, .int .i64 r.st, .int .i64 r.k, .int .i64 r.i, .int .i64 r.f, .int .i64 r.t, .int .i64 r.a, .int .i64 r.s, u]) ∧ Fresh w.heap.size w' u r.l ∧ Ext w w'

/-- Whether two commands are the same. -/
def sameC (k i f t a k' i' f' t' a' : Int) : Bool := k == k' && i == i' && f == f' && t == t' && a == a'
set_option maxHeartbeats 1000000 in
theorem eq_cmd (k i f t a k' i' f' t' a' : Int) (W : World) : (Op.equalIn 10000 36 (.agg #[.int .i64 k, .int .i64 i, .int .i64 f, .int .i64 t, .int .i64 a]) (.agg #[.int .i64 k', .int .i64 i', .int .i64 f', .int .i64 t', .int .i64 a'])).run Try.prog W = .ok (sameC k i f t a k' i' f' t' a') W := by
  have hS : Try.prog.underlying 36 = some (.struct (Try.prog.fieldsOf 36)) := by kernel_rfl
  have hp : Try.prog.stoodInHeld 36 = false := by kernel_rfl
  have hF : (Try.prog.fieldsOf 36).toList.map (fun f => (f.name == "_", f.type, f.offset)) = [(false, 3, 0), (false, 3, 1), (false, 3, 2), (false, 3, 3), (false, 3, 4)] := by kernel_rfl
  have hpart : ∀ (xs : Array Value) (j : Nat) (x : Int) (W : World), xs[j]? = some (.int .i64 x) → (part 3 xs j).run Try.prog W = .ok (.int .i64 x) W := by
    intro xs j x W hx
    obtain ⟨i0, hi, hz0, hz1, hz2⟩ := info_parts Try.infoInt
    unfold part
    go_simp
  have hq : ∀ (a b : Int) (W : World), (Op.equalIn 9999 3 (.int .i64 a) (.int .i64 b)).run Try.prog W = .ok (a == b) W := fun a b W => run_equalIn_int W 9998 3 .i64 .i64 a b Try.underlying3
  rw [show (10000 : Nat) = 9999 + 1 from rfl, run_equalIn_struct W 9999 _ _ _ hS hp]
  obtain ⟨L, hL⟩ : ∃ L, L = (Try.prog.fieldsOf 36).toList := ⟨_, rfl⟩
  rw [← hL] at hF ⊢
  clear hL hS hp
  obtain ⟨f0, f1, f2, f3, f4, rfl⟩ : ∃ f0 f1 f2 f3 f4, L = [f0, f1, f2, f3, f4] := by
    have hl : L.length = 5 := by have := congrArg List.length hF; simpa using this
    match L, hl with
    | [a, b, c, d, e], _ => exact ⟨a, b, c, d, e, rfl⟩
  simp only [List.map_cons, List.map_nil, List.cons.injEq, Prod.mk.injEq, and_true, beq_eq_false_iff_ne] at hF
  obtain ⟨⟨n0, t0, o0⟩, ⟨n1, t1, o1⟩, ⟨n2, t2, o2⟩, ⟨n3, t3, o3⟩, ⟨n4, t4, o4⟩⟩ := hF
  unfold sameC
  simp only [Op.eqFields, n0, n1, n2, n3, n4, t0, t1, t2, t3, t4, o0, o1, o2, o3, o4, ne_eq, not_false_eq_true, if_true, Sem.run_bind]
  rw [hpart _ _ k _ rfl]
  simp only [Result.andThen_ok]
  rw [hpart _ _ k' _ rfl]
  simp only [Result.andThen_ok]
  rw [hq]
  simp only [Result.andThen_ok]
  cases h0 : (k == k')
  · simp
  simp only [Bool.not_true, Bool.false_eq_true, if_false, Sem.run_bind]
  rw [hpart _ _ i _ rfl]
  simp only [Result.andThen_ok]
  rw [hpart _ _ i' _ rfl]
  simp only [Result.andThen_ok]
  rw [hq]
  simp only [Result.andThen_ok]
  cases h1 : (i == i')
  · simp
  simp only [Bool.not_true, Bool.false_eq_true, if_false, Sem.run_bind]
  rw [hpart _ _ f _ rfl]
  simp only [Result.andThen_ok]
  rw [hpart _ _ f' _ rfl]
  simp only [Result.andThen_ok]
  rw [hq]
  simp only [Result.andThen_ok]
  cases h2 : (f == f')
  · simp
  simp only [Bool.not_true, Bool.false_eq_true, if_false, Sem.run_bind]
  rw [hpart _ _ t _ rfl]
  simp only [Result.andThen_ok]
  rw [hpart _ _ t' _ rfl]
  simp only [Result.andThen_ok]
  rw [hq]
  simp only [Result.andThen_ok]
  cases h3 : (t == t')
  · simp
  simp only [Bool.not_true, Bool.false_eq_true, if_false, Sem.run_bind]
  rw [hpart _ _ a _ rfl]
  simp only [Result.andThen_ok]
  rw [hpart _ _ a' _ rfl]
  simp only [Result.andThen_ok]
  rw [hq]
  simp only [Result.andThen_ok]
  cases h4 : (a == a')
  · simp
  simp

/-- Whether the eight numbers are the same. -/
def sameH (r d : MsgD) : Bool := r.kd == d.kd && r.fr == d.fr && r.tt == d.tt && r.rp == d.rp && r.no == d.no && r.b == d.b && r.v == d.v && r.st == d.st
def sameM (r d : MsgD) : Bool := sameH r d && (sameC r.k r.i r.f r.t r.a d.k d.i d.f d.t d.a && sameA r.s d.s r.l d.l)
set_option maxHeartbeats 1000000 in
theorem eq_eight (r d : MsgD) (W : World) : (Op.equalIn 10000 207 (.agg #[.int .i64 r.kd, .int .i64 r.fr, .int .i64 r.tt, .int .i64 r.rp, .int .i64 r.no, .int .i64 r.b, .int .i64 r.v, .int .i64 r.st]) (.agg #[.int .i64 d.kd, .int .i64 d.fr, .int .i64 d.tt, .int .i64 d.rp, .int .i64 d.no, .int .i64 d.b, .int .i64 d.v, .int .i64 d.st])).run Try.prog W = .ok (sameH r d) W := by
  obtain ⟨i0, hi, hz0, hz1, hz2⟩ := info_parts Try.infoInt
  have hc : Try.prog.cellsOf 3 = 1 := by kernel_rfl
  have hp : ∀ (xs : Array Value) (j : Nat) (x : Int) (W : World), xs[j]? = some (.int .i64 x) → (part 3 xs j).run Try.prog W = .ok (.int .i64 x) W := by
    intro xs j x W hx
    unfold part
    go_simp
  have hq : ∀ (a b : Int) (W : World), (Op.equalIn 9999 3 (.int .i64 a) (.int .i64 b)).run Try.prog W = .ok (a == b) W := fun a b W => run_equalIn_int W 9998 3 .i64 .i64 a b Try.underlying3
  rw [show (10000 : Nat) = 9999 + 1 from rfl, run_equalIn_array W 9999 _ _ Try.underlying207 hi, hc, show List.range 8 = [0, 1, 2, 3, 4, 5, 6, 7] from rfl]
  simp only [Op.eqItems, Sem.run_bind]
  unfold sameH
  rw [hp _ _ r.kd _ rfl]
  simp only [Result.andThen_ok]
  rw [hp _ _ d.kd _ rfl]
  simp only [Result.andThen_ok]
  rw [hq]
  simp only [Result.andThen_ok]
  cases h0 : (r.kd == d.kd)
  · simp
  simp only [Bool.not_true, Bool.false_eq_true, if_false, Sem.run_bind]
  rw [hp _ _ r.fr _ rfl]
  simp only [Result.andThen_ok]
  rw [hp _ _ d.fr _ rfl]
  simp only [Result.andThen_ok]
  rw [hq]
  simp only [Result.andThen_ok]
  cases h1 : (r.fr == d.fr)
  · simp
  simp only [Bool.not_true, Bool.false_eq_true, if_false, Sem.run_bind]
  rw [hp _ _ r.tt _ rfl]
  simp only [Result.andThen_ok]
  rw [hp _ _ d.tt _ rfl]
  simp only [Result.andThen_ok]
  rw [hq]
  simp only [Result.andThen_ok]
  cases h2 : (r.tt == d.tt)
  · simp
  simp only [Bool.not_true, Bool.false_eq_true, if_false, Sem.run_bind]
  rw [hp _ _ r.rp _ rfl]
  simp only [Result.andThen_ok]
  rw [hp _ _ d.rp _ rfl]
  simp only [Result.andThen_ok]
  rw [hq]
  simp only [Result.andThen_ok]
  cases h3 : (r.rp == d.rp)
  · simp
  simp only [Bool.not_true, Bool.false_eq_true, if_false, Sem.run_bind]
  rw [hp _ _ r.no _ rfl]
  simp only [Result.andThen_ok]
  rw [hp _ _ d.no _ rfl]
  simp only [Result.andThen_ok]
  rw [hq]
  simp only [Result.andThen_ok]
  cases h4 : (r.no == d.no)
  · simp
  simp only [Bool.not_true, Bool.false_eq_true, if_false, Sem.run_bind]
  rw [hp _ _ r.b _ rfl]
  simp only [Result.andThen_ok]
  rw [hp _ _ d.b _ rfl]
  simp only [Result.andThen_ok]
  rw [hq]
  simp only [Result.andThen_ok]
  cases h5 : (r.b == d.b)
  · simp
  simp only [Bool.not_true, Bool.false_eq_true, if_false, Sem.run_bind]
  rw [hp _ _ r.v _ rfl]
  simp only [Result.andThen_ok]
  rw [hp _ _ d.v _ rfl]
  simp only [Result.andThen_ok]
  rw [hq]
  simp only [Result.andThen_ok]
  cases h6 : (r.v == d.v)
  · simp
  simp only [Bool.not_true, Bool.false_eq_true, if_false, Sem.run_bind]
  rw [hp _ _ r.st _ rfl]
  simp only [Result.andThen_ok]
  rw [hp _ _ d.st _ rfl]
  simp only [Result.andThen_ok]
  rw [hq]
  simp only [Result.andThen_ok]
  cases h7 : (r.st == d.st)
  · simp
  simp
end Go.Proofs.Ythnoeknalpnadaa

namespace Go.Proofs.Ythnoeknalpnadaa
open Go.RowKit
set_option linter.unusedVariables false

/-- The rows of a state. -/
def inSt (S : List RowD) (st : Int) : List RowD := S.filter fun r => r.st == st
/-- The first of the greatest vote. -/
def lastV (L : List RowD) : RowD := match L with
  | [] => zeroR
  | a :: t => t.foldl (fun m r => if m.v < r.v then r else m) a
theorem lastV_one (r : RowD) : lastV [r] = r := rfl
theorem lastV_snoc {L : List RowD} (h : L ≠ []) (r : RowD) : lastV (L ++ [r]) = if (lastV L).v < r.v then r else lastV L := by
  cases L with
  | nil => exact absurd rfl h
  | cons a t =>
    show (t ++ [r]).foldl _ a = _
    rw [List.foldl_append]
    rfl
theorem inSt_yes {S : List RowD} {st : Int} {k : Nat} (h : k < S.length) (hs : (S[k].st == st) = true) : inSt (S.take (k + 1)) st = inSt (S.take k) st ++ [S[k]] := by
  unfold inSt
  rw [List.take_succ_eq_append_getElem h, List.filter_append]
  simp [hs]
theorem inSt_no {S : List RowD} {st : Int} {k : Nat} (h : k < S.length) (hs : (S[k].st == st) = false) : inSt (S.take (k + 1)) st = inSt (S.take k) st := by
  unfold inSt
  rw [List.take_succ_eq_append_getElem h, List.filter_append]
  simp [hs]
theorem lastV_mem {L : List RowD} (h : L ≠ []) : lastV L ∈ L := by
  cases L with
  | nil => exact absurd rfl h
  | cons a t =>
    have : ∀ (t : List RowD) (a : RowD) (M : List RowD), a ∈ M → (∀ x ∈ t, x ∈ M) → t.foldl (fun m r => if m.v < r.v then r else m) a ∈ M := by
      intro t
      induction t with
      | nil => intro a M ha _; exact ha
      | cons x t ih =>
        intro a M ha ht
        simp only [List.foldl_cons]
        apply ih
        · split
          · exact ht x (by simp)
          · exact ha
        · exact fun y hy => ht y (by simp [hy])
    exact this t a (a :: t) (by simp) (fun x hx => by simp [hx])
/-- As it was first proposed, and like x. -/
def likeB (x r : RowD) : Bool := (r.st == 1) && ((r.v == 0) && (sameC r.k r.i r.f r.t r.a x.k x.i x.f x.t x.a && sameA r.s x.s r.l x.l))
def head0 (S : List RowD) : RowD := S[0]?.getD zeroR
def alike (S : List RowD) (k : Nat) : Bool := (S.take k).all (likeB (head0 S))
theorem alike_succ {S : List RowD} {k : Nat} (h : k < S.length) : alike S (k + 1) = (alike S k && likeB (head0 S) S[k]) := by
  unfold alike
  rw [List.take_succ_eq_append_getElem h, List.all_append]
  simp
/-- Their attributes. -/
def attrsOf (L : List RowD) : List (Int × List Int) := L.map fun r => (r.s, r.l)
theorem attrsOf_len (L : List RowD) : (attrsOf L).length = L.length := by simp [attrsOf]
def joinS_ (n : Int) (L : List RowD) : Int := sN (attrsOf L) (attrsOf L).length
def joinL_ (n : Int) (L : List RowD) : List Int := (dN (attrsOf L) (attrsOf L).length).take n.toNat
theorem sN_all (A : List (Int × List Int)) (x : Int × List Int) : sN (A ++ [x]) (A ++ [x]).length = mx (sN A A.length) x.1 := by
  unfold sN
  rw [List.take_length, List.take_length, List.foldl_append]
  rfl
theorem dN_all (A : List (Int × List Int)) (x : Int × List Int) : dN (A ++ [x]) (A ++ [x]).length = dStep (dN A A.length) x.2 := by
  unfold dN
  rw [List.take_length, List.take_length, List.foldl_append]
  rfl
theorem mx_mo (x y : Int) : mx x y = mo x y := by unfold mx mo; split <;> split <;> omega
theorem joinS_snoc (n : Int) (L : List RowD) (r : RowD) : joinS_ n (L ++ [r]) = mo (joinS_ n L) r.s := by
  unfold joinS_
  have e : attrsOf (L ++ [r]) = attrsOf L ++ [(r.s, r.l)] := by simp [attrsOf]
  rw [e, sN_all, mx_mo]
theorem joinL_len {n : Int} (h : isGrp n = true) (L : List RowD) : ((joinL_ n L).length : Int) = n := by
  unfold joinL_
  rw [List.length_take, dN_len]
  rcases isGrp_of h with rfl | rfl <;> rfl
theorem at0_take {l : List Int} {m i : Nat} (h : i < m) : at0 (l.take m) i = at0 l i := by
  unfold at0
  rw [List.getElem?_take, if_pos h]
theorem joinL_snoc {n : Int} (h : isGrp n = true) (L : List RowD) (r : RowD) : joinL_ n (L ++ [r]) = joinTo (joinL_ n L) r.l (joinL_ n L).length := by
  have hl := joinL_len h L
  unfold joinL_ at hl ⊢
  have e : attrsOf (L ++ [r]) = attrsOf L ++ [(r.s, r.l)] := by simp [attrsOf]
  rw [e, dN_all]
  unfold dStep joinTo
  rw [← List.map_take, List.take_range]
  have hm : (List.take n.toNat (dN (attrsOf L) (attrsOf L).length)).length = n.toNat := by omega
  have hn : n.toNat ≤ 5 := by rcases isGrp_of h with rfl | rfl <;> decide
  rw [hm, Nat.min_eq_left hn]
  refine List.map_congr_left fun i hi => ?_
  rw [List.mem_range] at hi
  rw [mx_mo, at0_take hi]
theorem joinL_nil {n : Int} (h : isGrp n = true) : joinL_ n [] = noneL n := by
  rcases isGrp_of h with rfl | rfl <;> rfl
theorem joinS_nil (n : Int) : joinS_ n [] = 0 := rfl
/-- One good attribute is itself. -/
theorem goodD_parts {n s : Int} {l : List Int} (h : goodD n s l = true) : 0 ≤ s ∧ (l.length : Int) = n ∧ allIn l 0 6 = true := by
  unfold goodD inB at h
  simp only [Bool.and_eq_true, decide_eq_true_eq] at h
  exact ⟨h.1.1.1, h.1.2, h.2⟩
theorem all_nonneg {l : List Int} (h : allIn l 0 6 = true) (i : Nat) : 0 ≤ at0 l i := by
  unfold at0
  by_cases hi : i < l.length
  · rw [List.getElem?_eq_getElem hi, Option.getD_some]
    unfold allIn at h
    rw [List.all_eq_true] at h
    have := h _ (List.getElem_mem hi)
    unfold inB at this
    simp at this
    exact this.1
  · rw [List.getElem?_eq_none (by omega)]; simp
theorem join_one {n : Int} {r : RowD} (hn : isGrp n = true) (h : goodD n r.s r.l = true) : joinS_ n [r] = r.s ∧ joinL_ n [r] = r.l := by
  obtain ⟨h0, hl, ha⟩ := goodD_parts h
  have e1 := joinS_snoc n [] r
  have e2 := joinL_snoc hn [] r
  rw [List.nil_append] at e1 e2
  constructor
  · rw [e1, joinS_nil]; unfold mo; split <;> omega
  · rw [e2]
    have hz : ∀ i, at0 (joinL_ n []) i = 0 := by
      intro i
      rw [joinL_nil hn]
      have hz : ∀ m : Nat, at0 (List.replicate m 0) i = 0 := fun m => by
        unfold at0
        rw [List.getElem?_replicate]
        split <;> rfl
      rcases isGrp_of hn with rfl | rfl
      · exact hz 3
      · exact hz 5
    have hll : (joinL_ n ([] : List RowD)).length = r.l.length := by have := joinL_len hn ([] : List RowD); omega
    rw [hll]
    unfold joinTo
    refine List.ext_getElem (by simp) (fun i h1 h2 => ?_)
    rw [List.getElem_map, List.getElem_range, hz]
    have := all_nonneg ha i
    have e : at0 r.l i = r.l[i] := by unfold at0; rw [List.getElem?_eq_getElem h2, Option.getD_some]
    rw [← e]
    unfold mo
    split <;> omega
/-- Good rows of which none is settled. -/
def toldB (n : Int) (r : RowD) : Bool := !(r.st == 3) && goodRow n r
def chooseOk (n : Int) (S : List RowD) : Bool := isGrp n && (inB (S.length : Int) (n / 2 + 1) n && S.all (toldB n))
/-- The way (in b), the command and the attribute. -/
def wayOf (n : Int) (S : List RowD) : Int := if inSt S 2 ≠ [] then 1 else if alike S S.length = true then 1 else if inSt S 1 ≠ [] then 2 else 3
def pickOf (n : Int) (S : List RowD) : RowD := if inSt S 2 ≠ [] then lastV (inSt S 2) else if alike S S.length = true then head0 S else if inSt S 1 ≠ [] then ⟨0, 0, 0, (lastV (inSt S 1)).k, (lastV (inSt S 1)).i, (lastV (inSt S 1)).f, (lastV (inSt S 1)).t, (lastV (inSt S 1)).a, joinS_ n (inSt S 1), joinL_ n (inSt S 1)⟩ else ⟨0, 0, 0, 0, 0, 0, 0, 0, 0, noneL n⟩
def wayR (n : Int) (S : List RowD) : Int := if chooseOk n S then wayOf n S else 0
def pickR (n : Int) (S : List RowD) : RowD := if chooseOk n S then pickOf n S else zeroR
/-- Way, command, attribute and whether it is told come back. -/
def FourW (y : Int) (r : RowD) (b : Bool) (w : World) (e : Ending) (w' : World) : Prop := ∃ u, e = .returned (.tuple #[.int .i64 y, .agg #[.int .i64 r.k, .int .i64 r.i, .int .i64 r.f, .int .i64 r.t, .int .i64 r.a], .agg #[.int .i64 r.s, u], .bool b]) ∧ Fresh w.heap.size w' u r.l ∧ Ext w w'
end Go.Proofs.Ythnoeknalpnadaa
