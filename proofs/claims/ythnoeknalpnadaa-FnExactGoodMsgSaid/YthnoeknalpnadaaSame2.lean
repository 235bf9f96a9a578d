/- Contract of the program's SameAttr: five numbers at a time are compared. -/
import Derived.Test.YthnoeknalpnadaaSame
import Derived.Deep.RegionHeld3
import Derived.ChangeKeysEq
namespace Go.Proofs.Ythnoeknalpnadaa
open Go.RowKit
set_option linter.unusedVariables false

theorem ints_drop {w : World} {b off cap : Nat} {l : List Int} (k : Nat) (hk : k ≤ l.length) (hm : l.length ≤ 9223372036854775807) (hcap : l.length ≤ cap) (hcm : cap ≤ 9223372036854775807)
    (h : ∀ j, j < l.length → w.cell? ⟨b, off + j, none⟩ = some (.int .i64 (l[j]?.getD 0))) : Ints w (.slice (some ⟨b, off + k, none⟩) (l.length - k) (cap - k)) (l.drop k) := by
  refine ⟨some ⟨b, off + k, none⟩, cap - k, by rw [List.length_drop], by unfold maxLen; rw [List.length_drop]; omega, ⟨by rw [List.length_drop]; omega, by unfold maxLen; omega, fun h => by cases h⟩, fun _ => ⟨b, off + k, rfl, fun j hj => ?_⟩⟩
  rw [List.length_drop] at hj
  rw [Nat.add_assoc, h (k + j) (by omega), List.getElem?_drop]

/-- Whether the first five numbers are the same. -/
def sameFive (l r : List Int) : Bool := at0 l 0 == at0 r 0 && at0 l 1 == at0 r 1 && at0 l 2 == at0 r 2 && at0 l 3 == at0 r 3 && at0 l 4 == at0 r 4
theorem sameFive_take : ∀ (l r : List Int), l.length = r.length → (sameFive l r = true ↔ l.take 5 = r.take 5)
  | [], [], _ => by simp [sameFive]
  | [a], [b], _ => by simp [sameFive, at0]
  | [a, b], [c, d], _ => by simp [sameFive, at0]
  | [a, b, c], [d, e, f], _ => by simp [sameFive, at0, and_assoc]
  | [a, b, c, d], [e, f, g, h], _ => by simp [sameFive, at0, and_assoc]
  | a :: b :: c :: d :: e :: l, f :: g :: h :: i :: j :: r, _ => by simp [sameFive, at0, and_assoc]
theorem take_five {l r : List Int} (h : l.length = r.length) (m : Nat) (ht : l.take (5 * m) = r.take (5 * m)) (hs : sameFive (l.drop (5 * m)) (r.drop (5 * m)) = true) : l.take (5 * (m + 1)) = r.take (5 * (m + 1)) := by
  have h5 := (sameFive_take _ _ (by simp [h])).1 hs
  rw [show 5 * (m + 1) = 5 * m + 5 by omega, List.take_add, List.take_add, ht, h5]
theorem differ_five {l r : List Int} (hl : l.length = r.length) (m : Nat) (hs : sameFive (l.drop (5 * m)) (r.drop (5 * m)) = false) : l ≠ r := by
  intro e
  subst e
  have := (sameFive_take (l.drop (5 * m)) (l.drop (5 * m)) rfl).2 rfl
  rw [this] at hs
  cases hs

set_option maxHeartbeats 1000000 in
theorem eq_five (L R : List Int) (W : World) : (Op.equalIn 10000 178 (.agg (five L)) (.agg (five R))).run Try.prog W = .ok (sameFive L R) W := by
  obtain ⟨i0, hi, hz0, hz1, hz2⟩ := info_parts Try.infoInt
  have hc : Try.prog.cellsOf 3 = 1 := by kernel_rfl
  have hp : ∀ (xs : Array Value) (j : Nat) (x : Int) (W : World), xs[j]? = some (.int .i64 x) → (part 3 xs j).run Try.prog W = .ok (.int .i64 x) W := by
    intro xs j x W hx
    unfold part
    go_simp
  have hq : ∀ (a b : Int) (W : World), (Op.equalIn 9999 3 (.int .i64 a) (.int .i64 b)).run Try.prog W = .ok (a == b) W := fun a b W => run_equalIn_int W 9998 3 .i64 .i64 a b Try.underlying3
  rw [show (10000 : Nat) = 9999 + 1 from rfl, run_equalIn_array W 9999 _ _ Try.underlying178 hi, hc, show List.range 5 = [0, 1, 2, 3, 4] from rfl]
  simp only [Op.eqItems, Sem.run_bind]
  rw [hp _ _ (at0 L 0) _ rfl]
  simp only [Result.andThen_ok]
  rw [hp _ _ (at0 R 0) _ rfl]
  simp only [Result.andThen_ok]
  rw [hq]
  simp only [Result.andThen_ok]
  unfold sameFive
  cases h0 : (at0 L 0 == at0 R 0)
  · simp
  simp only [Bool.not_true, Bool.false_eq_true, if_false, Sem.run_bind]
  rw [hp _ _ (at0 L 1) _ rfl]
  simp only [Result.andThen_ok]
  rw [hp _ _ (at0 R 1) _ rfl]
  simp only [Result.andThen_ok]
  rw [hq]
  simp only [Result.andThen_ok]
  cases h1 : (at0 L 1 == at0 R 1)
  · simp
  simp only [Bool.not_true, Bool.false_eq_true, if_false, Sem.run_bind]
  rw [hp _ _ (at0 L 2) _ rfl]
  simp only [Result.andThen_ok]
  rw [hp _ _ (at0 R 2) _ rfl]
  simp only [Result.andThen_ok]
  rw [hq]
  simp only [Result.andThen_ok]
  cases h2 : (at0 L 2 == at0 R 2)
  · simp
  simp only [Bool.not_true, Bool.false_eq_true, if_false, Sem.run_bind]
  rw [hp _ _ (at0 L 3) _ rfl]
  simp only [Result.andThen_ok]
  rw [hp _ _ (at0 R 3) _ rfl]
  simp only [Result.andThen_ok]
  rw [hq]
  simp only [Result.andThen_ok]
  cases h3 : (at0 L 3 == at0 R 3)
  · simp
  simp only [Bool.not_true, Bool.false_eq_true, if_false, Sem.run_bind]
  rw [hp _ _ (at0 L 4) _ rfl]
  simp only [Result.andThen_ok]
  rw [hp _ _ (at0 R 4) _ rfl]
  simp only [Result.andThen_ok]
  rw [hq]
  simp only [Result.andThen_ok]
  cases h4 : (at0 L 4 == at0 R 4)
  · simp
  simp

set_option maxRecDepth 100000 in
set_option maxHeartbeats 2000000 in
theorem implSame_loop (s : Int) (u v : Value) (l r : List Int) (w : World) (hu : Ints w u l) (hv : Ints w v r) (hl : l.length = r.length) (hsz : l.length ≤ 1099511627776) :
    Calls Try.prog 149 #[.agg #[.int .i64 s, u], .agg #[.int .i64 s, v]] w (BoolExt (decide (l = r)) w) := by
  obtain ⟨au, cu, rfl, hlu, hcapu, hcu⟩ := hu
  obtain ⟨av, cv, rfl, hlv, hcapv, hcv⟩ := hv
  have hcu1 := hcapu.1
  have hcu2 := hcapu.2.1
  have hcv1 := hcapv.1
  have hcv2 := hcapv.2.1
  unfold maxLen at hlu hlv hcu2 hcv2
  have e0 : ((l.length : Int) != (r.length : Int)) = false := by simp [hl]
  have es : (s != s) = false := by simp
  have HCU := Lib.hid hcu
  have HCV := Lib.hid hcv
  have HB := Lib.hid (box2 w s s (.slice au l.length cu) (.slice av r.length cv) 39)
  have HL := Lib.hid hl
  clear hcapu hcapv hcu hcv hl
  go_enter Try.func149, Try.ntmps149
  go_wp2
  go_loopw [5] (fun i wr => ∃ k : Nat, i = .int .i64 k ∧ k ≤ l.length + 4 ∧ Hid (∃ m, k = 5 * m ∧ l.take (5 * m) = r.take (5 * m)) ∧ Ext ((w.alloc (.cells #[.int .i64 s, .slice au l.length cu] 39)).alloc (.cells #[.int .i64 s, .slice av r.length cv] 39)) wr) (fun i _ => l.length + 5 - (intOf i).toNat)
  case atStart => exact ⟨0, rfl, by omega, Lib.hid ⟨0, rfl, rfl⟩, Ext.refl _⟩
  case round =>
    obtain ⟨k, rfl, hm, HT, hx⟩ := hrel
    obtain ⟨⟨c0, c1⟩, d0, d1⟩ := And.intro (HB.out.1.ext hx) (HB.out.2.ext hx)
    have X := Lib.hid ((Ext.alloc2 _ _ _).trans hx : Ext w wr)
    have X' := Lib.hid hx
    clear c0 d0 hx
    by_cases hlt : k < l.length
    · have hltr : k < r.length := by have := HL.out; omega
      obtain ⟨bu, ou, rfl, du⟩ := HCU.out (by omega)
      obtain ⟨bv, ov, rfl, dv⟩ := HCV.out (by omega)
      have iu := ints_drop k (by omega) hlu hcu1 hcu2 du
      have iv := ints_drop k (by omega) hlv hcv1 hcv2 dv
      have IU := Lib.hid (iu.ext X.out)
      have IV := Lib.hid (iv.ext X.out)
      have hc1 : k < cu := by omega
      have hc2 : k < cv := by omega
      have hd1 : cu ≠ k := by omega
      have hd2 : cv ≠ k := by omega
      have i0 : (0 : Int) ≤ k := by omega
      have i1 : (k : Int) ≤ l.length := by omega
      have i2 : (k : Int) ≤ r.length := by omega
      have heq := fun (W : World) => eq_five (l.drop k) (r.drop k) W
      clear du dv iu iv
      go_wp2
      go_region_held3 (fun W => Ext wr W ∧ W.cell? ⟨w.heap.size, 1, none⟩ = some (.slice (some ⟨bu, ou, none⟩) l.length cu) ∧ W.cell? ⟨w.heap.size + 1, 1, none⟩ = some (.slice (some ⟨bv, ov, none⟩) r.length cv)) (first | (exact keep2 (by assumption) (by assumption)) | (exact ⟨Ext.drew (Ext.refl _), c1, d1⟩)) (first | (go_at_call_of 147 (Value.slice (some ⟨bu, ou + k, none⟩) (l.length - k) (cu - k)); refine (depsIn_any _ _ _ (IU.out.ext (And.left (by assumption)))).mono ?_; rintro e W ⟨rfl, x⟩) | (go_at_call_of 147 (Value.slice (some ⟨bv, ov + k, none⟩) (r.length - k) (cv - k)); refine (depsIn_any _ _ _ (IV.out.ext (And.left (by assumption)))).mono ?_; rintro e W ⟨rfl, x⟩))
      rename_i hH
      have hx2 := X'.out.trans hH.1
      have hy2 := X.out.trans hH.1
      clear hH heq
      cases hsf : sameFive (l.drop k) (r.drop k)
      · have HSF := Lib.hid hsf
        clear hsf
        go_wp2
        go_ret
        refine ⟨?_, hy2⟩
        have hne : decide (l = r) = false := decide_eq_false (by
          obtain ⟨m, hkm, _⟩ := HT.out
          have h := HSF.out
          rw [hkm] at h
          exact differ_five HL.out m h)
        rw [hne]; rfl
      · have HSF := Lib.hid hsf
        clear hsf
        go_wp2
        go_roundw
        case rel => exact ⟨k + 5, by go_num, by omega, Lib.hid (by
          obtain ⟨m, hkm, ht⟩ := HT.out
          have h := HSF.out
          rw [hkm] at h
          exact ⟨m + 1, by omega, take_five HL.out m ht h⟩), hx2⟩
        case measure => simp [intOf]; omega
    · go_wp2
      go_ret
      refine ⟨?_, X.out⟩
      have he : decide (l = r) = true := decide_eq_true (by
        obtain ⟨m, hkm, ht⟩ := HT.out
        have h1 := HL.out
        rw [List.take_of_length_le (by omega), List.take_of_length_le (by omega)] at ht
        exact ht)
      rw [he]; rfl

set_option maxHeartbeats 1000000 in
theorem implSame_any (s t : Int) (u v : Value) (l r : List Int) (w : World) (hu : Ints w u l) (hv : Ints w v r) (hsz : l.length ≤ 1099511627776) :
    Calls Try.prog 149 #[.agg #[.int .i64 s, u], .agg #[.int .i64 t, v]] w (BoolExt (sameA s t l r) w) := by
  unfold sameA
  by_cases hs : s = t
  · subst hs
    rw [show (s == s) = true by simp, Bool.true_and]
    by_cases hl : l.length = r.length
    · exact implSame_loop s u v l r w hu hv hl hsz
    · have hne : decide (l = r) = false := decide_eq_false (fun h => hl (by rw [h]))
      rw [hne]
      obtain ⟨au, cu, rfl, hlu, _, _⟩ := hu
      obtain ⟨av, cv, rfl, hlv, _, _⟩ := hv
      unfold maxLen at hlu hlv
      have e0 : ((l.length : Int) != (r.length : Int)) = true := by simp; omega
      have es : (s != s) = false := by simp
      clear hl hne
      go_enter Try.func149, Try.ntmps149
      go_wp2
      go_ret
      exact ⟨rfl, Ext.alloc2 _ _ _⟩
  · rw [show (s == t) = false by simp [hs], Bool.false_and]
    have es : (s != t) = true := by simp [hs]
    clear hs
    go_enter Try.func149, Try.ntmps149
    go_wp2
    go_ret
    exact ⟨rfl, Ext.alloc2 _ _ _⟩

end Go.Proofs.Ythnoeknalpnadaa
