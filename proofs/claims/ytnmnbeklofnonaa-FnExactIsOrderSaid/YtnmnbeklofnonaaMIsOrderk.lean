/- Texts of this proof, part k: words, plain facts, contracts. -/
import Derived.Test.YtnmnbeklofnonaaMIsOrderj

namespace Go.Proofs.Ytnmnbeklofnonaa
open Go.RowKit
set_option linter.unusedVariables false

/-- What is left, -1 where there is not enough. -/
def lessened (left : Int) (n : Nat) : Int := if left < n then -1 else left - n
theorem lessened_no {left : Int} {n : Nat} (h : left < n) : lessened left n = -1 := by unfold lessened; rw [if_pos h]
theorem lessened_yes {left : Int} {n : Nat} (h : (n : Int) ≤ left) : lessened left n = left - n := by unfold lessened; rw [if_neg (by omega)]

set_option maxHeartbeats 400000 in
theorem szIntS_any (v : Value) (l : List Int) (left : Int) (w : World) (hv : Ints w v l) (h0 : 0 ≤ left) (h1 : left ≤ 1099511627776) :
    Calls Try.prog 62 #[v, .int .i64 left] w fun e w' => e = .returned (.int .i64 (lessened left l.length)) ∧ w = w' := by
  obtain ⟨av, cv, rfl, hlv, _, hcv⟩ := hv
  unfold maxLen at hlv
  by_cases hlt : left < l.length
  · rw [lessened_no hlt]
    go_enter Try.func62, Try.ntmps62
    go_wp2
    go_ret
    exact ⟨rfl, rfl⟩
  · rw [lessened_yes (by omega)]
    go_enter Try.func62, Try.ntmps62
    go_wp2
    go_ret
    exact ⟨rfl, rfl⟩

set_option maxHeartbeats 800000 in
theorem szIntSS_any (v : Value) (L : List (List Int)) (left : Int) (w : World) (hv : Intss w v L) (h0 : 0 ≤ left) (h1 : left ≤ 1099511627776) :
    Calls Try.prog 21 #[v, .int .i64 left] w (IntExt (lessened left (bulk L)) w) := by
  obtain ⟨av, cv, rfl, hlv, _, hcv⟩ := hv
  unfold maxLen at hlv
  have hb : bulk L = L.length + (L.map List.length).sum := rfl
  by_cases hlt : left < L.length
  · rw [lessened_no (by omega)]
    clear hb hcv
    go_enter Try.func21, Try.ntmps21
    go_wp2
    go_ret
    exact ⟨rfl, Ext.refl _⟩
  · have HBK := Lib.hid hb
    have hle : (L.length : Int) ≤ left := by omega
    clear hb hlt
    go_enter Try.func21, Try.ntmps21
    go_wp2
    go_loopw [1, 5] (fun m i wr => ∃ (k : Nat) (r : Int), k ≤ L.length ∧ i = .int .i64 k ∧ m = .int .i64 r ∧ 0 ≤ r ∧ Hid (r = left - L.length - sumTo L k) ∧ wr = w) (fun _ i _ => L.length - (intOf i).toNat)
    case atStart => exact ⟨0, left - L.length, Nat.zero_le _, rfl, rfl, by omega, Lib.hid (by simp [sumTo]), rfl⟩
    case round =>
      obtain ⟨k, r, hk, rfl, rfl, hr0, hr, rfl⟩ := hrel
      have hr1 : r ≤ 1099511627776 := by have := hr.out; omega
      by_cases hk' : k < L.length
      · obtain ⟨bv, ov, rfl, dv⟩ := hcv (by omega)
        obtain ⟨x, hx1, ix⟩ := dv k hk'
        rw [List.getElem?_eq_getElem hk', Option.getD_some] at ix
        have hs := sumTo_succ hk'
        have hm := sumTo_mono (L := L) (k := k + 1) (by omega)
        have HS := Lib.hid (And.intro hs hm)
        clear hcv dv hs hm
        go_wp2_with fail
        refine (szIntS_any _ _ _ _ ix hr0 hr1).mono ?_
        rintro e w' ⟨rfl, rfl⟩
        by_cases hc : r < (L[k]).length
        · rw [lessened_no hc]
          go_wp2
          go_ret
          refine ⟨?_, Ext.refl _⟩
          have h1 := hr.out
          have h2 := HS.out
          have h3 := HBK.out
          rw [lessened_no (by omega)]
          rfl
        · rw [lessened_yes (by omega)]
          skip
          have hr2 : 0 ≤ r - (L[k]).length := by omega
          go_wp2
          go_roundw
          case rel => exact ⟨k + 1, r - (L[k]).length, by omega, by go_num, rfl, hr2, Lib.hid (by have h1 := hr.out; have h2 := HS.out.1; omega), by trivial⟩
          case measure => simp [intOf]; omega
      · obtain rfl : k = L.length := by omega
        go_wp2
        go_ret
        refine ⟨?_, Ext.refl _⟩
        have h1 := hr.out
        have h3 := HBK.out
        rw [sumTo_all] at h1
        have he : lessened left (bulk L) = r := by rw [lessened_yes (by omega)]; omega
        rw [he]; rfl

theorem set_next (vs : List Value) (z n : Value) (k m : Nat) (hk : vs.length = k) (hm : k < m) : (vs ++ List.replicate (m - k) n).set k z = (vs ++ [z]) ++ List.replicate (m - (k + 1)) n := by
  rw [List.set_append_right _ _ (by omega), hk, Nat.sub_self]
  have e : m - k = (m - (k + 1)) + 1 := by omega
  rw [e, List.replicate_succ, List.set_cons_zero]
  simp

set_option maxHeartbeats 800000 in
theorem toIntSS_any (u : Value) (L : List (List Int)) (w : World) (hu : Intss w u L) (hs : bulk L ≤ 1099511627776) :
    Calls Try.prog 23 #[u] w (NewIntss L w) := by
  obtain ⟨au, cu, rfl, hlu, _, hcu⟩ := hu
  unfold maxLen at hlu
  have hL : L.length ≤ 1099511627776 := by unfold bulk at hs; omega
  obtain ⟨i0, hi, hz0, hz1, hz2⟩ := info_parts Try.infoInts
  have HS := Lib.hid hs
  clear hs
  go_enter Try.func23, Try.ntmps23
  go_wp2_with (at_make; refine wpList_make_full _ rfl _ _ 50 rfl w.heap.size 27 i0 (.slice none 0 0) 1 Try.underlying50 hi hz0 hz1 _ _ _ _ L.length rfl rfl rfl rfl ?c1 ?c2 ?c3 ?_)
  case c1 => rw [hz2]; omega
  case c2 => unfold maxLen; omega
  case c3 => simp
  intro w1 ho1 hg1
  have hx1 : Ext w w1 := ext_of_grown hg1
  have ho : w1.ownsRow w.heap.size 27 1 (.slice (some ⟨w.heap.size, 0, none⟩) L.length L.length) L.length (([] : List Value) ++ List.replicate (L.length - 0) (.slice none 0 0)) := by
    rw [toList_madeCells_one] at ho1
    simpa using ho1
  have hsz : w.heap.size < w1.heap.size := by
    rcases ho1.2 with ⟨h, _⟩ | ⟨g, cap, cur, h, hb, hg, _⟩
    · cases h
    · simp only [Value.slice.injEq, Option.some.injEq, Addr.mk.injEq, and_true, true_and] at h
      obtain ⟨rfl, _⟩ := h
      exact (Array.getElem?_eq_some_iff.1 hg).1
  clear ho1 hg1 hz0 hz1 hz2 hi
  go_wp2
  go_loopw [4] (fun i wr => ∃ (k : Nat) (vs : List Value), k ≤ L.length ∧ i = .int .i64 k ∧ wr.ownsRow w.heap.size 27 1 (.slice (some ⟨w.heap.size, 0, none⟩) L.length L.length) L.length (vs ++ List.replicate (L.length - k) (.slice none 0 0)) ∧ Rows_ (w.heap.size + 1) wr vs (L.take k) ∧ w.heap.size < wr.heap.size ∧ Ext w wr) (fun i _ => L.length - (intOf i).toNat)
  case atStart => exact ⟨0, [], Nat.zero_le _, rfl, ho, by simpa using Rows_.nil _ _, hsz, hx1⟩
  case round =>
    clear ho hx1 hsz
    obtain ⟨k, vs, hk, rfl, ho, hR, hsz, hx⟩ := hrel
    have hvl : vs.length = k := by rw [hR.len]; simp; omega
    by_cases hlt : k < L.length
    · obtain ⟨bu, ou, rfl, du⟩ := hcu (by omega)
      obtain ⟨x, hx1, ix⟩ := du k hlt
      rw [List.getElem?_eq_getElem hlt, Option.getD_some] at ix
      have gu := hx.cell hx1
      have IX := Lib.hid (ix.ext hx)
      have hrow : (L[k]).length ≤ 35184372088831 := by have := bulk_row hlt; have := HS.out; omega
      have HO := Lib.hid ho
      have HR := Lib.hid hR
      have HV := Lib.hid hvl
      clear hcu du hx1 ix ho hR hvl
      go_wp2_with fail
      refine (toIntS_any _ _ _ IX.out hrow).mono ?_
      rintro e w2 ⟨z, rfl, f2, x2⟩
      have ho2 := x2.ownsRow HO.out
      have hlen2 : (vs ++ List.replicate (L.length - k) (Value.slice none 0 0)).length = L.length := by simp [HV.out]; omega
      have go := (ho2.cellAt k (by omega)).trans (show _ = some (Value.slice none 0 0) by
        rw [List.getElem?_append_right (by have := HV.out; omega)]
        rw [List.getElem?_replicate, if_pos (by have := HV.out; omega)])
      have gf := ho2.frozenAt k
      clear hlen2
      have hst := ho2.stored k z
      have HST := Lib.hid hst
      clear hst
      have F2 := Lib.hid f2
      obtain ⟨ax, cx, hz, _⟩ := f2.ints
      have hz' := Lib.hid hz
      clear ho2
      subst hz
      go_wp2
      go_roundw
      case rel =>
        have hst := HST.out
        rw [set_next vs _ _ k L.length HV.out hlt] at hst
        have hsn := HR.out.snoc x2 F2.out (by omega)
        have htk : L.take k ++ [L[k]] = L.take (k + 1) := by rw [List.take_add_one, List.getElem?_eq_getElem hlt]; rfl
        rw [htk] at hsn
        refine ⟨k + 1, _, by omega, by go_num, hst.1, hsn.touch hst.2 (hsn.low (by omega)), ?_, Below.setCell (hx.trans x2) (Nat.le_refl _) _⟩
        have := x2.size
        simp; omega
      case measure => simp [intOf]; omega
    · obtain rfl : k = L.length := by omega
      have HO := Lib.hid ho
      have HR := Lib.hid hR
      clear ho hR
      go_wp2
      go_ret
      refine ⟨_, rfl, ⟨vs, ?_, ?_, ?_⟩, hx⟩
      · have h := HO.out
        rw [Nat.sub_self] at h
        simpa using h
      · have h := HR.out
        rw [List.take_length] at h
        exact h.more (by omega)
      · exact HR.out.low (g := w.heap.size) (by omega)

end Go.Proofs.Ytnmnbeklofnonaa

namespace Go.Proofs.Ytnmnbeklofnonaa
open Go.RowKit
set_option linter.unusedVariables false

theorem eqIntS_self (u v : Value) (L : List Int) (w : World) (hu : Ints w u L) (hv : Ints w v L) : Calls Try.prog 32 #[u, v] w (BoolExt true w) := by
  have h := eqIntS_any u v L L w hu hv
  rwa [decide_eq_true rfl] at h
theorem eqIntSS_one (u v : Value) (L : List (List Int)) (w : World) (hu : Intss w u L) (hv : Intss w v L) : Calls Try.prog 25 #[u, v] w (BoolExt true w) := by
  have h := eqIntSS_any u v L L w hu hv
  rwa [decide_eq_true rfl] at h

/-- The model's answer v3 (below h3), the program's v5 (from B on). -/
def LiveI (w W : World) (h3 B : Nat) (v3 v5 : Value) (L M : List Int) : Prop :=
  Ext w W ∧ (Fresh 0 W v3 L ∧ Und h3 v3) ∧ Fresh B W v5 M
theorem LiveI.ext {w W W' : World} {h3 B : Nat} {v3 v5 : Value} {L M : List Int} (h : LiveI w W h3 B v3 v5 L M) (e : Ext W W') : LiveI w W' h3 B v3 v5 L M :=
  ⟨h.1.trans e, ⟨h.2.1.1.ext e, h.2.1.2⟩, h.2.2.ext e⟩
theorem LiveI.ins {w W W' : World} {h3 B lo hi : Nat} {v3 v5 : Value} {L M : List Int} (h : LiveI w W h3 B v3 v5 L M) (k : Ins lo hi W W')
    (h0 : w.heap.size ≤ lo) (hh : h3 ≤ lo) (hB : hi ≤ B) : LiveI w W' h3 B v3 v5 L M := by
  obtain ⟨a, b, e⟩ := h
  exact ⟨k.ext a h0, ⟨k.row b.1 (fun q hq => .inl (Nat.lt_of_lt_of_le (b.2 q hq) hh)), b.2⟩, e.ins_high k hB⟩
theorem LiveI.mark {w W W' : World} {h3 B : Nat} {v3 v5 : Value} {L M M' : List Int} (h : LiveI w W h3 B v3 v5 L M) (t : W.grownBy W' v5.ownBlock) (f' : Fresh B W' v5 M')
    (h0 : w.heap.size ≤ B) (hh : h3 ≤ B) : LiveI w W' h3 B v3 v5 L M' := by
  obtain ⟨a, b, e⟩ := h
  have k : Ins B W.heap.size W W' := Ins.of_grown t (fun q hq => World.ownsRow.lt e q hq)
  exact ⟨k.ext a h0, ⟨k.row b.1 (fun q hq => .inl (Nat.lt_of_lt_of_le (b.2 q hq) hh)), b.2⟩, f'⟩

end Go.Proofs.Ytnmnbeklofnonaa
