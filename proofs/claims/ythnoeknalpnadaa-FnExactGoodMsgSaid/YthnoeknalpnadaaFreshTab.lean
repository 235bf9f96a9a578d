/- Tables in new memory: each list of rows in a range of blocks of its own. -/
import Derived.Test.YthnoeknalpnadaaToRowS
import Derived.Test.YthnoeknalpnadaaIns
namespace Go.Proofs.Ythnoeknalpnadaa
open Go.RowKit
set_option linter.unusedVariables false


/-- As FreshR, all blocks from lo on, below hi. -/
def FreshI (lo hi : Nat) (w : World) (v : Value) (R : List RowD) : Prop :=
  ∃ xs us, w.ownsRow lo 71 10 v R.length xs ∧ Cells xs us R ∧ Rows_ lo w us (R.map fun r => r.l) ∧ (∀ (j : Nat) (u : Value), us[j]? = some u → u.ownBlock = none ∨ u.ownBlock ≠ v.ownBlock) ∧ Und hi v ∧ ∀ (j : Nat) (u : Value), us[j]? = some u → Und hi u
theorem FreshI.fresh {lo hi : Nat} {w : World} {v : Value} {R : List RowD} (h : FreshI lo hi w v R) : FreshR lo w v R := by
  obtain ⟨xs, us, h1, h2, h3, h4, _⟩ := h
  exact ⟨xs, us, h1, h2, h3, h4⟩
theorem FreshR.within {lo hi : Nat} {w : World} {v : Value} {R : List RowD} (h : FreshR lo w v R) (hb : w.heap.size ≤ hi) : FreshI lo hi w v R := by
  obtain ⟨xs, us, h1, h2, h3, h4⟩ := h
  refine ⟨xs, us, h1, h2, h3, h4, fun b e => Nat.lt_of_lt_of_le (World.ownsRow.lt h1 b e).2 hb, fun j u hu => ?_⟩
  have hj : j < us.length := (List.getElem?_eq_some_iff.1 hu).1
  have hr := h3.row j u _ hu (List.getElem?_eq_getElem (by rw [← h3.len]; exact hj))
  exact hr.und.more hb
theorem FreshI.kept {lo hi : Nat} {w w' : World} {v : Value} {R : List RowD} (h : FreshI lo hi w v R) (k : Stood lo hi w w') : FreshI lo hi w' v R := by
  obtain ⟨xs, us, h1, h2, h3, h4, h5, h6⟩ := h
  refine ⟨xs, us, k.row h1 (fun b e => ⟨(World.ownsRow.lt h1 b e).1, h5 b e⟩), h2, ⟨h3.len, fun j u l hu hl => ?_, h3.apart⟩, h4, h5, h6⟩
  have hr := h3.row j u l hu hl
  exact k.row hr (fun b e => ⟨(World.ownsRow.lt hr b e).1, h6 j u hu b e⟩)

/-- v is a slice in new memory, from lo on and below hi, that reads as the lists of rows T, each in blocks of its own. -/
def FreshT (lo hi : Nat) (w : World) (v : Value) (T : List (List RowD)) : Prop :=
  ∃ (vs : List Value) (cut : Nat → Nat), w.ownsRow lo 42 1 v T.length vs ∧ Und (cut 0) v ∧ (∀ j, j < T.length → cut j ≤ cut (j + 1)) ∧ lo ≤ cut 0 ∧ cut T.length ≤ hi ∧
    ∀ j (h : j < T.length) (h' : j < vs.length), FreshI (cut j) (cut (j + 1)) w vs[j] T[j]
theorem FreshT.form {lo hi : Nat} {w : World} {v : Value} {T : List (List RowD)} (h : FreshT lo hi w v T) : ∃ ao cap, v = .slice ao T.length cap := by
  obtain ⟨vs, cut, h1, _⟩ := h
  rcases h1.2 with ⟨rfl, hn⟩ | ⟨g, cap, cur, rfl, _⟩
  · exact ⟨none, 0, by rw [hn]⟩
  · exact ⟨_, _, rfl⟩
theorem cut_mono {cut : Nat → Nat} {n : Nat} (h : ∀ j, j < n → cut j ≤ cut (j + 1)) : ∀ i j, i ≤ j → j ≤ n → cut i ≤ cut j := by
  intro i j hij hj
  induction hd : j - i generalizing i with
  | zero => obtain rfl : i = j := by omega
            exact Nat.le_refl _
  | succ d ih =>
    exact Nat.le_trans (h i (by omega)) (ih (i + 1) (by omega) (by omega))
theorem FreshT.kept {lo hi : Nat} {w w' : World} {v : Value} {T : List (List RowD)} (h : FreshT lo hi w v T) (k : Stood lo hi w w') : FreshT lo hi w' v T := by
  obtain ⟨vs, cut, h1, h2, h3, h4, h5, h6⟩ := h
  have hm := cut_mono h3
  refine ⟨vs, cut, k.row h1 (fun b e => ⟨(World.ownsRow.lt h1 b e).1, ?_⟩), h2, h3, h4, h5, fun j hj hj' => (h6 j hj hj').kept ⟨k.1, fun b b1 b2 => k.2 b ?_ ?_⟩⟩
  · have := h2 b e; have := hm 0 T.length (by omega) (Nat.le_refl _); omega
  · have := hm 0 j (by omega) (by omega); omega
  · have := hm (j + 1) T.length (by omega) (Nat.le_refl _); omega
theorem FreshT.more {lo lo' hi hi' : Nat} {w : World} {v : Value} {T : List (List RowD)} (h : FreshT lo hi w v T) (k : lo' ≤ lo) (k' : hi ≤ hi') : FreshT lo' hi' w v T := by
  obtain ⟨vs, cut, h1, h2, h3, h4, h5, h6⟩ := h
  exact ⟨vs, cut, ownsRow_more h1 k, h2, h3, by omega, by omega, h6⟩
theorem FreshT.rows {lo hi : Nat} {w : World} {v : Value} {T : List (List RowD)} (h : FreshT lo hi w v T) : Rowzz w v T := by
  obtain ⟨vs, cut, h1, h2, h3, h4, h5, h6⟩ := h
  have hlen := h1.1
  rcases id h1.2 with ⟨rfl, hn⟩ | ⟨g, cap, cur, rfl, hb, hg, hnc, hcm, hcs, htake⟩
  · obtain rfl : T = [] := List.eq_nil_of_length_eq_zero hn
    exact Rowzz.nil w
  · refine ⟨some ⟨g, 0, none⟩, cap, rfl, by omega, ⟨by omega, by omega, fun h => by cases h⟩, fun _ => ⟨g, 0, rfl, fun j hj => ?_⟩⟩
    have hc := World.ownsRow.cellAt h1 j (by omega)
    have hu : vs[j]? = some (vs[j]'(by omega)) := List.getElem?_eq_getElem (by omega)
    exact ⟨vs[j]'(by omega), by rw [Nat.zero_add, hc, hu], (h6 j hj (by omega)).fresh.rows⟩

def NewTab (T : List (List RowD)) (w : World) (e : Ending) (w' : World) : Prop := ∃ v, e = .returned v ∧ FreshT w.heap.size w'.heap.size w' v T ∧ Ext w w'
def NewTable (n : Int) (T : List (List RowD)) (w : World) (e : Ending) (w' : World) : Prop := ∃ v, e = .returned (.agg #[.int .i64 n, v]) ∧ FreshT w.heap.size w'.heap.size w' v T ∧ Ext w w'
theorem Try.infoRows : (Try.prog.info? 42).map (fun i => (i.zero, i.size, i.bytes)) = some (some (.slice none 0 0), 1, 24) := by kernel_rfl
theorem set_next (vs : List Value) (z n : Value) (k m : Nat) (hk : vs.length = k) (hm : k < m) : (vs ++ List.replicate (m - k) n).set k z = (vs ++ [z]) ++ List.replicate (m - (k + 1)) n := by
  rw [List.set_append_right _ _ (by omega), hk, Nat.sub_self]
  have e : m - k = (m - (k + 1)) + 1 := by omega
  rw [e, List.replicate_succ, List.set_cons_zero]
  simp

/-- The first k lists lie in ranges of their own. -/
def Laid (w : World) (T : List (List RowD)) (k : Nat) (vs : List Value) (cut : Nat → Nat) : Prop :=
  (∀ j, j < k → cut j ≤ cut (j + 1)) ∧ cut k ≤ w.heap.size ∧ ∀ j (h : j < k) (h1 : j < T.length) (h' : j < vs.length), FreshI (cut j) (cut (j + 1)) w vs[j] T[j]
theorem Laid.next {w w1 w2 : World} {T : List (List RowD)} {k g : Nat} {vs : List Value} {cut : Nat → Nat} {z : Value} {d : List RowD} (h : Laid w T k vs cut) (hk : k < T.length) (hv : vs.length = k) (x : Ext w w1) (f : FreshR w.heap.size w1 z d) (hd : d = T[k])
    (t : w1.grownBy w2 (some g)) (hg : g < cut 0) : Laid w2 T (k + 1) (vs ++ [z]) (fun j => if j ≤ k then cut j else w1.heap.size) := by
  subst hd
  obtain ⟨h1, h2, h3⟩ := h
  have hm := cut_mono h1
  have hx := x.size
  have st : ∀ a b, cut 0 ≤ a → b ≤ w1.heap.size → Stood a b w1 w2 := fun a b ha hb => ⟨t.size, fun q q1 q2 => t.block q (by omega) (fun e => by have := Option.some.inj e; omega)⟩
  refine ⟨fun j hj => ?_, ?_, fun j hj hj1 hj' => ?_⟩
  · by_cases e : j = k
    · subst e
      simp only [Nat.le_refl, if_true, show ¬ (j + 1 ≤ j) by omega, if_false]
      omega
    · have hjk : j < k := by omega
      have hjk' : j + 1 ≤ k := by omega
      have hjk2 : j ≤ k := by omega
      simp only [hjk', hjk2, if_true]
      exact h1 j hjk
  · have := t.size
    simp only [show ¬ (k + 1 ≤ k) by omega, if_false]
    omega
  · by_cases e : j = k
    · subst e
      have c0 := hm 0 j (by omega) (Nat.le_refl _)
      have hzz : (vs ++ [z])[j] = z := by rw [List.getElem_append_right (by omega)]; simp [hv]
      rw [hzz]
      have n1 : ¬ (j + 1 ≤ j) := by omega
      simp only [Nat.le_refl, if_true, n1, if_false]
      refine FreshI.kept (w := w1) ?_ (st _ _ (by omega) (Nat.le_refl _))
      obtain ⟨xs, us, q1, q2, q3, q4⟩ := f
      exact FreshR.within ⟨xs, us, ownsRow_more q1 h2, q2, q3.more h2, q4⟩ (Nat.le_refl _)
    · have hjk : j < k := by omega
      have hjk' : j + 1 ≤ k := by omega
      have hjk2 : j ≤ k := by omega
      simp only [hjk', hjk2, if_true]
      rw [List.getElem_append_left (by omega)]
      have c0 := hm 0 j (by omega) (by omega)
      have c1 := hm (j + 1) k (by omega) (Nat.le_refl _)
      exact ((h3 j hjk hj1 (by omega)).kept (Stood.of_ext x (by omega))).kept (st _ _ (by omega) (by omega))

set_option maxHeartbeats 2000000 in
theorem toRowSS_any (u : Value) (T : List (List RowD)) (w : World) (hu : Rowzz w u T) (hs : bulkT T ≤ 1099511627776) :
    Calls Try.prog 104 #[u] w (NewTab T w) := by
  obtain ⟨au, cu, rfl, hlu, _, hcu⟩ := hu
  unfold maxLen at hlu
  have hL : T.length ≤ 1099511627776 := by unfold bulkT at hs; omega
  obtain ⟨i0, hi, hz0, hz1, hz2⟩ := info_parts Try.infoRows
  have HS := Lib.hid hs
  clear hs
  go_enter Try.func104, Try.ntmps104
  go_wp2_with (at_make; refine wpList_make_full _ rfl _ _ 22 rfl w.heap.size 42 i0 _ 1 Try.underlying22 hi hz0 hz1 _ _ _ _ T.length rfl rfl rfl rfl ?c1 ?c2 ?c3 ?_)
  case c1 => rw [hz2]; omega
  case c2 => unfold maxLen; omega
  case c3 => simp
  intro w1 ho1 hg1
  have hx1 : Ext w w1 := ext_of_grown hg1
  have ho : w1.ownsRow w.heap.size 42 1 (.slice (some ⟨w.heap.size, 0, none⟩) T.length T.length) T.length (([] : List Value) ++ List.replicate (T.length - 0) (.slice none 0 0)) := by
    rw [toList_madeCells_one] at ho1
    simpa using ho1
  have hsz : w.heap.size < w1.heap.size := by
    rcases ho1.2 with ⟨h, _⟩ | ⟨g, cap, cur, h, hb, hg, _⟩
    · cases h
    · simp only [Value.slice.injEq, Option.some.injEq, Addr.mk.injEq, and_true, true_and] at h
      obtain ⟨rfl, _⟩ := h
      exact (Array.getElem?_eq_some_iff.1 hg).1
  clear ho1 hg1 hz0 hz1 hz2 hi
  have hlaid : Hid (Laid w1 T 0 [] (fun _ => w.heap.size + 1)) := Lib.hid ⟨fun j h => by omega, hsz, fun j h => by omega⟩
  go_wp2
  go_loopw [4] (fun i wr => ∃ (k : Nat) (vs : List Value) (cut : Nat → Nat), k ≤ T.length ∧ i = .int .i64 k ∧ wr.ownsRow w.heap.size 42 1 (.slice (some ⟨w.heap.size, 0, none⟩) T.length T.length) T.length (vs ++ List.replicate (T.length - k) (.slice none 0 0)) ∧ Hid (Laid wr T k vs cut) ∧ Hid (cut 0 = w.heap.size + 1) ∧ Hid (vs.length = k) ∧ Ext w wr) (fun i _ => T.length - (intOf i).toNat)
  case atStart => exact ⟨0, [], _, Nat.zero_le _, rfl, ho, hlaid, Lib.hid rfl, Lib.hid rfl, hx1⟩
  case round =>
    clear ho hx1 hsz hlaid
    obtain ⟨k, vs, cut, hk, rfl, ho, hL, hC, hV, hx⟩ := hrel
    by_cases hlt : k < T.length
    · obtain ⟨bu, ou, rfl, du⟩ := hcu (by omega)
      obtain ⟨y, hy, iy⟩ := du k hlt
      obtain ⟨d, hd⟩ : ∃ d, d = T[k] := ⟨_, rfl⟩
      have hrow : bulkR d ≤ 1099511627776 := by rw [hd]; have := bulkT_row hlt; have := HS.out; omega
      rw [← hd] at iy
      have gu := hx.cell hy
      have IY := Lib.hid (iy.ext hx)
      have HD := Lib.hid hd
      have HO := Lib.hid ho
      clear hcu du hy iy ho hd
      go_wp2_with fail
      refine (toRowS_any _ d _ IY.out hrow).mono ?_
      rintro e w2 ⟨z, rfl, f2, x2⟩
      clear gu
      have ho2 := x2.ownsRow HO.out
      have hlen2 : (vs ++ List.replicate (T.length - k) (Value.slice none 0 0)).length = T.length := by simp [hV.out]; omega
      have go := (ho2.cellAt k (by omega)).trans (show _ = some (Value.slice none 0 0) by
        rw [List.getElem?_append_right (by have := hV.out; omega)]
        rw [List.getElem?_replicate, if_pos (by have := hV.out; omega)])
      have gf := ho2.frozenAt k
      clear hlen2
      have HST := Lib.hid (ho2.stored k z)
      have F2 := Lib.hid f2
      obtain ⟨ax, cx, hz'⟩ := f2.form
      clear ho2 f2
      subst hz'
      go_wp2
      go_roundw
      case rel =>
        have hst := HST.out
        rw [set_next vs _ _ k T.length hV.out hlt] at hst
        have hn := hL.out.next hlt hV.out x2 F2.out HD.out hst.2 (by rw [hC.out]; omega)
        refine ⟨k + 1, _, _, by omega, by go_num, hst.1, Lib.hid hn, Lib.hid (by simp only [Nat.zero_le, if_true]; exact hC.out), Lib.hid (by simp [hV.out]), Below.setCell (hx.trans x2) (Nat.le_refl _) _⟩
      case measure => simp [intOf]; omega
    · obtain rfl : k = T.length := by omega
      have HO := Lib.hid ho
      clear ho
      go_wp2
      go_ret
      have h := HO.out
      rw [Nat.sub_self] at h
      obtain ⟨q1, q2, q3⟩ := hL.out
      refine ⟨_, rfl, ⟨vs, cut, by simpa using h, fun b e => ?_, q1, by rw [hC.out]; omega, q2, fun j hj hj' => q3 j hj hj hj'⟩, hx⟩
      rw [hC.out]
      have := Option.some.inj e
      simp at this; omega

set_option maxHeartbeats 1000000 in
theorem toTable_any (n : Int) (u : Value) (T : List (List RowD)) (w : World) (hv : Rowzz w u T) (hs : bulkT T ≤ 1099511627776) :
    Calls Try.prog 39 #[.agg #[.int .i64 n, u]] w (NewTable n T w) := by
  have HS := Lib.hid hs
  have HO := Lib.hid (open_three w (.cells #[.int .i64 n, u] 52) 24 24 0 n (.slice none 0 0) (.slice none 0 0))
  clear hs
  go_enter Try.func39, Try.ntmps39
  go_wp2_with fail
  refine (toRowSS_any _ _ _ (hv.ext (Ext.alloc3 _ _ _ _)) HS.out).mono ?_
  rintro e w1 ⟨v, rfl, f1, x1⟩
  obtain ⟨⟨c0, c1⟩, z0, z1⟩ := HO.out.1.ext x1
  obtain ⟨⟨d0, d1⟩, y0, y1⟩ := HO.out.2.ext x1
  have hx : Ext w w1 := (Ext.alloc3 _ _ _ _).trans x1
  rw [size3] at f1
  obtain ⟨av, cv, rfl⟩ := f1.form
  have F := Lib.hid f1
  clear f1 x1 hv
  go_wp2
  refine bodyPost_ret (v := .agg #[.int .i64 n, .slice av T.length cv]) (by simp [results, Try.results39, go_sem, c0, c1]) rfl ⟨_, rfl, ?_, ?_⟩
  · simp only [World.size_setCell]
    refine FreshT.more (F.out.kept ⟨by simp only [World.size_setCell]; exact Nat.le_refl _, fun b b1 b2 => ?_⟩) (by omega) (Nat.le_refl _)
    rw [Below.heap_setCell _ _ _ b (by dsimp only; omega), Below.heap_setCell _ _ _ b (by dsimp only; omega), Below.heap_setCell _ _ _ b (by dsimp only; omega)]
  · exact ((hx.setc (by dsimp only; omega)).setc (by dsimp only; omega)).setc (by dsimp only; omega)

end Go.Proofs.Ythnoeknalpnadaa
