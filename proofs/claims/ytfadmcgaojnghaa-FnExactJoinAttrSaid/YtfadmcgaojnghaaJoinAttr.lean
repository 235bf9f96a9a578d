/- Contracts of the two functions JoinAttr, of the program and of the model. -/
import Derived.Test.YtfadmcgaojnghaaSpecJoin
import Derived.Test.YtfadmcgaojnghaaJoin2
namespace Go.Proofs.Ytfadmcgaojnghaa
open Go.RowKit
set_option linter.unusedVariables false

def joinOk (n s t : Int) (l r : List Int) : Bool := goodA n s l && goodA n t r
def joinS (n s t : Int) (l r : List Int) : Int := if joinOk n s t l r then mo s t else 0
def joinL (n s t : Int) (l r : List Int) : List Int := if joinOk n s t l r then joinTo l r l.length else []
theorem joinL_len (n s t : Int) (l r : List Int) : (joinL n s t l r).length ≤ 5 := by
  unfold joinL
  split
  · rename_i h
    rw [joinTo_len]
    unfold joinOk at h
    simp only [Bool.and_eq_true] at h
    have h1 := goodA_of h.1
    have h2 := (goodD_of h1.2).2.1
    rcases isGrp_of h1.1 with h | h <;> omega
  · simp
theorem inB_of' {n lo hi : Int} (h : inB n lo hi = true) : lo ≤ n ∧ n ≤ hi := by unfold inB at h; simpa using h
theorem at0_nonneg {l : List Int} (h : allIn l 0 6 = true) (i : Nat) : 0 ≤ at0 l i := by
  unfold at0
  by_cases hi : i < l.length
  · rw [List.getElem?_eq_getElem hi, Option.getD_some]
    unfold allIn at h
    rw [List.all_eq_true] at h
    exact (inB_of' (h _ (List.getElem_mem hi))).1
  · rw [List.getElem?_eq_none (by omega)]; simp
theorem mo_mx {x y : Int} (h : 0 ≤ x) : mx (mx 0 x) y = mo x y := by
  unfold mx mo
  split <;> split <;> split <;> omega
theorem dOf_join {l r : List Int} (h : allIn l 0 6 = true) (hl : l.length ≤ 5) : (dOf l r 2).take l.length = joinTo l r l.length := by
  have e : (dOf l r 2) = (List.range 5).map fun i => mo (at0 l i) (at0 r i) := by
    unfold dOf
    refine List.map_congr_left fun i _ => ?_
    show mx (mx 0 (at0 l i)) (at0 r i) = _
    exact mo_mx (at0_nonneg h i)
  rw [e, ← List.map_take, List.take_range]
  unfold joinTo
  rw [Nat.min_eq_left hl]

theorem Ext.alloc3' (w : World) (a b c : Obj) : Ext w (((w.alloc a).alloc b).alloc c) := (((Ext.refl w).alloc a).alloc b).alloc c
theorem three_at (w : World) (T : TypeId) (s t p : Int) (u v y : Value) :
    AttrAt (((w.alloc (.cells #[.int .i64 s, u] T)).alloc (.cells #[.int .i64 t, v] T)).alloc (.cells #[.int .i64 p, y] T)) w.heap.size s u ∧
    AttrAt (((w.alloc (.cells #[.int .i64 s, u] T)).alloc (.cells #[.int .i64 t, v] T)).alloc (.cells #[.int .i64 p, y] T)) (w.heap.size + 1) t v ∧
    OpenAt (((w.alloc (.cells #[.int .i64 s, u] T)).alloc (.cells #[.int .i64 t, v] T)).alloc (.cells #[.int .i64 p, y] T)) (w.heap.size + 1 + 1) p y := by
  refine ⟨⟨?_, ?_⟩, ⟨?_, ?_⟩, ⟨?_, ?_⟩, ?_, ?_⟩ <;> go_simp

theorem ok_false {n s t : Int} {l r : List Int} (h : joinOk n s t l r = false) : joinS n s t l r = 0 ∧ joinL n s t l r = [] := by unfold joinS joinL; rw [h]; exact ⟨rfl, rfl⟩
theorem ok_true {n s t : Int} {l r : List Int} (h : joinOk n s t l r = true) : joinS n s t l r = mo s t ∧ joinL n s t l r = joinTo l r l.length := by unfold joinS joinL; rw [h]; exact ⟨rfl, rfl⟩

set_option maxHeartbeats 2000000 in
theorem specJoin_any (n s t : Int) (u v : Value) (l r : List Int) (w : World) (hu : Ints w u l) (hv : Ints w v r) :
    Calls Try.prog 17 #[.int .i64 n, .agg #[.int .i64 s, u], .agg #[.int .i64 t, v]] w (TwoAttr (joinS n s t l r) (joinL n s t l r) (joinOk n s t l r) w) := by
  have HU := Lib.hid hu
  have HV := Lib.hid hv
  have HT := Lib.hid (three_at w 27 s t 0 u v (.slice none 0 0))
  have X3 := Lib.hid (Ext.alloc3' w (.cells #[.int .i64 s, u] 27) (.cells #[.int .i64 t, v] 27) (.cells #[.int .i64 0, .slice none 0 0] 27))
  have hz : (((w.alloc (.cells #[.int .i64 s, u] 27)).alloc (.cells #[.int .i64 t, v] 27)).alloc (.cells #[.int .i64 0, .slice none 0 0] 27)).heap.size = w.heap.size + 3 := by simp
  have HZ := Lib.hid hz
  clear hu hv hz
  cases hok : joinOk n s t l r with
  | false =>
    obtain ⟨e1, e2⟩ := ok_false hok
    rw [e1, e2]
    clear e1 e2
    cases hg : goodA n s l with
    | false =>
      have HG := Lib.hid hg
      clear hg hok
      go_enter Try.func17, Try.ntmps17
      go_wp2_with fail
      refine (specGoodAttr_any _ _ _ l _ (HU.out.ext X3.out)).mono ?_
      rintro e w1 ⟨rfl, x1⟩
      rw [HG.out]
      obtain ⟨⟨c0, c1⟩, z0, z1⟩ := HT.out.2.2.ext x1
      have hx := X3.out.trans x1
      clear x1
      go_wp2
      refine bodyPost_ret (v := .tuple #[.agg #[.int .i64 0, .slice none 0 0], .bool false]) (by simp [results, Try.results17, go_sem, c0, c1]) rfl ⟨_, rfl, fresh_nil _ _, ?_⟩
      exact (hx.setc (by dsimp only; omega)).setc (by dsimp only; omega)
    | true =>
      have hd : goodD n t r = false := by
        unfold joinOk at hok
        rw [hg, Bool.true_and] at hok
        unfold goodA at hok
        rw [(goodA_of hg).1, Bool.true_and] at hok
        exact hok
      have HG := Lib.hid hg
      have HD := Lib.hid hd
      clear hg hd hok
      go_enter Try.func17, Try.ntmps17
      go_wp2_with fail
      refine (specGoodAttr_any _ _ _ l _ (HU.out.ext X3.out)).mono ?_
      rintro e w1 ⟨rfl, x1⟩
      rw [HG.out]
      obtain ⟨d0, d1⟩ := HT.out.2.1.ext x1
      have X1 := Lib.hid x1
      clear x1
      go_wp2_with fail
      refine (l3Attr_any _ _ _ r _ (HV.out.ext (X3.out.trans X1.out))).mono ?_
      rintro e w2 ⟨rfl, x2⟩
      rw [HD.out]
      obtain ⟨⟨c0, c1⟩, z0, z1⟩ := HT.out.2.2.ext (X1.out.trans x2)
      have hx := (X3.out.trans X1.out).trans x2
      clear x2 d0 d1
      go_wp2
      refine bodyPost_ret (v := .tuple #[.agg #[.int .i64 0, .slice none 0 0], .bool false]) (by simp [results, Try.results17, go_sem, c0, c1]) rfl ⟨_, rfl, fresh_nil _ _, ?_⟩
      exact (hx.setc (by dsimp only; omega)).setc (by dsimp only; omega)
  | true =>
    obtain ⟨e1, e2⟩ := ok_true hok
    rw [e1, e2]
    obtain ⟨hg, hg2⟩ : goodA n s l = true ∧ goodA n t r = true := by unfold joinOk at hok; simpa using hok
    have hl1 := (goodD_of (goodA_of hg).2).2.1
    have hl2 := (goodD_of (goodA_of hg2).2).2.1
    have hlen : l.length = r.length := by omega
    have h5 : l.length ≤ 5 := by rcases isGrp_of (goodA_of hg).1 with h | h <;> omega
    have HG := Lib.hid hg
    have HD := Lib.hid (goodA_of hg2).2
    have HLN := Lib.hid hlen
    obtain ⟨J, hJ⟩ : ∃ J, J = joinTo l r l.length := ⟨_, rfl⟩
    obtain ⟨m, hm⟩ : ∃ m, m = mo s t := ⟨_, rfl⟩
    have hc := fun W (h : Ints W u l) (h' : Ints W v r) => l3Join_any s t u v l r W h h' hlen h5
    rw [← hJ, ← hm] at hc ⊢
    have HC := Lib.hid hc
    clear e1 e2 hg hg2 hl1 hl2 hlen h5 hok hc hJ hm
    go_enter Try.func17, Try.ntmps17
    go_wp2_with fail
    refine (specGoodAttr_any _ _ _ l _ (HU.out.ext X3.out)).mono ?_
    rintro e w1 ⟨rfl, x1⟩
    rw [HG.out]
    obtain ⟨d0, d1⟩ := HT.out.2.1.ext x1
    have X1 := Lib.hid x1
    clear x1
    go_wp2_with fail
    refine (l3Attr_any _ _ _ r _ (HV.out.ext (X3.out.trans X1.out))).mono ?_
    rintro e w2 ⟨rfl, x2⟩
    rw [HD.out]
    have X2 := Lib.hid (X1.out.trans x2)
    clear d0 d1 x2
    obtain ⟨a0, a1⟩ := HT.out.1.ext X2.out
    obtain ⟨d0, d1⟩ := HT.out.2.1.ext X2.out
    go_wp2_with fail
    refine (HC.out _ (HU.out.ext (X3.out.trans X2.out)) (HV.out.ext (X3.out.trans X2.out))).mono ?_
    rintro e w3 ⟨z, rfl, f3, x3⟩
    obtain ⟨az, cz, rfl⟩ := f3.form
    obtain ⟨⟨c0, c1⟩, z0, z1⟩ := HT.out.2.2.ext (X2.out.trans x3)
    have hx := (X3.out.trans X2.out).trans x3
    have hsz : w.heap.size + 3 ≤ w2.heap.size := by have := X2.out.size; rw [HZ.out] at this; exact this
    have F := Lib.hid f3
    clear f3 x3 a0 a1 d0 d1
    go_wp2
    refine bodyPost_ret (v := .tuple #[.agg #[.int .i64 m, .slice az J.length cz], .bool true]) (by simp [results, Try.results17, go_sem, c0, c1]) rfl ⟨_, rfl, ?_, (hx.setc (by dsimp only; omega)).setc (by dsimp only; omega)⟩
    have hB : w.heap.size + 1 + 1 < w2.heap.size := by omega
    have F2 := (F.out.set (w.heap.size + 1 + 1) 0 (.int .i64 m) hB).set (w.heap.size + 1 + 1) 1 (.slice az J.length cz) hB
    exact F2.more (by omega)


theorem twoAt_new (w : World) (s t : Int) (u v : Value) (T : TypeId) : TwoAt (w.alloc (.cells #[.int .i64 s, u, .int .i64 t, v] T)) w.heap.size s u t v := by
  refine ⟨?_, ?_, ?_, ?_⟩ <;> go_simp

set_option maxHeartbeats 2000000 in
theorem implJoin_any (n s t : Int) (u v : Value) (l r : List Int) (w : World) (hu : Ints w u l) (hv : Ints w v r) :
    Calls Try.prog 18 #[.int .i64 n, .agg #[.int .i64 s, u], .agg #[.int .i64 t, v]] w (TwoAttr (joinS n s t l r) (joinL n s t l r) (joinOk n s t l r) w) := by
  obtain ⟨pu, qu, rfl, yu⟩ := hu
  obtain ⟨pv, qv, rfl, yv⟩ := hv
  have HU : Hid (Ints w (.slice pu l.length qu) l) := Lib.hid ⟨pu, qu, rfl, yu⟩
  have HV : Hid (Ints w (.slice pv r.length qv) r) := Lib.hid ⟨pv, qv, rfl, yv⟩
  clear yu yv
  have hu : True := trivial
  have hv : True := trivial
  have HT := Lib.hid (three_at w 27 s t 0 (.slice pu l.length qu) (.slice pv r.length qv) (.slice none 0 0))
  have X3 := Lib.hid (Ext.alloc3' w (.cells #[.int .i64 s, .slice pu l.length qu] 27) (.cells #[.int .i64 t, .slice pv r.length qv] 27) (.cells #[.int .i64 0, .slice none 0 0] 27))
  have hz : (((w.alloc (.cells #[.int .i64 s, .slice pu l.length qu] 27)).alloc (.cells #[.int .i64 t, .slice pv r.length qv] 27)).alloc (.cells #[.int .i64 0, .slice none 0 0] 27)).heap.size = w.heap.size + 3 := by simp
  have HZ := Lib.hid hz
  clear hu hv hz
  cases hok : joinOk n s t l r with
  | false =>
    obtain ⟨e1, e2⟩ := ok_false hok
    rw [e1, e2]
    clear e1 e2
    cases hg : goodA n s l with
    | false =>
      have HG := Lib.hid hg
      clear hg hok
      go_enter Try.func18, Try.ntmps18
      go_wp2_with fail
      refine (implGoodAttr_any _ _ _ l _ (HU.out.ext X3.out)).mono ?_
      rintro e w1 ⟨rfl, x1⟩
      rw [HG.out]
      obtain ⟨⟨c0, c1⟩, z0, z1⟩ := HT.out.2.2.ext x1
      have hx := X3.out.trans x1
      clear x1
      go_wp2
      refine bodyPost_ret (v := .tuple #[.agg #[.int .i64 0, .slice none 0 0], .bool false]) (by simp [results, Try.results18, go_sem, c0, c1]) rfl ⟨_, rfl, fresh_nil _ _, ?_⟩
      exact (hx.setc (by dsimp only; omega)).setc (by dsimp only; omega)
    | true =>
      have hd : goodA n t r = false := by
        unfold joinOk at hok
        rw [hg, Bool.true_and] at hok
        exact hok
      have HG := Lib.hid hg
      have HD := Lib.hid hd
      clear hg hd hok
      go_enter Try.func18, Try.ntmps18
      go_wp2_with fail
      refine (implGoodAttr_any _ _ _ l _ (HU.out.ext X3.out)).mono ?_
      rintro e w1 ⟨rfl, x1⟩
      rw [HG.out]
      obtain ⟨d0, d1⟩ := HT.out.2.1.ext x1
      have X1 := Lib.hid x1
      clear x1
      go_wp2_with fail
      refine (implGoodAttr_any _ _ _ r _ (HV.out.ext (X3.out.trans X1.out))).mono ?_
      rintro e w2 ⟨rfl, x2⟩
      rw [HD.out]
      obtain ⟨⟨c0, c1⟩, z0, z1⟩ := HT.out.2.2.ext (X1.out.trans x2)
      have hx := (X3.out.trans X1.out).trans x2
      clear x2 d0 d1
      go_wp2
      refine bodyPost_ret (v := .tuple #[.agg #[.int .i64 0, .slice none 0 0], .bool false]) (by simp [results, Try.results18, go_sem, c0, c1]) rfl ⟨_, rfl, fresh_nil _ _, ?_⟩
      exact (hx.setc (by dsimp only; omega)).setc (by dsimp only; omega)
  | true =>
    obtain ⟨e1, e2⟩ := ok_true hok
    rw [e1, e2]
    obtain ⟨hg, hg2⟩ : goodA n s l = true ∧ goodA n t r = true := by unfold joinOk at hok; simpa using hok
    have hl1 := (goodD_of (goodA_of hg).2).2.1
    have hl2 := (goodD_of (goodA_of hg2).2).2.1
    have hlen : l.length = r.length := by omega
    have h5 : l.length ≤ 5 := by rcases isGrp_of (goodA_of hg).1 with h | h <;> omega
    have HG := Lib.hid hg
    have HD := Lib.hid hg2
    have HLN := Lib.hid hlen
    obtain ⟨J, hJ⟩ : ∃ J, J = joinTo l r l.length := ⟨_, rfl⟩
    obtain ⟨m, hm⟩ : ∃ m, m = mo s t := ⟨_, rfl⟩
    have hc : ∀ W (h : Ints W (.slice pu l.length qu) l) (h' : Ints W (.slice pv r.length qv) r) (ab : Nat) (hA : TwoAt W ab s (.slice pu l.length qu) t (.slice pv r.length qv)), Calls Try.prog 30 #[.int .i64 n, .slice (some ⟨ab, 0, none⟩) 2 2] W (NewAttr (mo s t) (joinTo l r l.length) W) := fun W h h' ab hA => by
      have hh := joinAttrs_two n (goodA_of hg).1 ab s t _ _ l r W h h' hA
      have e3 : sOf s t 2 = mo s t := mo_mx (inB_of' (goodD_of (goodA_of hg).2).1).1
      have e4 : (dOf l r 2).take n.toNat = joinTo l r l.length := by
        have : n.toNat = l.length := by omega
        rw [this]
        exact dOf_join (goodD_of (goodA_of hg).2).2.2 h5
      rw [e3, e4] at hh
      exact hh
    rw [← hJ, ← hm] at hc ⊢
    have HC := Lib.hid hc
    clear e1 e2 hg hg2 hl1 hl2 hlen h5 hok hc hJ hm
    go_enter Try.func18, Try.ntmps18
    go_wp2_with fail
    refine (implGoodAttr_any _ _ _ l _ (HU.out.ext X3.out)).mono ?_
    rintro e w1 ⟨rfl, x1⟩
    rw [HG.out]
    obtain ⟨d0, d1⟩ := HT.out.2.1.ext x1
    have X1 := Lib.hid x1
    clear x1
    go_wp2_with fail
    refine (implGoodAttr_any _ _ _ r _ (HV.out.ext (X3.out.trans X1.out))).mono ?_
    rintro e w2 ⟨rfl, x2⟩
    rw [HD.out]
    have X2 := Lib.hid (X1.out.trans x2)
    clear d0 d1 x2
    obtain ⟨a0, a1⟩ := HT.out.1.ext X2.out
    obtain ⟨d0, d1⟩ := HT.out.2.1.ext X2.out
    go_wp2_with fail
    refine (HC.out _ (HU.out.ext ((X3.out.trans X2.out).alloc _)) (HV.out.ext ((X3.out.trans X2.out).alloc _)) w2.heap.size (twoAt_new _ _ _ _ _ _)).mono ?_
    rintro e w3 ⟨z, rfl, f3, x3'⟩
    have x3 := (Ext.alloc (Ext.refl w2) _).trans x3'
    rw [World.size_alloc] at f3
    clear x3'
    obtain ⟨az, cz, rfl⟩ := f3.form
    obtain ⟨⟨c0, c1⟩, z0, z1⟩ := HT.out.2.2.ext (X2.out.trans x3)
    have hx := (X3.out.trans X2.out).trans x3
    have hsz : w.heap.size + 3 ≤ w2.heap.size := by have := X2.out.size; rw [HZ.out] at this; exact this
    have F := Lib.hid f3
    clear f3 x3 a0 a1 d0 d1
    go_wp2
    refine bodyPost_ret (v := .tuple #[.agg #[.int .i64 m, .slice az J.length cz], .bool true]) (by simp [results, Try.results18, go_sem, c0, c1]) rfl ⟨_, rfl, ?_, (hx.setc (by dsimp only; omega)).setc (by dsimp only; omega)⟩
    have hB : w.heap.size + 1 + 1 < w2.heap.size + 1 := by omega
    have F2 := (F.out.set (w.heap.size + 1 + 1) 0 (.int .i64 m) hB).set (w.heap.size + 1 + 1) 1 (.slice az J.length cz) hB
    exact F2.more (by omega)

end Go.Proofs.Ytfadmcgaojnghaa
