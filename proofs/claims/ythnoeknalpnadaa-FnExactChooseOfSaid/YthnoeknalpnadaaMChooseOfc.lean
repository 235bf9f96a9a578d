/- Texts of this proof, part c: words, plain facts, contracts. -/
import Derived.Test.YthnoeknalpnadaaMChooseOfb
import Derived.Test.YthnoeknalpnadaaMChooseOfa
import Derived.Deep.RegionLaw
import Derived.Deep.AppendLies

namespace Go.Proofs.Ythnoeknalpnadaa
open Go.RowKit
set_option linter.unusedVariables false

/-- v is a slice that reads as the attributes A in w. -/
def Attrs (w : World) (v : Value) (A : List (Int × List Int)) : Prop :=
  ∃ ao cap, v = .slice ao A.length cap ∧ A.length ≤ maxLen ∧ (A.length ≤ cap ∧ cap ≤ maxLen ∧ (ao = none → cap = 0)) ∧
    (0 < A.length → ∃ b off, ao = some ⟨b, off, none⟩ ∧ ∀ j (h : j < A.length), ∃ u, w.cell? ⟨b, off + j * 2, none⟩ = some (.int .i64 A[j].1) ∧ w.cell? ⟨b, off + j * 2 + 1, none⟩ = some u ∧ Ints w u A[j].2)
theorem Attrs.ext {w w' : World} {v : Value} {A : List (Int × List Int)} (h : Attrs w v A) (e : Ext w w') : Attrs w' v A := by
  obtain ⟨ao, cap, hv, hm, hcap, hc⟩ := h
  refine ⟨ao, cap, hv, hm, hcap, fun hp => ?_⟩
  obtain ⟨b, off, ha, hc⟩ := hc hp
  refine ⟨b, off, ha, fun j hj => ?_⟩
  obtain ⟨u, h1, h2, h3⟩ := hc j hj
  exact ⟨u, e.cell h1, e.cell h2, h3.ext e⟩
/-- The greatest Seq of the first k, and what they hang on. -/
def sN (A : List (Int × List Int)) (k : Nat) : Int := (A.take k).foldl (fun s x => mx s x.1) 0
def dStep (d l : List Int) : List Int := (List.range 5).map fun i => mx (at0 d i) (at0 l i)
def dN (A : List (Int × List Int)) (k : Nat) : List Int := (A.take k).foldl (fun d x => dStep d x.2) [0, 0, 0, 0, 0]
theorem sN_succ {A : List (Int × List Int)} {k : Nat} (h : k < A.length) : sN A (k + 1) = mx (sN A k) A[k].1 := by
  unfold sN
  rw [List.take_succ_eq_append_getElem h, List.foldl_append]
  rfl
theorem dN_succ {A : List (Int × List Int)} {k : Nat} (h : k < A.length) : dN A (k + 1) = dStep (dN A k) A[k].2 := by
  unfold dN
  rw [List.take_succ_eq_append_getElem h, List.foldl_append]
  rfl
theorem mix_step {w : World} {b : Nat} {d l : List Int} (h : MixAt w b d l 5) : FiveAt w b (at0 (dStep d l) 0) (at0 (dStep d l) 1) (at0 (dStep d l) 2) (at0 (dStep d l) 3) (at0 (dStep d l) 4) := h
theorem dN_len (A : List (Int × List Int)) (k : Nat) : (dN A k).length = 5 := by
  induction k with
  | zero => rfl
  | succ k ih =>
    by_cases h : k < A.length
    · rw [dN_succ h]; simp [dStep]
    · unfold dN at ih ⊢
      rw [List.take_of_length_le (by omega)]
      rw [List.take_of_length_le (by omega)] at ih
      exact ih
theorem take5 {d : List Int} (h : d.length = 5) : d = [at0 d 0, at0 d 1, at0 d 2, at0 d 3, at0 d 4] := by
  match d, h with
  | [a, b, c, e, f], _ => rfl

set_option maxRecDepth 100000 in
set_option maxHeartbeats 4000000 in
theorem joinAttrs_any (n : Int) (hn : isGrp n = true) (v : Value) (A : List (Int × List Int)) (w : World) (hv : Attrs w v A) :
    Calls Try.prog 90 #[.int .i64 n, v] w (NewAttr (sN A A.length) ((dN A A.length).take n.toNat) w) := by
  have HN := Lib.hid hn
  obtain ⟨av, cv, rfl, hlv, _, hcv⟩ := hv
  unfold maxLen at hlv
  have HCV := Lib.hid hcv
  have hmax : ∀ (ts : Array TypeId) (T : TypeId) (W : World) (x y : Int), (Builtin.max_ ts T #[.int .i64 x, .int .i64 y]).run Try.prog W = .ok (.int .i64 (mx x y)) W := fun ts T W x y => by simp only [run_max_int2]; rfl
  clear hn hcv
  go_enter Try.func90, Try.ntmps90
  go_wp2
  go_loopw [5, 13] (fun s i wr => ∃ k : Nat, k ≤ A.length ∧ i = .int .i64 k ∧ s = .int .i64 (sN A k) ∧ Hid (FiveAt wr (w.heap.size + 1) (at0 (dN A k) 0) (at0 (dN A k) 1) (at0 (dN A k) 2) (at0 (dN A k) 3) (at0 (dN A k) 4)) ∧ OpenAt wr w.heap.size 0 (.slice none 0 0) ∧ Ext w wr) (fun _ i _ => A.length - (intOf i).toNat)
  case atStart => exact ⟨0, by omega, rfl, rfl, Lib.hid (by
    have hf := fiveAt_new (w.alloc (.cells #[.int .i64 0, .slice none 0 0] 39)) 0 0 0 0 0
    rw [World.size_alloc] at hf
    simpa [dN, at0] using hf), open_next _ _ _ _ _, Ext.alloc2 _ _ _⟩
  case round =>
    obtain ⟨k, hk, rfl, rfl, hF, hO, hx⟩ := hrel
    by_cases hlt : k < A.length
    · obtain ⟨b, off, rfl, dv⟩ := HCV.out (by omega)
      obtain ⟨x, hxx⟩ : ∃ x, x = A[k] := ⟨_, rfl⟩
      obtain ⟨u, g0, g1, iu⟩ := dv k hlt
      rw [← hxx] at g0 iu
      have HS : Hid (sN A (k + 1) = mx (sN A k) x.1) := Lib.hid (by rw [hxx]; exact sN_succ hlt)
      have HD : Hid (dN A (k + 1) = dStep (dN A k) x.2) := Lib.hid (by rw [hxx]; exact dN_succ hlt)
      have IU := Lib.hid iu
      obtain ⟨au, cu, rfl, hlu, _, _⟩ := iu
      have HO := Lib.hid (hO.ext (Ext.alloc (Ext.refl _) (.cells #[.int .i64 x.1, .slice au x.2.length cu] 39)))
      have HF := Lib.hid (hF.out.ext (Ext.alloc (Ext.refl _) (.cells #[.int .i64 x.1, .slice au x.2.length cu] 39)))
      have HX := Lib.hid (hx.alloc (.cells #[.int .i64 x.1, .slice au x.2.length cu] 39))
      have g0 := hx.cell g0
      have g1 := hx.cell g1
      have hsz : b < wr.heap.size := World.block_lt_of_cell? wr _ g0
      clear hO hF hx dv hxx hlu
      go_wp2_with fail
      refine (depsIn_any _ x.2 _ (IU.out.ext HX.out)).mono ?_
      rintro e W1 ⟨rfl, x1⟩
      have O1 := Lib.hid (HO.out.ext x1)
      have F1 := Lib.hid (mix_zero (l := x.2) (HF.out.ext x1))
      have X1 := Lib.hid (HX.out.trans x1)
      have hidx := index5 x.2
      obtain ⟨D, hD⟩ : ∃ D, D = dN A k := ⟨_, rfl⟩
      rw [← hD] at F1 HD
      clear x1 g0 g1 hsz hD
      go_wp2
      go_loopw [24] (fun i W => ∃ j : Nat, j ≤ 5 ∧ i = .int .i64 j ∧ Hid (MixAt W (w.heap.size + 1) D x.2 j) ∧ OpenAt W w.heap.size 0 (.slice none 0 0) ∧ Ext w W) (fun i _ => 5 - (intOf i).toNat)
      case atStart => exact ⟨0, by omega, rfl, F1, O1.out, X1.out⟩
      case round =>
        obtain ⟨j, hj, rfl, hM, hO2, hx2⟩ := hrel
        by_cases hlt5 : j < 5
        · have gD := mix_cell hM.out hlt5
          have gF := mix_free hM.out j
          have hi := hidx j hlt5
          clear hidx
          go_wp2
          go_roundw
          case rel => exact ⟨j + 1, by omega, by go_num, Lib.hid (mix_store hM.out hlt5), by
            obtain ⟨⟨a, b⟩, c, d⟩ := hO2
            refine ⟨⟨?_, ?_⟩, ?_, ?_⟩ <;> go_simp, hx2.setc (Nat.le_succ _)⟩
          case measure => simp [intOf]; omega
        · obtain rfl : j = 5 := by omega
          have HF2 := mix_step hM.out
          rw [← HD.out] at HF2
          have HF2 := Lib.hid HF2
          clear hidx
          go_wp2
          go_roundw
          case rel => exact ⟨k + 1, by omega, by go_num, by rw [HS.out], HF2, hO2, hx2⟩
          case measure => simp [intOf]; omega
    · obtain rfl : k = A.length := by omega
      have HI := Lib.hid (five_ints hF.out)
      obtain ⟨⟨c0, c1⟩, z0, z1⟩ := hO
      have HO := Lib.hid (show OpenAt wr w.heap.size 0 (.slice none 0 0) from ⟨⟨c0, c1⟩, z0, z1⟩)
      have hD : w.heap.size + 1 < wr.heap.size := (Array.getElem?_eq_some_iff.1 hF.out).1
      obtain ⟨S, hS⟩ : ∃ S, S = sN A A.length := ⟨_, rfl⟩
      obtain ⟨D, hDD⟩ : ∃ D, D = dN A A.length := ⟨_, rfl⟩
      have hD5 : D = [at0 D 0, at0 D 1, at0 D 2, at0 D 3, at0 D 4] := take5 (by rw [hDD]; exact dN_len _ _)
      have HS0 := Lib.hid hS
      have HD0 := Lib.hid hDD
      rw [← hS]
      rw [← hDD] at HI hF
      rcases isGrp_of HN.out with rfl | rfl
      · have hT : List.take (3 : Int).toNat D = [at0 D 0, at0 D 1, at0 D 2] := by rw [hD5]; rfl
        obtain ⟨x0, hx0⟩ : ∃ x, x = at0 D 0 := ⟨_, rfl⟩
        obtain ⟨x1, hx1⟩ : ∃ x, x = at0 D 1 := ⟨_, rfl⟩
        obtain ⟨x2, hx2⟩ : ∃ x, x = at0 D 2 := ⟨_, rfl⟩
        have hI3 := HI.out 3 (by omega)
        rw [← hx0, ← hx1, ← hx2] at hI3 hT
        have HT := Lib.hid hT
        have HI3 := Lib.hid hI3
        clear hF hT hx0 hx1 hx2 hI3 c0 c1 z0 z1 hS hDD hD5
        go_wp2_with fail
        refine (clone_any ⟨w.heap.size + 1, 0, none⟩ 5 [x0, x1, x2] _ HI3.out (by simp)).mono ?_
        rintro e W1 ⟨v, rfl, f1, y1⟩
        obtain ⟨av, cv, rfl⟩ := f1.form
        obtain ⟨⟨c0, c1⟩, z0, z1⟩ := HO.out.ext y1
        have hy := hx.trans y1
        have F := Lib.hid f1
        clear f1 y1
        go_wp2
        refine bodyPost_ret (v := .agg #[.int .i64 S, .slice av 3 cv]) (by simp [results, Try.results90, go_sem, c0, c1]) rfl ⟨_, by rw [HS0.out], ?_, (hy.setc (Nat.le_refl _)).setc (Nat.le_refl _)⟩
        have hB : w.heap.size < wr.heap.size := by omega
        have F2 := (F.out.set w.heap.size 0 (.int .i64 S) hB).set w.heap.size 1 (.slice av 3 cv) hB
        rw [← HD0.out, HT.out]
        exact F2.more (Nat.le_of_lt hB)
      · have hT : List.take (5 : Int).toNat D = [at0 D 0, at0 D 1, at0 D 2, at0 D 3, at0 D 4] := by rw [hD5]; rfl
        obtain ⟨x0, hx0⟩ : ∃ x, x = at0 D 0 := ⟨_, rfl⟩
        obtain ⟨x1, hx1⟩ : ∃ x, x = at0 D 1 := ⟨_, rfl⟩
        obtain ⟨x2, hx2⟩ : ∃ x, x = at0 D 2 := ⟨_, rfl⟩
        obtain ⟨x3, hx3⟩ : ∃ x, x = at0 D 3 := ⟨_, rfl⟩
        obtain ⟨x4, hx4⟩ : ∃ x, x = at0 D 4 := ⟨_, rfl⟩
        have hI3 := HI.out 5 (by omega)
        rw [← hx0, ← hx1, ← hx2, ← hx3, ← hx4] at hI3 hT
        have HT := Lib.hid hT
        have HI3 := Lib.hid hI3
        clear hF hT hx0 hx1 hx2 hx3 hx4 hI3 c0 c1 z0 z1 hS hDD hD5
        go_wp2_with fail
        refine (clone_any ⟨w.heap.size + 1, 0, none⟩ 5 [x0, x1, x2, x3, x4] _ HI3.out (by simp)).mono ?_
        rintro e W1 ⟨v, rfl, f1, y1⟩
        obtain ⟨av, cv, rfl⟩ := f1.form
        obtain ⟨⟨c0, c1⟩, z0, z1⟩ := HO.out.ext y1
        have hy := hx.trans y1
        have F := Lib.hid f1
        clear f1 y1
        go_wp2
        refine bodyPost_ret (v := .agg #[.int .i64 S, .slice av 5 cv]) (by simp [results, Try.results90, go_sem, c0, c1]) rfl ⟨_, by rw [HS0.out], ?_, (hy.setc (Nat.le_refl _)).setc (Nat.le_refl _)⟩
        have hB : w.heap.size < wr.heap.size := by omega
        have F2 := (F.out.set w.heap.size 0 (.int .i64 S) hB).set w.heap.size 1 (.slice av 5 cv) hB
        rw [← HD0.out, HT.out]
        exact F2.more (Nat.le_of_lt hB)

end Go.Proofs.Ythnoeknalpnadaa

namespace Go.Proofs.Ythnoeknalpnadaa
open Go.RowKit
set_option linter.unusedVariables false

theorem step_push {ops : Array Oper} {o : Oper} {a : Act} {w : World} {K : Act → World → Prop} {Q : Exit → Act → World → Prop} {E : Prop} (hgd : o.guard = none) (s x : Operand)
    (ho : o.op = .call { callee := .builtin .append, args := #[s, x], argTypes := #[37, 37] })
    (B : Nat) (v : Value) (l : List Int) (n : Int) (hs : a.eval s = v) (hf : Fresh B w v l) (ad : Addr) (c : Nat) (hx : a.eval x = .slice (some ad) 1 c)
    (hc : w.cell? ad = some (.int .i64 n)) (m : Nat) (hm : l.length = m) (hl : m ≤ 1099511627776) (hB : B ≤ w.heap.size)
    (h : ∀ ao cap w', Fresh B w' (.slice ao (m + 1) cap) (l ++ [n]) → w.grownBy w' v.ownBlock → K (a.put o.dst (.slice ao (m + 1) cap)) w') : if Region.wanted o (yielded ops a.tmps) = true then Oper.wp Try.prog o a w K Q else E := by
  obtain ⟨i0, hi, hz0, hz1, hz2⟩ := info_parts Try.infoInt
  have hw : Region.wanted o (yielded ops a.tmps) = true := by simp [Region.wanted, hgd]
  rw [if_pos hw]
  refine wp_append_own w s x 37 ho B 3 i0 (.int .i64 0) 1 8 Try.underlying37 hi hz0 hz1 hz2 rfl (by decide) v l.length _ hs hf ad 1 c [.int .i64 n] hx rfl ?_ ?_ ?_ ?_ hB ?_
  · intro j u hj
    match j, hj with
    | 0, hj => simp at hj; subst hj; simpa [Addr.add] using hc
  · intro u hu; simp at hu; subst hu; rfl
  · unfold maxLen; omega
  · omega
  · intro v' w' ho' hg _
    have hf' : Fresh B w' v' (l ++ [n]) := by
      unfold Fresh
      rw [List.map_append, List.length_append]; exact ho'
    obtain ⟨ao, cap, rfl⟩ := hf'.form
    have e : (l ++ [n]).length = m + 1 := by simp [hm]
    rw [e] at hf' ⊢
    exact h ao cap w' hf' hg

theorem far_cell {B b o : Nat} {wr W W' : World} {v x : Value} {l : List Int} (f : Fresh B wr v l) (e : Ext wr W) (t : W.grownBy W' v.ownBlock) (hc : wr.cell? ⟨b, o, none⟩ = some x) (hb : b < B) : W'.cell? ⟨b, o, none⟩ = some x := cell_marked f t (e.cell hc) (.inl hb)
theorem far_free {B b o : Nat} {wr W W' : World} {v x : Value} {l : List Int} (f : Fresh B wr v l) (e : Ext wr W) (t : W.grownBy W' v.ownBlock) (hc : wr.cell? ⟨b, 0, none⟩ = some x) (hz : wr.frozen? ⟨b, o, none⟩ = false) (hb : b < B) : W'.frozen? ⟨b, o, none⟩ = false := by
  have hlt : b < wr.heap.size := World.block_lt_of_cell? wr _ hc
  have h := World.grownBy.frozen_far t ⟨b, o, none⟩ (Nat.lt_of_lt_of_le hlt e.size) (fun e' => by
    have := (World.ownsRow.lt f b e'.symm).1
    omega)
  rw [h]
  exact e.frozen hlt hz
theorem far_attr {B b : Nat} {wr W W' : World} {v u : Value} {s : Int} {l : List Int} (f : Fresh B wr v l) (e : Ext wr W) (t : W.grownBy W' v.ownBlock) (h : AttrAt wr b s u) (hb : b < B) : AttrAt W' b s u := ⟨far_cell f e t h.1 hb, far_cell f e t h.2 hb⟩
theorem far_open {B b : Nat} {wr W W' : World} {v u : Value} {s : Int} {l : List Int} (f : Fresh B wr v l) (e : Ext wr W) (t : W.grownBy W' v.ownBlock) (h : OpenAt wr b s u) (hb : b < B) : OpenAt W' b s u :=
  ⟨far_attr f e t h.1 hb, far_free f e t h.1.1 h.2.1 hb, far_free f e t h.1.1 h.2.2 hb⟩
theorem cell_other {W : World} {g o : Nat} {a : Addr} {z u : Value} (hne : a.block ≠ g) (h : W.cell? a = some u) : (W.setCell ⟨g, o, none⟩ z).cell? a = some u := by
  have hh := Below.heap_setCell W ⟨g, o, none⟩ z a.block hne
  have e : (W.setCell ⟨g, o, none⟩ z).cell? a = W.cell? a := by unfold World.cell?; rw [hh]
  rw [e]; exact h
theorem AttrAt.other {w : World} {b g o : Nat} {s : Int} {u z : Value} (h : AttrAt w b s u) (hne : b ≠ g) : AttrAt (w.setCell ⟨g, o, none⟩ z) b s u := ⟨cell_other hne h.1, cell_other hne h.2⟩
theorem OpenAt.other {w : World} {b g o : Nat} {s : Int} {u z : Value} (h : OpenAt w b s u) (hne : b ≠ g) : OpenAt (w.setCell ⟨g, o, none⟩ z) b s u :=
  ⟨h.1.other hne, by rw [World.frozen?_setCell]; exact h.2.1, by rw [World.frozen?_setCell]; exact h.2.2⟩
theorem OpenAt.set1 {w : World} {b : Nat} {s : Int} {u z : Value} (h : OpenAt w b s u) : OpenAt (w.setCell ⟨b, 1, none⟩ z) b s z := by
  obtain ⟨⟨c0, c1⟩, z0, z1⟩ := h
  refine ⟨⟨?_, ?_⟩, ?_, ?_⟩ <;> go_simp

end Go.Proofs.Ythnoeknalpnadaa

namespace Go.Proofs.Ythnoeknalpnadaa
open Go.RowKit
set_option linter.unusedVariables false

/-- The greater of both. -/
def mo (x y : Int) : Int := if y < x then x else y
theorem l1Most_any (x y : Int) (w : World) :
    Calls Try.prog 167 #[.int .i64 x, .int .i64 y] w fun e w' => e = .returned (.int .i64 (mo x y)) ∧ w = w' := by
  by_cases h : y < x
  · have e : mo x y = x := by unfold mo; rw [if_pos h]
    rw [e]
    go_enter Try.func167, Try.ntmps167
    go_wp2
    go_ret
    exact ⟨rfl, rfl⟩
  · have e : mo x y = y := by unfold mo; rw [if_neg h]
    rw [e]
    go_enter Try.func167, Try.ntmps167
    go_wp2
    go_ret
    exact ⟨rfl, rfl⟩

theorem four_at (w : World) (T : TypeId) (s t p q : Int) (u v y z : Value) :
    OpenAt ((((w.alloc (.cells #[.int .i64 s, u] T)).alloc (.cells #[.int .i64 t, v] T)).alloc (.cells #[.int .i64 p, y] T)).alloc (.cells #[.int .i64 q, z] T)) (w.heap.size + 1 + 1 + 1) q z ∧
    OpenAt ((((w.alloc (.cells #[.int .i64 s, u] T)).alloc (.cells #[.int .i64 t, v] T)).alloc (.cells #[.int .i64 p, y] T)).alloc (.cells #[.int .i64 q, z] T)) (w.heap.size + 1 + 1) p y ∧
    AttrAt ((((w.alloc (.cells #[.int .i64 s, u] T)).alloc (.cells #[.int .i64 t, v] T)).alloc (.cells #[.int .i64 p, y] T)).alloc (.cells #[.int .i64 q, z] T)) w.heap.size s u ∧
    AttrAt ((((w.alloc (.cells #[.int .i64 s, u] T)).alloc (.cells #[.int .i64 t, v] T)).alloc (.cells #[.int .i64 p, y] T)).alloc (.cells #[.int .i64 q, z] T)) (w.heap.size + 1) t v := by
  refine ⟨⟨⟨?_, ?_⟩, ?_, ?_⟩, ⟨⟨?_, ?_⟩, ?_, ?_⟩, ⟨?_, ?_⟩, ?_, ?_⟩ <;> go_simp
theorem Ext.alloc4 (w : World) (a b c d : Obj) : Ext w ((((w.alloc a).alloc b).alloc c).alloc d) := ((((Ext.refl w).alloc a).alloc b).alloc c).alloc d

theorem keepJ {W W' : World} {a b c d : Addr} {u v r s : Value} (x : Ext W W') (h : W.cell? a = some u ∧ W.cell? b = some v ∧ W.cell? c = some r ∧ W.cell? d = some s) : W'.cell? a = some u ∧ W'.cell? b = some v ∧ W'.cell? c = some r ∧ W'.cell? d = some s :=
  ⟨x.cell h.1, x.cell h.2.1, x.cell h.2.2.1, x.cell h.2.2.2⟩
theorem keepJF {B : Nat} {wr W W' : World} {v0 : Value} {l : List Int} (f : Fresh B wr v0 l) (t : W.grownBy W' v0.ownBlock) {a b c d : Addr} {u v r s : Value} (ha : a.block < B) (hb : b.block < B) (hc : c.block < B) (hd : d.block < B)
    (h : W.cell? a = some u ∧ W.cell? b = some v ∧ W.cell? c = some r ∧ W.cell? d = some s) : W'.cell? a = some u ∧ W'.cell? b = some v ∧ W'.cell? c = some r ∧ W'.cell? d = some s := by
  have ne : ∀ q : Addr, q.block < B → some q.block ≠ v0.ownBlock := fun q hq e => by
    have := (World.ownsRow.lt f q.block e.symm).1
    omega
  exact ⟨World.grownBy.cell t h.1 (ne a ha), World.grownBy.cell t h.2.1 (ne b hb), World.grownBy.cell t h.2.2.1 (ne c hc), World.grownBy.cell t h.2.2.2 (ne d hd)⟩
theorem keepJS {W : World} {g o : Nat} {z : Value} {a b c d : Addr} {u v r s : Value} (ha : a.block ≠ g) (hb : b.block ≠ g) (hc : c.block ≠ g) (hd : d.block ≠ g)
    (h : W.cell? a = some u ∧ W.cell? b = some v ∧ W.cell? c = some r ∧ W.cell? d = some s) : (W.setCell ⟨g, o, none⟩ z).cell? a = some u ∧ (W.setCell ⟨g, o, none⟩ z).cell? b = some v ∧ (W.setCell ⟨g, o, none⟩ z).cell? c = some r ∧ (W.setCell ⟨g, o, none⟩ z).cell? d = some s :=
  ⟨cell_other ha h.1, cell_other hb h.2.1, cell_other hc h.2.2.1, cell_other hd h.2.2.2⟩

/-- The first k greater ones. -/
def joinTo (l r : List Int) (k : Nat) : List Int := (List.range k).map fun i => mo (at0 l i) (at0 r i)
theorem joinTo_succ (l r : List Int) (k : Nat) : joinTo l r (k + 1) = joinTo l r k ++ [mo (at0 l k) (at0 r k)] := by simp [joinTo, List.range_succ]
theorem joinTo_len (l r : List Int) (k : Nat) : (joinTo l r k).length = k := by simp [joinTo]

set_option maxRecDepth 100000 in
set_option maxHeartbeats 8000000 in
theorem l3Join_any (s t : Int) (u v : Value) (l r : List Int) (w : World) (hu : Ints w u l) (hv : Ints w v r) (hl : l.length = r.length) (h5 : l.length ≤ 5) :
    Calls Try.prog 143 #[.agg #[.int .i64 s, u], .agg #[.int .i64 t, v]] w (NewAttr (mo s t) (joinTo l r l.length) w) := by
  obtain ⟨au, cu, rfl, hlu, hcapu, hcu⟩ := hu
  obtain ⟨av, cv, rfl, hlv, hcapv, hcv⟩ := hv
  unfold maxLen at hlu hlv
  have HCU := Lib.hid hcu
  have HCV := Lib.hid hcv
  have HL := Lib.hid hl
  have HB := Lib.hid (box2 w s t (.slice au l.length cu) (.slice av r.length cv) 39)
  clear hcapu hcapv hcu hcv hl
  go_enter Try.func143, Try.ntmps143
  go_wp2_with fail
  refine (l1Most_any _ _ _).mono ?_
  rintro e w' ⟨rfl, rfl⟩
  go_wp2
  go_loopw [6, 16] (fun _ i wr => ∃ (k : Nat) (ao : Option Addr) (c : Nat), k ≤ l.length ∧ i = .int .i64 k ∧ OpenAt wr (w.heap.size + 1 + 1 + 1) (mo s t) (.slice ao k c) ∧ OpenAt wr (w.heap.size + 1 + 1) 0 (.slice none 0 0) ∧ Fresh (w.heap.size + 4) wr (.slice ao k c) (joinTo l r k) ∧ AttrAt wr w.heap.size s (.slice au l.length cu) ∧ AttrAt wr (w.heap.size + 1) t (.slice av r.length cv) ∧ Ext w wr) (fun _ i _ => l.length - (intOf i).toNat)
  case atStart => exact ⟨0, none, 0, Nat.zero_le _, rfl, (four_at _ _ _ _ _ _ _ _ _ _).1, (four_at _ _ _ _ _ _ _ _ _ _).2.1, fresh_nil _ _, (four_at _ _ _ _ _ _ _ _ _ _).2.2.1, (four_at _ _ _ _ _ _ _ _ _ _).2.2.2, Ext.alloc4 _ _ _ _ _⟩
  case round =>
    obtain ⟨k, ao, c, hk, rfl, hO, hR, hF, hA, hB, hx⟩ := hrel
    have hsz : w.heap.size + 4 ≤ wr.heap.size := by have := World.block_lt_of_cell? wr _ hO.1.1; simp at this; omega
    have HF := Lib.hid hF
    have HO := Lib.hid hO
    have HR := Lib.hid hR
    have HA := Lib.hid hA
    have HBB := Lib.hid hB
    have HX := Lib.hid hx
    obtain ⟨⟨o0, o1⟩, -, -⟩ := hO
    obtain ⟨a0, a1⟩ := hA
    obtain ⟨b0, b1⟩ := hB
    by_cases hlt : k < l.length
    · have hltr : k < r.length := by have := HL.out; omega
      obtain ⟨bu, ou, rfl, du⟩ := HCU.out (by omega)
      obtain ⟨bv, ov, rfl, dv⟩ := HCV.out (by omega)
      have QU : bu < w.heap.size := World.block_lt_of_cell? w _ (du k hlt)
      have QV : bv < w.heap.size := World.block_lt_of_cell? w _ (dv k hltr)
      have gu := hx.cell (du k hlt)
      have gv := hx.cell (dv k hltr)
      have hS := Lib.hid (joinTo_succ l r k)
      have hxd : at0 l k = l[k]?.getD 0 := rfl
      have hyd : at0 r k = r[k]?.getD 0 := rfl
      obtain ⟨x, hx'⟩ : ∃ x, x = l[k]?.getD 0 := ⟨_, rfl⟩
      obtain ⟨y, hy'⟩ : ∃ y, y = r[k]?.getD 0 := ⟨_, rfl⟩
      rw [← hx'] at gu hxd
      rw [← hy'] at gv hyd
      rw [hxd, hyd] at hS
      have i0 : (0 : Int) ≤ k := by omega
      have i1 : (k : Int) < l.length := by omega
      have i2 : (k : Int) < r.length := by omega
      have hk5 : k ≤ 1099511627776 := by omega
      have q1 : w.heap.size + 1 + 1 + 1 < wr.heap.size := by omega
      have q2 : w.heap.size + 1 + 1 + 1 ≠ wr.heap.size := by omega
      have q3 : bu < w.heap.size := QU
      have q4 : bv < w.heap.size := QV
      have hjl : Hid ((joinTo l r k).length = k) := Lib.hid (joinTo_len l r k)
      clear hR hF hx du dv hx' hy' hxd hyd
      go_wp2
      go_region_law (first | (refine step_push rfl (.tmp 20) (.tmp 32) rfl (w.heap.size + 4) (.slice ao k c) (joinTo l r k) (mo x y) rfl (Fresh.ext HF.out (by repeat (first | exact Ext.refl _ | apply Ext.drew | apply Ext.alloc))) ⟨wr.heap.size, 0, none⟩ 1 rfl (by go_simp) k hjl.out hk5 (by simp; omega) ?_; intro ao' c' W' hf' hg'; obtain ⟨⟨m0, m1⟩, y0, y1⟩ := far_open HF.out (by repeat (first | exact Ext.refl _ | apply Ext.drew | apply Ext.alloc)) hg' HO.out (by omega)) | (go_simp; go_at_call 167; refine (l1Most_any _ _ _).mono ?_; rintro e w' ⟨rfl, rfl⟩))
      all_goals
        have hX : Ext wr _ := (by repeat (first | exact Ext.refl _ | apply Ext.drew | apply Ext.alloc) : Ext wr (wr.alloc (.cells #[.int .i64 (mo x y)] 3)).drew)
        have hO' := (far_open HF.out hX hg' HO.out (by omega)).set1 (z := .slice ao' (k + 1) c')
        have hR' := (far_open HF.out hX hg' HR.out (by omega)).other (g := w.heap.size + 1 + 1 + 1) (o := 1) (z := .slice ao' (k + 1) c') (by omega)
        have hA' := (far_attr HF.out hX hg' HA.out (by omega)).other (g := w.heap.size + 1 + 1 + 1) (o := 1) (z := .slice ao' (k + 1) c') (by omega)
        have hB' := (far_attr HF.out hX hg' HBB.out (by omega)).other (g := w.heap.size + 1 + 1 + 1) (o := 1) (z := .slice ao' (k + 1) c') (by omega)
        have hF' := hf'.set (w.heap.size + 1 + 1 + 1) 1 (.slice ao' (k + 1) c') (by omega)
        rw [← hS.out] at hF'
        have hx' : Ext w W' := ((HX.out.trans hX).touch ((HF.out.ext hX).more (by omega)) hg')
        have hx' := hx'.setc (a := ⟨w.heap.size + 1 + 1 + 1, 1, none⟩) (v := .slice ao' (k + 1) c') (by dsimp only; omega)
        have P := Lib.hid (And.intro hO' (And.intro hR' (And.intro hF' (And.intro hA' (And.intro hB' hx')))))
        clear hO' hR' hF' hA' hB' hx' hX hf' hg' m0 m1 y0 y1 o0 o1 a0 a1 b0 b1 gu gv q1 q2 q3 q4
        go_wp2
        go_roundw
        case rel => exact ⟨k + 1, ao', c', by omega, by go_num, P.out.1, P.out.2.1, P.out.2.2.1, P.out.2.2.2.1, P.out.2.2.2.2.1, P.out.2.2.2.2.2⟩
        case measure => simp [intOf]; omega
    · obtain rfl : k = l.length := by omega
      obtain ⟨⟨r0, r1⟩, z0, z1⟩ := hR
      clear hF hx a0 a1 b0 b1
      go_wp2
      refine bodyPost_ret (v := .agg #[.int .i64 (mo s t), .slice ao l.length c]) (by simp [results, Try.results143, go_sem, r0, r1]) rfl ⟨_, rfl, ?_, ?_⟩
      · exact ((HF.out.set _ _ _ (by omega)).set _ _ _ (by omega)).more (by omega)
      · exact (HX.out.setc (by dsimp only; omega)).setc (by dsimp only; omega)

end Go.Proofs.Ythnoeknalpnadaa

namespace Go.Proofs.Ythnoeknalpnadaa
open Go.RowKit

def acctB (n : Int) : Bool := inB n 0 3
theorem acctB_yes {n : Int} (h : acctB n = true) : 0 ≤ n ∧ n ≤ 3 := by unfold acctB inB at h; simpa using h

theorem l2Account_any (n : Int) (w : World) :
    Calls Try.prog 178 #[.int .i64 n] w fun e w' => e = .returned (.bool (acctB n)) ∧ w = w' := by
  go_enter Try.func178, Try.ntmps178
  go_wp2_with (go_at_call 76; refine (l1In_any _ _ _ _).mono ?_; rintro e w' ⟨rfl, rfl⟩)
  go_ret
  exact ⟨rfl, rfl⟩

theorem isAccount_any (n : Int) (w : World) :
    Calls Try.prog 179 #[.int .i64 n] w fun e w' => e = .returned (.bool (acctB n)) ∧ w = w' := by
  unfold acctB
  by_cases h1 : 0 ≤ n
  · by_cases h2 : n < 4
    · go_enter Try.func179, Try.ntmps179
      go_wp2
      go_ret
      exact ⟨by rw [inB_yes h1 (by omega)]; rfl, rfl⟩
    · go_enter Try.func179, Try.ntmps179
      go_wp2
      go_ret
      exact ⟨by rw [inB_no (by omega)]; rfl, rfl⟩
  · go_enter Try.func179, Try.ntmps179
    go_wp2
    go_ret
    exact ⟨by rw [inB_no (by omega)]; rfl, rfl⟩

theorem isCmdId_any (n : Int) (w : World) :
    Calls Try.prog 180 #[.int .i64 n] w fun e w' => e = .returned (.bool (inB n 1 999)) ∧ w = w' := by
  by_cases h1 : 1 ≤ n
  · by_cases h2 : n ≤ 999
    · go_enter Try.func180, Try.ntmps180
      go_wp2
      go_ret
      exact ⟨by rw [inB_yes h1 (by omega)]; rfl, rfl⟩
    · go_enter Try.func180, Try.ntmps180
      go_wp2
      go_ret
      exact ⟨by rw [inB_no (by omega)]; rfl, rfl⟩
  · go_enter Try.func180, Try.ntmps180
    go_wp2
    go_ret
    exact ⟨by rw [inB_no (by omega)]; rfl, rfl⟩

theorem isAmount_any (n : Int) (w : World) :
    Calls Try.prog 181 #[.int .i64 n] w fun e w' => e = .returned (.bool (inB n 1 1000)) ∧ w = w' := by
  by_cases h1 : 1 ≤ n
  · by_cases h2 : n ≤ 1000
    · go_enter Try.func181, Try.ntmps181
      go_wp2
      go_ret
      exact ⟨by rw [inB_yes h1 (by omega)]; rfl, rfl⟩
    · go_enter Try.func181, Try.ntmps181
      go_wp2
      go_ret
      exact ⟨by rw [inB_no (by omega)]; rfl, rfl⟩
  · go_enter Try.func181, Try.ntmps181
    go_wp2
    go_ret
    exact ⟨by rw [inB_no (by omega)]; rfl, rfl⟩

/-- What is wrong with a command that moves. -/
def codeM (i f t a : Int) : Int := if acctB f then (if acctB t then (if f == t then 5 else if inB i 1 999 then (if inB a 1 1000 then 0 else 6) else 6) else 4) else 4
/-- What is wrong with another one. -/
def codeR (i f : Int) : Int := if acctB f then (if inB i 1 999 then 0 else 6) else 4

set_option maxHeartbeats 1000000 in
theorem l2Code_move (i f t a : Int) (w : World) :
    Calls Try.prog 166 #[.agg #[.int .i64 1, .int .i64 i, .int .i64 f, .int .i64 t, .int .i64 a]] w (IntExt (codeM i f t a) w) := by
  unfold codeM
  cases h0 : acctB f with
  | false =>
    go_enter Try.func166, Try.ntmps166
    go_wp2_with (first | (go_at_call 178; refine (l2Account_any _ _).mono ?_; rintro e w' ⟨rfl, rfl⟩) | (go_at_call 76; refine (l1In_any _ _ _ _).mono ?_; rintro e w' ⟨rfl, rfl⟩))
    go_ret
    exact ⟨rfl, by repeat (first | exact Ext.refl _ | apply Ext.drew | apply Ext.alloc)⟩
  | true =>
    cases h1 : acctB t with
    | false =>
      go_enter Try.func166, Try.ntmps166
      go_wp2_with (first | (go_at_call 178; refine (l2Account_any _ _).mono ?_; rintro e w' ⟨rfl, rfl⟩) | (go_at_call 76; refine (l1In_any _ _ _ _).mono ?_; rintro e w' ⟨rfl, rfl⟩))
      go_ret
      exact ⟨rfl, by repeat (first | exact Ext.refl _ | apply Ext.drew | apply Ext.alloc)⟩
    | true =>
      cases h2 : (f == t) with
      | true =>
        go_enter Try.func166, Try.ntmps166
        go_wp2_with (first | (go_at_call 178; refine (l2Account_any _ _).mono ?_; rintro e w' ⟨rfl, rfl⟩) | (go_at_call 76; refine (l1In_any _ _ _ _).mono ?_; rintro e w' ⟨rfl, rfl⟩))
        go_ret
        exact ⟨rfl, by repeat (first | exact Ext.refl _ | apply Ext.drew | apply Ext.alloc)⟩
      | false =>
        cases h3 : inB i 1 999 with
        | false =>
          go_enter Try.func166, Try.ntmps166
          go_wp2_with (first | (go_at_call 178; refine (l2Account_any _ _).mono ?_; rintro e w' ⟨rfl, rfl⟩) | (go_at_call 76; refine (l1In_any _ _ _ _).mono ?_; rintro e w' ⟨rfl, rfl⟩))
          go_ret
          exact ⟨rfl, by repeat (first | exact Ext.refl _ | apply Ext.drew | apply Ext.alloc)⟩
        | true =>
          cases h4 : inB a 1 1000 with
          | false =>
            go_enter Try.func166, Try.ntmps166
            go_wp2_with (first | (go_at_call 178; refine (l2Account_any _ _).mono ?_; rintro e w' ⟨rfl, rfl⟩) | (go_at_call 76; refine (l1In_any _ _ _ _).mono ?_; rintro e w' ⟨rfl, rfl⟩))
            go_ret
            exact ⟨rfl, by repeat (first | exact Ext.refl _ | apply Ext.drew | apply Ext.alloc)⟩
          | true =>
            go_enter Try.func166, Try.ntmps166
            go_wp2_with (first | (go_at_call 178; refine (l2Account_any _ _).mono ?_; rintro e w' ⟨rfl, rfl⟩) | (go_at_call 76; refine (l1In_any _ _ _ _).mono ?_; rintro e w' ⟨rfl, rfl⟩))
            go_ret
            exact ⟨rfl, by repeat (first | exact Ext.refl _ | apply Ext.drew | apply Ext.alloc)⟩

set_option maxHeartbeats 1000000 in
theorem l2Code_read (k i f t a : Int) (w : World) (hk : (k == 1) = false) (_hk0 : (k == 0) = false) :
    Calls Try.prog 166 #[.agg #[.int .i64 k, .int .i64 i, .int .i64 f, .int .i64 t, .int .i64 a]] w (IntExt (codeR i f) w) := by
  unfold codeR
  cases h0 : acctB f with
  | false =>
    go_enter Try.func166, Try.ntmps166
    go_wp2_with (first | (go_at_call 178; refine (l2Account_any _ _).mono ?_; rintro e w' ⟨rfl, rfl⟩) | (go_at_call 76; refine (l1In_any _ _ _ _).mono ?_; rintro e w' ⟨rfl, rfl⟩))
    go_ret
    exact ⟨rfl, by repeat (first | exact Ext.refl _ | apply Ext.drew | apply Ext.alloc)⟩
  | true =>
    cases h1 : inB i 1 999 with
    | false =>
      go_enter Try.func166, Try.ntmps166
      go_wp2_with (first | (go_at_call 178; refine (l2Account_any _ _).mono ?_; rintro e w' ⟨rfl, rfl⟩) | (go_at_call 76; refine (l1In_any _ _ _ _).mono ?_; rintro e w' ⟨rfl, rfl⟩))
      go_ret
      exact ⟨rfl, by repeat (first | exact Ext.refl _ | apply Ext.drew | apply Ext.alloc)⟩
    | true =>
      go_enter Try.func166, Try.ntmps166
      go_wp2_with (first | (go_at_call 178; refine (l2Account_any _ _).mono ?_; rintro e w' ⟨rfl, rfl⟩) | (go_at_call 76; refine (l1In_any _ _ _ _).mono ?_; rintro e w' ⟨rfl, rfl⟩))
      go_ret
      exact ⟨rfl, by repeat (first | exact Ext.refl _ | apply Ext.drew | apply Ext.alloc)⟩

set_option maxHeartbeats 1000000 in
theorem faultOfCmd_move (i f t a : Int) (w : World) :
    Calls Try.prog 168 #[.agg #[.int .i64 1, .int .i64 i, .int .i64 f, .int .i64 t, .int .i64 a]] w (IntExt (codeM i f t a) w) := by
  unfold codeM
  cases h0 : acctB f with
  | false =>
    go_enter Try.func168, Try.ntmps168
    go_wp2_with (first | (go_at_call 179; refine (isAccount_any _ _).mono ?_; rintro e w' ⟨rfl, rfl⟩) | (go_at_call 180; refine (isCmdId_any _ _).mono ?_; rintro e w' ⟨rfl, rfl⟩) | (go_at_call 181; refine (isAmount_any _ _).mono ?_; rintro e w' ⟨rfl, rfl⟩))
    go_ret
    exact ⟨rfl, by repeat (first | exact Ext.refl _ | apply Ext.drew | apply Ext.alloc)⟩
  | true =>
    cases h1 : acctB t with
    | false =>
      go_enter Try.func168, Try.ntmps168
      go_wp2_with (first | (go_at_call 179; refine (isAccount_any _ _).mono ?_; rintro e w' ⟨rfl, rfl⟩) | (go_at_call 180; refine (isCmdId_any _ _).mono ?_; rintro e w' ⟨rfl, rfl⟩) | (go_at_call 181; refine (isAmount_any _ _).mono ?_; rintro e w' ⟨rfl, rfl⟩))
      go_ret
      exact ⟨rfl, by repeat (first | exact Ext.refl _ | apply Ext.drew | apply Ext.alloc)⟩
    | true =>
      cases h2 : (f == t) with
      | true =>
        go_enter Try.func168, Try.ntmps168
        go_wp2_with (first | (go_at_call 179; refine (isAccount_any _ _).mono ?_; rintro e w' ⟨rfl, rfl⟩) | (go_at_call 180; refine (isCmdId_any _ _).mono ?_; rintro e w' ⟨rfl, rfl⟩) | (go_at_call 181; refine (isAmount_any _ _).mono ?_; rintro e w' ⟨rfl, rfl⟩))
        go_ret
        exact ⟨rfl, by repeat (first | exact Ext.refl _ | apply Ext.drew | apply Ext.alloc)⟩
      | false =>
        cases h3 : inB i 1 999 with
        | false =>
          go_enter Try.func168, Try.ntmps168
          go_wp2_with (first | (go_at_call 179; refine (isAccount_any _ _).mono ?_; rintro e w' ⟨rfl, rfl⟩) | (go_at_call 180; refine (isCmdId_any _ _).mono ?_; rintro e w' ⟨rfl, rfl⟩) | (go_at_call 181; refine (isAmount_any _ _).mono ?_; rintro e w' ⟨rfl, rfl⟩))
          go_ret
          exact ⟨rfl, by repeat (first | exact Ext.refl _ | apply Ext.drew | apply Ext.alloc)⟩
        | true =>
          cases h4 : inB a 1 1000 with
          | false =>
            go_enter Try.func168, Try.ntmps168
            go_wp2_with (first | (go_at_call 179; refine (isAccount_any _ _).mono ?_; rintro e w' ⟨rfl, rfl⟩) | (go_at_call 180; refine (isCmdId_any _ _).mono ?_; rintro e w' ⟨rfl, rfl⟩) | (go_at_call 181; refine (isAmount_any _ _).mono ?_; rintro e w' ⟨rfl, rfl⟩))
            go_ret
            exact ⟨rfl, by repeat (first | exact Ext.refl _ | apply Ext.drew | apply Ext.alloc)⟩
          | true =>
            go_enter Try.func168, Try.ntmps168
            go_wp2_with (first | (go_at_call 179; refine (isAccount_any _ _).mono ?_; rintro e w' ⟨rfl, rfl⟩) | (go_at_call 180; refine (isCmdId_any _ _).mono ?_; rintro e w' ⟨rfl, rfl⟩) | (go_at_call 181; refine (isAmount_any _ _).mono ?_; rintro e w' ⟨rfl, rfl⟩))
            go_ret
            exact ⟨rfl, by repeat (first | exact Ext.refl _ | apply Ext.drew | apply Ext.alloc)⟩

set_option maxHeartbeats 1000000 in
theorem faultOfCmd_read (k i f t a : Int) (w : World) (hk : (k == 1) = false) (_hk0 : (k == 0) = false) :
    Calls Try.prog 168 #[.agg #[.int .i64 k, .int .i64 i, .int .i64 f, .int .i64 t, .int .i64 a]] w (IntExt (codeR i f) w) := by
  unfold codeR
  cases h0 : acctB f with
  | false =>
    go_enter Try.func168, Try.ntmps168
    go_wp2_with (first | (go_at_call 179; refine (isAccount_any _ _).mono ?_; rintro e w' ⟨rfl, rfl⟩) | (go_at_call 180; refine (isCmdId_any _ _).mono ?_; rintro e w' ⟨rfl, rfl⟩) | (go_at_call 181; refine (isAmount_any _ _).mono ?_; rintro e w' ⟨rfl, rfl⟩))
    go_ret
    exact ⟨rfl, by repeat (first | exact Ext.refl _ | apply Ext.drew | apply Ext.alloc)⟩
  | true =>
    cases h1 : inB i 1 999 with
    | false =>
      go_enter Try.func168, Try.ntmps168
      go_wp2_with (first | (go_at_call 179; refine (isAccount_any _ _).mono ?_; rintro e w' ⟨rfl, rfl⟩) | (go_at_call 180; refine (isCmdId_any _ _).mono ?_; rintro e w' ⟨rfl, rfl⟩) | (go_at_call 181; refine (isAmount_any _ _).mono ?_; rintro e w' ⟨rfl, rfl⟩))
      go_ret
      exact ⟨rfl, by repeat (first | exact Ext.refl _ | apply Ext.drew | apply Ext.alloc)⟩
    | true =>
      go_enter Try.func168, Try.ntmps168
      go_wp2_with (first | (go_at_call 179; refine (isAccount_any _ _).mono ?_; rintro e w' ⟨rfl, rfl⟩) | (go_at_call 180; refine (isCmdId_any _ _).mono ?_; rintro e w' ⟨rfl, rfl⟩) | (go_at_call 181; refine (isAmount_any _ _).mono ?_; rintro e w' ⟨rfl, rfl⟩))
      go_ret
      exact ⟨rfl, by repeat (first | exact Ext.refl _ | apply Ext.drew | apply Ext.alloc)⟩

end Go.Proofs.Ythnoeknalpnadaa

namespace Go.Proofs.Ythnoeknalpnadaa
open Go.RowKit
set_option linter.unusedVariables false

def zeroB (i f t a : Int) : Bool := i == 0 && (f == 0 && (t == 0 && a == 0))
/-- Whether a command is good. -/
def goodB (k i f t a : Int) : Bool := if k == 0 then zeroB i f t a else if k == 1 then codeM i f t a == 0 else if k == 2 then (codeR i f == 0 && t == 0) && a == 0 else false
theorem goodB_0 (i f t a : Int) : goodB 0 i f t a = zeroB i f t a := rfl
theorem goodB_1 (i f t a : Int) : goodB 1 i f t a = (codeM i f t a == 0) := rfl
theorem goodB_2 (i f t a : Int) : goodB 2 i f t a = ((codeR i f == 0 && t == 0) && a == 0) := rfl
theorem goodB_else {k : Int} (i f t a : Int) (h0 : (k == 0) = false) (h1 : (k == 1) = false) (h2 : (k == 2) = false) : goodB k i f t a = false := by
  unfold goodB; simp [h0, h1, h2]

set_option maxHeartbeats 1000000 in
theorem specGood_0 (i f t a : Int) (w : World) :
    Calls Try.prog 123 #[.agg #[.int .i64 0, .int .i64 i, .int .i64 f, .int .i64 t, .int .i64 a]] w (BoolExt (zeroB i f t a) w) := by
  unfold zeroB
  go_enter Try.func123, Try.ntmps123
  go_wp2
  all_goals go_ret
  all_goals refine ⟨?_, by repeat (first | assumption | exact Ext.refl _ | apply Ext.drew | apply Ext.alloc)⟩
  all_goals first | rfl | simp [*]

set_option maxHeartbeats 1000000 in
theorem specGood_1 (i f t a : Int) (w : World) :
    Calls Try.prog 123 #[.agg #[.int .i64 1, .int .i64 i, .int .i64 f, .int .i64 t, .int .i64 a]] w (BoolExt (codeM i f t a == 0) w) := by
  go_enter Try.func123, Try.ntmps123
  go_wp2_with fail
  refine (l2Code_move _ _ _ _ _).mono ?_
  rintro e w' ⟨rfl, hx⟩
  go_wp2
  go_ret
  exact ⟨rfl, Ext.trans (Ext.alloc (Ext.refl _) _) hx⟩

set_option maxHeartbeats 1000000 in
theorem specGood_2 (i f t a : Int) (w : World) :
    Calls Try.prog 123 #[.agg #[.int .i64 2, .int .i64 i, .int .i64 f, .int .i64 t, .int .i64 a]] w (BoolExt ((codeR i f == 0 && t == 0) && a == 0) w) := by
  by_cases ht : t = 0
  · by_cases ha : a = 0
    · subst ht; subst ha
      cases hc : (codeR i f == 0) with
      | false =>
        go_enter Try.func123, Try.ntmps123
        go_wp2_with fail
        refine (l2Code_read 2 _ _ _ _ _ rfl rfl).mono ?_
        rintro e w' ⟨rfl, hx⟩
        go_wp2
        go_ret
        exact ⟨rfl, Ext.trans (Ext.alloc (Ext.refl _) _) hx⟩
      | true =>
        go_enter Try.func123, Try.ntmps123
        go_wp2_with fail
        refine (l2Code_read 2 _ _ _ _ _ rfl rfl).mono ?_
        rintro e w' ⟨rfl, hx⟩
        have c1 := hx.cell (a := ⟨w.heap.size, 3, none⟩) (v := .int .i64 0) (by go_simp)
        have c2 := hx.cell (a := ⟨w.heap.size, 4, none⟩) (v := .int .i64 0) (by go_simp)
        go_wp2
        go_ret
        exact ⟨rfl, Ext.trans (Ext.alloc (Ext.refl _) _) hx⟩
    · have e2 : (a == 0) = false := by simp [ha]
      subst ht
      cases hc : (codeR i f == 0) with
      | false =>
        go_enter Try.func123, Try.ntmps123
        go_wp2_with fail
        refine (l2Code_read 2 _ _ _ _ _ rfl rfl).mono ?_
        rintro e w' ⟨rfl, hx⟩
        go_wp2
        go_ret
        exact ⟨rfl, Ext.trans (Ext.alloc (Ext.refl _) _) hx⟩
      | true =>
        go_enter Try.func123, Try.ntmps123
        go_wp2_with fail
        refine (l2Code_read 2 _ _ _ _ _ rfl rfl).mono ?_
        rintro e w' ⟨rfl, hx⟩
        have c1 := hx.cell (a := ⟨w.heap.size, 3, none⟩) (v := .int .i64 0) (by go_simp)
        have c2 := hx.cell (a := ⟨w.heap.size, 4, none⟩) (v := .int .i64 a) (by go_simp)
        go_wp2
        go_ret
        exact ⟨by rw [e2]; rfl, Ext.trans (Ext.alloc (Ext.refl _) _) hx⟩
  · have e1 : (t == 0) = false := by simp [ht]
    cases hc : (codeR i f == 0) with
    | false =>
      go_enter Try.func123, Try.ntmps123
      go_wp2_with fail
      refine (l2Code_read 2 _ _ _ _ _ rfl rfl).mono ?_
      rintro e w' ⟨rfl, hx⟩
      go_wp2
      go_ret
      exact ⟨rfl, Ext.trans (Ext.alloc (Ext.refl _) _) hx⟩
    | true =>
      go_enter Try.func123, Try.ntmps123
      go_wp2_with fail
      refine (l2Code_read 2 _ _ _ _ _ rfl rfl).mono ?_
      rintro e w' ⟨rfl, hx⟩
      have c1 := hx.cell (a := ⟨w.heap.size, 3, none⟩) (v := .int .i64 t) (by go_simp)
      go_wp2
      go_ret
      exact ⟨by rw [e1]; rfl, Ext.trans (Ext.alloc (Ext.refl _) _) hx⟩

set_option maxHeartbeats 1000000 in
theorem specGood_else (k i f t a : Int) (w : World) (h0 : (k == 0) = false) (h1 : (k == 1) = false) (h2 : (k == 2) = false) :
    Calls Try.prog 123 #[.agg #[.int .i64 k, .int .i64 i, .int .i64 f, .int .i64 t, .int .i64 a]] w (BoolExt false w) := by
  go_enter Try.func123, Try.ntmps123
  go_wp2
  go_ret
  exact ⟨rfl, by repeat (first | assumption | exact Ext.refl _ | apply Ext.drew | apply Ext.alloc)⟩

theorem specGood_any (k i f t a : Int) (w : World) :
    Calls Try.prog 123 #[.agg #[.int .i64 k, .int .i64 i, .int .i64 f, .int .i64 t, .int .i64 a]] w (BoolExt (goodB k i f t a) w) := by
  by_cases h0 : k = 0
  · subst h0; exact specGood_0 i f t a w
  · by_cases h1 : k = 1
    · subst h1; exact specGood_1 i f t a w
    · by_cases h2 : k = 2
      · subst h2; exact specGood_2 i f t a w
      · have g0 : (k == 0) = false := by simp [h0]
        have g1 : (k == 1) = false := by simp [h1]
        have g2 : (k == 2) = false := by simp [h2]
        rw [goodB_else i f t a g0 g1 g2]
        exact specGood_else k i f t a w g0 g1 g2

set_option maxHeartbeats 1000000 in
theorem implGood_0 (i f t a : Int) (w : World) :
    Calls Try.prog 125 #[.agg #[.int .i64 0, .int .i64 i, .int .i64 f, .int .i64 t, .int .i64 a]] w (BoolExt (zeroB i f t a) w) := by
  unfold zeroB
  go_enter Try.func125, Try.ntmps125
  go_wp2
  all_goals go_ret
  all_goals refine ⟨?_, by repeat (first | assumption | exact Ext.refl _ | apply Ext.drew | apply Ext.alloc)⟩
  all_goals first | rfl | simp [*]

set_option maxHeartbeats 1000000 in
theorem implGood_1 (i f t a : Int) (w : World) :
    Calls Try.prog 125 #[.agg #[.int .i64 1, .int .i64 i, .int .i64 f, .int .i64 t, .int .i64 a]] w (BoolExt (codeM i f t a == 0) w) := by
  go_enter Try.func125, Try.ntmps125
  go_wp2_with fail
  refine (faultOfCmd_move _ _ _ _ _).mono ?_
  rintro e w' ⟨rfl, hx⟩
  go_wp2
  go_ret
  exact ⟨rfl, Ext.trans (Ext.alloc (Ext.refl _) _) hx⟩

set_option maxHeartbeats 1000000 in
theorem implGood_2 (i f t a : Int) (w : World) :
    Calls Try.prog 125 #[.agg #[.int .i64 2, .int .i64 i, .int .i64 f, .int .i64 t, .int .i64 a]] w (BoolExt ((codeR i f == 0 && t == 0) && a == 0) w) := by
  by_cases ht : t = 0
  · by_cases ha : a = 0
    · subst ht; subst ha
      go_enter Try.func125, Try.ntmps125
      go_wp2_with fail
      refine (faultOfCmd_read 2 _ _ _ _ _ rfl rfl).mono ?_
      rintro e w' ⟨rfl, hx⟩
      go_wp2
      go_ret
      exact ⟨by simp, Ext.trans (Ext.alloc (Ext.refl _) _) hx⟩
    · have e2 : (a != 0) = true := by simp [ha]
      have e3 : (a == 0) = false := by simp [ha]
      subst ht
      go_enter Try.func125, Try.ntmps125
      go_wp2
      go_ret
      exact ⟨by simp [ha], by repeat (first | assumption | exact Ext.refl _ | apply Ext.drew | apply Ext.alloc)⟩
  · have e1 : (t != 0) = true := by simp [ht]
    go_enter Try.func125, Try.ntmps125
    go_wp2
    go_ret
    exact ⟨by simp [ht], by repeat (first | assumption | exact Ext.refl _ | apply Ext.drew | apply Ext.alloc)⟩

set_option maxHeartbeats 1000000 in
theorem implGood_else (k i f t a : Int) (w : World) (h0 : (k == 0) = false) (h1 : (k == 1) = false) (h2 : (k == 2) = false) :
    Calls Try.prog 125 #[.agg #[.int .i64 k, .int .i64 i, .int .i64 f, .int .i64 t, .int .i64 a]] w (BoolExt false w) := by
  go_enter Try.func125, Try.ntmps125
  go_wp2
  go_ret
  exact ⟨rfl, by repeat (first | assumption | exact Ext.refl _ | apply Ext.drew | apply Ext.alloc)⟩

theorem implGood_any (k i f t a : Int) (w : World) :
    Calls Try.prog 125 #[.agg #[.int .i64 k, .int .i64 i, .int .i64 f, .int .i64 t, .int .i64 a]] w (BoolExt (goodB k i f t a) w) := by
  by_cases h0 : k = 0
  · subst h0; exact implGood_0 i f t a w
  · by_cases h1 : k = 1
    · subst h1; exact implGood_1 i f t a w
    · by_cases h2 : k = 2
      · subst h2; exact implGood_2 i f t a w
      · have g0 : (k == 0) = false := by simp [h0]
        have g1 : (k == 1) = false := by simp [h1]
        have g2 : (k == 2) = false := by simp [h2]
        rw [goodB_else i f t a g0 g1 g2]
        exact implGood_else k i f t a w g0 g1 g2

end Go.Proofs.Ythnoeknalpnadaa
