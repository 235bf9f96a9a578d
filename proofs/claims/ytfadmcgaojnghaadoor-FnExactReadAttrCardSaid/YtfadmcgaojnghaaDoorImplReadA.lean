/- Contract of the program's ReadAttr, by cases of the text. -/
import Derived.Test.YtfadmcgaojnghaaDoorCutA
namespace Go.Proofs.YtfadmcgaojnghaaDoor
open Go.RowKit
set_option linter.unusedVariables false

theorem split_at (s : ByteArray) (hs : s.size ≤ 40) (w : World) (hm : LongAt w) :
    Calls Tryd.prog 61 #[.string s, .string ⟨#[44]⟩] w fun e w' => ∃ v, e = .returned v ∧ Strs w' v (commas s) ∧ Ext w w' := by
  obtain ⟨m, hm⟩ := hm
  have hl := commas_len s
  have hle := Lib.countB_le ⟨#[44]⟩ (by decide) s.size s (Nat.le_refl _)
  refine (Tryd.strings_Split s ⟨#[44]⟩ m w (by omega) hm (by decide)).mono ?_
  rintro e w' ⟨rfl, rfl⟩
  refine ⟨_, rfl, ⟨some ⟨w.heap.size, 0, none⟩, Lib.countB s ⟨#[44]⟩ + 1, by rw [hl], by unfold maxLen; omega, ⟨by omega, by unfold maxLen; omega, fun h => by cases h⟩, fun _ => ⟨w.heap.size, 0, rfl, fun j hj => ?_⟩⟩, Ext.alloc (Ext.refl _) _⟩
  show (w.alloc (.cells ((commas s).map Value.string).toArray 9)).cell? ⟨w.heap.size, 0 + j, none⟩ = _
  have hc : (((commas s).map Value.string).toArray)[j]? = some (.string (commas s)[j]) := by
    rw [List.getElem?_toArray]
    simp [List.getElem?_eq_getElem hj]
  rw [← hc, Nat.zero_add]
  go_simp

set_option maxRecDepth 100000 in
set_option maxHeartbeats 4000000 in
theorem implReadA_long (n : Int) (s : ByteArray) (w : World) (hs : s.size ≤ 1048576) (h : 40 < s.size) :
    Calls Tryd.prog 30 #[.int .i64 n, .string s] w (TwoAttr 0 [] false w) := by
  have i0 : (40 : Int) < (s.size : Int) := by omega
  clear h
  have HO := Lib.hid (openAt_new w 47 0 (.slice none 0 0))
  obtain ⟨⟨c0, c1⟩, z0, z1⟩ := HO.out
  go_enter Tryd.func30, Tryd.ntmps30
  go_wp2
  refine bodyPost_ret (v := .tuple #[.agg #[.int .i64 0, .slice none 0 0], .bool false]) ?_ rfl ⟨_, rfl, fresh_nil _ _, Ext.alloc (Ext.refl _) _⟩
  simp [results, Tryd.results30, go_sem, c0, c1]

set_option maxRecDepth 100000 in
set_option maxHeartbeats 4000000 in
theorem implReadA_cut (n : Int) (s : ByteArray) (w : World) (hs : s.size ≤ 40) (hm : LongAt w) (x y : ByteArray) (h : (⟨(Lib.cut s.data.toList [58]).1.toArray⟩ : ByteArray) = x ∧ (⟨(Lib.cut s.data.toList [58]).2.1.toArray⟩ : ByteArray) = y ∧ (Lib.cut s.data.toList [58]).2.2 = false) :
    Calls Tryd.prog 30 #[.int .i64 n, .string s] w (TwoAttr 0 [] false w) := by
  have i0 : ¬ (40 : Int) < (s.size : Int) := by omega
  have cC := fun W => cut_at s (by omega) W
  rw [h.1, h.2.1, h.2.2] at cC
  have CC := Lib.hid cC
  have HM := Lib.hid hm
  have HO := Lib.hid (openAt_new w 47 0 (.slice none 0 0))
  clear h hm cC
  go_enter Tryd.func30, Tryd.ntmps30
  go_wp2_with fail
  refine (CC.out _ (HM.out.ext (Ext.alloc (Ext.refl _) _))).mono ?_
  rintro e w1 ⟨rfl, x1⟩
  obtain ⟨⟨c0, c1⟩, z0, z1⟩ := HO.out.ext x1
  have hx : Ext w w1 := (Ext.alloc (Ext.refl _) _).trans x1
  clear x1
  go_wp2
  refine bodyPost_ret (v := .tuple #[.agg #[.int .i64 0, .slice none 0 0], .bool false]) ?_ rfl ⟨_, rfl, fresh_nil _ _, Ext.setc (Ext.setc hx (Nat.le_refl _)) (Nat.le_refl _)⟩
  simp [results, Tryd.results30, go_sem, c0, c1]

/-- An attribute comes back where b holds, none otherwise. -/
def AttrIf (b : Bool) (V : Int) (L : List Int) (w : World) (e : Ending) (w' : World) : Prop := TwoAttr (if b then V else 0) (if b then L else []) b w e w'
theorem OpenAt.back {w : World} {b : Nat} {s : Int} {u : Value} (h : OpenAt w b s u) (t : Int) (v : Value) : AttrAt ((w.setCell ⟨b, 0, none⟩ (.int .i64 t)).setCell ⟨b, 1, none⟩ v) b t v := by
  obtain ⟨⟨c0, c1⟩, z0, z1⟩ := h
  constructor <;> go_simp
/-- What the program says of the numbers that it read. -/
def okP (n : Int) (x : ByteArray) (ws : List ByteArray) : Bool := isNumT x.data.toList && (allNumT ws && goodA n (numValT x.data.toList) (if allNumT ws then numsWT ws else []))

set_option maxRecDepth 100000 in
set_option maxHeartbeats 4000000 in
theorem implReadA_two (n : Int) (s : ByteArray) (w : World) (hs : s.size ≤ 40) (hm : LongAt w) (hp : Pow w) (he : ErrAt w) (x y : ByteArray) (hx40 : x.size ≤ 40) (hy40 : y.size ≤ 40) (hl : (commas y).length ≤ 41) (hsz : ∀ u ∈ commas y, u.size ≤ 1048576) (h : (⟨(Lib.cut s.data.toList [58]).1.toArray⟩ : ByteArray) = x ∧ (⟨(Lib.cut s.data.toList [58]).2.1.toArray⟩ : ByteArray) = y ∧ (Lib.cut s.data.toList [58]).2.2 = true) (b : Bool) (hb : b = okP n x (commas y)) :
    Calls Tryd.prog 30 #[.int .i64 n, .string s] w (AttrIf b (numValT x.data.toList) (if allNumT (commas y) then numsWT (commas y) else []) w) := by
  have i0 : ¬ (40 : Int) < (s.size : Int) := by omega
  have cC := fun W => cut_at s (by omega) W
  rw [h.1, h.2.1, h.2.2] at cC
  have CC := Lib.hid cC
  have HM := Lib.hid hm
  have HP := Lib.hid hp
  have HE := Lib.hid he
  have HO := Lib.hid (openAt_new w 47 0 (.slice none 0 0))
  have cS := fun W h' => split_at y hy40 W h'
  have cN := fun W (h1 : Pow W) (h2 : ErrAt W) => readNumberT_any x W (by omega) h1 h2
  obtain ⟨ws, hws⟩ : ∃ ws, ws = commas y := ⟨_, rfl⟩
  rw [← hws] at hl hsz hb ⊢
  have cS : ∀ W, LongAt W → Calls Tryd.prog 61 #[.string y, .string ⟨#[44]⟩] W fun e w' => ∃ v, e = .returned v ∧ Strs w' v ws ∧ Ext W w' := fun W h' => by rw [hws]; exact cS W h'
  have cR := fun v W (h0 : Strs W v ws) (h1 : Pow W) (h2 : ErrAt W) => readNumbersT_any v ws W h0 hsz (by omega) h1 h2
  unfold okP at hb
  obtain ⟨V, hV⟩ : ∃ V, V = numValT x.data.toList := ⟨_, rfl⟩
  obtain ⟨I, hI⟩ : ∃ I, I = isNumT x.data.toList := ⟨_, rfl⟩
  obtain ⟨A, hA⟩ : ∃ A, A = allNumT ws := ⟨_, rfl⟩
  rw [← hV, ← hI, ← hA] at hb
  rw [← hV, ← hA]
  rw [← hV, ← hI] at cN
  rw [← hA] at cR
  obtain ⟨L, hL⟩ : ∃ L, L = (if A then numsWT ws else []) := ⟨_, rfl⟩
  rw [← hL] at hb cR ⊢
  have CS := Lib.hid cS
  have CN := Lib.hid cN
  have CR := Lib.hid cR
  have HB := Lib.hid hb
  clear h hm hp he cC cS cN cR hV hI hA hL hb hws hsz hl
  have hb := HB.out
  clear HB
  cases I with
  | false =>
    obtain rfl : b = false := hb
    go_enter Tryd.func30, Tryd.ntmps30
    go_wp2_with fail
    refine (CC.out _ (HM.out.ext (Ext.alloc (Ext.refl _) _))).mono ?_
    rintro e w1 ⟨rfl, x1⟩
    have hx1 : Ext w w1 := (Ext.alloc (Ext.refl _) _).trans x1
    have HO1 := Lib.hid (HO.out.ext x1)
    clear x1
    go_wp2_with fail
    refine (CN.out _ (HP.out.ext hx1) (HE.out.ext hx1)).mono ?_
    rintro e w2 ⟨rfl, x2⟩
    have hx2 : Ext w w2 := hx1.trans x2
    have HO2 := Lib.hid (HO1.out.ext x2)
    clear x2
    go_wp2_with fail
    refine (CS.out _ (HM.out.ext hx2)).mono ?_
    rintro e w3 ⟨v3, rfl, f3, x3⟩
    have hx3 : Ext w w3 := hx2.trans x3
    have HO3 := Lib.hid (HO2.out.ext x3)
    clear x3
    go_wp2_with fail
    refine (CR.out _ _ f3 (HP.out.ext hx3) (HE.out.ext hx3)).mono ?_
    rintro e w4 ⟨v4, rfl, f4, x4⟩
    have hx4 : Ext w w4 := hx3.trans x4
    have HO4 := Lib.hid (HO3.out.ext x4)
    have hs3 : w.heap.size + 1 ≤ w3.heap.size := World.block_lt_of_cell? w3 _ HO3.out.1.1
    have q4 : w.heap.size < w4.heap.size := World.block_lt_of_cell? w4 _ HO4.out.1.1
    obtain ⟨a4, k4, rfl⟩ := f4.form
    have F4 := Lib.hid (f4.more hs3)
    clear x4 f3 f4 hs3
    obtain ⟨⟨c0, c1⟩, z0, z1⟩ := HO4.out
    have b1 := attrAt_new w4 47 V (.slice a4 L.length k4)
    have q5 : w.heap.size ≠ w4.heap.size := by omega
    clear b1
    go_wp2
    have R := (HO4.out.back 0 (.slice none 0 0)).ext (Ext.alloc (Ext.refl _) (.cells #[.int .i64 V, .slice a4 L.length k4] 47))
    refine bodyPost_ret (v := .tuple #[.agg #[.int .i64 0, .slice none 0 0], .bool false]) (by simp [results, Tryd.results30, go_sem, R.1, R.2]) rfl ⟨_, rfl, fresh_nil _ _, ?_⟩
    exact ((hx4.setc (Nat.le_refl _)).setc (Nat.le_refl _)).alloc _
  | true =>
    cases A with
    | false =>
      obtain rfl : b = false := hb
      go_enter Tryd.func30, Tryd.ntmps30
      go_wp2_with fail
      refine (CC.out _ (HM.out.ext (Ext.alloc (Ext.refl _) _))).mono ?_
      rintro e w1 ⟨rfl, x1⟩
      have hx1 : Ext w w1 := (Ext.alloc (Ext.refl _) _).trans x1
      have HO1 := Lib.hid (HO.out.ext x1)
      clear x1
      go_wp2_with fail
      refine (CN.out _ (HP.out.ext hx1) (HE.out.ext hx1)).mono ?_
      rintro e w2 ⟨rfl, x2⟩
      have hx2 : Ext w w2 := hx1.trans x2
      have HO2 := Lib.hid (HO1.out.ext x2)
      clear x2
      go_wp2_with fail
      refine (CS.out _ (HM.out.ext hx2)).mono ?_
      rintro e w3 ⟨v3, rfl, f3, x3⟩
      have hx3 : Ext w w3 := hx2.trans x3
      have HO3 := Lib.hid (HO2.out.ext x3)
      clear x3
      go_wp2_with fail
      refine (CR.out _ _ f3 (HP.out.ext hx3) (HE.out.ext hx3)).mono ?_
      rintro e w4 ⟨v4, rfl, f4, x4⟩
      have hx4 : Ext w w4 := hx3.trans x4
      have HO4 := Lib.hid (HO3.out.ext x4)
      have hs3 : w.heap.size + 1 ≤ w3.heap.size := World.block_lt_of_cell? w3 _ HO3.out.1.1
      have q4 : w.heap.size < w4.heap.size := World.block_lt_of_cell? w4 _ HO4.out.1.1
      obtain ⟨a4, k4, rfl⟩ := f4.form
      have F4 := Lib.hid (f4.more hs3)
      clear x4 f3 f4 hs3
      obtain ⟨⟨c0, c1⟩, z0, z1⟩ := HO4.out
      have b1 := attrAt_new w4 47 V (.slice a4 L.length k4)
      have q5 : w.heap.size ≠ w4.heap.size := by omega
      clear b1
      go_wp2
      have R := (HO4.out.back 0 (.slice none 0 0)).ext (Ext.alloc (Ext.refl _) (.cells #[.int .i64 V, .slice a4 L.length k4] 47))
      refine bodyPost_ret (v := .tuple #[.agg #[.int .i64 0, .slice none 0 0], .bool false]) (by simp [results, Tryd.results30, go_sem, R.1, R.2]) rfl ⟨_, rfl, fresh_nil _ _, ?_⟩
      exact ((hx4.setc (Nat.le_refl _)).setc (Nat.le_refl _)).alloc _
    | true =>
      obtain rfl : b = goodA n V L := hb
      obtain ⟨g, hg⟩ : ∃ g, g = goodA n V L := ⟨_, rfl⟩
      have HG := Lib.hid hg
      rw [← hg]
      clear hg
      go_enter Tryd.func30, Tryd.ntmps30
      go_wp2_with fail
      refine (CC.out _ (HM.out.ext (Ext.alloc (Ext.refl _) _))).mono ?_
      rintro e w1 ⟨rfl, x1⟩
      have hx1 : Ext w w1 := (Ext.alloc (Ext.refl _) _).trans x1
      have HO1 := Lib.hid (HO.out.ext x1)
      clear x1
      go_wp2_with fail
      refine (CN.out _ (HP.out.ext hx1) (HE.out.ext hx1)).mono ?_
      rintro e w2 ⟨rfl, x2⟩
      have hx2 : Ext w w2 := hx1.trans x2
      have HO2 := Lib.hid (HO1.out.ext x2)
      clear x2
      go_wp2_with fail
      refine (CS.out _ (HM.out.ext hx2)).mono ?_
      rintro e w3 ⟨v3, rfl, f3, x3⟩
      have hx3 : Ext w w3 := hx2.trans x3
      have HO3 := Lib.hid (HO2.out.ext x3)
      clear x3
      go_wp2_with fail
      refine (CR.out _ _ f3 (HP.out.ext hx3) (HE.out.ext hx3)).mono ?_
      rintro e w4 ⟨v4, rfl, f4, x4⟩
      have hx4 : Ext w w4 := hx3.trans x4
      have HO4 := Lib.hid (HO3.out.ext x4)
      have hs3 : w.heap.size + 1 ≤ w3.heap.size := World.block_lt_of_cell? w3 _ HO3.out.1.1
      have q4 : w.heap.size < w4.heap.size := World.block_lt_of_cell? w4 _ HO4.out.1.1
      obtain ⟨a4, k4, rfl⟩ := f4.form
      have F4 := Lib.hid (f4.more hs3)
      clear x4 f3 f4 hs3
      obtain ⟨⟨c0, c1⟩, z0, z1⟩ := HO4.out
      have b1 := attrAt_new w4 47 V (.slice a4 L.length k4)
      have q5 : w.heap.size ≠ w4.heap.size := by omega
      have G4 := Lib.hid (F4.out.ext (Ext.alloc (Ext.refl w4) (.cells #[.int .i64 V, .slice a4 L.length k4] 47)))
      go_wp2_with fail
      refine (implGoodAttr_any n V _ L _ G4.out.ints).mono ?_
      rintro e w5 ⟨rfl, x5⟩
      rw [← HG.out]
      have x45 : Ext w4 w5 := (Ext.alloc (Ext.refl w4) (.cells #[.int .i64 V, .slice a4 L.length k4] 47)).trans x5
      obtain ⟨⟨r1, r2⟩, y1, y2⟩ := HO4.out.ext x45
      obtain ⟨d0, d1⟩ := b1.ext x5
      have F5 := Lib.hid (G4.out.ext x5)
      have X5 := Lib.hid (hx4.trans x45)
      clear c0 c1 z0 z1 x5 x45
      cases g with
      | true =>
        go_wp2
        refine bodyPost_ret (v := .tuple #[.agg #[.int .i64 V, .slice a4 L.length k4], .bool true]) (by simp [results, Tryd.results30, go_sem, r1, r2]) rfl ⟨_, rfl, ?_, ?_⟩
        · exact ((F5.out.set _ _ _ (Nat.lt_succ_self _)).set _ _ _ (Nat.lt_succ_self _)).more (Nat.le_succ _)
        · exact (X5.out.setc (Nat.le_refl _)).setc (Nat.le_refl _)
      | false =>
        go_wp2
        refine bodyPost_ret (v := .tuple #[.agg #[.int .i64 0, .slice none 0 0], .bool false]) (by simp [results, Tryd.results30, go_sem, r1, r2]) rfl ⟨_, rfl, fresh_nil _ _, ?_⟩
        exact (X5.out.setc (Nat.le_refl _)).setc (Nat.le_refl _)

end Go.Proofs.YtfadmcgaojnghaaDoor
