/- Contract of the model's ReadCmd, by cases of the text. -/
import Derived.Test.YtfadmcgaojnghaaDoorCuts
import Derived.Test.YtfadmcgaojnghaaDoorReadNum
import Derived.Test.YtfadmcgaojnghaaDoorKind
namespace Go.Proofs.YtfadmcgaojnghaaDoor
open Go.RowKit
set_option linter.unusedVariables false

/-- A command, a code and a Bool come back. -/
def CmdRes (k i f t a code : Int) (ok : Bool) (w : World) (e : Ending) (w' : World) : Prop :=
  e = .returned (.tuple #[.agg #[.int .i64 k, .int .i64 i, .int .i64 f, .int .i64 t, .int .i64 a], .int .i64 code, .bool ok]) ∧ Ext w w'

/-- A command lies in the block b, and may be written. -/
def Open5 (w : World) (b : Nat) (k i f t a : Int) : Prop :=
  CmdAt w b k i f t a ∧ w.frozen? ⟨b, 0, none⟩ = false ∧ w.frozen? ⟨b, 1, none⟩ = false ∧ w.frozen? ⟨b, 2, none⟩ = false ∧ w.frozen? ⟨b, 3, none⟩ = false ∧ w.frozen? ⟨b, 4, none⟩ = false
theorem Ext.frozen {w w' : World} (h : Ext w w') {a : Addr} {b : Bool} (hl : a.block < w.heap.size) (hc : w.frozen? a = b) : w'.frozen? a = b := (Below.frozen h hl).trans hc
theorem Open5.ext {w w' : World} {b : Nat} {k i f t a : Int} (h : Open5 w b k i f t a) (e : Ext w w') : Open5 w' b k i f t a := by
  have hl : b < w.heap.size := World.block_lt_of_cell? w _ h.1.1
  exact ⟨h.1.ext e, e.frozen hl h.2.1, e.frozen hl h.2.2.1, e.frozen hl h.2.2.2.1, e.frozen hl h.2.2.2.2.1, e.frozen hl h.2.2.2.2.2⟩
theorem open5_new (w : World) (T : TypeId) (k i f t a : Int) : Open5 (w.alloc (.cells #[.int .i64 k, .int .i64 i, .int .i64 f, .int .i64 t, .int .i64 a] T)) w.heap.size k i f t a := by
  refine ⟨cmdAt_new w T k i f t a, ?_, ?_, ?_, ?_, ?_⟩ <;> go_simp
theorem Ext.setc {w w' : World} {a : Addr} {v : Value} (h : Ext w w') (hb : w.heap.size ≤ a.block) : Ext w (w'.setCell a v) := Below.setCell h hb v
theorem words_kind {l : List UInt8} : (kindI l = 1 ∧ isKind l = true → l = [109, 111, 118, 101]) ∧ (kindI l = 2 ∧ isKind l = true → l = [114, 101, 97, 100]) ∧ (kindI l = 0 ∧ isKind l = true → l = [45]) := by
  unfold kindI isKind
  by_cases h0 : l = [45]
  · subst h0; decide
  · by_cases h1 : l = [109, 111, 118, 101]
    · subst h1; decide
    · by_cases h2 : l = [114, 101, 97, 100]
      · subst h2; decide
      · simp [h0, h1, h2]

set_option maxRecDepth 100000 in
set_option maxHeartbeats 4000000 in
theorem specRead_1 (s : ByteArray) (w : World) (hs : s.size ≤ 1048576) (s0 : ByteArray) (rest : List ByteArray) (hw : pieces s 32 = s0 :: rest) (hk : isKind s0.data.toList = false) :
    Calls Tryd.prog 19 #[.string s] w (CmdRes 0 0 0 0 0 1 false w) := by
  have hne : (s0.toList == ([109, 111, 118, 101] : List UInt8)) = false ∧ (s0.toList == ([114, 101, 97, 100] : List UInt8)) = false ∧ (s0.toList == ([45] : List UInt8)) = false := by
    unfold isKind at hk
    rw [Lib.toList_data]
    simp only [Bool.or_eq_false_iff] at hk
    exact ⟨hk.2.1, hk.2.2, hk.1⟩
  obtain ⟨n1, n2, n3⟩ := hne
  clear hk
  have HW := Lib.hid hw
  have HO := Lib.hid (open5_new w 25 0 0 0 0 0)
  have hrl : rest.length ≤ 1048576 := by
    have h := (cutTo_le s 32 s.size).2
    have e : (pieces s 32).length = (cutTo s 32 s.size).1.length + 1 := by simp [pieces]
    rw [hw] at e
    simp at e
    omega
  clear hw
  go_enter Tryd.func19, Tryd.ntmps19
  go_wp2_with fail
  refine (l1Split_any s 32 _ hs).mono ?_
  rintro e w1 ⟨v, rfl, f1, x1⟩
  rw [HW.out] at f1
  have FF := Lib.hid f1
  obtain ⟨av, cv, rfl, _, hcap, hcv⟩ := f1.strs
  obtain ⟨bv, ov, rfl, dv⟩ := hcv (by simp)
  have g0 : w1.cell? ⟨bv, ov, none⟩ = some (.string s0) := dv 0 (by simp)
  have DV := Lib.hid dv
  have hcap1 : rest.length + 1 ≤ cv := hcap.1
  have hcap2 : cv ≤ 9223372036854775807 := by have h := hcap.2.1; unfold maxLen at h; omega
  obtain ⟨⟨c0, c1, c2, c3, c4⟩, z0, z1, z2, z3, z4⟩ := HO.out.ext x1
  have hlt : w.heap.size < w1.heap.size := World.block_lt_of_cell? w1 _ c0
  have hx : Ext w w1 := (Ext.alloc (Ext.refl _) _).trans x1
  have hln : (s0 :: rest).length = rest.length + 1 := rfl
  rw [hln]
  clear hcap hcv dv f1 x1 hln
  go_wp2
  refine bodyPost_ret (v := .tuple #[.agg #[.int .i64 0, .int .i64 0, .int .i64 0, .int .i64 0, .int .i64 0], .int .i64 1, .bool false]) ?_ rfl ⟨rfl, by repeat (first | exact hx | refine Ext.setc ?_ (Nat.le_refl _))⟩
  simp [results, Tryd.results19, go_sem, c0, c1, c2, c3, c4]

set_option maxRecDepth 100000 in
set_option maxHeartbeats 4000000 in
theorem specRead_2_1 (s : ByteArray) (w : World) (hs : s.size ≤ 1048576) (s0 : ByteArray) (rest : List ByteArray) (hw : pieces s 32 = s0 :: rest) (hk : s0.data.toList = [109, 111, 118, 101]) (hl : rest.length + 1 ≠ 5) :
    Calls Tryd.prog 19 #[.string s] w (CmdRes 0 0 0 0 0 2 false w) := by
  have n1 : (s0.toList == ([109, 111, 118, 101] : List UInt8)) = true := by rw [Lib.toList_data, hk]; rfl
  clear hk
  have hb : ((rest.length : Int) + 1 != 5) = true := by rw [bne_iff_ne]; omega
  clear hl
  have HW := Lib.hid hw
  have HO := Lib.hid (open5_new w 25 0 0 0 0 0)
  have hrl : rest.length ≤ 1048576 := by
    have h := (cutTo_le s 32 s.size).2
    have e : (pieces s 32).length = (cutTo s 32 s.size).1.length + 1 := by simp [pieces]
    rw [hw] at e
    simp at e
    omega
  clear hw
  go_enter Tryd.func19, Tryd.ntmps19
  go_wp2_with fail
  refine (l1Split_any s 32 _ hs).mono ?_
  rintro e w1 ⟨v, rfl, f1, x1⟩
  rw [HW.out] at f1
  have FF := Lib.hid f1
  obtain ⟨av, cv, rfl, _, hcap, hcv⟩ := f1.strs
  obtain ⟨bv, ov, rfl, dv⟩ := hcv (by simp)
  have g0 : w1.cell? ⟨bv, ov, none⟩ = some (.string s0) := dv 0 (by simp)
  have DV := Lib.hid dv
  have hcap1 : rest.length + 1 ≤ cv := hcap.1
  have hcap2 : cv ≤ 9223372036854775807 := by have h := hcap.2.1; unfold maxLen at h; omega
  obtain ⟨⟨c0, c1, c2, c3, c4⟩, z0, z1, z2, z3, z4⟩ := HO.out.ext x1
  have hlt : w.heap.size < w1.heap.size := World.block_lt_of_cell? w1 _ c0
  have hx : Ext w w1 := (Ext.alloc (Ext.refl _) _).trans x1
  have hln : (s0 :: rest).length = rest.length + 1 := rfl
  rw [hln]
  clear hcap hcv dv f1 x1 hln
  go_wp2
  refine bodyPost_ret (v := .tuple #[.agg #[.int .i64 0, .int .i64 0, .int .i64 0, .int .i64 0, .int .i64 0], .int .i64 2, .bool false]) ?_ rfl ⟨rfl, by repeat (first | exact hx | refine Ext.setc ?_ (Nat.le_refl _))⟩
  simp [results, Tryd.results19, go_sem, c0, c1, c2, c3, c4]

set_option maxRecDepth 100000 in
set_option maxHeartbeats 4000000 in
theorem specRead_2_2 (s : ByteArray) (w : World) (hs : s.size ≤ 1048576) (s0 : ByteArray) (rest : List ByteArray) (hw : pieces s 32 = s0 :: rest) (hk : s0.data.toList = [114, 101, 97, 100]) (hl : rest.length + 1 ≠ 3) :
    Calls Tryd.prog 19 #[.string s] w (CmdRes 0 0 0 0 0 2 false w) := by
  have n1 : (s0.toList == ([109, 111, 118, 101] : List UInt8)) = false := by rw [Lib.toList_data, hk]; rfl
  have n2 : (s0.toList == ([114, 101, 97, 100] : List UInt8)) = true := by rw [Lib.toList_data, hk]; rfl
  clear hk
  have hb : ((rest.length : Int) + 1 != 3) = true := by rw [bne_iff_ne]; omega
  clear hl
  have HW := Lib.hid hw
  have HO := Lib.hid (open5_new w 25 0 0 0 0 0)
  have hrl : rest.length ≤ 1048576 := by
    have h := (cutTo_le s 32 s.size).2
    have e : (pieces s 32).length = (cutTo s 32 s.size).1.length + 1 := by simp [pieces]
    rw [hw] at e
    simp at e
    omega
  clear hw
  go_enter Tryd.func19, Tryd.ntmps19
  go_wp2_with fail
  refine (l1Split_any s 32 _ hs).mono ?_
  rintro e w1 ⟨v, rfl, f1, x1⟩
  rw [HW.out] at f1
  have FF := Lib.hid f1
  obtain ⟨av, cv, rfl, _, hcap, hcv⟩ := f1.strs
  obtain ⟨bv, ov, rfl, dv⟩ := hcv (by simp)
  have g0 : w1.cell? ⟨bv, ov, none⟩ = some (.string s0) := dv 0 (by simp)
  have DV := Lib.hid dv
  have hcap1 : rest.length + 1 ≤ cv := hcap.1
  have hcap2 : cv ≤ 9223372036854775807 := by have h := hcap.2.1; unfold maxLen at h; omega
  obtain ⟨⟨c0, c1, c2, c3, c4⟩, z0, z1, z2, z3, z4⟩ := HO.out.ext x1
  have hlt : w.heap.size < w1.heap.size := World.block_lt_of_cell? w1 _ c0
  have hx : Ext w w1 := (Ext.alloc (Ext.refl _) _).trans x1
  have hln : (s0 :: rest).length = rest.length + 1 := rfl
  rw [hln]
  clear hcap hcv dv f1 x1 hln
  go_wp2
  refine bodyPost_ret (v := .tuple #[.agg #[.int .i64 0, .int .i64 0, .int .i64 0, .int .i64 0, .int .i64 0], .int .i64 2, .bool false]) ?_ rfl ⟨rfl, by repeat (first | exact hx | refine Ext.setc ?_ (Nat.le_refl _))⟩
  simp [results, Tryd.results19, go_sem, c0, c1, c2, c3, c4]

set_option maxRecDepth 100000 in
set_option maxHeartbeats 4000000 in
theorem specRead_2_0 (s : ByteArray) (w : World) (hs : s.size ≤ 1048576) (s0 : ByteArray) (rest : List ByteArray) (hw : pieces s 32 = s0 :: rest) (hk : s0.data.toList = [45]) (hl : rest.length + 1 ≠ 1) :
    Calls Tryd.prog 19 #[.string s] w (CmdRes 0 0 0 0 0 2 false w) := by
  have n1 : (s0.toList == ([109, 111, 118, 101] : List UInt8)) = false := by rw [Lib.toList_data, hk]; rfl
  have n2 : (s0.toList == ([114, 101, 97, 100] : List UInt8)) = false := by rw [Lib.toList_data, hk]; rfl
  have n3 : (s0.toList == ([45] : List UInt8)) = true := by rw [Lib.toList_data, hk]; rfl
  clear hk
  have hb : ((rest.length : Int) + 1 != 1) = true := by rw [bne_iff_ne]; omega
  clear hl
  have HW := Lib.hid hw
  have HO := Lib.hid (open5_new w 25 0 0 0 0 0)
  have hrl : rest.length ≤ 1048576 := by
    have h := (cutTo_le s 32 s.size).2
    have e : (pieces s 32).length = (cutTo s 32 s.size).1.length + 1 := by simp [pieces]
    rw [hw] at e
    simp at e
    omega
  clear hw
  go_enter Tryd.func19, Tryd.ntmps19
  go_wp2_with fail
  refine (l1Split_any s 32 _ hs).mono ?_
  rintro e w1 ⟨v, rfl, f1, x1⟩
  rw [HW.out] at f1
  have FF := Lib.hid f1
  obtain ⟨av, cv, rfl, _, hcap, hcv⟩ := f1.strs
  obtain ⟨bv, ov, rfl, dv⟩ := hcv (by simp)
  have g0 : w1.cell? ⟨bv, ov, none⟩ = some (.string s0) := dv 0 (by simp)
  have DV := Lib.hid dv
  have hcap1 : rest.length + 1 ≤ cv := hcap.1
  have hcap2 : cv ≤ 9223372036854775807 := by have h := hcap.2.1; unfold maxLen at h; omega
  obtain ⟨⟨c0, c1, c2, c3, c4⟩, z0, z1, z2, z3, z4⟩ := HO.out.ext x1
  have hlt : w.heap.size < w1.heap.size := World.block_lt_of_cell? w1 _ c0
  have hx : Ext w w1 := (Ext.alloc (Ext.refl _) _).trans x1
  have hln : (s0 :: rest).length = rest.length + 1 := rfl
  rw [hln]
  clear hcap hcv dv f1 x1 hln
  go_wp2
  refine bodyPost_ret (v := .tuple #[.agg #[.int .i64 0, .int .i64 0, .int .i64 0, .int .i64 0, .int .i64 0], .int .i64 2, .bool false]) ?_ rfl ⟨rfl, by repeat (first | exact hx | refine Ext.setc ?_ (Nat.le_refl _))⟩
  simp [results, Tryd.results19, go_sem, c0, c1, c2, c3, c4]

end Go.Proofs.YtfadmcgaojnghaaDoor
