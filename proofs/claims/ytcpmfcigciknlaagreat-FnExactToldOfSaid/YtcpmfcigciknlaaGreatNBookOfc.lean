/- Texts of this proof, part c: words, plain facts, contracts. -/
import Derived.Test.YtcpmfcigciknlaaGreatNBookOfa
import Derived.Laws.AppendOwnNone
import Derived.Laws.OwnMore
import Derived.Test.YtcpmfcigciknlaaGreatNBookOfb
import Derived.WalkSpells
import Derived.Deep.RegionHeld3
import Derived.ChangeKeysEq
set_option linter.unusedVariables false
set_option linter.unusedSimpArgs false

namespace Go.Proofs.YtcpmfcigciknlaaGreat
open Go.RowKit
theorem fresh_lit (w : World) (l : List Int) (cs : Array Value) (B : Nat) (hcs : cs.toList = l.map (Value.int .i64)) (hB : B ≤ w.heap.size) (hl : l.length ≤ 1048576) :
    Fresh B (w.alloc (.cells cs 3)) (.slice (some ⟨w.heap.size, 0, none⟩) l.length l.length) l := by
  have h := World.ownsRow_lit (e := 3) (size := 1) w cs l.length hB (by unfold maxLen; omega) (by rw [← Array.length_toList, hcs]; simp)
  unfold Fresh; rw [← hcs]; exact h
theorem fresh_lit2 (w : World) (o : Obj) (l : List Int) (n : Nat) (cs : Array Value) (hcs : cs.toList = l.map (Value.int .i64)) (hn : n = l.length) (hl : l.length ≤ 1048576) :
    Fresh w.heap.size ((w.alloc o).alloc (.cells cs 3)) (.slice (some ⟨w.heap.size + 1, 0, none⟩) n n) l := by
  have e : (w.alloc o).heap.size = w.heap.size + 1 := by simp
  have h := fresh_lit (w.alloc o) l cs w.heap.size hcs (by omega) hl
  rw [e] at h
  rw [hn]; exact h
theorem size_alloc_le {n : Nat} {w : World} {o : Obj} (h : n ≤ w.heap.size) : n ≤ (w.alloc o).heap.size := by
  have := (Ext.alloc (Ext.refl w) o).size
  omega
theorem cell_alloc_one (w : World) (x : Value) (T : TypeId) : (w.alloc (.cells #[x] T)).cell? ⟨w.heap.size, 0, none⟩ = some x := by go_simp
def Kept (B : Nat) (w w' : World) : Prop := ∀ w0 : World, Ext w0 w → w0.heap.size ≤ B → Ext w0 w'
theorem wpList_push {ops : Array Oper} {rest : List Oper} {o : Oper} {a : Act} {Q : Exit → Act → World → Prop} {w : World} (hgd : o.guard = none) (s x : Operand)
    (ho : o.op = .call { callee := .builtin .append, args := #[s, x], argTypes := #[26, 26] })
    (B : Nat) (v : Value) (l : List Int) (n : Int) (hs : a.eval s = v) (hf : Fresh B w v l) (ad : Addr) (c : Nat) (hx : a.eval x = .slice (some ad) 1 c)
    (hc : w.cell? ad = some (.int .i64 n)) (hl : l.length ≤ 1099511627776) (hB : B ≤ w.heap.size)
    (h : ∀ v' w', Fresh B w' v' (l ++ [n]) → w.grownBy w' v.ownBlock → Kept B w w' → wpList Tryz.prog ops Q rest (a.put o.dst v') w') : wpList Tryz.prog ops Q (o :: rest) a w := by
  obtain ⟨i0, hi, hz0, hz1, hz2⟩ := info_parts Tryz.infoInt
  refine wpList_append_own _ hgd s x 26 ho B 3 i0 (.int .i64 0) 1 8 Tryz.underlying26 hi hz0 hz1 hz2 rfl (by decide) v l.length _ hs hf ad 1 c [.int .i64 n] hx rfl ?_ ?_ ?_ ?_ hB ?_
  · intro j u hj
    match j, hj with
    | 0, hj => simp at hj; subst hj; simpa [Addr.add] using hc
  · intro u hu; simp at hu; subst hu; rfl
  · unfold maxLen; omega
  · omega
  · intro v' w' ho' hg _
    refine h v' w' ?_ hg (fun w0 hx0 hB0 => Below.grown hx0 hg hx0.size (fun q hq => Nat.le_trans hB0 (World.ownsRow.lt hf q hq).1))
    unfold Fresh
    rw [List.map_append, List.length_append]; exact ho'
theorem wpList_join {ops : Array Oper} {rest : List Oper} {o : Oper} {a : Act} {Q : Exit → Act → World → Prop} {w : World} (hgd : o.guard = none) (s x : Operand)
    (ho : o.op = .call { callee := .builtin .append, args := #[s, x], argTypes := #[26, 26] })
    (B : Nat) (v u : Value) (l r : List Int) (hs : a.eval s = v) (hf : Fresh B w v l) (hx : a.eval x = u) (hu : Ints w u r)
    (hl : l.length + r.length ≤ 1099511627776) (hB : B ≤ w.heap.size)
    (h : ∀ v' w', Fresh B w' v' (l ++ r) → w.grownBy w' v.ownBlock → Kept B w w' → wpList Tryz.prog ops Q rest (a.put o.dst v') w') : wpList Tryz.prog ops Q (o :: rest) a w := by
  obtain ⟨i0, hi, hz0, hz1, hz2⟩ := info_parts Tryz.infoInt
  obtain ⟨au, cu, rfl, hlu, hcap, hcu⟩ := hu
  cases au with
  | none =>
    have hr : r.length = 0 := by have := hcap.1; have := hcap.2.2 rfl; omega
    have hc0 : cu = 0 := hcap.2.2 rfl
    obtain rfl : r = [] := List.eq_nil_of_length_eq_zero hr
    subst hc0
    refine wpList_append_own_none hgd s x 26 ho B 3 i0 1 Tryz.underlying26 hi v l.length _ hs hf hx (h v w ?_ ?_ ?_)
    · rw [List.append_nil]; exact hf
    · exact ⟨rfl, rfl, rfl, Nat.le_refl _, fun _ _ _ => rfl⟩
    · exact fun w0 hx0 _ => hx0
  | some ad =>
    refine wpList_append_own _ hgd s x 26 ho B 3 i0 (.int .i64 0) 1 8 Tryz.underlying26 hi hz0 hz1 hz2 rfl (by decide) v l.length _ hs hf ad r.length cu (r.map (.int .i64)) hx (by simp) ?_ ?_ ?_ ?_ hB ?_
    · intro j z hj
      have hlt : j < r.length := by
        have := (List.getElem?_eq_some_iff.1 hj).1
        simpa using this
      obtain ⟨b, off, hab, hcc⟩ := hcu (by omega)
      cases hab
      have hcj := hcc j hlt
      rw [show (⟨b, off, none⟩ : Addr).add j = ⟨b, off + j, none⟩ by simp [Addr.add], hcj]
      simp [List.getElem?_eq_getElem hlt] at hj ⊢
      exact hj
    · intro z hz
      obtain ⟨q, _, rfl⟩ := List.mem_map.1 hz
      rfl
    · unfold maxLen; omega
    · omega
    · intro v' w' ho' hg _
      refine h v' w' ?_ hg (fun w0 hx0 hB0 => Below.grown hx0 hg hx0.size (fun q hq => Nat.le_trans hB0 (World.ownsRow.lt hf q hq).1))
      unfold Fresh
      rw [List.map_append, List.length_append]; exact ho'
end Go.Proofs.YtcpmfcigciknlaaGreat

namespace Go.Proofs.YtcpmfcigciknlaaGreat
open Go.RowKit
set_option linter.unusedVariables false
set_option maxHeartbeats 400000 in
theorem l1Same_any (u v : Value) (l r : List Int) (w : World) (hu : Ints w u l) (hv : Ints w v r) :
    Calls Tryz.prog 136 #[u, v] w (BoolExt (decide (l = r)) w) := by
  obtain ⟨au, cu, rfl, hlu, _, hcu⟩ := hu
  obtain ⟨av, cv, rfl, hlv, _, hcv⟩ := hv
  unfold maxLen at hlu hlv
  by_cases hl : l.length = r.length
  · have e0 : ((l.length : Int) != (r.length : Int)) = false := by simp [hl]
    have HL := Lib.hid hl
    clear hl
    go_enter Tryz.func136, Tryz.ntmps136
    go_wp2
    go_loopw [5, 13] (fun _ i wr => ∃ k : Nat, k ≤ l.length ∧ i = .int .i64 k ∧ l.take k = r.take k ∧ ∃ nq, wr = w.drewN nq) (fun _ i _ => l.length - (intOf i).toNat)
    case atStart => exact ⟨0, Nat.zero_le _, rfl, rfl, 0, rfl⟩
    case round =>
      obtain ⟨k, hk, rfl, ht, nq0, rfl⟩ := hrel
      have HT := Lib.hid ht
      clear ht
      by_cases hlt : k < l.length
      · have hltr : k < r.length := by have := HL.out; omega
        obtain ⟨bu, ou, rfl, du⟩ := hcu (by omega)
        obtain ⟨bv, ov, rfl, dv⟩ := hcv (by omega)
        have gu := du k hlt
        have gv := dv k hltr
        clear hcu hcv du dv
        go_wp2_with fail
        go_quiet (fail)
        by_cases he : l[k] = r[k]
        · have e1 : (l[k] != r[k]) = false := by simp [he]
          have HE := Lib.hid he
          clear he
          go_wp2
          go_roundw
          case rel => exact ⟨k + 1, by omega, by go_num, take_eq_succ hlt hltr HT.out (by simpa [hlt, hltr] using HE.out), _, rfl⟩
          case measure => simp [intOf]; omega
        · have e1 : (l[k] != r[k]) = true := by simp [he]
          have HE := Lib.hid he
          clear he
          go_wp2
          go_ret
          refine ⟨?_, by repeat (first | exact Ext.refl _ | apply Ext.drewN)⟩
          have hne : decide (l = r) = false := decide_eq_false (fun h => HE.out (by subst h; rfl))
          rw [hne]; rfl
      · have hk' : k = l.length := by omega
        subst hk'
        go_wp2
        go_ret
        refine ⟨?_, by repeat (first | exact Ext.refl _ | apply Ext.drewN)⟩
        have he : decide (l = r) = true := by
          have h := HT.out
          rw [List.take_length, HL.out, List.take_length] at h
          exact decide_eq_true h
        rw [he]; rfl
  · have e0 : ((l.length : Int) != (r.length : Int)) = true := by simp; omega
    have HL := Lib.hid hl
    clear hl
    go_enter Tryz.func136, Tryz.ntmps136
    go_wp2
    go_ret
    refine ⟨?_, Ext.refl w⟩
    have hne : decide (l = r) = false := decide_eq_false (fun h => HL.out (by rw [h]))
    rw [hne]; rfl
def sameA (s t : Int) (l r : List Int) : Bool := s == t && decide (l = r)
theorem box2 (w : World) (s t : Int) (u v : Value) (T : TypeId) : AttrAt ((w.alloc (.cells #[.int .i64 s, u] T)).alloc (.cells #[.int .i64 t, v] T)) w.heap.size s u ∧ AttrAt ((w.alloc (.cells #[.int .i64 s, u] T)).alloc (.cells #[.int .i64 t, v] T)) (w.heap.size + 1) t v := by
  refine ⟨⟨?_, ?_⟩, ?_, ?_⟩ <;> go_simp
theorem Ext.alloc2 (w : World) (a b : Obj) : Ext w ((w.alloc a).alloc b) := ((Ext.refl w).alloc a).alloc b
set_option maxHeartbeats 1000000 in
theorem specSame_any (s t : Int) (u v : Value) (l r : List Int) (w : World) (hu : Ints w u l) (hv : Ints w v r) :
    Calls Tryz.prog 111 #[.agg #[.int .i64 s, u], .agg #[.int .i64 t, v]] w (BoolExt (sameA s t l r) w) := by
  unfold sameA
  cases hs : (s == t)
  · go_enter Tryz.func111, Tryz.ntmps111
    go_wp2
    go_ret
    exact ⟨rfl, Ext.alloc2 _ _ _⟩
  · rw [Bool.true_and]
    go_enter Tryz.func111, Tryz.ntmps111
    go_wp2_with fail
    refine (l1Same_any _ _ l r _ (hu.ext (Ext.alloc2 _ _ _)) (hv.ext (Ext.alloc2 _ _ _))).mono ?_
    rintro e w1 ⟨rfl, x1⟩
    have hx : Ext w w1 := (Ext.alloc2 _ _ _).trans x1
    clear x1
    cases hd : decide (l = r)
    all_goals
      have HD := Lib.hid hd
      clear hd
      go_wp2
      go_ret
      exact ⟨by rw [HD.out]; rfl, hx⟩
end Go.Proofs.YtcpmfcigciknlaaGreat

namespace Go.Proofs.YtcpmfcigciknlaaGreat
open Go.RowKit
set_option linter.unusedVariables false
set_option maxHeartbeats 1000000 in
theorem clone_any (ad : Addr) (cap : Nat) (l : List Int) (w : World) (hv : Ints w (.slice (some ad) l.length cap) l) (hl : l.length ≤ 1048576) :
    Calls Tryz.prog 160 #[.slice (some ad) l.length cap] w (NewInts l w) := by
  have f0 := fresh_lit w [] #[] w.heap.size rfl (Nat.le_refl _) (by simp)
  have F0 := Lib.hid f0
  have HV := Lib.hid (hv.ext (Ext.alloc (Ext.refl w) (.cells #[] 3)))
  clear f0 hv
  have hne : ∀ W : World, (binOp .eql 26 (.slice (some ad) l.length cap) (.slice none 0 0)).run Tryz.prog W = .ok (.bool false) W := fun W => Lib.run_eql_slice_nil W 26 3 (some ad) l.length cap 0 0 Tryz.underlying26
  go_enter Tryz.func160, Tryz.ntmps160
  go_wp2_with (at_builtin; refine wpList_join rfl _ _ rfl w.heap.size _ _ [] l rfl F0.out rfl HV.out (by simp; omega) (by simp) ?_; intro v' w' hf hg hk)
  go_ret
  exact ⟨v', rfl, hf, hk w (Ext.alloc (Ext.refl _) _) (Nat.le_refl _)⟩
def FiveAt (w : World) (b : Nat) (x0 x1 x2 x3 x4 : Int) : Prop := w.heap[b]? = some (.cells #[.int .i64 x0, .int .i64 x1, .int .i64 x2, .int .i64 x3, .int .i64 x4] 229 (0, 0))
theorem five_ints {w : World} {b : Nat} {x0 x1 x2 x3 x4 : Int} (h : FiveAt w b x0 x1 x2 x3 x4) (n : Nat) (hn : n ≤ 5) : Ints w (.slice (some ⟨b, 0, none⟩) (([x0, x1, x2, x3, x4] : List Int).take n).length 5) (([x0, x1, x2, x3, x4] : List Int).take n) := by
  have hl : (([x0, x1, x2, x3, x4] : List Int).take n).length = n := by simp; omega
  refine ⟨some ⟨b, 0, none⟩, 5, rfl, by rw [hl]; unfold maxLen; omega, ⟨by omega, by unfold maxLen; omega, fun h => by cases h⟩, fun _ => ⟨b, 0, rfl, fun j hj => ?_⟩⟩
  rw [hl] at hj
  rw [Nat.zero_add, cell_of_row w b j _ _ _ h]
  have : j = 0 ∨ j = 1 ∨ j = 2 ∨ j = 3 ∨ j = 4 := by omega
  rw [List.getElem?_take, if_pos hj]
  rcases this with rfl | rfl | rfl | rfl | rfl <;> rfl
theorem fiveAt_new (w : World) (x0 x1 x2 x3 x4 : Int) : FiveAt (w.alloc (.cells #[.int .i64 x0, .int .i64 x1, .int .i64 x2, .int .i64 x3, .int .i64 x4] 229)) w.heap.size x0 x1 x2 x3 x4 := heap_alloc_new _ _
theorem size2 (w : World) (a b : Obj) : ((w.alloc a).alloc b).heap.size = w.heap.size + 2 := by simp
theorem open_next (w : World) (T : TypeId) (s : Int) (u : Value) (o : Obj) : OpenAt ((w.alloc (.cells #[.int .i64 s, u] T)).alloc o) w.heap.size s u := (openAt_new w T s u).ext (Ext.alloc (Ext.refl _) _)
set_option maxRecDepth 100000 in
set_option maxHeartbeats 1000000 in
theorem joinAttrs_none (n : Nat) (w : World) (hn : n = 3 ∨ n = 5) :
    Calls Tryz.prog 119 #[.int .i64 n, .slice none 0 0] w (NewAttr 0 (List.replicate n 0) w) := by
  have hz : (w.alloc (.cells #[.int .i64 0, .slice none 0 0] 81)).heap.size = w.heap.size + 1 := by simp
  have hf := fiveAt_new (w.alloc (.cells #[.int .i64 0, .slice none 0 0] 81)) 0 0 0 0 0
  rw [hz] at hf
  have HI := Lib.hid (five_ints hf)
  have HO := Lib.hid (open_next w 81 0 (.slice none 0 0) (.cells #[.int .i64 0, .int .i64 0, .int .i64 0, .int .i64 0, .int .i64 0] 229))
  clear hz hf
  rcases hn with rfl | rfl
  · go_enter Tryz.func119, Tryz.ntmps119
    go_wp2
    refine wp_loop_rounds 1 ?_; rw [rounds_succ]
    go_wp2_with fail
    refine (clone_any ⟨w.heap.size + 1, 0, none⟩ 5 [0, 0, 0] _ (HI.out 3 (by omega)) (by simp)).mono ?_
    rintro e w1 ⟨v, rfl, f1, x1⟩
    obtain ⟨av, cv, rfl⟩ := f1.form
    obtain ⟨⟨c0, c1⟩, z0, z1⟩ := HO.out.ext x1
    have hx := (Ext.alloc2 _ _ _).trans x1
    have F := Lib.hid f1
    clear f1 x1
    go_wp2
    rw [size2] at F
    refine bodyPost_ret (v := .agg #[.int .i64 0, .slice av 3 cv]) (by simp [results, Tryz.results119, go_sem, c0, c1]) rfl ⟨_, rfl, ?_, (hx.setc (Nat.le_refl _)).setc (Nat.le_refl _)⟩
    exact ((F.out.set _ _ _ (by omega)).set _ _ _ (by omega)).more (by omega)
  · go_enter Tryz.func119, Tryz.ntmps119
    go_wp2
    refine wp_loop_rounds 1 ?_; rw [rounds_succ]
    go_wp2_with fail
    refine (clone_any ⟨w.heap.size + 1, 0, none⟩ 5 [0, 0, 0, 0, 0] _ (HI.out 5 (by omega)) (by simp)).mono ?_
    rintro e w1 ⟨v, rfl, f1, x1⟩
    obtain ⟨av, cv, rfl⟩ := f1.form
    obtain ⟨⟨c0, c1⟩, z0, z1⟩ := HO.out.ext x1
    have hx := (Ext.alloc2 _ _ _).trans x1
    have F := Lib.hid f1
    clear f1 x1
    go_wp2
    rw [size2] at F
    refine bodyPost_ret (v := .agg #[.int .i64 0, .slice av 5 cv]) (by simp [results, Tryz.results119, go_sem, c0, c1]) rfl ⟨_, rfl, ?_, (hx.setc (Nat.le_refl _)).setc (Nat.le_refl _)⟩
    exact ((F.out.set _ _ _ (by omega)).set _ _ _ (by omega)).more (by omega)
end Go.Proofs.YtcpmfcigciknlaaGreat

namespace Go.Proofs.YtcpmfcigciknlaaGreat
open Go.RowKit
set_option linter.unusedVariables false
def noneL (n : Int) : List Int := if isGrp n then List.replicate n.toNat 0 else []
theorem nat_of_grp {n : Int} (h : isGrp n = true) : ∃ k : Nat, n = (k : Int) ∧ (k = 3 ∨ k = 5) := by
  rcases isGrp_of h with rfl | rfl
  · exact ⟨3, rfl, .inl rfl⟩
  · exact ⟨5, rfl, .inr rfl⟩
theorem make_3 (W : World) : (Instr.makeSlice 26 (.int .i64 3) (.int .i64 3)).run Tryz.prog W = .ok (.slice (some ⟨W.heap.size, 0, none⟩) 3 3) (W.alloc (.cells #[.int .i64 0, .int .i64 0, .int .i64 0] 3)) := by kernel_rfl
set_option maxRecDepth 100000 in
set_option maxHeartbeats 1000000 in
theorem l3None_3 (w : World) : Calls Tryz.prog 95 #[.int .i64 3] w (NewAttr 0 [0, 0, 0] w) := by
  have hmk := make_3
  go_enter Tryz.func95, Tryz.ntmps95
  go_wp2
  refine bodyPost_ret (v := .agg #[.int .i64 0, .slice (some ⟨w.heap.size + 1, 0, none⟩) 3 3]) (by simp [results, Tryz.results95, go_sem]) rfl ⟨_, rfl, ?_, ?_⟩
  · exact fresh_lit2 w _ [0, 0, 0] 3 #[.int .i64 0, .int .i64 0, .int .i64 0] rfl rfl (by simp)
  · exact Ext.alloc2 _ _ _
theorem make_5 (W : World) : (Instr.makeSlice 26 (.int .i64 5) (.int .i64 5)).run Tryz.prog W = .ok (.slice (some ⟨W.heap.size, 0, none⟩) 5 5) (W.alloc (.cells #[.int .i64 0, .int .i64 0, .int .i64 0, .int .i64 0, .int .i64 0] 3)) := by kernel_rfl
set_option maxRecDepth 100000 in
set_option maxHeartbeats 1000000 in
theorem l3None_5 (w : World) : Calls Tryz.prog 95 #[.int .i64 5] w (NewAttr 0 [0, 0, 0, 0, 0] w) := by
  have hmk := make_5
  go_enter Tryz.func95, Tryz.ntmps95
  go_wp2
  refine bodyPost_ret (v := .agg #[.int .i64 0, .slice (some ⟨w.heap.size + 1, 0, none⟩) 5 5]) (by simp [results, Tryz.results95, go_sem]) rfl ⟨_, rfl, ?_, ?_⟩
  · exact fresh_lit2 w _ [0, 0, 0, 0, 0] 5 #[.int .i64 0, .int .i64 0, .int .i64 0, .int .i64 0, .int .i64 0] rfl rfl (by simp)
  · exact Ext.alloc2 _ _ _
theorem l3None_any (n : Int) (w : World) (h : isGrp n = true) : Calls Tryz.prog 95 #[.int .i64 n] w (NewAttr 0 (noneL n) w) := by
  rcases isGrp_of h with rfl | rfl
  · exact l3None_3 w
  · exact l3None_5 w
theorem joinNone_any (n : Int) (w : World) (h : isGrp n = true) : Calls Tryz.prog 119 #[.int .i64 n, .slice none 0 0] w (NewAttr 0 (noneL n) w) := by
  rcases isGrp_of h with rfl | rfl
  · exact joinAttrs_none 3 w (.inl rfl)
  · exact joinAttrs_none 5 w (.inr rfl)
end Go.Proofs.YtcpmfcigciknlaaGreat

namespace Go.Proofs.YtcpmfcigciknlaaGreat
open Go.RowKit
set_option linter.unusedVariables false
theorem ints_drop {w : World} {b off cap : Nat} {l : List Int} (k : Nat) (hk : k ≤ l.length) (hm : l.length ≤ 9223372036854775807) (hcap : l.length ≤ cap) (hcm : cap ≤ 9223372036854775807)
    (h : ∀ j, j < l.length → w.cell? ⟨b, off + j, none⟩ = some (.int .i64 (l[j]?.getD 0))) : Ints w (.slice (some ⟨b, off + k, none⟩) (l.length - k) (cap - k)) (l.drop k) := by
  refine ⟨some ⟨b, off + k, none⟩, cap - k, by rw [List.length_drop], by unfold maxLen; rw [List.length_drop]; omega, ⟨by rw [List.length_drop]; omega, by unfold maxLen; omega, fun h => by cases h⟩, fun _ => ⟨b, off + k, rfl, fun j hj => ?_⟩⟩
  rw [List.length_drop] at hj
  rw [Nat.add_assoc, h (k + j) (by omega), List.getElem?_drop]
def sameFive (l r : List Int) : Bool := at0 l 0 == at0 r 0 && at0 l 1 == at0 r 1 && at0 l 2 == at0 r 2 && at0 l 3 == at0 r 3 && at0 l 4 == at0 r 4
theorem sameFive_take : ∀ (l r : List Int), l.length = r.length → (sameFive l r = true ↔ l.take 5 = r.take 5)
  | [], [], _ => by simp [sameFive]
  | [a], [b], _ => by simp [sameFive, at0]
  | [a, b], [c, d], _ => by simp [sameFive, at0]
  | [a, b, c], [d, e, f], _ => by simp [sameFive, at0, and_assoc]
  | [a, b, c, d], [e, f, g, h], _ => by simp [sameFive, at0, and_assoc]
  | a :: b :: c :: d :: e :: l, f :: g :: h :: i :: j :: r, _ => by simp [sameFive, at0, and_assoc]
theorem take_five {l r : List Int} (h : l.length = r.length) (m : Nat) (ht : l.take (5 * m) = r.take (5 * m)) (hs : sameFive (l.drop (5 * m)) (r.drop (5 * m)) = true) : l.take (5 * (m + 1)) = r.take (5 * (m + 1)) := by
  have h5 := (sameFive_take _ _ (by simp [h])).1 hs
  rw [show 5 * (m + 1) = 5 * m + 5 by omega, List.take_add, List.take_add, ht, h5]
theorem differ_five {l r : List Int} (hl : l.length = r.length) (m : Nat) (hs : sameFive (l.drop (5 * m)) (r.drop (5 * m)) = false) : l ≠ r := by
  intro e
  subst e
  have := (sameFive_take (l.drop (5 * m)) (l.drop (5 * m)) rfl).2 rfl
  rw [this] at hs
  cases hs
set_option maxHeartbeats 1000000 in
theorem eq_five (L R : List Int) (W : World) : (Op.equalIn 10000 229 (.agg (five L)) (.agg (five R))).run Tryz.prog W = .ok (sameFive L R) W := by
  obtain ⟨i0, hi, hz0, hz1, hz2⟩ := info_parts Tryz.infoInt
  have hc : Tryz.prog.cellsOf 3 = 1 := by kernel_rfl
  have hp : ∀ (xs : Array Value) (j : Nat) (x : Int) (W : World), xs[j]? = some (.int .i64 x) → (part 3 xs j).run Tryz.prog W = .ok (.int .i64 x) W := by
    intro xs j x W hx
    unfold part
    go_simp
  have hq : ∀ (a b : Int) (W : World), (Op.equalIn 9999 3 (.int .i64 a) (.int .i64 b)).run Tryz.prog W = .ok (a == b) W := fun a b W => run_equalIn_int W 9998 3 .i64 .i64 a b Tryz.underlying3
  rw [show (10000 : Nat) = 9999 + 1 from rfl, run_equalIn_array W 9999 _ _ Tryz.underlying229 hi, hc, show List.range 5 = [0, 1, 2, 3, 4] from rfl]
  simp only [Op.eqItems, Sem.run_bind]
  rw [hp _ _ (at0 L 0) _ rfl]
  simp only [Result.andThen_ok]
  rw [hp _ _ (at0 R 0) _ rfl]
  simp only [Result.andThen_ok]
  rw [hq]
  simp only [Result.andThen_ok]
  unfold sameFive
  cases h0 : (at0 L 0 == at0 R 0)
  · simp
  simp only [Bool.not_true, Bool.false_eq_true, if_false, Sem.run_bind]
  rw [hp _ _ (at0 L 1) _ rfl]
  simp only [Result.andThen_ok]
  rw [hp _ _ (at0 R 1) _ rfl]
  simp only [Result.andThen_ok]
  rw [hq]
  simp only [Result.andThen_ok]
  cases h1 : (at0 L 1 == at0 R 1)
  · simp
  simp only [Bool.not_true, Bool.false_eq_true, if_false, Sem.run_bind]
  rw [hp _ _ (at0 L 2) _ rfl]
  simp only [Result.andThen_ok]
  rw [hp _ _ (at0 R 2) _ rfl]
  simp only [Result.andThen_ok]
  rw [hq]
  simp only [Result.andThen_ok]
  cases h2 : (at0 L 2 == at0 R 2)
  · simp
  simp only [Bool.not_true, Bool.false_eq_true, if_false, Sem.run_bind]
  rw [hp _ _ (at0 L 3) _ rfl]
  simp only [Result.andThen_ok]
  rw [hp _ _ (at0 R 3) _ rfl]
  simp only [Result.andThen_ok]
  rw [hq]
  simp only [Result.andThen_ok]
  cases h3 : (at0 L 3 == at0 R 3)
  · simp
  simp only [Bool.not_true, Bool.false_eq_true, if_false, Sem.run_bind]
  rw [hp _ _ (at0 L 4) _ rfl]
  simp only [Result.andThen_ok]
  rw [hp _ _ (at0 R 4) _ rfl]
  simp only [Result.andThen_ok]
  rw [hq]
  simp only [Result.andThen_ok]
  cases h4 : (at0 L 4 == at0 R 4)
  · simp
  simp
set_option maxRecDepth 100000 in
set_option maxHeartbeats 2000000 in
theorem implSame_loop (s : Int) (u v : Value) (l r : List Int) (w : World) (hu : Ints w u l) (hv : Ints w v r) (hl : l.length = r.length) (hsz : l.length ≤ 1099511627776) :
    Calls Tryz.prog 178 #[.agg #[.int .i64 s, u], .agg #[.int .i64 s, v]] w (BoolExt (decide (l = r)) w) := by
  obtain ⟨au, cu, rfl, hlu, hcapu, hcu⟩ := hu
  obtain ⟨av, cv, rfl, hlv, hcapv, hcv⟩ := hv
  have hcu1 := hcapu.1
  have hcu2 := hcapu.2.1
  have hcv1 := hcapv.1
  have hcv2 := hcapv.2.1
  unfold maxLen at hlu hlv hcu2 hcv2
  have e0 : ((l.length : Int) != (r.length : Int)) = false := by simp [hl]
  have es : (s != s) = false := by simp
  have HCU := Lib.hid hcu
  have HCV := Lib.hid hcv
  have HB := Lib.hid (box2 w s s (.slice au l.length cu) (.slice av r.length cv) 81)
  have HL := Lib.hid hl
  clear hcapu hcapv hcu hcv hl
  go_enter Tryz.func178, Tryz.ntmps178
  go_wp2
  go_loopw [5] (fun i wr => ∃ k : Nat, i = .int .i64 k ∧ k ≤ l.length + 4 ∧ Hid (∃ m, k = 5 * m ∧ l.take (5 * m) = r.take (5 * m)) ∧ Ext ((w.alloc (.cells #[.int .i64 s, .slice au l.length cu] 81)).alloc (.cells #[.int .i64 s, .slice av r.length cv] 81)) wr) (fun i _ => l.length + 5 - (intOf i).toNat)
  case atStart => exact ⟨0, rfl, by omega, Lib.hid ⟨0, rfl, rfl⟩, Ext.refl _⟩
  case round =>
    obtain ⟨k, rfl, hm, HT, hx⟩ := hrel
    obtain ⟨⟨c0, c1⟩, d0, d1⟩ := And.intro (HB.out.1.ext hx) (HB.out.2.ext hx)
    have X := Lib.hid ((Ext.alloc2 _ _ _).trans hx : Ext w wr)
    have X' := Lib.hid hx
    clear c0 d0 hx
    by_cases hlt : k < l.length
    · have hltr : k < r.length := by have := HL.out; omega
      obtain ⟨bu, ou, rfl, du⟩ := HCU.out (by omega)
      obtain ⟨bv, ov, rfl, dv⟩ := HCV.out (by omega)
      have iu := ints_drop k (by omega) hlu hcu1 hcu2 du
      have iv := ints_drop k (by omega) hlv hcv1 hcv2 dv
      have IU := Lib.hid (iu.ext X.out)
      have IV := Lib.hid (iv.ext X.out)
      have hc1 : k < cu := by omega
      have hc2 : k < cv := by omega
      have hd1 : cu ≠ k := by omega
      have hd2 : cv ≠ k := by omega
      have i0 : (0 : Int) ≤ k := by omega
      have i1 : (k : Int) ≤ l.length := by omega
      have i2 : (k : Int) ≤ r.length := by omega
      have heq := fun (W : World) => eq_five (l.drop k) (r.drop k) W
      clear du dv iu iv
      go_wp2
      go_region_held3 (fun W => Ext wr W ∧ W.cell? ⟨w.heap.size, 1, none⟩ = some (.slice (some ⟨bu, ou, none⟩) l.length cu) ∧ W.cell? ⟨w.heap.size + 1, 1, none⟩ = some (.slice (some ⟨bv, ov, none⟩) r.length cv)) (first | (exact keep2 (by assumption) (by assumption)) | (exact ⟨Ext.drew (Ext.refl _), c1, d1⟩)) (first | (go_at_call_of 159 (Value.slice (some ⟨bu, ou + k, none⟩) (l.length - k) (cu - k)); refine (depsIn_any _ _ _ (IU.out.ext (And.left (by assumption)))).mono ?_; rintro e W ⟨rfl, x⟩) | (go_at_call_of 159 (Value.slice (some ⟨bv, ov + k, none⟩) (r.length - k) (cv - k)); refine (depsIn_any _ _ _ (IV.out.ext (And.left (by assumption)))).mono ?_; rintro e W ⟨rfl, x⟩))
      rename_i hH
      have hx2 := X'.out.trans hH.1
      have hy2 := X.out.trans hH.1
      clear hH heq
      cases hsf : sameFive (l.drop k) (r.drop k)
      · have HSF := Lib.hid hsf
        clear hsf
        go_wp2
        go_ret
        refine ⟨?_, hy2⟩
        have hne : decide (l = r) = false := decide_eq_false (by
          obtain ⟨m, hkm, _⟩ := HT.out
          have h := HSF.out
          rw [hkm] at h
          exact differ_five HL.out m h)
        rw [hne]; rfl
      · have HSF := Lib.hid hsf
        clear hsf
        go_wp2
        go_roundw
        case rel => exact ⟨k + 5, by go_num, by omega, Lib.hid (by
          obtain ⟨m, hkm, ht⟩ := HT.out
          have h := HSF.out
          rw [hkm] at h
          exact ⟨m + 1, by omega, take_five HL.out m ht h⟩), hx2⟩
        case measure => simp [intOf]; omega
    · go_wp2
      go_ret
      refine ⟨?_, X.out⟩
      have he : decide (l = r) = true := decide_eq_true (by
        obtain ⟨m, hkm, ht⟩ := HT.out
        have h1 := HL.out
        rw [List.take_of_length_le (by omega), List.take_of_length_le (by omega)] at ht
        exact ht)
      rw [he]; rfl
set_option maxHeartbeats 1000000 in
theorem implSame_any (s t : Int) (u v : Value) (l r : List Int) (w : World) (hu : Ints w u l) (hv : Ints w v r) (hsz : l.length ≤ 1099511627776) :
    Calls Tryz.prog 178 #[.agg #[.int .i64 s, u], .agg #[.int .i64 t, v]] w (BoolExt (sameA s t l r) w) := by
  unfold sameA
  by_cases hs : s = t
  · subst hs
    rw [show (s == s) = true by simp, Bool.true_and]
    by_cases hl : l.length = r.length
    · exact implSame_loop s u v l r w hu hv hl hsz
    · have hne : decide (l = r) = false := decide_eq_false (fun h => hl (by rw [h]))
      rw [hne]
      obtain ⟨au, cu, rfl, hlu, _, _⟩ := hu
      obtain ⟨av, cv, rfl, hlv, _, _⟩ := hv
      unfold maxLen at hlu hlv
      have e0 : ((l.length : Int) != (r.length : Int)) = true := by simp; omega
      have es : (s != s) = false := by simp
      clear hl hne
      go_enter Tryz.func178, Tryz.ntmps178
      go_wp2
      go_ret
      exact ⟨rfl, Ext.alloc2 _ _ _⟩
  · rw [show (s == t) = false by simp [hs], Bool.false_and]
    have es : (s != t) = true := by simp [hs]
    clear hs
    go_enter Tryz.func178, Tryz.ntmps178
    go_wp2
    go_ret
    exact ⟨rfl, Ext.alloc2 _ _ _⟩
end Go.Proofs.YtcpmfcigciknlaaGreat

namespace Go.Proofs.YtcpmfcigciknlaaGreat
open Go.RowKit
set_option linter.unusedVariables false
def zeroC (k i f t a : Int) : Bool := k == 0 && (i == 0 && (f == 0 && (t == 0 && a == 0)))
def emptyB (n : Int) (r : RowD) : Bool := (r.v == 0 && zeroC r.k r.i r.f r.t r.a) && sameA r.s 0 r.l (noneL n)
def fullB (n : Int) (r : RowD) : Bool := goodB r.k r.i r.f r.t r.a && goodD n r.s r.l
def headB (r : RowD) : Bool := (inB r.b 0 9999 && inB r.v 0 r.b) && inB r.st 0 3
def goodRow (n : Int) (r : RowD) : Bool := headB r && (if r.st == 0 then emptyB n r else fullB n r)
theorem goodRow_head {n : Int} {r : RowD} (h : headB r = false) : goodRow n r = false := by unfold goodRow; rw [h]; rfl
theorem goodRow_empty {n : Int} {r : RowD} (h : headB r = true) (h0 : (r.st == 0) = true) : goodRow n r = emptyB n r := by unfold goodRow; rw [h, h0]; rfl
theorem goodRow_full {n : Int} {r : RowD} (h : headB r = true) (h0 : (r.st == 0) = false) : goodRow n r = fullB n r := by unfold goodRow; rw [h, h0]; rfl
set_option maxHeartbeats 1000000 in
theorem eq_zero (k i f t a : Int) (W : World) : (Op.equalIn 10000 77 (.agg #[.int .i64 k, .int .i64 i, .int .i64 f, .int .i64 t, .int .i64 a]) (.agg #[.int .i64 0, .int .i64 0, .int .i64 0, .int .i64 0, .int .i64 0])).run Tryz.prog W = .ok (zeroC k i f t a) W := by
  have hS : Tryz.prog.underlying 77 = some (.struct (Tryz.prog.fieldsOf 77)) := by kernel_rfl
  have hp : Tryz.prog.stoodInHeld 77 = false := by kernel_rfl
  have hF : (Tryz.prog.fieldsOf 77).toList.map (fun f => (f.name == "_", f.type, f.offset)) = [(false, 3, 0), (false, 3, 1), (false, 3, 2), (false, 3, 3), (false, 3, 4)] := by kernel_rfl
  have hpart : ∀ (xs : Array Value) (j : Nat) (x : Int) (W : World), xs[j]? = some (.int .i64 x) → (part 3 xs j).run Tryz.prog W = .ok (.int .i64 x) W := by
    intro xs j x W hx
    obtain ⟨i0, hi, hz0, hz1, hz2⟩ := info_parts Tryz.infoInt
    unfold part
    go_simp
  have hq : ∀ (a b : Int) (W : World), (Op.equalIn 9999 3 (.int .i64 a) (.int .i64 b)).run Tryz.prog W = .ok (a == b) W := fun a b W => run_equalIn_int W 9998 3 .i64 .i64 a b Tryz.underlying3
  rw [show (10000 : Nat) = 9999 + 1 from rfl, run_equalIn_struct W 9999 _ _ _ hS hp]
  obtain ⟨L, hL⟩ : ∃ L, L = (Tryz.prog.fieldsOf 77).toList := ⟨_, rfl⟩
  rw [← hL] at hF ⊢
  clear hL hS hp
  obtain ⟨f0, f1, f2, f3, f4, rfl⟩ : ∃ f0 f1 f2 f3 f4, L = [f0, f1, f2, f3, f4] := by
    have hl : L.length = 5 := by have := congrArg List.length hF; simpa using this
    match L, hl with
    | [a, b, c, d, e], _ => exact ⟨a, b, c, d, e, rfl⟩
  simp only [List.map_cons, List.map_nil, List.cons.injEq, Prod.mk.injEq, and_true, beq_eq_false_iff_ne] at hF
  obtain ⟨⟨n0, t0, o0⟩, ⟨n1, t1, o1⟩, ⟨n2, t2, o2⟩, ⟨n3, t3, o3⟩, ⟨n4, t4, o4⟩⟩ := hF
  unfold zeroC
  simp only [Op.eqFields, n0, n1, n2, n3, n4, t0, t1, t2, t3, t4, o0, o1, o2, o3, o4, ne_eq, not_false_eq_true, if_true, Sem.run_bind]
  rw [hpart _ _ k _ rfl]
  simp only [Result.andThen_ok]
  rw [hpart _ _ 0 _ rfl]
  simp only [Result.andThen_ok]
  rw [hq]
  simp only [Result.andThen_ok]
  cases h0 : (k == 0)
  · simp
  simp only [Bool.not_true, Bool.false_eq_true, if_false, Sem.run_bind]
  rw [hpart _ _ i _ rfl]
  simp only [Result.andThen_ok]
  rw [hpart _ _ 0 _ rfl]
  simp only [Result.andThen_ok]
  rw [hq]
  simp only [Result.andThen_ok]
  cases h1 : (i == 0)
  · simp
  simp only [Bool.not_true, Bool.false_eq_true, if_false, Sem.run_bind]
  rw [hpart _ _ f _ rfl]
  simp only [Result.andThen_ok]
  rw [hpart _ _ 0 _ rfl]
  simp only [Result.andThen_ok]
  rw [hq]
  simp only [Result.andThen_ok]
  cases h2 : (f == 0)
  · simp
  simp only [Bool.not_true, Bool.false_eq_true, if_false, Sem.run_bind]
  rw [hpart _ _ t _ rfl]
  simp only [Result.andThen_ok]
  rw [hpart _ _ 0 _ rfl]
  simp only [Result.andThen_ok]
  rw [hq]
  simp only [Result.andThen_ok]
  cases h3 : (t == 0)
  · simp
  simp only [Bool.not_true, Bool.false_eq_true, if_false, Sem.run_bind]
  rw [hpart _ _ a _ rfl]
  simp only [Result.andThen_ok]
  rw [hpart _ _ 0 _ rfl]
  simp only [Result.andThen_ok]
  rw [hq]
  simp only [Result.andThen_ok]
  cases h4 : (a == 0) <;> simp
end Go.Proofs.YtcpmfcigciknlaaGreat

namespace Go.Proofs.YtcpmfcigciknlaaGreat
open Go.RowKit
set_option linter.unusedVariables false
set_option maxHeartbeats 1000000 in
theorem l4Row_head (n : Int) (r : RowD) (u : Value) (w : World) (h : headB r = false) :
    Calls Tryz.prog 64 #[.int .i64 n, .agg #[.int .i64 r.b, .int .i64 r.v, .int .i64 r.st, .int .i64 r.k, .int .i64 r.i, .int .i64 r.f, .int .i64 r.t, .int .i64 r.a, .int .i64 r.s, u]] w (BoolExt false w) := by
  unfold headB at h
  cases h0 : inB r.b 0 9999 with
  | false =>
    clear h
    go_enter Tryz.func64, Tryz.ntmps64
    go_wp2_with (go_at_call 110; refine (l1In_any _ _ _ _).mono ?_; rintro e w' ⟨rfl, rfl⟩)
    go_ret
    exact ⟨rfl, Ext.alloc1 _ _⟩
  | true =>
    cases h1 : inB r.v 0 r.b with
    | false =>
      clear h
      go_enter Tryz.func64, Tryz.ntmps64
      go_wp2_with (go_at_call 110; refine (l1In_any _ _ _ _).mono ?_; rintro e w' ⟨rfl, rfl⟩)
      go_ret
      exact ⟨rfl, Ext.alloc1 _ _⟩
    | true =>
      have h2 : inB r.st 0 3 = false := by rw [h0, h1] at h; simpa using h
      clear h
      go_enter Tryz.func64, Tryz.ntmps64
      go_wp2_with (go_at_call 110; refine (l1In_any _ _ _ _).mono ?_; rintro e w' ⟨rfl, rfl⟩)
      go_ret
      exact ⟨rfl, Ext.alloc1 _ _⟩
theorem headB_of {r : RowD} (h : headB r = true) : inB r.b 0 9999 = true ∧ inB r.v 0 r.b = true ∧ inB r.st 0 3 = true := by
  unfold headB at h
  simp only [Bool.and_eq_true] at h
  exact ⟨h.1.1, h.1.2, h.2⟩
set_option maxHeartbeats 2000000 in
theorem l4Row_full (n : Int) (r : RowD) (u : Value) (w : World) (hv : Ints w u r.l) (h : headB r = true) (h0 : (r.st == 0) = false) :
    Calls Tryz.prog 64 #[.int .i64 n, .agg #[.int .i64 r.b, .int .i64 r.v, .int .i64 r.st, .int .i64 r.k, .int .i64 r.i, .int .i64 r.f, .int .i64 r.t, .int .i64 r.a, .int .i64 r.s, u]] w (BoolExt (fullB n r) w) := by
  obtain ⟨p0, p1, p2⟩ := headB_of h
  unfold fullB
  have HB := Lib.hid (rowAt_new w 83 r u)
  cases hg : goodB r.k r.i r.f r.t r.a with
  | false =>
    have HG := Lib.hid hg
    clear h hg
    go_enter Tryz.func64, Tryz.ntmps64
    go_wp2_with (go_at_call 110; refine (l1In_any _ _ _ _).mono ?_; rintro e w' ⟨rfl, rfl⟩)
    refine (specGood_any _ _ _ _ _ _).mono ?_
    rintro e w1 ⟨rfl, x1⟩
    have hx := (Ext.alloc1 w _).trans x1
    clear x1 HB
    rw [HG.out]
    go_wp2
    go_ret
    exact ⟨rfl, hx⟩
  | true =>
    have HG := Lib.hid hg
    clear h hg
    rw [Bool.true_and]
    go_enter Tryz.func64, Tryz.ntmps64
    go_wp2_with (go_at_call 110; refine (l1In_any _ _ _ _).mono ?_; rintro e w' ⟨rfl, rfl⟩)
    refine (specGood_any _ _ _ _ _ _).mono ?_
    rintro e w1 ⟨rfl, x1⟩
    have hx := (Ext.alloc1 w _).trans x1
    obtain ⟨q0, q1, q2, q3, q4, q5, q6, q7, q8, q9⟩ := HB.out.ext x1
    clear x1
    rw [HG.out]
    go_wp2_with fail
    refine (l3Attr_any _ _ _ r.l _ (hv.ext hx)).mono ?_
    rintro e w2 ⟨rfl, x2⟩
    have hy := hx.trans x2
    clear q0 q1 q2 q3 q4 q5 q6 q7 q8 q9 x2 hx p0 p1 p2 h0
    cases hA : goodD n r.s r.l
    all_goals
      have HA := Lib.hid hA
      clear hA
      go_wp2
      go_ret
      exact ⟨by rw [HA.out]; rfl, hy⟩
theorem stepRow {wb W W' : World} {b : Nat} {r : RowD} {u : Value} (x : Ext W W') (h : Ext wb W ∧ RowAt W b r u) : Ext wb W' ∧ RowAt W' b r u :=
  ⟨h.1.trans x, h.2.ext x⟩
set_option maxHeartbeats 2000000 in
theorem l4Row_empty (n : Int) (r : RowD) (u : Value) (w : World) (hv : Ints w u r.l) (hn : isGrp n = true) (h : headB r = true) (h0 : (r.st == 0) = true) :
    Calls Tryz.prog 64 #[.int .i64 n, .agg #[.int .i64 r.b, .int .i64 r.v, .int .i64 r.st, .int .i64 r.k, .int .i64 r.i, .int .i64 r.f, .int .i64 r.t, .int .i64 r.a, .int .i64 r.s, u]] w (BoolExt (emptyB n r) w) := by
  obtain ⟨p0, p1, p2⟩ := headB_of h
  unfold emptyB
  have HB := Lib.hid (rowAt_new w 83 r u)
  have HN := Lib.hid hn
  clear h hn
  cases hv0 : (r.v == 0) with
  | false =>
    go_enter Tryz.func64, Tryz.ntmps64
    go_wp2_with (go_at_call 110; refine (l1In_any _ _ _ _).mono ?_; rintro e w' ⟨rfl, rfl⟩)
    go_quiet (fail)
    go_wp2
    go_ret
    exact ⟨rfl, by repeat (first | exact Ext.alloc1 _ _ | apply Ext.drewN)⟩
  | true =>
    have heq := fun W => eq_zero r.k r.i r.f r.t r.a W
    cases hz : zeroC r.k r.i r.f r.t r.a with
    | false =>
      rw [hz] at heq
      clear hz
      go_enter Tryz.func64, Tryz.ntmps64
      go_wp2_with (go_at_call 110; refine (l1In_any _ _ _ _).mono ?_; rintro e w' ⟨rfl, rfl⟩)
      go_quiet (fail)
      go_wp2
      go_ret
      exact ⟨rfl, by repeat (first | exact Ext.alloc1 _ _ | apply Ext.drewN)⟩
    | true =>
      rw [hz] at heq
      clear hz
      obtain ⟨wb, hwb⟩ : ∃ wb, wb = w.alloc (.cells #[.int .i64 r.b, .int .i64 r.v, .int .i64 r.st, .int .i64 r.k, .int .i64 r.i, .int .i64 r.f, .int .i64 r.t, .int .i64 r.a, .int .i64 r.s, u] 83) := ⟨_, rfl⟩
      have hb := HB.out
      rw [← hwb] at hb
      have xb : Ext w wb := by rw [hwb]; exact Ext.alloc1 _ _
      have HV := Lib.hid (hv.ext xb)
      have HWB := Lib.hid hwb
      have HBB := Lib.hid hb
      clear HB hwb hb hv
      go_enter Tryz.func64, Tryz.ntmps64
      go_wp2_with (go_at_call 110; refine (l1In_any _ _ _ _).mono ?_; rintro e w' ⟨rfl, rfl⟩)
      rw [← HWB.out]
      go_region_held3 (fun W => Ext wb W ∧ W.cell? ⟨w.heap.size, 0, none⟩ = some (.int .i64 r.b) ∧ W.cell? ⟨w.heap.size, 1, none⟩ = some (.int .i64 r.v) ∧ W.cell? ⟨w.heap.size, 2, none⟩ = some (.int .i64 r.st) ∧ W.cell? ⟨w.heap.size, 3, none⟩ = some (.int .i64 r.k) ∧ W.cell? ⟨w.heap.size, 4, none⟩ = some (.int .i64 r.i) ∧ W.cell? ⟨w.heap.size, 5, none⟩ = some (.int .i64 r.f) ∧ W.cell? ⟨w.heap.size, 6, none⟩ = some (.int .i64 r.t) ∧ W.cell? ⟨w.heap.size, 7, none⟩ = some (.int .i64 r.a) ∧ W.cell? ⟨w.heap.size, 8, none⟩ = some (.int .i64 r.s) ∧ W.cell? ⟨w.heap.size, 9, none⟩ = some u) (first | (exact stepRow (b := w.heap.size) (r := r) (u := u) (by assumption) (by assumption)) | (exact ⟨Ext.drew (Ext.refl _), HBB.out⟩)) (first | (go_at_call 95; refine (l3None_any n _ HN.out).mono ?_; rintro e W ⟨z, rfl, f9, x9⟩; obtain ⟨az, cz, rfl⟩ := f9.form) | (go_at_call 111; refine (specSame_any _ _ _ _ r.l (noneL n) _ (HV.out.ext (And.left (by assumption))) (Fresh.ints (by assumption))).mono ?_; rintro e W ⟨rfl, x8⟩))
      rename_i hH
      have hy : Ext w _ := xb.trans hH.1
      clear hH
      cases hs : sameA r.s 0 r.l (noneL n)
      all_goals
        have HS := Lib.hid hs
        clear hs
        go_wp2
        go_ret
        exact ⟨by rw [HS.out]; rfl, hy⟩
theorem l4Row_any (n : Int) (r : RowD) (u : Value) (w : World) (hv : Ints w u r.l) (hn : isGrp n = true) :
    Calls Tryz.prog 64 #[.int .i64 n, .agg #[.int .i64 r.b, .int .i64 r.v, .int .i64 r.st, .int .i64 r.k, .int .i64 r.i, .int .i64 r.f, .int .i64 r.t, .int .i64 r.a, .int .i64 r.s, u]] w (BoolExt (goodRow n r) w) := by
  cases h : headB r with
  | false => rw [goodRow_head h]; exact l4Row_head n r u w h
  | true =>
    cases h0 : (r.st == 0) with
    | false => rw [goodRow_full h h0]; exact l4Row_full n r u w hv h h0
    | true => rw [goodRow_empty h h0]; exact l4Row_empty n r u w hv hn h h0
end Go.Proofs.YtcpmfcigciknlaaGreat

namespace Go.Proofs.YtcpmfcigciknlaaGreat
open Go.RowKit
set_option linter.unusedVariables false
set_option maxHeartbeats 1000000 in
theorem isGood_early (n : Int) (r : RowD) (u : Value) (w : World) (h : r.v < 0 ∨ r.b < r.v ∨ 9999 < r.b) :
    Calls Tryz.prog 141 #[.int .i64 n, .agg #[.int .i64 r.b, .int .i64 r.v, .int .i64 r.st, .int .i64 r.k, .int .i64 r.i, .int .i64 r.f, .int .i64 r.t, .int .i64 r.a, .int .i64 r.s, u]] w (BoolExt false w) := by
  by_cases h0 : r.v < 0
  · clear h
    go_enter Tryz.func141, Tryz.ntmps141
    go_wp2
    go_ret
    exact ⟨rfl, Ext.alloc1 _ _⟩
  · have g0 : 0 ≤ r.v := by omega
    by_cases h1 : r.b < r.v
    · clear h h0
      go_enter Tryz.func141, Tryz.ntmps141
      go_wp2
      go_ret
      exact ⟨rfl, Ext.alloc1 _ _⟩
    · have g1 : r.v ≤ r.b := by omega
      have g2 : 9999 < r.b := by omega
      clear h h0 h1
      go_enter Tryz.func141, Tryz.ntmps141
      go_wp2
      go_ret
      exact ⟨rfl, Ext.alloc1 _ _⟩
set_option maxHeartbeats 1000000 in
theorem isGood_else (n : Int) (r : RowD) (u : Value) (w : World) (g0 : 0 ≤ r.v) (g1 : r.v ≤ r.b) (g2 : r.b ≤ 9999) (e0 : (r.st == 0) = false) (e1 : (r.st == 1) = false) (e2 : (r.st == 2) = false) (e3 : (r.st == 3) = false) :
    Calls Tryz.prog 141 #[.int .i64 n, .agg #[.int .i64 r.b, .int .i64 r.v, .int .i64 r.st, .int .i64 r.k, .int .i64 r.i, .int .i64 r.f, .int .i64 r.t, .int .i64 r.a, .int .i64 r.s, u]] w (BoolExt false w) := by
  go_enter Tryz.func141, Tryz.ntmps141
  go_wp2
  go_ret
  exact ⟨rfl, Ext.alloc1 _ _⟩
set_option maxHeartbeats 2000000 in
theorem isGood_1 (n : Int) (r : RowD) (u : Value) (w : World) (hv : Ints w u r.l) (hn : isGrp n = true) (g0 : 0 ≤ r.v) (g1 : r.v ≤ r.b) (g2 : r.b ≤ 9999) (e0 : (r.st == 0) = false) (e1 : (r.st == 1) = true) :
    Calls Tryz.prog 141 #[.int .i64 n, .agg #[.int .i64 r.b, .int .i64 r.v, .int .i64 r.st, .int .i64 r.k, .int .i64 r.i, .int .i64 r.f, .int .i64 r.t, .int .i64 r.a, .int .i64 r.s, u]] w (BoolExt (fullB n r) w) := by
  have HE : Hid (goodD n r.s r.l = goodA n r.s r.l) := Lib.hid (by unfold goodA; rw [hn]; rfl)
  unfold fullB
  rw [HE.out]
  have HB := Lib.hid (rowAt_new w 83 r u)
  clear hn
  cases hg : goodB r.k r.i r.f r.t r.a with
  | false =>
    have HG := Lib.hid hg
    clear hg
    go_enter Tryz.func141, Tryz.ntmps141
    go_wp2_with fail
    refine (implGood_any _ _ _ _ _ _).mono ?_
    rintro e w1 ⟨rfl, x1⟩
    have hx := (Ext.alloc1 w _).trans x1
    clear x1 HB
    rw [HG.out]
    go_wp2
    go_ret
    exact ⟨rfl, hx⟩
  | true =>
    have HG := Lib.hid hg
    clear hg
    rw [Bool.true_and]
    go_enter Tryz.func141, Tryz.ntmps141
    go_wp2_with fail
    refine (implGood_any _ _ _ _ _ _).mono ?_
    rintro e w1 ⟨rfl, x1⟩
    have hx := (Ext.alloc1 w _).trans x1
    obtain ⟨q0, q1, q2, q3, q4, q5, q6, q7, q8, q9⟩ := HB.out.ext x1
    clear x1
    rw [HG.out]
    go_wp2_with fail
    refine (implGoodAttr_any _ _ _ r.l _ (hv.ext hx)).mono ?_
    rintro e w2 ⟨rfl, x2⟩
    have hy := hx.trans x2
    clear q0 q1 q2 q3 q4 q5 q6 q7 q8 q9 x2 hx g0 g1 g2
    cases hA : goodA n r.s r.l
    all_goals
      have HA := Lib.hid hA
      clear hA
      go_wp2
      go_ret
      exact ⟨by rw [HA.out]; rfl, hy⟩
set_option maxHeartbeats 2000000 in
theorem isGood_2 (n : Int) (r : RowD) (u : Value) (w : World) (hv : Ints w u r.l) (hn : isGrp n = true) (g0 : 0 ≤ r.v) (g1 : r.v ≤ r.b) (g2 : r.b ≤ 9999) (e0 : (r.st == 0) = false) (e1 : (r.st == 1) = false) (e2 : (r.st == 2) = true) :
    Calls Tryz.prog 141 #[.int .i64 n, .agg #[.int .i64 r.b, .int .i64 r.v, .int .i64 r.st, .int .i64 r.k, .int .i64 r.i, .int .i64 r.f, .int .i64 r.t, .int .i64 r.a, .int .i64 r.s, u]] w (BoolExt (fullB n r) w) := by
  have HE : Hid (goodD n r.s r.l = goodA n r.s r.l) := Lib.hid (by unfold goodA; rw [hn]; rfl)
  unfold fullB
  rw [HE.out]
  have HB := Lib.hid (rowAt_new w 83 r u)
  clear hn
  cases hg : goodB r.k r.i r.f r.t r.a with
  | false =>
    have HG := Lib.hid hg
    clear hg
    go_enter Tryz.func141, Tryz.ntmps141
    go_wp2_with fail
    refine (implGood_any _ _ _ _ _ _).mono ?_
    rintro e w1 ⟨rfl, x1⟩
    have hx := (Ext.alloc1 w _).trans x1
    clear x1 HB
    rw [HG.out]
    go_wp2
    go_ret
    exact ⟨rfl, hx⟩
  | true =>
    have HG := Lib.hid hg
    clear hg
    rw [Bool.true_and]
    go_enter Tryz.func141, Tryz.ntmps141
    go_wp2_with fail
    refine (implGood_any _ _ _ _ _ _).mono ?_
    rintro e w1 ⟨rfl, x1⟩
    have hx := (Ext.alloc1 w _).trans x1
    obtain ⟨q0, q1, q2, q3, q4, q5, q6, q7, q8, q9⟩ := HB.out.ext x1
    clear x1
    rw [HG.out]
    go_wp2_with fail
    refine (implGoodAttr_any _ _ _ r.l _ (hv.ext hx)).mono ?_
    rintro e w2 ⟨rfl, x2⟩
    have hy := hx.trans x2
    clear q0 q1 q2 q3 q4 q5 q6 q7 q8 q9 x2 hx g0 g1 g2
    cases hA : goodA n r.s r.l
    all_goals
      have HA := Lib.hid hA
      clear hA
      go_wp2
      go_ret
      exact ⟨by rw [HA.out]; rfl, hy⟩
set_option maxHeartbeats 2000000 in
theorem isGood_3 (n : Int) (r : RowD) (u : Value) (w : World) (hv : Ints w u r.l) (hn : isGrp n = true) (g0 : 0 ≤ r.v) (g1 : r.v ≤ r.b) (g2 : r.b ≤ 9999) (e0 : (r.st == 0) = false) (e1 : (r.st == 1) = false) (e2 : (r.st == 2) = false) (e3 : (r.st == 3) = true) :
    Calls Tryz.prog 141 #[.int .i64 n, .agg #[.int .i64 r.b, .int .i64 r.v, .int .i64 r.st, .int .i64 r.k, .int .i64 r.i, .int .i64 r.f, .int .i64 r.t, .int .i64 r.a, .int .i64 r.s, u]] w (BoolExt (fullB n r) w) := by
  have HE : Hid (goodD n r.s r.l = goodA n r.s r.l) := Lib.hid (by unfold goodA; rw [hn]; rfl)
  unfold fullB
  rw [HE.out]
  have HB := Lib.hid (rowAt_new w 83 r u)
  clear hn
  cases hg : goodB r.k r.i r.f r.t r.a with
  | false =>
    have HG := Lib.hid hg
    clear hg
    go_enter Tryz.func141, Tryz.ntmps141
    go_wp2_with fail
    refine (implGood_any _ _ _ _ _ _).mono ?_
    rintro e w1 ⟨rfl, x1⟩
    have hx := (Ext.alloc1 w _).trans x1
    clear x1 HB
    rw [HG.out]
    go_wp2
    go_ret
    exact ⟨rfl, hx⟩
  | true =>
    have HG := Lib.hid hg
    clear hg
    rw [Bool.true_and]
    go_enter Tryz.func141, Tryz.ntmps141
    go_wp2_with fail
    refine (implGood_any _ _ _ _ _ _).mono ?_
    rintro e w1 ⟨rfl, x1⟩
    have hx := (Ext.alloc1 w _).trans x1
    obtain ⟨q0, q1, q2, q3, q4, q5, q6, q7, q8, q9⟩ := HB.out.ext x1
    clear x1
    rw [HG.out]
    go_wp2_with fail
    refine (implGoodAttr_any _ _ _ r.l _ (hv.ext hx)).mono ?_
    rintro e w2 ⟨rfl, x2⟩
    have hy := hx.trans x2
    clear q0 q1 q2 q3 q4 q5 q6 q7 q8 q9 x2 hx g0 g1 g2
    cases hA : goodA n r.s r.l
    all_goals
      have HA := Lib.hid hA
      clear hA
      go_wp2
      go_ret
      exact ⟨by rw [HA.out]; rfl, hy⟩
set_option maxHeartbeats 2000000 in
theorem isGood_0 (n : Int) (r : RowD) (u : Value) (w : World) (hv : Ints w u r.l) (hsz : r.l.length ≤ 1099511627776) (hn : isGrp n = true) (g0 : 0 ≤ r.v) (g1 : r.v ≤ r.b) (g2 : r.b ≤ 9999) (h0 : (r.st == 0) = true) :
    Calls Tryz.prog 141 #[.int .i64 n, .agg #[.int .i64 r.b, .int .i64 r.v, .int .i64 r.st, .int .i64 r.k, .int .i64 r.i, .int .i64 r.f, .int .i64 r.t, .int .i64 r.a, .int .i64 r.s, u]] w (BoolExt (emptyB n r) w) := by
  unfold emptyB
  have HSZ := Lib.hid hsz
  clear hsz
  have HB := Lib.hid (rowAt_new w 83 r u)
  have HN := Lib.hid hn
  clear hn
  cases hv0 : (r.v == 0) with
  | false =>
    go_enter Tryz.func141, Tryz.ntmps141
    go_wp2_with fail
    go_quiet (fail)
    go_wp2
    go_ret
    exact ⟨rfl, by repeat (first | exact Ext.alloc1 _ _ | apply Ext.drewN)⟩
  | true =>
    have heq := fun W => eq_zero r.k r.i r.f r.t r.a W
    cases hz : zeroC r.k r.i r.f r.t r.a with
    | false =>
      rw [hz] at heq
      clear hz
      go_enter Tryz.func141, Tryz.ntmps141
      go_wp2_with fail
      go_quiet (fail)
      go_wp2
      go_ret
      exact ⟨rfl, by repeat (first | exact Ext.alloc1 _ _ | apply Ext.drewN)⟩
    | true =>
      rw [hz] at heq
      clear hz
      obtain ⟨wb, hwb⟩ : ∃ wb, wb = w.alloc (.cells #[.int .i64 r.b, .int .i64 r.v, .int .i64 r.st, .int .i64 r.k, .int .i64 r.i, .int .i64 r.f, .int .i64 r.t, .int .i64 r.a, .int .i64 r.s, u] 83) := ⟨_, rfl⟩
      have hb := HB.out
      rw [← hwb] at hb
      have xb : Ext w wb := by rw [hwb]; exact Ext.alloc1 _ _
      have HV := Lib.hid (hv.ext xb)
      have HWB := Lib.hid hwb
      have HBB := Lib.hid hb
      clear HB hwb hb hv
      go_enter Tryz.func141, Tryz.ntmps141
      go_wp2_with fail
      rw [← HWB.out]
      go_region_held3 (fun W => Ext wb W ∧ W.cell? ⟨w.heap.size, 0, none⟩ = some (.int .i64 r.b) ∧ W.cell? ⟨w.heap.size, 1, none⟩ = some (.int .i64 r.v) ∧ W.cell? ⟨w.heap.size, 2, none⟩ = some (.int .i64 r.st) ∧ W.cell? ⟨w.heap.size, 3, none⟩ = some (.int .i64 r.k) ∧ W.cell? ⟨w.heap.size, 4, none⟩ = some (.int .i64 r.i) ∧ W.cell? ⟨w.heap.size, 5, none⟩ = some (.int .i64 r.f) ∧ W.cell? ⟨w.heap.size, 6, none⟩ = some (.int .i64 r.t) ∧ W.cell? ⟨w.heap.size, 7, none⟩ = some (.int .i64 r.a) ∧ W.cell? ⟨w.heap.size, 8, none⟩ = some (.int .i64 r.s) ∧ W.cell? ⟨w.heap.size, 9, none⟩ = some u) (first | (exact stepRow (b := w.heap.size) (r := r) (u := u) (by assumption) (by assumption)) | (exact ⟨Ext.drew (Ext.refl _), HBB.out⟩)) (first | (go_at_call 119; refine (joinNone_any n _ HN.out).mono ?_; rintro e W ⟨z, rfl, f9, x9⟩; obtain ⟨az, cz, rfl⟩ := f9.form) | (go_at_call 178; refine (implSame_any _ _ _ _ r.l (noneL n) _ (HV.out.ext (And.left (by assumption))) (Fresh.ints (by assumption)) HSZ.out).mono ?_; rintro e W ⟨rfl, x8⟩))
      rename_i hH
      have hy : Ext w _ := xb.trans hH.1
      clear hH
      cases hs : sameA r.s 0 r.l (noneL n)
      all_goals
        have HS := Lib.hid hs
        clear hs
        go_wp2
        go_ret
        exact ⟨by rw [HS.out]; rfl, hy⟩
theorem isGoodRow_any (n : Int) (r : RowD) (u : Value) (w : World) (hv : Ints w u r.l) (hsz : r.l.length ≤ 1099511627776) (hn : isGrp n = true) :
    Calls Tryz.prog 141 #[.int .i64 n, .agg #[.int .i64 r.b, .int .i64 r.v, .int .i64 r.st, .int .i64 r.k, .int .i64 r.i, .int .i64 r.f, .int .i64 r.t, .int .i64 r.a, .int .i64 r.s, u]] w (BoolExt (goodRow n r) w) := by
  by_cases hb : r.v < 0 ∨ r.b < r.v ∨ 9999 < r.b
  · have e : headB r = false := by
      unfold headB
      rcases hb with h | h | h
      · rw [inB_no (n := r.v) (by omega), Bool.and_false, Bool.false_and]
      · rw [inB_no (n := r.v) (by omega), Bool.and_false, Bool.false_and]
      · rw [inB_no (n := r.b) (by omega), Bool.false_and, Bool.false_and]
    rw [goodRow_head e]
    exact isGood_early n r u w hb
  · have g0 : 0 ≤ r.v := by omega
    have g1 : r.v ≤ r.b := by omega
    have g2 : r.b ≤ 9999 := by omega
    have hh : headB r = inB r.st 0 3 := by unfold headB; rw [inB_yes (n := r.b) (by omega) g2, inB_yes (n := r.v) g0 g1]; rfl
    by_cases s0 : r.st = 0
    · have e0 : (r.st == 0) = true := by simp [s0]
      rw [goodRow_empty (by rw [hh]; exact inB_yes (by omega) (by omega)) e0]
      exact isGood_0 n r u w hv hsz hn g0 g1 g2 e0
    · have e0 : (r.st == 0) = false := by simp [s0]
      by_cases s1 : r.st = 1
      · rw [goodRow_full (by rw [hh]; exact inB_yes (by omega) (by omega)) e0]
        exact isGood_1 n r u w hv hn g0 g1 g2 e0 (by simp [s1])
      · by_cases s2 : r.st = 2
        · rw [goodRow_full (by rw [hh]; exact inB_yes (by omega) (by omega)) e0]
          exact isGood_2 n r u w hv hn g0 g1 g2 e0 (by simp [s1]) (by simp [s2])
        · by_cases s3 : r.st = 3
          · rw [goodRow_full (by rw [hh]; exact inB_yes (by omega) (by omega)) e0]
            exact isGood_3 n r u w hv hn g0 g1 g2 e0 (by simp [s1]) (by simp [s2]) (by simp [s3])
          · rw [goodRow_head (by rw [hh]; exact inB_no (by omega))]
            exact isGood_else n r u w g0 g1 g2 e0 (by simp [s1]) (by simp [s2]) (by simp [s3])
end Go.Proofs.YtcpmfcigciknlaaGreat

namespace Go.Proofs.YtcpmfcigciknlaaGreat
open Go.RowKit
set_option linter.unusedVariables false
set_option maxHeartbeats 1000000 in
theorem szRow_any (r : RowD) (u : Value) (left : Int) (w : World) (hv : Ints w u r.l) (h0 : 0 ≤ left) (h1 : left ≤ 1099511627776) :
    Calls Tryz.prog 109 #[.agg #[.int .i64 r.b, .int .i64 r.v, .int .i64 r.st, .int .i64 r.k, .int .i64 r.i, .int .i64 r.f, .int .i64 r.t, .int .i64 r.a, .int .i64 r.s, u], .int .i64 left] w (IntExt (lessened left r.l.length) w) := by
  have HB := rowAt_new w 179 r u
  by_cases hlt : left < r.l.length
  · have L := Lib.hid (lessened_no hlt)
    clear hlt
    go_enter Tryz.func109, Tryz.ntmps109
    go_wp2_with fail
    refine (szAttr_any _ _ _ _ _ (hv.ext (Ext.alloc (Ext.refl _) _)) h0 h1).mono ?_
    rintro e w1 ⟨rfl, x1⟩
    have hx := (Ext.alloc (Ext.refl w) _).trans x1
    clear x1 HB
    rw [L.out]
    go_wp2
    go_ret
    exact ⟨by rw [L.out]; rfl, hx⟩
  · obtain ⟨q, hq⟩ : ∃ q, q = left - (r.l.length : Int) := ⟨_, rfl⟩
    have hq0 : 0 ≤ q := by omega
    have LR : Hid (lessened left r.l.length = q) := Lib.hid (by rw [hq]; exact lessened_yes (by omega))
    clear hlt hq
    rw [LR.out]
    go_enter Tryz.func109, Tryz.ntmps109
    go_wp2_with fail
    refine (szAttr_any _ _ _ _ _ (hv.ext (Ext.alloc (Ext.refl _) _)) h0 h1).mono ?_
    rintro e w1 ⟨rfl, x1⟩
    have hx := (Ext.alloc (Ext.refl w) _).trans x1
    clear x1 HB
    rw [LR.out]
    go_wp2
    go_ret
    exact ⟨rfl, hx⟩
end Go.Proofs.YtcpmfcigciknlaaGreat

namespace Go.Proofs.YtcpmfcigciknlaaGreat
open Go.RowKit
set_option maxHeartbeats 1000000 in
theorem toCmd_any (k i f t a : Int) (w : World) :
    Calls Tryz.prog 125 #[.agg #[.int .i64 k, .int .i64 i, .int .i64 f, .int .i64 t, .int .i64 a]] w (CmdExt k i f t a w) := by
  go_enter Tryz.func125, Tryz.ntmps125
  go_wp2
  exact bodyPost_ret (v := .agg #[.int .i64 k, .int .i64 i, .int .i64 f, .int .i64 t, .int .i64 a]) (by simp [results, Tryz.results125, go_sem]) rfl ⟨rfl, by repeat (first | exact Ext.refl _ | apply Ext.drew | apply Ext.alloc)⟩
end Go.Proofs.YtcpmfcigciknlaaGreat
