/- Texts of this proof, part u: words, plain facts, contracts. -/
import Derived.Test.YtcpmfcigciknlaaGreatMBookOfc
import Derived.Laws.CopyOwn
import Derived.Deep.RegionLaw
import Derived.StillTailTactics
import Derived.Test.YtcpmfcigciknlaaGreatMBookOfl
import Derived.IntWalk
import Derived.Test.YtcpmfcigciknlaaGreatMBookOft
import Derived.OwnWalk
import Derived.Test.YtcpmfcigciknlaaGreatMBookOfa
import Derived.Test.YtcpmfcigciknlaaGreatMBookOfg
import Derived.Deep.DeepCutAuto
import Derived.Deep.RegionWith
import Derived.Deep.RegionHeld3

namespace Go.Proofs.YtcpmfcigciknlaaGreat
open Go.RowKit
set_option linter.unusedVariables false

theorem mul64_14 (w : World) :
    Calls Tryz.prog 158 #[.int .u64 1, .int .u64 4] w fun e w' => e = .returned (.tuple #[.int .u64 0, .int .u64 4]) ∧ w = w' := by
  go_enter Tryz.func158, Tryz.ntmps158
  go_wp2
  go_ret2
  exact ⟨rfl, rfl⟩

theorem mul_14 (w : World) :
    Calls Tryz.prog 118 #[.int .u64 1, .int .u64 4] w fun e w' => e = .returned (.tuple #[.int .u64 0, .int .u64 4]) ∧ w = w' := by
  go_enter Tryz.func118, Tryz.ntmps118
  go_wp2_with fail
  refine (mul64_14 _).mono ?_
  rintro e w' ⟨rfl, rfl⟩
  go_wp2
  go_ret2
  exact ⟨rfl, rfl⟩

/-- k times x, and 0 up to four. -/
def rep4 (x : Int) (k : Nat) : List Value := List.replicate k (Value.int .i64 x) ++ List.replicate (4 - k) (Value.int .i64 0)
theorem rep4_splice1 (x : Int) : splice (rep4 x 0) 0 [Value.int .i64 x] = rep4 x 1 := rfl
theorem rep4_splice2 (x : Int) : splice (rep4 x 1) 1 [Value.int .i64 x] = rep4 x 2 := rfl
theorem rep4_splice4 (x : Int) : splice (rep4 x 2) 2 [Value.int .i64 x, Value.int .i64 x] = rep4 x 4 := rfl

set_option maxRecDepth 100000 in
set_option maxHeartbeats 2000000 in
theorem repeat4_any (w : World) (x : Int) (b : Nat) (hb : w.cell? ⟨b, 0, none⟩ = some (.int .i64 x)) :
    Calls Tryz.prog 68 #[.slice (some ⟨b, 0, none⟩) 1 1, .int .i64 4] w (NewInts [x, x, x, x] w) := by
  obtain ⟨i0, hi, hz0, hz1, hz2⟩ := info_parts Tryz.infoInt
  have hbl := World.block_lt_of_cell? w _ hb
  have HBL := Lib.hid hbl
  have HB := Lib.hid hb
  clear hbl hb
  go_enter Tryz.func68, Tryz.ntmps68
  go_wp2_with fail
  refine (mul_14 _).mono ?_
  rintro e w' ⟨rfl, rfl⟩
  go_wp2_with (first | (at_make; refine wpList_make_full _ rfl _ _ 26 rfl w.heap.size 3 i0 (.int .i64 0) 1 Tryz.underlying26 hi hz0 hz1 _ _ _ _ 4 rfl rfl rfl rfl ?c1 ?c2 ?c3 ?_))
  case c1 => rw [hz2]; omega
  case c2 => unfold maxLen; omega
  case c3 => simp
  intro w1 ho1 hg1
  have hx1 : Ext w w1 := ext_of_grown hg1
  have hb1 : w1.heap[w.heap.size]? = some (.cells (rep4 x 0).toArray 3 (0, 0)) := by
    rcases ho1.2 with ⟨h, _⟩ | ⟨g, cap, cur, h, _, hg, _, _, hs, ht⟩
    · cases h
    · injection h with h1 h2 h3
      injection h1 with h1
      injection h1 with h1
      subst h1
      subst h3
      rw [hg]
      have e : cur.toList = rep4 x 0 := by
        rw [List.take_of_length_le (by rw [Array.length_toList, hs]; exact Nat.le_refl _)] at ht
        rw [ht, toList_madeCells_one]; rfl
      have e2 : cur = (rep4 x 0).toArray := by rw [← e]
      rw [e2]
  have H1 := Lib.hid hb1
  have hc1 := hx1.cell HB.out
  have X1 := Lib.hid hx1
  clear ho1 hg1 hb1 hx1 hi hz0 hz1 hz2
  go_wp2_with (with_reducible refine wpList_copy_splice rfl _ _ 26 26 rfl 3 Tryz.underlying26 rfl _ _ 4 4 1 1 rfl rfl w.heap.size 0 (rep4 x 0) 3 H1.out [Value.int .i64 x] rfl ?c2 (Nat.le_of_ble_eq_true rfl) ?c3 w.heap.size w ?c4 (Nat.le_refl _) ?_)
  case c2 =>
    intro j v hj
    match j, hj with
    | 0, hj => simp at hj; subst hj; simpa [Addr.add] using hc1
  case c3 => intro z hz; simp at hz; subst hz; rfl
  case c4 => exact X1.out
  intro w2 hg2 hb2
  have H2 := hg2
  rw [rep4_splice1] at H2
  have X2 : Hid (Ext w w2) := Lib.hid hb2
  clear hg2 hb2 hc1 H1 X1
  go_wp2_with fail
  go_loopw [8] (fun n wr => ∃ (k : Nat) (m : Int), (k = 1 ∧ m = 1 ∨ k = 2 ∧ m = 2 ∨ k = 4 ∧ m = 4) ∧ n = .int .i64 m ∧ wr.heap[w.heap.size]? = some (.cells (rep4 x k).toArray 3 (0, 0)) ∧ Ext w wr) (fun n _ => 4 - (intOf n).toNat)
  case atStart => exact ⟨1, 1, .inl ⟨rfl, rfl⟩, rfl, H2.out, X2.out⟩
  case round =>
    clear H2 X2
    obtain ⟨k, m, hk, rfl, hh, hx⟩ := hrel
    have HH := Lib.hid hh
    have HX := Lib.hid hx
    clear hh hx
    rcases hk with ⟨rfl, rfl⟩ | ⟨rfl, rfl⟩ | ⟨rfl, rfl⟩
    · have hp : Hid (0 < ([Value.int .i64 x] : List Value).length → (some ⟨w.heap.size, 1, none⟩ : Option Addr) = some ⟨w.heap.size, 1, none⟩ ∧ ∃ ad, (some ⟨w.heap.size, 0, none⟩ : Option Addr) = some ad ∧ ∀ j v, ([Value.int .i64 x] : List Value)[j]? = some v → wr.drew.cell? (ad.add j) = some v) := Lib.hid (fun _ => ⟨rfl, _, rfl, fun j v hj => by
        have hw : wr.drew.cell? (Addr.add ⟨w.heap.size, 0, none⟩ j) = (rep4 x 1)[j]? := by
          have e : (Addr.add ⟨w.heap.size, 0, none⟩ j) = ⟨w.heap.size, j, none⟩ := by simp [Addr.add] <;> omega
          rw [e]
          exact (cell_of_row wr.drew _ j _ _ _ HH.out).trans (List.getElem?_toArray)
        rw [hw]
        match j, hj with
        | 0, hj => exact hj
        | 1, hj => first | exact hj | (simp at hj)⟩)
      have h1 : Hid (∀ v ∈ ([Value.int .i64 x] : List Value), v.oneCell' = true) := Lib.hid (fun v hv => by simp at hv; subst hv; rfl)
      go_wp2_with fail
      go_region_law (refine step_copy_splice rfl (.tmp 41) (.tmp 44) 26 26 rfl 3 Tryz.underlying26 rfl (some ⟨w.heap.size, 1, none⟩) (some ⟨w.heap.size, 0, none⟩) 3 3 1 4 (by with_reducible go_simp) (by with_reducible go_simp) w.heap.size 1 (rep4 x 1) 3 HH.out [Value.int .i64 x] rfl (fun _ => ⟨rfl, (hp.out (Nat.le_of_ble_eq_true rfl)).2⟩) (Nat.le_of_ble_eq_true rfl) h1.out w.heap.size w HX.out.drew (Nat.le_refl _) ?_; intro w4 hg4 hb4)
      all_goals
        go_wp2
        go_roundw
        case rel => exact ⟨.int .i64 2, _, _, _, _, _, _, _, _, _, _, _, _, _, ⟨2, 2, .inr (.inl ⟨rfl, rfl⟩), rfl, by rw [← rep4_splice2]; exact hg4.out, hb4⟩, rfl⟩
        case measure => exact (show (2 : Nat) < 3 by decide)
    · have hp : Hid (0 < ([Value.int .i64 x, Value.int .i64 x] : List Value).length → (some ⟨w.heap.size, 2, none⟩ : Option Addr) = some ⟨w.heap.size, 2, none⟩ ∧ ∃ ad, (some ⟨w.heap.size, 0, none⟩ : Option Addr) = some ad ∧ ∀ j v, ([Value.int .i64 x, Value.int .i64 x] : List Value)[j]? = some v → wr.drew.cell? (ad.add j) = some v) := Lib.hid (fun _ => ⟨rfl, _, rfl, fun j v hj => by
        have hw : wr.drew.cell? (Addr.add ⟨w.heap.size, 0, none⟩ j) = (rep4 x 2)[j]? := by
          have e : (Addr.add ⟨w.heap.size, 0, none⟩ j) = ⟨w.heap.size, j, none⟩ := by simp [Addr.add] <;> omega
          rw [e]
          exact (cell_of_row wr.drew _ j _ _ _ HH.out).trans (List.getElem?_toArray)
        rw [hw]
        match j, hj with
        | 0, hj => exact hj
        | 1, hj => first | exact hj | (simp at hj)⟩)
      have h1 : Hid (∀ v ∈ ([Value.int .i64 x, Value.int .i64 x] : List Value), v.oneCell' = true) := Lib.hid (fun v hv => by simp at hv; subst hv; rfl)
      go_wp2_with fail
      go_region_law (refine step_copy_splice rfl (.tmp 41) (.tmp 44) 26 26 rfl 3 Tryz.underlying26 rfl (some ⟨w.heap.size, 2, none⟩) (some ⟨w.heap.size, 0, none⟩) 2 2 2 4 (by with_reducible go_simp) (by with_reducible go_simp) w.heap.size 2 (rep4 x 2) 3 HH.out [Value.int .i64 x, Value.int .i64 x] rfl (fun _ => ⟨rfl, (hp.out (Nat.le_of_ble_eq_true rfl)).2⟩) (Nat.le_of_ble_eq_true rfl) h1.out w.heap.size w HX.out.drew (Nat.le_refl _) ?_; intro w4 hg4 hb4)
      all_goals
        go_wp2
        go_roundw
        case rel => exact ⟨.int .i64 4, _, _, _, _, _, _, _, _, _, _, _, _, _, ⟨4, 4, .inr (.inr ⟨rfl, rfl⟩), rfl, by rw [← rep4_splice4]; exact hg4.out, hb4⟩, rfl⟩
        case measure => exact (show (0 : Nat) < 2 by decide)
    · go_wp2
      go_ret
      refine ⟨_, rfl, ?_, HX.out⟩
      exact ⟨rfl, .inr ⟨w.heap.size, 4, _, rfl, Nat.le_refl _, HH.out, Nat.le_refl _, by unfold maxLen; omega, rfl, rfl⟩⟩

theorem implNewSums_any (w : World) : Calls Tryz.prog 36 #[] w (NewInts [100, 100, 100, 100] w) := by
  go_enter Tryz.func36, Tryz.ntmps36
  go_wp2_with fail
  refine (repeat4_any _ 100 w.heap.size (cell_alloc_one w _ _)).mono ?_
  rintro e w1 ⟨v1, rfl, f1, x1⟩
  go_wp2
  go_ret
  exact ⟨_, rfl, f1.more (by simp), (Ext.alloc (Ext.refl _) _).trans x1⟩

/-- k times 100. -/
def hundreds (k : Nat) : List Int := List.replicate k 100
theorem hundreds_succ (k : Nat) : hundreds (k + 1) = hundreds k ++ [100] := by simp [hundreds, List.replicate_succ']

set_option maxHeartbeats 1000000 in
theorem specNewSums_any (w : World) : Calls Tryz.prog 115 #[] w (NewInts [100, 100, 100, 100] w) := by
  go_enter Tryz.func115, Tryz.ntmps115
  go_wp2
  go_loopw [1, 2] (fun o i wr => ∃ k : Nat, k ≤ 4 ∧ i = .int .i64 k ∧ Fresh w.heap.size wr o (hundreds k) ∧ Ext w wr) (fun _ i _ => 4 - (intOf i).toNat)
  case atStart => exact ⟨0, Nat.zero_le _, rfl, fresh_nil _ _, Ext.refl _⟩
  case round =>
    obtain ⟨k, hk, rfl, hf, hx⟩ := hrel
    by_cases hlt : k < 4
    · have F := Lib.hid hf
      have X := Lib.hid hx
      clear hf hx
      have hb : w.heap.size ≤ wr.heap.size := Ext.size X.out
      have hbb : w.heap.size ≤ (wr.alloc (.cells #[.int .i64 100] 3)).heap.size := size_alloc_le hb
      have HB := Lib.hid hbb
      clear hbb
      have hc := Lib.hid (cell_alloc_one wr (.int .i64 100) 3)
      have hl : (hundreds k).length ≤ 1099511627776 := by simp [hundreds]; omega
      have HL := Lib.hid hl
      clear hl
      go_wp2_with (at_builtin; refine wpList_push rfl _ _ rfl w.heap.size _ (hundreds k) 100 rfl (F.out.ext (Ext.alloc (Ext.refl _) _)) ⟨wr.heap.size, 0, none⟩ 1 rfl hc.out HL.out HB.out ?_)
      intro v' w' hf' hg' hk'
      have F' : Hid (Fresh w.heap.size w' v' (hundreds (k + 1))) := Lib.hid (by rw [hundreds_succ]; exact hf')
      have X' := Lib.hid (hk' w (X.out.trans (Ext.alloc (Ext.refl _) _)) (Nat.le_refl _))
      clear hf' hg' hk' F X hc HL HB hb
      go_wp2
      go_roundw
      case rel => exact ⟨k + 1, by omega, by go_num, F'.out, X'.out⟩
      case measure => simp [intOf]; omega
    · obtain rfl : k = 4 := by omega
      have F := Lib.hid hf
      have X := Lib.hid hx
      clear hf hx
      go_wp2
      go_ret
      exact ⟨_, rfl, F.out, X.out⟩

end Go.Proofs.YtcpmfcigciknlaaGreat

namespace Go.Proofs.YtcpmfcigciknlaaGreat
open Go.RowKit
set_option linter.unusedVariables false

def okAt (n : Int) (T : List (List RowD)) (rep no : Int) : Bool := goodTab n T && instB n rep no
/-- What RowAt tells. -/
def rowAtR (n : Int) (T : List (List RowD)) (rep no : Int) : RowD := if okAt n T rep no then rowOf n T rep.toNat (no - 1).toNat else zeroR
theorem rowAtR_no {n : Int} {T : List (List RowD)} {rep no : Int} (h : okAt n T rep no = false) : rowAtR n T rep no = zeroR := by unfold rowAtR; rw [h]; rfl
theorem rowAtR_yes {n : Int} {T : List (List RowD)} {p q : Nat} (h : okAt n T (p : Int) ((q : Int) + 1) = true) : rowAtR n T (p : Int) ((q : Int) + 1) = rowOf n T p q := by
  unfold rowAtR; rw [h]

  simp
theorem okAt_of {n : Int} {T : List (List RowD)} {rep no : Int} (h : okAt n T rep no = true) : goodTab n T = true ∧ instB n rep no = true := by
  unfold okAt at h; simpa using h
theorem rowOf_len {n : Int} {T : List (List RowD)} {p q : Nat} (h : goodTab n T = true) (hp : p < T.length) : (rowOf n T p q).l.length ≤ 5 := by
  by_cases hq : q < T[p].length
  · rw [rowOf_in hp hq]; exact (goodTab_row h hp hq).2.2
  · rw [rowOf_out hp (by omega)]; exact noneL_len n
theorem rowAtR_len (n : Int) (T : List (List RowD)) (rep no : Int) : (rowAtR n T rep no).l.length ≤ 5 := by
  cases h : okAt n T rep no with
  | false => rw [rowAtR_no h]; simp [zeroR]
  | true =>
    obtain ⟨h1, h2⟩ := okAt_of h
    obtain ⟨p, q, rfl, rfl, hp, _⟩ := inst_nat h1 h2
    rw [rowAtR_yes h]
    exact rowOf_len h1 hp

end Go.Proofs.YtcpmfcigciknlaaGreat

namespace Go.Proofs.YtcpmfcigciknlaaGreat
open Go.RowKit
set_option linter.unusedVariables false

theorem make_m (m : Nat) (h : m = 3 ∨ m = 5) (W : World) : (Instr.makeSlice 26 (.int .i64 (m : Int)) (.int .i64 (m : Int))).run Tryz.prog W = .ok (.slice (some ⟨W.heap.size, 0, none⟩) m m) (W.alloc (.cells (Array.replicate m (Value.int .i64 0)) 3)) := by
  rcases h with rfl | rfl
  · exact make_3 W
  · exact make_5 W

theorem splice_all (m : Nat) (l : List Int) (h : l.length = m) : splice (List.replicate m (Value.int .i64 0)) 0 (l.map (Value.int .i64)) = l.map (Value.int .i64) := by
  subst h
  simp [splice]

set_option maxRecDepth 100000 in
set_option maxHeartbeats 2000000 in
theorem copyRow_nat (m : Nat) (hm : m = 3 ∨ m = 5) (r : RowD) (u : Value) (w : World) (hv : Ints w u r.l) (hl : r.l.length = m) :
    Calls Tryz.prog 71 #[.int .i64 m, .agg #[.int .i64 r.b, .int .i64 r.v, .int .i64 r.st, .int .i64 r.k, .int .i64 r.i, .int .i64 r.f, .int .i64 r.t, .int .i64 r.a, .int .i64 r.s, u]] w (NewRow r w) := by
  obtain ⟨au, cu, rfl, hlu, hcap, hcu⟩ := hv
  obtain ⟨wc, hwc⟩ : ∃ wc, wc = (((w.alloc (.cells #[.int .i64 r.b, .int .i64 r.v, .int .i64 r.st, .int .i64 r.k, .int .i64 r.i, .int .i64 r.f, .int .i64 r.t, .int .i64 r.a, .int .i64 r.s, .slice au r.l.length cu] 83)).alloc (.cells #[.int .i64 0, .int .i64 0, .int .i64 0, .int .i64 0, .int .i64 0, .int .i64 0, .int .i64 0, .int .i64 0, .int .i64 0, .slice none 0 0] 83)).alloc (.cells (Array.replicate m (Value.int .i64 0)) 3)) := ⟨_, rfl⟩
  have ho := box_res_row w r (.slice au r.l.length cu) 83
  have xb : Ext w wc := by rw [hwc]; exact Ext.alloc3 _ _ _ _
  have hmk := make_m m hm
  have HWC := Lib.hid hwc
  have HO := Lib.hid ho
  have HCU := Lib.hid hcu
  have HL := Lib.hid hl
  have hsz : ((w.alloc (.cells #[.int .i64 r.b, .int .i64 r.v, .int .i64 r.st, .int .i64 r.k, .int .i64 r.i, .int .i64 r.f, .int .i64 r.t, .int .i64 r.a, .int .i64 r.s, .slice au r.l.length cu] 83)).alloc (.cells #[.int .i64 0, .int .i64 0, .int .i64 0, .int .i64 0, .int .i64 0, .int .i64 0, .int .i64 0, .int .i64 0, .int .i64 0, .slice none 0 0] 83)).heap.size = w.heap.size + 2 := by simp
  have HZ := Lib.hid hsz
  have hlen0 : (r.l.length : Int) ≤ 5 := by omega
  have hcap1 : r.l.length ≤ cu := hcap.1
  clear hwc ho hcu hl hlu hcap hsz
  go_enter Tryz.func71, Tryz.ntmps71
  go_wp2_with (with_reducible refine wpList_copy_splice rfl _ _ 26 26 rfl 3 Tryz.underlying26 rfl _ _ m m r.l.length cu rfl rfl (w.heap.size + 2) 0 (List.replicate m (Value.int .i64 0)) 3 ?c1 (r.l.map (Value.int .i64)) ?c2 ?c3 ?c4 ?c5 (w.heap.size + 2) wc ?c6 (Nat.le_refl _) ?_)
  case c1 =>
    have h := heap_alloc_new ((w.alloc (.cells #[.int .i64 r.b, .int .i64 r.v, .int .i64 r.st, .int .i64 r.k, .int .i64 r.i, .int .i64 r.f, .int .i64 r.t, .int .i64 r.a, .int .i64 r.s, .slice au r.l.length cu] 83)).alloc (.cells #[.int .i64 0, .int .i64 0, .int .i64 0, .int .i64 0, .int .i64 0, .int .i64 0, .int .i64 0, .int .i64 0, .int .i64 0, .slice none 0 0] 83)) (.cells (Array.replicate m (Value.int .i64 0)) 3)
    rw [HZ.out] at h
    rw [h]
    simp
  case c2 =>
    rw [List.length_map, HL.out]
    exact (Nat.min_self m).symm
  case c3 =>
    intro hp
    have hp' : 0 < r.l.length := by simpa using hp
    obtain ⟨b, off, rfl, hc⟩ := HCU.out hp'
    refine ⟨_, rfl, fun j z hj => ?_⟩
    have hj5 : j < r.l.length := (List.getElem?_eq_some_iff.1 hj).1
    have hx := xb.cell (hc j hj5)
    rw [HWC.out] at hx
    rw [show (⟨b, off, none⟩ : Addr).add j = ⟨b, off + j, none⟩ by simp [Addr.add], hx, hj]
    rfl
  case c4 =>
    rw [List.length_map, List.length_replicate, HL.out]; omega
  case c5 =>
    intro z hz
    obtain ⟨q, _, rfl⟩ := List.mem_map.1 hz
    rfl
  case c6 => rw [HWC.out]; exact Below.refl _ _
  intro w' HG hb
  have hg := HG.out
  rw [splice_all m r.l HL.out] at hg
  have hso : w.heap.size + 2 ≤ wc.heap.size := by rw [HWC.out]; simp
  have x2 : Ext w w' := Below.trans xb (Below.mono hb (by omega))
  have hfr : Fresh (w.heap.size + 2) w' (.slice (some ⟨w.heap.size + 2, 0, none⟩) m m) r.l := by
    refine ⟨by simp, .inr ⟨w.heap.size + 2, m, (r.l.map (Value.int .i64)).toArray, by rw [HL.out], Nat.le_refl _, hg, by rw [HL.out]; exact Nat.le_refl _, by unfold maxLen; omega, by simp [HL.out], by simp [← List.map_take]⟩⟩
  have hlow : ∀ b o, b < w.heap.size + 2 → w'.cell? ⟨b, o, none⟩ = wc.cell? ⟨b, o, none⟩ := fun b o hbo => hb.cell (p := ⟨b, o, none⟩) hbo
  have hfro : ∀ b o, b < w.heap.size + 2 → w'.frozen? ⟨b, o, none⟩ = wc.frozen? ⟨b, o, none⟩ := fun b o hbo => hb.frozen (p := ⟨b, o, none⟩) hbo
  have xo : Ext ((w.alloc (.cells #[.int .i64 r.b, .int .i64 r.v, .int .i64 r.st, .int .i64 r.k, .int .i64 r.i, .int .i64 r.f, .int .i64 r.t, .int .i64 r.a, .int .i64 r.s, .slice au r.l.length cu] 83)).alloc (.cells #[.int .i64 0, .int .i64 0, .int .i64 0, .int .i64 0, .int .i64 0, .int .i64 0, .int .i64 0, .int .i64 0, .int .i64 0, .slice none 0 0] 83)) wc := by rw [HWC.out]; exact Ext.alloc1 ((w.alloc (.cells #[.int .i64 r.b, .int .i64 r.v, .int .i64 r.st, .int .i64 r.k, .int .i64 r.i, .int .i64 r.f, .int .i64 r.t, .int .i64 r.a, .int .i64 r.s, .slice au r.l.length cu] 83)).alloc (.cells #[.int .i64 0, .int .i64 0, .int .i64 0, .int .i64 0, .int .i64 0, .int .i64 0, .int .i64 0, .int .i64 0, .int .i64 0, .slice none 0 0] 83)) (.cells (Array.replicate m (Value.int .i64 0)) 3)
  obtain ⟨p0, p1, p2, p3, p4, p5, p6, p7, p8, p9⟩ := HO.out.1.1.ext xo
  obtain ⟨y0, y1, y2, y3, y4, y5, y6, y7, y8, y9⟩ := HO.out.1.2.ext (by rw [HZ.out]; omega) xo
  obtain ⟨o0, o1, o2, o3, o4, o5, o6, o7, o8, o9⟩ := HO.out.2.1.ext xo
  obtain ⟨z0, z1, z2, z3, z4, z5, z6, z7, z8, z9⟩ := HO.out.2.2.ext (by rw [HZ.out]; omega) xo
  have l0 : w.heap.size < w.heap.size + 2 := by omega
  have l1 : w.heap.size + 1 < w.heap.size + 2 := by omega
  rw [← hlow _ _ l0] at p0 p1 p2 p3 p4 p5 p6 p7 p8 p9
  rw [← hfro _ _ l0] at y0 y1 y2 y3 y4 y5 y6 y7 y8 y9
  rw [← hlow _ _ l1] at o0 o1 o2 o3 o4 o5 o6 o7 o8 o9
  rw [← hfro _ _ l1] at z0 z1 z2 z3 z4 z5 z6 z7 z8 z9
  have F := Lib.hid hfr
  clear hlow hfro hg HG hb l0 l1 hfr xo hso hmk hlen0 hcap1
  go_wp2
  refine bodyPost_ret (v := .agg #[.int .i64 r.b, .int .i64 r.v, .int .i64 r.st, .int .i64 r.k, .int .i64 r.i, .int .i64 r.f, .int .i64 r.t, .int .i64 r.a, .int .i64 r.s, .slice (some ⟨w.heap.size + 2, 0, none⟩) m m]) (by simp [results, Tryz.results71, go_sem, o0, o1, o2, o3, o4, o5, o6, o7, o8, o9]) rfl ⟨_, rfl, ?_, ?_⟩
  · exact (((((((((((F.out.set _ _ _ (by omega)).set _ _ _ (by omega)).set _ _ _ (by omega)).set _ _ _ (by omega)).set _ _ _ (by omega)).set _ _ _ (by omega)).set _ _ _ (by omega)).set _ _ _ (by omega)).set _ _ _ (by omega)).set _ _ _ (by omega)).set _ _ _ (by omega)).more (by omega)
  · exact (((((((((((x2.setc (by dsimp only; omega)).setc (by dsimp only; omega)).setc (by dsimp only; omega)).setc (by dsimp only; omega)).setc (by dsimp only; omega)).setc (by dsimp only; omega)).setc (by dsimp only; omega)).setc (by dsimp only; omega)).setc (by dsimp only; omega)).setc (by dsimp only; omega)).setc (by dsimp only; omega))

theorem copyRow_any (n : Int) (r : RowD) (u : Value) (w : World) (hn : isGrp n = true) (hv : Ints w u r.l) (hl : (r.l.length : Int) = n) :
    Calls Tryz.prog 71 #[.int .i64 n, .agg #[.int .i64 r.b, .int .i64 r.v, .int .i64 r.st, .int .i64 r.k, .int .i64 r.i, .int .i64 r.f, .int .i64 r.t, .int .i64 r.a, .int .i64 r.s, u]] w (NewRow r w) := by
  obtain ⟨m, rfl, hm⟩ := nat_of_grp hn
  exact copyRow_nat m hm r u w hv (by omega)

theorem res_row (w : World) (T : TypeId) : RowAt (w.alloc (.cells #[.int .i64 0, .int .i64 0, .int .i64 0, .int .i64 0, .int .i64 0, .int .i64 0, .int .i64 0, .int .i64 0, .int .i64 0, .slice none 0 0] T)) w.heap.size ⟨0, 0, 0, 0, 0, 0, 0, 0, 0, []⟩ (.slice none 0 0) ∧
    FreeAt (w.alloc (.cells #[.int .i64 0, .int .i64 0, .int .i64 0, .int .i64 0, .int .i64 0, .int .i64 0, .int .i64 0, .int .i64 0, .int .i64 0, .slice none 0 0] T)) w.heap.size := by
  refine ⟨⟨?_, ?_, ?_, ?_, ?_, ?_, ?_, ?_, ?_, ?_⟩, ⟨?_, ?_, ?_, ?_, ?_, ?_, ?_, ?_, ?_, ?_⟩⟩ <;> go_simp

set_option maxRecDepth 100000 in
set_option maxHeartbeats 2000000 in
theorem emptyRow_any (n : Int) (w : World) (hn : isGrp n = true) :
    Calls Tryz.prog 72 #[.int .i64 n] w (NewRow (emptyR n) w) := by
  obtain ⟨L, hL⟩ : ∃ L, L = noneL n := ⟨_, rfl⟩
  have hc := fun W => joinNone_any n W hn
  have hLE : emptyR n = ⟨0, 0, 0, 0, 0, 0, 0, 0, 0, L⟩ := by rw [hL]; rfl
  rw [← hL] at hc
  rw [hLE]
  have HC := Lib.hid hc
  have HO := Lib.hid (res_row w 83)
  clear hL hc hLE hn
  go_enter Tryz.func72, Tryz.ntmps72
  go_wp2_with fail
  refine (HC.out _).mono ?_
  rintro e w1 ⟨v, rfl, f1, x1⟩
  have hx := (Ext.alloc1 w _).trans x1
  obtain ⟨o0, o1, o2, o3, o4, o5, o6, o7, o8, o9⟩ := HO.out.1.ext x1
  obtain ⟨z0, z1, z2, z3, z4, z5, z6, z7, z8, z9⟩ := HO.out.2.ext (by simp) x1
  obtain ⟨ay, cy, rfl⟩ := f1.form
  rw [World.size_alloc] at f1
  have F := Lib.hid f1
  clear f1 x1
  go_wp2
  refine bodyPost_ret (v := .agg #[.int .i64 0, .int .i64 0, .int .i64 0, .int .i64 0, .int .i64 0, .int .i64 0, .int .i64 0, .int .i64 0, .int .i64 0, .slice ay L.length cy]) (by simp [results, Tryz.results72, go_sem, o0, o1, o2, o3, o4, o5, o6, o7, o8, o9]) rfl ⟨_, rfl, ?_, ?_⟩
  · exact ((((((((((F.out.set _ _ _ (by omega)).set _ _ _ (by omega)).set _ _ _ (by omega)).set _ _ _ (by omega)).set _ _ _ (by omega)).set _ _ _ (by omega)).set _ _ _ (by omega)).set _ _ _ (by omega)).set _ _ _ (by omega)).set _ _ _ (by omega)).more (by omega)
  · exact ((((((((((hx.setc (Nat.le_refl _)).setc (Nat.le_refl _)).setc (Nat.le_refl _)).setc (Nat.le_refl _)).setc (Nat.le_refl _)).setc (Nat.le_refl _)).setc (Nat.le_refl _)).setc (Nat.le_refl _)).setc (Nat.le_refl _)).setc (Nat.le_refl _))

end Go.Proofs.YtcpmfcigciknlaaGreat

namespace Go.Proofs.YtcpmfcigciknlaaGreat
open Go.RowKit
set_option linter.unusedVariables false

set_option maxHeartbeats 4000000 in
set_option maxRecDepth 100000 in
theorem implRowOf_any (n : Int) (u : Value) (T : List (List RowD)) (p q : Nat) (w : World) (hu : Rowzz w u T) (h1 : goodTab n T = true) (hp : p < T.length) (hq : q ≤ 5) :
    Calls Tryz.prog 38 #[.agg #[.int .i64 n, u], .int .i64 p, .int .i64 ((q : Int) + 1)] w (NewRow (rowOf n T p q) w) := by
  obtain ⟨wb, hwb⟩ : ∃ wb, wb = (w.alloc (.cells #[.int .i64 n, u] 32)).alloc (.cells #[.int .i64 0, .int .i64 0, .int .i64 0, .int .i64 0, .int .i64 0, .int .i64 0, .int .i64 0, .int .i64 0, .int .i64 0, .slice none 0 0] 83) := ⟨_, rfl⟩
  have ho := tab_res w n u 32 83
  rw [← hwb] at ho
  have xb : Ext w wb := by rw [hwb]; exact ((Ext.refl w).alloc _).alloc _
  have sb : w.heap.size + 2 ≤ wb.heap.size := by rw [hwb]; simp
  have HWB := Lib.hid hwb
  have HO := Lib.hid ho
  have SB := Lib.hid sb
  have HU := Lib.hid (hu.ext xb)
  obtain ⟨t0, t1⟩ := ho.1
  have HT := Lib.hid (And.intro t0 t1)
  clear ho sb hu
  have hgrp := (goodTab_of h1).1
  have HGRP := Lib.hid hgrp
  have hu0 := HU.out
  obtain ⟨au, cu, rfl, hlu, _, hcu⟩ := hu0
  rw [hwb] at t0 t1
  clear hwb
  unfold maxLen at hlu
  obtain ⟨bu, ou, rfl, du⟩ := hcu (by omega)
  obtain ⟨x, hx1, ix⟩ := du p hp
  obtain ⟨R, hR⟩ : ∃ R, R = T[p] := ⟨_, rfl⟩
  rw [← hR] at ix
  have IX := Lib.hid ix
  obtain ⟨ax, cx, rfl, hlx, _, hcx⟩ := ix
  unfold maxLen at hlx
  have hq0 : (q : Int) ≤ 5 := by omega
  by_cases hqt : q < R.length
  · have hqt' : q < T[p].length := by rw [← hR]; exact hqt
    have hrow := goodTab_row h1 hp hqt'
    have e : rowOf n T p q = R[q] := by rw [rowOf_in hp hqt']; simp only [hR]
    rw [e]
    obtain ⟨d, hd⟩ : ∃ d, d = R[q] := ⟨_, rfl⟩
    obtain ⟨bx, ox, rfl, dx⟩ := hcx (by omega)
    obtain ⟨y, hy1, iy⟩ := dx q hqt
    rw [← hd] at hy1 iy ⊢
    have hdl : (d.l.length : Int) = n := by
      have : d = T[p][q] := by rw [hd]; simp only [hR]
      rw [this]; exact hrow.2.1
    have HDL := Lib.hid hdl
    have IY := Lib.hid iy
    have HY := Lib.hid hy1
    have HX := Lib.hid hx1
    have gx := hx1
    rw [HWB.out] at gx
    have hq1 : (q : Int) + 1 ≤ R.length := by omega
    clear hcu du hx1 hR hcx dx iy hd hrow hqt' e hgrp h1 hdl hy1
    go_enter Tryz.func38, Tryz.ntmps38

    have X0 := Lib.hid xb
    have X1 := Lib.hid (Ext.refl wb)
    have hw : IntKind.i64.wrap ((q : Int) + 1 - 1) = (q : Int) := by rw [show (q : Int) + 1 - 1 = q by omega]; exact IntWalk.i64_in _ (by omega)
    have hw2 : IntKind.i64.wrap (q : Int) = (q : Int) := IntWalk.i64_in _ (by omega)
    have hw0 : (0 : Int) ≤ (q : Int) := by omega
    have hw1 : (q : Int) < (R.length : Int) := by omega
    clear xb
    go_wp2_with fail
    rw [← HWB.out]
    obtain ⟨t0, t1⟩ := HT.out
    obtain ⟨g0, g1, g2, g3, g4, g5, g6, g7, g8, g9⟩ := HY.out
    obtain ⟨o0, o1, o2, o3, o4, o5, o6, o7, o8, o9⟩ := HO.out.2.1
    obtain ⟨z0, z1, z2, z3, z4, z5, z6, z7, z8, z9⟩ := HO.out.2.2
    go_region_with (go_at_call 71; refine (copyRow_any n d y _ HGRP.out ((IY.out.ext X1.out).ext (by repeat (first | exact Ext.refl _ | apply Ext.drew | apply Ext.alloc))) HDL.out).mono ?_; rintro e W ⟨v, rfl, f9, x9⟩; obtain ⟨ay, cy, rfl⟩ := f9.form; have x91 := X1.out.trans (Ext.trans (Ext.drew (Ext.refl _)) x9); obtain ⟨o0, o1, o2, o3, o4, o5, o6, o7, o8, o9⟩ := HO.out.2.1.ext x91; obtain ⟨z0, z1, z2, z3, z4, z5, z6, z7, z8, z9⟩ := HO.out.2.2.ext (by have := SB.out; omega) x91)
    all_goals
      have hsz9 := X1.out.size
      have F := Lib.hid (f9.more (B' := wb.heap.size) hsz9)
      have hx := X0.out.trans (Ext.trans (Ext.drew (Ext.refl _)) x9)
      clear f9 x9 x91 t0 t1 g0 g1 g2 g3 g4 g5 g6 g7 g8 g9 hw hw2 hsz9
      go_wp2
      refine bodyPost_ret (v := .agg #[.int .i64 d.b, .int .i64 d.v, .int .i64 d.st, .int .i64 d.k, .int .i64 d.i, .int .i64 d.f, .int .i64 d.t, .int .i64 d.a, .int .i64 d.s, .slice ay d.l.length cy]) (by simp [results, Tryz.results38, go_sem, o0, o1, o2, o3, o4, o5, o6, o7, o8, o9]) rfl ⟨_, rfl, ?_, ?_⟩
      · exact ((((((((((F.out.set _ _ _ (by have := SB.out; omega)).set _ _ _ (by have := SB.out; omega)).set _ _ _ (by have := SB.out; omega)).set _ _ _ (by have := SB.out; omega)).set _ _ _ (by have := SB.out; omega)).set _ _ _ (by have := SB.out; omega)).set _ _ _ (by have := SB.out; omega)).set _ _ _ (by have := SB.out; omega)).set _ _ _ (by have := SB.out; omega)).set _ _ _ (by have := SB.out; omega)).more (by have := SB.out; omega)
      · exact ((((((((((hx.setc (by dsimp only; omega)).setc (by dsimp only; omega)).setc (by dsimp only; omega)).setc (by dsimp only; omega)).setc (by dsimp only; omega)).setc (by dsimp only; omega)).setc (by dsimp only; omega)).setc (by dsimp only; omega)).setc (by dsimp only; omega)).setc (by dsimp only; omega))
  · have e : rowOf n T p q = emptyR n := rowOf_out hp (by rw [← hR]; omega)
    rw [e]
    obtain ⟨L, hL⟩ : ∃ L, L = noneL n := ⟨_, rfl⟩
    have hLE : emptyR n = ⟨0, 0, 0, 0, 0, 0, 0, 0, 0, L⟩ := by rw [hL]; rfl
    have hc := fun W => emptyRow_any n W hgrp
    rw [hLE] at hc ⊢
    have HC := Lib.hid hc
    have HX := Lib.hid hx1
    have gx := hx1
    rw [HWB.out] at gx
    have hq1 : (R.length : Int) < (q : Int) + 1 := by omega
    clear hcu du hx1 hR hcx e hgrp h1 hL hLE hc hqt
    go_enter Tryz.func38, Tryz.ntmps38

    have X1 := Lib.hid (Ext.refl wb)
    have X0 := Lib.hid xb
    clear xb
    go_wp2_with fail
    rw [← HWB.out]
    refine (HC.out _).mono ?_
    rintro e w2 ⟨v, rfl, f2, x2⟩
    have x12 := X1.out.trans x2
    have hx := X0.out.trans x2
    obtain ⟨o0, o1, o2, o3, o4, o5, o6, o7, o8, o9⟩ := HO.out.2.1.ext x12
    obtain ⟨z0, z1, z2, z3, z4, z5, z6, z7, z8, z9⟩ := HO.out.2.2.ext (by have := SB.out; omega) x12
    obtain ⟨ay, cy, rfl⟩ := f2.form
    have F := Lib.hid (f2.more (B' := wb.heap.size) X1.out.size)
    clear f2 x2 x12 t0 t1 gx
    go_wp2
    refine bodyPost_ret (v := .agg #[.int .i64 0, .int .i64 0, .int .i64 0, .int .i64 0, .int .i64 0, .int .i64 0, .int .i64 0, .int .i64 0, .int .i64 0, .slice ay L.length cy]) (by simp [results, Tryz.results38, go_sem, o0, o1, o2, o3, o4, o5, o6, o7, o8, o9]) rfl ⟨_, rfl, ?_, ?_⟩
    · exact ((((((((((F.out.set _ _ _ (by have := SB.out; omega)).set _ _ _ (by have := SB.out; omega)).set _ _ _ (by have := SB.out; omega)).set _ _ _ (by have := SB.out; omega)).set _ _ _ (by have := SB.out; omega)).set _ _ _ (by have := SB.out; omega)).set _ _ _ (by have := SB.out; omega)).set _ _ _ (by have := SB.out; omega)).set _ _ _ (by have := SB.out; omega)).set _ _ _ (by have := SB.out; omega)).more (by have := SB.out; omega)
    · exact ((((((((((hx.setc (by dsimp only; omega)).setc (by dsimp only; omega)).setc (by dsimp only; omega)).setc (by dsimp only; omega)).setc (by dsimp only; omega)).setc (by dsimp only; omega)).setc (by dsimp only; omega)).setc (by dsimp only; omega)).setc (by dsimp only; omega)).setc (by dsimp only; omega))

end Go.Proofs.YtcpmfcigciknlaaGreat

namespace Go.Proofs.YtcpmfcigciknlaaGreat
open Go.RowKit
set_option linter.unusedVariables false

def flatEn (L : List EnD) : List Value := L.flatMap enVs
theorem flatEn_len (L : List EnD) : (flatEn L).length = L.length * 9 := by
  unfold flatEn
  induction L with
  | nil => rfl
  | cons x t ih => rw [List.flatMap_cons, List.length_append, ih, enVs_len, List.length_cons]; omega
theorem flatEn_at {L : List EnD} {j q : Nat} {v : Value} (h : j < L.length) (hq : (enVs L[j])[q]? = some v) : (flatEn L)[j * 9 + q]? = some v := by
  induction L generalizing j with
  | nil => simp at h
  | cons x t ih =>
    unfold flatEn
    rw [List.flatMap_cons]
    have hq9 : q < 9 := en_lt hq
    cases j with
    | zero =>
      rw [Nat.zero_mul, Nat.zero_add, List.getElem?_append_left (by rw [enVs_len]; exact hq9)]
      exact hq
    | succ j =>
      have h' : j < t.length := by simpa using h
      have i1 := ih h' hq
      unfold flatEn at i1
      rw [List.getElem?_append_right (by rw [enVs_len]; omega), enVs_len, show (j + 1) * 9 + q - 9 = j * 9 + q by omega]
      exact i1

/-- v is a slice of entries of a block that was made from block number B on. -/
def FreshEn (B : Nat) (w : World) (v : Value) (L : List EnD) : Prop := w.ownsRow B 79 9 v L.length (flatEn L)
theorem FreshEn.nil (B : Nat) (w : World) : FreshEn B w (.slice none 0 0) [] := ⟨rfl, .inl ⟨rfl, rfl⟩⟩
theorem FreshEn.ext {B : Nat} {w w' : World} {v : Value} {L : List EnD} (h : FreshEn B w v L) (e : Ext w w') : FreshEn B w' v L := e.ownsRow h
theorem FreshEn.at {B : Nat} {w : World} {v : Value} {L : List EnD} (h : FreshEn B w v L) : Enz w v L := by
  rcases h.2 with ⟨rfl, hn⟩ | ⟨g, cap, cur, rfl, hb, hg, hnc, hcm, hcs, htake⟩
  · obtain rfl : L = [] := List.eq_nil_of_length_eq_zero hn
    exact Enz.nil w
  · refine ⟨some ⟨g, 0, none⟩, cap, rfl, by omega, ⟨by omega, by omega, fun h => by cases h⟩, fun _ => ⟨g, 0, rfl, fun j hj => ?_⟩⟩
    rw [Nat.zero_add]
    intro q x hq
    have h9 := en_lt hq
    rw [World.ownsRow.cellAt h (j * 9 + q) (by omega)]
    exact flatEn_at hj hq

theorem Tryz.infoEntry : (Tryz.prog.info? 79).map (fun i => (i.zero, i.size, i.bytes)) = some (some (.agg #[.int .i64 0, .int .i64 0, .int .i64 0, .int .i64 0, .int .i64 0, .int .i64 0, .int .i64 0, .int .i64 0, .int .i64 0]), 9, 72) := by kernel_rfl

/-- append(s, x), s of the call's own. -/
theorem wpList_pushEn {ops : Array Oper} {rest : List Oper} {o : Oper} {a : Act} {Q : Exit → Act → World → Prop} {w : World} (hgd : o.guard = none) (s x : Operand)
    (ho : o.op = .call { callee := .builtin .append, args := #[s, x], argTypes := #[27, 27] })
    (B : Nat) (v : Value) (L : List EnD) (y : EnD) (hs : a.eval s = v) (hf : FreshEn B w v L) (g : Nat) (c : Nat) (hx : a.eval x = .slice (some ⟨g, 0, none⟩) 1 c)
    (hc : BoxV w g (enVs y)) (hl : L.length ≤ 1048576) (hB : B ≤ w.heap.size)
    (h : ∀ v' w', FreshEn B w' v' (L ++ [y]) → w.grownBy w' v.ownBlock → Kept B w w' → wpList Tryz.prog ops Q rest (a.put o.dst v') w') : wpList Tryz.prog ops Q (o :: rest) a w := by
  obtain ⟨i0, hi, hz0, hz1, hz2⟩ := info_parts Tryz.infoEntry
  refine wpList_append_own _ hgd s x 27 ho B 79 i0 (.agg #[.int .i64 0, .int .i64 0, .int .i64 0, .int .i64 0, .int .i64 0, .int .i64 0, .int .i64 0, .int .i64 0, .int .i64 0]) 9 72 Tryz.underlying27 hi hz0 hz1 hz2 rfl (by decide) v L.length _ hs hf ⟨g, 0, none⟩ 1 c (enVs y) hx rfl ?_ ?_ ?_ ?_ hB ?_
  · intro j u hj
    have := hc.cell j u hj
    by_cases h0 : j = 0
    · subst h0; simpa [Addr.add] using this
    · simpa [Addr.add, h0] using this
  · intro u hu
    simp [enVs] at hu
    rcases hu with rfl | rfl | rfl | rfl | rfl | rfl | rfl | rfl | rfl <;> rfl
  · unfold maxLen; omega
  · omega
  · intro v' w' ho' hg _
    refine h v' w' ?_ hg (fun w0 hx0 hB0 => Below.grown hx0 hg hx0.size (fun q hq => Nat.le_trans hB0 (World.ownsRow.lt hf q hq).1))
    unfold FreshEn
    have e : flatEn (L ++ [y]) = flatEn L ++ enVs y := by simp [flatEn]
    rw [e, List.length_append]
    exact ho'

/-- v is a slice of entries at the head of a block from lo on, below hi, that may be written; or nothing. -/
def EnW (lo hi : Nat) (w : World) (v : Value) (L : List EnD) : Prop :=
  ∃ g xs cap, lo ≤ g ∧ g < hi ∧ v = .slice (some ⟨g, 0, none⟩) L.length cap ∧ L.length ≤ cap ∧ cap ≤ maxLen ∧ BoxV w g xs ∧ L.length * 9 ≤ xs.length ∧ EnsTo xs L L.length
def AnsEn (lo hi : Nat) (w : World) (v : Value) (L : List EnD) : Prop := (L = [] ∧ v = .slice none 0 0) ∨ EnW lo hi w v L
theorem EnW.reads {lo hi : Nat} {w : World} {v : Value} {L : List EnD} (h : EnW lo hi w v L) : Enz w v L := by
  obtain ⟨g, xs, cap, _, _, rfl, hc, hm, hb, _, hT⟩ := h
  refine ⟨some ⟨g, 0, none⟩, _, rfl, Nat.le_trans hc hm, ⟨hc, hm, fun h => by cases h⟩, fun _ => ⟨g, 0, rfl, fun j hj => ?_⟩⟩
  rw [Nat.zero_add]; exact XEn.isIn hb (hT j hj hj)
theorem EnW.kept {lo hi : Nat} {w w' : World} {v : Value} {L : List EnD} (h : EnW lo hi w v L) (s : Stood lo hi w w') : EnW lo hi w' v L := by
  obtain ⟨g, xs, cap, hg, hh, hv, hc, hm, hb, hl, hT⟩ := h
  exact ⟨g, xs, cap, hg, hh, hv, hc, hm, hb.kept s hg hh, hl, hT⟩
theorem EnW.lt {g : Nat} {u : Value} {w : World} {L : List EnD} (h : EnW g (g + 1) w u L) : g < w.heap.size := by
  obtain ⟨g', xs, _, h1, h2, _, _, _, hb, _⟩ := h
  have := hb.lt
  omega
theorem EnzM.win {lo hi : Nat} {w : World} {v : Value} {L : List EnD} (h : EnzM lo hi w v L) : EnW lo hi w v L := by
  obtain ⟨g, xs, hg, hh, hv, hm, hb, hl, hT⟩ := h
  exact ⟨g, xs, _, hg, hh, hv, Nat.le_refl _, hm, hb, Nat.le_of_eq hl.symm, hT⟩
theorem FreshEn.ans {B : Nat} {w : World} {v : Value} {L : List EnD} (h : FreshEn B w v L) : AnsEn B w.heap.size w v L := by
  rcases h.2 with ⟨rfl, hn⟩ | ⟨g, cap, cur, rfl, hb, hg, hnc, hcm, hcs, htake⟩
  · obtain rfl : L = [] := List.eq_nil_of_length_eq_zero hn
    exact .inl ⟨rfl, rfl⟩
  · have hlt := (World.ownsRow.lt h g rfl).2
    refine .inr ⟨g, flatEn L, cap, hb, hlt, rfl, hnc, by omega, ⟨fun j v hj => ?_, fun j hj => h.frozenAt j, hlt⟩, Nat.le_of_eq (flatEn_len L).symm, fun j hj _ q v hq => flatEn_at hj hq⟩
    rw [World.ownsRow.cellAt h j (by have := (List.getElem?_eq_some_iff.1 hj).1; rw [flatEn_len] at this; omega)]
    exact hj
theorem AnsEn.reads {lo hi : Nat} {w : World} {v : Value} {L : List EnD} (h : AnsEn lo hi w v L) : Enz w v L := by
  rcases h with ⟨rfl, rfl⟩ | h
  · exact Enz.nil w
  · exact h.reads
theorem AnsEn.kept {lo hi : Nat} {w w' : World} {v : Value} {L : List EnD} (h : AnsEn lo hi w v L) (s : Stood lo hi w w') : AnsEn lo hi w' v L := by
  rcases h with h | h
  · exact .inl h
  · exact .inr (h.kept s)
end Go.Proofs.YtcpmfcigciknlaaGreat

namespace Go.Proofs.YtcpmfcigciknlaaGreat
open Go.RowKit
set_option linter.unusedVariables false

/-- From q0 on the cells of vs stand in ys, from o on. -/
def RestX (ys : List Value) (o q0 : Nat) (vs : List Value) : Prop := ∀ q v, q0 ≤ q → vs[q]? = some v → ys[o + q]? = some v
theorem RestX.put {ys vs ms : List Value} {o q0 p q1 : Nat} (h : RestX ys o q0 vs) (h0 : q0 ≤ q1) (h1 : p + ms.length ≤ o + q1) : RestX (putL ys p ms) o q1 vs := fun q v hq hv => by
  rw [putL_out _ _ _ _ (by omega)]
  exact h q v (by omega) hv
/-- But from a on, below b, the lists are one. -/
def KeptX (ys zs : List Value) (a b : Nat) : Prop := zs.length = ys.length ∧ ∀ q, (q < a ∨ b ≤ q) → zs[q]? = ys[q]?
theorem KeptX.refl (ys : List Value) (a b : Nat) : KeptX ys ys a b := ⟨rfl, fun _ _ => rfl⟩
theorem KeptX.put {ys zs ms : List Value} {a b p : Nat} (h : KeptX ys zs a b) (h1 : a ≤ p) (h2 : p + ms.length ≤ b) : KeptX ys (putL zs p ms) a b :=
  ⟨by rw [putL_len]; exact h.1, fun q hq => by rw [putL_out _ _ _ _ (by omega)]; exact h.2 q hq⟩
theorem BoxV.ins' {lo hi : Nat} {w w' : World} {b : Nat} {vs : List Value} (h : BoxV w b vs) (k : Ins lo hi w w') (hb : b < lo ∨ hi ≤ b) : BoxV w' b vs :=
  ⟨fun j v hj => k.cell (h.cell j v hj) hb, fun j hj => by
    have := h.free j hj
    unfold World.frozen? at this ⊢
    rw [k.block b h.lt hb]
    exact this, Nat.lt_of_lt_of_le h.lt k.size⟩
/-- Marks were laid, so many at most, between two blocks. -/
def MarkUp (lo hi : Nat) (k : Int) (n : Nat) (w : World) (e : Ending) (w' : World) : Prop := ∃ k' : Int, e = .returned (.int .i64 k') ∧ k ≤ k' ∧ k' ≤ k + 16 * (n : Int) ∧ Ins lo hi w w'
end Go.Proofs.YtcpmfcigciknlaaGreat

namespace Go.Proofs.YtcpmfcigciknlaaGreat
open Go.RowKit
set_option linter.unusedVariables false

/-- The marks k, k + 1, .., nine for each. -/
def marksE (k : Int) (n : Nat) : List EnD := (List.range n).map fun (j : Nat) => ⟨k + 9 * (j : Int), k + 9 * (j : Int) + 1, k + 9 * (j : Int) + 2, k + 9 * (j : Int) + 3, k + 9 * (j : Int) + 4, k + 9 * (j : Int) + 5, k + 9 * (j : Int) + 6, k + 9 * (j : Int) + 7, k + 9 * (j : Int) + 8⟩
theorem marksE_len (k : Int) (n : Nat) : (marksE k n).length = n := by simp [marksE]
theorem marksE_at {k : Int} {n j : Nat} (h : j < (marksE k n).length) : (marksE k n)[j] = ⟨k + 9 * (j : Int), k + 9 * (j : Int) + 1, k + 9 * (j : Int) + 2, k + 9 * (j : Int) + 3, k + 9 * (j : Int) + 4, k + 9 * (j : Int) + 5, k + 9 * (j : Int) + 6, k + 9 * (j : Int) + 7, k + 9 * (j : Int) + 8⟩ := by simp [marksE]
theorem marksE_one {k m : Int} {n j : Nat} (h : j < (marksE k n).length) (hm : m = k + 9 * (j : Int)) : (marksE k n)[j] = ⟨m, m + 1, m + 1 + 1, m + 1 + 1 + 1, m + 1 + 1 + 1 + 1, m + 1 + 1 + 1 + 1 + 1, m + 1 + 1 + 1 + 1 + 1 + 1, m + 1 + 1 + 1 + 1 + 1 + 1 + 1, m + 1 + 1 + 1 + 1 + 1 + 1 + 1 + 1⟩ := by
  rw [marksE_at, ← hm]
  simp only [EnD.mk.injEq]
  refine ⟨?_, ?_, ?_, ?_, ?_, ?_, ?_, ?_, ?_⟩ <;> first | trivial | omega
theorem ensTo_put {k : Nat} {xs : List Value} {L : List EnD} (h : EnsTo xs L k) (hk : k < L.length) (hl : L.length * 9 ≤ xs.length) : EnsTo (putL xs (k * 9) (enVs L[k])) L (k + 1) := by
  intro j hj hjk
  by_cases e : j = k
  · subst e
    exact XEn.put (by omega)
  · exact XEn.put_other (h j hj (by omega)) (enVs_len _) (by omega)

set_option maxHeartbeats 4000000 in
set_option maxRecDepth 100000 in
theorem markEnS_any (lo hi : Nat) (v : Value) (L : List EnD) (k : Int) (w : World) (hv : EnW lo hi w v L) (h0 : 0 ≤ k) (h1 : k ≤ 1099511627776) (h2 : L.length ≤ 1048576) :
    Calls Tryz.prog 16 #[v, .int .i64 k] w (fun e w' => e = .returned (.int .i64 (k + 9 * (L.length : Int))) ∧ EnW lo hi w' v (marksE k L.length) ∧ Ins lo hi w w') := by
  obtain ⟨g, xs0, cap, hg, hgh, rfl, hcp, hm, hb, hl0, hT⟩ := hv
  have HG := Lib.hid (And.intro hg hgh)
  have HB0 := Lib.hid hb
  have HM := Lib.hid (And.intro hcp hm)
  clear hb hT hg hgh hm hcp
  obtain ⟨n, hn⟩ : ∃ n, n = L.length := ⟨_, rfl⟩
  rw [← hn] at hl0 h2 HM ⊢
  clear hn
  go_enter Tryz.func16, Tryz.ntmps16
  go_wp2
  go_loopw [1, 5] (fun m i wr => ∃ (j : Nat) (ys : List Value), j ≤ n ∧ i = .int .i64 j ∧ m = .int .i64 (k + 9 * (j : Int)) ∧ Hid (BoxV wr g ys) ∧ n * 9 ≤ ys.length ∧ Hid (EnsTo ys (marksE k n) j) ∧ Hid (Ins lo hi w wr)) (fun _ i _ => n - (intOf i).toNat)
  case atStart => exact ⟨0, xs0, Nat.zero_le _, rfl, by simp, HB0, hl0, Lib.hid (fun j _ h => by omega), Lib.hid (Ins.refl _ _ _)⟩
  case round =>
    clear HB0 hl0
    obtain ⟨j, ys, hj, rfl, rfl, hB, hl, hT, hI⟩ := hrel
    by_cases hlt : j < n
    · have hjn : j * 9 + 9 ≤ ys.length := by omega
      obtain ⟨o0, c0⟩ : ∃ v, wr.cell? ⟨g, j * 9, none⟩ = some v := ⟨_, hB.out.cell (j * 9) _ (List.getElem?_eq_getElem (by omega))⟩
      have n0 := hB.out.free (j * 9) (by omega)
      obtain ⟨o1, c1⟩ : ∃ v, wr.cell? ⟨g, j * 9 + 1, none⟩ = some v := ⟨_, hB.out.cell (j * 9 + 1) _ (List.getElem?_eq_getElem (by omega))⟩
      have n1 := hB.out.free (j * 9 + 1) (by omega)
      obtain ⟨o2, c2⟩ : ∃ v, wr.cell? ⟨g, j * 9 + 2, none⟩ = some v := ⟨_, hB.out.cell (j * 9 + 2) _ (List.getElem?_eq_getElem (by omega))⟩
      have n2 := hB.out.free (j * 9 + 2) (by omega)
      obtain ⟨o3, c3⟩ : ∃ v, wr.cell? ⟨g, j * 9 + 3, none⟩ = some v := ⟨_, hB.out.cell (j * 9 + 3) _ (List.getElem?_eq_getElem (by omega))⟩
      have n3 := hB.out.free (j * 9 + 3) (by omega)
      obtain ⟨o4, c4⟩ : ∃ v, wr.cell? ⟨g, j * 9 + 4, none⟩ = some v := ⟨_, hB.out.cell (j * 9 + 4) _ (List.getElem?_eq_getElem (by omega))⟩
      have n4 := hB.out.free (j * 9 + 4) (by omega)
      obtain ⟨o5, c5⟩ : ∃ v, wr.cell? ⟨g, j * 9 + 5, none⟩ = some v := ⟨_, hB.out.cell (j * 9 + 5) _ (List.getElem?_eq_getElem (by omega))⟩
      have n5 := hB.out.free (j * 9 + 5) (by omega)
      obtain ⟨o6, c6⟩ : ∃ v, wr.cell? ⟨g, j * 9 + 6, none⟩ = some v := ⟨_, hB.out.cell (j * 9 + 6) _ (List.getElem?_eq_getElem (by omega))⟩
      have n6 := hB.out.free (j * 9 + 6) (by omega)
      obtain ⟨o7, c7⟩ : ∃ v, wr.cell? ⟨g, j * 9 + 7, none⟩ = some v := ⟨_, hB.out.cell (j * 9 + 7) _ (List.getElem?_eq_getElem (by omega))⟩
      have n7 := hB.out.free (j * 9 + 7) (by omega)
      obtain ⟨o8, c8⟩ : ∃ v, wr.cell? ⟨g, j * 9 + 8, none⟩ = some v := ⟨_, hB.out.cell (j * 9 + 8) _ (List.getElem?_eq_getElem (by omega))⟩
      have n8 := hB.out.free (j * 9 + 8) (by omega)
      obtain ⟨m, hm⟩ : ∃ m, m = k + 9 * (j : Int) := ⟨_, rfl⟩
      rw [← hm]
      have hm0 : 0 ≤ m := by omega
      have hm1 : m ≤ 1099521069056 := by omega
      have HMM := Lib.hid hm
      have HD := Lib.hid (marksE_one (k := k) (n := n) (j := j) (by rw [marksE_len]; exact hlt) hm)
      clear hm
      go_wp2
      go_roundw
      case rel =>
        refine ⟨j + 1, putL ys (j * 9) (enVs ⟨m, m + 1, m + 1 + 1, m + 1 + 1 + 1, m + 1 + 1 + 1 + 1, m + 1 + 1 + 1 + 1 + 1, m + 1 + 1 + 1 + 1 + 1 + 1, m + 1 + 1 + 1 + 1 + 1 + 1 + 1, m + 1 + 1 + 1 + 1 + 1 + 1 + 1 + 1⟩), by omega, by go_num, by have := HMM.out; go_num, Lib.hid ?_, by rw [putL_len]; exact hl, Lib.hid ?_, Lib.hid ?_⟩
        · exact boxV_puts (enVs ⟨m, m + 1, m + 1 + 1, m + 1 + 1 + 1, m + 1 + 1 + 1 + 1, m + 1 + 1 + 1 + 1 + 1, m + 1 + 1 + 1 + 1 + 1 + 1, m + 1 + 1 + 1 + 1 + 1 + 1 + 1, m + 1 + 1 + 1 + 1 + 1 + 1 + 1 + 1⟩) (j * 9) _ _ hB.out (by rw [enVs_len]; omega)
        · rw [← HD.out]
          exact ensTo_put hT.out (by rw [marksE_len]; exact hlt) (by rw [marksE_len]; exact hl)
        · exact hI.out.trans ((ins_puts (lo := g) (hi := g + 1) (Nat.le_refl _) (Nat.lt_succ_self _) (enVs ⟨m, m + 1, m + 1 + 1, m + 1 + 1 + 1, m + 1 + 1 + 1 + 1, m + 1 + 1 + 1 + 1 + 1, m + 1 + 1 + 1 + 1 + 1 + 1, m + 1 + 1 + 1 + 1 + 1 + 1 + 1, m + 1 + 1 + 1 + 1 + 1 + 1 + 1 + 1⟩) (j * 9) wr).more HG.out.1 HG.out.2)
      case measure => simp [intOf]; omega
    · obtain rfl : j = n := by omega
      go_wp2
      go_ret
      refine ⟨rfl, ⟨g, ys, cap, HG.out.1, HG.out.2, by rw [marksE_len], by rw [marksE_len]; exact HM.out.1, HM.out.2, hB.out, by rw [marksE_len]; exact hl, ?_⟩, hI.out⟩
      rw [marksE_len]
      exact hT.out

set_option maxHeartbeats 2000000 in
set_option maxRecDepth 100000 in
theorem heldEnS_yes (v : Value) (n : Nat) (k : Int) (w : World) (hv : Enz w v (marksE k n)) (h0 : 0 ≤ k) (h1 : k ≤ 1099511627776) (h2 : n ≤ 1048576) :
    Calls Tryz.prog 18 #[v, .int .i64 k] w (IntExt (k + 9 * (n : Int)) w) := by
  obtain ⟨av, cv, rfl, hlv, _, hcv⟩ := hv
  have hl := marksE_len k n
  rw [hl]
  clear hlv
  go_enter Tryz.func18, Tryz.ntmps18
  go_wp2
  go_loopw [1, 5] (fun m i wr => ∃ j : Nat, j ≤ n ∧ i = .int .i64 j ∧ m = .int .i64 (k + 9 * (j : Int)) ∧ Ext w wr) (fun _ i _ => n - (intOf i).toNat)
  case atStart => exact ⟨0, Nat.zero_le _, rfl, by simp, Ext.refl _⟩
  case round =>
    obtain ⟨j, hj, rfl, rfl, hx⟩ := hrel
    by_cases hlt : j < n
    · obtain ⟨b, off, rfl, dv⟩ := hcv (by rw [hl]; omega)
      have hd := dv j (by rw [marksE_len]; exact hlt)
      obtain ⟨m, hm⟩ : ∃ m, m = k + 9 * (j : Int) := ⟨_, rfl⟩
      rw [marksE_one (by rw [marksE_len]; exact hlt) hm] at hd
      rw [← hm]
      have hm0 : 0 ≤ m := by omega
      have hm1 : m ≤ 1099521069056 := by omega
      obtain ⟨c0, c1, c2, c3, c4, c5, c6, c7, c8⟩ := enIn_cells (hd.ext hx)
      dsimp only at c0 c1 c2 c3 c4 c5 c6 c7 c8
      have HMM := Lib.hid hm
      clear hcv dv hd hm
      have e0 : (m != m) = false := by simp
      have e1 : (m + 1 != m + 1) = false := by simp
      have e2 : (m + 1 + 1 != m + 1 + 1) = false := by simp
      have e3 : (m + 1 + 1 + 1 != m + 1 + 1 + 1) = false := by simp
      have e4 : (m + 1 + 1 + 1 + 1 != m + 1 + 1 + 1 + 1) = false := by simp
      have e5 : (m + 1 + 1 + 1 + 1 + 1 != m + 1 + 1 + 1 + 1 + 1) = false := by simp
      have e6 : (m + 1 + 1 + 1 + 1 + 1 + 1 != m + 1 + 1 + 1 + 1 + 1 + 1) = false := by simp
      have e7 : (m + 1 + 1 + 1 + 1 + 1 + 1 + 1 != m + 1 + 1 + 1 + 1 + 1 + 1 + 1) = false := by simp
      have e8 : (m + 1 + 1 + 1 + 1 + 1 + 1 + 1 + 1 != m + 1 + 1 + 1 + 1 + 1 + 1 + 1 + 1) = false := by simp
      go_wp2
      go_roundw
      case rel => exact ⟨j + 1, by omega, by go_num, by have := HMM.out; go_num, hx⟩
      case measure => simp [intOf]; omega
    · obtain rfl : j = n := by omega
      go_wp2
      go_ret
      exact ⟨rfl, hx⟩

theorem ansEn_mark {lo hi : Nat} {v : Value} {L : List EnD} {k : Int} {w : World} (hv : AnsEn lo hi w v L) (h0 : 0 ≤ k) (h1 : k ≤ 1099511627776) (h2 : L.length ≤ 1048576) :
    Calls Tryz.prog 16 #[v, .int .i64 k] w (fun e w' => e = .returned (.int .i64 (k + 9 * (L.length : Int))) ∧ AnsEn lo hi w' v (marksE k L.length) ∧ Ins lo hi w w') := by
  rcases hv with ⟨rfl, rfl⟩ | h
  · go_enter Tryz.func16, Tryz.ntmps16
    go_wp2
    refine wp_loop_rounds 1 ?_; rw [rounds_succ]
    go_wp2
    go_ret
    exact ⟨by simp, .inl ⟨rfl, rfl⟩, Ins.refl _ _ _⟩
  · refine (markEnS_any lo hi v L k w h h0 h1 h2).mono ?_
    rintro e w' ⟨rfl, a, b⟩
    exact ⟨rfl, .inr a, b⟩
end Go.Proofs.YtcpmfcigciknlaaGreat

namespace Go.Proofs.YtcpmfcigciknlaaGreat
open Go.RowKit
set_option linter.unusedVariables false

/-- An answer's entries lie in a block of its own, apart from v's, or it is nothing. -/
def EnApart (n0 : Nat) (v u : Value) (w : World) (D : List EnD) : Prop := (D = [] ∧ u = .slice none 0 0) ∨ ∃ g, v.ownBlock ≠ some g ∧ n0 ≤ g ∧ EnW g (g + 1) w u D
theorem EnApart.reads {n0 : Nat} {v u : Value} {w : World} {D : List EnD} (h : EnApart n0 v u w D) : Enz w u D := by
  rcases h with ⟨rfl, rfl⟩ | ⟨g, _, _, h⟩
  · exact Enz.nil w
  · exact h.reads
theorem EnApart.ext {n0 : Nat} {v u : Value} {w w' : World} {D : List EnD} (h : EnApart n0 v u w D) (e : Ext w w') : EnApart n0 v u w' D := by
  rcases h with h | ⟨g, h1, h2, h3⟩
  · exact .inl h
  · exact .inr ⟨g, h1, h2, h3.kept (Stood.of_ext e (by have := EnW.lt h3; omega))⟩
theorem EnApart.grown {n0 : Nat} {v u : Value} {w w' : World} {D : List EnD} (h : EnApart n0 v u w D) (t : w.grownBy w' v.ownBlock) : EnApart n0 v u w' D := by
  rcases h with h | ⟨g, h1, h2, h3⟩
  · exact .inl h
  · have hlt := EnW.lt h3
    exact .inr ⟨g, h1, h2, h3.kept ⟨t.size, fun b hb1 hb2 => t.block b (by omega) (fun e => h1 (by rw [← e]; exact congrArg some (by omega)))⟩⟩
theorem EnApart.other {n0 : Nat} {v u : Value} {w w' : World} {D : List EnD} {r : Option Nat} (h : EnApart n0 v u w D) (t : w.grownBy w' r) (hr : ∀ q, r = some q → q < n0) : EnApart n0 v u w' D := by
  rcases h with h | ⟨g, h1, h2, h3⟩
  · exact .inl h
  · have hlt := EnW.lt h3
    exact .inr ⟨g, h1, h2, h3.kept ⟨t.size, fun b hb1 hb2 => t.block b (by omega) (fun e => by have := hr b e.symm; omega)⟩⟩
theorem EnApart.ins {n0 lo hi : Nat} {v u : Value} {w w' : World} {D : List EnD} (h : EnApart n0 v u w D) (t : Ins lo hi w w') (hr : hi ≤ n0) : EnApart n0 v u w' D := by
  rcases h with h | ⟨g, h1, h2, h3⟩
  · exact .inl h
  · have hlt := EnW.lt h3
    exact .inr ⟨g, h1, h2, h3.kept (t.stood (by omega) (.inr (by omega)))⟩
theorem enApart_mark {n0 : Nat} {v u : Value} {D : List EnD} {k : Int} {w : World} (hv : EnApart n0 v u w D) (h0 : 0 ≤ k) (h1 : k ≤ 1099511627776) (h2 : D.length ≤ 1048576) :
    Calls Tryz.prog 16 #[u, .int .i64 k] w (fun e w' => e = .returned (.int .i64 (k + 9 * (D.length : Int))) ∧ EnApart n0 v u w' (marksE k D.length) ∧ ∃ r, w.grownBy w' r ∧ (∀ q, r = some q → n0 ≤ q) ∧ (v.ownBlock = none ∨ v.ownBlock ≠ r)) := by
  rcases hv with ⟨rfl, rfl⟩ | ⟨g, a, b, c⟩
  · refine (ansEn_mark (lo := 0) (hi := 0) (k := k) (w := w) (.inl ⟨rfl, rfl⟩) h0 h1 h2).mono ?_
    rintro e w' ⟨rfl, _, i⟩
    refine ⟨rfl, .inl ⟨by simp [marksE], rfl⟩, none, ⟨i.os, i.tape, i.output, i.size, fun b hb _ => i.block b hb (.inr (Nat.zero_le _))⟩, fun q h => (by cases h), ?_⟩
    cases v.ownBlock with
    | none => exact .inl rfl
    | some q => exact .inr (by simp)
  · refine (markEnS_any g (g + 1) u D k w c h0 h1 h2).mono ?_
    rintro e w' ⟨rfl, m, i⟩
    refine ⟨rfl, .inr ⟨g, a, b, m⟩, some g, ⟨i.os, i.tape, i.output, i.size, fun q hq hne => i.block q hq (by have : q ≠ g := fun e => hne (by rw [e]); omega)⟩, fun q h => (by cases h; exact b), .inr a⟩
end Go.Proofs.YtcpmfcigciknlaaGreat

namespace Go.Proofs.YtcpmfcigciknlaaGreat
open Go.RowKit Go.Maps
set_option linter.unusedVariables false

theorem pairs_len (T : List (List RowD)) : ((insts T).map pairOf).length = (insts T).length := by simp
theorem pair_at {w : World} {v : Value} {x : Nat × Nat} (h : Ints w v (pairOf x)) : ∃ b o c, v = .slice (some ⟨b, o, none⟩) 2 c ∧ w.cell? ⟨b, o, none⟩ = some (.int .i64 x.1) ∧ w.cell? ⟨b, o + 1, none⟩ = some (.int .i64 ((x.2 : Int) + 1)) := by
  obtain ⟨a, c, rfl, _, _, hc⟩ := h
  have hl : (pairOf x).length = 2 := rfl
  have h0 : 0 < (pairOf x).length := by omega
  have h1 : 1 < (pairOf x).length := by omega
  obtain ⟨b, o, rfl, hk⟩ := hc h0
  have z0 := hk 0 h0
  have z1 := hk 1 h1
  exact ⟨b, o, c, rfl, z0, z1⟩

end Go.Proofs.YtcpmfcigciknlaaGreat
