/- Contract of impl.groupsOf. -/
import Derived.Test.YtnmnbeklofnonaaTsFrom
import Derived.Test.YtnmnbeklofnonaaGroups2
import Derived.Deep.WholeRow
namespace Go.Proofs.Ytnmnbeklofnonaa
open Go.RowKit
set_option linter.unusedVariables false

def GroupsOf (g : List (List Int)) (w : World) (e : Ending) (w' : World) : Prop := ∃ v vs L, e = .returned v ∧ FreshV w.heap.size w' v vs ∧ Rows_ w.heap.size w' vs L ∧ Ext w w' ∧ Told g L

set_option maxRecDepth 100000 in
theorem tsStart_cells (gv : Value) : Try.zeroCells130.toList.set 0 gv = tsCells gv (.slice none 0 0) (.slice none 0 0) tsStart := by
  unfold Try.zeroCells130 tsCells
  rfl
theorem info_ts : (Try.prog.info? 130).map (·.size) = some 164 := by kernel_rfl
theorem store_start (w : World) (gv : Value) (h1 : gv.oneCell' = true) :
    Sem.run Try.prog (storeCells ⟨w.heap.size, 0, none⟩ (Try.zeroCells130.toList.set 0 gv)) (w.alloc (.cells Try.zeroCells130 130)) = .ok () (w.alloc (.cells (tsCells gv (.slice none 0 0) (.slice none 0 0) tsStart).toArray 130)) := by
  rw [tsStart_cells]
  have hz : Try.zeroCells130.size = (tsCells gv (.slice none 0 0) (.slice none 0 0) tsStart).toArray.size := by
    rw [show (tsCells gv (.slice none 0 0) (.slice none 0 0) tsStart).toArray.size = 164 by rw [List.size_toArray, tsCells_len]]; rfl
  refine run_storeCells_new (P := Try.prog) w 130 Try.zeroCells130 (tsCells gv (.slice none 0 0) (.slice none 0 0) tsStart).toArray ?_ hz ?_
  · rw [List.size_toArray, tsCells_len]; exact info_ts
  · rw [Array.all_eq_true]
    intro i hi
    rw [List.size_toArray, tsCells_len] at hi
    have : (tsCells gv (.slice none 0 0) (.slice none 0 0) tsStart).toArray[i]? = some (tsCell gv (.slice none 0 0) (.slice none 0 0) tsStart i) := by
      rw [List.getElem?_toArray]; exact tsCells_get _ _ _ _ hi
    rw [Array.getElem?_eq_getElem (by rw [List.size_toArray, tsCells_len]; exact hi)] at this
    rw [Option.some.inj this]
    unfold tsCell
    split
    · split
      · exact h1
      · split <;> rfl
    · split
      · rfl
      · split
        · rfl
        · split
          · rfl
          · split <;> rfl

theorem Inv.told {g : List (List Int)} {S : TS} (h : Inv g S []) (hc : Cnt g S) (ha : ∀ q : Nat, q < g.length → S.N q ≠ 0) : Told g S.grp := by
  have hno : ∀ q, S.op q = false := fun q => by
    cases e : S.op q with
    | false => rfl
    | true => obtain ⟨p, hp, _⟩ := h.root q e; simp at hp
  refine ⟨fun G hG => ?_, fun q hq => h.cov q (ha q hq) (hno q), h.apart, ?_⟩
  · obtain ⟨k, hk, e, _⟩ := h.grp G hG
    exact ⟨k, hk, e⟩
  · have := hc.some; have := hc.all; omega

theorem GoS.start {X : Nat} {w : World} {gv : Value} (hX : w.heap.size = X) : GoS (X + 1) X w gv (w.alloc (.cells (tsCells gv (.slice none 0 0) (.slice none 0 0) tsStart).toArray 130)) tsStart [] (.slice none 0 0) := by
  subst hX
  refine ⟨.slice none 0 0, .slice none 0 0, [], ⟨?_, fresh_nil _ _, FreshV.nil _ _, Rows_.nil _ _, fun j u hu => by simp at hu⟩, fresh_nil _ _, .inl rfl, fun j u hu => by simp at hu, Ext.alloc (Ext.refl _) _, by simp⟩
  unfold TsAt
  exact heap_alloc_last w _

set_option maxRecDepth 100000 in
set_option maxHeartbeats 4000000 in
theorem groupsOf_any (hsort : SortOk) (g : List (List Int)) (hg : rowsB g = true) (hl : g.length ≤ 40) (gv : Value) (w : World) (hgv : Intss w gv g) :
    Calls Try.prog 102 #[gv] w (GroupsOf g w) := by
  have HGV := Lib.hid hgv
  obtain ⟨av, cv, rfl, hlv, _, _⟩ := hgv
  unfold maxLen at hlv
  go_enter Try.func102, Try.ntmps102
  have hst := fun W : World => store_start W (.slice av g.length cv) rfl
  obtain ⟨X, hX⟩ : ∃ X, w.heap.size = X := ⟨_, rfl⟩
  have hG0 := Lib.hid (GoS.start (gv := .slice av g.length cv) hX)
  have HX := Lib.hid hX
  clear hX
  go_wp2_with fail
  clear hst
  rw [HX.out]
  have hX := HX.out
  obtain ⟨W0, hW0⟩ : ∃ W0, W0 = w.alloc (.cells (tsCells (.slice av g.length cv) (.slice none 0 0) (.slice none 0 0) tsStart).toArray 130) := ⟨_, rfl⟩
  rw [← hW0]
  have hG : Hid (GoS (X + 1) X w (.slice av g.length cv) W0 tsStart [] (.slice none 0 0)) := Lib.hid (by rw [hW0]; exact hG0.out)
  clear hW0 hG0
  go_loopw [4, 9] (fun _ i wr => ∃ (k : Nat) (S : TS) (wv : Value), k ≤ g.length ∧ i = .int .i64 k ∧ Hid (Inv g S [] ∧ Cnt g S ∧ ∀ q : Nat, q < k → S.N q ≠ 0) ∧ Hid (GoS (X + 1) X w (.slice av g.length cv) wr S [] wv)) (fun _ i _ => g.length - (intOf i).toNat)
  case atStart => exact ⟨0, tsStart, _, Nat.zero_le _, rfl, Lib.hid ⟨Inv.start g, ⟨by simp [tsStart], by simp [tsStart, unmet_start]⟩, fun q hq => by omega⟩, hG⟩
  case round =>
    clear hG
    obtain ⟨k, S, wv, hk, rfl, hI, hG⟩ := hrel
    obtain ⟨grv, ov, vs, hm, _, _, _, hx, _⟩ := id hG.out
    by_cases hlt : k < g.length
    · have hk40 : k < 40 := by omega
      have z1 := hm.ts.metAs hk40
      have i0 : (0 : Int) ≤ (k : Int) := by omega
      have i1 : (k : Int) < 40 := by omega
      clear hm hx
      by_cases hN : S.N k = 0
      · have e1 : ((S.N k : Int) == 0) = true := by rw [hN]; rfl
        go_wp2_with fail
        refine (goFrom_any hsort g hg hl S k (X + 1) X w _ wv HGV.out (Nat.lt_succ_self X) (by omega) wr hI.out.1 hI.out.2.1 hlt hN hG.out).mono ?_
        rintro e W1 ⟨⟨r, rfl⟩, S1, wv1, i2, f1, n1, g1⟩
        go_wp2
        go_roundw
        case rel => exact ⟨k + 1, S1, wv1, by omega, by go_num, Lib.hid ⟨i2, f1.cnt, fun q hq => by
            by_cases e : q = k
            · subst e; exact n1
            · exact f1.mon q (hI.out.2.2 q (by omega))⟩, Lib.hid g1⟩
        case measure => simp [intOf]; omega
      · have e1 : ((S.N k : Int) == 0) = false := by simp [hN]
        go_wp2
        go_roundw
        case rel => exact ⟨k + 1, S, wv, by omega, by go_num, Lib.hid ⟨hI.out.1, hI.out.2.1, fun q hq => by
            by_cases e : q = k
            · subst e; exact hN
            · exact hI.out.2.2 q (by omega)⟩, hG⟩
        case measure => simp [intOf]; omega
    · obtain rfl : k = g.length := by omega
      have z1 := hm.ts.groups
      have hgr := hm.grp
      have hro := hm.rows
      clear hm
      go_wp2
      go_ret
      exact ⟨grv, vs, S.grp, rfl, hgr.more (by omega), hro.more (by omega), hx, hI.out.1.told hI.out.2.1 hI.out.2.2⟩

end Go.Proofs.Ytnmnbeklofnonaa
