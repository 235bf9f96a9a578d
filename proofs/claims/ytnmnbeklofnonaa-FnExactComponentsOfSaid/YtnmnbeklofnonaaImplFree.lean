/- Contract of the program's isFree. -/
import Derived.Test.YtnmnbeklofnonaaGroups2
import Derived.Test.YtnmnbeklofnonaaLedAt
import Derived.Test.YtnmnbeklofnonaaSS
import Derived.Test.YtnmnbeklofnonaaContains
import Derived.Deep.WholeRow
namespace Go.Proofs.Ytnmnbeklofnonaa
open Go.RowKit
set_option linter.unusedVariables false

/-- The marks that a list of truths holds. -/
def tbOf (bs : List Bool) (q : Nat) : Bool := bs[q]?.getD false

set_option maxRecDepth 100000 in
set_option maxHeartbeats 4000000 in
theorem isFree_any (gv Gv : Value) (g : List (List Int)) (G : List Int) (bs : List Bool) (hbs : bs.length = 40) (w : World) (hgv : Intss w gv g) (hGv : Ints w Gv G) (hg : rowsB g = true) (hl : g.length ≤ 40) (hG : ∀ p ∈ G, 0 ≤ p ∧ p < (g.length : Int)) :
    Calls Try.prog 107 #[gv, Gv, .agg (marksB bs)] w (BoolExt (isFreeB g G (tbOf bs)) w) := by
  have HGV := Lib.hid hgv
  have HG := Lib.hid hGv
  obtain ⟨av, cv, rfl, hlv, _, dv⟩ := hgv
  obtain ⟨aG, cG, rfl, hlG, _, dG⟩ := hGv
  unfold maxLen at hlv hlG
  have DV := Lib.hid dv
  have DG := Lib.hid dG
  have HGI := Lib.hid hG
  have HRW := Lib.hid hg
  have HBS := Lib.hid hbs
  clear dv dG hG hg hbs
  go_enter Try.func107, Try.ntmps107
  go_wp2
  obtain ⟨wb, hwb⟩ : ∃ x : World, x = w.alloc (.cells (marksB bs) 90) := ⟨_, rfl⟩
  have hxb : Ext w wb := by rw [hwb]; exact Ext.alloc (Ext.refl _) _
  have hbk : wb.heap[w.heap.size]? = some (.cells (marksB bs) 90 (0, 0)) := by rw [hwb]; exact heap_alloc_last w _
  have hmk : ∀ q : Nat, q < 40 → wb.cell? ⟨w.heap.size, q, none⟩ = some (.bool (tbOf bs q)) := fun q hq => by
    have hlt : q < bs.length := by rw [HBS.out]; exact hq
    rw [cell_of_row wb _ _ _ _ _ hbk, marksB_get, List.getElem?_eq_getElem hlt]
    simp [tbOf, hlt]
  have HXB := Lib.hid hxb
  have HMK := Lib.hid hmk
  rw [← hwb]
  clear hwb hxb hbk hmk
  go_loopw [8, 10, 13] (fun _ _ i wr => ∃ s : Nat, s ≤ G.length ∧ i = .int .i64 s ∧ Hid (∀ p ∈ G.take s, (rowG g p).all (fun o => tbOf bs o.toNat || hasI G o) = true) ∧ Ext wb wr) (fun _ _ i _ => G.length - (intOf i).toNat)
  case atStart => exact ⟨0, Nat.zero_le _, rfl, Lib.hid (fun p hp => by simp at hp), Ext.refl _⟩
  case round =>
    obtain ⟨s, hs, rfl, hA, hx⟩ := hrel
    by_cases hlt : s < G.length
    · obtain ⟨bG, oG, rfl, eG⟩ := DG.out (by omega)
      have zp := (HXB.out.trans hx).cell (eG s hlt)
      rw [List.getElem?_eq_getElem hlt, Option.getD_some] at zp
      have hpb := HGI.out _ (List.getElem_mem hlt)
      obtain ⟨p, hp⟩ : ∃ p : Nat, G[s] = (p : Int) := ⟨G[s].toNat, by omega⟩
      have hpg : p < g.length := by omega
      have HSC : Hid ((rowG g (p : Int)).all (fun o => tbOf bs o.toNat || hasI G o) = true → ∀ q ∈ G.take (s + 1), (rowG g q).all (fun o => tbOf bs o.toNat || hasI G o) = true) := Lib.hid (fun h q hq => by
        rw [List.take_add_one, List.getElem?_eq_getElem hlt] at hq
        rcases List.mem_append.1 hq with hq | hq
        · exact hA.out q hq
        · have : q = G[s] := by simpa using hq
          rw [this, hp]; exact h)
      have HSN : Hid ((rowG g (p : Int)).all (fun o => tbOf bs o.toNat || hasI G o) = false → isFreeB g G (tbOf bs) = false) := Lib.hid (fun h => by
        unfold isFreeB
        rw [List.all_eq_false]
        exact ⟨G[s], List.getElem_mem hlt, by rw [hp, h]; simp⟩)
      rw [hp] at zp
      obtain ⟨bg, og, rfl, eg⟩ := DV.out (by omega)
      obtain ⟨ur, hur, ir⟩ := eg p hpg
      rw [List.getElem?_eq_getElem hpg, Option.getD_some, ← rowG_at hpg] at ir
      have zr := (HXB.out.trans hx).cell hur
      have HX := Lib.hid hx
      have HRI := Lib.hid (fun o ho => row_in HRW.out (p := (p : Int)) (c := o) ho)
      obtain ⟨R, hR⟩ : ∃ R, R = rowG g (p : Int) := ⟨_, rfl⟩
      rw [← hR] at ir HSC HSN HRI
      obtain ⟨ar, cr, rfl, hlr, _, dr⟩ := ir
      unfold maxLen at hlr
      have DR := Lib.hid dr
      obtain ⟨w2, hw2⟩ : ∃ x : World, x = wr := ⟨_, rfl⟩
      subst hw2
      clear eG eg hpb hp hur hR dr hx hA
      go_wp2
      go_loopw [10, 22] (fun _ i wr => ∃ t : Nat, t ≤ R.length ∧ i = .int .i64 t ∧ Hid ((R.take t).all (fun o => tbOf bs o.toNat || hasI G o) = true) ∧ Ext w2 wr) (fun _ i _ => R.length - (intOf i).toNat)
      case atStart => exact ⟨0, Nat.zero_le _, rfl, Lib.hid (by simp), Ext.refl _⟩
      case round =>
        obtain ⟨t, ht, rfl, hB, hx2⟩ := hrel
        by_cases hlt2 : t < R.length
        · obtain ⟨br, orr, rfl, er⟩ := DR.out (by omega)
          have HX3 := Lib.hid (HXB.out.trans (HX.out.trans hx2))
          have zo := HX3.out.cell (er t hlt2)
          rw [List.getElem?_eq_getElem hlt2, Option.getD_some] at zo
          have hob := HRI.out _ (List.getElem_mem hlt2)
          obtain ⟨o, ho⟩ : ∃ o : Nat, R[t] = (o : Int) := ⟨R[t].toNat, by omega⟩
          have ho40 : o < 40 := by omega
          have htk : (R.take (t + 1)).all (fun o => tbOf bs o.toNat || hasI G o) = ((R.take t).all (fun o => tbOf bs o.toNat || hasI G o) && (tbOf bs o || hasI G (o : Int))) := by
            rw [List.take_add_one, List.getElem?_eq_getElem hlt2, List.all_append, ho]
            simp
          rw [hB.out, Bool.true_and] at htk
          have hno : (tbOf bs o || hasI G (o : Int)) = false → R.all (fun o => tbOf bs o.toNat || hasI G o) = false := fun h => by
            rw [List.all_eq_false]
            exact ⟨R[t], List.getElem_mem hlt2, by rw [ho]; simpa using h⟩
          rw [ho] at zo
          have zm := (HX.out.trans hx2).cell (HMK.out o ho40)
          have i0 : (0 : Int) ≤ (o : Int) := by omega
          have i1 : (o : Int) < 40 := by omega
          have HTK := Lib.hid htk
          have HNO := Lib.hid hno
          have HX2 := Lib.hid hx2
          obtain ⟨m, hm⟩ : ∃ m, m = tbOf bs o := ⟨_, rfl⟩
          rw [← hm] at zm HTK HNO
          clear er ho hob htk hno hx2 hB hm
          cases m with
          | true =>
            go_wp2
            go_roundw
            case rel => exact ⟨t + 1, by omega, by go_num, Lib.hid (by rw [HTK.out]; rfl), HX2.out⟩
            case measure => simp [intOf]; omega
          | false =>
            go_wp2_with fail
            refine (contains_any _ G _ _ (HG.out.ext HX3.out)).mono ?_
            rintro e w5 ⟨rfl, x5⟩
            rw [Bool.false_or] at HTK HNO
            obtain ⟨hh, hhh⟩ : ∃ hh, hh = hasI G (o : Int) := ⟨_, rfl⟩
            rw [← hhh] at HTK HNO ⊢
            have HX5 := Lib.hid (HX2.out.trans x5)
            clear hhh x5 zo zm
            cases hh with
            | true =>
              go_wp2
              go_roundw
              case rel => exact ⟨t + 1, by omega, by go_num, Lib.hid HTK.out, HX5.out⟩
              case measure => simp [intOf]; omega
            | false =>
              go_wp2
              go_ret
              exact ⟨by rw [HSN.out (HNO.out (by first | rfl | trivial))]; rfl, HXB.out.trans (HX.out.trans HX5.out)⟩
        · obtain rfl : t = R.length := by omega
          have HSC2 := Lib.hid (HSC.out (by have := hB.out; rwa [List.take_length] at this))
          go_wp2
          go_roundw
          case rel => exact ⟨s + 1, by omega, by go_num, HSC2, HX.out.trans hx2⟩
          case measure => simp [intOf]; omega
    · obtain rfl : s = G.length := by omega
      have HT : Hid (isFreeB g G (tbOf bs) = true) := Lib.hid (by
        have := hA.out
        rw [List.take_length] at this
        unfold isFreeB
        rw [List.all_eq_true]
        exact this)
      go_wp2
      go_ret
      exact ⟨by rw [HT.out]; rfl, HXB.out.trans hx⟩

end Go.Proofs.Ytnmnbeklofnonaa
