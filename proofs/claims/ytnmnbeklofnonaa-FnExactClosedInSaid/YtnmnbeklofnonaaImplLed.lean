/- Contract of the program's ledFrom: the marks of all points that a point leads to. -/
import Derived.Test.YtnmnbeklofnonaaLedAt
namespace Go.Proofs.Ytnmnbeklofnonaa
open Go.RowKit
set_option linter.unusedVariables false

theorem AtB.done {w wr : World} {bs : List Bool} {vl : Value} {left : List Int} (h : AtB w wr bs vl left) :
    (wr.setRow w.heap.size (marksB bs)).heap[w.heap.size]? = some (.cells (marksB bs) 90 (0, 0)) ∧ Ext w (wr.setRow w.heap.size (marksB bs)) := by
  refine ⟨setRow_heap wr w.heap.size _ _ _ _ h.out, ?_⟩
  refine ⟨h.ext.os, h.ext.tape, h.ext.output, by simpa using h.ext.size, fun k hk => ?_⟩
  rw [setRow_other wr w.heap.size k _ (by omega)]
  exact Below.block h.ext k hk

theorem nil_or_last (l : List Int) : l = [] ∨ ∃ (r : List Int) (p : Int), l = r ++ [p] := by
  rcases List.eq_nil_or_concat l with h | ⟨r, p, h⟩
  · exact .inl h
  · exact .inr ⟨r, p, by rw [h, List.concat_eq_append]⟩

def Marks40 (bs : List Bool) (w : World) (e : Ending) (w' : World) : Prop := e = .returned (.agg (marksB bs)) ∧ Ext w w'

set_option maxHeartbeats 4000000 in
theorem ledFrom_any (v : Value) (g : List (List Int)) (k : Nat) (w : World) (hv : Intss w v g) (hg : rowsB g = true) (hs : g.length ≤ 40) (hk : k < g.length) :
    Calls Try.prog 69 #[v, .int .i64 k] w (Marks40 (ledL g k) w) := by
  have HG := Lib.hid hg
  have HS := Lib.hid hs
  have HK := Lib.hid hk
  obtain ⟨av, cv, rfl, hlv, hcap, hcv⟩ := hv
  have hk40 : k < 40 := by omega
  have HCV := Lib.hid hcv
  have HST := Lib.hid (atB_start w k hk40)
  have HL := Lib.hid (And.intro (Led.start g k hk40) (roomB_start k hk40))
  clear hg hlv hcap hcv hs hk
  go_enter Try.func69, Try.ntmps69
  go_wp2
  go_loopg [6, 7, 9] 40 (fun n vl _ _ wr => ∃ (bs : List Bool) (left : List Int), Hid (Led g k bs left ∧ roomB bs left ≤ n) ∧ n ≤ 40 ∧ AtB w wr bs vl left)
  case atStart => exact ⟨_, _, Lib.hid ⟨HL.out.1, Nat.le_of_eq HL.out.2⟩, Nat.le_refl _, HST.out⟩
  case round =>
    obtain ⟨bs, left, hL, hgk40, hA⟩ := hrel
    clear HST HL
    rcases nil_or_last left with rfl | ⟨left, p, rfl⟩
    · obtain ⟨ao, cap, rfl, _⟩ := hA.left.ints
      have hb := hL.out.1.all
      have hd := hA.done
      have hl := hA.led
      have ho := hA.out
      have hz : (marksB bs).size = 40 := by rw [marksB_size, hL.out.1.len]
      have HB := Lib.hid hb
      have HD := Lib.hid hd
      have HLL := Lib.hid hl
      have HO := Lib.hid ho
      have HZ := Lib.hid hz
      clear hb hd hl ho hz hA hL
      go_wp2_with (first
        | (refine wpList_load_row rfl 90 _ rfl (w.heap.size + 1) rfl _ _ _ _ HLL.out Try.underlying90 rfl (by rw [HZ.out]; exact Try.infoFourty) ?_)
        | (refine wpList_store_row rfl 90 _ _ rfl w.heap.size (marksB bs) rfl rfl _ _ HO.out (by rw [HZ.out]; exact Try.infoFourty) (by rw [HZ.out]; rfl) (marksB_all _) ?_))
      refine bodyPost_ret (v := .agg (marksB bs)) (results_cell_row Try.results69 _ _ w.heap.size 90 (marksB bs) (0, 0) _ rfl HD.out.1 Try.underlying90 rfl (by rw [HZ.out]; exact Try.infoFourty)) rfl ⟨by rw [HB.out], HD.out.2⟩
    · obtain ⟨t, ht⟩ : ∃ t, left.length = t := ⟨_, rfl⟩
      have hon := hL.out.1.stack p (by simp)
      have hin := reach_in HG.out (by have := HK.out; omega) (hL.out.1.reach p hon)
      obtain ⟨q, rfl⟩ : ∃ q : Nat, p = (q : Int) := ⟨p.toNat, by omega⟩
      have hqg : q < g.length := by omega
      have hroom : roomB bs left + 1 ≤ gk := by rw [← roomB_pop bs left (q : Int)]; exact hL.out.2
      have hpop := Lib.hid (And.intro hL.out.1.pop hroom)
      have hgk : 0 < gk := by omega
      have hlen : (left ++ [(q : Int)]).length = t + 1 := by simp [ht]
      obtain ⟨am, cm, hvl, hlm, hcm, dm⟩ := hA.left.ints
      rw [hlen] at hvl hlm hcm dm
      subst hvl
      obtain ⟨bm, om, rfl, em⟩ := dm (by omega)
      have gm := em t (by omega)
      have hlast : (left ++ [(q : Int)])[t]?.getD 0 = (q : Int) := by
        subst ht
        simp
      rw [hlast] at gm
      have hA2 := AtB.less ht hA
      obtain ⟨bg, og, rfl, dg⟩ := HCV.out (by omega)
      obtain ⟨x, hx1, ix⟩ := dg q hqg
      rw [List.getElem?_eq_getElem hqg, Option.getD_some] at ix
      have gg := hA.ext.cell hx1
      have HR := Lib.hid (rowG_at hqg)
      obtain ⟨ax, cx, rfl, hlx, hcx, dx⟩ := ix
      have DX := Lib.hid dx
      have HA2 := Lib.hid hA2
      have HT := Lib.hid ht
      obtain ⟨htc, _⟩ := hcm
      unfold maxLen at hlx hlm
      clear hon hin hroom hlen dm em hlast hA hA2 dg hx1 dx hcx hL ht HCV
      go_wp2
      go_loopw [6, 9, 33] (fun vl _ i w2 => ∃ (s : Nat) (bs' : List Bool) (left' : List Int), i = .int .i64 s ∧ s ≤ g[q].length ∧ Hid (LedAt g k q s bs' left' ∧ roomB bs' left' + 1 ≤ gk) ∧ AtB w w2 bs' vl left') (fun _ _ i _ => g[q].length - (intOf i).toNat)
      case atStart => exact ⟨0, bs, left, rfl, Nat.zero_le _, hpop, HA2.out⟩
      case round =>
        obtain ⟨s, bs', left', rfl, hsl, hL', hA'⟩ := hrel
        clear HA2 hpop gm gg
        by_cases hsi : s < g[q].length
        · obtain ⟨bx, ox, rfl, ex⟩ := DX.out (by omega)
          have gx := hA'.ext.cell (ex s hsi)
          rw [List.getElem?_eq_getElem hsi, Option.getD_some] at gx
          have hsr : s < (rowG g q).length := by rw [HR.out]; exact hsi
          have hn : (rowG g q)[s] = g[q][s] := by simp only [HR.out]
          have hni := row_in HG.out (List.getElem_mem hsr)
          obtain ⟨m, hm⟩ : ∃ m : Nat, g[q][s] = (m : Int) := ⟨g[q][s].toNat, by omega⟩
          rw [hm] at gx hn
          have hm40 : m < 40 := by have := HS.out; omega
          have hml : m < bs'.length := by rw [hL'.out.1.len]; exact hm40
          have hb : bs'[m]? = some bs'[m] := List.getElem?_eq_getElem hml
          have gc := hA'.cell hb
          have gf := hA'.free m
          have HSR := Lib.hid hsr
          have HN := Lib.hid hn
          cases hbb : bs'[m] with
          | true =>
            rw [hbb] at gc hb
            have HB := Lib.hid hb
            have HA := Lib.hid hA'
            clear ex hn hni hm hb hbb hA' hml
            go_wp2
            go_roundw
            case rel => exact ⟨s + 1, bs', left', by go_num, by omega, Lib.hid ⟨hL'.out.1.known HSR.out (by rw [HN.out]; exact ⟨m, rfl, HB.out⟩), hL'.out.2⟩, HA.out⟩
            case measure => simp [intOf]; omega
          | false =>
            rw [hbb] at gc hb
            have hA3 := hA'.mark m
            have hroom' := roomB_add (left := left') (m : Int) hb
            have hl40 : left'.length ≤ 40 := by
              have h1 := hL'.out.2
              unfold roomB at h1
              omega
            have hszc : (wr.setCell ⟨w.heap.size + 1, m, none⟩ (.bool true)).heap.size = wr.heap.size := by simp
            have hcell := cell_alloc_one (wr.setCell ⟨w.heap.size + 1, m, none⟩ (.bool true)) (.int .i64 m) 3
            rw [hszc] at hcell
            have HB := Lib.hid hb
            have HA := Lib.hid hA3
            have HC := Lib.hid hcell
            have HRM := Lib.hid hroom'
            clear ex hn hni hm hb hbb hA' hA3 hml hszc hcell hroom'
            go_wp2_with (at_builtin; refine wpList_push rfl _ _ rfl (w.heap.size + 2) _ left' (m : Int) rfl (HA.out.left.ext (Ext.alloc (Ext.refl _) _)) ⟨wr.heap.size, 0, none⟩ 1 rfl HC.out (by omega) (size_alloc_le HA.out.size) ?_)
            intro v4 w4 f4 g4 k4
            have hA4 := HA.out.push f4 g4 k4
            have HA4 := Lib.hid hA4
            clear f4 g4 k4 hA4 HA HC gc gf
            go_wp2
            go_roundw
            case rel => exact ⟨s + 1, _, _, by go_num, by omega, Lib.hid ⟨hL'.out.1.add HSR.out HN.out hm40, by rw [HRM.out]; exact hL'.out.2⟩, HA4.out⟩
            case measure => simp [intOf]; omega
        · have hst : (rowG g q).length ≤ s := by rw [HR.out]; omega
          have hN := hL'.out.1.next hst
          have HN := Lib.hid (And.intro hN hL'.out.2)
          have HA := Lib.hid hA'
          clear hN hA' hst hL'
          go_wp2
          go_roundg (gk - 1)
          case rel => exact ⟨bs', left', Lib.hid ⟨HN.out.1, by have := HN.out.2; omega⟩, by omega, HA.out⟩
          case measure => omega

end Go.Proofs.Ytnmnbeklofnonaa
