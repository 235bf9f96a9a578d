/- Contract of the program's AttrText, where the tables that it reads lie as the library lays them. -/
import Derived.Test.YtfadmcgaojnghaaDoorSpecText
import Derived.Test.YtfadmcgaojnghaaDoorItoa
import Derived.Test.YtfadmcgaojnghaaDoorPush1
namespace Go.Proofs.YtfadmcgaojnghaaDoor
open Go.RowKit
set_option linter.unusedVariables false

def decS (n : Int) : ByteArray := ⟨(decI n).toArray⟩
/-- After k rounds: the texts of the first k numbers, the others empty. -/
def halfS (l : List Int) (k : Nat) : List ByteArray := (l.take k).map decS ++ List.replicate (l.length - k) ⟨#[]⟩
theorem halfS_length (l : List Int) (k : Nat) (h : k ≤ l.length) : (halfS l k).length = l.length := by simp [halfS]; omega
theorem halfS_zero (l : List Int) : halfS l 0 = List.replicate l.length ⟨#[]⟩ := by simp [halfS]
theorem halfS_all (l : List Int) : halfS l l.length = l.map decS := by simp [halfS]
theorem halfS_succ (l : List Int) (k : Nat) (h : k < l.length) : (halfS l k).set k (decS l[k]) = halfS l (k + 1) := by
  unfold halfS
  rw [List.set_append_right _ _ (by simp; omega)]
  have e1 : k - ((l.take k).map decS).length = 0 := by simp; omega
  rw [e1, List.take_add_one, List.getElem?_eq_getElem h]
  have e2 : l.length - k = (l.length - (k + 1)) + 1 := by omega
  rw [e2, List.replicate_succ, List.set_cons_zero]
  simp only [Option.toList, List.map_append, List.map_cons, List.map_nil, List.append_assoc, List.cons_append, List.nil_append]
theorem decS_data (l : List Int) : (l.map decS).map (·.data.toList) = l.map decI := by simp [decS]

theorem join_at (v : Value) (l : List Int) (W : World) (hv : Strs W v (l.map decS)) (hp : 0 < l.length) (hb : ∀ n ∈ l, n ≤ 99999) (hl : l.length ≤ 5) :
    Calls Tryd.prog 57 #[v, .string ⟨#[44]⟩] W (StrExt (listT l) W) := by
  obtain ⟨ao, cap, rfl, hm, hcap, hc⟩ := hv
  obtain ⟨b, off, rfl, hcc⟩ := hc (by simpa using hp)
  have hbk : b < W.heap.size := by
    have h0 := hcc 0 (by simpa using hp)
    exact World.block_lt_of_cell? W _ h0
  have hlen := listT_len l hb
  have e : Lib.join ((l.map decS).map (·.data.toList)) (⟨#[44]⟩ : ByteArray).data.toList = listT l := by rw [decS_data]; rfl
  refine (Tryd.strings_Join b off cap (l.map decS) ⟨#[44]⟩ W (fun j x hx => ?_) hbk (by simp; omega) hcap.1 (by rw [e]; omega)).mono ?_
  · have hj : j < (l.map decS).length := (List.getElem?_eq_some_iff.1 hx).1
    rw [hcc j hj]
    rw [List.getElem?_eq_getElem hj] at hx
    rw [Option.some.inj hx]
  · rintro e' w' ⟨rfl, hb'⟩
    exact ⟨by rw [e], hb'⟩

set_option maxRecDepth 100000 in
set_option maxHeartbeats 2000000 in
theorem implAttrText_good (s : Int) (u : Value) (l : List Int) (w : World) (hv : Ints w u l) (hg : goodA l.length s l = true) (hp : Pow w) :
    Calls Tryd.prog 27 #[.int .i64 l.length, .agg #[.int .i64 s, u]] w (TwoStr (attrT s l) true w) := by
  obtain ⟨hs, hb, hl5⟩ := good_bounds hg
  have hl3 : 3 ≤ l.length := by rcases isGrp_of (goodA_of hg).1 with h | h <;> omega
  have hln := decI_len hs.2
  have hwl := listT_len l (fun n hn => (hb n hn).2)
  have hci := fun W (h : Pow W) => itoa_at s hs.1 hs.2 W h
  have HJ := Lib.hid (fun v W h => join_at v l W h (by omega) (fun n hn => (hb n hn).2) hl5)
  have HIT := Lib.hid (fun (j : Nat) (hj : j < l.length) W (h : Pow W) => itoa_at l[j] (hb _ (List.getElem_mem hj)).1 (hb _ (List.getElem_mem hj)).2 W h)
  obtain ⟨i0, hi, hz0, hz1, hz2⟩ := info_parts Tryd.infoStr
  obtain ⟨au, cu, rfl, hlu, hcap, hcu⟩ := hv
  have HV : Hid (Ints w (.slice au l.length cu) l) := Lib.hid ⟨au, cu, rfl, hlu, hcap, hcu⟩
  have HCU := Lib.hid hcu
  have HG := Lib.hid hg
  have HP := Lib.hid hp
  have HB := Lib.hid (attrAt_new w 47 s (.slice au l.length cu))
  unfold attrT
  obtain ⟨q, hq⟩ : ∃ q, q = decI s := ⟨_, rfl⟩
  obtain ⟨t, ht⟩ : ∃ t, t = listT l := ⟨_, rfl⟩
  rw [← hq] at hci hln
  rw [← ht] at HJ hwl
  rw [← hq, ← ht]
  have b1 : ∀ W : World, (Op.stringOp .add ⟨q.toArray⟩ ⟨#[58]⟩).run Tryd.prog W = .ok (.string ⟨(q ++ [58]).toArray⟩) W := fun W => cat_run W q [58] (by simp; omega)
  have b2 : ∀ W : World, (Op.stringOp .add ⟨(q ++ [58]).toArray⟩ ⟨t.toArray⟩).run Tryd.prog W = .ok (.string ⟨(q ++ [58] ++ t).toArray⟩) W := fun W => cat_run W (q ++ [58]) t (by simp; omega)
  obtain ⟨t1, ht1⟩ : ∃ t1, t1 = q ++ [58] := ⟨_, rfl⟩
  obtain ⟨t2, ht2⟩ : ∃ t2, t2 = t1 ++ t := ⟨_, rfl⟩
  rw [← ht1, ← ht2] at b2 ⊢
  rw [← ht1] at b1
  have HCI := Lib.hid hci
  clear hci hq ht ht1 ht2 hwl hln hb hs hlu hcap hcu hg hp
  go_enter Tryd.func27, Tryd.ntmps27
  go_wp2_with fail
  refine (implGoodAttr_any _ _ _ l _ (HV.out.ext (Ext.alloc (Ext.refl _) _))).mono ?_
  rintro e w1 ⟨rfl, x1⟩
  rw [HG.out]
  have hx1 : Ext w w1 := (Ext.alloc (Ext.refl _) _).trans x1
  obtain ⟨c0, c1⟩ := HB.out.ext x1
  have HX1 := Lib.hid hx1
  have C0 := Lib.hid (HB.out.ext x1)
  clear x1 hx1
  go_wp2_with (at_make; refine wpList_make_full _ rfl _ _ 62 rfl w1.heap.size 9 i0 (.string ⟨#[]⟩) 1 Tryd.underlying62 hi hz0 hz1 _ _ _ _ l.length rfl rfl rfl rfl ?c1 ?c2 ?c3 ?_)
  case c1 => rw [hz2]; omega
  case c2 => unfold maxLen; omega
  case c3 => simp
  intro w2 ho2 hg2
  have hx2 : Ext w1 w2 := ext_of_grown hg2
  have ho : w2.ownsRow w1.heap.size 9 1 (.slice (some ⟨w1.heap.size, 0, none⟩) l.length l.length) l.length ((halfS l 0).map Value.string) := by
    rw [toList_madeCells_one] at ho2
    rw [halfS_zero, List.map_replicate]; exact ho2
  have c0 := hx2.cell c0
  have c1 := hx2.cell c1
  have HX2 := Lib.hid hx2
  have HO := Lib.hid ho
  clear ho2 hg2 hz0 hz1 hz2 hi ho hx2
  go_wp2
  go_loopw [18] (fun i wr => ∃ k : Nat, k ≤ l.length ∧ i = .int .i64 k ∧ wr.ownsRow w1.heap.size 9 1 (.slice (some ⟨w1.heap.size, 0, none⟩) l.length l.length) l.length ((halfS l k).map Value.string) ∧ Ext w1 wr ∧ Ext w wr) (fun i _ => l.length - (intOf i).toNat)
  case atStart => exact ⟨0, Nat.zero_le _, rfl, HO.out, HX2.out, HX1.out.trans HX2.out⟩
  case round =>
    obtain ⟨k, hk, rfl, ho, hxa, hx⟩ := hrel
    by_cases hlt : k < l.length
    · obtain ⟨bu, ou, rfl, du⟩ := HCU.out (by omega)
      have gu := hx.cell (du k hlt)
      rw [List.getElem?_eq_getElem hlt, Option.getD_some] at gu
      have hit := HIT.out k hlt
      have hsu := halfS_succ l k hlt
      have hhl := halfS_length l k hk
      obtain ⟨y, hy⟩ : ∃ y, y = l[k] := ⟨_, rfl⟩
      rw [← hy] at gu hit hsu
      have HI := Lib.hid hit
      have HSU := Lib.hid hsu
      have HO' := Lib.hid ho
      clear du hit hsu hy c0 c1 ho
      go_wp2_with fail
      refine (HI.out _ (HP.out.ext hx)).mono ?_
      rintro e w3 ⟨rfl, x3⟩
      have ho3 := x3.ownsRow HO'.out
      have go := (ho3.cellAt k (by omega)).trans (show _ = some (Value.string ((halfS l k)[k]?.getD ⟨#[]⟩)) by
        simp [List.getElem?_eq_getElem (show k < (halfS l k).length by omega)])
      have gf := ho3.frozenAt k
      clear gu
      go_wp2
      have hs1 := (ho3.stored k (Value.string ⟨(decI y).toArray⟩)).1
      rw [← List.map_set] at hs1
      have hsu' := HSU.out
      unfold decS at hsu'
      rw [hsu'] at hs1
      go_roundw
      case rel => exact ⟨k + 1, by omega, by go_num, hs1, Ext.setc (hxa.trans x3) (Nat.le_refl _), Ext.setc (hx.trans x3) (by have := HX1.out.size; dsimp only; omega)⟩
      case measure => simp [intOf]; omega
    · obtain rfl : k = l.length := by omega
      have hst : FreshS w1.heap.size wr (.slice (some ⟨w1.heap.size, 0, none⟩) l.length l.length) (l.map decS) := by
        unfold FreshS
        rw [← halfS_all l, halfS_length l _ (Nat.le_refl _)]
        exact ho
      have ST := Lib.hid hst
      obtain ⟨d0, d1⟩ := C0.out.ext hxa
      clear ho hst c0 c1
      go_wp2_with fail
      refine (HCI.out _ (HP.out.ext hx)).mono ?_
      rintro e w3 ⟨rfl, x3⟩
      have HS3 := Lib.hid (ST.out.ext x3)
      have hy := hx.trans x3
      clear x3 hx hxa d0 d1
      go_wp2_with fail
      refine (HJ.out _ _ HS3.out.strs).mono ?_
      rintro e w4 ⟨rfl, x4⟩
      have hz := hy.trans x4
      clear x4 hy
      go_wp2
      go_ret2
      exact ⟨rfl, hz⟩

theorem implAttrText_any (n s : Int) (u : Value) (l : List Int) (w : World) (hv : Ints w u l) (hp : Pow w) :
    Calls Tryd.prog 27 #[.int .i64 n, .agg #[.int .i64 s, u]] w (TwoStr (attrText n s l) (goodA n s l) w) := by
  cases hg : goodA n s l with
  | true =>
    rw [attrText_good hg]
    have hl := (goodD_of (goodA_of hg).2).2.1
    subst hl
    exact implAttrText_good s u l w hv hg hp
  | false =>
    rw [attrText_bad hg]
    have HG := Lib.hid hg
    clear hg hp
    go_enter Tryd.func27, Tryd.ntmps27
    go_wp2_with fail
    refine (implGoodAttr_any _ _ _ l _ (hv.ext (Ext.alloc (Ext.refl _) _))).mono ?_
    rintro e w1 ⟨rfl, x1⟩
    rw [HG.out]
    have hx := (Ext.alloc (Ext.refl _) _).trans x1
    clear hv x1
    go_wp2
    go_ret2
    exact ⟨rfl, hx⟩

end Go.Proofs.YtfadmcgaojnghaaDoor
