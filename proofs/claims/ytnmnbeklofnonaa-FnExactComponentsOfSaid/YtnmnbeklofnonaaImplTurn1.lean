/- Contracts of the program's closure over isFree, and of slices.IndexFunc by it. -/
import Derived.Test.YtnmnbeklofnonaaImplFree
import Derived.Test.YtnmnbeklofnonaaSpecComps
namespace Go.Proofs.Ytnmnbeklofnonaa
open Go.RowKit
set_option linter.unusedVariables false

set_option maxRecDepth 100000 in
set_option maxHeartbeats 4000000 in
theorem freeClosure_any (gv Gv : Value) (g : List (List Int)) (G : List Int) (bs : List Bool) (hbs : bs.length = 40) (w : World) (b1 b2 : Nat) (h1 : w.cell? ⟨b1, 0, none⟩ = some gv) (h2 : w.heap[b2]? = some (.cells (marksB bs) 90 (0, 0))) (hgv : Intss w gv g) (hGv : Ints w Gv G) (hg : rowsB g = true) (hl : g.length ≤ 40) (hG : ∀ p ∈ G, 0 ≤ p ∧ p < (g.length : Int)) :
    Calls Try.prog 106 #[Gv, .pointer (some ⟨b1, 0, none⟩), .pointer (some ⟨b2, 0, none⟩)] w (BoolExt (isFreeB g G (tbOf bs)) w) := by
  have HC := Lib.hid (isFree_any gv Gv g G bs hbs w hgv hGv hg hl hG)
  have H2 := Lib.hid h2
  clear hgv hGv hg hG h2
  go_enter Try.func106, Try.ntmps106
  have HZ : Hid ((marksB bs).size = 40) := Lib.hid (by rw [marksB_size, hbs])
  go_wp2_with (refine wpList_load_row rfl 90 _ rfl b2 rfl _ _ _ _ H2.out Try.underlying90 rfl (by rw [HZ.out]; exact Try.infoFourty) ?_)
  refine HC.out.mono ?_
  rintro e w1 ⟨rfl, x1⟩
  go_wp2
  go_ret
  exact ⟨rfl, x1⟩

set_option maxRecDepth 100000 in
set_option maxHeartbeats 4000000 in
theorem indexFree_any (lv p1 p2 : Value) (vs : List Value) (n : Nat) (w : World) (hn : vs.length = n) (hv : FreshV 0 w lv vs) (F : Nat → Bool)
    (hc : ∀ (j : Nat) (u : Value), vs[j]? = some u → ∀ W, Ext w W → Calls Try.prog 106 #[u, p1, p2] W (BoolExt (F j) W))
    (k : Nat) (hk : k < n) (hy : F k = true) (hno : ∀ j, j < k → F j = false) (hn2 : n ≤ 1048576) :
    Calls Try.prog 105 #[lv, .func (.func 106) #[] #[p1, p2]] w (IntExt (k : Int) w) := by
  obtain ⟨g, cap, rfl, h1, h2⟩ := hv.form (n := n) hn (by omega)
  unfold maxLen at h2
  have HV := Lib.hid hv
  have HC := Lib.hid hc
  have HN := Lib.hid hn
  have HY := Lib.hid hy
  have HNO := Lib.hid hno
  clear hv hc hn hy hno
  go_enter Try.func105, Try.ntmps105
  go_wp2
  go_loopw [5, 8] (fun _ i wr => ∃ j : Nat, j ≤ k ∧ i = .int .i64 j ∧ Ext w wr) (fun _ i _ => n - (intOf i).toNat)
  case atStart => exact ⟨0, Nat.zero_le _, rfl, Ext.refl _⟩
  case round =>
    obtain ⟨j, hj, rfl, hx⟩ := hrel
    have hjn : j < n := by omega
    obtain ⟨u, hu⟩ : ∃ u, vs[j]? = some u := ⟨_, List.getElem?_eq_getElem (by rw [HN.out]; exact hjn)⟩
    have zu := hx.cell (HV.out.at HN.out hu)
    have HU := Lib.hid hu
    have HX := Lib.hid hx
    clear hu hx
    go_wp2_with fail
    refine (HC.out j u HU.out _ HX.out).mono ?_
    rintro e w1 ⟨rfl, x1⟩
    have X1 := Lib.hid (HX.out.trans x1)
    clear x1 zu
    by_cases hjk : j = k
    · subst hjk
      rw [HY.out]
      go_wp2
      go_ret
      exact ⟨rfl, X1.out⟩
    · rw [HNO.out j (by omega)]
      go_wp2
      go_roundw
      case rel => exact ⟨j + 1, by omega, by go_num, X1.out⟩
      case measure => simp [intOf]; omega

end Go.Proofs.Ytnmnbeklofnonaa
