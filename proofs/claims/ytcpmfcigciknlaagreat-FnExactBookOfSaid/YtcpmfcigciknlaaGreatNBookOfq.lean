/- Texts of this proof, part q: words, plain facts, contracts. -/
import Derived.Test.YtcpmfcigciknlaaGreatNBookOfp
import Derived.Test.YtcpmfcigciknlaaGreatNBookOfb
import Derived.Test.YtcpmfcigciknlaaGreatNBookOfc
import Derived.Test.YtcpmfcigciknlaaGreatNBookOfa
import Derived.Deep.DeepCutAuto
import Derived.Test.YtcpmfcigciknlaaGreatNBookOfe
import Derived.Test.YtcpmfcigciknlaaGreatNBookOff
import Derived.Test.YtcpmfcigciknlaaGreatNBookOfd
import Derived.Test.YtcpmfcigciknlaaGreatNBookOfj
set_option linter.unusedVariables false
set_option linter.unusedSimpArgs false

namespace Go.Proofs.YtcpmfcigciknlaaGreat
open Go.RowKit
set_option linter.unusedVariables false
set_option linter.unusedSimpArgs false
theorem acct_nat {f : Int} (h : acctB f = true) : ∃ F : Nat, f = (F : Int) ∧ F < 4 := by
  have := acctB_yes h
  exact ⟨f.toNat, by omega, by omega⟩
theorem good_1 {i f t a : Int} (h : goodB 1 i f t a = true) : ∃ F T : Nat, f = (F : Int) ∧ t = (T : Int) ∧ F < 4 ∧ T < 4 ∧ F ≠ T ∧ 1 ≤ a ∧ a ≤ 1000 := by
  rw [goodB_1] at h
  unfold codeM at h
  cases h1 : acctB f with
  | false => rw [h1] at h; simp at h
  | true =>
    cases h2 : acctB t with
    | false => rw [h1, h2] at h; simp at h
    | true =>
      obtain ⟨F, rfl, hF⟩ := acct_nat h1
      obtain ⟨T, rfl, hT⟩ := acct_nat h2
      rw [h1, h2] at h
      cases h3 : ((F : Int) == (T : Int)) with
      | true => rw [h3] at h; simp at h
      | false =>
        rw [h3] at h
        cases h4 : inB i 1 999 with
        | false => rw [h4] at h; simp at h
        | true =>
          rw [h4] at h
          cases h5 : inB a 1 1000 with
          | false => rw [h5] at h; simp at h
          | true =>
            have h6 : F ≠ T := by intro e; subst e; simp at h3
            have h7 : 1 ≤ a ∧ a ≤ 1000 := by simpa [inB] using h5
            exact ⟨F, T, rfl, rfl, hF, hT, h6, h7.1, h7.2⟩
theorem good_2 {i f t a : Int} (h : goodB 2 i f t a = true) : ∃ F : Nat, f = (F : Int) ∧ F < 4 := by
  rw [goodB_2] at h
  unfold codeR at h
  cases h1 : acctB f with
  | false => rw [h1] at h; simp at h
  | true => exact acct_nat h1
theorem good_kind {k i f t a : Int} (h : goodB k i f t a = true) : k = 0 ∨ k = 1 ∨ k = 2 := by
  by_cases h0 : k = 0
  · exact .inl h0
  · by_cases h1 : k = 1
    · exact .inr (.inl h1)
    · by_cases h2 : k = 2
      · exact .inr (.inr h2)
      · rw [goodB_else i f t a (by simp [h0]) (by simp [h1]) (by simp [h2])] at h
        cases h
theorem four_of {l : List Int} (h : l.length = 4) : ∃ p q r s, l = [p, q, r, s] := by
  match l, h with
  | [p, q, r, s], _ => exact ⟨p, q, r, s, rfl⟩
theorem goodS_4 {p q r s : Int} : goodS [p, q, r, s] = true ↔ (0 ≤ p ∧ p ≤ 400) ∧ (0 ≤ q ∧ q ≤ 400) ∧ (0 ≤ r ∧ r ≤ 400) ∧ (0 ≤ s ∧ s ≤ 400) ∧ p + (q + (r + s)) = 400 := by
  simp [goodS, allIn, inB, and_assoc]
theorem good_didL {k i f t a : Int} {l : List Int} (hg : goodS l = true) (hc : goodB k i f t a = true) : goodS (didL k f t a l) = true := by
  obtain ⟨p, q, r, s, rfl⟩ := four_of (goodS_get hg).1
  rcases good_kind hc with rfl | rfl | rfl
  · exact hg
  · obtain ⟨F, T, rfl, rfl, hF, hT, hne, ha, _⟩ := good_1 hc
    rw [goodS_4] at hg
    unfold didL
    rw [if_pos rfl]
    have e1 : ((F : Int)).toNat = F := rfl
    have e2 : ((T : Int)).toNat = T := rfl
    rw [e1, e2]
    split
    · rw [goodS_4]; exact hg
    · rename_i h
      match F, hF, T, hT, hne with
      | 0, _, 0, _, hne => exact absurd rfl hne
      | 0, _, 1, _, _ => simp at h; simp [goodS_4]; omega
      | 0, _, 2, _, _ => simp at h; simp [goodS_4]; omega
      | 0, _, 3, _, _ => simp at h; simp [goodS_4]; omega
      | 1, _, 0, _, _ => simp at h; simp [goodS_4]; omega
      | 1, _, 1, _, hne => exact absurd rfl hne
      | 1, _, 2, _, _ => simp at h; simp [goodS_4]; omega
      | 1, _, 3, _, _ => simp at h; simp [goodS_4]; omega
      | 2, _, 0, _, _ => simp at h; simp [goodS_4]; omega
      | 2, _, 1, _, _ => simp at h; simp [goodS_4]; omega
      | 2, _, 2, _, hne => exact absurd rfl hne
      | 2, _, 3, _, _ => simp at h; simp [goodS_4]; omega
      | 3, _, 0, _, _ => simp at h; simp [goodS_4]; omega
      | 3, _, 1, _, _ => simp at h; simp [goodS_4]; omega
      | 3, _, 2, _, _ => simp at h; simp [goodS_4]; omega
      | 3, _, 3, _, hne => exact absurd rfl hne
  · exact hg
theorem goodS_at {l : List Int} {F : Nat} (hg : goodS l = true) (hF : F < 4) : ∃ x, l[F]? = some x ∧ 0 ≤ x ∧ x ≤ 400 := by
  obtain ⟨h4, ha, _⟩ := goodS_get hg
  have hl : F < l.length := by omega
  have h := (List.all_eq_true.1 ha) l[F] (List.getElem_mem hl)
  exact ⟨l[F], List.getElem?_eq_getElem hl, by simpa [inB] using h⟩
theorem did_1 {B : Nat} {u : Value} {l : List Int} {i f t a : Int} {w : World} (hg : goodS l = true) (hc : goodB 1 i f t a = true) (hf : Fresh B w u l) :
    Calls Tryz.prog 280 #[.agg #[.int .i64 f, .int .i64 t, .int .i64 a], u] w (DidTo B u (didL 1 f t a l) (didC 1 f a l) (didS 1 f l) w) := by
  obtain ⟨F, T, rfl, rfl, hF, hT, hne, ha, ha1⟩ := good_1 hc
  obtain ⟨x, hx, hx0, hx1⟩ := goodS_at hg hF
  obtain ⟨y, hy, hy0, hy1⟩ := goodS_at hg hT
  have e1 : l[((F : Int)).toNat]? = some x := hx
  have e2 : l[((T : Int)).toNat]? = some y := hy
  have k1 : (1 : Int) = 1 ↔ True := by decide
  have k2 : (1 : Int) = 2 ↔ False := by decide
  simp only [didL, didC, didS, e1, e2, Option.getD_some, k1, k2, if_true, if_false]
  by_cases h : x < a
  · rw [if_pos h, if_pos h]
    exact transfer_poor B u l F T a x w hf (goodS_get hg).1 hF hx h
  · rw [if_neg h, if_neg h]
    exact transfer_done B u l F T a x y w hf (goodS_get hg).1 hne hF hT hx hy (by omega) ha ha1 hx1 hy0 hy1
theorem did_2 {B : Nat} {u : Value} {l : List Int} {i f t a : Int} {w : World} (hg : goodS l = true) (hc : goodB 2 i f t a = true) (hf : Fresh B w u l) :
    Calls Tryz.prog 281 #[.agg #[.int .i64 f], u] w (DidTo B u (didL 2 f t a l) (didC 2 f a l) (didS 2 f l) w) := by
  obtain ⟨F, rfl, hF⟩ := good_2 hc
  obtain ⟨x, hx, hx0, hx1⟩ := goodS_at hg hF
  have e1 : l[((F : Int)).toNat]? = some x := hx
  have k1 : (2 : Int) = 1 ↔ False := by decide
  have k2 : (2 : Int) = 2 ↔ True := by decide
  simp only [didL, didC, didS, e1, Option.getD_some, k1, k2, if_true, if_false]
  exact inquiry_any B u l F x w hf (goodS_get hg).1 hF hx
theorem did_0 {B : Nat} {u : Value} {l : List Int} {f t a : Int} {w : World} (hf : Fresh B w u l) :
    Calls Tryz.prog 282 #[.agg #[], u] w (DidTo B u (didL 0 f t a l) (didC 0 f a l) (didS 0 f l) w) := by
  exact idleness_any B u l w hf
end Go.Proofs.YtcpmfcigciknlaaGreat

namespace Go.Proofs.YtcpmfcigciknlaaGreat
open Go.RowKit
set_option linter.unusedVariables false
theorem apply_boxes (w : World) (k i f t a : Int) (T T' : TypeId) :
    let W := (w.alloc (.cells #[.int .i64 k, .int .i64 i, .int .i64 f, .int .i64 t, .int .i64 a] T)).alloc (.cells #[.int .i64 0, .int .i64 0] T')
    Ext w W ∧ BoxV W w.heap.size [.int .i64 k, .int .i64 i, .int .i64 f, .int .i64 t, .int .i64 a] ∧ BoxV W (w.heap.size + 1) [.int .i64 0, .int .i64 0] ∧ W.heap.size = w.heap.size + 2 := by
  intro W
  have h1 := boxV_new w [.int .i64 k, .int .i64 i, .int .i64 f, .int .i64 t, .int .i64 a] T
  have h2 := boxV_new (w.alloc (.cells #[.int .i64 k, .int .i64 i, .int .i64 f, .int .i64 t, .int .i64 a] T)) [.int .i64 0, .int .i64 0] T'
  rw [World.size_alloc] at h2
  exact ⟨Ext.alloc (Ext.alloc (Ext.refl _) _) _, h1.ext (Ext.alloc (Ext.refl _) _), h2, by simp [W]⟩
end Go.Proofs.YtcpmfcigciknlaaGreat

namespace Go.Proofs.YtcpmfcigciknlaaGreat
open Go.RowKit
set_option linter.unusedVariables false
set_option linter.unusedSimpArgs false
def Applied2 (L : List Int) (c s : Int) (w : World) (e : Ending) (w' : World) : Prop :=
  ∃ v, e = .returned (.tuple #[v, .agg #[.int .i64 c, .int .i64 s]]) ∧ Fresh w.heap.size w' v L ∧ Ext w w'
theorem ints_cell {b off cap F : Nat} {w : World} {l : List Int} {x : Int} (hv : Ints w (.slice (some ⟨b, off, none⟩) l.length cap) l) (hx : l[F]? = some x) : w.cell? ⟨b, off + F, none⟩ = some (.int .i64 x) := by
  have hF := (List.getElem?_eq_some_iff.1 hx).1
  obtain ⟨ao, c, h, _, _, hc⟩ := hv
  obtain ⟨b', off', rfl, hd⟩ := hc (by omega)
  injection h with h1
  injection h1 with h1
  injection h1 with h2 h3
  subst h2
  subst h3
  rw [hd F hF, hx]
  rfl
theorem slice_at {v : Value} {l : List Int} {w : World} (hv : Ints w v l) (h4 : l.length = 4) : ∃ b off cap, v = .slice (some ⟨b, off, none⟩) l.length cap ∧ b < w.heap.size := by
  obtain ⟨av, cv, rfl, _, _, hc⟩ := hv
  obtain ⟨b, off, rfl, hd⟩ := hc (by omega)
  exact ⟨_, _, _, rfl, World.block_lt_of_cell? w _ (hd 0 (by omega))⟩
set_option maxRecDepth 100000 in
set_option maxHeartbeats 4000000 in
theorem l11Apply_2 (v : Value) (l : List Int) (i t a : Int) (F : Nat) (x : Int) (w : World) (hv : Ints w v l) (h4 : l.length = 4) (hF : F < 4) (hx : l[F]? = some x) :
    Calls Tryz.prog 116 #[v, .agg #[.int .i64 2, .int .i64 i, .int .i64 F, .int .i64 t, .int .i64 a]] w (Applied2 l 3 x w) := by
  obtain ⟨xa, ba, bt, _⟩ := apply_boxes w 2 i F t a 77 42
  have HV := Lib.hid (hv.ext xa)
  have HO := Lib.hid hv
  have XA := Lib.hid xa
  have BA := Lib.hid ba
  have BT := Lib.hid bt
  obtain ⟨b, off, cap, rfl, hbl⟩ := slice_at hv h4
  have HL : Hid (l.length ≤ 1048576) := Lib.hid (by omega)
  have H4 := Lib.hid h4
  rw [h4]
  have HX := Lib.hid hx
  clear hv xa ba bt h4 hx
  go_enter Tryz.func116, Tryz.ntmps116
  go_wp2_with fail
  refine (l1Own_any _ l _ (by rw [← H4.out]; exact HV.out) HL.out).mono ?_
  rintro e w1 ⟨v1, rfl, f1, x1⟩
  have F1 := Lib.hid f1
  have X1 := Lib.hid x1
  have ha := BA.out.ext x1
  have a0 := ha.cell 0 _ rfl
  have a2 := ha.cell 2 _ rfl
  have hb := BT.out.ext x1
  have d0 := hb.cell 0 _ rfl
  have d1 := hb.cell 1 _ rfl
  have z0 := hb.free 0 (of_decide_eq_true rfl)
  have z1 := hb.free 1 (of_decide_eq_true rfl)
  have gF := ints_cell (HO.out.ext (XA.out.trans x1)) HX.out
  have i1 : (0 : Int) ≤ (F : Int) := by omega
  have i2 : (F : Int) < 4 := by omega
  clear f1 x1 ha hb
  go_wp2
  go_region
  go_wp2
  have x7 : Ext w (((w1.setCell ⟨w.heap.size + 1, 0, none⟩ (.int .i64 3)).setCell ⟨w.heap.size + 1, 1, none⟩ (.int .i64 x)).drew) := Ext.drew (Below.setCell (Below.setCell (XA.out.trans X1.out) (Nat.le_succ _) _) (Nat.le_succ _) _)
  have hl2 : w.heap.size + 1 < ((w.alloc (.cells #[.int .i64 2, .int .i64 i, .int .i64 F, .int .i64 t, .int .i64 a] 77)).alloc (.cells #[.int .i64 0, .int .i64 0] 42)).heap.size := by simp
  have f7 := (((F1.out.set (w.heap.size + 1) 0 (.int .i64 3) hl2).set (w.heap.size + 1) 1 (.int .i64 x) hl2).ext (Ext.drew (Ext.refl _))).more (Nat.le_of_lt (Nat.lt_of_succ_lt hl2))
  exact bodyPost_ret (v := .tuple #[v1, .agg #[.int .i64 3, .int .i64 x]]) (by simp [results, Tryz.results116, go_sem, d0, d1]) rfl ⟨_, rfl, f7, x7⟩
set_option maxRecDepth 100000 in
set_option maxHeartbeats 4000000 in
theorem l11Apply_0 (v : Value) (l : List Int) (i t a : Int) (f : Int) (w : World) (hv : Ints w v l) (h4 : l.length = 4) :
    Calls Tryz.prog 116 #[v, .agg #[.int .i64 0, .int .i64 i, .int .i64 f, .int .i64 t, .int .i64 a]] w (Applied2 l 0 0 w) := by
  obtain ⟨xa, ba, bt, _⟩ := apply_boxes w 0 i f t a 77 42
  have HV := Lib.hid (hv.ext xa)
  have HO := Lib.hid hv
  have XA := Lib.hid xa
  have BA := Lib.hid ba
  have BT := Lib.hid bt
  obtain ⟨b, off, cap, rfl, hbl⟩ := slice_at hv h4
  have HL : Hid (l.length ≤ 1048576) := Lib.hid (by omega)
  have H4 := Lib.hid h4
  rw [h4]
  clear hv xa ba bt h4
  go_enter Tryz.func116, Tryz.ntmps116
  go_wp2_with fail
  refine (l1Own_any _ l _ (by rw [← H4.out]; exact HV.out) HL.out).mono ?_
  rintro e w1 ⟨v1, rfl, f1, x1⟩
  have F1 := Lib.hid f1
  have X1 := Lib.hid x1
  have ha := BA.out.ext x1
  have a0 := ha.cell 0 _ rfl
  have a2 := ha.cell 2 _ rfl
  have hb := BT.out.ext x1
  have d0 := hb.cell 0 _ rfl
  have d1 := hb.cell 1 _ rfl
  have z0 := hb.free 0 (of_decide_eq_true rfl)
  have z1 := hb.free 1 (of_decide_eq_true rfl)
  clear f1 x1 ha hb
  go_wp2
  have x7 : Ext w (((w1.setCell ⟨w.heap.size + 1, 0, none⟩ (.int .i64 0)).setCell ⟨w.heap.size + 1, 1, none⟩ (.int .i64 0))) := (Below.setCell (Below.setCell (XA.out.trans X1.out) (Nat.le_succ _) _) (Nat.le_succ _) _)
  have hl2 : w.heap.size + 1 < ((w.alloc (.cells #[.int .i64 0, .int .i64 i, .int .i64 f, .int .i64 t, .int .i64 a] 77)).alloc (.cells #[.int .i64 0, .int .i64 0] 42)).heap.size := by simp
  have f7 := (((F1.out.set (w.heap.size + 1) 0 (.int .i64 0) hl2).set (w.heap.size + 1) 1 (.int .i64 0) hl2)).more (Nat.le_of_lt (Nat.lt_of_succ_lt hl2))
  exact bodyPost_ret (v := .tuple #[v1, .agg #[.int .i64 0, .int .i64 0]]) (by simp [results, Tryz.results116, go_sem, d0, d1]) rfl ⟨_, rfl, f7, x7⟩
set_option maxRecDepth 100000 in
set_option maxHeartbeats 4000000 in
theorem l11Apply_poor (v : Value) (l : List Int) (i a : Int) (F T : Nat) (x : Int) (w : World) (hv : Ints w v l) (h4 : l.length = 4) (hF : F < 4) (hT : T < 4) (hx : l[F]? = some x) (hp : x < a) :
    Calls Tryz.prog 116 #[v, .agg #[.int .i64 1, .int .i64 i, .int .i64 F, .int .i64 T, .int .i64 a]] w (Applied2 l 2 0 w) := by
  obtain ⟨xa, ba, bt, _⟩ := apply_boxes w 1 i F T a 77 42
  have HV := Lib.hid (hv.ext xa)
  have HO := Lib.hid hv
  have XA := Lib.hid xa
  have BA := Lib.hid ba
  have BT := Lib.hid bt
  obtain ⟨b, off, cap, rfl, hbl⟩ := slice_at hv h4
  have HL : Hid (l.length ≤ 1048576) := Lib.hid (by omega)
  have H4 := Lib.hid h4
  rw [h4]
  have HX := Lib.hid hx
  clear hv xa ba bt h4 hx
  go_enter Tryz.func116, Tryz.ntmps116
  go_wp2_with fail
  refine (l1Own_any _ l _ (by rw [← H4.out]; exact HV.out) HL.out).mono ?_
  rintro e w1 ⟨v1, rfl, f1, x1⟩
  have F1 := Lib.hid f1
  have X1 := Lib.hid x1
  have ha := BA.out.ext x1
  have a0 := ha.cell 0 _ rfl
  have a2 := ha.cell 2 _ rfl
  have a3 := ha.cell 3 _ rfl
  have a4 := ha.cell 4 _ rfl
  have hb := BT.out.ext x1
  have d0 := hb.cell 0 _ rfl
  have d1 := hb.cell 1 _ rfl
  have z0 := hb.free 0 (of_decide_eq_true rfl)
  have z1 := hb.free 1 (of_decide_eq_true rfl)
  have gF := ints_cell (HO.out.ext (XA.out.trans x1)) HX.out
  have i1 : (0 : Int) ≤ (F : Int) := by omega
  have i2 : (F : Int) < 4 := by omega
  clear f1 x1 ha hb
  go_wp2
  go_quiet (fail)
  go_wp2
  have x7 : Ext w ((((w1.drewN nq).setCell ⟨w.heap.size + 1, 0, none⟩ (.int .i64 2)).setCell ⟨w.heap.size + 1, 1, none⟩ (.int .i64 0))) := (Below.setCell (Below.setCell ((XA.out.trans X1.out).drewN nq) (Nat.le_succ _) _) (Nat.le_succ _) _)
  have hl2 : w.heap.size + 1 < ((w.alloc (.cells #[.int .i64 1, .int .i64 i, .int .i64 F, .int .i64 T, .int .i64 a] 77)).alloc (.cells #[.int .i64 0, .int .i64 0] 42)).heap.size := by simp
  have f7 := (((F1.out.ext (Ext.drewN (Ext.refl _) nq)).set (w.heap.size + 1) 0 (.int .i64 2) hl2).set (w.heap.size + 1) 1 (.int .i64 0) hl2).more (Nat.le_of_lt (Nat.lt_of_succ_lt hl2))
  exact bodyPost_ret (v := .tuple #[v1, .agg #[.int .i64 2, .int .i64 0]]) (by simp [results, Tryz.results116, go_sem, d0, d1]) rfl ⟨_, rfl, f7, x7⟩
set_option maxRecDepth 100000 in
set_option maxHeartbeats 4000000 in
theorem l11Apply_done (v : Value) (l : List Int) (i a : Int) (F T : Nat) (x y : Int) (w : World) (hv : Ints w v l) (h4 : l.length = 4) (hF : F < 4) (hT : T < 4) (hx : l[F]? = some x) (hy : l[T]? = some y) (hne : F ≠ T) (hp : a ≤ x) (ha0 : 1 ≤ a) (ha1 : a ≤ 1000) (hx1 : x ≤ 400) (hy0 : 0 ≤ y) (hy1 : y ≤ 400) :
    Calls Tryz.prog 116 #[v, .agg #[.int .i64 1, .int .i64 i, .int .i64 F, .int .i64 T, .int .i64 a]] w (Applied2 ((l.set F (x - a)).set T (y + a)) 1 0 w) := by
  obtain ⟨xa, ba, bt, _⟩ := apply_boxes w 1 i F T a 77 42
  have HV := Lib.hid (hv.ext xa)
  have HO := Lib.hid hv
  have XA := Lib.hid xa
  have BA := Lib.hid ba
  have BT := Lib.hid bt
  obtain ⟨b, off, cap, rfl, hbl⟩ := slice_at hv h4
  have HL : Hid (l.length ≤ 1048576) := Lib.hid (by omega)
  have H4 := Lib.hid h4
  rw [h4]
  have HX := Lib.hid hx
  have HY := Lib.hid hy
  clear hv xa ba bt h4 hx hy
  go_enter Tryz.func116, Tryz.ntmps116
  go_wp2_with fail
  refine (l1Own_any _ l _ (by rw [← H4.out]; exact HV.out) HL.out).mono ?_
  rintro e w1 ⟨v1, rfl, f1, x1⟩
  have F1 := Lib.hid f1
  have X1 := Lib.hid x1
  have ha := BA.out.ext x1
  have a0 := ha.cell 0 _ rfl
  have a2 := ha.cell 2 _ rfl
  have a3 := ha.cell 3 _ rfl
  have a4 := ha.cell 4 _ rfl
  have hb := BT.out.ext x1
  have d0 := hb.cell 0 _ rfl
  have d1 := hb.cell 1 _ rfl
  have z0 := hb.free 0 (of_decide_eq_true rfl)
  have z1 := hb.free 1 (of_decide_eq_true rfl)
  have gF := ints_cell (HO.out.ext (XA.out.trans x1)) HX.out
  have i1 : (0 : Int) ≤ (F : Int) := by omega
  have i2 : (F : Int) < 4 := by omega
  obtain ⟨g, cg, rfl, hg1, hg2⟩ := fresh_at f1 H4.out
  have hg3 : w.heap.size + 1 < g := by simp at hg1; omega
  have n1 : w.heap.size ≠ g := by omega
  have n2 : w.heap.size + 1 ≠ g := by omega
  have hne' : T ≠ F := fun h => hne h.symm
  have j1 : (0 : Int) ≤ (T : Int) := by omega
  have j2 : (T : Int) < 4 := by omega
  have w1' : wrap64 (x - a) = x - a := by unfold wrap64; omega
  have w2' : wrap64 (y + a) = y + a := by unfold wrap64; omega
  have q1 := fresh_cell f1 H4.out HX.out
  have q2 := fresh_frozen f1 H4.out F
  have q3 := fresh_cell f1 H4.out HY.out
  have q4 := fresh_frozen f1 H4.out T
  clear f1 x1 ha hb
  go_wp2
  go_quiet (fail)
  go_wp2
  go_region
  go_wp2
  go_region
  go_wp2
  have x7 : Ext w ((((((w1.drewN (nq + 1)).setCell ⟨g, F, none⟩ (.int .i64 (x - a))).setCell ⟨g, T, none⟩ (.int .i64 (y + a))).setCell ⟨w.heap.size + 1, 0, none⟩ (.int .i64 1)).setCell ⟨w.heap.size + 1, 1, none⟩ (.int .i64 0)).drew) :=
    Ext.drew (Below.setCell (Below.setCell (Below.setCell (Below.setCell ((XA.out.trans X1.out).drewN (nq + 1)) (Nat.le_of_lt (Nat.lt_of_succ_lt hg3)) _) (Nat.le_of_lt (Nat.lt_of_succ_lt hg3)) _) (Nat.le_succ _) _) (Nat.le_succ _) _)
  have hl2 : w.heap.size + 1 < ((w.alloc (.cells #[.int .i64 1, .int .i64 i, .int .i64 F, .int .i64 T, .int .i64 a] 77)).alloc (.cells #[.int .i64 0, .int .i64 0] 42)).heap.size := by simp
  have f5 := (fresh_put (fresh_put (F1.out.ext (Ext.drewN (Ext.refl _) (nq + 1))) H4.out F (x - a)).1 (by simp [H4.out]) T (y + a)).1
  have f7 := (((f5.set (w.heap.size + 1) 0 (.int .i64 1) hl2).set (w.heap.size + 1) 1 (.int .i64 0) hl2).ext (Ext.drew (Ext.refl _))).more (Nat.le_of_lt (Nat.lt_of_succ_lt hl2))
  exact bodyPost_ret (v := .tuple #[.slice (some ⟨g, 0, none⟩) 4 cg, .agg #[.int .i64 1, .int .i64 0]]) (by simp [results, Tryz.results116, go_sem, d0, d1, n1, n2, hne, hne']) rfl ⟨_, rfl, f7, x7⟩
theorem l11Apply_any (v : Value) (l : List Int) (k i f t a : Int) (w : World) (hv : Ints w v l) (hg : goodS l = true) (hc : goodB k i f t a = true) :
    Calls Tryz.prog 116 #[v, .agg #[.int .i64 k, .int .i64 i, .int .i64 f, .int .i64 t, .int .i64 a]] w (Applied2 (didL k f t a l) (didC k f a l) (didS k f l) w) := by
  have h4 := (goodS_get hg).1
  rcases good_kind hc with rfl | rfl | rfl
  · exact l11Apply_0 v l i t a f w hv h4
  · obtain ⟨F, T, rfl, rfl, hF, hT, hne, ha, ha1⟩ := good_1 hc
    obtain ⟨x, hx, hx0, hx1⟩ := goodS_at hg hF
    obtain ⟨y, hy, hy0, hy1⟩ := goodS_at hg hT
    have e1 : l[((F : Int)).toNat]? = some x := hx
    have e2 : l[((T : Int)).toNat]? = some y := hy
    have k1 : (1 : Int) = 1 ↔ True := by decide
    have k2 : (1 : Int) = 2 ↔ False := by decide
    simp only [didL, didC, didS, e1, e2, Option.getD_some, k1, k2, if_true, if_false]
    by_cases h : x < a
    · rw [if_pos h, if_pos h]
      exact l11Apply_poor v l i a F T x w hv h4 hF hT hx h
    · rw [if_neg h, if_neg h]
      exact l11Apply_done v l i a F T x y w hv h4 hF hT hx hy hne (by omega) ha ha1 hx1 hy0 hy1
  · obtain ⟨F, rfl, hF⟩ := good_2 hc
    obtain ⟨x, hx, hx0, hx1⟩ := goodS_at hg hF
    have e1 : l[((F : Int)).toNat]? = some x := hx
    have k1 : (2 : Int) = 1 ↔ False := by decide
    have k2 : (2 : Int) = 2 ↔ True := by decide
    simp only [didL, didC, didS, e1, Option.getD_some, k1, k2, if_true, if_false]
    exact l11Apply_2 v l i t a F x w hv h4 hF hx
end Go.Proofs.YtcpmfcigciknlaaGreat

namespace Go.Proofs.YtcpmfcigciknlaaGreat
open Go.RowKit
set_option linter.unusedVariables false
theorem BoxV.grown {w w' : World} {b : Nat} {vs : List Value} {r : Option Nat} (h : BoxV w b vs) (t : w.grownBy w' r) (hne : r ≠ some b) : BoxV w' b vs := by
  have hb := t.block b h.lt (fun e => hne e.symm)
  refine ⟨fun j v hj => ?_, fun j hj => ?_, Nat.lt_of_lt_of_le h.lt t.size⟩
  · have := h.cell j v hj
    unfold World.cell? at this ⊢
    rw [hb]
    exact this
  · have := h.free j hj
    unfold World.frozen? at this ⊢
    rw [hb]
    exact this
end Go.Proofs.YtcpmfcigciknlaaGreat

namespace Go.Proofs.YtcpmfcigciknlaaGreat
open Go.RowKit
set_option linter.unusedVariables false
end Go.Proofs.YtcpmfcigciknlaaGreat

namespace Go.Proofs.YtcpmfcigciknlaaGreat
open Go.RowKit
set_option linter.unusedVariables false
def weigh (R : List RowD) : List Nat := R.map fun r => 9 + r.l.length
theorem weigh_len (R : List RowD) : (weigh R).length = R.length := by simp [weigh]
theorem weigh_get {R : List RowD} {k : Nat} (h : k < R.length) : (weigh R)[k]'(by rw [weigh_len]; exact h) = 9 + R[k].l.length := by simp [weigh]
theorem weigh_sum (R : List RowD) : (weigh R).sum ≤ 10 * bulkR R := by
  unfold weigh bulkR
  induction R with
  | nil => simp
  | cons r R ih => simp at ih ⊢; omega
set_option maxHeartbeats 4000000 in
set_option maxRecDepth 100000 in
theorem markRowS_any (lo hi : Nat) (v : Value) (R : List RowD) (k : Int) (w : World) (hv : FreshI lo hi w v R) (h0 : 0 ≤ k) (hk : k ≤ 1099511627776) (h1 : bulkR R ≤ 1099511627776) :
    Calls Tryz.prog 75 #[v, .int .i64 k] w (fun e w' => e = .returned (.int .i64 (k + (weigh R).sum)) ∧ Ins lo hi w w') := by
  obtain ⟨xs, us, ho, hC, hR, hout, hU, hUs⟩ := hv
  have hul : us.length = R.length := by have := hR.len; simpa using this
  have hws := weigh_sum R
  rcases ho.2 with ⟨rfl, hn⟩ | ⟨g, cap, cur, rfl, hb, hg, hnc, hcm, hcs, htake⟩
  · obtain rfl : R = [] := List.eq_nil_of_length_eq_zero hn
    clear h1 hws
    go_enter Tryz.func75, Tryz.ntmps75
    go_wp2
    refine wp_loop_rounds 1 ?_; rw [rounds_succ]
    go_wp2
    go_ret
    exact ⟨by simp [weigh], Ins.refl _ _ _⟩
  · have hout' : ∀ (j : Nat) (u : Value), us[j]? = some u → u.ownBlock = none ∨ u.ownBlock ≠ some g := hout
    have hgi : lo ≤ g ∧ g < hi := ⟨hb, hU g rfl⟩
    have hfr : Hid (∀ i (h : i < R.length) (h' : i < us.length), 0 ≤ i → Fresh lo w us[i] R[i].l) := Lib.hid fun i h h' _ => hR.row i _ _ (List.getElem?_eq_getElem h') (by simp [List.getElem?_eq_getElem h])
    have hxr : Hid (∀ i (h : i < R.length) (h' : i < us.length), 0 ≤ i → XRow xs (i * 10) R[i] us[i]) := Lib.hid fun i h h' _ => hC i h h'
    have HOUT := Lib.hid hout'
    have HAP := Lib.hid hR.apart
    have HUS := Lib.hid hUs
    have HUL := Lib.hid hul
    have HWS := Lib.hid hws
    have HGI := Lib.hid hgi
    have H1 := Lib.hid h1
    have hLen : R.length ≤ 1099511627776 := by unfold bulkR at h1; omega
    clear hg hnc hcm hcs htake cur hb hout hout' hU hUs hul hR hC hws hgi h1
    go_enter Tryz.func75, Tryz.ntmps75
    go_wp2
    go_loopw [1, 5] (fun m i wr => ∃ (j : Nat) (r : Int) (ys : List Value), j ≤ R.length ∧ i = .int .i64 j ∧ m = .int .i64 r ∧ Hid (r = k + sumN (weigh R) j) ∧ wr.ownsRow lo 83 10 (.slice (some ⟨g, 0, none⟩) R.length cap) R.length ys ∧ Hid (∀ i (h : i < R.length) (h' : i < us.length), j ≤ i → Fresh lo wr us[i] R[i].l) ∧ Hid (∀ i (h : i < R.length) (h' : i < us.length), j ≤ i → XRow ys (i * 10) R[i] us[i]) ∧ Ins lo hi w wr) (fun _ i _ => R.length - (intOf i).toNat)
    case atStart => exact ⟨0, k, xs, Nat.zero_le _, rfl, rfl, Lib.hid (by rw [sumN_zero]; simp), ho, hfr, hxr, Ins.refl _ _ _⟩
    case round =>
      clear ho hfr hxr
      obtain ⟨j, r, ys, hj, rfl, rfl, hr, ho, hF, hX, hI⟩ := hrel
      by_cases hlt : j < R.length
      · have hju : j < us.length := by rw [HUL.out]; exact hlt
        obtain ⟨d, hd⟩ : ∃ d, d = R[j] := ⟨_, rfl⟩
        obtain ⟨u, hu⟩ : ∃ u, u = us[j] := ⟨_, rfl⟩
        have hx := hX.out j hlt hju (Nat.le_refl _)
        have hf := hF.out j hlt hju (Nat.le_refl _)
        rw [← hd, ← hu] at hx hf
        have hlen : d.l.length ≤ 1099511627776 := by rw [hd]; have := bulkR_row hlt; have := H1.out; omega
        have hr0 : 0 ≤ r := by have := hr.out; omega
        have hr1 : r ≤ 21990232555520 := by
          have h := hr.out
          have h2 := sumN_mono (g := weigh R) (k := j) (by rw [weigh_len]; omega)
          have := HWS.out; have := H1.out; omega
        obtain ⟨g0, g1, g2, g3, g4, g5, g6, g7, g8, g9⟩ := hx.rowIn ho hlt
        have gf : ∀ q, wr.frozen? ⟨g, q, none⟩ = false := fun q => ho.frozenAt q
        obtain ⟨au, cu, rfl⟩ := hf.form
        have HO := Lib.hid ho
        have HFF := Lib.hid hf
        have HD := Lib.hid hd
        have HU := Lib.hid hu
        clear ho hf hx hd hu
        have hst := ownsRow_stores [.int .i64 r, .int .i64 (r + 1), .int .i64 (r + 1 + 1), .int .i64 (r + 1 + 1 + 1), .int .i64 (r + 1 + 1 + 1 + 1), .int .i64 (r + 1 + 1 + 1 + 1 + 1), .int .i64 (r + 1 + 1 + 1 + 1 + 1 + 1), .int .i64 (r + 1 + 1 + 1 + 1 + 1 + 1 + 1), .int .i64 (r + 1 + 1 + 1 + 1 + 1 + 1 + 1 + 1)] (j * 10) wr ys HO.out
        have hub : ∀ b, (Value.slice au d.l.length cu).ownBlock = some b → lo ≤ b ∧ b < hi ∧ b ≠ g := fun b e => by
          have h1 := (World.ownsRow.lt HFF.out b e).1
          have hju' : us[j]? = some (.slice au d.l.length cu) := by rw [List.getElem?_eq_getElem hju, HU.out]
          have h2 := HUS.out j _ hju' b e
          refine ⟨h1, h2, fun e' => ?_⟩
          rcases HOUT.out j _ hju' with h | h
          · rw [h] at e; cases e
          · exact h (by rw [e, e'])
        have hf9 : Fresh lo (wr.setCells g (j * 10) [.int .i64 r, .int .i64 (r + 1), .int .i64 (r + 1 + 1), .int .i64 (r + 1 + 1 + 1), .int .i64 (r + 1 + 1 + 1 + 1), .int .i64 (r + 1 + 1 + 1 + 1 + 1), .int .i64 (r + 1 + 1 + 1 + 1 + 1 + 1), .int .i64 (r + 1 + 1 + 1 + 1 + 1 + 1 + 1), .int .i64 (r + 1 + 1 + 1 + 1 + 1 + 1 + 1 + 1)]) (.slice au d.l.length cu) d.l := World.ownsRow.kept HFF.out hst.2 (by
          cases hob : (Value.slice au d.l.length cu).ownBlock with
          | none => exact .inl rfl
          | some b => exact .inr fun e => (hub b hob).2.2 (Option.some.inj e))
        have hi9 : Ins lo hi wr (wr.setCells g (j * 10) [.int .i64 r, .int .i64 (r + 1), .int .i64 (r + 1 + 1), .int .i64 (r + 1 + 1 + 1), .int .i64 (r + 1 + 1 + 1 + 1), .int .i64 (r + 1 + 1 + 1 + 1 + 1), .int .i64 (r + 1 + 1 + 1 + 1 + 1 + 1), .int .i64 (r + 1 + 1 + 1 + 1 + 1 + 1 + 1), .int .i64 (r + 1 + 1 + 1 + 1 + 1 + 1 + 1 + 1)]) := Ins.of_grown hst.2 (fun q e => by rw [← Option.some.inj e]; exact HGI.out)
        have HST := Lib.hid hst
        have HUB := Lib.hid hub
        have HF9 := Lib.hid hf9
        have HI9 := Lib.hid hi9
        clear hst hub hf9 hi9
        go_wp2_with fail
        refine (markIntS_any lo _ d.l _ (wr.setCells g (j * 10) [.int .i64 r, .int .i64 (r + 1), .int .i64 (r + 1 + 1), .int .i64 (r + 1 + 1 + 1), .int .i64 (r + 1 + 1 + 1 + 1), .int .i64 (r + 1 + 1 + 1 + 1 + 1), .int .i64 (r + 1 + 1 + 1 + 1 + 1 + 1), .int .i64 (r + 1 + 1 + 1 + 1 + 1 + 1 + 1), .int .i64 (r + 1 + 1 + 1 + 1 + 1 + 1 + 1 + 1)]) HF9.out (by omega) (by omega)).mono ?_
        rintro e w3 ⟨rfl, f3, t3⟩
        have T3 := Lib.hid t3
        have hs := sumN_succ (g := weigh R) (k := j) (by rw [weigh_len]; exact hlt)
        rw [weigh_get hlt, ← HD.out] at hs
        have HS := Lib.hid hs
        clear f3 t3 hs g0 g1 g2 g3 g4 g5 g6 g7 g8 g9 gf
        obtain ⟨q, hq⟩ : ∃ q, q = r + 1 + 1 + 1 + 1 + 1 + 1 + 1 + 1 + 1 + (d.l.length : Int) := ⟨_, rfl⟩
        have hq0 : 0 ≤ q := by omega
        rw [← hq]
        have HQ := Lib.hid hq
        clear hq
        go_wp2
        go_roundw
        case rel =>
          have hju' : us[j]? = some (.slice au d.l.length cu) := by rw [List.getElem?_eq_getElem hju, HU.out]
          refine ⟨j + 1, q, _, by omega, by go_num, rfl, Lib.hid (by have h1 := hr.out; have h2 := HS.out; have h3 := HQ.out; omega), World.ownsRow.kept HST.out.1 T3.out ?_, Lib.hid fun i h h' hij => ?_, Lib.hid fun i h h' hij => ?_, (hI.trans HI9.out).trans (Ins.of_grown T3.out (fun b e => ⟨(HUB.out b e).1, (HUB.out b e).2.1⟩))⟩
          · refine .inr fun e => ?_
            have := (HUB.out g e.symm).2.2
            exact this rfl
          · have h9 : Fresh lo (wr.setCells g (j * 10) [.int .i64 r, .int .i64 (r + 1), .int .i64 (r + 1 + 1), .int .i64 (r + 1 + 1 + 1), .int .i64 (r + 1 + 1 + 1 + 1), .int .i64 (r + 1 + 1 + 1 + 1 + 1), .int .i64 (r + 1 + 1 + 1 + 1 + 1 + 1), .int .i64 (r + 1 + 1 + 1 + 1 + 1 + 1 + 1), .int .i64 (r + 1 + 1 + 1 + 1 + 1 + 1 + 1 + 1)]) us[i] R[i].l := World.ownsRow.kept (hF.out i h h' (by omega)) HST.out.2 (HOUT.out i _ (List.getElem?_eq_getElem h'))
            exact World.ownsRow.kept h9 T3.out (HAP.out i j _ _ (by omega) (List.getElem?_eq_getElem h') hju')
          · have hl9 : ∀ (vs : List Value), vs.length = 9 → XRow (putL ys (j * 10) vs) (i * 10) R[i] us[i] := fun vs hvs => by
              obtain ⟨p0, p1, p2, p3, p4, p5, p6, p7, p8, p9⟩ := hX.out i h h' (by omega)
              refine ⟨?_, ?_, ?_, ?_, ?_, ?_, ?_, ?_, ?_, ?_⟩ <;> (rw [putL_out _ _ _ _ (by rw [hvs]; omega)]; assumption)
            exact hl9 _ rfl
        case measure => simp [intOf]; omega
      · obtain rfl : j = R.length := by omega
        go_wp2
        go_ret
        refine ⟨?_, hI⟩
        have h := hr.out
        have h2 := sumN_all (weigh R)
        rw [weigh_len] at h2
        rw [h2] at h
        rw [h]; rfl
end Go.Proofs.YtcpmfcigciknlaaGreat

namespace Go.Proofs.YtcpmfcigciknlaaGreat
open Go.RowKit
set_option linter.unusedVariables false
def AnsTd (lo hi : Nat) (w : World) (v : Value) (L : List TldD) : Prop := (L = [] ∧ v = .slice none 0 0) ∨ TdzM lo hi w v L
theorem AnsTd.reads {lo hi : Nat} {w : World} {v : Value} {L : List TldD} (h : AnsTd lo hi w v L) : Tdz w v L := by
  rcases h with ⟨rfl, rfl⟩ | h
  · exact Tdz.nil w
  · exact h.reads
theorem AnsTd.kept {lo hi : Nat} {w w' : World} {v : Value} {L : List TldD} (h : AnsTd lo hi w v L) (s : Stood lo hi w w') : AnsTd lo hi w' v L := by
  rcases h with h | h
  · exact .inl h
  · exact .inr (h.kept s)
end Go.Proofs.YtcpmfcigciknlaaGreat

namespace Go.Proofs.YtcpmfcigciknlaaGreat
open Go.RowKit
set_option linter.unusedVariables false
structure CmdD where
  k : Int
  i : Int
  f : Int
  t : Int
  a : Int
def cdVs (d : CmdD) : List Value := [.int .i64 d.k, .int .i64 d.i, .int .i64 d.f, .int .i64 d.t, .int .i64 d.a]
theorem cdVs_len (d : CmdD) : (cdVs d ).length = 5 := rfl
def CdIn (w : World) (b o : Nat) (d : CmdD) : Prop := ∀ j v, (cdVs d )[j]? = some v → w.cell? ⟨b, o + j, none⟩ = some v
theorem CdIn.ext {w w' : World} {b o : Nat} {d : CmdD} (h : CdIn w b o d ) (e : Ext w w') : CdIn w' b o d  := fun j v hj => e.cell (h j v hj)
theorem cdIn_cells {w : World} {b o : Nat} {d : CmdD} (h : CdIn w b o d ) :
    w.cell? ⟨b, o, none⟩ = some (.int .i64 d.k) ∧ w.cell? ⟨b, o + 1, none⟩ = some (.int .i64 d.i) ∧ w.cell? ⟨b, o + 2, none⟩ = some (.int .i64 d.f) ∧ w.cell? ⟨b, o + 3, none⟩ = some (.int .i64 d.t) ∧ w.cell? ⟨b, o + 4, none⟩ = some (.int .i64 d.a) :=
  ⟨h 0 _ rfl, h 1 _ rfl, h 2 _ rfl, h 3 _ rfl, h 4 _ rfl⟩
theorem cd_box (w : World) (T : TypeId) (d : CmdD) : BoxV (w.alloc (.cells #[.int .i64 d.k, .int .i64 d.i, .int .i64 d.f, .int .i64 d.t, .int .i64 d.a] T)) w.heap.size (cdVs d ) := boxV_new w (cdVs d ) T
def Cdz (w : World) (v : Value) (L : List CmdD) : Prop :=
  ∃ ao cap, v = .slice ao L.length cap ∧ L.length ≤ maxLen ∧ (L.length ≤ cap ∧ cap ≤ maxLen ∧ (ao = none → cap = 0)) ∧
    (0 < L.length → ∃ b off, ao = some ⟨b, off, none⟩ ∧ ∀ j (h : j < L.length), CdIn w b (off + j * 5) L[j] )
theorem Cdz.ext {w w' : World} {v : Value} {L : List CmdD} (h : Cdz w v L) (e : Ext w w') : Cdz w' v L := by
  obtain ⟨ao, cap, hv, hm, hcap, hc⟩ := h
  refine ⟨ao, cap, hv, hm, hcap, fun hp => ?_⟩
  obtain ⟨b, off, ha, hc⟩ := hc hp
  refine ⟨b, off, ha, fun j hj => ?_⟩
  have hu := hc j hj
  exact hu.ext e
theorem Cdz.nil (w : World) : Cdz w (.slice none 0 0) [] := ⟨none, 0, rfl, by simp, ⟨by simp, by simp, fun _ => rfl⟩, fun h => by simp at h⟩
def XCd (xs : List Value) (o : Nat) (d : CmdD) : Prop := ∀ q v, (cdVs d )[q]? = some v → xs[o + q]? = some v
theorem cd_lt {d : CmdD} {v : Value} {q : Nat} (h : (cdVs d )[q]? = some v) : q < 5 := by
  have := (List.getElem?_eq_some_iff.1 h).1
  rwa [cdVs_len] at this
theorem XCd.put_other {xs vs : List Value} {o p : Nat} {d : CmdD} (h : XCd xs o d ) (hv : vs.length = 5) (hap : o + 5 ≤ p ∨ p + 5 ≤ o) : XCd (putL xs p vs) o d  := by
  intro q v hq
  have := cd_lt hq
  rw [putL_out _ _ _ _ (by omega)]
  exact h q v hq
theorem XCd.put {xs : List Value} {o : Nat} {d : CmdD} (h : o + 5 ≤ xs.length) : XCd (putL xs o (cdVs d )) o d  := by
  intro q v hq
  have := cd_lt hq
  rw [putL_in _ o xs q (by rw [cdVs_len]; exact this) (by rw [cdVs_len]; exact h)]
  exact hq
theorem XCd.isIn {w : World} {b o : Nat} {xs : List Value} {d : CmdD} (h : BoxV w b xs) (hx : XCd xs o d ) : CdIn w b o d  := fun q v hq => h.cell _ _ (hx q v hq)
def CdsTo (xs : List Value) (L : List CmdD) (k : Nat) : Prop := ∀ j (h : j < L.length), j < k → XCd xs (j * 5) L[j]
theorem CdsTo.put {k : Nat} {xs : List Value} {L : List CmdD} (h : CdsTo xs L k) (hk : k < L.length) (hl : xs.length = L.length * 5) : CdsTo (putL xs (k * 5) (cdVs L[k])) L (k + 1) := by
  intro j hj hjk
  by_cases e : j = k
  · subst e
    exact XCd.put (by omega)
  · exact XCd.put_other (h j hj (by omega)) (cdVs_len _) (by omega)
def CdzM (lo hi : Nat) (w : World) (v : Value) (L : List CmdD) : Prop :=
  ∃ g xs, lo ≤ g ∧ g < hi ∧ v = .slice (some ⟨g, 0, none⟩) L.length L.length ∧ L.length ≤ maxLen ∧ BoxV w g xs ∧ xs.length = L.length * 5 ∧ CdsTo xs L L.length
theorem CdzM.reads {lo hi : Nat} {w : World} {v : Value} {L : List CmdD} (h : CdzM lo hi w v L) : Cdz w v L := by
  obtain ⟨g, xs, _, _, rfl, hm, hb, _, hc⟩ := h
  refine ⟨some ⟨g, 0, none⟩, _, rfl, hm, ⟨Nat.le_refl _, hm, fun h => by cases h⟩, fun _ => ⟨g, 0, rfl, fun j hj => ?_⟩⟩
  have a := hc j hj hj
  rw [Nat.zero_add]; exact XCd.isIn hb a
theorem CdzM.kept {lo hi : Nat} {w w' : World} {v : Value} {L : List CmdD} (h : CdzM lo hi w v L) (s : Stood lo hi w w') : CdzM lo hi w' v L := by
  obtain ⟨g, xs, hg, hh, hv, hm, hb, hl, hc⟩ := h
  exact ⟨g, xs, hg, hh, hv, hm, hb.kept s hg hh, hl, hc⟩
theorem CdzM.more {lo lo' hi hi' : Nat} {w : World} {v : Value} {L : List CmdD} (h : CdzM lo hi w v L) (h1 : lo' ≤ lo) (h2 : hi ≤ hi') : CdzM lo' hi' w v L := by
  obtain ⟨g, xs, hg, hh, r⟩ := h
  exact ⟨g, xs, Nat.le_trans h1 hg, Nat.lt_of_lt_of_le hh h2, r⟩
theorem CdzM.form {lo hi : Nat} {w : World} {v : Value} {L : List CmdD} (h : CdzM lo hi w v L) : ∃ a c, v = .slice a L.length c := by
  obtain ⟨g, _, _, _, hv, _⟩ := h
  exact ⟨_, _, hv⟩
end Go.Proofs.YtcpmfcigciknlaaGreat

namespace Go.Proofs.YtcpmfcigciknlaaGreat
open Go.RowKit
set_option linter.unusedVariables false
def cellsTd (x : TldD) : List Value := [.int .i64 x.c, .int .i64 x.s]
def flatTd (L : List TldD) : List Value := L.flatMap cellsTd
theorem flatTd_at {L : List TldD} {j : Nat} (h : j < L.length) : (flatTd L)[j * 2]? = some (.int .i64 L[j].c) ∧ (flatTd L)[j * 2 + 1]? = some (.int .i64 L[j].s) := by
  induction L generalizing j with
  | nil => simp at h
  | cons x t ih =>
    unfold flatTd
    rw [List.flatMap_cons]
    cases j with
    | zero => simp [cellsTd]
    | succ j =>
      have h' : j < t.length := by simpa using h
      obtain ⟨i1, i2⟩ := ih h'
      unfold flatTd at i1 i2
      have e1 : (j + 1) * 2 = (cellsTd x).length + j * 2 := by simp [cellsTd]; omega
      refine ⟨?_, ?_⟩
      · rw [e1, List.getElem?_append_right (by omega), Nat.add_sub_cancel_left, i1]
        simp
      · rw [e1, Nat.add_assoc, List.getElem?_append_right (by omega), Nat.add_sub_cancel_left, i2]
        simp
def FreshTd (B : Nat) (w : World) (v : Value) (L : List TldD) : Prop := w.ownsRow B 42 2 v L.length (flatTd L)
theorem FreshTd.nil (B : Nat) (w : World) : FreshTd B w (.slice none 0 0) [] := ⟨rfl, .inl ⟨rfl, rfl⟩⟩
theorem FreshTd.ext {B : Nat} {w w' : World} {v : Value} {L : List TldD} (h : FreshTd B w v L) (e : Ext w w') : FreshTd B w' v L := e.ownsRow h
theorem FreshTd.at {B : Nat} {w : World} {v : Value} {L : List TldD} (h : FreshTd B w v L) : Tdz w v L := by
  rcases h.2 with ⟨rfl, hn⟩ | ⟨g, cap, cur, rfl, hb, hg, hnc, hcm, hcs, htake⟩
  · obtain rfl : L = [] := List.eq_nil_of_length_eq_zero hn
    exact Tdz.nil w
  · refine ⟨some ⟨g, 0, none⟩, cap, rfl, by omega, ⟨by omega, by omega, fun h => by cases h⟩, fun _ => ⟨g, 0, rfl, fun j hj => ?_⟩⟩
    have hc1 := World.ownsRow.cellAt h (j * 2) (by omega)
    have hc2 := World.ownsRow.cellAt h (j * 2 + 1) (by omega)
    obtain ⟨f1, f2⟩ := flatTd_at hj
    rw [Nat.zero_add]
    intro q x hq
    match q, td_lt hq, hq with
    | 0, _, hq => simp [tdVs] at hq; subst hq; exact hc1.trans f1
    | 1, _, hq => simp [tdVs] at hq; subst hq; exact hc2.trans f2
theorem Tryz.infoTold : (Tryz.prog.info? 42).map (fun i => (i.zero, i.size, i.bytes)) = some (some (.agg #[.int .i64 0, .int .i64 0]), 2, 16) := by kernel_rfl
theorem wpList_pushTd {ops : Array Oper} {rest : List Oper} {o : Oper} {a : Act} {Q : Exit → Act → World → Prop} {w : World} (hgd : o.guard = none) (s x : Operand)
    (ho : o.op = .call { callee := .builtin .append, args := #[s, x], argTypes := #[120, 120] })
    (B : Nat) (v : Value) (L : List TldD) (y : TldD) (hs : a.eval s = v) (hf : FreshTd B w v L) (g : Nat) (c : Nat) (hx : a.eval x = .slice (some ⟨g, 0, none⟩) 1 c)
    (hc0 : w.cell? ⟨g, 0, none⟩ = some (.int .i64 y.c)) (hc1 : w.cell? ⟨g, 1, none⟩ = some (.int .i64 y.s)) (hl : L.length ≤ 1048576) (hB : B ≤ w.heap.size)
    (h : ∀ v' w', FreshTd B w' v' (L ++ [y]) → w.grownBy w' v.ownBlock → Kept B w w' → wpList Tryz.prog ops Q rest (a.put o.dst v') w') : wpList Tryz.prog ops Q (o :: rest) a w := by
  obtain ⟨i0, hi, hz0, hz1, hz2⟩ := info_parts Tryz.infoTold
  refine wpList_append_own _ hgd s x 120 ho B 42 i0 (.agg #[.int .i64 0, .int .i64 0]) 2 16 Tryz.underlying120 hi hz0 hz1 hz2 rfl (by decide) v L.length _ hs hf ⟨g, 0, none⟩ 1 c (cellsTd y) hx rfl ?_ ?_ ?_ ?_ hB ?_
  · intro j u hj
    match j, hj with
    | 0, hj => simp [cellsTd] at hj; subst hj; simpa [Addr.add] using hc0
    | 1, hj => simp [cellsTd] at hj; subst hj; simpa [Addr.add] using hc1
  · intro u hu
    simp [cellsTd] at hu
    rcases hu with rfl | rfl <;> rfl
  · unfold maxLen; omega
  · omega
  · intro v' w' ho' hg _
    refine h v' w' ?_ hg (fun w0 hx0 hB0 => Below.grown hx0 hg hx0.size (fun q hq => Nat.le_trans hB0 (World.ownsRow.lt hf q hq).1))
    unfold FreshTd
    have e : flatTd (L ++ [y]) = flatTd L ++ cellsTd y := by simp [flatTd]
    rw [e, List.length_append]
    exact ho'
def goodCd (d : CmdD) : Bool := goodB d.k d.i d.f d.t d.a
def cmdsB (L : List CmdD) : Bool := decide (L.length ≤ 60) && L.all goodCd
theorem cmdsB_yes {L : List CmdD} (h : cmdsB L = true) : L.length ≤ 60 ∧ ∀ j (hj : j < L.length), goodB L[j].k L[j].i L[j].f L[j].t L[j].a = true := by
  unfold cmdsB at h
  simp only [Bool.and_eq_true, decide_eq_true_eq, List.all_eq_true] at h
  exact ⟨h.1, fun j hj => h.2 _ (List.getElem_mem hj)⟩
theorem cmdsB_all {L : List CmdD} (h : ∀ j (hj : j < L.length), goodB L[j].k L[j].i L[j].f L[j].t L[j].a = true) : cmdsB L = decide (L.length ≤ 60) := by
  have : L.all goodCd = true := by
    rw [List.all_eq_true]
    intro x hx
    obtain ⟨j, hj, rfl⟩ := List.mem_iff_getElem.1 hx
    exact h j hj
  unfold cmdsB
  rw [this, Bool.and_true]
def didD (s : List Int) (d : CmdD) : List Int := didL d.k d.f d.t d.a s
def sumsAt (L : List CmdD) (j : Nat) : List Int := (L.take j).foldl didD [100, 100, 100, 100]
theorem sumsAt_succ {L : List CmdD} {j : Nat} (hj : j < L.length) : sumsAt L (j + 1) = didL L[j].k L[j].f L[j].t L[j].a (sumsAt L j) := by
  unfold sumsAt
  rw [List.take_add_one, List.getElem?_eq_getElem hj, List.foldl_append]
  rfl
theorem sumsAt_good {L : List CmdD} (h : ∀ j (hj : j < L.length), goodB L[j].k L[j].i L[j].f L[j].t L[j].a = true) : ∀ j, j ≤ L.length → goodS (sumsAt L j) = true
  | 0, _ => by unfold sumsAt; rfl
  | j + 1, hj => by
    rw [sumsAt_succ (by omega)]
    exact good_didL (sumsAt_good h j (by omega)) (h j (by omega))
def toldOne (s : List Int) (d : CmdD) : TldD := ⟨didC d.k d.f d.a s, didS d.k d.f s⟩
def toldN (L : List CmdD) (n : Nat) : List TldD := (List.range n).map fun j => toldOne (sumsAt L j) ((L[j]?).getD ⟨0, 0, 0, 0, 0⟩)
theorem toldN_len (L : List CmdD) (n : Nat) : (toldN L n).length = n := by simp [toldN]
theorem toldN_succ {L : List CmdD} {j : Nat} (hj : j < L.length) : toldN L (j + 1) = toldN L j ++ [toldOne (sumsAt L j) L[j]] := by
  unfold toldN
  rw [List.range_succ, List.map_append, List.map_singleton, List.getElem?_eq_getElem hj]
  rfl
theorem toldN_at {L : List CmdD} {n j : Nat} (hj : j < L.length) (hn : j < (toldN L n).length) : (toldN L n)[j] = toldOne (sumsAt L j) L[j] := by
  simp [toldN, List.getElem?_eq_getElem hj]
end Go.Proofs.YtcpmfcigciknlaaGreat

namespace Go.Proofs.YtcpmfcigciknlaaGreat
open Go.RowKit
set_option linter.unusedVariables false
structure EnD where
  r : Int
  n : Int
  k : Int
  i : Int
  f : Int
  t : Int
  a : Int
  c : Int
  s : Int
def enVs (d : EnD) : List Value := [.int .i64 d.r, .int .i64 d.n, .int .i64 d.k, .int .i64 d.i, .int .i64 d.f, .int .i64 d.t, .int .i64 d.a, .int .i64 d.c, .int .i64 d.s]
theorem enVs_len (d : EnD) : (enVs d ).length = 9 := rfl
def EnIn (w : World) (b o : Nat) (d : EnD) : Prop := ∀ j v, (enVs d )[j]? = some v → w.cell? ⟨b, o + j, none⟩ = some v
theorem EnIn.ext {w w' : World} {b o : Nat} {d : EnD} (h : EnIn w b o d ) (e : Ext w w') : EnIn w' b o d  := fun j v hj => e.cell (h j v hj)
theorem enIn_cells {w : World} {b o : Nat} {d : EnD} (h : EnIn w b o d ) :
    w.cell? ⟨b, o, none⟩ = some (.int .i64 d.r) ∧ w.cell? ⟨b, o + 1, none⟩ = some (.int .i64 d.n) ∧ w.cell? ⟨b, o + 2, none⟩ = some (.int .i64 d.k) ∧ w.cell? ⟨b, o + 3, none⟩ = some (.int .i64 d.i) ∧ w.cell? ⟨b, o + 4, none⟩ = some (.int .i64 d.f) ∧ w.cell? ⟨b, o + 5, none⟩ = some (.int .i64 d.t) ∧ w.cell? ⟨b, o + 6, none⟩ = some (.int .i64 d.a) ∧ w.cell? ⟨b, o + 7, none⟩ = some (.int .i64 d.c) ∧ w.cell? ⟨b, o + 8, none⟩ = some (.int .i64 d.s) :=
  ⟨h 0 _ rfl, h 1 _ rfl, h 2 _ rfl, h 3 _ rfl, h 4 _ rfl, h 5 _ rfl, h 6 _ rfl, h 7 _ rfl, h 8 _ rfl⟩
theorem en_box (w : World) (T : TypeId) (d : EnD) : BoxV (w.alloc (.cells #[.int .i64 d.r, .int .i64 d.n, .int .i64 d.k, .int .i64 d.i, .int .i64 d.f, .int .i64 d.t, .int .i64 d.a, .int .i64 d.c, .int .i64 d.s] T)) w.heap.size (enVs d ) := boxV_new w (enVs d ) T
def Enz (w : World) (v : Value) (L : List EnD) : Prop :=
  ∃ ao cap, v = .slice ao L.length cap ∧ L.length ≤ maxLen ∧ (L.length ≤ cap ∧ cap ≤ maxLen ∧ (ao = none → cap = 0)) ∧
    (0 < L.length → ∃ b off, ao = some ⟨b, off, none⟩ ∧ ∀ j (h : j < L.length), EnIn w b (off + j * 9) L[j] )
theorem Enz.ext {w w' : World} {v : Value} {L : List EnD} (h : Enz w v L) (e : Ext w w') : Enz w' v L := by
  obtain ⟨ao, cap, hv, hm, hcap, hc⟩ := h
  refine ⟨ao, cap, hv, hm, hcap, fun hp => ?_⟩
  obtain ⟨b, off, ha, hc⟩ := hc hp
  refine ⟨b, off, ha, fun j hj => ?_⟩
  have hu := hc j hj
  exact hu.ext e
theorem Enz.nil (w : World) : Enz w (.slice none 0 0) [] := ⟨none, 0, rfl, by simp, ⟨by simp, by simp, fun _ => rfl⟩, fun h => by simp at h⟩
def XEn (xs : List Value) (o : Nat) (d : EnD) : Prop := ∀ q v, (enVs d )[q]? = some v → xs[o + q]? = some v
theorem en_lt {d : EnD} {v : Value} {q : Nat} (h : (enVs d )[q]? = some v) : q < 9 := by
  have := (List.getElem?_eq_some_iff.1 h).1
  rwa [enVs_len] at this
theorem XEn.put_other {xs vs : List Value} {o p : Nat} {d : EnD} (h : XEn xs o d ) (hv : vs.length = 9) (hap : o + 9 ≤ p ∨ p + 9 ≤ o) : XEn (putL xs p vs) o d  := by
  intro q v hq
  have := en_lt hq
  rw [putL_out _ _ _ _ (by omega)]
  exact h q v hq
theorem XEn.put {xs : List Value} {o : Nat} {d : EnD} (h : o + 9 ≤ xs.length) : XEn (putL xs o (enVs d )) o d  := by
  intro q v hq
  have := en_lt hq
  rw [putL_in _ o xs q (by rw [enVs_len]; exact this) (by rw [enVs_len]; exact h)]
  exact hq
theorem XEn.isIn {w : World} {b o : Nat} {xs : List Value} {d : EnD} (h : BoxV w b xs) (hx : XEn xs o d ) : EnIn w b o d  := fun q v hq => h.cell _ _ (hx q v hq)
def EnsTo (xs : List Value) (L : List EnD) (k : Nat) : Prop := ∀ j (h : j < L.length), j < k → XEn xs (j * 9) L[j]
theorem EnsTo.put {k : Nat} {xs : List Value} {L : List EnD} (h : EnsTo xs L k) (hk : k < L.length) (hl : xs.length = L.length * 9) : EnsTo (putL xs (k * 9) (enVs L[k])) L (k + 1) := by
  intro j hj hjk
  by_cases e : j = k
  · subst e
    exact XEn.put (by omega)
  · exact XEn.put_other (h j hj (by omega)) (enVs_len _) (by omega)
def EnzM (lo hi : Nat) (w : World) (v : Value) (L : List EnD) : Prop :=
  ∃ g xs, lo ≤ g ∧ g < hi ∧ v = .slice (some ⟨g, 0, none⟩) L.length L.length ∧ L.length ≤ maxLen ∧ BoxV w g xs ∧ xs.length = L.length * 9 ∧ EnsTo xs L L.length
theorem EnzM.reads {lo hi : Nat} {w : World} {v : Value} {L : List EnD} (h : EnzM lo hi w v L) : Enz w v L := by
  obtain ⟨g, xs, _, _, rfl, hm, hb, _, hc⟩ := h
  refine ⟨some ⟨g, 0, none⟩, _, rfl, hm, ⟨Nat.le_refl _, hm, fun h => by cases h⟩, fun _ => ⟨g, 0, rfl, fun j hj => ?_⟩⟩
  have a := hc j hj hj
  rw [Nat.zero_add]; exact XEn.isIn hb a
theorem EnzM.kept {lo hi : Nat} {w w' : World} {v : Value} {L : List EnD} (h : EnzM lo hi w v L) (s : Stood lo hi w w') : EnzM lo hi w' v L := by
  obtain ⟨g, xs, hg, hh, hv, hm, hb, hl, hc⟩ := h
  exact ⟨g, xs, hg, hh, hv, hm, hb.kept s hg hh, hl, hc⟩
theorem EnzM.more {lo lo' hi hi' : Nat} {w : World} {v : Value} {L : List EnD} (h : EnzM lo hi w v L) (h1 : lo' ≤ lo) (h2 : hi ≤ hi') : EnzM lo' hi' w v L := by
  obtain ⟨g, xs, hg, hh, r⟩ := h
  exact ⟨g, xs, Nat.le_trans h1 hg, Nat.lt_of_lt_of_le hh h2, r⟩
theorem EnzM.form {lo hi : Nat} {w : World} {v : Value} {L : List EnD} (h : EnzM lo hi w v L) : ∃ a c, v = .slice a L.length c := by
  obtain ⟨g, _, _, _, hv, _⟩ := h
  exact ⟨_, _, hv⟩
end Go.Proofs.YtcpmfcigciknlaaGreat

namespace Go.Proofs.YtcpmfcigciknlaaGreat
open Go.RowKit
set_option linter.unusedVariables false
def cmdR (r : RowD) : CmdD := ⟨r.k, r.i, r.f, r.t, r.a⟩
noncomputable def bookC (n : Int) (T : List (List RowD)) : List CmdD := (ordPts n T).map fun x => cmdR (rowOf n T x.1 x.2)
theorem bookC_len (n : Int) (T : List (List RowD)) : (bookC n T).length = (ordPts n T).length := by simp [bookC]
def entE (x : Nat × Nat) (d : CmdD) (t : TldD) : EnD := ⟨(x.1 : Int), (x.2 : Int) + 1, d.k, d.i, d.f, d.t, d.a, t.c, t.s⟩
def entsTo (P : List (Nat × Nat)) (C : List CmdD) (k : Nat) : List EnD := (List.range k).map fun j => entE (P[j]?.getD (0, 0)) (C[j]?.getD ⟨0, 0, 0, 0, 0⟩) (toldOne (sumsAt C j) (C[j]?.getD ⟨0, 0, 0, 0, 0⟩))
theorem entsTo_len (P : List (Nat × Nat)) (C : List CmdD) (k : Nat) : (entsTo P C k).length = k := by simp [entsTo]
theorem entsTo_at {P : List (Nat × Nat)} {C : List CmdD} {m k : Nat} (hk : k < (entsTo P C m).length) (hP : k < P.length) (hC : k < C.length) : (entsTo P C m)[k] = entE P[k] C[k] (toldOne (sumsAt C k) C[k]) := by
  simp [entsTo, List.getElem?_eq_getElem hP, List.getElem?_eq_getElem hC]
theorem entsTo_succ {P : List (Nat × Nat)} {C : List CmdD} {k : Nat} (hP : k < P.length) (hC : k < C.length) : entsTo P C (k + 1) = entsTo P C k ++ [entE P[k] C[k] (toldOne (sumsAt C k) C[k])] := by
  unfold entsTo
  rw [List.range_succ, List.map_append, List.map_singleton, List.getElem?_eq_getElem hP, List.getElem?_eq_getElem hC]
  rfl
noncomputable def bookE (n : Int) (T : List (List RowD)) : List EnD := entsTo (ordPts n T) (bookC n T) (ordPts n T).length
noncomputable def bookS (n : Int) (T : List (List RowD)) : List Int := sumsAt (bookC n T) (bookC n T).length
noncomputable def bookER (n : Int) (T : List (List RowD)) : List EnD := if goodTab n T then bookE n T else []
noncomputable def bookSR (n : Int) (T : List (List RowD)) : List Int := if goodTab n T then bookS n T else []
theorem ordPts_mem {n : Int} {T : List (List RowD)} (hg : goodTab n T = true) {x : Nat × Nat} (hx : x ∈ ordPts n T) : x ∈ readyL n T := by
  unfold ordPts at hx
  obtain ⟨z, hz, rfl⟩ := List.mem_map.1 hx
  have hpm := orderL_perm (goodG_of (keysB_of (keysP_good hg)).1).1 (keysP n T (readyL n T))
  have h1 := (rangeI_mem _ _).1 (hpm.mem_iff.1 hz)
  have h2 : (graphP n T (readyL n T)).length = (readyL n T).length := by simp [graphP]
  have h3 : z.toNat < (readyL n T).length := by omega
  rw [List.getElem?_eq_getElem h3]
  exact List.getElem_mem h3
theorem ordPts_len {n : Int} {T : List (List RowD)} (hg : goodTab n T = true) : (ordPts n T).length ≤ 30 := by
  have h0 := orderL_perm (goodG_of (keysB_of (keysP_good hg)).1).1 (keysP n T (readyL n T))
  have h1 := h0.length_eq
  have h2 : (graphP n T (readyL n T)).length = (readyL n T).length := by simp [graphP]
  have h3 := readyL_short hg
  unfold ordPts
  rw [List.length_map, h1, rangeI_len]
  omega
theorem ordPts_row {n : Int} {T : List (List RowD)} (hg : goodTab n T = true) {x : Nat × Nat} (hx : x ∈ ordPts n T) :
    goodB (rowOf n T x.1 x.2).k (rowOf n T x.1 x.2).i (rowOf n T x.1 x.2).f (rowOf n T x.1 x.2).t (rowOf n T x.1 x.2).a = true ∧ x.1 < T.length ∧ x.2 ≤ 5 := by
  have h := com_row hg (readyB_com (ready_low hg (ordPts_mem hg hx)).1)
  exact ⟨h.1, h.2.2.1, h.2.2.2⟩
theorem bookC_good {n : Int} {T : List (List RowD)} (hg : goodTab n T = true) : ∀ j (hj : j < (bookC n T).length), goodB (bookC n T)[j].k (bookC n T)[j].i (bookC n T)[j].f (bookC n T)[j].t (bookC n T)[j].a = true := fun j hj => by
  have hm := List.getElem_mem hj
  obtain ⟨x, hx, e⟩ := List.mem_map.1 hm
  have h := (ordPts_row hg hx).1
  rw [← e]
  exact h
theorem bookC_ok {n : Int} {T : List (List RowD)} (hg : goodTab n T = true) : cmdsB (bookC n T) = true := by
  rw [cmdsB_all (bookC_good hg)]
  have := ordPts_len hg
  rw [bookC_len]
  exact decide_eq_true (by omega)
end Go.Proofs.YtcpmfcigciknlaaGreat

namespace Go.Proofs.YtcpmfcigciknlaaGreat
open Go.RowKit
set_option linter.unusedVariables false
theorem boxV_other_puts {b b' : Nat} (hne : b' ≠ b) : ∀ (vs : List Value) (o : Nat) (w : World) (xs : List Value), BoxV w b xs → BoxV (w.setCells b' o vs) b xs
  | [], _, _, _, h => h
  | v :: r, o, w, xs, h => boxV_other_puts hne r (o + 1) _ _ (h.other _ _ hne)
end Go.Proofs.YtcpmfcigciknlaaGreat
