/- Texts of this proof, part j: words, plain facts, contracts. -/
import Derived.Test.YthnoeknalpnadaaMSameOrdersi
import Derived.Deep.DeepCutAuto
import Derived.Test.YthnoeknalpnadaaMSameOrdersg
import Derived.Deep.Quiet
import Derived.BigRegion
import Derived.Test.YthnoeknalpnadaaMSameOrdersa

namespace Go.Proofs.Ythnoeknalpnadaa
open Go.RowKit Go.Maps
set_option linter.unusedVariables false

theorem pairOf_inj' {x y : Nat × Nat} (h : pairOf x = pairOf y) : x = y := by
  unfold pairOf at h
  simp only [List.cons.injEq, and_true] at h
  exact Prod.ext (by omega) (by omega)
theorem found_in {L : List (Nat × Nat)} {x : Nat × Nat} {r : Int} (h : FoundAt (L.map pairOf) (pairOf x) r) : ((∃ k : Nat, r = (k : Int)) ∧ x ∈ L) ∨ (r = -1 ∧ x ∉ L) := by
  rcases h with ⟨k, rfl, hk, _⟩ | ⟨rfl, hno⟩
  · refine .inl ⟨⟨k, rfl⟩, ?_⟩
    rw [List.getElem?_map] at hk
    cases hL : L[k]? with
    | none => rw [hL] at hk; simp at hk
    | some y =>
      rw [hL] at hk
      simp only [Option.map_some, Option.some.injEq] at hk
      rw [← pairOf_inj' hk]
      exact List.mem_of_getElem? hL
  · exact .inr ⟨rfl, fun hm => hno (List.mem_map.2 ⟨x, hm, rfl⟩)⟩
theorem FreshV.big {B : Nat} {w : World} {v : Value} {vs : List Value} (h : FreshV B w v vs) (hp : 0 < vs.length) : ∃ g cap, v = .slice (some ⟨g, 0, none⟩) vs.length cap ∧ vs.length ≤ cap ∧ cap ≤ maxLen := by
  have h0 : w.ownsRow B 37 1 v vs.length vs := h
  rcases h0.2 with ⟨rfl, hn⟩ | ⟨g, cap, cur, rfl, _, _, h1, h2, _⟩
  · omega
  · exact ⟨g, cap, rfl, h1, h2⟩
theorem inst_st {n : Int} {T : List (List RowD)} {p q : Nat} (hp : p < T.length) : ((rowOf n T p q).st == 3) = instCom T p q := by
  unfold instCom
  rw [List.getElem?_eq_getElem hp, Option.getD_some]
  by_cases hq : q < T[p].length
  · rw [rowOf_in hp hq, List.getElem?_eq_getElem hq]
  · rw [rowOf_out hp (by omega), List.getElem?_eq_none (by omega)]
    rfl
theorem field_rowS (b v st k i f t a s : Int) (u : Value) (W : World) : (Instr.field 71 (.agg #[.int .i64 b, .int .i64 v, .int .i64 st, .int .i64 k, .int .i64 i, .int .i64 f, .int .i64 t, .int .i64 a, .int .i64 s, u]) 2).run Try.prog W = .ok (.int .i64 st) W := by kernel_rfl
theorem depsL_row {n : Int} {T : List (List RowD)} (hg : goodTab n T = true) {y x : Nat × Nat} (hy : instCom T y.1 y.2 = true) (hx : x ∈ depsL n T y) : x.1 < T.length := by
  have h := (mem_depsL.1 hx).1
  unfold hungL hungTo hungAt depM at h
  simp only [List.mem_flatMap, List.mem_range, List.mem_map] at h
  obtain ⟨p, hp, i, hi, rfl⟩ := h
  have h1 := (com_row hg hy).2.1
  show p < T.length
  omega
theorem depsL_len {n : Int} {T : List (List RowD)} (hg : goodTab n T = true) {y : Nat × Nat} (hy : y.1 < T.length) : (depsL n T y).length ≤ 1000 := by
  have h1 := depsTo_len (r := rowOf n T y.1 y.2) (x := y) (fun k => by have := dep_in hg hy y.2 k; unfold depN; omega) (rowOf n T y.1 y.2).l.length
  have h2 := rowOf_list hg hy y.2
  show (depsTo (rowOf n T y.1 y.2) y (rowOf n T y.1 y.2).l.length).length ≤ 1000
  omega

/-- What the model's l6Blockers tells. -/
def BlkR (n : Int) (T : List (List RowD)) (x0 : Nat × Nat) (w : World) (e : Ending) (w' : World) : Prop :=
  ∃ v os s i, e = .returned v ∧ PairsAt w' v os s.2 ∧ BlkI n T x0 i 0 s ∧ s.1.length ≤ i ∧ BlkB s ∧ Ext w w'

theorem addB_old {T : List (List RowD)} {s : List (Nat × Nat) × List (Nat × Nat)} {x : Nat × Nat} (h : x ∈ s.1 ∨ x ∈ s.2) : addB T s x = s := by unfold addB; rw [if_pos h]
theorem addB_com {T : List (List RowD)} {s : List (Nat × Nat) × List (Nat × Nat)} {x : Nat × Nat} (h1 : x ∉ s.1) (h2 : x ∉ s.2) (h : instCom T x.1 x.2 = true) : addB T s x = (s.1 ++ [x], s.2) := by
  unfold addB; rw [if_neg (by simp [h1, h2]), if_pos h]
theorem addB_not {T : List (List RowD)} {s : List (Nat × Nat) × List (Nat × Nat)} {x : Nat × Nat} (h1 : x ∉ s.1) (h2 : x ∉ s.2) (h : instCom T x.1 x.2 = false) : addB T s x = (s.1, insL s.2 x) := by
  unfold addB; rw [if_neg (by simp [h1, h2]), if_neg (by rw [h]; simp)]

end Go.Proofs.Ythnoeknalpnadaa

namespace Go.Proofs.Ythnoeknalpnadaa
open Go.RowKit Go.Maps
set_option linter.unusedVariables false

/-- Where a list stands first, or -1. -/
def findI (L : List (List Int)) (x : List Int) : Int := if x ∈ L then ((L.findIdx (fun y => decide (y = x)) : Nat) : Int) else -1
theorem findI_of {L : List (List Int)} {x : List Int} {r : Int} (h : FoundAt L x r) : r = findI L x := by
  unfold findI
  rcases h with ⟨k, rfl, hk, hn⟩ | ⟨rfl, hno⟩
  · have hm : x ∈ L := List.mem_of_getElem? hk
    rw [if_pos hm]
    obtain ⟨hlt, e⟩ := List.getElem?_eq_some_iff.1 hk
    have : L.findIdx (fun y => decide (y = x)) = k := by
      rw [List.findIdx_eq hlt]
      refine ⟨by simp [e], fun j hj => ?_⟩
      have h1 := hn j hj
      rw [List.getElem?_eq_getElem (by omega)] at h1
      simpa using h1
    rw [this]
  · rw [if_neg hno]
theorem l6Find_val (v u : Value) (L : List (List Int)) (x : List Int) (w : World) (hv : Intss w v L) (hu : Ints w u x) :
    Calls Try.prog 113 #[v, u] w (fun e w' => e = .returned (.int .i64 (findI L x)) ∧ Ext w w') :=
  (l6Find_any v u L x w hv hu).mono (by
    rintro e w' ⟨r, rfl, hf, hx⟩
    exact ⟨by rw [findI_of hf], hx⟩)
theorem Intss.upto {w : World} {a : Option Addr} {n c : Nat} {L : List (List Int)} (h : Intss w (.slice a n c) L) (k : Nat) (hk : k ≤ L.length) : Intss w (.slice a k c) (L.take k) := by
  obtain ⟨ao, cap, hv, hm, hcap, hc⟩ := h
  simp only [Value.slice.injEq] at hv
  obtain ⟨rfl, rfl, rfl⟩ := hv
  have e : (L.take k).length = k := by rw [List.length_take]; omega
  refine ⟨a, c, by rw [e], by rw [e]; omega, ⟨by rw [e]; omega, hcap.2.1, hcap.2.2⟩, fun hp => ?_⟩
  obtain ⟨b, off, ha, hd⟩ := hc (by omega)
  refine ⟨b, off, ha, fun j hj => ?_⟩
  rw [e] at hj
  obtain ⟨u, hu, hi⟩ := hd j (by omega)
  refine ⟨u, hu, ?_⟩
  rw [List.getElem?_take, if_pos hj]
  exact hi

def instAt (n : Int) (L : List (List Int)) (k : Nat) : Bool := decide ((L[k]?.getD []).length = 2) && (instB n ((L[k]?.getD [])[0]?.getD 0) ((L[k]?.getD [])[1]?.getD 0) && !decide (L[k]?.getD [] ∈ L.take k))
/-- Are they instances, each once? -/
def instsB (n : Int) (L : List (List Int)) : Bool := (List.range L.length).all (instAt n L)
theorem instsB_no {n : Int} {L : List (List Int)} {k : Nat} (hk : k < L.length) (h : instAt n L k = false) : instsB n L = false := by
  unfold instsB
  rw [List.all_eq_false]
  exact ⟨k, List.mem_range.2 hk, by rw [h]; simp⟩

set_option maxHeartbeats 8000000 in
set_option maxRecDepth 100000 in
theorem l6Insts_any (n : Int) (u v : Value) (L : List (List Int)) (w : World) (hv : Intss w v L) (h3 : 3 ≤ n) (h5 : n ≤ 5) :
    Calls Try.prog 112 #[.agg #[.int .i64 n, u], v] w (BoolExt (instsB n L) w) := by
  obtain ⟨wb, hwb⟩ : ∃ wb, wb = w.alloc (.cells #[.int .i64 n, u] 24) := ⟨_, rfl⟩
  have xb : Ext w wb := by rw [hwb]; exact Ext.alloc1 _ _
  have b0 := attrAt_new w 24 n u
  rw [← hwb] at b0
  have HV := Lib.hid (hv.ext xb)
  have HB := Lib.hid b0
  have XB := Lib.hid xb
  have HWB := Lib.hid hwb
  obtain ⟨av, cv, rfl, hlv, hcapv, hcv⟩ := hv
  unfold maxLen at hlv
  have HCV := Lib.hid hcv
  have hcapv1 := hcapv.1
  have hcapv2 := hcapv.2.1
  unfold maxLen at hcapv2
  clear xb b0 hwb hcv hcapv
  go_enter Try.func112, Try.ntmps112
  go_wp2
  rw [← HWB.out]
  go_loopw [9] (fun i wr => ∃ k : Nat, k ≤ L.length ∧ i = .int .i64 k ∧ Hid ((List.range k).all (instAt n L) = true) ∧ Hid (Ext wb wr)) (fun i _ => L.length - (intOf i).toNat)
  case atStart => exact ⟨0, Nat.zero_le _, rfl, Lib.hid rfl, Lib.hid (Ext.refl _)⟩
  case round =>
    obtain ⟨k, hk, rfl, HA, HX⟩ := hrel
    by_cases hlt : k < L.length
    · obtain ⟨b, off, rfl, dv⟩ := HCV.out (by omega)
      obtain ⟨x, hx⟩ : ∃ x, x = L[k]?.getD [] := ⟨_, rfl⟩
      obtain ⟨xv, hx1, ix⟩ := dv k hlt
      rw [← hx] at ix
      have gx := (XB.out.trans HX.out).cell hx1
      have IX := Lib.hid (ix.ext (XB.out.trans HX.out))
      have HIA : Hid (instAt n L k = (decide (x.length = 2) && (instB n (x[0]?.getD 0) (x[1]?.getD 0) && !decide (x ∈ L.take k)))) := Lib.hid (by unfold instAt; rw [← hx])
      obtain ⟨ax, cx, rfl, hlx, _, hcx⟩ := ix
      unfold maxLen at hlx
      have HLT := Lib.hid hlt
      obtain ⟨b0, b1⟩ := HB.out.ext HX.out
      have b0 := fun E : ExtOf wr => E.cell b0
      clear dv hx1 hx b1
      by_cases h2 : x.length = 2
      · obtain ⟨bx, ox, rfl, dx⟩ := hcx (by omega)
        have k0 := (XB.out.trans HX.out).cell (dx 0 (by omega))
        have k1 := (XB.out.trans HX.out).cell (dx 1 (by omega))
        obtain ⟨x0, hx0⟩ : ∃ x0, x0 = x[0]?.getD 0 := ⟨_, rfl⟩
        obtain ⟨x1, hx1⟩ : ∃ x1, x1 = x[1]?.getD 0 := ⟨_, rfl⟩
        rw [← hx0] at k0
        rw [← hx1] at k1
        rw [Nat.add_zero] at k0
        have k0 := fun E : ExtOf wr => E.cell k0
        have k1 := fun E : ExtOf wr => E.cell k1
        obtain ⟨b1, hb1⟩ : ∃ b1, b1 = instB n x0 x1 := ⟨_, rfl⟩
        have cI : ∀ E : ExtOf wr, Calls Try.prog 131 #[.int .i64 n, .int .i64 x0, .int .i64 x1] E.1 (fun e w' => e = .returned (.bool b1) ∧ Ext E.1 w') := fun E => by
          rw [hb1]
          exact (l3Inst_any n x0 x1 E.1 h3 h5).mono (by rintro e w' ⟨rfl, rfl⟩; exact ⟨rfl, Ext.refl _⟩)
        have HIB : Hid (instAt n L k = (b1 && !decide (x ∈ L.take k))) := Lib.hid (by rw [HIA.out, decide_eq_true h2, Bool.true_and, hb1, hx0, hx1])
        rw [h2] at IX gx
        have cF : ∀ E : ExtOf wr, Calls Try.prog 113 #[.slice (some ⟨b, off, none⟩) k cv, .slice (some ⟨bx, ox, none⟩) 2 cx] E.1 (fun e w' => e = .returned (.int .i64 (findI (L.take k) x)) ∧ Ext E.1 w') := fun E =>
          l6Find_val _ _ (L.take k) x E.1 ((HV.out.ext (HX.out.trans E.2)).upto k (by omega)) (IX.out.ext E.2)
        clear HIA hb1 hx0 hx1 hcx dx hlx h2
        cases b1 with
        | false =>
          have HNO : Hid (instAt n L k = false) := Lib.hid (by rw [HIB.out]; rfl)
          clear HIB cF
          go_wp2_with fail
          refine wp_region_ext_lit (by kernel_rfl) (by kernel_rfl) ?_
          repeat (go_big_quiet_step (first | (go_at_call 131; with_reducible exact Calls.ext_of _ (cI _))))
          refine wpQuiet_nil ?_
          rintro _ ⟨E, rfl⟩
          clear b0 gx k0 k1 cI
          go_wp2
          go_ret
          exact ⟨by rw [instsB_no HLT.out HNO.out]; rfl, (XB.out.trans HX.out).trans E.2⟩
        | true =>
          by_cases hm : x ∈ L.take k
          · obtain ⟨f, hf⟩ : ∃ f : Nat, findI (L.take k) x = (f : Int) := ⟨_, by unfold findI; rw [if_pos hm]⟩
            rw [hf] at cF
            have hf0 : (0 : Int) ≤ (f : Int) := by omega
            have HNO : Hid (instAt n L k = false) := Lib.hid (by rw [HIB.out, decide_eq_true hm]; rfl)
            clear HIB hm hf
            go_wp2_with fail
            refine wp_region_ext_lit (by kernel_rfl) (by kernel_rfl) ?_
            repeat (go_big_quiet_step (first | (go_at_call 131; with_reducible exact Calls.ext_of _ (cI _)) | (go_at_call 113; with_reducible exact Calls.ext_of _ (cF _))))
            refine wpQuiet_nil ?_
            rintro _ ⟨E, rfl⟩
            clear b0 gx k0 k1 cI cF
            go_wp2
            go_ret
            exact ⟨by rw [instsB_no HLT.out HNO.out]; rfl, (XB.out.trans HX.out).trans E.2⟩
          · have hf : findI (L.take k) x = -1 := by unfold findI; rw [if_neg hm]
            rw [hf] at cF
            have HYE : Hid (instAt n L k = true) := Lib.hid (by rw [HIB.out, decide_eq_false hm]; rfl)
            clear HIB hm hf
            go_wp2_with fail
            refine wp_region_ext_lit (by kernel_rfl) (by kernel_rfl) ?_
            repeat (go_big_quiet_step (first | (go_at_call 131; with_reducible exact Calls.ext_of _ (cI _)) | (go_at_call 113; with_reducible exact Calls.ext_of _ (cF _))))
            refine wpQuiet_nil ?_
            rintro _ ⟨E, rfl⟩
            have HA2 : Hid ((List.range (k + 1)).all (instAt n L) = true) := Lib.hid (by rw [List.range_succ, List.all_append, HA.out]; simp [HYE.out])
            have HX2 := Lib.hid (HX.out.trans E.2)
            clear b0 gx k0 k1 cI cF HA HX
            go_wp2
            go_roundw
            case rel => exact ⟨k + 1, by omega, by go_num, HA2, HX2⟩
            case measure => simp [intOf]; omega
      · have e2 : ((x.length : Int) != 2) = true := by simp; omega
        have HNO : Hid (instAt n L k = false) := Lib.hid (by rw [HIA.out, decide_eq_false h2]; rfl)
        clear h2 hcx HIA
        go_wp2_with fail
        refine wp_region_ext_lit (by kernel_rfl) (by kernel_rfl) ?_
        repeat (go_big_quiet_step (first | fail))
        refine wpQuiet_nil ?_
        rintro _ ⟨E, rfl⟩
        clear b0 gx
        go_wp2
        go_ret
        exact ⟨by rw [instsB_no HLT.out HNO.out]; rfl, (XB.out.trans HX.out).trans E.2⟩
    · obtain rfl : k = L.length := by omega
      have HYES : Hid (instsB n L = true) := HA
      go_wp2
      go_ret
      exact ⟨by rw [HYES.out]; rfl, XB.out.trans HX.out⟩
end Go.Proofs.Ythnoeknalpnadaa

namespace Go.Proofs.Ythnoeknalpnadaa
open Go.RowKit Go.Maps
set_option linter.unusedVariables false

def idxOf (B : List (Nat × Nat)) (x : Nat × Nat) : Nat := B.findIdx fun y => decide (y = x)
theorem findI_yes {B : List (Nat × Nat)} {x : Nat × Nat} (h : x ∈ B) : findI (B.map pairOf) (pairOf x) = (idxOf B x : Int) := by
  unfold findI idxOf
  rw [if_pos (List.mem_map.2 ⟨x, h, rfl⟩), List.findIdx_map]
  have e : ((fun y => decide (y = pairOf x)) ∘ pairOf) = fun y : Nat × Nat => decide (y = x) := by
    funext y
    simp only [Function.comp]
    by_cases hy : y = x
    · simp [hy]
    · have : pairOf y ≠ pairOf x := fun e => hy (pairOf_inj' e)
      simp [hy, this]
  rw [e]
theorem findI_no {B : List (Nat × Nat)} {x : Nat × Nat} (h : x ∉ B) : findI (B.map pairOf) (pairOf x) = -1 := by
  unfold findI
  rw [if_neg]
  intro hm
  obtain ⟨y, hy, e⟩ := List.mem_map.1 hm
  exact h (by rw [← pairOf_inj' e]; exact hy)
/-- Do the commands of two instances interfere? -/
def intf (n : Int) (T : List (List RowD)) (x y : Nat × Nat) : Bool := interB (rowOf n T x.1 x.2).k (rowOf n T x.1 x.2).f (rowOf n T x.1 x.2).t (rowOf n T y.1 y.2).k (rowOf n T y.1 y.2).f (rowOf n T y.1 y.2).t
/-- x ahead of y in one list, behind it in B. -/
def hitB (n : Int) (T : List (List RowD)) (B : List (Nat × Nat)) (x y : Nat × Nat) : Bool := decide (x ∈ B) && (decide (y ∈ B) && (decide (idxOf B y < idxOf B x) && intf n T x y))
def hitAt (n : Int) (T : List (List RowD)) (A B : List (Nat × Nat)) (i j : Nat) : Bool := hitB n T B (A[i]?.getD (0, 0)) (A[j]?.getD (0, 0))
def rowOk (n : Int) (T : List (List RowD)) (A B : List (Nat × Nat)) (j k : Nat) : Bool := (List.range k).all fun i => !hitAt n T A B i j
def ordOk (n : Int) (T : List (List RowD)) (A B : List (Nat × Nat)) (k : Nat) : Bool := (List.range k).all fun j => rowOk n T A B j j
theorem rowOk_succ {n : Int} {T : List (List RowD)} {A B : List (Nat × Nat)} {j k : Nat} (h : rowOk n T A B j k = true) (hh : hitAt n T A B k j = false) : rowOk n T A B j (k + 1) = true := by
  unfold rowOk at *
  rw [List.range_succ, List.all_append, h]
  simp [hh]
theorem ordOk_succ {n : Int} {T : List (List RowD)} {A B : List (Nat × Nat)} {k : Nat} (h : ordOk n T A B k = true) (hh : rowOk n T A B k k = true) : ordOk n T A B (k + 1) = true := by
  unfold ordOk at *
  rw [List.range_succ, List.all_append, h]
  simp [hh]
theorem ordOk_no {n : Int} {T : List (List RowD)} {A B : List (Nat × Nat)} {i j : Nat} (hi : i < j) (hj : j < A.length) (h : hitAt n T A B i j = true) : ordOk n T A B A.length = false := by
  unfold ordOk
  rw [List.all_eq_false]
  refine ⟨j, List.mem_range.2 hj, ?_⟩
  simp only [Bool.not_eq_true]
  unfold rowOk
  rw [List.all_eq_false]
  exact ⟨i, List.mem_range.2 hi, by rw [h]; simp⟩

/-- The instances of a list of pairs. -/
def instsOf (L : List (List Int)) : List (Nat × Nat) := L.map fun l => ((l[0]?.getD 0).toNat, (l[1]?.getD 0 - 1).toNat)
theorem instsB_of {n : Int} {T : List (List RowD)} {L : List (List Int)} (hg : goodTab n T = true) (h : instsB n L = true) : L = (instsOf L).map pairOf ∧ (instsOf L).Nodup ∧ ∀ z ∈ instsOf L, z.1 < T.length ∧ z.2 ≤ 5 := by
  have hk : ∀ k (hk : k < L.length), L[k].length = 2 ∧ instB n (L[k][0]?.getD 0) (L[k][1]?.getD 0) = true ∧ L[k] ∉ L.take k := by
    intro k hk
    unfold instsB at h
    have h1 := List.all_eq_true.1 h k (List.mem_range.2 hk)
    unfold instAt at h1
    rw [List.getElem?_eq_getElem hk, Option.getD_some] at h1
    simp only [Bool.and_eq_true, decide_eq_true_eq, Bool.not_eq_true', decide_eq_false_iff_not] at h1
    exact h1
  have hpair : ∀ l ∈ L, ∃ z : Nat × Nat, l = pairOf z ∧ z = ((l[0]?.getD 0).toNat, (l[1]?.getD 0 - 1).toNat) ∧ z.1 < T.length ∧ z.2 ≤ 5 := by
    intro l hl
    obtain ⟨k, hk', e⟩ := List.getElem_of_mem hl
    obtain ⟨h1, h2, _⟩ := hk k hk'
    rw [e] at h1 h2
    obtain ⟨p, q, e1, e2, hp, hq⟩ := inst_nat hg h2
    refine ⟨(p, q), ?_, ?_, hp, hq⟩
    · match l, h1 with
      | [a, b], _ =>
        simp at e1 e2
        unfold pairOf
        simp [e1, e2]
    · rw [e1, e2]
      exact Prod.ext (by simp) (by simp)
  refine ⟨?_, ?_, ?_⟩
  · unfold instsOf
    rw [List.map_map]
    conv => lhs; rw [← List.map_id L]
    refine List.map_congr_left (fun l hl => ?_)
    obtain ⟨z, e1, e2, _⟩ := hpair l hl
    simp only [id, Function.comp]
    rw [← e2, ← e1]
  · unfold instsOf List.Nodup
    rw [List.pairwise_map, List.pairwise_iff_getElem]
    intro i j hi hj hij e
    obtain ⟨zi, a1, a2, _⟩ := hpair L[i] (List.getElem_mem hi)
    obtain ⟨zj, b1, b2, _⟩ := hpair L[j] (List.getElem_mem hj)
    rw [← a2, ← b2] at e
    have hne := (hk j hj).2.2
    apply hne
    rw [b1, ← e, ← a1]
    rw [List.mem_take_iff_getElem]
    exact ⟨i, by omega, rfl⟩
  · intro z hz
    unfold instsOf at hz
    obtain ⟨l, hl, rfl⟩ := List.mem_map.1 hz
    obtain ⟨z', _, e2, h3⟩ := hpair l hl
    rw [← e2]; exact h3
end Go.Proofs.Ythnoeknalpnadaa

namespace Go.Proofs.Ythnoeknalpnadaa
open Go.RowKit
set_option linter.unusedVariables false

def instAtR (n : Int) (L : List (List Int)) (k : Nat) : Bool := decide ((L[k]?.getD []).length = 2) && ((repB n ((L[k]?.getD [])[0]?.getD 0) && inB ((L[k]?.getD [])[1]?.getD 0) 1 6) && !decide (L[k]?.getD [] ∈ L.take k))
/-- Are they instances of a group of n, each once? -/
def instsR (n : Int) (L : List (List Int)) : Bool := (List.range L.length).all (instAtR n L)
theorem instsR_no {n : Int} {L : List (List Int)} {k : Nat} (hk : k < L.length) (h : instAtR n L k = false) : instsR n L = false := by
  unfold instsR
  rw [List.all_eq_false]
  exact ⟨k, List.mem_range.2 hk, by rw [h]; simp⟩
theorem instsR_good {n : Int} (h : isGrp n = true) (L : List (List Int)) : instsR n L = instsB n L := by
  unfold instsR instsB
  congr 1
  funext k
  unfold instAtR instAt repB instB
  rw [h, Bool.true_and]
/-- The instances that have been read. -/
def ReadTo (n : Int) (L : List (List Int)) (k : Nat) : Prop :=
  (List.range k).all (instAtR n L) = true ∧ L.take k = (instsOf (L.take k)).map pairOf ∧ (instsOf (L.take k)).length ≤ 30 ∧ (instsOf (L.take k)).Nodup ∧ ∀ z ∈ instsOf (L.take k), z.1 < 5 ∧ z.2 < 6
theorem ReadTo.zero (n : Int) (L : List (List Int)) : ReadTo n L 0 := by
  refine ⟨rfl, ?_, ?_, ?_, ?_⟩ <;> simp [instsOf]
theorem ReadTo.step {n : Int} {L : List (List Int)} {k : Nat} (h : ReadTo n L k) (hk : k < L.length) {p q : Nat} (hl : L[k]?.getD [] = pairOf (p, q)) (hr : repB n (p : Int) = true) (hq : inB ((q : Int) + 1) 1 6 = true) (hm : (p, q) ∉ instsOf (L.take k)) :
    ReadTo n L (k + 1) ∧ instsOf (L.take (k + 1)) = instsOf (L.take k) ++ [(p, q)] := by
  obtain ⟨h1, h2, h3, h4, h5⟩ := h
  have e1 : L[k] = pairOf (p, q) := by rw [← hl, List.getElem?_eq_getElem hk]; rfl
  have e2 : instsOf (L.take (k + 1)) = instsOf (L.take k) ++ [(p, q)] := by
    rw [List.take_succ_eq_append_getElem hk]
    unfold instsOf
    rw [List.map_append, e1]
    simp [pairOf]
  have hnd : (instsOf (L.take k) ++ [(p, q)]).Nodup := by
    rw [List.nodup_append]
    exact ⟨h4, by simp, fun a ha b hb e => by rw [List.mem_singleton] at hb; exact hm (by rw [← hb, ← e]; exact ha)⟩
  have hbd : ∀ z ∈ instsOf (L.take k) ++ [(p, q)], z.1 < 5 ∧ z.2 < 6 := by
    intro z hz
    rcases List.mem_append.1 hz with h | h
    · exact h5 z h
    · rw [List.mem_singleton] at h
      subst h
      unfold repB inB at hr
      unfold inB at hq
      simp only [Bool.and_eq_true, decide_eq_true_eq] at hr hq
      have := isGrp_bd hr.1
      exact ⟨by omega, by omega⟩
  have hno : pairOf (p, q) ∉ L.take k := by
    rw [h2]
    intro hx
    obtain ⟨z, hz, e⟩ := List.mem_map.1 hx
    exact hm (by rw [← pairOf_inj' e]; exact hz)
  refine ⟨⟨?_, ?_, ?_, ?_, ?_⟩, e2⟩
  · rw [List.range_succ, List.all_append, h1]
    have : instAtR n L k = true := by
      unfold instAtR
      rw [hl, decide_eq_false hno]
      simp [pairOf, hr, hq]
    simp [this]
  · rw [e2, List.map_append, ← h2, List.take_succ_eq_append_getElem hk, e1]
    rfl
  · rw [e2]; exact few_of hnd hbd
  · rw [e2]; exact hnd
  · rw [e2]; exact hbd
/-- The instances come back, in new memory. -/
def InstsIn (n : Int) (L : List (List Int)) (w : World) (e : Ending) (w' : World) : Prop :=
  ∃ v, e = .returned (.tuple #[v, .bool (instsR n L)]) ∧ (instsR n L = true → FreshIn w.heap.size w' v (instsOf L) ∧ L = (instsOf L).map pairOf ∧ (instsOf L).length ≤ 30 ∧ (instsOf L).Nodup ∧ ∀ z ∈ instsOf L, z.1 < 5 ∧ z.2 < 6) ∧ Ext w w'
theorem InstsIn.no {n : Int} {L : List (List Int)} {w w' : World} (h : instsR n L = false) (x : Ext w w') : InstsIn n L w (.returned (.tuple #[.slice none 0 0, .bool false])) w' := by
  unfold InstsIn
  rw [h]
  exact ⟨_, rfl, (fun e => by cases e), x⟩
set_option maxHeartbeats 8000000 in
set_option maxRecDepth 100000 in
theorem instancesIn_any (n : Int) (v : Value) (L : List (List Int)) (w : World) (hv : Intss w v L) :
    Calls Try.prog 116 #[.int .i64 n, v] w (InstsIn n L w) := by
  obtain ⟨av, cv, rfl, hlv, hcapv, hcv⟩ := hv
  unfold maxLen at hlv
  have HCV := Lib.hid hcv
  clear hcv hcapv
  go_enter Try.func116, Try.ntmps116
  go_wp2
  go_loopw [6, 12] (fun s i wr => ∃ k : Nat, k ≤ L.length ∧ i = .int .i64 k ∧ Hid (FreshIn w.heap.size wr s (instsOf (L.take k))) ∧ Hid (ReadTo n L k) ∧ Hid (Ext w wr)) (fun _ i _ => L.length - (intOf i).toNat)
  case atStart => exact ⟨0, Nat.zero_le _, rfl, Lib.hid (FreshIn.nil _ _), Lib.hid (ReadTo.zero n L), Lib.hid (Ext.refl _)⟩
  case round =>
    obtain ⟨k, hk, rfl, HF, HR, HX⟩ := hrel
    by_cases hlt : k < L.length
    · obtain ⟨b, off, rfl, dv⟩ := HCV.out (by omega)
      obtain ⟨x, hx⟩ : ∃ x, x = L[k]?.getD [] := ⟨_, rfl⟩
      obtain ⟨xv, hx1, ix⟩ := dv k hlt
      rw [← hx] at ix
      have gx := HX.out.cell hx1
      have HIA : Hid (instAtR n L k = (decide (x.length = 2) && ((repB n (x[0]?.getD 0) && inB (x[1]?.getD 0) 1 6) && !decide (x ∈ L.take k)))) := Lib.hid (by unfold instAtR; rw [← hx])
      obtain ⟨ax, cx, rfl, hlx, _, hcx⟩ := ix
      unfold maxLen at hlx
      have HLT := Lib.hid hlt
      have HXK := Lib.hid hx
      clear dv hx1 hx
      by_cases h2 : x.length = 2
      · obtain ⟨bx, ox, rfl, dx⟩ := hcx (by omega)
        have k0 := HX.out.cell (dx 0 (by omega))
        have k1 := HX.out.cell (dx 1 (by omega))
        obtain ⟨x0, hx0⟩ : ∃ x0, x0 = x[0]?.getD 0 := ⟨_, rfl⟩
        obtain ⟨x1, hx1⟩ : ∃ x1, x1 = x[1]?.getD 0 := ⟨_, rfl⟩
        rw [← hx0] at k0
        rw [← hx1] at k1
        rw [Nat.add_zero] at k0
        have K01 := Lib.hid (And.intro k0 k1)
        have k0 := fun E : ExtOf wr => E.cell k0
        have k1 := fun E : ExtOf wr => E.cell k1
        obtain ⟨b1, hb1⟩ : ∃ b1, b1 = (repB n x0 && inB x1 1 6) := ⟨_, rfl⟩
        have cI : ∀ E : ExtOf wr, Calls Try.prog 105 #[.int .i64 n, .int .i64 x0, .int .i64 x1] E.1 (fun e w' => e = .returned (.bool b1) ∧ Ext E.1 w') := fun E => by
          rw [hb1]
          exact (isInstance_all n x0 x1 E.1).mono (by rintro e w' ⟨rfl, rfl⟩; exact ⟨rfl, Ext.refl _⟩)
        have HIB : Hid (instAtR n L k = (b1 && !decide (x ∈ L.take k))) := Lib.hid (by rw [HIA.out, decide_eq_true h2, Bool.true_and, hb1, hx0, hx1])
        have HB1 := Lib.hid hb1
        have HX2 : Hid (x = [x0, x1]) := Lib.hid (by
          match x, h2 with
          | [a, c], _ => simp at hx0 hx1; rw [hx0, hx1])
        rw [h2] at gx
        clear HIA hb1 hx0 hx1 hcx dx hlx h2
        cases b1 with
        | false =>
          have HNO : Hid (instAtR n L k = false) := Lib.hid (by rw [HIB.out]; rfl)
          clear HIB
          go_wp2_with fail
          refine wp_region_ext_lit (by kernel_rfl) (by kernel_rfl) ?_
          repeat (go_big_quiet_step (first | (go_at_call 105; with_reducible exact Calls.ext_of _ (cI _))))
          refine wpQuiet_nil ?_
          rintro _ ⟨E, rfl⟩
          clear gx k0 k1 cI
          go_wp2
          go_ret2
          exact InstsIn.no (instsR_no HLT.out HNO.out) (HX.out.trans E.2)
        | true =>
          obtain ⟨p, q, e0, e1⟩ : ∃ p q : Nat, x0 = (p : Int) ∧ x1 = (q : Int) + 1 := by
            have h := HB1.out.symm
            unfold repB inB at h
            simp only [Bool.and_eq_true, decide_eq_true_eq] at h
            exact ⟨x0.toNat, (x1 - 1).toNat, by omega, by omega⟩
          subst e0 e1
          go_wp2_with fail
          refine wp_region_ext_lit (by kernel_rfl) (by kernel_rfl) ?_
          repeat (go_big_quiet_step (first | (go_at_call 105; with_reducible exact Calls.ext_of _ (cI _))))
          refine wpQuiet_nil ?_
          rintro _ ⟨E, rfl⟩
          have XE := Lib.hid (HX.out.trans E.2)
          have FE := Lib.hid (HF.out.ext E.2)
          have k0 := k0 E
          have k1 := k1 E
          obtain ⟨w5, hw5⟩ : ∃ w5, w5 = E.1 := ⟨_, rfl⟩
          rw [← hw5] at k0 k1 XE FE ⊢
          clear gx cI hw5 HX HF
          have xa := Ext.alloc1 w5 (.cells #[.int .i64 0, .int .i64 0] 137)
          have a0 := xa.cell k0
          have a1 := xa.cell k1
          clear xa
          go_wp2_with fail
          go_region
          all_goals (clear a0 a1)
          obtain ⟨w6, hw6⟩ : ∃ w6, w6 = (w5.alloc (.cells #[.int .i64 p, .int .i64 ((q : Int) + 1)] 137)).drew := ⟨_, rfl⟩
          have x6 : Ext w5 w6 := by rw [hw6]; exact Ext.drew (Ext.alloc1 _ _)
          have c0 : w6.cell? ⟨w5.heap.size, 0, none⟩ = some (.int .i64 p) := by rw [hw6]; go_simp
          have c1 : w6.cell? ⟨w5.heap.size, 1, none⟩ = some (.int .i64 ((q : Int) + 1)) := by rw [hw6]; go_simp
          obtain ⟨b6, hb6⟩ : ∃ b, b = w5.heap.size := ⟨_, rfl⟩
          rw [← hw6, ← hb6]
          rw [← hb6] at c0 c1
          obtain ⟨m, hm⟩ : ∃ m, m = decide ((p, q) ∈ instsOf (L.take k)) := ⟨_, rfl⟩
          have HM := Lib.hid hm
          have X6 := Lib.hid (XE.out.trans x6)
          have F6 := Lib.hid (FE.out.ext x6)
          have HPK : Hid (x = pairOf (p, q)) := Lib.hid HX2.out
          clear hm hb6 hw6 x6 XE FE k0 k1 K01 HX2
          go_wp2_with fail
          refine (containsI_any _ (instsOf (L.take k)) p q _ F6.out.at).mono ?_
          rintro e w7 ⟨rfl, x7⟩
          rw [← HM.out]
          have c0 := x7.cell c0
          have c1 := x7.cell c1
          have X7 := Lib.hid (X6.out.trans x7)
          have F7 := Lib.hid (F6.out.ext x7)
          clear x7 X6 F6
          cases m with
          | true =>
            have HNO : Hid (instAtR n L k = false) := Lib.hid (by
              have hm : (p, q) ∈ instsOf (L.take k) := of_decide_eq_true HM.out.symm
              have hx : x ∈ L.take k := by
                rw [HPK.out, HR.out.2.1]
                exact List.mem_map.2 ⟨_, hm, rfl⟩
              rw [HIB.out, decide_eq_true hx]; rfl)
            clear HM F7 HPK c0 c1
            go_wp2
            go_ret2
            exact InstsIn.no (instsR_no HLT.out HNO.out) X7.out
          | false =>
            have hst := HR.out.step HLT.out (by rw [← HXK.out]; exact HPK.out) (p := p) (q := q) (by
              have h := HB1.out.symm
              rw [Bool.and_eq_true] at h
              exact h.1) (by
              have h := HB1.out.symm
              rw [Bool.and_eq_true] at h
              exact h.2) (of_decide_eq_false HM.out.symm)
            have HR1 := Lib.hid hst.1
            have HE1 := Lib.hid hst.2
            have HLL : Hid ((instsOf (L.take k)).length ≤ 1048576) := Lib.hid (by have := HR.out.2.2.1; omega)
            have HBB : Hid (w.heap.size ≤ w7.heap.size) := Lib.hid X7.out.size
            clear hst HM HPK HR
            go_wp2_with (at_builtin; refine wpList_pushI rfl _ _ rfl w.heap.size _ (instsOf (L.take k)) (p, q) rfl (F7.out.ext (Ext.alloc1 _ _)) w7.heap.size 1 rfl (by go_simp) (by go_simp) HLL.out (Nat.le_trans HBB.out (Ext.alloc1 _ _).size) ?_; intro v' w8 f8 hg8 hk8)
            have F8 : Hid (FreshIn w.heap.size w8 v' (instsOf (L.take (k + 1)))) := Lib.hid (by rw [HE1.out]; exact f8)
            have X8 := Lib.hid (hk8 w (X7.out.trans (Ext.alloc1 _ _)) (Nat.le_refl _))
            clear f8 hg8 hk8 F7 X7 HE1
            go_wp2
            go_roundw
            case rel => exact ⟨k + 1, by have := HLT.out; omega, by go_num, F8, HR1, X8⟩
            case measure => simp [intOf]; have := HLT.out; omega
      · have e2 : ((x.length : Int) != 2) = true := by simp; omega
        have HNO : Hid (instAtR n L k = false) := Lib.hid (by rw [HIA.out, decide_eq_false h2]; rfl)
        clear h2 hcx HIA
        go_wp2_with fail
        refine wp_region_ext_lit (by kernel_rfl) (by kernel_rfl) ?_
        repeat (go_big_quiet_step (first | fail))
        refine wpQuiet_nil ?_
        rintro _ ⟨E, rfl⟩
        go_wp2
        go_ret2
        exact InstsIn.no (instsR_no HLT.out HNO.out) (HX.out.trans E.2)
    · obtain rfl : k = L.length := by omega
      have HA := HR.out
      unfold ReadTo at HA
      rw [List.take_length] at HA
      have FE := HF.out
      rw [List.take_length] at FE
      have HY : Hid (instsR n L = true) := Lib.hid HA.1
      have HR2 := Lib.hid HA.2
      have FE2 := Lib.hid FE
      clear HA FE HF HR
      go_wp2
      go_ret2
      exact ⟨_, by rw [HY.out]; rfl, fun _ => ⟨FE2.out, HR2.out⟩, HX.out⟩
end Go.Proofs.Ythnoeknalpnadaa

namespace Go.Proofs.Ythnoeknalpnadaa
open Go.RowKit Go.Maps
set_option linter.unusedVariables false

/-- The instances that have come, each once. -/
structure Came (S : Nat → Nat → Bool) (left : Lit → Bool) (L : List (Nat × Nat)) : Prop where
  nodup : L.Nodup
  mem : ∀ x : Nat × Nat, x ∈ L ↔ (S x.1 x.2 = true ∧ left (kl (x.1 : Int) ((x.2 : Int) + 1)) = false)
theorem Came.start {S : Nat → Nat → Bool} {D : DataW Value} {f : Nat → Nat → Value} (h : MapOf D S f) : Came S (Maps.has D) [] :=
  ⟨List.nodup_nil, fun x => by
    constructor
    · intro hx; cases hx
    · rintro ⟨hs, hl⟩
      rw [h.has x.1 x.2 hs] at hl
      cases hl⟩
theorem Came.step {S : Nat → Nat → Bool} {D : DataW Value} {f : Nat → Nat → Value} (h : MapOf D S f) {left : Lit → Bool} {L : List (Nat × Nat)} (hc : Came S left L) {p q : Nat} (hs : S p q = true) (hl : left (kl (p : Int) ((q : Int) + 1)) = true) :
    Came S (fun z => left z && !z.sameKey (kl (p : Int) ((q : Int) + 1))) (L ++ [(p, q)]) := by
  have hne : (p, q) ∉ L := fun hm => by
    have := ((hc.mem _).1 hm).2
    rw [hl] at this; cases this
  have hk := h.low p q hs
  have hself : (kl (p : Int) ((q : Int) + 1)).sameKey (kl (p : Int) ((q : Int) + 1)) = true := WideAt.sameKey_self (instKeyed.key (keyOf_inst (wf_small (by omega) (by omega)) (wf_small (by omega) (by omega))))
  refine ⟨?_, fun x => ?_⟩
  · rw [List.nodup_append]
    refine ⟨hc.nodup, by simp, fun a ha b hb e => ?_⟩
    simp at hb
    subst hb
    subst e
    exact hne ha
  · rw [List.mem_append, List.mem_singleton, hc.mem]
    by_cases e : x = (p, q)
    · subst e
      simp [hs, hself]
    · constructor
      · rintro (⟨h1, h2⟩ | h1)
        · exact ⟨h1, by rw [h2]; rfl⟩
        · exact absurd h1 e
      · rintro ⟨h1, h2⟩
        have hx := h.low x.1 x.2 h1
        have hn := Maps.sameKey_ne (kl_ne hx hk (fun e' => e (Prod.ext e'.1 e'.2)))
        rw [hn] at h2
        exact .inl ⟨h1, by simpa using h2⟩

/-- The instances of S in order come back, in new memory. -/
def NewInsts (S : Nat → Nat → Bool) (w : World) (e : Ending) (w' : World) : Prop :=
  ∃ v L, e = .returned v ∧ FreshIn w.heap.size w' v L ∧ L.Pairwise lexL ∧ (∀ x : Nat × Nat, x ∈ L ↔ S x.1 x.2 = true) ∧ Ext w w'

end Go.Proofs.Ythnoeknalpnadaa

namespace Go.Proofs.Ythnoeknalpnadaa
open Go.RowKit Go.Maps
set_option linter.unusedVariables false

/-- Two lists of lists come back, and a Bool: each in new memory, the second behind the first. -/
def ThreeSS (L M : List (List Int)) (b : Bool) (w : World) (e : Ending) (w' : World) : Prop :=
  ∃ v u w1, e = .returned (.tuple #[v, u, .bool b]) ∧ FreshSS w.heap.size w1 v L ∧ Ext w w1 ∧ FreshSS w1.heap.size w' u M ∧ Ext w1 w'

/-- Lists in the same order with the same members are one. -/
theorem lex_unique {L M : List (Nat × Nat)} (hL : L.Pairwise lexL) (hM : M.Pairwise lexL) (h : ∀ x, x ∈ L ↔ x ∈ M) : L = M := by
  induction L generalizing M with
  | nil =>
    cases M with
    | nil => rfl
    | cons y t => exact absurd ((h y).2 (by simp)) (by simp)
  | cons x s ih =>
    cases M with
    | nil => exact absurd ((h x).1 (by simp)) (by simp)
    | cons y t =>
      rw [List.pairwise_cons] at hL hM
      have exy : x = y := by
        rcases List.mem_cons.1 ((h x).1 (by simp)) with e | e
        · exact e
        · rcases List.mem_cons.1 ((h y).2 (by simp)) with e' | e'
          · exact e'.symm
          · have h1 := hM.1 x e
            have h2 := hL.1 y e'
            unfold lexL at h1 h2
            omega
      subst exy
      congr 1
      refine ih hL.2 hM.2 fun z => ?_
      constructor
      · intro hz
        rcases List.mem_cons.1 ((h z).1 (by simp [hz])) with e | e
        · subst e
          have := hL.1 _ hz
          unfold lexL at this
          omega
        · exact e
      · intro hz
        rcases List.mem_cons.1 ((h z).2 (by simp [hz])) with e | e
        · subst e
          have := hM.1 _ hz
          unfold lexL at this
          omega
        · exact e
theorem insts_of {T : List (List RowD)} {L : List (Nat × Nat)} (hL : L.Pairwise lexL) (h : ∀ x : Nat × Nat, x ∈ L ↔ instCom T x.1 x.2 = true) : L = insts T :=
  lex_unique hL (insts_lex T) (fun x => by rw [h, mem_insts])
theorem insts_short {n : Int} {T : List (List RowD)} (hg : goodTab n T = true) : (insts T).length ≤ 30 := by
  have h := goodTab_both hg
  have h2 := allTo_len h.2 T.length (Nat.le_refl _)
  rw [allTo_insts, List.length_map] at h2
  have : (insts T).length ≤ 6 * T.length := h2
  omega

def pointsR (n : Int) (T : List (List RowD)) : List (List Int) := if goodTab n T then (insts T).map pairOf else []
def graphR (n : Int) (T : List (List RowD)) : List (List Int) := if goodTab n T then graphP n T (insts T) else []

end Go.Proofs.Ythnoeknalpnadaa

namespace Go.Proofs.Ythnoeknalpnadaa
open Go.RowKit Go.Maps
set_option linter.unusedVariables false

/-- From x0 one comes to z: over settled instances. -/
def Led (n : Int) (T : List (List RowD)) (x0 z : Nat × Nat) : Prop := ∀ C : Nat × Nat → Prop, C x0 → (∀ y, C y → instCom T y.1 y.2 = true → ∀ z ∈ hungL (rowOf n T y.1 y.2), C z) → C z
def nextL (n : Int) (T : List (List RowD)) (y : Nat × Nat) : List (Nat × Nat) := if instCom T y.1 y.2 then hungL (rowOf n T y.1 y.2) else []
/-- What is met (M), and of it what waits (L). -/
structure Com (n : Int) (T : List (List RowD)) (x0 : Nat × Nat) (M L : List (Nat × Nat)) : Prop where
  first : x0 ∈ M
  led : ∀ z ∈ M, Led n T x0 z
  done : ∀ y ∈ M, y ∉ L → ∀ z ∈ nextL n T y, z ∈ M
  sub : ∀ y ∈ L, y ∈ M
  nod : M.Nodup
  bnd : ∀ z ∈ M, z.1 < 5 ∧ z.2 < 6
/-- .. y being looked through, its first j. -/
structure ComI (n : Int) (T : List (List RowD)) (x0 y : Nat × Nat) (j : Nat) (M L : List (Nat × Nat)) : Prop where
  first : x0 ∈ M
  led : ∀ z ∈ M, Led n T x0 z
  done : ∀ y' ∈ M, y' ∉ L → y' ≠ y → ∀ z ∈ nextL n T y', z ∈ M
  part : ∀ z ∈ (nextL n T y).take j, z ∈ M
  sub : ∀ y ∈ L, y ∈ M
  nod : M.Nodup
  bnd : ∀ z ∈ M, z.1 < 5 ∧ z.2 < 6
  here : y ∈ M
theorem Com.start {n : Int} {T : List (List RowD)} {x0 : Nat × Nat} (h : x0.1 < 5 ∧ x0.2 < 6) : Com n T x0 [x0] [x0] :=
  ⟨by simp, fun z hz => by
    obtain rfl : z = x0 := by simpa using hz
    exact fun C h0 _ => h0, fun y hy hn => absurd hy hn, fun y hy => hy, by simp, fun z hz => by
    obtain rfl : z = x0 := by simpa using hz
    exact h⟩
theorem Com.pop {n : Int} {T : List (List RowD)} {x0 y : Nat × Nat} {M L : List (Nat × Nat)} (h : Com n T x0 M (L ++ [y])) : ComI n T x0 y 0 M L :=
  ⟨h.first, h.led, fun y' hy hn hne => h.done y' hy (by simp [hn, hne]), fun z hz => by simp at hz, fun z hz => h.sub z (by simp [hz]), h.nod, h.bnd, h.sub y (by simp)⟩
theorem ComI.old {n : Int} {T : List (List RowD)} {x0 y z : Nat × Nat} {j : Nat} {M L : List (Nat × Nat)} (h : ComI n T x0 y j M L) (hz : (nextL n T y)[j]? = some z) (hm : z ∈ M) : ComI n T x0 y (j + 1) M L :=
  ⟨h.first, h.led, h.done, fun z' hz' => by
    rw [List.take_add_one, hz] at hz'
    rcases List.mem_append.1 hz' with hz' | hz'
    · exact h.part z' hz'
    · obtain rfl : z' = z := by simpa using hz'
      exact hm, h.sub, h.nod, h.bnd, h.here⟩
theorem ComI.new {n : Int} {T : List (List RowD)} {x0 y z : Nat × Nat} {j : Nat} {M L : List (Nat × Nat)} (h : ComI n T x0 y j M L) (hz : (nextL n T y)[j]? = some z) (hm : z ∉ M) (hb : z.1 < 5 ∧ z.2 < 6) : ComI n T x0 y (j + 1) (M ++ [z]) (L ++ [z]) := by
  have hzl : Led n T x0 z := by
    intro C h0 hC
    have hyC := h.led y h.here C h0 hC
    have hmem := List.mem_of_getElem? hz
    unfold nextL at hmem
    split at hmem
    · rename_i hc
      exact hC y hyC hc z hmem
    · cases hmem
  refine ⟨by simp [h.first], fun z' hz' => ?_, fun y' hy hn hne z' hz' => ?_, fun z' hz' => ?_, fun z' hz' => ?_, ?_, fun z' hz' => ?_, by simp [h.here]⟩
  · rcases List.mem_append.1 hz' with hz' | hz'
    · exact h.led z' hz'
    · obtain rfl : z' = z := by simpa using hz'
      exact hzl
  · simp only [List.mem_append, List.mem_singleton, not_or] at hn
    rcases List.mem_append.1 hy with hy | hy
    · exact List.mem_append_left _ (h.done y' hy hn.1 hne z' hz')
    · exact absurd (by simpa using hy) hn.2
  · rw [List.take_add_one, hz] at hz'
    rcases List.mem_append.1 hz' with hz' | hz'
    · exact List.mem_append_left _ (h.part z' hz')
    · exact List.mem_append_right _ (by simpa using hz')
  · rcases List.mem_append.1 hz' with hz' | hz'
    · exact List.mem_append_left _ (h.sub z' hz')
    · exact List.mem_append_right _ hz'
  · refine List.nodup_append.2 ⟨h.nod, by simp, fun a ha b hb' e => ?_⟩
    obtain rfl : b = z := by simpa using hb'
    subst e
    exact hm ha
  · rcases List.mem_append.1 hz' with hz' | hz'
    · exact h.bnd z' hz'
    · obtain rfl : z' = z := by simpa using hz'
      exact hb
theorem ComI.close {n : Int} {T : List (List RowD)} {x0 y : Nat × Nat} {j : Nat} {M L : List (Nat × Nat)} (h : ComI n T x0 y j M L) (hj : (nextL n T y).length ≤ j) : Com n T x0 M L :=
  ⟨h.first, h.led, fun y' hy hn z hz => by
    by_cases e : y' = y
    · subst e
      exact h.part z (by rw [List.take_of_length_le hj]; exact hz)
    · exact h.done y' hy hn e z hz, h.sub, h.nod, h.bnd⟩
theorem Com.all {n : Int} {T : List (List RowD)} {x0 : Nat × Nat} {M : List (Nat × Nat)} (h : Com n T x0 M []) (z : Nat × Nat) : z ∈ M ↔ Led n T x0 z := by
  refine ⟨h.led z, fun hl => hl (fun z => z ∈ M) h.first (fun y hy hc z hz => h.done y hy (by simp) z (by unfold nextL; rw [if_pos hc]; exact hz))⟩
theorem Com.few {n : Int} {T : List (List RowD)} {x0 : Nat × Nat} {M L : List (Nat × Nat)} (h : Com n T x0 M L) : M.length ≤ 30 := few_of h.nod h.bnd
theorem ComI.few {n : Int} {T : List (List RowD)} {x0 y : Nat × Nat} {j : Nat} {M L : List (Nat × Nat)} (h : ComI n T x0 y j M L) : M.length ≤ 30 := few_of h.nod h.bnd
theorem nextL_in {n : Int} {T : List (List RowD)} (hg : goodTab n T = true) {y x : Nat × Nat} (hx : x ∈ nextL n T y) : x.1 < 5 ∧ x.2 < 6 := by
  unfold nextL at hx
  split at hx
  · rename_i hc
    have hy := (com_row hg hc).2.2.1
    rw [mem_hungL] at hx
    have h1 := rowOf_list hg hy y.2
    have h2 := dep_in hg hy y.2 x.1
    unfold depM at hx
    omega
  · cases hx

/-- All instances that a table may have. -/
def grid : List (Nat × Nat) := (List.range 5).flatMap fun p => (List.range 6).map fun q => (p, q)
theorem grid_lex : grid.Pairwise lexL := by decide
theorem mem_grid {z : Nat × Nat} : z ∈ grid ↔ z.1 < 5 ∧ z.2 < 6 := by
  unfold grid
  simp only [List.mem_flatMap, List.mem_range, List.mem_map]
  constructor
  · rintro ⟨p, hp, q, hq, rfl⟩
    exact ⟨hp, hq⟩
  · rintro ⟨h1, h2⟩
    exact ⟨z.1, h1, z.2, h2, rfl⟩
noncomputable def ledB (n : Int) (T : List (List RowD)) (x0 z : Nat × Nat) : Bool := @decide (Led n T x0 z) (Classical.propDecidable _)
theorem ledB_iff {n : Int} {T : List (List RowD)} {x0 z : Nat × Nat} : ledB n T x0 z = true ↔ Led n T x0 z := by
  unfold ledB
  exact @decide_eq_true_iff _ (Classical.propDecidable _)
/-- The blockers, rising. -/
noncomputable def blkL (n : Int) (T : List (List RowD)) (x0 : Nat × Nat) : List (Nat × Nat) := grid.filter fun z => ledB n T x0 z && !instCom T z.1 z.2
theorem blkL_of {n : Int} {T : List (List RowD)} {x0 : Nat × Nat} {L : List (Nat × Nat)} (hL : L.Pairwise lexL) (hb : ∀ z ∈ L, z.1 < 5 ∧ z.2 < 6) (h : ∀ z : Nat × Nat, z.1 < 5 ∧ z.2 < 6 → (z ∈ L ↔ (Led n T x0 z ∧ instCom T z.1 z.2 = false))) : L = blkL n T x0 :=
  lex_unique hL (grid_lex.filter _) (fun z => by
    unfold blkL
    rw [List.mem_filter, mem_grid]
    constructor
    · intro hz
      have h1 := hb z hz
      have h2 := (h z h1).1 hz
      exact ⟨h1, by rw [ledB_iff.2 h2.1, h2.2]; rfl⟩
    · rintro ⟨h1, h2⟩
      simp only [Bool.and_eq_true, Bool.not_eq_true'] at h2
      exact (h z h1).2 ⟨ledB_iff.1 h2.1, h2.2⟩)
theorem blkL_short (n : Int) (T : List (List RowD)) (x0 : Nat × Nat) : (blkL n T x0).length ≤ 30 := Nat.le_trans (List.length_filter_le _ _) (by decide)
/-- The model's blockers are these. -/
theorem BlkI.all {n : Int} {T : List (List RowD)} {x0 : Nat × Nat} {i : Nat} {s : List (Nat × Nat) × List (Nat × Nat)} (h : BlkI n T x0 i 0 s) (hi : s.1.length ≤ i) (hb : BlkB s) : s.2 = blkL n T x0 := by
  refine blkL_of h.sorted hb.in2 (fun z _ => ⟨fun hz => ⟨fun C h0 hC => (h.led C hC h0).2 z hz, h.not z hz⟩, fun ⟨hl, hn⟩ => ?_⟩)
  have hm := hl (fun z => z ∈ s.1 ∨ z ∈ s.2) (.inl h.first) (fun y hy hc z hz => by
    rcases hy with hy | hy
    · by_cases e : z = y
      · rw [e]; exact .inl hy
      · obtain ⟨k, hk⟩ := List.getElem?_of_mem hy
        have hlt := (List.getElem?_eq_some_iff.1 hk).1
        exact h.done k y (by omega) hk z (mem_depsL.2 ⟨hz, e⟩)
    · rw [h.not y hy] at hc; cases hc)
  rcases hm with hm | hm
  · rw [h.com z hm] at hn; cases hn
  · exact hm
end Go.Proofs.Ythnoeknalpnadaa

namespace Go.Proofs.Ythnoeknalpnadaa
open Go.RowKit Go.Maps
set_option linter.unusedVariables false

end Go.Proofs.Ythnoeknalpnadaa

namespace Go.Proofs.Ythnoeknalpnadaa
open Go.RowKit Go.Maps
set_option linter.unusedVariables false

theorem MapOf.hasNot {D : DataW Value} {S : Nat → Nat → Bool} {f : Nat → Nat → Value} (h : MapOf D S f) {p q : Nat} (hl : p ≤ 1048576 ∧ q ≤ 1048576) (hs : S p q = false) : Maps.has D (kl (p : Int) ((q : Int) + 1)) = false := by
  cases hb : Maps.has D (kl (p : Int) ((q : Int) + 1)) with
  | false => rfl
  | true =>
    obtain ⟨p', q', e, hs'⟩ := h.keys _ hb
    have hl' := h.low p' q' hs'
    by_cases e2 : p = p' ∧ q = q'
    · obtain ⟨rfl, rfl⟩ := e2
      rw [hs] at hs'
      cases hs'
    · exact absurd e (kl_ne hl hl' e2)
theorem lookOk_yes {W : World} {B n0 : Nat} {D : DataW Value} {S : Nat → Nat → Bool} {f : Nat → Nat → Value} (hm : RowMap W B n0 D) (hd : MapOf D S f) {p q : Nat} (hs : S p q = true) :
    (Instr.lookup 156 (.map (some B)) (.agg #[.int .i64 p, .int .i64 ((q : Int) + 1)]) true).run Try.prog W = .ok (.tuple #[f p q, .bool true]) W := by
  have hl := hd.low p q hs
  obtain ⟨v, ps, hrun, hv⟩ := hm.look_ok instKeyed Try.underlying156 (zeroRow W) (zd := .held _) (zp := []) rfl (keyOf_inst (a := p) (b := (q : Int) + 1) (wf_small (by omega) (by omega)) (wf_small (by omega) (by omega)))
  rw [hd.val p q hs] at hv
  rw [hd.has p q hs] at hrun
  simp only [asIs, Option.some.injEq, Prod.mk.injEq, DataW.held.injEq] at hv
  rw [hv.1] at hrun
  exact hrun
theorem lookOk_no {W : World} {B n0 : Nat} {D : DataW Value} {S : Nat → Nat → Bool} {f : Nat → Nat → Value} (hm : RowMap W B n0 D) (hd : MapOf D S f) {p q : Nat} (hl : p ≤ 1048576 ∧ q ≤ 1048576) (hs : S p q = false) :
    (Instr.lookup 156 (.map (some B)) (.agg #[.int .i64 p, .int .i64 ((q : Int) + 1)]) true).run Try.prog W = .ok (.tuple #[.agg #[.int .i64 0, .int .i64 0, .int .i64 0, .int .i64 0, .int .i64 0, .int .i64 0, .int .i64 0, .int .i64 0, .int .i64 0, .slice none 0 0], .bool false]) W := by
  have hn := hd.hasNot hl hs
  obtain ⟨v, ps, hrun, hv⟩ := hm.look_ok instKeyed Try.underlying156 (zeroRow W) (zd := .held _) (zp := []) rfl (keyOf_inst (a := p) (b := (q : Int) + 1) (wf_small (by omega) (by omega)) (wf_small (by omega) (by omega)))
  rw [Maps.atKey_of_not_has hn] at hv
  rw [hn] at hrun
  simp only [asIs, Option.some.injEq, Prod.mk.injEq, DataW.held.injEq] at hv
  rw [hv.1] at hrun
  exact hrun

theorem all_upto {L : List (Nat × Nat)} {S : Nat → Nat → Bool} {k : Nat} (h : k < L.length) (ha : (L.take k).all (fun x => S x.1 x.2) = true) (hs : S L[k].1 L[k].2 = true) : (L.take (k + 1)).all (fun x => S x.1 x.2) = true := by
  rw [List.take_add_one, List.getElem?_eq_getElem h, List.all_append, ha]
  simp [hs]

end Go.Proofs.Ythnoeknalpnadaa

namespace Go.Proofs.Ythnoeknalpnadaa
open Go.RowKit Go.Maps
set_option linter.unusedVariables false

/-- How many entries a map's block has. -/
def entriesOf (w : World) (b : Nat) : Nat := match w.heap[b]? with
  | some (.map es _) => es.size
  | _ => 0
theorem entries_eq {w : World} {b n : Nat} {D : DataW Value} (h : RowMap w b n D) : entriesOf w b = Maps.size D := by
  obtain ⟨es, clock, hb, F, hs, rfl⟩ := h
  unfold entriesOf
  rw [hb]
  show es.size = _
  rw [Maps.size_eq, length_sorted]
  simp
theorem size_less {w : World} {b n : Nat} {D : DataW Value} (h : RowMap w b n D) {l : Lit} (hh : Maps.has D l = true) : Maps.size (D.del l) + 1 = Maps.size D := by
  have := Maps.size_del (k := l) (h.tidy instKeyed)
  rw [hh] at this
  simpa using this
def flagN : Value → Nat
  | .bool true => 1
  | _ => 0

end Go.Proofs.Ythnoeknalpnadaa

namespace Go.Proofs.Ythnoeknalpnadaa
open Go.RowKit Go.Maps
set_option linter.unusedVariables false

/-- What can be done, in order. -/
noncomputable def readyL (n : Int) (T : List (List RowD)) : List (Nat × Nat) := (insts T).filter fun x => readyB n T x.1 x.2
theorem readyB_com {n : Int} {T : List (List RowD)} {p q : Nat} (h : readyB n T p q = true) : instCom T p q = true := by
  obtain ⟨C, hC, hx⟩ := readyB_iff.1 h
  exact hC.1 _ hx
theorem readyL_of {n : Int} {T : List (List RowD)} {L : List (Nat × Nat)} (hL : L.Pairwise lexL) (h : ∀ x : Nat × Nat, x ∈ L ↔ readyB n T x.1 x.2 = true) : L = readyL n T :=
  lex_unique hL ((insts_lex T).filter _) (fun x => by
    unfold readyL
    rw [h, List.mem_filter, mem_insts]
    exact ⟨fun hr => ⟨readyB_com hr, hr⟩, fun hr => hr.2⟩)
theorem readyL_short {n : Int} {T : List (List RowD)} (hg : goodTab n T = true) : (readyL n T).length ≤ 30 :=
  Nat.le_trans (List.length_filter_le _ _) (insts_short hg)
noncomputable def readyR (n : Int) (T : List (List RowD)) : List (List Int) := if goodTab n T then (readyL n T).map pairOf else []

end Go.Proofs.Ythnoeknalpnadaa

namespace Go.Proofs.Ythnoeknalpnadaa
open Go.RowKit Go.Maps
set_option linter.unusedVariables false

def inL (M : List (Nat × Nat)) (p q : Nat) : Bool := decide ((p, q) ∈ M)
theorem inL_snoc {M : List (Nat × Nat)} {z : Nat × Nat} (p q : Nat) : inL (M ++ [z]) p q = (inL M p q || (decide (p = z.1) && decide (q = z.2))) := by
  unfold inL
  rw [Bool.eq_iff_iff]
  simp [Prod.ext_iff]
def yes (_ _ : Nat) : Value := .bool true
theorem zeroBoolV (W : World) : (zeroValue 4).run Try.prog W = .ok (.bool false) W := by kernel_rfl
/-- append(s, x), s of instances and of the call's own: and where the new slice lies. -/
theorem wpList_pushIAt {ops : Array Oper} {rest : List Oper} {o : Oper} {a : Act} {Q : Exit → Act → World → Prop} {w : World} (hgd : o.guard = none) (s x : Operand)
    (ho : o.op = .call { callee := .builtin .append, args := #[s, x], argTypes := #[150, 150] })
    (B : Nat) (v : Value) (L : List (Nat × Nat)) (y : Nat × Nat) (hs : a.eval s = v) (hf : FreshIn B w v L) (g : Nat) (c : Nat) (hx : a.eval x = .slice (some ⟨g, 0, none⟩) 1 c)
    (hc0 : w.cell? ⟨g, 0, none⟩ = some (.int .i64 (y.1 : Int))) (hc1 : w.cell? ⟨g, 1, none⟩ = some (.int .i64 ((y.2 : Int) + 1))) (hl : L.length ≤ 1048576) (hB : B ≤ w.heap.size)
    (h : ∀ v' w', FreshIn B w' v' (L ++ [y]) → w.grownBy w' v.ownBlock → Kept B w w' → (v'.ownBlock = v.ownBlock ∨ v'.ownBlock = some w.heap.size) → wpList Try.prog ops Q rest (a.put o.dst v') w') : wpList Try.prog ops Q (o :: rest) a w := by
  obtain ⟨i0, hi, hz0, hz1, hz2⟩ := info_parts Try.infoInst
  refine wpList_append_own_at _ hgd s x 150 ho B 137 i0 (.agg #[.int .i64 0, .int .i64 0]) 2 16 Try.underlying150 hi hz0 hz1 hz2 rfl (by decide) v L.length _ hs hf ⟨g, 0, none⟩ 1 c (cellsI y) hx rfl ?_ ?_ ?_ ?_ hB ?_
  · intro j u hj
    match j, hj with
    | 0, hj => simp [cellsI] at hj; subst hj; simpa [Addr.add] using hc0
    | 1, hj => simp [cellsI] at hj; subst hj; simpa [Addr.add] using hc1
  · intro u hu
    simp [cellsI] at hu
    rcases hu with rfl | rfl <;> rfl
  · unfold maxLen; omega
  · omega
  · intro v' w' ho' hg _ hloc
    refine h v' w' ?_ hg (fun w0 hx0 hB0 => Below.grown hx0 hg hx0.size (fun q hq => Nat.le_trans hB0 (World.ownsRow.lt hf q hq).1)) hloc
    unfold FreshIn
    have e : flatI (L ++ [y]) = flatI L ++ cellsI y := by simp [flatI]
    rw [e, List.length_append]
    exact ho'

/-- The slice without its last. -/
theorem FreshIn.pop {B : Nat} {w : World} {g cap : Nat} {L : List (Nat × Nat)} {y : Nat × Nat} (h : FreshIn B w (.slice (some ⟨g, 0, none⟩) (L.length + 1) cap) (L ++ [y])) : FreshIn B w (.slice (some ⟨g, 0, none⟩) L.length cap) L := by
  have h0 : w.ownsRow B 137 2 (.slice (some ⟨g, 0, none⟩) (L.length + 1) cap) (L ++ [y]).length (flatI (L ++ [y])) := h
  rcases h0.2 with ⟨hv, _⟩ | ⟨g', cap', cur, hv, hb, hg, hnc, hcm, hcs, htake⟩
  · cases hv
  · simp only [Value.slice.injEq, Option.some.injEq, Addr.mk.injEq, and_true] at hv
    obtain ⟨rfl, _, rfl⟩ := hv
    refine ⟨flatI_len L, .inr ⟨g, cap, cur, rfl, hb, hg, ?_, hcm, hcs, ?_⟩⟩
    · simp at hnc; omega
    · have e : flatI (L ++ [y]) = flatI L ++ cellsI y := by simp [flatI]
      rw [e] at htake
      have e2 : cur.toList.take (L.length * 2) = ((cur.toList.take ((L ++ [y]).length * 2)).take (L.length * 2)) := by
        rw [List.take_take, Nat.min_eq_left (by simp; omega)]
      rw [e2, htake, List.take_append_of_le_length (by rw [flatI_len]; exact Nat.le_refl _), List.take_of_length_le (by rw [flatI_len]; exact Nat.le_refl _)]

/-- What stands in memory: the map of the met ones in block b, those that wait in lv. -/
structure CW (w wr : World) (b : Nat) (lv : Value) (D : DataW Value) (M L : List (Nat × Nat)) : Prop where
  fm : FreshIn (b + 1) wr lv L
  mm : RowMap wr b M.length D
  md : MapOf D (inL M) yes
  sz : Maps.size D = M.length
  ext : Ext w wr
  lo : w.heap.size ≤ b
  hi : b + 1 ≤ wr.heap.size
theorem CW.on {w wr w' : World} {b : Nat} {lv : Value} {D : DataW Value} {M L : List (Nat × Nat)} (h : CW w wr b lv D M L) (e : Ext wr w') : CW w w' b lv D M L :=
  ⟨h.fm.ext e, h.mm.ext e, h.md, h.sz, h.ext.trans e, h.lo, Nat.le_trans h.hi e.size⟩
def lenOf : Value → Nat
  | .slice _ n _ => n
  | _ => 0

end Go.Proofs.Ythnoeknalpnadaa

namespace Go.Proofs.Ythnoeknalpnadaa
open Go.RowKit Go.Maps
set_option linter.unusedVariables false

/-- The place in B. -/
def placeV (B : List (Nat × Nat)) (p q : Nat) : Value := .int .i64 (idxOf B (p, q) : Int)
theorem zeroIntV (W : World) : (zeroValue 3).run Try.prog W = .ok (.int .i64 0) W := by kernel_rfl
theorem placeOk {W : World} {b n0 : Nat} {D : DataW Value} {B : List (Nat × Nat)} (hm : RowMap W b n0 D) (hd : MapOf D (inL B) (placeV B)) {p q : Nat} (hl : p < 5 ∧ q < 6) :
    ∃ r : Int, (Instr.lookup 153 (.map (some b)) (.agg #[.int .i64 p, .int .i64 ((q : Int) + 1)]) true).run Try.prog W = .ok (.tuple #[.int .i64 r, .bool (decide ((p, q) ∈ B))]) W := by
  obtain ⟨v, ps, hrun, hv⟩ := hm.look_ok instKeyed Try.underlying153 (zeroIntV W) (zd := .held _) (zp := []) rfl (keyOf_inst (a := p) (b := (q : Int) + 1) (wf_small (by omega) (by omega)) (wf_small (by omega) (by omega)))
  by_cases h : (p, q) ∈ B
  · have hs : inL B p q = true := decide_eq_true h
    rw [hd.val p q hs] at hv
    rw [hd.has p q hs] at hrun
    simp only [asIs, Option.some.injEq, Prod.mk.injEq, DataW.held.injEq] at hv
    rw [hv.1] at hrun
    rw [decide_eq_true h]
    exact ⟨_, hrun⟩
  · have hs : inL B p q = false := decide_eq_false h
    have hn := hd.hasNot (p := p) (q := q) (by omega) hs
    rw [Maps.atKey_of_not_has hn] at hv
    rw [hn] at hrun
    simp only [asIs, Option.some.injEq, Prod.mk.injEq, DataW.held.injEq] at hv
    rw [hv.1] at hrun
    rw [decide_eq_false h]
    exact ⟨_, hrun⟩
theorem placeAt {W : World} {b n0 : Nat} {D : DataW Value} {B : List (Nat × Nat)} (hm : RowMap W b n0 D) (hd : MapOf D (inL B) (placeV B)) {p q : Nat} (h : (p, q) ∈ B) :
    (Instr.lookup 153 (.map (some b)) (.agg #[.int .i64 p, .int .i64 ((q : Int) + 1)]) false).run Try.prog W = .ok (.int .i64 (idxOf B (p, q) : Int)) W := by
  have hs : inL B p q = true := decide_eq_true h
  have hl := hd.low p q hs
  obtain ⟨v, ps, hrun, hv⟩ := hm.lookup instKeyed Try.underlying153 (zeroIntV W) (zd := .held _) (zp := []) rfl (keyOf_inst (a := p) (b := (q : Int) + 1) (wf_small (by omega) (by omega)) (wf_small (by omega) (by omega)))
  rw [hd.val p q hs] at hv
  simp only [asIs, Option.some.injEq, Prod.mk.injEq, DataW.held.injEq] at hv
  rw [hv.1] at hrun
  exact hrun

set_option maxHeartbeats 2000000 in
/-- The closure that is handed to DeleteFunc: is it in none of the second list? -/
theorem notSecond_any (B : List (Nat × Nat)) (bm b n0 : Nat) (D : DataW Value) (p q : Nat) (w : World) (hc : w.cell? ⟨bm, 0, none⟩ = some (.map (some b))) (hm : RowMap w b n0 D) (hd : MapOf D (inL B) (placeV B)) (hl : p < 5 ∧ q < 6) :
    Calls Try.prog 118 #[.agg #[.int .i64 p, .int .i64 ((q : Int) + 1)], .pointer (some ⟨bm, 0, none⟩)] w (BoolExt (!decide ((p, q) ∈ B)) w) := by
  have xa := Ext.alloc1 w (.cells #[.int .i64 p, .int .i64 ((q : Int) + 1)] 137)
  have gc := xa.cell hc
  obtain ⟨r, hlk⟩ := placeOk (hm.ext xa) hd hl
  have XA := Lib.hid xa
  obtain ⟨m, hmm⟩ : ∃ m, m = decide ((p, q) ∈ B) := ⟨_, rfl⟩
  rw [← hmm] at hlk ⊢
  clear hm hd hc hmm xa
  go_enter Try.func118, Try.ntmps118
  go_wp2
  go_ret
  exact ⟨rfl, XA.out⟩
end Go.Proofs.Ythnoeknalpnadaa
