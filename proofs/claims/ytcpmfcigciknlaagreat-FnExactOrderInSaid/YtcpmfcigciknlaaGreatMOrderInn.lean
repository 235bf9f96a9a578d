/- Texts of this proof, part n: words, plain facts, contracts. -/
import Derived.Test.YtcpmfcigciknlaaGreatMOrderInm
import Derived.Test.YtcpmfcigciknlaaGreatMOrderInc
import Derived.Test.YtcpmfcigciknlaaGreatMOrderIna
import Derived.Deep.DeepCutAuto
import Derived.Test.YtcpmfcigciknlaaGreatMOrderIng
import Derived.Deep.Quiet
import Derived.Test.YtcpmfcigciknlaaGreatMOrderInf
import Derived.Deep.RegionHeld3
import Derived.Sort.Grow
import Derived.Shelf.SlSortCmp.WholeK
import Derived.Shelf.SlSortCmp.NoneTotal

namespace Go.Proofs.YtcpmfcigciknlaaGreat
open Go.RowKit Go.Maps
set_option linter.unusedVariables false

/-- Rows of two numbers each in new memory. -/
def PRows (B : Nat) (w : World) (vs : List Value) (L : List (Nat × Nat)) : Prop :=
  vs.length = L.length ∧ ∀ (j : Nat) (u : Value) (x : Nat × Nat), vs[j]? = some u → L[j]? = some x → Fresh B w u (pairOf x)
theorem PRows.nil (B : Nat) (w : World) : PRows B w [] [] := ⟨rfl, fun j u x h => by simp at h⟩
theorem PRows.ext {B : Nat} {w w' : World} {vs : List Value} {L : List (Nat × Nat)} (h : PRows B w vs L) (e : Ext w w') : PRows B w' vs L := ⟨h.1, fun j u x hu hx => (h.2 j u x hu hx).ext e⟩
theorem PRows.more {B B' : Nat} {w : World} {vs : List Value} {L : List (Nat × Nat)} (h : PRows B w vs L) (hb : B' ≤ B) : PRows B' w vs L := ⟨h.1, fun j u x hu hx => (h.2 j u x hu hx).more hb⟩
theorem fresh_apart {B B' : Nat} {w : World} {v u : Value} {vs : List Value} {l : List Int} (h : FreshV B w v vs) (k : Fresh B' w u l) : u.ownBlock = none ∨ u.ownBlock ≠ v.ownBlock := by
  unfold FreshV at h
  unfold Fresh at k
  exact types_apart h k (by decide)
theorem PRows.kept {B B' : Nat} {w w' : World} {vs ms : List Value} {mv : Value} {L : List (Nat × Nat)} (h : PRows B w vs L) (hm : FreshV B' w mv ms) (g : w.grownBy w' mv.ownBlock) : PRows B w' vs L :=
  ⟨h.1, fun j u x hu hx => World.ownsRow.kept (h.2 j u x hu hx) g (fresh_apart hm (h.2 j u x hu hx))⟩
theorem PRows.snoc {B : Nat} {w : World} {vs : List Value} {L : List (Nat × Nat)} {u : Value} {x : Nat × Nat} (h : PRows B w vs L) (hu : Fresh B w u (pairOf x)) : PRows B w (vs ++ [u]) (L ++ [x]) := by
  refine ⟨by simp [h.1], fun j z y hz hy => ?_⟩
  by_cases hj : j < vs.length
  · rw [List.getElem?_append_left hj] at hz
    rw [List.getElem?_append_left (by rw [← h.1]; exact hj)] at hy
    exact h.2 j z y hz hy
  · rw [List.getElem?_append_right (by omega)] at hz
    rw [List.getElem?_append_right (by rw [← h.1]; omega)] at hy
    have hj' : j - vs.length = 0 := by
      have := (List.getElem?_eq_some_iff.1 hz).1
      simp at this; omega
    rw [hj'] at hz
    rw [← h.1, hj'] at hy
    simp at hz hy
    subst hz hy
    exact hu
theorem PRows.ins {B : Nat} {w : World} {vs : List Value} {L : List (Nat × Nat)} {xv : Value} {x : Nat × Nat} (h : PRows B w vs L) (hx : Fresh B w xv (pairOf x)) : PRows B w (vs.take (insKI L x) ++ [xv] ++ vs.drop (insKI L x)) (insL L x) := by
  have hk : insKI L x ≤ L.length := insAtI_le L x _
  refine ⟨?_, ?_⟩
  · unfold insL
    simp only [List.length_append, List.length_take, List.length_drop, h.1]
    rfl
  · intro j u y hu hy
    unfold insL at hy
    have hlt : (vs.take (insKI L x)).length = insKI L x := by rw [List.length_take, h.1]; omega
    have hlt2 : (L.take (insKI L x)).length = insKI L x := by rw [List.length_take]; omega
    rw [List.append_assoc] at hu hy
    by_cases h1 : j < insKI L x
    · rw [List.getElem?_append_left (by omega), List.getElem?_take, if_pos h1] at hu hy
      exact h.2 j u y hu hy
    · rw [List.getElem?_append_right (by omega)] at hu hy
      rw [hlt] at hu
      rw [hlt2] at hy
      by_cases h2 : j - insKI L x = 0
      · rw [h2] at hu hy
        obtain rfl : xv = u := by simpa using hu
        obtain rfl : x = y := by simpa using hy
        exact hx
      · obtain ⟨i, hi⟩ : ∃ i, j - insKI L x = i + 1 := ⟨j - insKI L x - 1, by omega⟩
        rw [hi, List.singleton_append, List.getElem?_cons_succ, List.getElem?_drop] at hu hy
        exact h.2 _ u y hu hy
theorem PRows.at {B : Nat} {w : World} {v : Value} {vs : List Value} {L : List (Nat × Nat)} (f : FreshV B w v vs) (h : PRows B w vs L) : PairsAt w v vs L :=
  ⟨h.1, f.vals, fun j u x hu hx => (h.2 j u x hu hx).ints⟩
theorem PairsAt.intss {w : World} {v : Value} {vs : List Value} {L : List (Nat × Nat)} (h : PairsAt w v vs L) : Intss w v (L.map pairOf) := by
  rcases h.reads with ⟨rfl, rfl⟩ | ⟨b, off, cap, rfl, h1, h2, h3⟩
  · obtain rfl : L = [] := List.eq_nil_of_length_eq_zero h.len.symm
    exact Intss.nil w
  · refine ⟨some ⟨b, off, none⟩, cap, by rw [List.length_map, h.len], by rw [List.length_map, ← h.len]; omega, ⟨by rw [List.length_map, ← h.len]; omega, h2, fun e => by cases e⟩, fun _ => ⟨b, off, rfl, fun j hj => ?_⟩⟩
    rw [List.length_map] at hj
    have hv : vs[j]? = some (vs[j]'(by rw [h.len]; exact hj)) := List.getElem?_eq_getElem _
    have hL : L[j]? = some L[j] := List.getElem?_eq_getElem hj
    refine ⟨_, h3 j _ hv, ?_⟩
    rw [List.getElem?_map, hL, Option.map_some, Option.getD_some]
    exact h.row j _ _ hv hL

/-- The met ones mv and the blockers ov, as the pairs of s. -/
structure BW (wb wr : World) (mv ov : Value) (ms os : List Value) (s : List (Nat × Nat) × List (Nat × Nat)) : Prop where
  fm : FreshV wb.heap.size wr mv ms
  fo : FreshV wb.heap.size wr ov os
  rm : PRows wb.heap.size wr ms s.1
  ro : PRows wb.heap.size wr os s.2
  ap : ov.ownBlock = none ∨ ov.ownBlock ≠ mv.ownBlock
  ext : Ext wb wr
/-- .. and the list dv, of the pairs P. -/
structure DW (wb wr : World) (mv dv : Value) (ds : List Value) (P : List (Nat × Nat)) : Prop where
  fd : FreshV wb.heap.size wr dv ds
  rd : PRows wb.heap.size wr ds P
  ap : dv.ownBlock = none ∨ dv.ownBlock ≠ mv.ownBlock
theorem BW.on {wb wr w' : World} {mv ov : Value} {ms os : List Value} {s : List (Nat × Nat) × List (Nat × Nat)} (h : BW wb wr mv ov ms os s) (e : Ext wr w') : BW wb w' mv ov ms os s :=
  ⟨h.fm.ext e, h.fo.ext e, h.rm.ext e, h.ro.ext e, h.ap, h.ext.trans e⟩
theorem DW.on {wb wr w' : World} {mv dv : Value} {ds : List Value} {P : List (Nat × Nat)} (h : DW wb wr mv dv ds P) (e : Ext wr w') : DW wb w' mv dv ds P := ⟨h.fd.ext e, h.rd.ext e, h.ap⟩
theorem ap_new {B B' : Nat} {w : World} {mv mv' ov : Value} {os : List Value} (h : ov.ownBlock = none ∨ ov.ownBlock ≠ mv.ownBlock) (fo : FreshV B w ov os) (loc : mv'.ownBlock = mv.ownBlock ∨ mv'.ownBlock = some B') (hB : w.heap.size ≤ B') : ov.ownBlock = none ∨ ov.ownBlock ≠ mv'.ownBlock := by
  rcases loc with e | e
  · rw [e]; exact h
  · rw [e]
    refine .inr fun hb => ?_
    have := (World.ownsRow.lt fo _ hb).2
    omega
theorem BW.meet {wb W w' : World} {mv mv' ov u : Value} {ms os : List Value} {s : List (Nat × Nat) × List (Nat × Nat)} {x : Nat × Nat} (h : BW wb W mv ov ms os s) (hu : Fresh wb.heap.size W u (pairOf x))
    (f : FreshV wb.heap.size w' mv' (ms ++ [u])) (g : W.grownBy w' mv.ownBlock) (k : Kept wb.heap.size W w') (loc : mv'.ownBlock = mv.ownBlock ∨ mv'.ownBlock = some W.heap.size) : BW wb w' mv' ov (ms ++ [u]) os (s.1 ++ [x], s.2) :=
  ⟨f, World.ownsRow.kept h.fo g h.ap, (h.rm.kept h.fm g).snoc (World.ownsRow.kept hu g (fresh_apart h.fm hu)), h.ro.kept h.fm g, ap_new h.ap h.fo loc (Nat.le_refl _), k wb h.ext (Nat.le_refl _)⟩
theorem DW.meet {wb W w' : World} {mv mv' dv : Value} {ms ds : List Value} {P : List (Nat × Nat)} (h : DW wb W mv dv ds P) (fm : FreshV wb.heap.size W mv ms) (g : W.grownBy w' mv.ownBlock) (loc : mv'.ownBlock = mv.ownBlock ∨ mv'.ownBlock = some W.heap.size) : DW wb w' mv' dv ds P :=
  ⟨World.ownsRow.kept h.fd g h.ap, h.rd.kept fm g, ap_new h.ap h.fd loc (Nat.le_refl _)⟩
theorem BW.block {wb W w' : World} {mv ov ov' u : Value} {ms os : List Value} {s : List (Nat × Nat) × List (Nat × Nat)} {x : Nat × Nat} (h : BW wb W mv ov ms os s) (hu : Fresh wb.heap.size W u (pairOf x))
    (f : FreshV W.heap.size w' ov' (os.take (insKI s.2 x) ++ [u] ++ os.drop (insKI s.2 x))) (e : Ext W w') : BW wb w' mv ov' ms (os.take (insKI s.2 x) ++ [u] ++ os.drop (insKI s.2 x)) (s.1, insL s.2 x) :=
  ⟨h.fm.ext e, f.more h.ext.size, h.rm.ext e, (h.ro.ext e).ins (hu.ext e), by
    cases ho : ov'.ownBlock with
    | none => exact .inl rfl
    | some g =>
      refine .inr fun hm => ?_
      have h1 := (World.ownsRow.lt f g ho).1
      have h2 := (World.ownsRow.lt h.fm g hm.symm).2
      omega, h.ext.trans e⟩
/-- A list that was made behind the met ones. -/
theorem DW.of {wb W w' : World} {mv dv : Value} {ms : List Value} {P : List (Nat × Nat)} (fm : FreshV wb.heap.size W mv ms) (hB : wb.heap.size ≤ W.heap.size) (f : FreshSS W.heap.size w' dv (P.map pairOf)) : ∃ ds, DW wb w' mv dv ds P := by
  obtain ⟨ds, h1, h2⟩ := f.vals
  refine ⟨ds, h1.more hB, ⟨by rw [h2.len, List.length_map], fun j u x hu hx => (h2.row j u _ hu (by rw [List.getElem?_map, hx]; rfl)).more hB⟩, ?_⟩
  cases ho : dv.ownBlock with
  | none => exact .inl rfl
  | some g =>
    refine .inr fun hm => ?_
    have h1 := (World.ownsRow.lt h1 g ho).1
    have h2 := (World.ownsRow.lt fm g hm.symm).2
    omega

theorem BW.start (wb : World) (p q : Nat) : BW wb ((wb.alloc (.cells #[.int .i64 p, .int .i64 ((q : Int) + 1)] 3)).alloc (.cells #[.slice (some ⟨wb.heap.size, 0, none⟩) 2 2] 26)) (.slice (some ⟨wb.heap.size + 1, 0, none⟩) 1 1) (.slice none 0 0) [.slice (some ⟨wb.heap.size, 0, none⟩) 2 2] [] ([(p, q)], []) := by
  refine ⟨?_, FreshV.nil _ _, ⟨rfl, fun j u x hu hx => ?_⟩, PRows.nil _ _, .inl rfl, Ext.alloc2 _ _ _⟩
  · have h := World.ownsRow_lit (base := wb.heap.size) (e := 26) (size := 1) (wb.alloc (.cells #[.int .i64 p, .int .i64 ((q : Int) + 1)] 3)) #[.slice (some ⟨wb.heap.size, 0, none⟩) 2 2] 1 (by simp) (by unfold maxLen; omega) (by simp)
    simpa [FreshV] using h
  · match j, hu, hx with
    | 0, hu, hx =>
      simp at hu hx
      subst hu hx
      exact (fresh_lit wb (pairOf (p, q)) #[.int .i64 p, .int .i64 ((q : Int) + 1)] wb.heap.size rfl (Nat.le_refl _) (by simp [pairOf])).ext (Ext.alloc1 _ _)
theorem BlkB.start {p q : Nat} (h : p < 5 ∧ q < 6) : BlkB ([(p, q)], []) :=
  ⟨by simp, by simp, fun z hz => by
    obtain rfl : z = (p, q) := by simpa using hz
    exact h, fun z hz => by cases hz⟩

/-- append(s, x), s of lists and of the call's own: and where the new slice lies. -/
theorem wpList_pushVAt {ops : Array Oper} {rest : List Oper} {o : Oper} {a : Act} {Q : Exit → Act → World → Prop} {w : World} (hgd : o.guard = none) (s x : Operand)
    (ho : o.op = .call { callee := .builtin .append, args := #[s, x], argTypes := #[63, 63] })
    (B : Nat) (v : Value) (vs : List Value) (hs : a.eval s = v) (hf : FreshV B w v vs) (u : Value) (ad : Addr) (c : Nat) (hx : a.eval x = .slice (some ad) 1 c)
    (hc : w.cell? ad = some u) (h1 : u.oneCell' = true) (hl : vs.length ≤ 1048576) (hB : B ≤ w.heap.size)
    (h : ∀ v' w', FreshV B w' v' (vs ++ [u]) → w.grownBy w' v.ownBlock → Kept B w w' → (v'.ownBlock = v.ownBlock ∨ v'.ownBlock = some w.heap.size) → wpList Tryz.prog ops Q rest (a.put o.dst v') w') : wpList Tryz.prog ops Q (o :: rest) a w := by
  obtain ⟨i0, hi, hz0, hz1, hz2⟩ := info_parts Tryz.infoInts
  refine wpList_append_own_at _ hgd s x 63 ho B 26 i0 (.slice none 0 0) 1 24 Tryz.underlying63 hi hz0 hz1 hz2 rfl (by decide) v vs.length _ hs hf ad 1 c [u] hx rfl ?_ ?_ ?_ ?_ hB ?_
  · intro j z hj
    match j, hj with
    | 0, hj => simp at hj; subst hj; simpa [Addr.add] using hc
  · intro z hz; simp at hz; subst hz; exact h1
  · unfold maxLen; omega
  · omega
  · intro v' w' ho' hg _ hloc
    exact h v' w' (by unfold FreshV; simpa using ho') hg (fun q hq hqB => Below.grown hq hg hq.size (fun b hb => Nat.le_trans hqB (World.ownsRow.lt hf b hb).1)) hloc
end Go.Proofs.YtcpmfcigciknlaaGreat

namespace Go.Proofs.YtcpmfcigciknlaaGreat
open Go.RowKit
set_option linter.unusedVariables false

/-- Where a list stands first, or -1. -/
def FoundAt (L : List (List Int)) (x : List Int) (r : Int) : Prop :=
  (∃ k : Nat, r = (k : Int) ∧ L[k]? = some x ∧ ∀ i, i < k → L[i]? ≠ some x) ∨ (r = -1 ∧ x ∉ L)

set_option maxHeartbeats 1000000 in
theorem l6Find_any (v u : Value) (L : List (List Int)) (x : List Int) (w : World) (hv : Intss w v L) (hu : Ints w u x) :
    Calls Tryz.prog 94 #[v, u] w (fun e w' => ∃ r, e = .returned (.int .i64 r) ∧ FoundAt L x r ∧ Ext w w') := by
  have HU := Lib.hid hu
  obtain ⟨au, cu, rfl, _⟩ := hu
  obtain ⟨av, cv, rfl, hlv, _, hcv⟩ := hv
  unfold maxLen at hlv
  go_enter Tryz.func94, Tryz.ntmps94
  go_wp2
  go_loopw [9] (fun i wr => ∃ k : Nat, k ≤ L.length ∧ i = .int .i64 k ∧ Hid (∀ i, i < k → L[i]? ≠ some x) ∧ Hid (Ext w wr)) (fun i _ => L.length - (intOf i).toNat)
  case atStart => exact ⟨0, Nat.zero_le _, rfl, Lib.hid (fun _ h => by omega), Lib.hid (Ext.refl _)⟩
  case round =>
    obtain ⟨k, hk, rfl, HN, HX⟩ := hrel
    by_cases hlt : k < L.length
    · obtain ⟨bv, ov, rfl, dv⟩ := hcv (by omega)
      obtain ⟨z, hz, iz⟩ := dv k hlt
      rw [List.getElem?_eq_getElem hlt, Option.getD_some] at iz
      have gz := HX.out.cell hz
      have IZ := Lib.hid (iz.ext HX.out)
      obtain ⟨az, cz, rfl, _⟩ := iz
      clear dv hz hcv
      go_wp2_with fail
      refine (l1Same_any _ _ _ _ _ (HU.out.ext HX.out) IZ.out).mono ?_
      rintro e w1 ⟨rfl, x1⟩
      have X1 := Lib.hid (HX.out.trans x1)
      clear x1 gz
      by_cases he : x = L[k]
      · rw [decide_eq_true he]
        have HE := Lib.hid he
        clear he
        go_wp2
        go_ret
        exact ⟨_, rfl, .inl ⟨k, rfl, by rw [List.getElem?_eq_getElem hlt, HE.out], HN.out⟩, X1.out⟩
      · rw [decide_eq_false he]
        have HN2 : Hid (∀ i, i < k + 1 → L[i]? ≠ some x) := Lib.hid (fun i hi => by
          by_cases e : i = k
          · subst e
            rw [List.getElem?_eq_getElem hlt]
            exact fun e => he (Option.some.inj e).symm
          · exact HN.out i (by omega))
        clear he HN
        go_wp2
        go_roundw
        case rel => exact ⟨k + 1, by omega, by go_num, HN2, X1⟩
        case measure => simp [intOf]; omega
    · obtain rfl : k = L.length := by omega
      have hno : x ∉ L := fun hm => by
        obtain ⟨i, hi, e⟩ := List.getElem_of_mem hm
        exact HN.out i hi (by rw [List.getElem?_eq_getElem hi, e])
      have HNO := Lib.hid hno
      clear hno HN
      go_wp2
      go_ret
      exact ⟨_, rfl, .inr ⟨rfl, HNO.out⟩, HX.out⟩

end Go.Proofs.YtcpmfcigciknlaaGreat

namespace Go.Proofs.YtcpmfcigciknlaaGreat
open Go.RowKit Go.Maps
set_option linter.unusedVariables false

theorem pairOf_inj' {x y : Nat × Nat} (h : pairOf x = pairOf y) : x = y := by
  unfold pairOf at h
  simp only [List.cons.injEq, and_true] at h
  exact Prod.ext (by omega) (by omega)
theorem found_in {L : List (Nat × Nat)} {x : Nat × Nat} {r : Int} (h : FoundAt (L.map pairOf) (pairOf x) r) : ((∃ k : Nat, r = (k : Int)) ∧ x ∈ L) ∨ (r = -1 ∧ x ∉ L) := by
  rcases h with ⟨k, rfl, hk, _⟩ | ⟨rfl, hno⟩
  · refine .inl ⟨⟨k, rfl⟩, ?_⟩
    rw [List.getElem?_map] at hk
    cases hL : L[k]? with
    | none => rw [hL] at hk; simp at hk
    | some y =>
      rw [hL] at hk
      simp only [Option.map_some, Option.some.injEq] at hk
      rw [← pairOf_inj' hk]
      exact List.mem_of_getElem? hL
  · exact .inr ⟨rfl, fun hm => hno (List.mem_map.2 ⟨x, hm, rfl⟩)⟩
theorem FreshV.big {B : Nat} {w : World} {v : Value} {vs : List Value} (h : FreshV B w v vs) (hp : 0 < vs.length) : ∃ g cap, v = .slice (some ⟨g, 0, none⟩) vs.length cap ∧ vs.length ≤ cap ∧ cap ≤ maxLen := by
  have h0 : w.ownsRow B 26 1 v vs.length vs := h
  rcases h0.2 with ⟨rfl, hn⟩ | ⟨g, cap, cur, rfl, _, _, h1, h2, _⟩
  · omega
  · exact ⟨g, cap, rfl, h1, h2⟩
theorem inst_st {n : Int} {T : List (List RowD)} {p q : Nat} (hp : p < T.length) : ((rowOf n T p q).st == 3) = instCom T p q := by
  unfold instCom
  rw [List.getElem?_eq_getElem hp, Option.getD_some]
  by_cases hq : q < T[p].length
  · rw [rowOf_in hp hq, List.getElem?_eq_getElem hq]
  · rw [rowOf_out hp (by omega), List.getElem?_eq_none (by omega)]
    rfl
theorem field_rowS (b v st k i f t a s : Int) (u : Value) (W : World) : (Instr.field 83 (.agg #[.int .i64 b, .int .i64 v, .int .i64 st, .int .i64 k, .int .i64 i, .int .i64 f, .int .i64 t, .int .i64 a, .int .i64 s, u]) 2).run Tryz.prog W = .ok (.int .i64 st) W := by kernel_rfl
theorem depsL_row {n : Int} {T : List (List RowD)} (hg : goodTab n T = true) {y x : Nat × Nat} (hy : instCom T y.1 y.2 = true) (hx : x ∈ depsL n T y) : x.1 < T.length := by
  have h := (mem_depsL.1 hx).1
  unfold hungL hungTo hungAt depM at h
  simp only [List.mem_flatMap, List.mem_range, List.mem_map] at h
  obtain ⟨p, hp, i, hi, rfl⟩ := h
  have h1 := (com_row hg hy).2.1
  show p < T.length
  omega
theorem depsL_len {n : Int} {T : List (List RowD)} (hg : goodTab n T = true) {y : Nat × Nat} (hy : y.1 < T.length) : (depsL n T y).length ≤ 1000 := by
  have h1 := depsTo_len (r := rowOf n T y.1 y.2) (x := y) (fun k => by have := dep_in hg hy y.2 k; unfold depN; omega) (rowOf n T y.1 y.2).l.length
  have h2 := rowOf_list hg hy y.2
  show (depsTo (rowOf n T y.1 y.2) y (rowOf n T y.1 y.2).l.length).length ≤ 1000
  omega

/-- What the model's l6Blockers tells. -/
def BlkR (n : Int) (T : List (List RowD)) (x0 : Nat × Nat) (w : World) (e : Ending) (w' : World) : Prop :=
  ∃ v os s i, e = .returned v ∧ PairsAt w' v os s.2 ∧ BlkI n T x0 i 0 s ∧ s.1.length ≤ i ∧ BlkB s ∧ Ext w w'

theorem addB_old {T : List (List RowD)} {s : List (Nat × Nat) × List (Nat × Nat)} {x : Nat × Nat} (h : x ∈ s.1 ∨ x ∈ s.2) : addB T s x = s := by unfold addB; rw [if_pos h]
theorem addB_com {T : List (List RowD)} {s : List (Nat × Nat) × List (Nat × Nat)} {x : Nat × Nat} (h1 : x ∉ s.1) (h2 : x ∉ s.2) (h : instCom T x.1 x.2 = true) : addB T s x = (s.1 ++ [x], s.2) := by
  unfold addB; rw [if_neg (by simp [h1, h2]), if_pos h]
theorem addB_not {T : List (List RowD)} {s : List (Nat × Nat) × List (Nat × Nat)} {x : Nat × Nat} (h1 : x ∉ s.1) (h2 : x ∉ s.2) (h : instCom T x.1 x.2 = false) : addB T s x = (s.1, insL s.2 x) := by
  unfold addB; rw [if_neg (by simp [h1, h2]), if_neg (by rw [h]; simp)]

set_option maxHeartbeats 8000000 in
set_option maxRecDepth 100000 in
theorem l6Blockers_any (n : Int) (u : Value) (T : List (List RowD)) (p q : Nat) (w : World) (hu : Rowzz w u T) (hg : goodTab n T = true) (hc : instCom T p q = true) :
    Calls Tryz.prog 134 #[.agg #[.int .i64 n, u], .int .i64 p, .int .i64 ((q : Int) + 1)] w (BlkR n T (p, q) w) := by
  have HG := Lib.hid hg
  have HC := Lib.hid hc
  have hcr := com_row hg hc
  have hp1 := inT_low (goodTab_both hg).1 (goodTab_both hg).2 (instCom_inT hc)
  obtain ⟨wb, hwb⟩ : ∃ wb, wb = w.alloc (.cells #[.int .i64 n, u] 32) := ⟨_, rfl⟩
  have xb : Ext w wb := by rw [hwb]; exact Ext.alloc1 _ _
  have b0 := attrAt_new w 32 n u
  rw [← hwb] at b0
  have HU := Lib.hid (hu.ext xb)
  have XB := Lib.hid xb
  have HB := Lib.hid b0
  have SB : Hid (wb.heap.size = w.heap.size + 1) := Lib.hid (by rw [hwb]; simp)
  have HWB := Lib.hid hwb
  obtain ⟨au, cu, rfl, hlu, _, _⟩ := hu
  clear hg hc hcr xb b0 hwb hlu
  go_enter Tryz.func134, Tryz.ntmps134
  go_wp2
  rw [← HWB.out]
  go_loopw [7, 8, 9] (fun mv ov i wr => ∃ (k : Nat) (s : List (Nat × Nat) × List (Nat × Nat)) (ms os : List Value), i = .int .i64 k ∧ k ≤ s.1.length ∧ Hid (BW wb wr mv ov ms os s) ∧ Hid (BlkI n T (p, q) k 0 s) ∧ Hid (BlkB s)) (fun _ _ i _ => 31 - (intOf i).toNat)
  case atStart =>
    have h := BW.start wb p q
    rw [SB.out] at h
    exact ⟨0, ([(p, q)], []), _, [], rfl, by simp, Lib.hid h, Lib.hid (BlkI.start HC.out), Lib.hid (BlkB.start (by omega))⟩
  case round =>
    obtain ⟨k, s, ms, os, rfl, hk, HW, HI, HBB⟩ := hrel
    have hml := HW.out.rm.1
    have hs1 : 0 < s.1.length := List.length_pos_of_mem HI.out.first
    have hfew := HBB.out.few.1
    obtain ⟨g, cap, rfl, hcap, hcm⟩ := HW.out.fm.big (by omega)
    obtain ⟨m, hm⟩ : ∃ m, m = s.1.length := ⟨_, rfl⟩
    rw [hml, ← hm] at hcap
    have hfm := HW.out.fm
    rw [hml, ← hm] at HW hfm ⊢
    have HM := Lib.hid hm
    have HML : Hid (ms.length = m) := Lib.hid (by rw [hml, hm])
    have HFM := Lib.hid hfm
    unfold maxLen at hcm
    rw [← hm] at hk hs1 hfew
    clear hml hfm hm
    by_cases hlt : k < m
    · have hks : k < s.1.length := by rw [← HM.out]; exact hlt
      obtain ⟨y, hy⟩ : ∃ y, s.1[k]? = some y := ⟨_, List.getElem?_eq_getElem hks⟩
      obtain ⟨yv, hyv⟩ : ∃ yv, ms[k]? = some yv := ⟨_, List.getElem?_eq_getElem (by rw [HW.out.rm.1]; exact hks)⟩
      have gy := HFM.out.at HML.out hyv
      obtain ⟨by_, oy, cy, rfl, y0, y1⟩ := pair_at (HW.out.rm.2 k yv y hyv hy).ints
      have hyc := HI.out.com y (List.mem_of_getElem? hy)
      have hcx := com_row HG.out hyc
      have HY := Lib.hid hy
      have HYC := Lib.hid hyc
      have HBX := Lib.hid (HB.out.ext HW.out.ext)
      have ks : ∀ V, Ext wr V → Ext wr V ∧ V.cell? ⟨w.heap.size, 0, none⟩ = some (.int .i64 n) ∧ V.cell? ⟨w.heap.size, 1, none⟩ = some (.slice au T.length cu) ∧ V.cell? ⟨g, k, none⟩ = some (.slice (some ⟨by_, oy, none⟩) 2 cy) ∧ V.cell? ⟨by_, oy, none⟩ = some (.int .i64 y.1) ∧ V.cell? ⟨by_, oy + 1, none⟩ = some (.int .i64 ((y.2 : Int) + 1)) := fun V hV => ⟨hV, hV.cell HBX.out.1, hV.cell HBX.out.2, hV.cell gy, hV.cell y0, hV.cell y1⟩
      have KS := Lib.hid ks
      have cD : ∀ V, Ext wr V → Calls Tryz.prog 137 #[.agg #[.int .i64 n, .slice au T.length cu], .int .i64 y.1, .int .i64 ((y.2 : Int) + 1)] V (NewIntss ((depsL n T y).map pairOf) V) := fun V hV => l6Deps_any n _ T y.1 y.2 _ (HU.out.ext (HW.out.ext.trans hV)) HG.out hcx.2.2.1 hcx.2.2.2
      have CD := Lib.hid cD
      have HR := Lib.hid (Ext.drew (Ext.refl wr))
      obtain ⟨P, hP⟩ : ∃ P, P = depsL n T y := ⟨_, rfl⟩
      have HP := Lib.hid hP
      have hPl := depsL_len HG.out hcx.2.2.1
      rw [← hP] at hPl
      clear gy y0 y1 hy hyv hyc hcx ks cD hP
      go_wp2_with fail
      go_region_held3 (fun V => Ext wr V ∧ V.cell? ⟨w.heap.size, 0, none⟩ = some (.int .i64 n) ∧ V.cell? ⟨w.heap.size, 1, none⟩ = some (.slice au T.length cu) ∧ V.cell? ⟨g, k, none⟩ = some (.slice (some ⟨by_, oy, none⟩) 2 cy) ∧ V.cell? ⟨by_, oy, none⟩ = some (.int .i64 y.1) ∧ V.cell? ⟨by_, oy + 1, none⟩ = some (.int .i64 ((y.2 : Int) + 1))) (first | (with_reducible exact KS.out _ HR.out) | (with_reducible exact KS.out _ SS.out)) (first | (go_at_call 137; refine (CD.out _ (And.left (by with_reducible assumption))).mono ?_; rintro e W3 ⟨vd, rfl, fd, x3⟩; obtain ⟨ad, kd, rfl⟩ := fd.form; have SS := Lib.hid (Ext.trans (And.left (by with_reducible assumption)) x3)))
      have W0 := HW.out.on (Ext.drew (Ext.refl wr))
      rw [← HP.out] at fd ⊢
      obtain ⟨ds, hds⟩ := DW.of W0.fm W0.ext.size fd
      have DW3 := Lib.hid (hds.on (Ext.refl _))
      have BW3 := Lib.hid (HW.out.on SS.out)
      have hfl : ((P.map pairOf).length) = P.length := by simp
      obtain ⟨mp, hmp⟩ : ∃ mp, mp = P.length := ⟨_, rfl⟩
      rw [hfl] at DW3
      rw [← hmp] at DW3 ⊢
      rw [← hmp] at hPl
      have HMP := Lib.hid hmp
      have HBT := HI
      clear W0 fd x3 hds hfl hmp HW KS CD HR SS
      go_wp2
      go_loopw [7, 8, 37] (fun mv ov i wr => ∃ (t : Nat) (s : List (Nat × Nat) × List (Nat × Nat)) (ms os : List Value), i = .int .i64 t ∧ t ≤ mp ∧ Hid (BW wb wr mv ov ms os s) ∧ Hid (DW wb wr mv (.slice ad mp kd) ds P) ∧ Hid (BlkI n T (p, q) k t s) ∧ Hid (BlkB s) ∧ Hid (s.1[k]? = some y)) (fun _ _ i _ => mp - (intOf i).toNat)
      case atStart => exact ⟨0, s, ms, os, rfl, Nat.zero_le _, BW3, DW3, HBT, HBB, HY⟩
      case round =>
        clear HI HBB BW3 DW3 HBT HFM HBX HML hcap hcm hs1 HY
        obtain ⟨t, s', ms', os', rfl, ht, HW, HD, HI, HBB, HY⟩ := hrel
        have hm7 : 0 < ms'.length := by rw [HW.out.rm.1]; exact List.length_pos_of_mem HI.out.first
        obtain ⟨g7, c7, rfl, _, _⟩ := HW.out.fm.big hm7
        clear hm7
        by_cases htl : t < mp
        · have htp : t < P.length := by rw [← HMP.out]; exact htl
          have hdl : ds.length = mp := by rw [HD.out.rd.1, HMP.out]
          obtain ⟨x, hx⟩ : ∃ x, P[t]? = some x := ⟨_, List.getElem?_eq_getElem htp⟩
          obtain ⟨xv, hxv⟩ : ∃ xv, ds[t]? = some xv := ⟨_, List.getElem?_eq_getElem (by omega)⟩
          obtain ⟨gd, kd', hvd, _, _⟩ := HD.out.fd.big (by omega)
          simp only [Value.slice.injEq] at hvd
          obtain ⟨rfl, hvn, hvk⟩ := hvd
          subst hvk
          clear hvn
          have gx := HD.out.fd.at hdl hxv
          have HXF := Lib.hid (HD.out.rd.2 t xv x hxv hx)
          obtain ⟨bx, ox, cx, rfl, x0, x1⟩ := pair_at HXF.out.ints
          have HX := Lib.hid (show (depsL n T y)[t]? = some x by rw [← HP.out]; exact hx)
          have hmem := List.mem_of_getElem? HX.out
          have hxT := depsL_row HG.out HYC.out hmem
          have hx6 := (depsL_in HG.out (com_row HG.out HYC.out).2.2.1 hmem).2
          have HML : Hid (ms'.length ≤ 1000) := Lib.hid (by have := HBB.out.few.1; rw [HW.out.rm.1]; omega)
          have HOL : Hid (s'.2.length ≤ 1000) := Lib.hid (by have := HBB.out.few.2; omega)
          have HYT : Hid (y.1 < T.length) := Lib.hid (com_row HG.out HYC.out).2.2.1
          clear hdl hx hxv hmem x0 x1
          go_wp2_with fail
          refine (l6Find_any _ _ (s'.1.map pairOf) (pairOf x) _ (PRows.at HW.out.fm HW.out.rm).intss HXF.out.ints).mono ?_
          rintro e w1 ⟨r, rfl, hf, e1⟩
          have HF := Lib.hid (found_in hf)
          have HW1 := Lib.hid (HW.out.on e1)
          have HD1 := Lib.hid (HD.out.on e1)
          have HX1 := Lib.hid (HXF.out.ext e1)
          clear hf e1 gx HW HD HXF
          rcases HF.out with ⟨⟨kr, rfl⟩, hin⟩ | ⟨rfl, hno⟩
          · have hr0 : (0 : Int) ≤ (kr : Int) := by omega
            have HN := Lib.hid (addB_old (T := T) (s := s') (x := x) (.inl hin))
            clear HF hin
            go_wp2
            go_roundw
            case rel => exact ⟨t + 1, s', ms', os', by go_num, by omega, HW1, HD1, Lib.hid (by have h := HI.out.step HY.out HX.out; rw [HN.out] at h; exact h), HBB, HY⟩
            case measure => simp [intOf]; omega
          · have HNO := Lib.hid hno
            clear HF hno
            go_wp2_with fail
            refine (l6Find_any _ _ (s'.2.map pairOf) (pairOf x) _ (PRows.at HW1.out.fo HW1.out.ro).intss HX1.out.ints).mono ?_
            rintro e w2 ⟨r, rfl, hf, e2⟩
            have HF := Lib.hid (found_in hf)
            have HW2 := Lib.hid (HW1.out.on e2)
            have HD2 := Lib.hid (HD1.out.on e2)
            have HX2 := Lib.hid (HX1.out.ext e2)
            clear hf e2 HW1 HD1 HX1
            rcases HF.out with ⟨⟨kr, rfl⟩, hin⟩ | ⟨rfl, hno⟩
            · have hr0 : (0 : Int) ≤ (kr : Int) := by omega
              have HN := Lib.hid (addB_old (T := T) (s := s') (x := x) (.inr hin))
              clear HF hin
              go_wp2
              go_roundw
              case rel => exact ⟨t + 1, s', ms', os', by go_num, by omega, HW2, HD2, Lib.hid (by have h := HI.out.step HY.out HX.out; rw [HN.out] at h; exact h), HBB, HY⟩
              case measure => simp [intOf]; omega
            · have HNO2 := Lib.hid hno
              clear HF hno
              obtain ⟨z0, z1⟩ : w2.cell? ⟨bx, ox, none⟩ = some (.int .i64 x.1) ∧ w2.cell? ⟨bx, ox + 1, none⟩ = some (.int .i64 ((x.2 : Int) + 1)) := by
                obtain ⟨b', o', c', hv, z0, z1⟩ := pair_at HX2.out.ints
                simp only [Value.slice.injEq, Option.some.injEq, Addr.mk.injEq, and_true] at hv
                obtain ⟨⟨rfl, rfl⟩, _, _⟩ := hv
                exact ⟨z0, z1⟩
              have hbx := HB.out.ext HW2.out.ext
              have ks : ∀ V, Ext w2 V → Ext w2 V ∧ V.cell? ⟨w.heap.size, 0, none⟩ = some (.int .i64 n) ∧ V.cell? ⟨w.heap.size, 1, none⟩ = some (.slice au T.length cu) ∧ V.cell? ⟨bx, ox, none⟩ = some (.int .i64 x.1) ∧ V.cell? ⟨bx, ox + 1, none⟩ = some (.int .i64 ((x.2 : Int) + 1)) := fun V hV => ⟨hV, hV.cell hbx.1, hV.cell hbx.2, hV.cell z0, hV.cell z1⟩
              have KS := Lib.hid ks
              have HR := Lib.hid (Ext.drew (Ext.refl w2))
              obtain ⟨d, hd⟩ : ∃ d, d = rowOf n T x.1 x.2 := ⟨_, rfl⟩
              have hst : (d.st == 3) = instCom T x.1 x.2 := by rw [hd]; exact inst_st hxT
              have cR : ∀ V, Ext w2 V → Calls Tryz.prog 65 #[.agg #[.int .i64 n, .slice au T.length cu], .int .i64 x.1, .int .i64 ((x.2 : Int) + 1)] V (NewRow d V) := fun V hV => by
                rw [hd]
                exact l4At_any n _ T x.1 x.2 _ (HU.out.ext (HW2.out.ext.trans hV)) HG.out hxT (by omega)
              have CR := Lib.hid cR
              clear z0 z1 hbx ks hd cR
              cases hcm : instCom T x.1 x.2
              all_goals
                rw [hcm] at hst
                have HCM := Lib.hid hcm
                clear hcm
                go_wp2_with fail
                go_region_held3 (fun V => Ext w2 V ∧ V.cell? ⟨w.heap.size, 0, none⟩ = some (.int .i64 n) ∧ V.cell? ⟨w.heap.size, 1, none⟩ = some (.slice au T.length cu) ∧ V.cell? ⟨bx, ox, none⟩ = some (.int .i64 x.1) ∧ V.cell? ⟨bx, ox + 1, none⟩ = some (.int .i64 ((x.2 : Int) + 1))) (first | (with_reducible exact KS.out _ HR.out) | (with_reducible exact KS.out _ SS.out)) (first | (go_at_call 65; refine (CR.out _ (And.left (by with_reducible assumption))).mono ?_; rintro e W3 ⟨ur, rfl, fr, x3⟩; obtain ⟨ar, kr, rfl⟩ := fr.form; have hfd := fun W => field_rowS d.b d.v d.st d.k d.i d.f d.t d.a d.s (.slice ar d.l.length kr) W; have SS := Lib.hid (Ext.trans (And.left (by with_reducible assumption)) x3)))
                clear hfd fr x3 KS CR HR hst
                have HW3 := Lib.hid (HW2.out.on SS.out)
                have HD3 := Lib.hid (HD2.out.on SS.out)
                have HX3 := Lib.hid (HX2.out.ext SS.out)
                clear SS HW2 HD2 HX2
              · have HOB := Lib.hid (PRows.at HW3.out.fo HW3.out.ro)
                go_wp2_with fail
                refine (l6Insert_any HOB.out HX3.out.ints HOL.out).mono ?_
                rintro e w5 ⟨v5, rfl, f5, x5, _⟩
                have HW5 := Lib.hid (HW3.out.block HX3.out f5 x5)
                have HD5 := Lib.hid (HD3.out.on x5)
                have HN := Lib.hid (addB_not HNO.out HNO2.out HCM.out)
                clear f5 x5 HW3 HD3 HX3 HOB
                go_wp2
                go_roundw
                case rel => exact ⟨t + 1, (s'.1, insL s'.2 x), _, _, by go_num, by omega, HW5, HD5, Lib.hid (by have h := HI.out.step HY.out HX.out; rw [HN.out] at h; exact h), Lib.hid (by have h := HBB.out.step HG.out HYT.out (List.mem_of_getElem? HX.out); rw [HN.out] at h; exact h), HY⟩
                case measure => simp [intOf]; omega
              · have HX4 := Lib.hid (HX3.out.ext (Ext.alloc1 W3 (.cells #[.slice (some ⟨bx, ox, none⟩) 2 cx] 26)))
                have HW4 := Lib.hid (HW3.out.on (Ext.alloc1 W3 (.cells #[.slice (some ⟨bx, ox, none⟩) 2 cx] 26)))
                have HD4 := Lib.hid (HD3.out.on (Ext.alloc1 W3 (.cells #[.slice (some ⟨bx, ox, none⟩) 2 cx] 26)))
                have HLL : Hid (ms'.length ≤ 1048576) := Lib.hid (by have := HML.out; omega)
                have HSZ : Hid (wb.heap.size ≤ (W3.alloc (.cells #[.slice (some ⟨bx, ox, none⟩) 2 cx] 26)).heap.size) := Lib.hid HW4.out.ext.size
                clear HW3 HD3 HX3
                go_wp2_with (at_builtin; refine wpList_pushVAt rfl _ _ rfl wb.heap.size _ ms' rfl HW4.out.fm (.slice (some ⟨bx, ox, none⟩) 2 cx) ⟨W3.heap.size, 0, none⟩ 1 rfl (cell_alloc_one _ _ _) rfl HLL.out HSZ.out ?_)
                intro v5 w5 f5 g5 k5 loc5
                have loc6 : v5.ownBlock = (Value.slice (some ⟨g7, 0, none⟩) ms'.length c7).ownBlock ∨ v5.ownBlock = some (W3.alloc (.cells #[.slice (some ⟨bx, ox, none⟩) 2 cx] 26)).heap.size := by rw [World.size_alloc]; exact loc5
                have HW5 := Lib.hid (HW4.out.meet HX4.out f5 g5 k5 loc6)
                have HD5 := Lib.hid (HD4.out.meet HW4.out.fm g5 loc6)
                have HN := Lib.hid (addB_com HNO.out HNO2.out HCM.out)
                have HYN : Hid ((s'.1 ++ [x])[k]? = some y) := Lib.hid (by
                  rw [List.getElem?_append_left (List.getElem?_eq_some_iff.1 HY.out).1]
                  exact HY.out)
                clear f5 g5 k5 loc5 loc6 HW4 HD4 HX4 HLL HSZ
                go_wp2
                go_roundw
                case rel => exact ⟨t + 1, (s'.1 ++ [x], s'.2), _, _, by go_num, by omega, HW5, HD5, Lib.hid (by have h := HI.out.step HY.out HX.out; rw [HN.out] at h; exact h), Lib.hid (by have h := HBB.out.step HG.out HYT.out (List.mem_of_getElem? HX.out); rw [HN.out] at h; exact h), HYN⟩
                case measure => simp [intOf]; omega
        · obtain rfl : t = mp := by omega
          have HIN := Lib.hid (HI.out.next HY.out (by rw [← HP.out, ← HMP.out]; exact Nat.le_refl _))
          have hk1 := (List.getElem?_eq_some_iff.1 HY.out).1
          have HK1 := Lib.hid hk1
          have HF30 := Lib.hid HBB.out.few.1
          clear hk1 HI HD
          go_wp2
          go_roundw
          case rel => exact ⟨k + 1, s', ms', os', by go_num, HK1.out, HW, HIN, HBB⟩
          case measure => simp [intOf]; omega
    · obtain rfl : k = m := by omega
      have HE : Hid (PairsAt wr u8 os s.2) := Lib.hid (PRows.at HW.out.fo HW.out.ro)
      have HX := Lib.hid (XB.out.trans HW.out.ext)
      clear HW HFM
      go_wp2
      go_ret
      exact ⟨_, os, s, k, rfl, HE.out, HI.out, by rw [← HM.out]; exact Nat.le_refl _, HBB.out, HX.out⟩
end Go.Proofs.YtcpmfcigciknlaaGreat

namespace Go.Proofs.YtcpmfcigciknlaaGreat
open Go.RowKit Go.Maps
set_option linter.unusedVariables false

/-- Where a list stands first, or -1. -/
def findI (L : List (List Int)) (x : List Int) : Int := if x ∈ L then ((L.findIdx (fun y => decide (y = x)) : Nat) : Int) else -1
theorem findI_of {L : List (List Int)} {x : List Int} {r : Int} (h : FoundAt L x r) : r = findI L x := by
  unfold findI
  rcases h with ⟨k, rfl, hk, hn⟩ | ⟨rfl, hno⟩
  · have hm : x ∈ L := List.mem_of_getElem? hk
    rw [if_pos hm]
    obtain ⟨hlt, e⟩ := List.getElem?_eq_some_iff.1 hk
    have : L.findIdx (fun y => decide (y = x)) = k := by
      rw [List.findIdx_eq hlt]
      refine ⟨by simp [e], fun j hj => ?_⟩
      have h1 := hn j hj
      rw [List.getElem?_eq_getElem (by omega)] at h1
      simpa using h1
    rw [this]
  · rw [if_neg hno]
theorem l6Find_val (v u : Value) (L : List (List Int)) (x : List Int) (w : World) (hv : Intss w v L) (hu : Ints w u x) :
    Calls Tryz.prog 94 #[v, u] w (fun e w' => e = .returned (.int .i64 (findI L x)) ∧ Ext w w') :=
  (l6Find_any v u L x w hv hu).mono (by
    rintro e w' ⟨r, rfl, hf, hx⟩
    exact ⟨by rw [findI_of hf], hx⟩)
theorem Intss.upto {w : World} {a : Option Addr} {n c : Nat} {L : List (List Int)} (h : Intss w (.slice a n c) L) (k : Nat) (hk : k ≤ L.length) : Intss w (.slice a k c) (L.take k) := by
  obtain ⟨ao, cap, hv, hm, hcap, hc⟩ := h
  simp only [Value.slice.injEq] at hv
  obtain ⟨rfl, rfl, rfl⟩ := hv
  have e : (L.take k).length = k := by rw [List.length_take]; omega
  refine ⟨a, c, by rw [e], by rw [e]; omega, ⟨by rw [e]; omega, hcap.2.1, hcap.2.2⟩, fun hp => ?_⟩
  obtain ⟨b, off, ha, hd⟩ := hc (by omega)
  refine ⟨b, off, ha, fun j hj => ?_⟩
  rw [e] at hj
  obtain ⟨u, hu, hi⟩ := hd j (by omega)
  refine ⟨u, hu, ?_⟩
  rw [List.getElem?_take, if_pos hj]
  exact hi

def instAt (n : Int) (L : List (List Int)) (k : Nat) : Bool := decide ((L[k]?.getD []).length = 2) && (instB n ((L[k]?.getD [])[0]?.getD 0) ((L[k]?.getD [])[1]?.getD 0) && !decide (L[k]?.getD [] ∈ L.take k))
/-- Are they instances, each once? -/
def instsB (n : Int) (L : List (List Int)) : Bool := (List.range L.length).all (instAt n L)
theorem instsB_no {n : Int} {L : List (List Int)} {k : Nat} (hk : k < L.length) (h : instAt n L k = false) : instsB n L = false := by
  unfold instsB
  rw [List.all_eq_false]
  exact ⟨k, List.mem_range.2 hk, by rw [h]; simp⟩

end Go.Proofs.YtcpmfcigciknlaaGreat

namespace Go.Proofs.YtcpmfcigciknlaaGreat
open Go.RowKit Go.Sort
set_option linter.unusedVariables false

/-- w' is w after some draws, with new blocks. -/
def Grows (w w' : World) : Prop := ∃ (q : Nat) (os : Array Obj), w' = grow (w.drewN q) os
theorem Grows.refl (w : World) : Grows w w := ⟨0, #[], by rw [grow_empty]; rfl⟩
theorem Grows.drew {w w' : World} (h : Grows w w') : Grows w w'.drew := by
  obtain ⟨q, os, rfl⟩ := h
  exact ⟨q + 1, os, rfl⟩
theorem Grows.alloc {w w' : World} (h : Grows w w') (o : Obj) : Grows w (w'.alloc o) := by
  obtain ⟨q, os, rfl⟩ := h
  refine ⟨q, os.push o, ?_⟩
  simp [grow, World.alloc, World.drewN]
theorem Grows.trans {a b c : World} (h : Grows a b) (k : Grows b c) : Grows a c := by
  obtain ⟨q, os, rfl⟩ := h
  obtain ⟨q', os', rfl⟩ := k
  exact ⟨q + q', os ++ os', by simp [grow, World.drewN, Nat.add_assoc]⟩
theorem Grows.ext {w w' : World} (h : Grows w w') : Ext w w' := by
  obtain ⟨q, os, rfl⟩ := h
  refine ext_of_grown ⟨rfl, rfl, rfl, by simp [grow, World.drewN], fun k hk _ => ?_⟩
  exact heap_grow_old (w.drewN q) os hk

def cmpP (x y : Nat × Nat) : Int := if cmpI (x.1 : Int) (y.1 : Int) = 0 then cmpI ((x.2 : Int) + 1) ((y.2 : Int) + 1) else cmpI (x.1 : Int) (y.1 : Int)

/-- The first that is not nought. -/
def orL : List Int → Int
  | [] => 0
  | x :: t => if x = 0 then orL t else x
theorem orL_drop {l : List Int} {k : Nat} (h : k < l.length) : orL (l.drop k) = if l[k]?.getD 0 = 0 then orL (l.drop (k + 1)) else l[k]?.getD 0 := by
  rw [List.drop_eq_getElem_cons h, List.getElem?_eq_getElem h, Option.getD_some]
  rfl
set_option maxHeartbeats 1000000 in
theorem orInt_any (l : List Int) (v : Value) (w : World) (hv : Ints w v l) :
    Calls Tryz.prog 145 #[v] w (IntSame (orL l) w) := by
  obtain ⟨av, cv, rfl, hlv, _, hcv⟩ := hv
  unfold maxLen at hlv
  go_enter Tryz.func145, Tryz.ntmps145
  go_wp2
  go_loopw [8] (fun i wr => ∃ k : Nat, k ≤ l.length ∧ i = .int .i64 k ∧ Hid (orL l = orL (l.drop k)) ∧ wr = w) (fun i _ => l.length - (intOf i).toNat)
  case atStart => exact ⟨0, Nat.zero_le _, rfl, Lib.hid (by simp), rfl⟩
  case round =>
    obtain ⟨k, hk, rfl, HK, rfl⟩ := hrel
    by_cases hlt : k < l.length
    · obtain ⟨bv, ov, rfl, dv⟩ := hcv (by omega)
      have gv := dv k hlt
      have hs := orL_drop hlt
      obtain ⟨x, hx⟩ : ∃ x, x = l[k]?.getD 0 := ⟨_, rfl⟩
      rw [← hx] at gv hs
      have HS := Lib.hid hs
      clear dv hcv hx hs
      by_cases h0 : x = 0
      · subst h0
        have HN := Lib.hid (show orL l = orL (l.drop (k + 1)) by rw [HK.out, HS.out, if_pos rfl])
        have ns : ((0 : Int) != 0) = false := by simp
        go_wp2
        go_roundw
        case rel => exact ⟨k + 1, by omega, by go_num, HN, by trivial⟩
        case measure => simp [intOf]; omega
      · have HN := Lib.hid (show orL l = x by rw [HK.out, HS.out, if_neg h0])
        have ns : (x != 0) = true := by simpa using h0
        go_wp2
        go_ret
        exact ⟨by rw [HN.out]; rfl, rfl⟩
    · obtain rfl : k = l.length := by omega
      have HN := Lib.hid (show orL l = 0 by rw [HK.out, List.drop_length]; rfl)
      clear HK
      go_wp2
      go_ret
      exact ⟨by rw [HN.out]; rfl, rfl⟩
theorem orInt_two (x y : Int) (v : Value) (w : World) (hv : Ints w v [x, y]) :
    Calls Tryz.prog 145 #[v] w (IntSame (if x = 0 then y else x) w) := by
  have h := orInt_any _ _ _ hv
  have e : orL [x, y] = if x = 0 then y else x := by
    unfold orL orL orL
    by_cases hx : x = 0
    · by_cases hy : y = 0 <;> simp [hx, hy]
    · simp [hx]
  rwa [e] at h

theorem orHere (w0 : World) (a b : Int) : Calls Tryz.prog 145 #[.slice (some ⟨w0.heap.size, 0, none⟩) 2 2] (w0.alloc (.cells #[.int .i64 a, .int .i64 b] 3)).drew (IntSame (if a = 0 then b else a) (w0.alloc (.cells #[.int .i64 a, .int .i64 b] 3)).drew) := by
  have h := (fresh_lit w0 [a, b] #[.int .i64 a, .int .i64 b] w0.heap.size rfl (Nat.le_refl _) (by simp)).ints
  exact orInt_two a b _ _ (h.ext (Ext.drew (Ext.refl _)))

set_option maxHeartbeats 2000000 in
set_option maxRecDepth 100000 in
theorem instCmp_any (x y : Nat × Nat) (w : World) :
    Calls Tryz.prog 103 #[.agg (cellsI x).toArray, .agg (cellsI y).toArray] w (fun e w' => e = .returned (.int .i64 (cmpP x y)) ∧ Grows w w') := by
  unfold cellsI cmpP
  obtain ⟨p, q⟩ := x
  obtain ⟨p', q'⟩ := y
  obtain ⟨r, hr⟩ : ∃ r, r = if cmpI (p : Int) (p' : Int) = 0 then cmpI ((q : Int) + 1) ((q' : Int) + 1) else cmpI (p : Int) (p' : Int) := ⟨_, rfl⟩
  have cO : ∀ w0 : World, Calls Tryz.prog 145 #[.slice (some ⟨w0.heap.size, 0, none⟩) 2 2] (w0.alloc (.cells #[.int .i64 (cmpI (p : Int) (p' : Int)), .int .i64 (cmpI ((q : Int) + 1) ((q' : Int) + 1))] 3)).drew (IntSame r (w0.alloc (.cells #[.int .i64 (cmpI (p : Int) (p' : Int)), .int .i64 (cmpI ((q : Int) + 1) ((q' : Int) + 1))] 3)).drew) := fun w0 => by
    rw [hr]
    exact orHere w0 _ _
  have CO := Lib.hid cO
  show Calls _ _ _ _ (fun e w' => e = .returned (.int .i64 (if cmpI (p : Int) (p' : Int) = 0 then cmpI ((q : Int) + 1) ((q' : Int) + 1) else cmpI (p : Int) (p' : Int))) ∧ Grows w w')
  rw [← hr]
  clear hr cO
  obtain ⟨w0, hw0⟩ : ∃ w0, w0 = (w.alloc (.cells #[.int .i64 p, .int .i64 ((q : Int) + 1)] 101)).alloc (.cells #[.int .i64 p', .int .i64 ((q' : Int) + 1)] 101) := ⟨_, rfl⟩
  have g0 : Grows w w0 := by rw [hw0]; exact (Grows.refl w).alloc _ |>.alloc _
  have c0 : w0.cell? ⟨w.heap.size, 0, none⟩ = some (.int .i64 p) := by rw [hw0]; go_simp
  have c1 : w0.cell? ⟨w.heap.size, 1, none⟩ = some (.int .i64 ((q : Int) + 1)) := by rw [hw0]; go_simp
  have c2 : w0.cell? ⟨w.heap.size + 1, 0, none⟩ = some (.int .i64 p') := by rw [hw0]; go_simp
  have c3 : w0.cell? ⟨w.heap.size + 1, 1, none⟩ = some (.int .i64 ((q' : Int) + 1)) := by rw [hw0]; go_simp
  have ks : ∀ W, Grows w0 W → Grows w0 W ∧ W.cell? ⟨w.heap.size, 0, none⟩ = some (.int .i64 p) ∧ W.cell? ⟨w.heap.size, 1, none⟩ = some (.int .i64 ((q : Int) + 1)) ∧ W.cell? ⟨w.heap.size + 1, 0, none⟩ = some (.int .i64 p') ∧ W.cell? ⟨w.heap.size + 1, 1, none⟩ = some (.int .i64 ((q' : Int) + 1)) := fun W h => ⟨h, h.ext.cell c0, h.ext.cell c1, h.ext.cell c2, h.ext.cell c3⟩
  clear c0 c1 c2 c3
  subst hw0
  have KS := Lib.hid ks
  have G0 := Lib.hid g0
  clear ks g0
  go_enter Tryz.func103, Tryz.ntmps103
  go_wp2_with fail
  generalize ((w.alloc (.cells #[.int .i64 p, .int .i64 ((q : Int) + 1)] 101)).alloc (.cells #[.int .i64 p', .int .i64 ((q' : Int) + 1)] 101)) = w0 at KS G0 ⊢
  go_region_held3 (fun W => Grows w0 W ∧ W.cell? ⟨w.heap.size, 0, none⟩ = some (.int .i64 p) ∧ W.cell? ⟨w.heap.size, 1, none⟩ = some (.int .i64 ((q : Int) + 1)) ∧ W.cell? ⟨w.heap.size + 1, 0, none⟩ = some (.int .i64 p') ∧ W.cell? ⟨w.heap.size + 1, 1, none⟩ = some (.int .i64 ((q' : Int) + 1))) (first | (with_reducible exact KS.out _ (Grows.drew (Grows.refl _))) | (with_reducible exact KS.out _ (Grows.drew (Grows.alloc (Grows.refl _) _))) | (with_reducible exact KS.out _ (Grows.alloc (Grows.drew (Grows.refl _)) _)) | (trace_state; fail)) (first | (go_at_call 146; refine (compareInt_any _ _ _).mono ?_; rintro e W3 ⟨rfl, rfl⟩) | (go_at_call 145; refine (CO.out _).mono ?_; rintro e W3 ⟨rfl, rfl⟩))
  all_goals
    go_wp2
    go_ret
    exact ⟨rfl, G0.out.trans (Grows.drew (Grows.alloc (Grows.refl _) _))⟩

end Go.Proofs.YtcpmfcigciknlaaGreat

namespace Go.Proofs.YtcpmfcigciknlaaGreat
open Go.RowKit Go.Sort Go.Shelf
set_option linter.unusedVariables false

theorem cmpP_lt (x y : Nat × Nat) : cmpP x y < 0 ↔ lexL x y := by
  unfold cmpP cmpI lexL
  by_cases h1 : (x.1 : Int) < y.1
  · simp [h1]; omega
  · by_cases h2 : (y.1 : Int) < x.1
    · simp [h1, h2]; omega
    · have e : x.1 = y.1 := by omega
      by_cases h3 : (x.2 : Int) + 1 < (y.2 : Int) + 1
      · simp [h3, e]; omega
      · by_cases h4 : (y.2 : Int) + 1 < (x.2 : Int) + 1
        · simp [h3, h4, e]; omega
        · simp [h3, h4, e]; omega
theorem cmpP_swo : SWO (Go.Proofs.ltOf cmpP) := by
  refine ⟨fun x => ?_, fun x y z h k => ?_, fun x y z h k => ?_⟩ <;> unfold Go.Proofs.ltOf at *
  · rw [decide_eq_false_iff_not, cmpP_lt]; unfold lexL; omega
  · rw [decide_eq_true_iff, cmpP_lt] at *; unfold lexL at *; omega
  · rw [decide_eq_false_iff_not, cmpP_lt] at *; unfold lexL at *; omega

theorem flatK_flat (L : List (Nat × Nat)) : (flatK cellsI 2 L.toArray).toList = flatI L := by
  apply List.ext_getElem?
  intro t
  have hs : (flatK cellsI 2 L.toArray).size = L.length * 2 := by simp
  by_cases ht : t < L.length * 2
  · have hj : t / 2 < L.length := by omega
    have hg := get_flatK cellsI 2 L.toArray t (by simpa using ht)
    rw [Array.getElem?_toList]
    rw [Array.getElem?_eq_getElem (by omega)]
    rw [getElem!_pos _ t (by omega)] at hg
    rw [hg]
    obtain ⟨f1, f2⟩ := flatI_at hj
    have e : L.toArray[t / 2]! = L[t / 2] := by simp [hj]
    rw [e]
    rcases Nat.mod_two_eq_zero_or_one t with h | h
    · rw [h]
      have et : t = t / 2 * 2 := by omega
      have e2 : (flatI L)[t]? = some (.int .i64 (L[t / 2].1 : Int)) := by
        have := f1
        rwa [← et] at this
      rw [e2]; rfl
    · rw [h]
      have et : t = t / 2 * 2 + 1 := by omega
      have e2 : (flatI L)[t]? = some (.int .i64 ((L[t / 2].2 : Int) + 1)) := by
        have := f2
        rwa [← et] at this
      rw [e2]; rfl
  · rw [List.getElem?_eq_none (by rw [Array.length_toList]; omega), List.getElem?_eq_none (by rw [flatI_len]; omega)]

/-- Behind the sort the same slice owns what was put, at elements of two cells. -/
theorem own_put2 {w : World} {B g cap n m : Nat} {e : TypeId} {os : Array Obj} {xs ts : List Value} (h : w.ownsRow B e 2 (.slice (some ⟨g, 0, none⟩) n cap) n xs) (hl : ts.length = n * 2) :
    (grow (putRow id (Sort.ahead w m) g 0 ts.toArray) os).ownsRow B e 2 (.slice (some ⟨g, 0, none⟩) n cap) n ts := by
  rcases h.2 with ⟨hv, _⟩ | ⟨g', cap', cur, hv, hbase, hb, h1, h2, h3, _⟩
  · cases hv
  · cases hv
    refine ⟨hl, .inr ⟨g, cap, _, rfl, hbase, heap_put id ts.toArray hb, h1, h2, by simp [putCells, h3], ?_⟩⟩
    have := take_put id cur ts (by omega)
    rw [List.map_id] at this
    rw [← hl]
    exact this

theorem holdsK_of {w : World} {B g cap : Nat} {L : List (Nat × Nat)} (h : FreshIn B w (.slice (some ⟨g, 0, none⟩) L.length cap) L) : HoldsK cellsI 2 w g 0 L.toArray := by
  intro j hj
  have hj' : j < L.length * 2 := by simpa using hj
  have hc := World.ownsRow.cellAt h j hj'
  rcases h.2 with ⟨hv, _⟩ | ⟨g', cap', cur, hv, _, hb, _⟩
  · cases hv
  · cases hv
    refine ⟨?_, by simp [World.frozen?, hb]⟩
    rw [Nat.zero_add, hc, ← flatK_flat, Array.getElem?_toList, Array.getElem?_eq_getElem (by simpa using hj), getElem!_pos _ j (by simpa using hj)]
    rfl

/-- The same instances, in order. -/
def SortedI (B : Nat) (v : Value) (L : List (Nat × Nat)) (w : World) (e : Ending) (w' : World) : Prop :=
  (∃ r, e = .returned r) ∧ ∃ L', FreshIn B w' v L' ∧ L'.Perm L ∧ L'.Pairwise lexL ∧ w.grownBy w' v.ownBlock

theorem sortInst_any (B : Nat) (v : Value) (L : List (Nat × Nat)) (w : World) (hf : FreshIn B w v L) (hnd : L.Nodup) (hlen : L.length ≤ 1048576) :
    Calls Tryz.prog 102 #[v, .func (.func 103) #[] #[]] w (SortedI B v L w) := by
  by_cases h0 : L = []
  · subst h0
    obtain ⟨ao, cap, hv, _⟩ := hf.at
    have hv' : v = .slice ao 0 cap := hv
    subst hv'
    refine (AnyF.slices_SortFunc_none Tryz.lSortI ao cap _ w).mono ?_
    rintro e w' ⟨rfl, rfl⟩
    exact ⟨⟨_, rfl⟩, [], hf, List.Perm.refl _, List.Pairwise.nil, ⟨rfl, rfl, rfl, Nat.le_refl _, fun _ _ _ => rfl⟩⟩
  · have hpos : 0 < L.length := List.length_pos_iff.2 h0
    have hf0 : w.ownsRow B 101 2 v L.length (flatI L) := hf
    obtain ⟨g, cap, rfl⟩ : ∃ g cap, v = .slice (some ⟨g, 0, none⟩) L.length cap := by
      rcases hf0.2 with ⟨_, h⟩ | ⟨g, cap, _, hv, _⟩
      · omega
      · exact ⟨g, cap, hv⟩
    have hgw : g < w.heap.size := (World.ownsRow.lt hf0 g rfl).2
    have hsz : L.toArray.size = L.length := by simp
    have hcmp : Go.Proofs.CmpLays Tryz.prog 103 #[] cellsI 2 cmpP g 0 L.toArray.size w := by
      intro m os dk _ x y
      refine (instCmp_any x y _).mono ?_
      rintro e w' ⟨rfl, q, os', rfl⟩
      exact ⟨rfl, q, os', rfl⟩
    have hc := AnyQ.slices_SortFunc Tryz.lSortI 2 (fun w => by kernel_rfl) (fun w => by kernel_rfl) cellsI (fun _ => rfl) (fun x v hv => by simp [cellsI] at hv; rcases hv with rfl | rfl <;> rfl) cmpP cmpP_swo 103 #[] g 0 cap L.toArray w (enters_of Tryz.func103 (by kernel_rfl) rfl) hcmp (holdsK_of hf) hgw (by rw [hsz]; omega)
    rw [hsz] at hc
    refine hc.mono ?_
    rintro e w' ⟨rfl, d', n, os, hp, hs, rfl⟩
    have hds : d'.size = L.length := by rw [hp.1, hsz]
    have hperm : d'.toList.Perm L := by
      have h := hp.2.2
      have e1 : d'.extract 0 L.length = d' := by rw [← hds]; simp
      have e2 : L.toArray.extract 0 L.length = L.toArray := by
        have := Array.extract_size (xs := L.toArray)
        rwa [hsz] at this
      rw [e1, e2] at h
      simpa using h
    have hndd : d'.toList.Nodup := hperm.nodup_iff.2 hnd
    refine ⟨⟨_, rfl⟩, d'.toList, ?_, hperm, ?_, ?_⟩
    · have hl : (flatI d'.toList).length = L.length * 2 := by rw [flatI_len, Array.length_toList, hds]
      have := own_put2 (m := n) (os := os) hf0 hl
      unfold FreshIn
      have hdl : d'.toList.length = L.length := by simpa using hds
      rw [hdl]
      have e : flatK cellsI 2 d' = (flatI d'.toList).toArray := by rw [← flatK_flat]
      unfold sortWorldK putRowK
      rw [e]
      exact this
    · rw [List.pairwise_iff_getElem]
      intro i j hi hj hij
      rw [Array.length_toList] at hi hj
      have h := hs i j (Nat.zero_le _) hij (by omega)
      unfold Go.Proofs.ltOf at h
      rw [decide_eq_false_iff_not, cmpP_lt, getElem!_pos _ j hj, getElem!_pos _ i hi] at h
      have hne : d'[i] ≠ d'[j] := by
        have := List.pairwise_iff_getElem.1 hndd i j (by simpa using hi) (by simpa using hj) hij
        simpa using this
      have hne' : ¬ (d'[i].1 = d'[j].1 ∧ d'[i].2 = d'[j].2) := fun e => hne (Prod.ext e.1 e.2)
      simp only [Array.getElem_toList]
      unfold lexL at h ⊢
      omega
    · unfold sortWorldK putRowK
      exact grown_put id _

end Go.Proofs.YtcpmfcigciknlaaGreat

namespace Go.Proofs.YtcpmfcigciknlaaGreat
open Go.RowKit Go.Maps
set_option linter.unusedVariables false

/-- The instances that have come, each once. -/
structure Came (S : Nat → Nat → Bool) (left : Lit → Bool) (L : List (Nat × Nat)) : Prop where
  nodup : L.Nodup
  mem : ∀ x : Nat × Nat, x ∈ L ↔ (S x.1 x.2 = true ∧ left (kl (x.1 : Int) ((x.2 : Int) + 1)) = false)
theorem Came.start {S : Nat → Nat → Bool} {D : DataW Value} {f : Nat → Nat → Value} (h : MapOf D S f) : Came S (Maps.has D) [] :=
  ⟨List.nodup_nil, fun x => by
    constructor
    · intro hx; cases hx
    · rintro ⟨hs, hl⟩
      rw [h.has x.1 x.2 hs] at hl
      cases hl⟩
theorem Came.step {S : Nat → Nat → Bool} {D : DataW Value} {f : Nat → Nat → Value} (h : MapOf D S f) {left : Lit → Bool} {L : List (Nat × Nat)} (hc : Came S left L) {p q : Nat} (hs : S p q = true) (hl : left (kl (p : Int) ((q : Int) + 1)) = true) :
    Came S (fun z => left z && !z.sameKey (kl (p : Int) ((q : Int) + 1))) (L ++ [(p, q)]) := by
  have hne : (p, q) ∉ L := fun hm => by
    have := ((hc.mem _).1 hm).2
    rw [hl] at this; cases this
  have hk := h.low p q hs
  have hself : (kl (p : Int) ((q : Int) + 1)).sameKey (kl (p : Int) ((q : Int) + 1)) = true := WideAt.sameKey_self (instKeyed.key (keyOf_inst (wf_small (by omega) (by omega)) (wf_small (by omega) (by omega))))
  refine ⟨?_, fun x => ?_⟩
  · rw [List.nodup_append]
    refine ⟨hc.nodup, by simp, fun a ha b hb e => ?_⟩
    simp at hb
    subst hb
    subst e
    exact hne ha
  · rw [List.mem_append, List.mem_singleton, hc.mem]
    by_cases e : x = (p, q)
    · subst e
      simp [hs, hself]
    · constructor
      · rintro (⟨h1, h2⟩ | h1)
        · exact ⟨h1, by rw [h2]; rfl⟩
        · exact absurd h1 e
      · rintro ⟨h1, h2⟩
        have hx := h.low x.1 x.2 h1
        have hn := Maps.sameKey_ne (kl_ne hx hk (fun e' => e (Prod.ext e'.1 e'.2)))
        rw [hn] at h2
        exact .inl ⟨h1, by simpa using h2⟩

/-- The instances of S in order come back, in new memory. -/
def NewInsts (S : Nat → Nat → Bool) (w : World) (e : Ending) (w' : World) : Prop :=
  ∃ v L, e = .returned v ∧ FreshIn w.heap.size w' v L ∧ L.Pairwise lexL ∧ (∀ x : Nat × Nat, x ∈ L ↔ S x.1 x.2 = true) ∧ Ext w w'

set_option maxHeartbeats 4000000 in
set_option maxRecDepth 100000 in
theorem inOrderRow_any (B n0 : Nat) (D : DataW Value) (S : Nat → Nat → Bool) (R_ : Nat → Nat → RowD) (U : Nat → Nat → Value) (w : World) (hm : RowMap w B n0 D) (hd : MapOf D S (fun p q => rowV (R_ p q) (U p q))) (hn : n0 ≤ 1000) :
    Calls Tryz.prog 58 #[.map (some B)] w (NewInsts S w) := by
  have HM := Lib.hid hm
  have HD := Lib.hid hd
  have HB := Lib.hid hm.lt
  have HN0 := Lib.hid hn
  clear hm hd hn
  go_enter Tryz.func58, Tryz.ntmps58
  go_wp2_with (first | (at_range; refine wpList_range_own _ rfl _ 106 rfl 101 83 instKeyed Tryz.underlying106 asIs B n0 D rfl HM.out ?_; intro w1 hrg1 hg1 hs1) | go_in)
  go_frame
  have X1 := Lib.hid (ext_of_grown hg1)
  have R1 := Lib.hid hrg1
  obtain ⟨r, hr⟩ : ∃ r, r = w.heap.size := ⟨_, rfl⟩
  rw [← hr] at R1 ⊢
  have HR := Lib.hid hr
  have HS1 : Hid (r + 1 ≤ w1.heap.size) := Lib.hid (by omega)
  clear hrg1 hg1 hs1 HM hr
  go_loopw [3, 4] (fun s _ wr => ∃ (left : Lit → Bool) (cnt : Nat) (L : List (Nat × Nat)), Hid (RowRange wr B r n0 D left cnt) ∧ Hid (Came S left L) ∧ Hid (FreshIn (r + 1) wr s L) ∧ Hid (L.length + cnt ≤ n0) ∧ Hid (Ext w wr) ∧ Hid (r + 1 ≤ wr.heap.size)) (fun _ _ wr => wr.rangeLeft B r)
  case atStart => exact ⟨_, _, [], R1, Lib.hid (Came.start HD.out), Lib.hid (FreshIn.nil _ _), Lib.hid (by have := R1.out.owns.size_le; simpa using this), X1, HS1⟩
  case round =>
    clear R1 X1 HS1
    obtain ⟨left, cnt, L, R, C, F, N, X, SZ⟩ := hrel
    have hF := F.out
    have hlt0 : ∀ k, u3.ownBlock = some k → r + 1 ≤ k := fun k hk => (World.ownsRow.lt hF k hk).1
    have HLT0 := Lib.hid hlt0
    clear hF hlt0
    go_wp2_with (first | (at_next; refine wpList_next_inst _ rfl _ rfl B r n0 D left cnt _ _ rfl R.out HD.out ?_ ?_) | go_in)
    · intro hl
      clear R
      go_wp2_with fail
      refine (sortInst_any _ _ L _ F.out C.out.nodup (by have := N.out; have := HN0.out; omega)).mono ?_
      rintro e w2 ⟨⟨rv, rfl⟩, L', f', hp, hlex, hg⟩
      have hmem : ∀ x : Nat × Nat, x ∈ L' ↔ S x.1 x.2 = true := fun x => by
        rw [hp.mem_iff, C.out.mem, hl]
        simp
      have HM := Lib.hid hmem
      have HP := Lib.hid hlex
      have hx2 : Ext w w2 := Below.grown X.out hg X.out.size (fun k hk => by have := HLT0.out k hk; have := HR.out; omega)
      have X2 := Lib.hid hx2
      have hf2 : FreshIn w.heap.size w2 u3 L' := ownsRow_more f' (by have := HR.out; omega)
      have F2 := Lib.hid hf2
      clear hp hlex hg hmem hx2 f' hf2 C F N X hl
      go_wp2
      go_ret
      exact ⟨_, L', rfl, F2.out, HP.out, HM.out, X2.out⟩
    · intro p q w3 cnt3 hS hlk hrg3 hlt hg3 hs3 hen
      have C3 := Lib.hid (C.out.step HD.out hS hlk)
      have N3 : Hid ((L ++ [(p, q)]).length + cnt3 ≤ n0) := Lib.hid (by have := N.out; simp; omega)
      have X3 : Hid (Ext w w3) := Lib.hid (X.out.turned hg3 (by have := HR.out; omega))
      have F3 : Hid (FreshIn (r + 1) w3 u3 L) := Lib.hid (World.ownsRow.kept F.out hg3 (by
        cases hb : u3.ownBlock with
        | none => exact .inl rfl
        | some k => exact .inr (fun e => by cases e; have := HLT0.out _ hb; omega)))
      have R3 := Lib.hid hrg3
      have SZ3 : Hid (r + 1 ≤ w3.heap.size) := Lib.hid (by have := SZ.out; omega)
      have HRO := Lib.hid R.out
      have HLT := Lib.hid hlt
      have HL : Hid (L.length ≤ 1048576) := Lib.hid (by have := N.out; have := HN0.out; omega)
      obtain ⟨rv, hrv⟩ : ∃ rv, rv = rowV (R_ p q) (U p q) := ⟨_, rfl⟩
      simp only [← hrv] at hen ⊢
      clear hrg3 hg3 hs3 hlk hS R C N X F SZ hlt hrv
      go_wp2_with (first | (at_builtin; refine wpList_pushI rfl _ _ rfl (r + 1) _ L (p, q) rfl (F3.out.ext (Ext.alloc2 _ _ _)) (w3.heap.size + 1) 1 rfl (by go_simp) (by go_simp) HL.out (Nat.le_trans SZ3.out (Ext.alloc2 _ _ _).size) ?_; intro v' w4 f4 hg4 hk4) | go_in)
      have F4 := Lib.hid f4
      have X4 := Lib.hid (hk4 w (X3.out.trans (Ext.alloc2 _ _ _)) (by have := HR.out; omega))
      have R4 : Hid (RowRange w4 B r n0 D (fun z => left z && !z.sameKey (kl (p : Int) ((q : Int) + 1))) cnt3) := Lib.hid ((R3.out.ext (Ext.alloc2 _ _ _)).kept hg4 (fun e => by have := HLT0.out _ e.symm; have := HB.out; have := HR.out; omega) (fun e => by have := HLT0.out _ e.symm; omega))
      have SZ4 : Hid (r + 1 ≤ w4.heap.size) := Lib.hid (Nat.le_trans (Nat.le_trans SZ3.out (Ext.alloc2 _ _ _).size) hg4.size)
      clear f4 hg4 hk4 F3 X3 R3 SZ3
      go_wp2
      go_roundw
      case rel => exact ⟨_, _, _, R4, C3, F4, N3, X4, SZ4⟩
      case measure => rw [R4.out.left_eq, HRO.out.left_eq]; exact HLT.out

end Go.Proofs.YtcpmfcigciknlaaGreat
