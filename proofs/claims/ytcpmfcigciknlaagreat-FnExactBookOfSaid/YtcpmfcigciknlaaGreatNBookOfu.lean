/- Texts of this proof, part u: words, plain facts, contracts. -/
import Derived.Test.YtcpmfcigciknlaaGreatNBookOft
import Derived.Test.YtcpmfcigciknlaaGreatNBookOfc
import Derived.Test.YtcpmfcigciknlaaGreatNBookOfa
import Derived.Deep.DeepCutAuto
import Derived.Test.YtcpmfcigciknlaaGreatNBookOff
import Derived.Deep.Quiet
import Derived.Test.YtcpmfcigciknlaaGreatNBookOfk
import Derived.Test.YtcpmfcigciknlaaGreatNBookOfe
import Derived.Test.YtcpmfcigciknlaaGreatNBookOfg
import Derived.Test.YtcpmfcigciknlaaGreatNBookOfs
import Derived.Test.YtcpmfcigciknlaaGreatNBookOfj
set_option linter.unusedVariables false
set_option linter.unusedSimpArgs false

namespace Go.Proofs.YtcpmfcigciknlaaGreat
open Go.RowKit Go.Maps
set_option linter.unusedVariables false
def PRows (B : Nat) (w : World) (vs : List Value) (L : List (Nat × Nat)) : Prop :=
  vs.length = L.length ∧ ∀ (j : Nat) (u : Value) (x : Nat × Nat), vs[j]? = some u → L[j]? = some x → Fresh B w u (pairOf x)
theorem PRows.nil (B : Nat) (w : World) : PRows B w [] [] := ⟨rfl, fun j u x h => by simp at h⟩
theorem PRows.ext {B : Nat} {w w' : World} {vs : List Value} {L : List (Nat × Nat)} (h : PRows B w vs L) (e : Ext w w') : PRows B w' vs L := ⟨h.1, fun j u x hu hx => (h.2 j u x hu hx).ext e⟩
theorem PRows.more {B B' : Nat} {w : World} {vs : List Value} {L : List (Nat × Nat)} (h : PRows B w vs L) (hb : B' ≤ B) : PRows B' w vs L := ⟨h.1, fun j u x hu hx => (h.2 j u x hu hx).more hb⟩
theorem fresh_apart {B B' : Nat} {w : World} {v u : Value} {vs : List Value} {l : List Int} (h : FreshV B w v vs) (k : Fresh B' w u l) : u.ownBlock = none ∨ u.ownBlock ≠ v.ownBlock := by
  unfold FreshV at h
  unfold Fresh at k
  exact types_apart h k (by decide)
theorem PRows.kept {B B' : Nat} {w w' : World} {vs ms : List Value} {mv : Value} {L : List (Nat × Nat)} (h : PRows B w vs L) (hm : FreshV B' w mv ms) (g : w.grownBy w' mv.ownBlock) : PRows B w' vs L :=
  ⟨h.1, fun j u x hu hx => World.ownsRow.kept (h.2 j u x hu hx) g (fresh_apart hm (h.2 j u x hu hx))⟩
theorem PRows.snoc {B : Nat} {w : World} {vs : List Value} {L : List (Nat × Nat)} {u : Value} {x : Nat × Nat} (h : PRows B w vs L) (hu : Fresh B w u (pairOf x)) : PRows B w (vs ++ [u]) (L ++ [x]) := by
  refine ⟨by simp [h.1], fun j z y hz hy => ?_⟩
  by_cases hj : j < vs.length
  · rw [List.getElem?_append_left hj] at hz
    rw [List.getElem?_append_left (by rw [← h.1]; exact hj)] at hy
    exact h.2 j z y hz hy
  · rw [List.getElem?_append_right (by omega)] at hz
    rw [List.getElem?_append_right (by rw [← h.1]; omega)] at hy
    have hj' : j - vs.length = 0 := by
      have := (List.getElem?_eq_some_iff.1 hz).1
      simp at this; omega
    rw [hj'] at hz
    rw [← h.1, hj'] at hy
    simp at hz hy
    subst hz hy
    exact hu
theorem PRows.ins {B : Nat} {w : World} {vs : List Value} {L : List (Nat × Nat)} {xv : Value} {x : Nat × Nat} (h : PRows B w vs L) (hx : Fresh B w xv (pairOf x)) : PRows B w (vs.take (insKI L x) ++ [xv] ++ vs.drop (insKI L x)) (insL L x) := by
  have hk : insKI L x ≤ L.length := insAtI_le L x _
  refine ⟨?_, ?_⟩
  · unfold insL
    simp only [List.length_append, List.length_take, List.length_drop, h.1]
    rfl
  · intro j u y hu hy
    unfold insL at hy
    have hlt : (vs.take (insKI L x)).length = insKI L x := by rw [List.length_take, h.1]; omega
    have hlt2 : (L.take (insKI L x)).length = insKI L x := by rw [List.length_take]; omega
    rw [List.append_assoc] at hu hy
    by_cases h1 : j < insKI L x
    · rw [List.getElem?_append_left (by omega), List.getElem?_take, if_pos h1] at hu hy
      exact h.2 j u y hu hy
    · rw [List.getElem?_append_right (by omega)] at hu hy
      rw [hlt] at hu
      rw [hlt2] at hy
      by_cases h2 : j - insKI L x = 0
      · rw [h2] at hu hy
        obtain rfl : xv = u := by simpa using hu
        obtain rfl : x = y := by simpa using hy
        exact hx
      · obtain ⟨i, hi⟩ : ∃ i, j - insKI L x = i + 1 := ⟨j - insKI L x - 1, by omega⟩
        rw [hi, List.singleton_append, List.getElem?_cons_succ, List.getElem?_drop] at hu hy
        exact h.2 _ u y hu hy
theorem PRows.at {B : Nat} {w : World} {v : Value} {vs : List Value} {L : List (Nat × Nat)} (f : FreshV B w v vs) (h : PRows B w vs L) : PairsAt w v vs L :=
  ⟨h.1, f.vals, fun j u x hu hx => (h.2 j u x hu hx).ints⟩
theorem PairsAt.intss {w : World} {v : Value} {vs : List Value} {L : List (Nat × Nat)} (h : PairsAt w v vs L) : Intss w v (L.map pairOf) := by
  rcases h.reads with ⟨rfl, rfl⟩ | ⟨b, off, cap, rfl, h1, h2, h3⟩
  · obtain rfl : L = [] := List.eq_nil_of_length_eq_zero h.len.symm
    exact Intss.nil w
  · refine ⟨some ⟨b, off, none⟩, cap, by rw [List.length_map, h.len], by rw [List.length_map, ← h.len]; omega, ⟨by rw [List.length_map, ← h.len]; omega, h2, fun e => by cases e⟩, fun _ => ⟨b, off, rfl, fun j hj => ?_⟩⟩
    rw [List.length_map] at hj
    have hv : vs[j]? = some (vs[j]'(by rw [h.len]; exact hj)) := List.getElem?_eq_getElem _
    have hL : L[j]? = some L[j] := List.getElem?_eq_getElem hj
    refine ⟨_, h3 j _ hv, ?_⟩
    rw [List.getElem?_map, hL, Option.map_some, Option.getD_some]
    exact h.row j _ _ hv hL
structure BW (wb wr : World) (mv ov : Value) (ms os : List Value) (s : List (Nat × Nat) × List (Nat × Nat)) : Prop where
  fm : FreshV wb.heap.size wr mv ms
  fo : FreshV wb.heap.size wr ov os
  rm : PRows wb.heap.size wr ms s.1
  ro : PRows wb.heap.size wr os s.2
  ap : ov.ownBlock = none ∨ ov.ownBlock ≠ mv.ownBlock
  ext : Ext wb wr
structure DW (wb wr : World) (mv dv : Value) (ds : List Value) (P : List (Nat × Nat)) : Prop where
  fd : FreshV wb.heap.size wr dv ds
  rd : PRows wb.heap.size wr ds P
  ap : dv.ownBlock = none ∨ dv.ownBlock ≠ mv.ownBlock
theorem BW.on {wb wr w' : World} {mv ov : Value} {ms os : List Value} {s : List (Nat × Nat) × List (Nat × Nat)} (h : BW wb wr mv ov ms os s) (e : Ext wr w') : BW wb w' mv ov ms os s :=
  ⟨h.fm.ext e, h.fo.ext e, h.rm.ext e, h.ro.ext e, h.ap, h.ext.trans e⟩
theorem DW.on {wb wr w' : World} {mv dv : Value} {ds : List Value} {P : List (Nat × Nat)} (h : DW wb wr mv dv ds P) (e : Ext wr w') : DW wb w' mv dv ds P := ⟨h.fd.ext e, h.rd.ext e, h.ap⟩
theorem ap_new {B B' : Nat} {w : World} {mv mv' ov : Value} {os : List Value} (h : ov.ownBlock = none ∨ ov.ownBlock ≠ mv.ownBlock) (fo : FreshV B w ov os) (loc : mv'.ownBlock = mv.ownBlock ∨ mv'.ownBlock = some B') (hB : w.heap.size ≤ B') : ov.ownBlock = none ∨ ov.ownBlock ≠ mv'.ownBlock := by
  rcases loc with e | e
  · rw [e]; exact h
  · rw [e]
    refine .inr fun hb => ?_
    have := (World.ownsRow.lt fo _ hb).2
    omega
theorem BW.meet {wb W w' : World} {mv mv' ov u : Value} {ms os : List Value} {s : List (Nat × Nat) × List (Nat × Nat)} {x : Nat × Nat} (h : BW wb W mv ov ms os s) (hu : Fresh wb.heap.size W u (pairOf x))
    (f : FreshV wb.heap.size w' mv' (ms ++ [u])) (g : W.grownBy w' mv.ownBlock) (k : Kept wb.heap.size W w') (loc : mv'.ownBlock = mv.ownBlock ∨ mv'.ownBlock = some W.heap.size) : BW wb w' mv' ov (ms ++ [u]) os (s.1 ++ [x], s.2) :=
  ⟨f, World.ownsRow.kept h.fo g h.ap, (h.rm.kept h.fm g).snoc (World.ownsRow.kept hu g (fresh_apart h.fm hu)), h.ro.kept h.fm g, ap_new h.ap h.fo loc (Nat.le_refl _), k wb h.ext (Nat.le_refl _)⟩
theorem DW.meet {wb W w' : World} {mv mv' dv : Value} {ms ds : List Value} {P : List (Nat × Nat)} (h : DW wb W mv dv ds P) (fm : FreshV wb.heap.size W mv ms) (g : W.grownBy w' mv.ownBlock) (loc : mv'.ownBlock = mv.ownBlock ∨ mv'.ownBlock = some W.heap.size) : DW wb w' mv' dv ds P :=
  ⟨World.ownsRow.kept h.fd g h.ap, h.rd.kept fm g, ap_new h.ap h.fd loc (Nat.le_refl _)⟩
theorem BW.block {wb W w' : World} {mv ov ov' u : Value} {ms os : List Value} {s : List (Nat × Nat) × List (Nat × Nat)} {x : Nat × Nat} (h : BW wb W mv ov ms os s) (hu : Fresh wb.heap.size W u (pairOf x))
    (f : FreshV W.heap.size w' ov' (os.take (insKI s.2 x) ++ [u] ++ os.drop (insKI s.2 x))) (e : Ext W w') : BW wb w' mv ov' ms (os.take (insKI s.2 x) ++ [u] ++ os.drop (insKI s.2 x)) (s.1, insL s.2 x) :=
  ⟨h.fm.ext e, f.more h.ext.size, h.rm.ext e, (h.ro.ext e).ins (hu.ext e), by
    cases ho : ov'.ownBlock with
    | none => exact .inl rfl
    | some g =>
      refine .inr fun hm => ?_
      have h1 := (World.ownsRow.lt f g ho).1
      have h2 := (World.ownsRow.lt h.fm g hm.symm).2
      omega, h.ext.trans e⟩
theorem DW.of {wb W w' : World} {mv dv : Value} {ms : List Value} {P : List (Nat × Nat)} (fm : FreshV wb.heap.size W mv ms) (hB : wb.heap.size ≤ W.heap.size) (f : FreshSS W.heap.size w' dv (P.map pairOf)) : ∃ ds, DW wb w' mv dv ds P := by
  obtain ⟨ds, h1, h2⟩ := f.vals
  refine ⟨ds, h1.more hB, ⟨by rw [h2.len, List.length_map], fun j u x hu hx => (h2.row j u _ hu (by rw [List.getElem?_map, hx]; rfl)).more hB⟩, ?_⟩
  cases ho : dv.ownBlock with
  | none => exact .inl rfl
  | some g =>
    refine .inr fun hm => ?_
    have h1 := (World.ownsRow.lt h1 g ho).1
    have h2 := (World.ownsRow.lt fm g hm.symm).2
    omega
theorem BW.start (wb : World) (p q : Nat) : BW wb ((wb.alloc (.cells #[.int .i64 p, .int .i64 ((q : Int) + 1)] 3)).alloc (.cells #[.slice (some ⟨wb.heap.size, 0, none⟩) 2 2] 26)) (.slice (some ⟨wb.heap.size + 1, 0, none⟩) 1 1) (.slice none 0 0) [.slice (some ⟨wb.heap.size, 0, none⟩) 2 2] [] ([(p, q)], []) := by
  refine ⟨?_, FreshV.nil _ _, ⟨rfl, fun j u x hu hx => ?_⟩, PRows.nil _ _, .inl rfl, Ext.alloc2 _ _ _⟩
  · have h := World.ownsRow_lit (base := wb.heap.size) (e := 26) (size := 1) (wb.alloc (.cells #[.int .i64 p, .int .i64 ((q : Int) + 1)] 3)) #[.slice (some ⟨wb.heap.size, 0, none⟩) 2 2] 1 (by simp) (by unfold maxLen; omega) (by simp)
    simpa [FreshV] using h
  · match j, hu, hx with
    | 0, hu, hx =>
      simp at hu hx
      subst hu hx
      exact (fresh_lit wb (pairOf (p, q)) #[.int .i64 p, .int .i64 ((q : Int) + 1)] wb.heap.size rfl (Nat.le_refl _) (by simp [pairOf])).ext (Ext.alloc1 _ _)
theorem BlkB.start {p q : Nat} (h : p < 5 ∧ q < 6) : BlkB ([(p, q)], []) :=
  ⟨by simp, by simp, fun z hz => by
    obtain rfl : z = (p, q) := by simpa using hz
    exact h, fun z hz => by cases hz⟩
theorem wpList_pushVAt {ops : Array Oper} {rest : List Oper} {o : Oper} {a : Act} {Q : Exit → Act → World → Prop} {w : World} (hgd : o.guard = none) (s x : Operand)
    (ho : o.op = .call { callee := .builtin .append, args := #[s, x], argTypes := #[63, 63] })
    (B : Nat) (v : Value) (vs : List Value) (hs : a.eval s = v) (hf : FreshV B w v vs) (u : Value) (ad : Addr) (c : Nat) (hx : a.eval x = .slice (some ad) 1 c)
    (hc : w.cell? ad = some u) (h1 : u.oneCell' = true) (hl : vs.length ≤ 1048576) (hB : B ≤ w.heap.size)
    (h : ∀ v' w', FreshV B w' v' (vs ++ [u]) → w.grownBy w' v.ownBlock → Kept B w w' → (v'.ownBlock = v.ownBlock ∨ v'.ownBlock = some w.heap.size) → wpList Tryz.prog ops Q rest (a.put o.dst v') w') : wpList Tryz.prog ops Q (o :: rest) a w := by
  obtain ⟨i0, hi, hz0, hz1, hz2⟩ := info_parts Tryz.infoInts
  refine wpList_append_own_at _ hgd s x 63 ho B 26 i0 (.slice none 0 0) 1 24 Tryz.underlying63 hi hz0 hz1 hz2 rfl (by decide) v vs.length _ hs hf ad 1 c [u] hx rfl ?_ ?_ ?_ ?_ hB ?_
  · intro j z hj
    match j, hj with
    | 0, hj => simp at hj; subst hj; simpa [Addr.add] using hc
  · intro z hz; simp at hz; subst hz; exact h1
  · unfold maxLen; omega
  · omega
  · intro v' w' ho' hg _ hloc
    exact h v' w' (by unfold FreshV; simpa using ho') hg (fun q hq hqB => Below.grown hq hg hq.size (fun b hb => Nat.le_trans hqB (World.ownsRow.lt hf b hb).1)) hloc
end Go.Proofs.YtcpmfcigciknlaaGreat

namespace Go.Proofs.YtcpmfcigciknlaaGreat
open Go.RowKit
set_option linter.unusedVariables false
def FoundAt (L : List (List Int)) (x : List Int) (r : Int) : Prop :=
  (∃ k : Nat, r = (k : Int) ∧ L[k]? = some x ∧ ∀ i, i < k → L[i]? ≠ some x) ∨ (r = -1 ∧ x ∉ L)
set_option maxHeartbeats 1000000 in
theorem l6Find_any (v u : Value) (L : List (List Int)) (x : List Int) (w : World) (hv : Intss w v L) (hu : Ints w u x) :
    Calls Tryz.prog 94 #[v, u] w (fun e w' => ∃ r, e = .returned (.int .i64 r) ∧ FoundAt L x r ∧ Ext w w') := by
  have HU := Lib.hid hu
  obtain ⟨au, cu, rfl, _⟩ := hu
  obtain ⟨av, cv, rfl, hlv, _, hcv⟩ := hv
  unfold maxLen at hlv
  go_enter Tryz.func94, Tryz.ntmps94
  go_wp2
  go_loopw [9] (fun i wr => ∃ k : Nat, k ≤ L.length ∧ i = .int .i64 k ∧ Hid (∀ i, i < k → L[i]? ≠ some x) ∧ Hid (Ext w wr)) (fun i _ => L.length - (intOf i).toNat)
  case atStart => exact ⟨0, Nat.zero_le _, rfl, Lib.hid (fun _ h => by omega), Lib.hid (Ext.refl _)⟩
  case round =>
    obtain ⟨k, hk, rfl, HN, HX⟩ := hrel
    by_cases hlt : k < L.length
    · obtain ⟨bv, ov, rfl, dv⟩ := hcv (by omega)
      obtain ⟨z, hz, iz⟩ := dv k hlt
      rw [List.getElem?_eq_getElem hlt, Option.getD_some] at iz
      have gz := HX.out.cell hz
      have IZ := Lib.hid (iz.ext HX.out)
      obtain ⟨az, cz, rfl, _⟩ := iz
      clear dv hz hcv
      go_wp2_with fail
      refine (l1Same_any _ _ _ _ _ (HU.out.ext HX.out) IZ.out).mono ?_
      rintro e w1 ⟨rfl, x1⟩
      have X1 := Lib.hid (HX.out.trans x1)
      clear x1 gz
      by_cases he : x = L[k]
      · rw [decide_eq_true he]
        have HE := Lib.hid he
        clear he
        go_wp2
        go_ret
        exact ⟨_, rfl, .inl ⟨k, rfl, by rw [List.getElem?_eq_getElem hlt, HE.out], HN.out⟩, X1.out⟩
      · rw [decide_eq_false he]
        have HN2 : Hid (∀ i, i < k + 1 → L[i]? ≠ some x) := Lib.hid (fun i hi => by
          by_cases e : i = k
          · subst e
            rw [List.getElem?_eq_getElem hlt]
            exact fun e => he (Option.some.inj e).symm
          · exact HN.out i (by omega))
        clear he HN
        go_wp2
        go_roundw
        case rel => exact ⟨k + 1, by omega, by go_num, HN2, X1⟩
        case measure => simp [intOf]; omega
    · obtain rfl : k = L.length := by omega
      have hno : x ∉ L := fun hm => by
        obtain ⟨i, hi, e⟩ := List.getElem_of_mem hm
        exact HN.out i hi (by rw [List.getElem?_eq_getElem hi, e])
      have HNO := Lib.hid hno
      clear hno HN
      go_wp2
      go_ret
      exact ⟨_, rfl, .inr ⟨rfl, HNO.out⟩, HX.out⟩
end Go.Proofs.YtcpmfcigciknlaaGreat

namespace Go.Proofs.YtcpmfcigciknlaaGreat
open Go.RowKit Go.Maps
set_option linter.unusedVariables false
theorem pairOf_inj' {x y : Nat × Nat} (h : pairOf x = pairOf y) : x = y := by
  unfold pairOf at h
  simp only [List.cons.injEq, and_true] at h
  exact Prod.ext (by omega) (by omega)
theorem found_in {L : List (Nat × Nat)} {x : Nat × Nat} {r : Int} (h : FoundAt (L.map pairOf) (pairOf x) r) : ((∃ k : Nat, r = (k : Int)) ∧ x ∈ L) ∨ (r = -1 ∧ x ∉ L) := by
  rcases h with ⟨k, rfl, hk, _⟩ | ⟨rfl, hno⟩
  · refine .inl ⟨⟨k, rfl⟩, ?_⟩
    rw [List.getElem?_map] at hk
    cases hL : L[k]? with
    | none => rw [hL] at hk; simp at hk
    | some y =>
      rw [hL] at hk
      simp only [Option.map_some, Option.some.injEq] at hk
      rw [← pairOf_inj' hk]
      exact List.mem_of_getElem? hL
  · exact .inr ⟨rfl, fun hm => hno (List.mem_map.2 ⟨x, hm, rfl⟩)⟩
theorem FreshV.big {B : Nat} {w : World} {v : Value} {vs : List Value} (h : FreshV B w v vs) (hp : 0 < vs.length) : ∃ g cap, v = .slice (some ⟨g, 0, none⟩) vs.length cap ∧ vs.length ≤ cap ∧ cap ≤ maxLen := by
  have h0 : w.ownsRow B 26 1 v vs.length vs := h
  rcases h0.2 with ⟨rfl, hn⟩ | ⟨g, cap, cur, rfl, _, _, h1, h2, _⟩
  · omega
  · exact ⟨g, cap, rfl, h1, h2⟩
theorem inst_st {n : Int} {T : List (List RowD)} {p q : Nat} (hp : p < T.length) : ((rowOf n T p q).st == 3) = instCom T p q := by
  unfold instCom
  rw [List.getElem?_eq_getElem hp, Option.getD_some]
  by_cases hq : q < T[p].length
  · rw [rowOf_in hp hq, List.getElem?_eq_getElem hq]
  · rw [rowOf_out hp (by omega), List.getElem?_eq_none (by omega)]
    rfl
theorem field_rowS (b v st k i f t a s : Int) (u : Value) (W : World) : (Instr.field 83 (.agg #[.int .i64 b, .int .i64 v, .int .i64 st, .int .i64 k, .int .i64 i, .int .i64 f, .int .i64 t, .int .i64 a, .int .i64 s, u]) 2).run Tryz.prog W = .ok (.int .i64 st) W := by kernel_rfl
theorem depsL_row {n : Int} {T : List (List RowD)} (hg : goodTab n T = true) {y x : Nat × Nat} (hy : instCom T y.1 y.2 = true) (hx : x ∈ depsL n T y) : x.1 < T.length := by
  have h := (mem_depsL.1 hx).1
  unfold hungL hungTo hungAt depM at h
  simp only [List.mem_flatMap, List.mem_range, List.mem_map] at h
  obtain ⟨p, hp, i, hi, rfl⟩ := h
  have h1 := (com_row hg hy).2.1
  show p < T.length
  omega
theorem depsL_len {n : Int} {T : List (List RowD)} (hg : goodTab n T = true) {y : Nat × Nat} (hy : y.1 < T.length) : (depsL n T y).length ≤ 1000 := by
  have h1 := depsTo_len (r := rowOf n T y.1 y.2) (x := y) (fun k => by have := dep_in hg hy y.2 k; unfold depN; omega) (rowOf n T y.1 y.2).l.length
  have h2 := rowOf_list hg hy y.2
  show (depsTo (rowOf n T y.1 y.2) y (rowOf n T y.1 y.2).l.length).length ≤ 1000
  omega
def BlkR (n : Int) (T : List (List RowD)) (x0 : Nat × Nat) (w : World) (e : Ending) (w' : World) : Prop :=
  ∃ v os s i, e = .returned v ∧ PairsAt w' v os s.2 ∧ BlkI n T x0 i 0 s ∧ s.1.length ≤ i ∧ BlkB s ∧ Ext w w'
theorem addB_old {T : List (List RowD)} {s : List (Nat × Nat) × List (Nat × Nat)} {x : Nat × Nat} (h : x ∈ s.1 ∨ x ∈ s.2) : addB T s x = s := by unfold addB; rw [if_pos h]
theorem addB_com {T : List (List RowD)} {s : List (Nat × Nat) × List (Nat × Nat)} {x : Nat × Nat} (h1 : x ∉ s.1) (h2 : x ∉ s.2) (h : instCom T x.1 x.2 = true) : addB T s x = (s.1 ++ [x], s.2) := by
  unfold addB; rw [if_neg (by simp [h1, h2]), if_pos h]
theorem addB_not {T : List (List RowD)} {s : List (Nat × Nat) × List (Nat × Nat)} {x : Nat × Nat} (h1 : x ∉ s.1) (h2 : x ∉ s.2) (h : instCom T x.1 x.2 = false) : addB T s x = (s.1, insL s.2 x) := by
  unfold addB; rw [if_neg (by simp [h1, h2]), if_neg (by rw [h]; simp)]
set_option maxHeartbeats 8000000 in
set_option maxRecDepth 100000 in
theorem l6Blockers_any (n : Int) (u : Value) (T : List (List RowD)) (p q : Nat) (w : World) (hu : Rowzz w u T) (hg : goodTab n T = true) (hc : instCom T p q = true) :
    Calls Tryz.prog 134 #[.agg #[.int .i64 n, u], .int .i64 p, .int .i64 ((q : Int) + 1)] w (BlkR n T (p, q) w) := by
  have HG := Lib.hid hg
  have HC := Lib.hid hc
  have hcr := com_row hg hc
  have hp1 := inT_low (goodTab_both hg).1 (goodTab_both hg).2 (instCom_inT hc)
  obtain ⟨wb, hwb⟩ : ∃ wb, wb = w.alloc (.cells #[.int .i64 n, u] 32) := ⟨_, rfl⟩
  have xb : Ext w wb := by rw [hwb]; exact Ext.alloc1 _ _
  have b0 := attrAt_new w 32 n u
  rw [← hwb] at b0
  have HU := Lib.hid (hu.ext xb)
  have XB := Lib.hid xb
  have HB := Lib.hid b0
  have SB : Hid (wb.heap.size = w.heap.size + 1) := Lib.hid (by rw [hwb]; simp)
  have HWB := Lib.hid hwb
  obtain ⟨au, cu, rfl, hlu, _, _⟩ := hu
  clear hg hc hcr xb b0 hwb hlu
  go_enter Tryz.func134, Tryz.ntmps134
  go_wp2
  rw [← HWB.out]
  go_loopw [7, 8, 9] (fun mv ov i wr => ∃ (k : Nat) (s : List (Nat × Nat) × List (Nat × Nat)) (ms os : List Value), i = .int .i64 k ∧ k ≤ s.1.length ∧ Hid (BW wb wr mv ov ms os s) ∧ Hid (BlkI n T (p, q) k 0 s) ∧ Hid (BlkB s)) (fun _ _ i _ => 31 - (intOf i).toNat)
  case atStart =>
    have h := BW.start wb p q
    rw [SB.out] at h
    exact ⟨0, ([(p, q)], []), _, [], rfl, by simp, Lib.hid h, Lib.hid (BlkI.start HC.out), Lib.hid (BlkB.start (by omega))⟩
  case round =>
    obtain ⟨k, s, ms, os, rfl, hk, HW, HI, HBB⟩ := hrel
    have hml := HW.out.rm.1
    have hs1 : 0 < s.1.length := List.length_pos_of_mem HI.out.first
    have hfew := HBB.out.few.1
    obtain ⟨g, cap, rfl, hcap, hcm⟩ := HW.out.fm.big (by omega)
    obtain ⟨m, hm⟩ : ∃ m, m = s.1.length := ⟨_, rfl⟩
    rw [hml, ← hm] at hcap
    have hfm := HW.out.fm
    rw [hml, ← hm] at HW hfm ⊢
    have HM := Lib.hid hm
    have HML : Hid (ms.length = m) := Lib.hid (by rw [hml, hm])
    have HFM := Lib.hid hfm
    unfold maxLen at hcm
    rw [← hm] at hk hs1 hfew
    clear hml hfm hm
    by_cases hlt : k < m
    · have hks : k < s.1.length := by rw [← HM.out]; exact hlt
      obtain ⟨y, hy⟩ : ∃ y, s.1[k]? = some y := ⟨_, List.getElem?_eq_getElem hks⟩
      obtain ⟨yv, hyv⟩ : ∃ yv, ms[k]? = some yv := ⟨_, List.getElem?_eq_getElem (by rw [HW.out.rm.1]; exact hks)⟩
      have gy := HFM.out.at HML.out hyv
      obtain ⟨by_, oy, cy, rfl, y0, y1⟩ := pair_at (HW.out.rm.2 k yv y hyv hy).ints
      have hyc := HI.out.com y (List.mem_of_getElem? hy)
      have hcx := com_row HG.out hyc
      have HY := Lib.hid hy
      have HYC := Lib.hid hyc
      have HBX := Lib.hid (HB.out.ext HW.out.ext)
      have ks : ∀ V, Ext wr V → Ext wr V ∧ V.cell? ⟨w.heap.size, 0, none⟩ = some (.int .i64 n) ∧ V.cell? ⟨w.heap.size, 1, none⟩ = some (.slice au T.length cu) ∧ V.cell? ⟨g, k, none⟩ = some (.slice (some ⟨by_, oy, none⟩) 2 cy) ∧ V.cell? ⟨by_, oy, none⟩ = some (.int .i64 y.1) ∧ V.cell? ⟨by_, oy + 1, none⟩ = some (.int .i64 ((y.2 : Int) + 1)) := fun V hV => ⟨hV, hV.cell HBX.out.1, hV.cell HBX.out.2, hV.cell gy, hV.cell y0, hV.cell y1⟩
      have KS := Lib.hid ks
      have cD : ∀ V, Ext wr V → Calls Tryz.prog 137 #[.agg #[.int .i64 n, .slice au T.length cu], .int .i64 y.1, .int .i64 ((y.2 : Int) + 1)] V (NewIntss ((depsL n T y).map pairOf) V) := fun V hV => l6Deps_any n _ T y.1 y.2 _ (HU.out.ext (HW.out.ext.trans hV)) HG.out hcx.2.2.1 hcx.2.2.2
      have CD := Lib.hid cD
      have HR := Lib.hid (Ext.drew (Ext.refl wr))
      obtain ⟨P, hP⟩ : ∃ P, P = depsL n T y := ⟨_, rfl⟩
      have HP := Lib.hid hP
      have hPl := depsL_len HG.out hcx.2.2.1
      rw [← hP] at hPl
      clear gy y0 y1 hy hyv hyc hcx ks cD hP
      go_wp2_with fail
      go_region_held3 (fun V => Ext wr V ∧ V.cell? ⟨w.heap.size, 0, none⟩ = some (.int .i64 n) ∧ V.cell? ⟨w.heap.size, 1, none⟩ = some (.slice au T.length cu) ∧ V.cell? ⟨g, k, none⟩ = some (.slice (some ⟨by_, oy, none⟩) 2 cy) ∧ V.cell? ⟨by_, oy, none⟩ = some (.int .i64 y.1) ∧ V.cell? ⟨by_, oy + 1, none⟩ = some (.int .i64 ((y.2 : Int) + 1))) (first | (with_reducible exact KS.out _ HR.out) | (with_reducible exact KS.out _ SS.out)) (first | (go_at_call 137; refine (CD.out _ (And.left (by with_reducible assumption))).mono ?_; rintro e W3 ⟨vd, rfl, fd, x3⟩; obtain ⟨ad, kd, rfl⟩ := fd.form; have SS := Lib.hid (Ext.trans (And.left (by with_reducible assumption)) x3)))
      have W0 := HW.out.on (Ext.drew (Ext.refl wr))
      rw [← HP.out] at fd ⊢
      obtain ⟨ds, hds⟩ := DW.of W0.fm W0.ext.size fd
      have DW3 := Lib.hid (hds.on (Ext.refl _))
      have BW3 := Lib.hid (HW.out.on SS.out)
      have hfl : ((P.map pairOf).length) = P.length := by simp
      obtain ⟨mp, hmp⟩ : ∃ mp, mp = P.length := ⟨_, rfl⟩
      rw [hfl] at DW3
      rw [← hmp] at DW3 ⊢
      rw [← hmp] at hPl
      have HMP := Lib.hid hmp
      have HBT := HI
      clear W0 fd x3 hds hfl hmp HW KS CD HR SS
      go_wp2
      go_loopw [7, 8, 37] (fun mv ov i wr => ∃ (t : Nat) (s : List (Nat × Nat) × List (Nat × Nat)) (ms os : List Value), i = .int .i64 t ∧ t ≤ mp ∧ Hid (BW wb wr mv ov ms os s) ∧ Hid (DW wb wr mv (.slice ad mp kd) ds P) ∧ Hid (BlkI n T (p, q) k t s) ∧ Hid (BlkB s) ∧ Hid (s.1[k]? = some y)) (fun _ _ i _ => mp - (intOf i).toNat)
      case atStart => exact ⟨0, s, ms, os, rfl, Nat.zero_le _, BW3, DW3, HBT, HBB, HY⟩
      case round =>
        clear HI HBB BW3 DW3 HBT HFM HBX HML hcap hcm hs1 HY
        obtain ⟨t, s', ms', os', rfl, ht, HW, HD, HI, HBB, HY⟩ := hrel
        have hm7 : 0 < ms'.length := by rw [HW.out.rm.1]; exact List.length_pos_of_mem HI.out.first
        obtain ⟨g7, c7, rfl, _, _⟩ := HW.out.fm.big hm7
        clear hm7
        by_cases htl : t < mp
        · have htp : t < P.length := by rw [← HMP.out]; exact htl
          have hdl : ds.length = mp := by rw [HD.out.rd.1, HMP.out]
          obtain ⟨x, hx⟩ : ∃ x, P[t]? = some x := ⟨_, List.getElem?_eq_getElem htp⟩
          obtain ⟨xv, hxv⟩ : ∃ xv, ds[t]? = some xv := ⟨_, List.getElem?_eq_getElem (by omega)⟩
          obtain ⟨gd, kd', hvd, _, _⟩ := HD.out.fd.big (by omega)
          simp only [Value.slice.injEq] at hvd
          obtain ⟨rfl, hvn, hvk⟩ := hvd
          subst hvk
          clear hvn
          have gx := HD.out.fd.at hdl hxv
          have HXF := Lib.hid (HD.out.rd.2 t xv x hxv hx)
          obtain ⟨bx, ox, cx, rfl, x0, x1⟩ := pair_at HXF.out.ints
          have HX := Lib.hid (show (depsL n T y)[t]? = some x by rw [← HP.out]; exact hx)
          have hmem := List.mem_of_getElem? HX.out
          have hxT := depsL_row HG.out HYC.out hmem
          have hx6 := (depsL_in HG.out (com_row HG.out HYC.out).2.2.1 hmem).2
          have HML : Hid (ms'.length ≤ 1000) := Lib.hid (by have := HBB.out.few.1; rw [HW.out.rm.1]; omega)
          have HOL : Hid (s'.2.length ≤ 1000) := Lib.hid (by have := HBB.out.few.2; omega)
          have HYT : Hid (y.1 < T.length) := Lib.hid (com_row HG.out HYC.out).2.2.1
          clear hdl hx hxv hmem x0 x1
          go_wp2_with fail
          refine (l6Find_any _ _ (s'.1.map pairOf) (pairOf x) _ (PRows.at HW.out.fm HW.out.rm).intss HXF.out.ints).mono ?_
          rintro e w1 ⟨r, rfl, hf, e1⟩
          have HF := Lib.hid (found_in hf)
          have HW1 := Lib.hid (HW.out.on e1)
          have HD1 := Lib.hid (HD.out.on e1)
          have HX1 := Lib.hid (HXF.out.ext e1)
          clear hf e1 gx HW HD HXF
          rcases HF.out with ⟨⟨kr, rfl⟩, hin⟩ | ⟨rfl, hno⟩
          · have hr0 : (0 : Int) ≤ (kr : Int) := by omega
            have HN := Lib.hid (addB_old (T := T) (s := s') (x := x) (.inl hin))
            clear HF hin
            go_wp2
            go_roundw
            case rel => exact ⟨t + 1, s', ms', os', by go_num, by omega, HW1, HD1, Lib.hid (by have h := HI.out.step HY.out HX.out; rw [HN.out] at h; exact h), HBB, HY⟩
            case measure => simp [intOf]; omega
          · have HNO := Lib.hid hno
            clear HF hno
            go_wp2_with fail
            refine (l6Find_any _ _ (s'.2.map pairOf) (pairOf x) _ (PRows.at HW1.out.fo HW1.out.ro).intss HX1.out.ints).mono ?_
            rintro e w2 ⟨r, rfl, hf, e2⟩
            have HF := Lib.hid (found_in hf)
            have HW2 := Lib.hid (HW1.out.on e2)
            have HD2 := Lib.hid (HD1.out.on e2)
            have HX2 := Lib.hid (HX1.out.ext e2)
            clear hf e2 HW1 HD1 HX1
            rcases HF.out with ⟨⟨kr, rfl⟩, hin⟩ | ⟨rfl, hno⟩
            · have hr0 : (0 : Int) ≤ (kr : Int) := by omega
              have HN := Lib.hid (addB_old (T := T) (s := s') (x := x) (.inr hin))
              clear HF hin
              go_wp2
              go_roundw
              case rel => exact ⟨t + 1, s', ms', os', by go_num, by omega, HW2, HD2, Lib.hid (by have h := HI.out.step HY.out HX.out; rw [HN.out] at h; exact h), HBB, HY⟩
              case measure => simp [intOf]; omega
            · have HNO2 := Lib.hid hno
              clear HF hno
              obtain ⟨z0, z1⟩ : w2.cell? ⟨bx, ox, none⟩ = some (.int .i64 x.1) ∧ w2.cell? ⟨bx, ox + 1, none⟩ = some (.int .i64 ((x.2 : Int) + 1)) := by
                obtain ⟨b', o', c', hv, z0, z1⟩ := pair_at HX2.out.ints
                simp only [Value.slice.injEq, Option.some.injEq, Addr.mk.injEq, and_true] at hv
                obtain ⟨⟨rfl, rfl⟩, _, _⟩ := hv
                exact ⟨z0, z1⟩
              have hbx := HB.out.ext HW2.out.ext
              have ks : ∀ V, Ext w2 V → Ext w2 V ∧ V.cell? ⟨w.heap.size, 0, none⟩ = some (.int .i64 n) ∧ V.cell? ⟨w.heap.size, 1, none⟩ = some (.slice au T.length cu) ∧ V.cell? ⟨bx, ox, none⟩ = some (.int .i64 x.1) ∧ V.cell? ⟨bx, ox + 1, none⟩ = some (.int .i64 ((x.2 : Int) + 1)) := fun V hV => ⟨hV, hV.cell hbx.1, hV.cell hbx.2, hV.cell z0, hV.cell z1⟩
              have KS := Lib.hid ks
              have HR := Lib.hid (Ext.drew (Ext.refl w2))
              obtain ⟨d, hd⟩ : ∃ d, d = rowOf n T x.1 x.2 := ⟨_, rfl⟩
              have hst : (d.st == 3) = instCom T x.1 x.2 := by rw [hd]; exact inst_st hxT
              have cR : ∀ V, Ext w2 V → Calls Tryz.prog 65 #[.agg #[.int .i64 n, .slice au T.length cu], .int .i64 x.1, .int .i64 ((x.2 : Int) + 1)] V (NewRow d V) := fun V hV => by
                rw [hd]
                exact l4At_any n _ T x.1 x.2 _ (HU.out.ext (HW2.out.ext.trans hV)) HG.out hxT (by omega)
              have CR := Lib.hid cR
              clear z0 z1 hbx ks hd cR
              cases hcm : instCom T x.1 x.2
              all_goals
                rw [hcm] at hst
                have HCM := Lib.hid hcm
                clear hcm
                go_wp2_with fail
                go_region_held3 (fun V => Ext w2 V ∧ V.cell? ⟨w.heap.size, 0, none⟩ = some (.int .i64 n) ∧ V.cell? ⟨w.heap.size, 1, none⟩ = some (.slice au T.length cu) ∧ V.cell? ⟨bx, ox, none⟩ = some (.int .i64 x.1) ∧ V.cell? ⟨bx, ox + 1, none⟩ = some (.int .i64 ((x.2 : Int) + 1))) (first | (with_reducible exact KS.out _ HR.out) | (with_reducible exact KS.out _ SS.out)) (first | (go_at_call 65; refine (CR.out _ (And.left (by with_reducible assumption))).mono ?_; rintro e W3 ⟨ur, rfl, fr, x3⟩; obtain ⟨ar, kr, rfl⟩ := fr.form; have hfd := fun W => field_rowS d.b d.v d.st d.k d.i d.f d.t d.a d.s (.slice ar d.l.length kr) W; have SS := Lib.hid (Ext.trans (And.left (by with_reducible assumption)) x3)))
                clear hfd fr x3 KS CR HR hst
                have HW3 := Lib.hid (HW2.out.on SS.out)
                have HD3 := Lib.hid (HD2.out.on SS.out)
                have HX3 := Lib.hid (HX2.out.ext SS.out)
                clear SS HW2 HD2 HX2
              · have HOB := Lib.hid (PRows.at HW3.out.fo HW3.out.ro)
                go_wp2_with fail
                refine (l6Insert_any HOB.out HX3.out.ints HOL.out).mono ?_
                rintro e w5 ⟨v5, rfl, f5, x5, _⟩
                have HW5 := Lib.hid (HW3.out.block HX3.out f5 x5)
                have HD5 := Lib.hid (HD3.out.on x5)
                have HN := Lib.hid (addB_not HNO.out HNO2.out HCM.out)
                clear f5 x5 HW3 HD3 HX3 HOB
                go_wp2
                go_roundw
                case rel => exact ⟨t + 1, (s'.1, insL s'.2 x), _, _, by go_num, by omega, HW5, HD5, Lib.hid (by have h := HI.out.step HY.out HX.out; rw [HN.out] at h; exact h), Lib.hid (by have h := HBB.out.step HG.out HYT.out (List.mem_of_getElem? HX.out); rw [HN.out] at h; exact h), HY⟩
                case measure => simp [intOf]; omega
              · have HX4 := Lib.hid (HX3.out.ext (Ext.alloc1 W3 (.cells #[.slice (some ⟨bx, ox, none⟩) 2 cx] 26)))
                have HW4 := Lib.hid (HW3.out.on (Ext.alloc1 W3 (.cells #[.slice (some ⟨bx, ox, none⟩) 2 cx] 26)))
                have HD4 := Lib.hid (HD3.out.on (Ext.alloc1 W3 (.cells #[.slice (some ⟨bx, ox, none⟩) 2 cx] 26)))
                have HLL : Hid (ms'.length ≤ 1048576) := Lib.hid (by have := HML.out; omega)
                have HSZ : Hid (wb.heap.size ≤ (W3.alloc (.cells #[.slice (some ⟨bx, ox, none⟩) 2 cx] 26)).heap.size) := Lib.hid HW4.out.ext.size
                clear HW3 HD3 HX3
                go_wp2_with (at_builtin; refine wpList_pushVAt rfl _ _ rfl wb.heap.size _ ms' rfl HW4.out.fm (.slice (some ⟨bx, ox, none⟩) 2 cx) ⟨W3.heap.size, 0, none⟩ 1 rfl (cell_alloc_one _ _ _) rfl HLL.out HSZ.out ?_)
                intro v5 w5 f5 g5 k5 loc5
                have loc6 : v5.ownBlock = (Value.slice (some ⟨g7, 0, none⟩) ms'.length c7).ownBlock ∨ v5.ownBlock = some (W3.alloc (.cells #[.slice (some ⟨bx, ox, none⟩) 2 cx] 26)).heap.size := by rw [World.size_alloc]; exact loc5
                have HW5 := Lib.hid (HW4.out.meet HX4.out f5 g5 k5 loc6)
                have HD5 := Lib.hid (HD4.out.meet HW4.out.fm g5 loc6)
                have HN := Lib.hid (addB_com HNO.out HNO2.out HCM.out)
                have HYN : Hid ((s'.1 ++ [x])[k]? = some y) := Lib.hid (by
                  rw [List.getElem?_append_left (List.getElem?_eq_some_iff.1 HY.out).1]
                  exact HY.out)
                clear f5 g5 k5 loc5 loc6 HW4 HD4 HX4 HLL HSZ
                go_wp2
                go_roundw
                case rel => exact ⟨t + 1, (s'.1 ++ [x], s'.2), _, _, by go_num, by omega, HW5, HD5, Lib.hid (by have h := HI.out.step HY.out HX.out; rw [HN.out] at h; exact h), Lib.hid (by have h := HBB.out.step HG.out HYT.out (List.mem_of_getElem? HX.out); rw [HN.out] at h; exact h), HYN⟩
                case measure => simp [intOf]; omega
        · obtain rfl : t = mp := by omega
          have HIN := Lib.hid (HI.out.next HY.out (by rw [← HP.out, ← HMP.out]; exact Nat.le_refl _))
          have hk1 := (List.getElem?_eq_some_iff.1 HY.out).1
          have HK1 := Lib.hid hk1
          have HF30 := Lib.hid HBB.out.few.1
          clear hk1 HI HD
          go_wp2
          go_roundw
          case rel => exact ⟨k + 1, s', ms', os', by go_num, HK1.out, HW, HIN, HBB⟩
          case measure => simp [intOf]; omega
    · obtain rfl : k = m := by omega
      have HE : Hid (PairsAt wr u8 os s.2) := Lib.hid (PRows.at HW.out.fo HW.out.ro)
      have HX := Lib.hid (XB.out.trans HW.out.ext)
      clear HW HFM
      go_wp2
      go_ret
      exact ⟨_, os, s, k, rfl, HE.out, HI.out, by rw [← HM.out]; exact Nat.le_refl _, HBB.out, HX.out⟩
end Go.Proofs.YtcpmfcigciknlaaGreat

namespace Go.Proofs.YtcpmfcigciknlaaGreat
open Go.RowKit Go.Maps
set_option linter.unusedVariables false
def findI (L : List (List Int)) (x : List Int) : Int := if x ∈ L then ((L.findIdx (fun y => decide (y = x)) : Nat) : Int) else -1
theorem findI_of {L : List (List Int)} {x : List Int} {r : Int} (h : FoundAt L x r) : r = findI L x := by
  unfold findI
  rcases h with ⟨k, rfl, hk, hn⟩ | ⟨rfl, hno⟩
  · have hm : x ∈ L := List.mem_of_getElem? hk
    rw [if_pos hm]
    obtain ⟨hlt, e⟩ := List.getElem?_eq_some_iff.1 hk
    have : L.findIdx (fun y => decide (y = x)) = k := by
      rw [List.findIdx_eq hlt]
      refine ⟨by simp [e], fun j hj => ?_⟩
      have h1 := hn j hj
      rw [List.getElem?_eq_getElem (by omega)] at h1
      simpa using h1
    rw [this]
  · rw [if_neg hno]
theorem l6Find_val (v u : Value) (L : List (List Int)) (x : List Int) (w : World) (hv : Intss w v L) (hu : Ints w u x) :
    Calls Tryz.prog 94 #[v, u] w (fun e w' => e = .returned (.int .i64 (findI L x)) ∧ Ext w w') :=
  (l6Find_any v u L x w hv hu).mono (by
    rintro e w' ⟨r, rfl, hf, hx⟩
    exact ⟨by rw [findI_of hf], hx⟩)
theorem Intss.upto {w : World} {a : Option Addr} {n c : Nat} {L : List (List Int)} (h : Intss w (.slice a n c) L) (k : Nat) (hk : k ≤ L.length) : Intss w (.slice a k c) (L.take k) := by
  obtain ⟨ao, cap, hv, hm, hcap, hc⟩ := h
  simp only [Value.slice.injEq] at hv
  obtain ⟨rfl, rfl, rfl⟩ := hv
  have e : (L.take k).length = k := by rw [List.length_take]; omega
  refine ⟨a, c, by rw [e], by rw [e]; omega, ⟨by rw [e]; omega, hcap.2.1, hcap.2.2⟩, fun hp => ?_⟩
  obtain ⟨b, off, ha, hd⟩ := hc (by omega)
  refine ⟨b, off, ha, fun j hj => ?_⟩
  rw [e] at hj
  obtain ⟨u, hu, hi⟩ := hd j (by omega)
  refine ⟨u, hu, ?_⟩
  rw [List.getElem?_take, if_pos hj]
  exact hi
end Go.Proofs.YtcpmfcigciknlaaGreat

namespace Go.Proofs.YtcpmfcigciknlaaGreat
open Go.RowKit Go.Maps
set_option linter.unusedVariables false
def Got (L P : List (Nat × Nat)) (l : List Int) : Prop := Rises l ∧ ∀ z : Int, z ∈ l ↔ ∃ (k : Nat) (y : Nat × Nat), z = (k : Int) ∧ L[k]? = some y ∧ y ∈ P
theorem Got.nil (L : List (Nat × Nat)) : Got L [] [] := ⟨List.Pairwise.nil, fun z => by simp⟩
theorem pairOf_inj {x y : Nat × Nat} (h : pairOf x = pairOf y) : x = y := by
  unfold pairOf at h
  simp at h
  exact Prod.ext (by omega) (by omega)
theorem Got.none {L P : List (Nat × Nat)} {l : List Int} {y : Nat × Nat} (h : Got L P l) (hn : pairOf y ∉ L.map pairOf) : Got L (P ++ [y]) l := by
  have hy : y ∉ L := fun hm => hn (List.mem_map_of_mem hm)
  refine ⟨h.1, fun z => ?_⟩
  rw [h.2]
  constructor
  · rintro ⟨k, x, e, hk, hx⟩
    exact ⟨k, x, e, hk, by simp [hx]⟩
  · rintro ⟨k, x, e, hk, hx⟩
    rw [List.mem_append, List.mem_singleton] at hx
    rcases hx with hx | rfl
    · exact ⟨k, x, e, hk, hx⟩
    · exact absurd (List.mem_of_getElem? hk) hy
theorem Got.put {L P : List (Nat × Nat)} {l : List Int} {y : Nat × Nat} {k : Nat} (h : Got L P l) (hL : L.Nodup) (hk : (L.map pairOf)[k]? = some (pairOf y)) : Got L (P ++ [y]) (putI l k) := by
  have hky : L[k]? = some y := by
    rw [List.getElem?_map] at hk
    cases hx : L[k]? with
    | none => rw [hx] at hk; cases hk
    | some x =>
      rw [hx] at hk
      simp only [Option.map_some, Option.some.injEq] at hk
      rw [pairOf_inj hk]
  refine ⟨putI_rises _ h.1, fun z => ?_⟩
  rw [putI_mem, h.2]
  constructor
  · rintro (⟨k', x, e, hk', hx⟩ | e)
    · exact ⟨k', x, e, hk', by simp [hx]⟩
    · exact ⟨k, y, e, hky, by simp⟩
  · rintro ⟨k', x, e, hk', hx⟩
    rw [List.mem_append, List.mem_singleton] at hx
    rcases hx with hx | rfl
    · exact .inl ⟨k', x, e, hk', hx⟩
    · refine .inr ?_
      rw [e]
      obtain ⟨h1, e1⟩ := List.getElem?_eq_some_iff.1 hky
      obtain ⟨h2, e2⟩ := List.getElem?_eq_some_iff.1 hk'
      have := (List.getElem_inj hL).1 (e2.trans e1.symm)
      rw [this]
theorem got_row {n : Int} {T : List (List RowD)} (hg : goodTab n T = true) {x : Nat × Nat} (hx : x ∈ insts T) {l : List Int} (h : Got (insts T) (depsL n T x) l) : l = rowE n T (insts T) x (insts T).length := by
  refine rises_ext h.1 ?_ fun z => ?_
  · unfold rowE
    unfold Rises
    rw [List.pairwise_map]
    exact (List.pairwise_lt_range.filter _).imp fun h => by omega
  · rw [h.2]
    have hcx := com_row hg (mem_insts.1 hx)
    unfold rowE
    rw [List.mem_map]
    have key : ∀ y, y ∈ insts T → (y ∈ depsL n T x ↔ edgeB n T x y = true) := fun y hy => by
      have hcy := com_row hg (mem_insts.1 hy)
      have hd := dep_in hg hcx.2.2.1 x.2 y.1
      unfold depsL edgeB
      rw [mem_depsTo]
      unfold depN
      simp only [Bool.and_eq_true, Bool.not_eq_true', decide_eq_false_iff_not, decide_eq_true_eq]
      constructor
      · rintro ⟨h1, h2, h3⟩
        exact ⟨fun e => h3 e.symm, by omega⟩
      · rintro ⟨h1, h2⟩
        exact ⟨by omega, by omega, fun e => h1 e.symm⟩
    constructor
    · rintro ⟨k, y, e, hk, hy⟩
      refine ⟨k, ?_, e.symm⟩
      rw [List.mem_filter, List.mem_range]
      obtain ⟨h1, e1⟩ := List.getElem?_eq_some_iff.1 hk
      refine ⟨h1, ?_⟩
      rw [hk]
      exact (key y (List.mem_of_getElem? hk)).1 hy
    · rintro ⟨k, hk, e⟩
      rw [List.mem_filter, List.mem_range] at hk
      refine ⟨k, (insts T)[k]'hk.1, e.symm, List.getElem?_eq_getElem hk.1, ?_⟩
      have h2 := hk.2
      rw [List.getElem?_eq_getElem hk.1, Option.getD_some] at h2
      exact (key _ (List.getElem_mem hk.1)).2 h2
theorem insts_nodup (T : List (List RowD)) : (insts T).Nodup := (insts_lex T).imp fun h e => by subst e; unfold lexL at h; omega
theorem putI_mostG (l : List Int) (n : Int) : (putI l n).length ≤ l.length + 1 := by
  unfold putI
  split
  · omega
  · simp only [List.length_append, List.length_take, List.length_drop, List.length_cons, List.length_nil]
    omega
def TwoSS (L M : List (List Int)) (w : World) (e : Ending) (w' : World) : Prop :=
  ∃ v u w1, e = .returned (.tuple #[v, u]) ∧ FreshSS w.heap.size w1 v L ∧ Ext w w1 ∧ FreshSS w1.heap.size w' u M ∧ Ext w1 w'
set_option maxHeartbeats 4000000 in
set_option maxRecDepth 100000 in
theorem l6Graph_any (n : Int) (u : Value) (T : List (List RowD)) (w : World) (hu : Rowzz w u T) (hg : goodTab n T = true) :
    Calls Tryz.prog 96 #[.agg #[.int .i64 n, u]] w (TwoSS ((insts T).map pairOf) (graphP n T (insts T)) w) := by
  have H56 := Lib.hid (goodTab_both hg)
  have HG := Lib.hid hg
  have HU := Lib.hid hu
  have hx0 := Ext.alloc1 w (.cells #[.int .i64 n, u] 32)
  have b0 := attrAt_new w 32 n u
  obtain ⟨au, cu, rfl, hlu, _, _⟩ := hu
  clear hg
  go_enter Tryz.func96, Tryz.ntmps96
  go_wp2_with fail
  refine (l4Committed_any n _ T _ (HU.out.ext hx0) H56.out.1 H56.out.2).mono ?_
  rintro e W ⟨v1, rfl, f1, x1⟩
  have HB := Lib.hid (b0.ext x1)
  have XW := Lib.hid (hx0.trans x1)
  have f1' : FreshSS w.heap.size W v1 ((insts T).map pairOf) := by
    have h := f1.more hx0.size
    rw [allTo_insts] at h
    exact h
  have F1 := Lib.hid f1'
  obtain ⟨a1, k1, rfl, hl1, hcap1, hc1⟩ := f1'.intss
  have HC1 := Lib.hid hc1
  rw [pairs_len] at hl1 hcap1 ⊢
  have HSH := Lib.hid (insts_short HG.out)
  obtain ⟨m, hm⟩ : ∃ m, m = (insts T).length := ⟨_, rfl⟩
  rw [← hm] at hl1 hcap1 ⊢
  unfold maxLen at hl1
  have hI1 : Intss W (.slice a1 m k1) ((insts T).map pairOf) := by rw [hm, ← pairs_len T]; exact f1'.intss
  have I1 := Lib.hid hI1
  have HM := Lib.hid hm
  clear f1 f1' hx0 x1 b0 hc1 hm hI1
  go_wp2
  go_loopw [5, 16] (fun o i wr => ∃ j : Nat, j ≤ m ∧ i = .int .i64 j ∧ Hid (FreshSS W.heap.size wr o ((graphP n T (insts T)).take j)) ∧ Hid (Ext W wr)) (fun _ i _ => m - (intOf i).toNat)
  case atStart => exact ⟨0, Nat.zero_le _, rfl, Lib.hid (by simpa using FreshSS.nil _ _), Lib.hid (Ext.refl _)⟩
  case round =>
    obtain ⟨j, hj, rfl, HF, HX⟩ := hrel
    by_cases hlt : j < m
    · have hjl : j < (insts T).length := by rw [← HM.out]; exact hlt
      obtain ⟨bu, ou, ha1, du⟩ := HC1.out (by simp; omega)
      subst ha1
      obtain ⟨vx, hx1, ix⟩ := du j (by simp; omega)
      have ex : ((insts T).map pairOf)[j]?.getD [] = pairOf (insts T)[j] := by simp [hjl]
      rw [ex] at ix
      obtain ⟨x, hx⟩ : ∃ x, x = (insts T)[j] := ⟨_, rfl⟩
      rw [← hx] at ix
      obtain ⟨bx, ox, cx, rfl, x0, x1⟩ := pair_at ix
      have gu := HX.out.cell hx1
      have hxm : x ∈ insts T := by rw [hx]; exact List.getElem_mem hjl
      have hcx := com_row HG.out (mem_insts.1 hxm)
      obtain ⟨p, q⟩ := x
      have HXX := Lib.hid hx
      have HXM := Lib.hid hxm
      have ks : ∀ V, Ext W V → Ext W V ∧ V.cell? ⟨w.heap.size, 0, none⟩ = some (.int .i64 n) ∧ V.cell? ⟨w.heap.size, 1, none⟩ = some (.slice au T.length cu) ∧ V.cell? ⟨bx, ox, none⟩ = some (.int .i64 p) ∧ V.cell? ⟨bx, ox + 1, none⟩ = some (.int .i64 ((q : Int) + 1)) := fun V hV => ⟨hV, hV.cell HB.out.1, hV.cell HB.out.2, hV.cell x0, hV.cell x1⟩
      have KS := Lib.hid ks
      have cD : ∀ V, Ext W V → Calls Tryz.prog 137 #[.agg #[.int .i64 n, .slice au T.length cu], .int .i64 p, .int .i64 ((q : Int) + 1)] V (NewIntss ((depsL n T (p, q)).map pairOf) V) := fun V hV => l6Deps_any n _ T p q _ (HU.out.ext (XW.out.trans hV)) HG.out hcx.2.2.1 hcx.2.2.2
      have CD := Lib.hid cD
      obtain ⟨P, hP⟩ : ∃ P, P = depsL n T (p, q) := ⟨_, rfl⟩
      have HP := Lib.hid hP
      clear du hx1 ix ex x0 x1 hx hxm hcx ks cD hP
      go_wp2_with fail
      go_region_held3 (fun V => Ext W V ∧ V.cell? ⟨w.heap.size, 0, none⟩ = some (.int .i64 n) ∧ V.cell? ⟨w.heap.size, 1, none⟩ = some (.slice au T.length cu) ∧ V.cell? ⟨bx, ox, none⟩ = some (.int .i64 p) ∧ V.cell? ⟨bx, ox + 1, none⟩ = some (.int .i64 ((q : Int) + 1))) (first | (with_reducible exact KS.out _ HX.out.drew) | (with_reducible exact KS.out _ SS.out)) (first | (go_at_call 137; refine (CD.out _ (And.left (by with_reducible assumption))).mono ?_; rintro e W3 ⟨vd, rfl, fd, x3⟩; obtain ⟨ad, kd, rfl⟩ := fd.form; have SS := Lib.hid (Ext.trans (And.left (by with_reducible assumption)) x3)))
      have x3' : Ext wr W3 := Ext.trans (Ext.drew (Ext.refl _)) x3
      rw [← HP.out] at fd ⊢
      have hid := fd.intss
      have HFW := Lib.hid (HF.out.ext x3')
      have HZ3 : Hid (W.heap.size ≤ W3.heap.size) := Lib.hid SS.out.size
      obtain ⟨ad', kd', hvd, hld, hcapd, hcd⟩ := hid
      rw [List.length_map] at hld hcapd hcd hvd
      simp only [Value.slice.injEq] at hvd
      obtain ⟨rfl, _, rfl⟩ := hvd
      obtain ⟨mp, hmp⟩ : ∃ mp, mp = P.length := ⟨_, rfl⟩
      rw [← hmp] at hld hcapd ⊢
      have HMP := Lib.hid hmp
      have HCD := Lib.hid hcd
      have hmp6 : mp ≤ 1000 := by
        rw [hmp, HP.out]
        have hcx := com_row HG.out (mem_insts.1 HXM.out)
        have hpT : p < T.length := hcx.2.2.1
        have h1 := depsTo_len (r := rowOf n T p q) (x := (p, q)) (fun k => by have := dep_in HG.out hpT q k; unfold depN; omega) (rowOf n T p q).l.length
        have h2 := rowOf_list HG.out hpT q
        show (depsTo (rowOf n T p q) (p, q) (rowOf n T p q).l.length).length ≤ 1000
        omega
      clear hmp hcd fd x3 x3' HF HX hcapd hld gu
      go_wp2
      go_loopw [8, 29] (fun l i wr => ∃ (t : Nat) (ls : List Int), t ≤ mp ∧ i = .int .i64 t ∧ Hid (Got (insts T) (P.take t) ls) ∧ Hid (Fresh W3.heap.size wr l ls) ∧ Hid (ls.length ≤ t) ∧ Hid (Ext W3 wr)) (fun _ i _ => mp - (intOf i).toNat)
      case atStart => exact ⟨0, [], Nat.zero_le _, rfl, Lib.hid (Got.nil _), Lib.hid (World.ownsRow_nil _ _ _ _), Lib.hid (Nat.le_refl _), Lib.hid (Ext.refl _)⟩
      case round =>
        obtain ⟨t, ls, ht, rfl, HGT, HL, HLN, HX⟩ := hrel
        by_cases htl : t < mp
        · have htp : t < P.length := by rw [← HMP.out]; exact htl
          obtain ⟨bd, od, had, dd⟩ := HCD.out (by omega)
          subst had
          obtain ⟨vy, hy1, iy⟩ := dd t htp
          have ey : (P.map pairOf)[t]?.getD [] = pairOf P[t] := by simp [htp]
          rw [ey] at iy
          have gy := HX.out.cell hy1
          have IY := Lib.hid (iy.ext HX.out)
          obtain ⟨by_, oy, cy, rfl, _, _⟩ := pair_at iy
          have htk : P.take (t + 1) = P.take t ++ [P[t]] := by rw [List.take_add_one, List.getElem?_eq_getElem htp]; rfl
          have HTK := Lib.hid htk
          clear dd hy1 iy ey htk
          go_wp2_with fail
          refine (l6Find_any _ _ _ (pairOf P[t]) _ (I1.out.ext (SS.out.trans HX.out)) IY.out).mono ?_
          rintro e w5 ⟨r, rfl, hf, x5⟩
          have X5 := Lib.hid (HX.out.trans x5)
          have L5 := Lib.hid (HL.out.ext x5)
          clear x5 gy IY HL HX
          rcases hf with ⟨k, rfl, hk, _⟩ | ⟨rfl, hno⟩
          · have hk0 : (0 : Int) ≤ (k : Int) := by omega
            have HGN := Lib.hid (HGT.out.put (insts_nodup T) hk)
            have hln : ls.length ≤ 1048576 := by have := HLN.out; omega
            have HLN2 : Hid ((putI ls k).length ≤ t + 1) := Lib.hid (by
              have h1 := HLN.out
              have := putI_mostG ls k
              omega)
            clear hk HGT
            go_wp2_with fail
            refine (l1Put_any _ ls k _ L5.out.ints hln).mono ?_
            rintro e w6 ⟨v6, rfl, x6, hv6⟩
            have L6 : Hid (Fresh W3.heap.size w6 v6 (putI ls k)) := Lib.hid (by
              rcases hv6 with ⟨rfl, h⟩ | h
              · rw [h]; exact L5.out.ext x6
              · exact h.more X5.out.size)
            have X6 := Lib.hid (X5.out.trans x6)
            clear x6 hv6 L5 X5
            go_wp2
            go_roundw
            case rel => exact ⟨t + 1, _, by omega, by go_num, Lib.hid (by rw [HTK.out]; exact HGN.out), L6, HLN2, X6⟩
            case measure => simp [intOf]; omega
          · have HGN := Lib.hid (HGT.out.none hno)
            have HLN2 : Hid (ls.length ≤ t + 1) := Lib.hid (by have := HLN.out; omega)
            clear hno HGT
            go_wp2
            go_roundw
            case rel => exact ⟨t + 1, _, by omega, by go_num, Lib.hid (by rw [HTK.out]; exact HGN.out), L5, HLN2, X5⟩
            case measure => simp [intOf]; omega
        · obtain rfl : t = mp := by omega
          have hrow : ls = rowE n T (insts T) (p, q) (insts T).length := got_row HG.out HXM.out (by
            have h := HGT.out
            rw [HMP.out, List.take_length, HP.out] at h
            exact h)
          have hnext : (graphP n T (insts T)).take (j + 1) = (graphP n T (insts T)).take j ++ [ls] := by
            have hgj : (graphP n T (insts T))[j]? = some ls := by
              unfold graphP
              rw [List.getElem?_map, List.getElem?_eq_getElem hjl, Option.map_some, ← HXX.out, ← hrow]
            rw [List.take_add_one, hgj]
            rfl
          have HNX := Lib.hid hnext
          have hf8 := HL.out
          obtain ⟨a8, k8, hv8⟩ := hf8.form
          have HL8 := Lib.hid hf8
          subst hv8
          have hll : ((graphP n T (insts T)).take j).length ≤ 1048576 := by
            have h1 := HSH.out
            rw [List.length_take]
            omega
          have HLL := Lib.hid hll
          have HXX3 := Lib.hid HX.out
          clear hrow hnext hf8 hll HL HGT HX HLN
          go_wp2_with (at_builtin; refine wpList_pushSS rfl _ _ rfl W.heap.size _ ((graphP n T (insts T)).take j) ls W3 rfl HFW.out (HXX3.out.alloc _) _ (HL8.out.ext (Ext.alloc1 _ _)) ⟨wr.heap.size, 0, none⟩ 1 rfl (by go_simp) rfl HLL.out HZ3.out ?_)
          intro v' w' f' k'
          have FF : Hid (FreshSS W.heap.size w' v' ((graphP n T (insts T)).take (j + 1))) := Lib.hid (by rw [HNX.out]; exact f')
          have XX : Hid (Ext W w') := Lib.hid (k' W ((SS.out.trans HXX3.out).alloc _) (Nat.le_refl _))
          clear f' k' HL8 HFW
          go_wp2
          go_roundw
          case rel => exact ⟨j + 1, by omega, by go_num, FF, XX⟩
          case measure => simp [intOf]; omega
    · obtain rfl : j = m := by omega
      have hgl : (graphP n T (insts T)).length = j := by unfold graphP; rw [List.length_map]; exact HM.out.symm
      have FE : Hid (FreshSS W.heap.size wr u5 (graphP n T (insts T))) := Lib.hid (by
        have h := HF.out
        rwa [← hgl, List.take_length] at h)
      have FV := Lib.hid F1.out
      clear HF hgl
      go_wp2
      go_ret2
      refine ⟨_, _, W, rfl, ?_, XW.out, FE.out, HX.out⟩
      have h := FV.out
      rw [List.length_map, ← HM.out] at h
      exact h
end Go.Proofs.YtcpmfcigciknlaaGreat

namespace Go.Proofs.YtcpmfcigciknlaaGreat
open Go.RowKit
set_option linter.unusedVariables false
noncomputable def lesR (n : Int) (T : List (List RowD)) (k j p q : Nat) : RowD := if (p < k ∨ (p = k ∧ q < j)) ∧ readyB n T p q = false then emptyR n else rowOf n T p q
noncomputable def lesL (n : Int) (T : List (List RowD)) (k j p : Nat) : List RowD := (List.range (T[p]?.getD []).length).map (lesR n T k j p)
noncomputable def lesT (n : Int) (T : List (List RowD)) (k j : Nat) : List (List RowD) := (List.range T.length).map (lesL n T k j)
theorem lesT_len (n : Int) (T : List (List RowD)) (k j : Nat) : (lesT n T k j).length = T.length := by simp [lesT]
theorem lesT_at {n : Int} {T : List (List RowD)} {p : Nat} (hp : p < T.length) (k j : Nat) : (lesT n T k j)[p]? = some (lesL n T k j p) := by simp [lesT, hp]
theorem lesL_len {n : Int} {T : List (List RowD)} {p : Nat} (hp : p < T.length) (k j : Nat) : (lesL n T k j p).length = T[p].length := by simp [lesL, List.getElem?_eq_getElem hp]
theorem lesL_at {n : Int} {T : List (List RowD)} {p q : Nat} (hp : p < T.length) (hq : q < T[p].length) (k j : Nat) : (lesL n T k j p)[q]? = some (lesR n T k j p q) := by
  unfold lesL
  rw [List.getElem?_eq_getElem hp, Option.getD_some, List.getElem?_map, List.getElem?_range hq]
  rfl
theorem lesT_zero (n : Int) (T : List (List RowD)) : lesT n T 0 0 = T := by
  refine List.ext_getElem? fun p => ?_
  by_cases hp : p < T.length
  · rw [lesT_at hp, List.getElem?_eq_getElem hp]
    congr 1
    refine List.ext_getElem? fun q => ?_
    by_cases hq : q < T[p].length
    · rw [lesL_at hp hq, List.getElem?_eq_getElem hq]
      congr 1
      unfold lesR
      rw [if_neg (by omega), rowOf_in hp hq]
    · rw [List.getElem?_eq_none (by rw [lesL_len hp]; omega), List.getElem?_eq_none (by omega)]
  · rw [List.getElem?_eq_none (by rw [lesT_len]; omega), List.getElem?_eq_none (by omega)]
theorem lesR_eq {n : Int} {T : List (List RowD)} {k j k' j' p q : Nat} (h : (p < k ∨ (p = k ∧ q < j)) ↔ (p < k' ∨ (p = k' ∧ q < j'))) : lesR n T k j p q = lesR n T k' j' p q := by
  unfold lesR
  simp only [h]
theorem lesT_ext {n : Int} {T : List (List RowD)} {k j k' j' : Nat} (h : ∀ p q, (hp : p < T.length) → q < T[p].length → lesR n T k j p q = lesR n T k' j' p q) : lesT n T k j = lesT n T k' j' := by
  unfold lesT
  refine List.map_congr_left fun p hp => ?_
  have hp := List.mem_range.1 hp
  unfold lesL
  refine List.map_congr_left fun q hq => ?_
  have hq := List.mem_range.1 hq
  rw [List.getElem?_eq_getElem hp, Option.getD_some] at hq
  exact h p q hp hq
theorem lesT_row {n : Int} {T : List (List RowD)} {k : Nat} (hk : k < T.length) : lesT n T k T[k].length = lesT n T (k + 1) 0 :=
  lesT_ext fun p q hp hq => by
    unfold lesR
    have e : (p < k ∨ (p = k ∧ q < T[k].length)) ↔ (p < k + 1 ∨ (p = k + 1 ∧ q < 0)) := by
      constructor
      · rintro (h | ⟨h, _⟩)
        · exact .inl (by omega)
        · exact .inl (by omega)
      · rintro (h | ⟨_, h⟩)
        · by_cases e : p = k
          · subst e; exact .inr ⟨rfl, hq⟩
          · exact .inl (by omega)
        · omega
    simp only [e]
theorem lesT_all (n : Int) (T : List (List RowD)) : lesT n T T.length 0 = lessT n T := by
  unfold lesT lessT
  refine List.map_congr_left fun p hp => ?_
  have hp := List.mem_range.1 hp
  unfold lesL lessR
  refine List.map_congr_left fun q hq => ?_
  unfold lesR
  cases e : readyB n T p q with
  | true => simp
  | false => simp [hp]
theorem lesT_keep {n : Int} {T : List (List RowD)} {k j : Nat} (h : readyB n T k j = true) : lesT n T k j = lesT n T k (j + 1) :=
  lesT_ext fun p q hp hq => by
    unfold lesR
    by_cases e : p = k ∧ q = j
    · obtain ⟨rfl, rfl⟩ := e
      rw [if_neg (by rw [h]; simp), if_neg (by rw [h]; simp)]
    · have e' : (p < k ∨ (p = k ∧ q < j)) ↔ (p < k ∨ (p = k ∧ q < j + 1)) := by omega
      simp only [e']
theorem lesT_put {n : Int} {T : List (List RowD)} {k j : Nat} (hk : k < T.length) (hj : j < T[k].length) (h : readyB n T k j = false) : (lesT n T k j).set k ((lesL n T k j k).set j (emptyR n)) = lesT n T k (j + 1) := by
  refine List.ext_getElem? fun p => ?_
  by_cases hp : p < T.length
  · rw [List.getElem?_set, lesT_len, lesT_at hp, lesT_at hp]
    by_cases e : k = p
    · subst e
      rw [if_pos rfl, if_pos hk]
      congr 1
      refine List.ext_getElem? fun q => ?_
      by_cases hq : q < T[k].length
      · rw [List.getElem?_set, lesL_len hk, lesL_at hk hq, lesL_at hk hq]
        by_cases e : j = q
        · subst e
          rw [if_pos rfl, if_pos hj]
          congr 1
          unfold lesR
          rw [if_pos ⟨.inr ⟨rfl, by omega⟩, h⟩]
        · rw [if_neg e]
          congr 1
          exact lesR_eq (by omega)
      · rw [List.getElem?_eq_none (by rw [List.length_set, lesL_len hk]; omega), List.getElem?_eq_none (by rw [lesL_len hk]; omega)]
    · rw [if_neg e]
      congr 1
      unfold lesL
      refine List.map_congr_left fun q _ => ?_
      exact lesR_eq (by omega)
  · rw [List.getElem?_eq_none (by rw [List.length_set, lesT_len]; omega), List.getElem?_eq_none (by rw [lesT_len]; omega)]
theorem find_ready {n : Int} {T : List (List RowD)} (p q : Nat) : findI ((readyL n T).map pairOf) (pairOf (p, q)) < 0 ↔ readyB n T p q = false := by
  have hm : pairOf (p, q) ∈ (readyL n T).map pairOf ↔ readyB n T p q = true := by
    constructor
    · intro h
      obtain ⟨y, hy, e⟩ := List.mem_map.1 h
      rw [pairOf_inj e] at hy
      exact mem_readyL.1 hy
    · intro h
      exact List.mem_map_of_mem (mem_readyL.2 h)
  unfold findI
  by_cases h : pairOf (p, q) ∈ (readyL n T).map pairOf
  · rw [if_pos h]
    have := hm.1 h
    constructor
    · intro h'; omega
    · intro h'; rw [h'] at this; cases this
  · rw [if_neg h]
    have : readyB n T p q ≠ true := fun e => h (hm.2 e)
    constructor
    · intro _; simpa using this
    · intro _; decide
end Go.Proofs.YtcpmfcigciknlaaGreat

namespace Go.Proofs.YtcpmfcigciknlaaGreat
open Go.RowKit
set_option linter.unusedVariables false
theorem FiveAt.ext {w w' : World} {b : Nat} {x0 x1 x2 x3 x4 : Int} (h : FiveAt w b x0 x1 x2 x3 x4) (e : Ext w w') : FiveAt w' b x0 x1 x2 x3 x4 := e.block h
end Go.Proofs.YtcpmfcigciknlaaGreat

namespace Go.Proofs.YtcpmfcigciknlaaGreat
open Go.RowKit
set_option linter.unusedVariables false
def Attrs (w : World) (v : Value) (A : List (Int × List Int)) : Prop :=
  ∃ ao cap, v = .slice ao A.length cap ∧ A.length ≤ maxLen ∧ (A.length ≤ cap ∧ cap ≤ maxLen ∧ (ao = none → cap = 0)) ∧
    (0 < A.length → ∃ b off, ao = some ⟨b, off, none⟩ ∧ ∀ j (h : j < A.length), ∃ u, w.cell? ⟨b, off + j * 2, none⟩ = some (.int .i64 A[j].1) ∧ w.cell? ⟨b, off + j * 2 + 1, none⟩ = some u ∧ Ints w u A[j].2)
theorem Attrs.ext {w w' : World} {v : Value} {A : List (Int × List Int)} (h : Attrs w v A) (e : Ext w w') : Attrs w' v A := by
  obtain ⟨ao, cap, hv, hm, hcap, hc⟩ := h
  refine ⟨ao, cap, hv, hm, hcap, fun hp => ?_⟩
  obtain ⟨b, off, ha, hc⟩ := hc hp
  refine ⟨b, off, ha, fun j hj => ?_⟩
  obtain ⟨u, h1, h2, h3⟩ := hc j hj
  exact ⟨u, e.cell h1, e.cell h2, h3.ext e⟩
end Go.Proofs.YtcpmfcigciknlaaGreat
