/- Texts of this proof, part o: words, plain facts, contracts. -/
import Derived.Test.YtcpmfcigciknlaaGreatNBookOfg
import Derived.Test.YtcpmfcigciknlaaGreatNBookOfh
import Derived.Test.YtcpmfcigciknlaaGreatNBookOfm
import Derived.Test.YtcpmfcigciknlaaGreatNBookOfn
import Derived.Test.YtcpmfcigciknlaaGreatNBookOfa
import Derived.Deep.RegionHeld3
import Derived.Test.YtcpmfcigciknlaaGreatNBookOfi
import Derived.Test.YtcpmfcigciknlaaGreatNBookOfe
import Derived.Test.YtcpmfcigciknlaaGreatShelf
set_option linter.unusedVariables false
set_option linter.unusedSimpArgs false

namespace Go.Proofs.YtcpmfcigciknlaaGreat
open Go.RowKit Go.Sort Go.Shelf
set_option linter.unusedVariables false
theorem cmpL_cons (x y : Int) (s t : List Int) : cmpL (x :: s) (y :: t) = if x < y then -1 else if y < x then 1 else cmpL s t := by
  simp only [cmpL, cmpI]
  by_cases h1 : x < y
  · simp [h1]
  · by_cases h2 : y < x
    · simp [h1, h2]
    · simp [h1, h2]
theorem cmpL_irrefl : ∀ l, ¬ cmpL l l < 0
  | [] => by simp [cmpL]
  | x :: s => by
    rw [cmpL_cons]
    simp
    have := cmpL_irrefl s
    omega
theorem cmpL_trans : ∀ a b c, cmpL a b < 0 → cmpL b c < 0 → cmpL a c < 0
  | [], [], c, h, _ => by simp [cmpL] at h
  | _ :: _, [], c, h, _ => by simp [cmpL] at h
  | a, _ :: _, [], _, k => by simp [cmpL] at k
  | [], _ :: _, _ :: _, _, _ => by simp [cmpL]
  | x :: s, y :: t, z :: u, h, k => by
    rw [cmpL_cons] at h k ⊢
    by_cases h1 : x < y
    · by_cases h2 : y < z
      · rw [if_pos (by omega)]; omega
      · by_cases h3 : z < y
        · rw [if_neg h2, if_pos h3] at k; omega
        · rw [if_pos (by omega)]; omega
    · by_cases h4 : y < x
      · rw [if_neg h1, if_pos h4] at h; omega
      · rw [if_neg h1, if_neg h4] at h
        by_cases h2 : y < z
        · rw [if_pos (by omega)]; omega
        · by_cases h3 : z < y
          · rw [if_neg h2, if_pos h3] at k; omega
          · rw [if_neg h2, if_neg h3] at k
            rw [if_neg (by omega), if_neg (by omega)]
            exact cmpL_trans s t u h k
theorem cmpL_ntrans : ∀ a b c, ¬ cmpL a b < 0 → ¬ cmpL b c < 0 → ¬ cmpL a c < 0
  | [], [], c, _, k => k
  | _ :: _, [], [], _, _ => by simp [cmpL]
  | _ :: _, [], _ :: _, _, k => by simp [cmpL] at k
  | [], _ :: _, c, h, _ => by simp [cmpL] at h
  | _ :: _, _ :: _, [], _, _ => by simp [cmpL]
  | x :: s, y :: t, z :: u, h, k => by
    rw [cmpL_cons] at h k ⊢
    by_cases h1 : x < y
    · rw [if_pos h1] at h; omega
    · by_cases h2 : y < z
      · rw [if_pos h2] at k; omega
      · rw [if_neg (by omega)]
        by_cases h4 : z < x
        · rw [if_pos h4]; omega
        · rw [if_neg h4]
          rw [if_neg h1, if_neg (by omega)] at h
          rw [if_neg h2, if_neg (by omega)] at k
          exact cmpL_ntrans s t u h k
def encV (VS : List Value) (i : Nat) : Value := VS[i]?.getD (.slice none 0 0)
def cfL (L : List (List Int)) (i j : Nat) : Int := cmpL (L[i]?.getD []) (L[j]?.getD [])
theorem cfL_swo (L : List (List Int)) : SWO (Go.Proofs.ltOf (cfL L)) where
  irrefl x := by unfold Go.Proofs.ltOf cfL; rw [decide_eq_false_iff_not]; exact cmpL_irrefl _
  trans x y z h k := by
    unfold Go.Proofs.ltOf cfL at *
    rw [decide_eq_true_iff] at *
    exact cmpL_trans _ _ _ h k
  ntrans x y z h k := by
    unfold Go.Proofs.ltOf cfL at *
    rw [decide_eq_false_iff_not] at *
    exact cmpL_ntrans _ _ _ h k
theorem pickV_eq (VS : List Value) (is : List Nat) : is.map (encV VS) = pickV VS is := rfl
theorem pickV_range (VS : List Value) : pickV VS (List.range VS.length) = VS := by
  unfold pickV
  apply List.ext_getElem (by simp)
  intro i h1 h2
  simp [h2]
theorem Rows_.encInts {B g : Nat} {w w' : World} {VS : List Value} {L : List (List Int)} (h : Rows_ B w VS L) (t : w.grownBy w' (some g)) (ha : ∀ (j : Nat) (u : Value), VS[j]? = some u → u.ownBlock = none ∨ u.ownBlock ≠ some g) (i : Nat) : Ints w' (encV VS i) (L[i]?.getD []) := by
  have h2 := h.touch (blk := some g) t ha
  by_cases hi : i < L.length
  · exact h2.ints hi
  · unfold encV
    rw [List.getElem?_eq_none (by rw [h.len]; omega), List.getElem?_eq_none (by omega)]
    exact Ints.nil w'
def SortedGroups (B : Nat) (v : Value) (VS : List Value) (L : List (List Int)) (w : World) (e : Ending) (w' : World) : Prop :=
  (∃ r, e = .returned r) ∧ ∃ is : List Nat, is.Perm (List.range VS.length) ∧ (pickL L is).Pairwise (fun G H => ¬ cmpL H G < 0) ∧ FreshV B w' v (pickV VS is) ∧ w.grownBy w' v.ownBlock
theorem sortGroups_any (B B2 : Nat) (v : Value) (VS : List Value) (L : List (List Int)) (w : World) (hv : FreshV B w v VS) (hR : Rows_ B2 w VS L) (hl : VS.length ≤ 1048576) :
    Calls Tryz.prog 193 #[v, .func (.func 194) #[] #[]] w (SortedGroups B v VS L w) := by
  have hv0 : w.ownsRow B 26 1 v VS.length VS := hv
  rcases hv.2 with ⟨rfl, h0⟩ | ⟨g, cap, cur, rfl, hb, hg, _⟩
  · refine (Tryz.slices_SortFunc_none_f193 (α := Nat) none 0 _ w).mono ?_
    rintro e w' ⟨rfl, rfl⟩
    have hn : VS = [] := List.eq_nil_of_length_eq_zero h0
    subst hn
    refine ⟨⟨_, rfl⟩, [], by simp, by simp [pickL], FreshV.nil _ _, ⟨rfl, rfl, rfl, Nat.le_refl _, fun _ _ _ => rfl⟩⟩
  · have hap : ∀ (j : Nat) (u : Value), VS[j]? = some u → u.ownBlock = none ∨ u.ownBlock ≠ some g := fun j u hu => by
      have hj : j < VS.length := (List.getElem?_eq_some_iff.1 hu).1
      have := types_apart hv0 (hR.row j u _ hu (List.getElem?_eq_getElem (by rw [← hR.len]; exact hj))) (by decide)
      exact this
    have hmap : (List.range VS.length).map (encV VS) = VS := by rw [pickV_eq, pickV_range]
    have hH : Holds (encV VS) w g 0 (List.range VS.length).toArray := holds_of_own (encV VS) (by rw [hmap]; exact hv0) (by simp)
    have hgw : g < w.heap.size := (Array.getElem?_eq_some_iff.1 hg).1
    have hsz : (List.range VS.length).toArray.size = VS.length := by simp
    have h1 : Go.Proofs.OneCell (encV VS) := fun i => hR.one i
    have hcmp : Go.Proofs.CmpLays1 Tryz.prog 194 #[] (encV VS) (cfL L) g 0 (List.range VS.length).toArray.size w := by
      intro m os dk _ x y
      have ht : w.grownBy (sortWorld (encV VS) w g 0 m dk os) (some g) := grown_put (encV VS) dk
      refine (compare_any _ _ _ _ _ (hR.encInts ht hap x) (hR.encInts ht hap y)).mono ?_
      rintro e w' ⟨rfl, rfl⟩
      exact ⟨rfl, 0, #[], by rw [grow_empty]; rfl⟩
    have hc := Tryz.slices_SortFunc_f193 (encV VS) h1 (cfL L) (cfL_swo L) 194 #[] g 0 cap (List.range VS.length).toArray w (enters_of Tryz.func194 (by kernel_rfl) rfl) hcmp hH hgw (by rw [hsz]; omega)
    rw [hsz] at hc
    refine hc.mono ?_
    rintro e w' ⟨rfl, d', n, os, hp, hs, rfl⟩
    have hd : d'.toList.length = VS.length := by rw [Array.length_toList, hp.1, hsz]
    have hds : d'.size = VS.length := by rw [hp.1, hsz]
    have hperm : d'.toList.Perm (List.range VS.length) := by
      have h := hp.2.2
      have e1 : d'.extract 0 VS.length = d' := by rw [← hds]; simp
      have e2 : ((List.range VS.length).toArray.extract 0 VS.length) = (List.range VS.length).toArray := by
        have := Array.extract_size (xs := (List.range VS.length).toArray)
        rwa [hsz] at this
      rw [e1, e2] at h
      simpa using h
    refine ⟨⟨_, rfl⟩, d'.toList, hperm, ?_, ?_, grown_put (encV VS) d'⟩
    · rw [List.pairwise_iff_getElem]
      intro i j hi hj hij
      rw [pickL_len, hd] at hi hj
      have h := hs i j (Nat.zero_le _) hij hj
      unfold Go.Proofs.ltOf cfL at h
      rw [decide_eq_false_iff_not] at h
      have ei : d'[i]! = d'.toList[i]'(by rw [hd]; exact hi) := by simp [show i < d'.size by omega]
      have ej : d'[j]! = d'.toList[j]'(by rw [hd]; exact hj) := by simp [show j < d'.size by omega]
      rw [ei, ej] at h
      have gi : ∀ (k : Nat) (hk : k < (pickL L d'.toList).length) (hk2 : k < d'.toList.length), (pickL L d'.toList)[k] = L[d'.toList[k]]?.getD [] := fun k hk hk2 => by
        have := pickL_at (L := L) (is := d'.toList) (k := k) (i := d'.toList[k]) (List.getElem?_eq_getElem hk2)
        rw [List.getElem?_eq_getElem hk] at this
        exact Option.some.inj this
      rw [gi i (by rw [pickL_len, hd]; exact hi) (by rw [hd]; exact hi), gi j (by rw [pickL_len, hd]; exact hj) (by rw [hd]; exact hj)]
      exact h
    · have := own_put (encV VS) (m := n) (os := os) (ts := d'.toList) hv0 hd
      unfold FreshV
      rw [pickV_len, hd, ← pickV_eq]
      have e3 : d'.toList.toArray = d' := by simp
      rw [e3] at this
      exact this
end Go.Proofs.YtcpmfcigciknlaaGreat

namespace Go.Proofs.YtcpmfcigciknlaaGreat
open Go.RowKit Go.Sort Go.Shelf
set_option linter.unusedVariables false
theorem ownsRow_less {w : World} {B e n k cap : Nat} {ao : Option Addr} {xs : List Value} (h : w.ownsRow B e 1 (.slice ao n cap) n xs) (hk : k ≤ n) : w.ownsRow B e 1 (.slice ao k cap) k (xs.take k) := by
  have hx := h.1
  refine ⟨by rw [List.length_take]; omega, ?_⟩
  rcases h.2 with ⟨hv, hn⟩ | ⟨g, cap', cur, hv, hb, hg, hnc, hcm, hcs, ht⟩
  · left
    simp only [Value.slice.injEq] at hv
    obtain ⟨rfl, _, rfl⟩ := hv
    have : k = 0 := by omega
    subst this
    exact ⟨rfl, rfl⟩
  · right
    simp only [Value.slice.injEq] at hv
    obtain ⟨rfl, _, rfl⟩ := hv
    refine ⟨g, cap, cur, rfl, hb, hg, by omega, hcm, hcs, ?_⟩
    rw [← ht, List.take_take]
    congr 1
    omega
theorem delete_any (B : Nat) (v : Value) (VS : List Value) (is : List Nat) (n k : Nat) (w : World) (hv : FreshV B w v (pickV VS is)) (hn : is.length = n) (hk : k < n) (h1 : ∀ i, (encV VS i).oneCell' = true) :
    Calls Tryz.prog 198 #[v, .int .i64 (k : Int), .int .i64 ((k : Int) + 1)] w (fun e w' => ∃ g cap, v = .slice (some ⟨g, 0, none⟩) n cap ∧ e = .returned (.slice (some ⟨g, 0, none⟩) (n - 1) cap) ∧ FreshV B w' (.slice (some ⟨g, 0, none⟩) (n - 1) cap) (pickV VS (is.eraseIdx k)) ∧ w.grownBy w' v.ownBlock) := by
  have hlen : (pickV VS is).length = n := by rw [pickV_len]; exact hn
  obtain ⟨g, cap, rfl, hc1, hc2⟩ := hv.form (n := n) hlen (by omega)
  unfold maxLen at hc2
  have hv0 : w.ownsRow B 26 1 (.slice (some ⟨g, 0, none⟩) n cap) n (is.map (encV VS)) := by
    have h : w.ownsRow B 26 1 (.slice (some ⟨g, 0, none⟩) n cap) (pickV VS is).length (pickV VS is) := hv
    rw [hlen] at h
    exact h
  obtain ⟨i0, hi, _, hz1, _⟩ := info_parts Tryz.infoInts
  have hH := holds_of_own (encV VS) hv0 hn
  have hz : ∀ w, (zeroValue 26).run Tryz.prog w = .ok (encV VS VS.length) w := fun w => by
    have := Tryz.zeroValue26 w
    have e : encV VS VS.length = .slice none 0 0 := by unfold encV; rw [List.getElem?_eq_none (Nat.le_refl _)]; rfl
    rw [e]; exact this
  have hsz : is.toArray.size = n := by simp [hn]
  have hd := AnyE.slices_Delete Tryz.lDel (encV VS) h1 VS.length hz i0 hi hz1 g 0 cap k (k + 1) is.toArray w hH (by rw [hsz]; exact hc1) (by omega) (by omega) (by rw [hsz]; omega)
  rw [hsz] at hd
  have e1 : n - (k + 1 - k) = n - 1 := by omega
  have e2 : k + 1 - k = 1 := by omega
  rw [e1, e2] at hd
  have e3 : ((k + 1 : Nat) : Int) = (k : Int) + 1 := by omega
  rw [e3] at hd
  refine hd.mono ?_
  rintro e w' ⟨rfl, q, rfl⟩
  have hg0 : putRow (encV VS) (Sort.ahead w q) g 0 (is.toArray.toList.take k ++ is.toArray.toList.drop (k + 1) ++ List.replicate 1 VS.length).toArray = grow (putRow (encV VS) (Sort.ahead w q) g 0 (is.take k ++ is.drop (k + 1) ++ [VS.length]).toArray) #[] := by
    rw [grow_empty]; rfl
  rw [hg0]
  have hl2 : (is.take k ++ is.drop (k + 1) ++ [VS.length]).length = n := by simp; omega
  have ho := own_put (encV VS) (m := q) (os := #[]) hv0 hl2
  have hless := ownsRow_less (k := n - 1) ho (by omega)
  refine ⟨g, cap, rfl, rfl, ?_, grown_put (encV VS) _⟩
  have e4 : ((is.take k ++ is.drop (k + 1) ++ [VS.length]).map (encV VS)).take (n - 1) = pickV VS (is.eraseIdx k) := by
    rw [pickV_erase, List.map_append, List.map_append, List.map_take, List.map_drop, pickV_eq]
    have h5 : ((pickV VS is).take k ++ (pickV VS is).drop (k + 1)).length = n - 1 := by
      rw [List.length_append, List.length_take, List.length_drop, hlen]; omega
    rw [← h5, List.take_left]
  rw [e4] at hless
  unfold FreshV
  have h6 : (pickV VS (is.eraseIdx k)).length = n - 1 := by
    rw [pickV_len, List.length_eraseIdx, hn]; simp [hk]
  rw [h6]
  exact hless
theorem own_not {w : World} {B e n b : Nat} {v : Value} {xs : List Value} {cs : Array Value} {T : TypeId} {fr : Nat × Nat} (h : w.ownsRow B e 1 v n xs) (hb : w.heap[b]? = some (.cells cs T fr)) (hne : e ≠ T) : v.ownBlock ≠ some b := by
  intro hv
  rcases h.2 with ⟨rfl, _⟩ | ⟨g, cap, cur, rfl, _, hg, _⟩
  · simp [Value.ownBlock] at hv
  · simp [Value.ownBlock] at hv
    subst hv
    rw [hg] at hb
    simp only [Option.some.injEq, Obj.cells.injEq] at hb
    exact hne hb.2.1
theorem pickC_spec {g LL : List (List Int)} {k : Nat} (h : pickC g LL = some k) : freeB g LL k = true ∧ ∀ j, j < k → freeB g LL j = false := by
  unfold pickC at h
  have := List.find?_range_eq_some.1 h
  refine ⟨this.1, fun j hj => ?_⟩
  have := this.2.2 j hj
  simpa using this
end Go.Proofs.YtcpmfcigciknlaaGreat

namespace Go.Proofs.YtcpmfcigciknlaaGreat
open Go.RowKit
set_option linter.unusedVariables false
theorem tbOf_none (q : Nat) : tbOf (List.replicate 40 false) q = false := by
  unfold tbOf
  cases h : (List.replicate 40 false)[q]? with
  | none => rfl
  | some b => exact List.eq_of_mem_replicate (List.mem_of_getElem? h)
theorem tbOf_set {bs : List Bool} {p : Nat} (hp : p < bs.length) (q : Nat) : tbOf (bs.set p true) q = (tbOf bs q || decide (q = p)) := by
  unfold tbOf
  rw [List.getElem?_set]
  by_cases e : p = q
  · subst e; simp [hp]
  · have e2 : decide (q = p) = false := by simp; omega
    rw [if_neg e, e2, Bool.or_false]
theorem grown_trans {w a b : World} {r : Option Nat} (h : w.grownBy a r) (k : a.grownBy b r) : w.grownBy b r :=
  ⟨k.os.trans h.os, k.tape.trans h.tape, k.output.trans h.output, Nat.le_trans h.size k.size, fun q hq hne => (k.block q (Nat.lt_of_lt_of_le hq h.size) hne).trans (h.block q hq hne)⟩
theorem grown_refl (w : World) (r : Option Nat) : w.grownBy w r := ⟨rfl, rfl, rfl, Nat.le_refl _, fun _ _ _ => rfl⟩
theorem Ext.grown {w0 w w' : World} {r : Option Nat} (h : Ext w0 w) (t : w.grownBy w' r) (hr : ∀ b, r = some b → w0.heap.size ≤ b) : Ext w0 w' := Below.grown h t h.size hr
theorem wpList_pushV_lies {ops : Array Oper} {rest : List Oper} {o : Oper} {a : Act} {Q : Exit → Act → World → Prop} {w : World} (hgd : o.guard = none) (s x : Operand)
    (ho : o.op = .call { callee := .builtin .append, args := #[s, x], argTypes := #[63, 63] })
    (B : Nat) (v : Value) (vs : List Value) (hs : a.eval s = v) (hf : FreshV B w v vs) (u : Value) (ad : Addr) (c : Nat) (hx : a.eval x = .slice (some ad) 1 c)
    (hc : w.cell? ad = some u) (h1 : u.oneCell' = true) (hl : vs.length ≤ 1048576) (hB : B ≤ w.heap.size) (H : Nat) (hH : w.heap.size = H)
    (h : ∀ g cap w', FreshV B w' (.slice (some ⟨g, 0, none⟩) (vs.length + 1) cap) (vs ++ [u]) → w.grownBy w' v.ownBlock → (v.ownBlock = some g ∨ g = H) → wpList Tryz.prog ops Q rest (a.put o.dst (.slice (some ⟨g, 0, none⟩) (vs.length + 1) cap)) w') : wpList Tryz.prog ops Q (o :: rest) a w := by
  obtain ⟨i0, hi, hz0, hz1, hz2⟩ := info_parts Tryz.infoInts
  refine wpList_append_lies w hgd s x 63 ho B 26 i0 (.slice none 0 0) 1 24 Tryz.underlying63 hi hz0 hz1 hz2 rfl (by decide) v vs.length _ hs hf ad 1 c [u] hx rfl ?_ ?_ (by decide) ?_ ?_ hB H hH ?_
  · intro j z hj
    match j, hj with
    | 0, hj => simp at hj; subst hj; simpa [Addr.add] using hc
  · intro z hz; simp at hz; subst hz; exact h1
  · unfold maxLen; omega
  · omega
  · intro g cap w' ho' hg hat _
    refine h g cap w' ?_ hg hat
    unfold FreshV
    rw [List.length_append]; exact ho'
structure TurnS (g : List (List Int)) (VS : List Value) (B b1 b2 : Nat) (gv : Value) (w : World) (isO isL : List Nat) (vl vo : Value) (bs : List Bool) (wr : World) : Prop where
  comp : CompS g isO isL
  left : FreshV B wr vl (pickV VS isL)
  out : FreshV B wr vo (pickV VS isO)
  rows : Rows_ B wr VS (groupsL g)
  size : bs.length = 40
  marks : wr.heap[b2]? = some (.cells (marksB bs) 255 (0, 0))
  told : GMarks g (pickL (groupsL g) isL) (tbOf bs)
  box : wr.cell? ⟨b1, 0, none⟩ = some gv
  ext : Ext w wr
  apart : ∀ b, vl.ownBlock = some b → vo.ownBlock ≠ some b
  high : B ≤ wr.heap.size
set_option maxRecDepth 100000 in
set_option maxHeartbeats 8000000 in
theorem groupsInTurn_any (g : List (List Int)) (hg : rowsB g = true) (hl : g.length ≤ 40) (gv : Value) (w : World) (hgv : Intss w gv g) :
    Calls Tryz.prog 150 #[gv] w (NewSS (compsL g) w) := by
  have HGV := Lib.hid hgv
  obtain ⟨av, cv, rfl, hlv, _, _⟩ := hgv
  unfold maxLen at hlv
  have HG := Lib.hid hg
  clear hg
  go_enter Tryz.func150, Tryz.ntmps150
  have hxa : Ext w (w.alloc (.cells #[.slice av g.length cv] 63)) := Ext.alloc (Ext.refl _) _
  have hca := cell_alloc_one w (.slice av g.length cv) 63
  have HXA := Lib.hid hxa
  have HCA := Lib.hid hca
  clear hxa hca
  go_wp2_with fail
  refine (groupsOf_any sortOk g HG.out hl _ _ (HGV.out.ext HXA.out)).mono ?_
  rintro e w2 ⟨v2, VS0, L, rfl, f2, r2, x2, t2⟩
  have hVL : VS0.length ≤ 1048576 := by have := r2.len; have := t2.len; omega
  have F2 := Lib.hid f2
  have R2 := Lib.hid r2
  have X2 := Lib.hid x2
  have T2 := Lib.hid t2
  clear f2 r2 x2 t2
  go_wp2_with fail
  refine (sortGroups_any _ _ _ VS0 L _ F2.out R2.out hVL).mono ?_
  rintro e w3 ⟨⟨r, rfl⟩, is0, hp0, hs0, f3, g3⟩
  obtain ⟨B, hB⟩ : ∃ B, B = (w.alloc (.cells #[.slice av g.length cv] 63)).heap.size := ⟨_, rfl⟩
  have hB2 : B = w.heap.size + 1 := by rw [hB]; simp
  have hX2 := X2.out
  have hF2 := F2.out
  have hR2 := R2.out
  rw [← hB] at f3 hF2 hR2
  have hv20 : w2.ownsRow B 26 1 v2 VS0.length VS0 := hF2
  have hn0 : is0.Nodup := hp0.nodup_iff.2 List.nodup_range
  have hb0 : ∀ i ∈ is0, i < VS0.length := fun i hi => List.mem_range.1 (hp0.mem_iff.1 hi)
  have hR3 : Rows_ B w3 VS0 L := hR2.touch g3 (fun j u hu => types_apart hv20 (hR2.row j u _ hu (List.getElem?_eq_getElem (by rw [← hR2.len]; exact (List.getElem?_eq_some_iff.1 hu).1))) (by decide))
  have hR3' := hR3.pick is0 hn0 hb0
  have hLg : pickL L is0 = groupsL g := by
    refine sorted_groups HG.out T2.out ?_ hs0
    have h1 : (pickL L is0).Perm (pickL L (List.range L.length)) := (hp0.trans (by rw [hR2.len])).map _
    rw [pickL_range] at h1
    exact h1
  obtain ⟨VS, hVS⟩ : ∃ VS, VS = pickV VS0 is0 := ⟨_, rfl⟩
  have hRows : Rows_ B w3 VS (groupsL g) := by rw [hVS, ← hLg]; exact hR3'
  have hE3 : Ext w w3 := Below.grown (HXA.out.trans hX2) g3 (HXA.out.trans hX2).size (fun k hk => by have := (World.ownsRow.lt hF2 k hk).1; omega)
  have hbox3 : w3.cell? ⟨w.heap.size, 0, none⟩ = some (.slice av g.length cv) := by
    have h1 := hX2.cell HCA.out
    have hne : v2.ownBlock ≠ some w.heap.size := fun e => by have := (World.ownsRow.lt hF2 _ e).1; omega
    exact g3.cell h1 (fun e => hne e.symm)
  have hs3 : B ≤ w3.heap.size := by have := hE3.size; have := g3.size; have := hX2.size; rw [← hB] at this; omega
  rw [← hVS] at f3
  have F3 := Lib.hid f3
  have R3 := Lib.hid hRows
  have E3 := Lib.hid hE3
  have BX3 := Lib.hid hbox3
  have S3 := Lib.hid hs3
  clear f3 g3 hX2 hF2 hR2 hv20 hn0 hb0 hR3 hR3' hLg hRows hE3 hbox3 hs3 hB hs0 hp0 hVS F2 R2 X2 T2 hVL HXA HCA
  go_wp2
  change Code.wp _ _ _ _ (w3.alloc (.cells (marksB (List.replicate 40 false)) 255))
  obtain ⟨W4, hW4⟩ : ∃ W4, W4 = w3.alloc (.cells (marksB (List.replicate 40 false)) 255) := ⟨_, rfl⟩
  rw [← hW4]
  obtain ⟨b2, hb2⟩ : ∃ b2, b2 = w3.heap.size := ⟨_, rfl⟩
  rw [← hb2]
  have x4 : Ext w3 W4 := by rw [hW4]; exact Ext.alloc (Ext.refl _) _
  obtain ⟨ao0, co0, hv0⟩ := F3.out.len
  have hVl : VS.length = (groupsL g).length := R3.out.len
  have hS0 : TurnS g VS B w.heap.size b2 (.slice av g.length cv) w [] (List.range VS.length) v2 (.slice none 0 0) (List.replicate 40 false) W4 := by
    refine ⟨by rw [hVl]; exact CompS.start HG.out, by rw [pickV_range]; exact F3.out.ext x4, FreshV.nil _ _, R3.out.ext x4, by simp, by rw [hW4, hb2]; exact heap_alloc_last w3 _, ?_, x4.cell BX3.out, E3.out.trans x4, fun b _ => by simp [Value.ownBlock], Nat.le_trans S3.out x4.size⟩
    rw [hVl, pickL_range]
    have h1 := GMarks.start HG.out
    intro q hq
    rw [tbOf_none]
    exact h1 q hq
  subst hv0
  have HS0 := Lib.hid hS0
  have HB2 := Lib.hid (And.intro hB2 (show B ≤ b2 by rw [hb2]; exact S3.out))
  have HVL := Lib.hid hVl
  clear hS0 x4 hW4 hb2 F3 R3 E3 BX3 S3 hB2 hVl
  go_loopw [3, 5, 6, 8] (fun vl vo _ _ wr => ∃ (isO isL : List Nat) (ao : Option Addr) (n c : Nat) (bs : List Bool), vl = .slice ao n c ∧ Hid (isL.length = n) ∧ Hid (TurnS g VS B w.heap.size b2 (.slice av g.length cv) w isO isL vl vo bs wr)) (fun vl _ _ _ _ => lenV vl)
  case atStart => exact ⟨[], _, ao0, VS.length, co0, _, rfl, Lib.hid (by simp), HS0⟩
  case round =>
    obtain ⟨isO, isL, ao, n, c, bs, rfl, hn, hS⟩ := hrel
    obtain ⟨wa, hwa⟩ : ∃ x : World, x = wr := ⟨_, rfl⟩
    subst hwa
    obtain ⟨vo, hvo⟩ : ∃ x : Value, x = u5 := ⟨_, rfl⟩
    subst hvo
    by_cases h0 : n = 0
    · subst h0
      obtain rfl : isL = [] := List.eq_nil_of_length_eq_zero hn.out
      go_wp2
      go_ret
      have hd := hS.out.comp.done
      have hp := hS.out.rows.pick isO (by have := hS.out.comp.nodup; simpa using this) (fun i hi => by rw [HVL.out]; exact hS.out.comp.bound i (by simpa using hi))
      rw [← hd]
      exact ⟨_, rfl, (FreshV.ss hS.out.out hp).more (by have := HB2.out.1; omega), hS.out.ext⟩
    · have hpos : 0 < n := by omega
      obtain ⟨LL, hLL⟩ : ∃ LL, LL = pickL (groupsL g) isL := ⟨_, rfl⟩
      have hLn : LL.length = n := by rw [hLL, pickL_len]; exact hn.out
      have hlef : Left g LL := by rw [hLL]; exact hS.out.comp.left
      have htold : GMarks g LL (tbOf bs) := by rw [hLL]; exact hS.out.told
      obtain ⟨k, hkp, hkn⟩ := pickC_some HG.out hlef (by intro e; rw [e] at hLn; simp at hLn; omega)
      rw [hLn] at hkn
      obtain ⟨hfk, hno⟩ := pickC_spec hkp
      obtain ⟨gl, cl, hvl, hcl1, hcl2⟩ := hS.out.left.form (n := n) (by rw [pickV_len]; exact hn.out) hpos
      simp only [Value.slice.injEq, true_and] at hvl
      obtain ⟨rfl, rfl⟩ := hvl
      unfold maxLen at hcl2
      have hn40 : n ≤ 1048576 := by
        have h1 := nodup_len _ _ (List.nodup_append.1 hS.out.comp.nodup).2.1 (fun i hi => hS.out.comp.bound i (List.mem_append_right _ hi))
        have h6 : (groupsL g).length ≤ g.length := by rw [← grpTo_all]; exact grpTo_len g _
        have := hn.out
        omega
      have hcall : ∀ (j : Nat) (u : Value), (pickV VS isL)[j]? = some u → ∀ W, Ext wa W → Calls Tryz.prog 196 #[u, .pointer (some ⟨w.heap.size, 0, none⟩), .pointer (some ⟨b2, 0, none⟩)] W (BoolExt (freeB g LL j) W) := fun j u hu W hW => by
        have hj : j < isL.length := by have := (List.getElem?_eq_some_iff.1 hu).1; rwa [pickV_len] at this
        have hij : isL[j]? = some isL[j] := List.getElem?_eq_getElem hj
        have hu2 := pickV_at (VS := VS) hij
        rw [hu] at hu2
        have hib := hS.out.comp.bound _ (List.mem_append_right _ (List.mem_of_getElem? hij))
        have iu : Ints W u ((groupsL g)[isL[j]]?.getD []) := by rw [Option.some.inj hu2]; exact (hS.out.rows.ints hib).ext hW
        have hGk : LL[j]? = some ((groupsL g)[isL[j]]?.getD []) := by rw [hLL]; exact pickL_at hij
        rw [← isFree_eq HG.out hlef htold hGk]
        exact freeClosure_any _ u g _ bs hS.out.size W _ _ (hW.cell hS.out.box) (hW.block hS.out.marks) ((HGV.out.ext hS.out.ext).ext hW) iu HG.out hl (hlef.in HG.out hGk)
      have HCALL := Lib.hid hcall
      have HLL := Lib.hid hLL
      have HLE := Lib.hid hlef
      have HTO := Lib.hid htold
      have HKP := Lib.hid hkp
      have HFK := Lib.hid hfk
      have HNO := Lib.hid hno
      clear hcall hLL hLn hlef htold hkp hfk hno
      go_wp2_with fail
      refine (indexFree_any _ _ _ (pickV VS isL) n _ (by rw [pickV_len]; exact hn.out) hS.out.left.zero (freeB g LL) HCALL.out k hkn HFK.out HNO.out hn40).mono ?_
      rintro e w5 ⟨rfl, x5⟩
      obtain ⟨i, hi⟩ : ∃ i, isL[k]? = some i := ⟨_, List.getElem?_eq_getElem (by rw [hn.out]; exact hkn)⟩
      have hib : i < (groupsL g).length := hS.out.comp.bound i (List.mem_append_right _ (List.mem_of_getElem? hi))
      obtain ⟨u, hu⟩ : ∃ u, u = VS[i]?.getD (.slice none 0 0) := ⟨_, rfl⟩
      obtain ⟨G, hG⟩ : ∃ G, G = (groupsL g)[i]?.getD [] := ⟨_, rfl⟩
      have hGk : LL[k]? = some G := by rw [HLL.out, hG]; exact pickL_at hi
      have zu : w5.cell? ⟨gl, k, none⟩ = some u := x5.cell (by rw [hu]; exact hS.out.left.at (by rw [pickV_len]; exact hn.out) (pickV_at hi))
      have iu : Ints w5 u G := by rw [hu, hG]; exact (hS.out.rows.ints hib).ext x5
      have hun : u.ownBlock ≠ some b2 := by
        have h1 : VS[i]? = some (VS[i]'(by rw [HVL.out]; exact hib)) := List.getElem?_eq_getElem _
        rw [hu, h1]
        exact own_not (hS.out.rows.row i _ _ h1 (List.getElem?_eq_getElem hib)) hS.out.marks (by decide)
      have hGin := HLE.out.in HG.out hGk
      obtain ⟨au, cu, rfl, hlu, _, du⟩ := iu
      unfold maxLen at hlu
      have HU := Lib.hid hu
      have HUN := Lib.hid hun
      have HGK := Lib.hid hGk
      have HGI := Lib.hid hGin
      have HI := Lib.hid hi
      have DU := Lib.hid du
      have X5 := Lib.hid x5
      have j1 : (0 : Int) ≤ (k : Int) ∧ (k : Int) < (n : Int) := by omega
      clear hu hun hGk hGin hi du x5 hG hib HCALL
      go_wp2
      have hbn : isO.length ≤ 1048576 := by
        have h1 := nodup_len _ _ (List.nodup_append.1 hS.out.comp.nodup).1 (fun i hi => hS.out.comp.bound i (List.mem_append_left _ hi))
        have h6 : (groupsL g).length ≤ g.length := by rw [← grpTo_all]; exact grpTo_len g _
        omega
      have HBN := Lib.hid hbn
      clear hbn
      go_loopw [8, 24] (fun _ i wr => ∃ (s : Nat) (bs' : List Bool), s ≤ G.length ∧ i = .int .i64 s ∧ Hid (bs'.length = 40 ∧ wr.heap[b2]? = some (.cells (marksB bs') 255 (0, 0)) ∧ w5.grownBy wr (some b2) ∧ ∀ q : Nat, tbOf bs' q = (tbOf bs q || hasI (G.take s) (q : Int)))) (fun _ i _ => G.length - (intOf i).toNat)
      case atStart => exact ⟨0, bs, Nat.zero_le _, rfl, Lib.hid ⟨hS.out.size, X5.out.block hS.out.marks, grown_refl _ _, fun q => by simp [hasI]⟩⟩
      case round =>
        obtain ⟨s, bs', hs, rfl, hM⟩ := hrel
        by_cases hls : s < G.length
        · obtain ⟨bu, ou, rfl, eu⟩ := DU.out (by omega)
          have hbu : bu ≠ b2 := fun e => HUN.out (by rw [e]; rfl)
          have zp := hM.out.2.2.1.cell (eu s hls) (fun e => hbu (by simpa using e))
          rw [List.getElem?_eq_getElem hls, Option.getD_some] at zp
          have hpb := HGI.out _ (List.getElem_mem hls)
          obtain ⟨p, hp⟩ : ∃ p : Nat, G[s] = (p : Int) := ⟨G[s].toNat, by omega⟩
          have hp40 : p < 40 := by omega
          have i0 : (0 : Int) ≤ (p : Int) := by omega
          have i1 : (p : Int) < 40 := by omega
          have htk : ∀ q : Nat, hasI (G.take (s + 1)) (q : Int) = (hasI (G.take s) (q : Int) || decide (q = p)) := fun q => by
            unfold hasI
            rw [List.take_add_one, List.getElem?_eq_getElem hls, List.any_append, hp]
            congr 1
            rw [Bool.eq_iff_iff]
            simp
            omega
          rw [hp] at zp
          have hpl : p < bs'.length := by rw [hM.out.1]; exact hp40
          have zb : wr.cell? ⟨b2, p, none⟩ = some (.bool (bs'[p])) := by
            rw [cell_of_row wr _ _ _ _ _ hM.out.2.1, marksB_get, List.getElem?_eq_getElem hpl]; rfl
          have fb : wr.frozen? ⟨b2, p, none⟩ = false := frozen_of_row wr b2 p _ _ hM.out.2.1
          have hM2 : (bs'.set p true).length = 40 ∧ (wr.setCell ⟨b2, p, none⟩ (.bool true)).heap[b2]? = some (.cells (marksB (bs'.set p true)) 255 (0, 0)) ∧ w5.grownBy (wr.setCell ⟨b2, p, none⟩ (.bool true)) (some b2) ∧ ∀ q : Nat, tbOf (bs'.set p true) q = (tbOf bs q || hasI (G.take (s + 1)) (q : Int)) := by
            refine ⟨by rw [List.length_set]; exact hM.out.1, ?_, grown_trans hM.out.2.2.1 (grownBy_cell wr b2 p _), fun q => ?_⟩
            · have := heap_setCell_same wr b2 p _ _ (.bool true) hM.out.2.1
              rw [marksB_set] at this
              exact this
            · rw [tbOf_set hpl, hM.out.2.2.2 q, htk q, Bool.or_assoc]
          have HM2 := Lib.hid hM2
          clear hM2 htk hM hp hpb eu hbu
          go_wp2
          go_roundw
          case rel => exact ⟨s + 1, _, by omega, by go_num, HM2⟩
          case measure => simp [intOf]; omega
        · obtain rfl : s = G.length := by omega
          obtain ⟨w6, hw6⟩ : ∃ x : World, x = wr := ⟨_, rfl⟩
          subst hw6
          obtain ⟨m1, m2, m3, m4⟩ := hM.out
          rw [List.take_length] at m4
          have h2l := own_not hS.out.left hS.out.marks (by decide)
          have h2o := own_not hS.out.out hS.out.marks (by decide)
          have l6 : FreshV B w6 (.slice (some ⟨gl, 0, none⟩) n c) (pickV VS isL) := World.ownsRow.kept (hS.out.left.ext X5.out) m3 (.inr h2l)
          have o6 : FreshV B w6 vo (pickV VS isO) := World.ownsRow.kept (hS.out.out.ext X5.out) m3 (.inr h2o)
          have r6 : Rows_ B w6 VS (groupsL g) := (hS.out.rows.ext X5.out).touch m3 (fun j z hz => .inr (own_not (hS.out.rows.row j z _ hz (List.getElem?_eq_getElem (by rw [← hS.out.rows.len]; exact (List.getElem?_eq_some_iff.1 hz).1))) hS.out.marks (by decide)))
          have e6 : Ext w w6 := (hS.out.ext.trans X5.out).grown m3 (fun b hb => by have h1 := Option.some.inj hb; have := HB2.out.1; have := HB2.out.2; omega)
          have bx6 : w6.cell? ⟨w.heap.size, 0, none⟩ = some (.slice av g.length cv) := m3.cell (X5.out.cell hS.out.box) (fun e => by have h1 := Option.some.inj e; have := HB2.out.1; have := HB2.out.2; simp at h1; omega)
          have s6 : B ≤ w6.heap.size := by have := hS.out.high; have := X5.out.size; have := m3.size; omega
          have zu6 : w6.cell? ⟨gl, k, none⟩ = some (.slice au G.length cu) := m3.cell zu (fun e => h2l e)
          have tl6 : ∀ b, (Value.slice (some ⟨gl, 0, none⟩) n c).ownBlock = some b → b < w6.heap.size := fun b hb => (World.ownsRow.lt l6 b hb).2
          have L6 := Lib.hid l6
          have O6 := Lib.hid o6
          have R6 := Lib.hid r6
          have E6 := Lib.hid e6
          have BX6 := Lib.hid bx6
          have S6 := Lib.hid s6
          have M6 := Lib.hid (And.intro m1 (And.intro m2 m4))
          have TL6 := Lib.hid tl6
          have hon : (pickV VS isO).length ≤ 1048576 := by rw [pickV_len]; exact HBN.out
          have HON := Lib.hid hon
          clear m1 m2 m3 m4 h2l h2o l6 o6 r6 e6 bx6 s6 tl6 hM hon zu
          go_wp2_with (at_builtin; refine wpList_pushV_lies rfl _ _ rfl B _ (pickV VS isO) rfl (O6.out.ext (Ext.alloc (Ext.refl _) _)) (.slice au G.length cu) ⟨w6.heap.size, 0, none⟩ 1 rfl (cell_alloc_one _ _ _) rfl HON.out (size_alloc_le S6.out) _ rfl ?_)
          intro g7 c7 W7 f7 t7 a7
          have x6a : Ext w6 (w6.alloc (.cells #[.slice au G.length cu] 26)) := Ext.alloc (Ext.refl _) _
          have hpl : (pickV VS isO).length = isO.length := pickV_len VS isO
          have f7' : FreshV B W7 (.slice (some ⟨g7, 0, none⟩) ((pickV VS isO).length + 1) c7) (pickV VS (isO ++ [i])) := by
            rw [pickV_snoc, ← HU.out]; exact f7
          have hap : ∀ b, (Value.slice (some ⟨gl, 0, none⟩) n c).ownBlock = some b → vo.ownBlock ≠ some b := hS.out.apart
          have l7 : FreshV B W7 (.slice (some ⟨gl, 0, none⟩) n c) (pickV VS isL) := World.ownsRow.kept (L6.out.ext x6a) t7 (.inr fun e => hap gl rfl e.symm)
          have r7 : Rows_ B W7 VS (groupsL g) := (R6.out.ext x6a).touch t7 (fun j z hz => by
            have hr := R6.out.row j z _ hz (List.getElem?_eq_getElem (by rw [← R6.out.len]; exact (List.getElem?_eq_some_iff.1 hz).1))
            have := types_apart O6.out hr (by decide)
            exact this)
          have e7 : Ext w W7 := (E6.out.trans x6a).grown t7 (fun b hb => by have := (World.ownsRow.lt O6.out b hb).1; have := HB2.out.1; omega)
          have mk7 : W7.heap[b2]? = some (.cells (marksB bs') 255 (0, 0)) := by
            have hlt : b2 < w6.heap.size := (Array.getElem?_eq_some_iff.1 M6.out.2.1).1
            rw [t7.block b2 (Nat.lt_of_lt_of_le hlt x6a.size) (fun e => own_not O6.out M6.out.2.1 (by decide) e.symm)]
            exact x6a.block M6.out.2.1
          have bx7 : W7.cell? ⟨w.heap.size, 0, none⟩ = some (.slice av g.length cv) := t7.cell (x6a.cell BX6.out) (fun e => by have h1 := (World.ownsRow.lt O6.out _ e.symm).1; have := HB2.out.1; dsimp only at h1; omega)
          have s7 : B ≤ W7.heap.size := by have := S6.out; have := x6a.size; have := t7.size; omega
          have gne : g7 ≠ gl := fun e => by
            rcases a7 with a7 | a7
            · exact hap gl rfl (by rw [a7, e])
            · have := TL6.out gl rfl
              omega
          have h1e : ∀ q, (encV VS q).oneCell' = true := fun q => R6.out.one q
          have F7 := Lib.hid f7'
          have L7 := Lib.hid l7
          have R7 := Lib.hid r7
          have E7 := Lib.hid e7
          have MK7 := Lib.hid mk7
          have BX7 := Lib.hid bx7
          have S7 := Lib.hid s7
          have GNE := Lib.hid gne
          have H1E := Lib.hid h1e
          clear f7 t7 a7 x6a hpl f7' hap l7 r7 e7 mk7 bx7 s7 gne h1e zu6
          go_wp2_with fail
          refine (delete_any B _ VS isL n k W7 L7.out hn.out hkn H1E.out).mono ?_
          rintro e W8 ⟨g8, c8, hv8, rfl, f8, t8⟩
          simp only [Value.slice.injEq, Option.some.injEq, Addr.mk.injEq, and_true, true_and] at hv8
          obtain ⟨rfl, rfl⟩ := hv8
          have hob : (Value.slice (some ⟨gl, 0, none⟩) n c).ownBlock = some gl := rfl
          rw [hob] at t8
          have o8 : FreshV B W8 (.slice (some ⟨g7, 0, none⟩) ((pickV VS isO).length + 1) c7) (pickV VS (isO ++ [i])) := World.ownsRow.kept F7.out t8 (.inr fun e => GNE.out (Option.some.inj e))
          have hv7 : W7.ownsRow B 26 1 (.slice (some ⟨gl, 0, none⟩) n c) (pickV VS isL).length (pickV VS isL) := L7.out
          have r8 : Rows_ B W8 VS (groupsL g) := R7.out.touch t8 (fun j z hz => by
            have hr := R7.out.row j z _ hz (List.getElem?_eq_getElem (by rw [← R7.out.len]; exact (List.getElem?_eq_some_iff.1 hz).1))
            have := types_apart hv7 hr (by decide)
            exact this)
          have glb := World.ownsRow.lt hv7 gl rfl
          have e8 : Ext w W8 := E7.out.grown t8 (fun b hb => by have h1 := Option.some.inj hb; have := HB2.out.1; omega)
          have mk8 : W8.heap[b2]? = some (.cells (marksB bs') 255 (0, 0)) := by
            have hlt : b2 < W7.heap.size := (Array.getElem?_eq_some_iff.1 MK7.out).1
            rw [t8.block b2 hlt (fun e => own_not hv7 MK7.out (by decide) (by rw [e]; rfl))]
            exact MK7.out
          have bx8 : W8.cell? ⟨w.heap.size, 0, none⟩ = some (.slice av g.length cv) := t8.cell BX7.out (fun e => by have h1 := Option.some.inj e; simp at h1; have := HB2.out.1; omega)
          have hlen8 : (isL.eraseIdx k).length = n - 1 := by rw [List.length_eraseIdx, hn.out]; simp [hkn]
          have hfin : TurnS g VS B w.heap.size b2 (.slice av g.length cv) w (isO ++ [i]) (isL.eraseIdx k) (.slice (some ⟨gl, 0, none⟩) (n - 1) c) (.slice (some ⟨g7, 0, none⟩) ((pickV VS isO).length + 1) c7) bs' W8 := by
            refine ⟨hS.out.comp.next HI.out (by rw [← HLL.out]; exact HKP.out), f8, o8, r8, M6.out.1, mk8, ?_, bx8, e8, fun b hb e => ?_, by have := S7.out; have := t8.size; omega⟩
            · rw [pickL_erase, ← HLL.out]
              exact HTO.out.next HLE.out HGK.out (fun q _ => M6.out.2.2 q)
            · have h1 : gl = b := Option.some.inj hb
              have h2 : g7 = b := Option.some.inj e
              exact GNE.out (by omega)
          have HFIN := Lib.hid hfin
          have HL8 := Lib.hid hlen8
          clear f8 t8 hob o8 hv7 r8 glb e8 mk8 bx8 hlen8 hfin
          go_wp2
          go_roundw
          case rel => exact ⟨isO ++ [i], isL.eraseIdx k, _, n - 1, c, bs', rfl, HL8, HFIN⟩
          case measure => simp [lenV]; omega
end Go.Proofs.YtcpmfcigciknlaaGreat

namespace Go.Proofs.YtcpmfcigciknlaaGreat
open Go.RowKit
set_option linter.unusedVariables false
end Go.Proofs.YtcpmfcigciknlaaGreat

namespace Go.Proofs.YtcpmfcigciknlaaGreat
open Go.RowKit
set_option linter.unusedVariables false
theorem Rows_.mark {B : Nat} {w w' : World} {vs : List Value} {L : List (List Int)} {j : Nat} {z : Value} {l : List Int} (h : Rows_ B w vs L) (hj : vs[j]? = some z) (t : w.grownBy w' z.ownBlock) (hz : Fresh B w' z l) : Rows_ B w' vs (L.set j l) := by
  have hjl : j < L.length := by rw [← h.len]; exact (List.getElem?_eq_some_iff.1 hj).1
  refine ⟨by simp [h.len], fun i u r hu hr => ?_, h.apart⟩
  rw [List.getElem?_set] at hr
  by_cases e : j = i
  · subst e
    rw [if_pos rfl, if_pos hjl] at hr
    rw [hj] at hu
    cases hu
    cases hr
    exact hz
  · rw [if_neg e] at hr
    exact World.ownsRow.kept (h.row i u r hu hr) t (h.apart i j u z (fun e' => e e'.symm) hu hj)
theorem Ext.under {B : Nat} {w0 w w' : World} (e : Ext w0 w) (k : Below B w w') (hb : w0.heap.size ≤ B) : Ext w0 w' := Below.trans e (Below.mono k hb)
end Go.Proofs.YtcpmfcigciknlaaGreat

namespace Go.Proofs.YtcpmfcigciknlaaGreat
open Go.RowKit
set_option linter.unusedVariables false
def doneTo (C : List (List Int)) (f : List Int → List Int) (t : Nat) : List (List Int) := (C.take t).map f ++ C.drop t
theorem doneTo_zero (C : List (List Int)) (f : List Int → List Int) : doneTo C f 0 = C := by simp [doneTo]
theorem doneTo_all (C : List (List Int)) (f : List Int → List Int) : doneTo C f C.length = C.map f := by simp [doneTo]
theorem doneTo_at (C : List (List Int)) (f : List Int → List Int) {t : Nat} (h : t < C.length) : (doneTo C f t)[t]? = some C[t] := by
  unfold doneTo
  rw [List.getElem?_append_right (by simp; omega)]
  have : t - ((C.take t).map f).length = 0 := by simp; omega
  rw [this, List.getElem?_drop, Nat.add_zero, List.getElem?_eq_getElem h]
theorem doneTo_set (C : List (List Int)) (f : List Int → List Int) {t : Nat} (h : t < C.length) : (doneTo C f t).set t (f C[t]) = doneTo C f (t + 1) := by
  unfold doneTo
  have hl : ((C.take t).map f).length = t := by simp; omega
  rw [List.set_append_right t _ (by omega), hl, Nat.sub_self, List.drop_eq_getElem_cons h, List.set_cons_zero, List.take_add_one, List.getElem?_eq_getElem h, List.map_append]
  simp
noncomputable def byKeyS (g : List (List Int)) (key : List Int) : List (List Int) := (compsL g).map (byKeyL (keyAt key))
theorem compsL_rises {g : List (List Int)} (hg : rowsB g = true) {G : List Int} (h : G ∈ compsL g) : Rises G := by
  obtain ⟨k, hk, e⟩ := (left_groups hg).1 G (compsC_mem g _ _ G h)
  rw [e]; exact groupL_rises g k
set_option maxRecDepth 100000 in
set_option maxHeartbeats 4000000 in
theorem groupsByKey_any (v u : Value) (g : List (List Int)) (key : List Int) (w : World) (hv : Intss w v g) (hu : Ints w u key) (hk : keysB g key = true) :
    Calls Tryz.prog 107 #[v, u] w (NewSS (byKeyS g key) w) := by
  have HV := Lib.hid hv
  have HU := Lib.hid hu
  obtain ⟨av, cv, rfl, hlv, _, _⟩ := hv
  obtain ⟨au, cu, rfl, hlu, _, _⟩ := hu
  unfold maxLen at hlv hlu
  obtain ⟨hg, hkl, hr, hnd⟩ := keysB_of hk
  obtain ⟨ha, hb⟩ := goodG_of hg
  obtain ⟨F, hF⟩ : ∃ F, F = byKeyL (keyAt key) := ⟨_, rfl⟩
  obtain ⟨C, hC⟩ : ∃ C, C = compsL g := ⟨_, rfl⟩
  obtain ⟨hc1, hc2⟩ := compsL_size hb
  rw [← hC] at hc1 hc2
  have hin : ∀ G ∈ C, Rises G ∧ (∀ x ∈ G, 0 ≤ x ∧ x < (key.length : Int)) ∧ G.length ≤ 1048576 := fun G hG => by
    have h2 := hc2 G hG
    rw [hC] at hG
    refine ⟨compsL_rises ha hG, fun x hx => ?_, by omega⟩
    have := compsL_in ha hG x hx
    omega
  have hS : byKeyS g key = C.map F := by unfold byKeyS; rw [hC, hF]
  rw [hS]
  have HA := Lib.hid ha
  have HIN := Lib.hid hin
  have HKK := Lib.hid (And.intro hr hnd)
  have HF := Lib.hid hF
  have HC := Lib.hid hC
  obtain ⟨W1, hW1⟩ : ∃ W1, W1 = w.alloc (.cells #[.slice au key.length cu] 26) := ⟨_, rfl⟩
  have x1 : Ext w W1 := by rw [hW1]; exact Ext.alloc (Ext.refl _) _
  have hbx : W1.cell? ⟨w.heap.size, 0, none⟩ = some (.slice au key.length cu) := by rw [hW1]; exact cell_alloc_one _ _ _
  have X1 := Lib.hid x1
  have BX := Lib.hid hbx
  have HW1 := Lib.hid hW1
  clear hin hS ha hF hC hc2 hk hg hkl hr hnd x1 hbx hW1
  go_enter Tryz.func107, Tryz.ntmps107
  go_wp2_with fail
  rw [← HW1.out]
  refine (groupsInTurn_any g HA.out hb _ _ (HV.out.ext X1.out)).mono ?_
  rw [← HC.out]
  rintro e w2 ⟨v2, rfl, f2, x2⟩
  obtain ⟨VS, fv, hR⟩ := f2.vals
  obtain ⟨a2, c2, rfl⟩ := fv.len
  have hVL : VS.length = C.length := hR.len
  obtain ⟨B, hB⟩ : ∃ B, B = W1.heap.size := ⟨_, rfl⟩
  rw [← hB] at fv hR
  have HBB := Lib.hid hB
  have HR := Lib.hid (show Rows_ B w2 VS (doneTo C F 0) by rw [doneTo_zero]; exact hR)
  have HVL := Lib.hid hVL
  have FV := Lib.hid fv
  have X2 := Lib.hid x2
  have hn40 : VS.length ≤ 40 := by omega
  clear f2 fv hR hVL x2 hB HW1
  go_wp2
  go_loopw [7, 12] (fun _ i wr => ∃ t : Nat, t ≤ C.length ∧ i = .int .i64 t ∧ Hid (Rows_ B wr VS (doneTo C F t)) ∧ Hid (FreshV B wr (.slice a2 VS.length c2) VS) ∧ Hid (Ext W1 wr)) (fun _ i _ => C.length - (intOf i).toNat)
  case atStart => exact ⟨0, Nat.zero_le _, rfl, HR, FV, X2⟩
  case round =>
    clear HR FV X2
    obtain ⟨t, ht, rfl, hR, hV, hX⟩ := hrel
    obtain ⟨w3, hw3⟩ : ∃ x : World, x = wr := ⟨_, rfl⟩
    subst hw3
    by_cases hlt : t < C.length
    · have hlt2 : t < VS.length := by rw [HVL.out]; exact hlt
      obtain ⟨gv, cap, hvv, hc1, hc2⟩ := hV.out.form (n := VS.length) rfl (by omega)
      simp only [Value.slice.injEq, true_and] at hvv
      obtain ⟨rfl, rfl⟩ := hvv
      obtain ⟨z, hz⟩ : ∃ z, VS[t]? = some z := ⟨_, List.getElem?_eq_getElem hlt2⟩
      have zz := hV.out.at rfl hz
      have hfz := hR.out.row t z _ hz (doneTo_at C F hlt)
      obtain ⟨h1, h2, h3⟩ := HIN.out _ (List.getElem_mem hlt)
      have hst : ∀ W, w3.grownBy W z.ownBlock → W.cell? ⟨w.heap.size, 0, none⟩ = some (.slice au key.length cu) ∧ Ints W (.slice au key.length cu) key := fun W hW => by
        have e := hX.out.grown hW (fun b hb => by have := (World.ownsRow.lt hfz b hb).1; rw [HBB.out] at this; exact this)
        exact ⟨e.cell BX.out, (HU.out.ext X1.out).ext e⟩
      have HST := Lib.hid hst
      have HFZ := Lib.hid hfz
      have HZ := Lib.hid hz
      have H123 := Lib.hid (And.intro h1 (And.intro h2 h3))
      have HSET := Lib.hid (doneTo_set C F hlt)
      obtain ⟨G, hG⟩ : ∃ G, G = C[t] := ⟨_, rfl⟩
      rw [← hG] at HFZ H123 HSET
      clear hst hfz hz h1 h2 h3 hG
      go_wp2_with fail
      refine (sortByKey_any key _ _ B z G _ HST.out HKK.out.1 HKK.out.2 HFZ.out H123.out.1 H123.out.2.1 H123.out.2.2).mono ?_
      rintro e w4 ⟨⟨r, rfl⟩, f4, g4⟩
      rw [← HF.out] at f4
      have hR4 : Rows_ B w4 VS (doneTo C F (t + 1)) := by
        rw [← HSET.out]
        exact hR.out.mark HZ.out g4 f4
      have hV0 : w3.ownsRow B 26 1 (.slice (some ⟨gv, 0, none⟩) VS.length c2) VS.length VS := hV.out
      have hV4 : FreshV B w4 (.slice (some ⟨gv, 0, none⟩) VS.length c2) VS := World.ownsRow.kept hV0 g4 (types_apart HFZ.out hV0 (by decide))
      have hX4 : Ext W1 w4 := hX.out.grown g4 (fun b hb => by have := (World.ownsRow.lt HFZ.out b hb).1; rw [HBB.out] at this; exact this)
      have R4 := Lib.hid hR4
      have V4 := Lib.hid hV4
      have X4 := Lib.hid hX4
      clear f4 g4 hR4 hV0 hV4 hX4 zz
      go_wp2
      go_roundw
      case rel => exact ⟨t + 1, by omega, by go_num, R4, V4, X4⟩
      case measure => simp [intOf]; omega
    · obtain rfl : t = C.length := by omega
      have hRA := hR.out
      rw [doneTo_all] at hRA
      have HFIN := Lib.hid ((FreshV.ss hV.out hRA).more (show w.heap.size ≤ B by rw [HBB.out]; exact X1.out.size))
      have HXX := Lib.hid (X1.out.trans hX.out)
      have hno : ¬ C.length < VS.length := by have := HVL.out; omega
      clear hRA
      go_wp2
      go_ret
      exact ⟨_, rfl, HFIN.out, HXX.out⟩
end Go.Proofs.YtcpmfcigciknlaaGreat

namespace Go.Proofs.YtcpmfcigciknlaaGreat
open Go.RowKit Go.Shelf
set_option linter.unusedVariables false
theorem zeroCells_size (n : Nat) : (Builtin.zeroCells (Value.int .i64 0).cells n).size = n := by
  unfold Builtin.zeroCells
  simp [Value.cells]
theorem growI_none (n : Nat) (w : World) (hn : n ≤ 1048576) :
    Calls Tryz.prog 149 #[.slice none 0 0, .int .i64 n] w (NewInts [] w) := by
  by_cases h0 : n = 0
  · subst h0
    refine (Any8.slices_Grow_room Tryz.growI none 0 0 0 w (by omega) (by omega) (by omega) (by omega)).mono ?_
    rintro e w' ⟨rfl, rfl⟩
    exact ⟨_, rfl, fresh_nil _ _, Ext.refl _⟩
  · obtain ⟨i0, hi, hz0, hz1, hz2⟩ := info_parts Tryz.infoInt
    have h := Any8.slices_Grow_grow Tryz.growI i0 (.int .i64 0) hi hz0 (by omega) none 0 0 n [] w (by omega) (by omega) (by rw [hz2]; omega) (by omega) (by simp) (fun _ => rfl) (fun a ha => by cases ha)
    refine h.mono ?_
    rintro e w' ⟨rfl, rfl⟩
    have hge := grownCap_ge w (0 + n) 0 3
    have hle := grownCap_le_maxLen w (0 + n) 0 3 (by unfold maxLen; omega)
    refine ⟨_, rfl, ?_, (Ext.refl w).drew.alloc _⟩
    refine ⟨by simp, .inr ⟨w.heap.size, grownCap w (0 + n) 0 3, _, rfl, Nat.le_refl _, heap_alloc_new w.drew _, by simp, hle, ?_, by simp⟩⟩
    rw [Array.size_append, Array.size_append, zeroCells_size, zeroCells_size]
    have : (0 + n) - 0 = n := by omega
    simp
    have h2 := grownCap_ge w n 0 (Tryz.growI_ren.t 25)
    have h3 : grownCap w n 0 (Tryz.growI_ren.t 25) = grownCap w n 0 3 := rfl
    omega
theorem flat_sum (L : List (List Int)) : L.flatten.length = (L.map List.length).sum := List.length_flatten
theorem flat_take (L : List (List Int)) (t : Nat) : ((L.take t).flatten).length = sumTo L t := by rw [flat_sum]; rfl
set_option maxHeartbeats 4000000 in
theorem concat_any (v : Value) (L : List (List Int)) (w : World) (hv : Intss w v L) (hb : (L.map List.length).sum ≤ 1048576) :
    Calls Tryz.prog 106 #[v] w (NewInts L.flatten w) := by
  have HV := Lib.hid hv
  obtain ⟨av, cv, rfl, hlv, _, dv⟩ := hv
  unfold maxLen at hlv
  have DV := Lib.hid dv
  have HB := Lib.hid hb
  clear dv hb
  go_enter Tryz.func106, Tryz.ntmps106
  go_wp2
  go_loopw [3, 5, 11] (fun s _ i wr => ∃ t : Nat, t ≤ L.length ∧ i = .int .i64 t ∧ s = .int .i64 (sumTo L t) ∧ Ext w wr) (fun _ _ i _ => L.length - (intOf i).toNat)
  case atStart => exact ⟨0, Nat.zero_le _, rfl, by simp [sumTo], Ext.refl _⟩
  case round =>
    obtain ⟨t, ht, rfl, rfl, hx⟩ := hrel
    obtain ⟨w1, hw1⟩ : ∃ x : World, x = wr := ⟨_, rfl⟩
    subst hw1
    by_cases hlt : t < L.length
    · obtain ⟨bv, ov, rfl, ev⟩ := DV.out (by omega)
      obtain ⟨z, hz, iz⟩ := ev t hlt
      rw [List.getElem?_eq_getElem hlt, Option.getD_some] at iz
      have z1 := hx.cell hz
      have hss := sumTo_succ hlt
      have hm := sumTo_mono (L := L) (k := t + 1) (by omega)
      have hbb := HB.out
      obtain ⟨az, cz, rfl, hlz, _, _⟩ := iz
      unfold maxLen at hlz
      obtain ⟨m, hmm⟩ : ∃ m, m = (L[t]).length := ⟨_, rfl⟩
      rw [← hmm] at z1 hss hlz
      obtain ⟨s, hs⟩ : ∃ s, s = sumTo L t := ⟨_, rfl⟩
      rw [← hs] at hss ⊢
      have hsm : s + m ≤ 1048576 := by omega
      have HSS := Lib.hid hss
      have j0 : ¬ ((s : Int) + (m : Int) < 0) := by omega
      clear ev hz hss hm hbb hmm hs
      go_wp2
      go_roundw
      case rel => exact ⟨t + 1, by omega, by go_num, by rw [HSS.out]; go_num, hx⟩
      case measure => simp [intOf]; omega
    · obtain rfl : t = L.length := by omega
      have hsn : sumTo L L.length ≤ 1048576 := by rw [sumTo_all]; exact HB.out
      obtain ⟨s, hs⟩ : ∃ s, s = sumTo L L.length := ⟨_, rfl⟩
      rw [← hs] at hsn ⊢
      have HX := Lib.hid hx
      clear hs hx
      go_wp2_with fail
      refine (growI_none s _ hsn).mono ?_
      rintro e w2 ⟨v2, rfl, f2, x2⟩
      have F2 := Lib.hid f2
      have X2 := Lib.hid (HX.out.trans x2)
      have S2 := Lib.hid x2.size
      clear f2 x2
      go_wp2
      go_loopw [6, 8, 27] (fun vo _ i wr => ∃ t : Nat, t ≤ L.length ∧ i = .int .i64 t ∧ Fresh w.heap.size wr vo ((L.take t).flatten) ∧ Ext w wr) (fun _ _ i _ => L.length - (intOf i).toNat)
      case atStart => exact ⟨0, Nat.zero_le _, rfl, by simpa using F2.out.more HX.out.size, X2.out⟩
      case round =>
        obtain ⟨t, ht, rfl, hf, hx⟩ := hrel
        by_cases hlt2 : t < L.length
        · obtain ⟨bv, ov, rfl, ev⟩ := DV.out (by omega)
          obtain ⟨z, hz, iz⟩ := ev t hlt2
          rw [List.getElem?_eq_getElem hlt2, Option.getD_some] at iz
          have z1 := hx.cell hz
          have hst : (L.take (t + 1)).flatten = (L.take t).flatten ++ L[t] := by
            rw [List.take_add_one, List.getElem?_eq_getElem hlt2, List.flatten_append]
            simp
          have hbd : ((L.take t).flatten).length + (L[t]).length ≤ 1099511627776 := by
            have h1 := flat_take L t
            have h2 := sumTo_succ hlt2
            have h3 := sumTo_mono (L := L) (k := t + 1) (by omega)
            have := HB.out
            omega
          obtain ⟨G, hG⟩ : ∃ G, G = L[t] := ⟨_, rfl⟩
          rw [← hG] at iz hst hbd
          have IZ := Lib.hid (iz.ext hx)
          have HST := Lib.hid hst
          have HBD := Lib.hid hbd
          have HF := Lib.hid hf
          have HXX := Lib.hid hx
          clear ev hz iz hst hbd hG hf hx
          go_wp2_with (at_builtin; refine wpList_join rfl _ _ rfl w.heap.size _ _ ((L.take t).flatten) G rfl HF.out rfl IZ.out HBD.out HXX.out.size ?_)
          intro v4 w4 f4 g4 k4
          have e4 : Ext w w4 := k4 w HXX.out (Nat.le_refl _)
          rw [← HST.out] at f4
          have F4 := Lib.hid f4
          have E4 := Lib.hid e4
          clear f4 g4 k4 e4
          go_wp2
          go_roundw
          case rel => exact ⟨t + 1, by omega, by go_num, F4.out, E4.out⟩
          case measure => simp [intOf]; omega
        · obtain rfl : t = L.length := by omega
          rw [List.take_length] at hf
          have HF := Lib.hid hf
          clear hf
          go_wp2
          go_ret
          exact ⟨_, rfl, HF.out, hx⟩
end Go.Proofs.YtcpmfcigciknlaaGreat

namespace Go.Proofs.YtcpmfcigciknlaaGreat
open Go.RowKit
set_option linter.unusedVariables false
theorem orderL_flat (g : List (List Int)) (key : List Int) : orderL g key = (byKeyS g key).flatten := by
  unfold orderL byKeyS
  rw [List.flatMap_def]
theorem byKeyS_sum {g : List (List Int)} (hl : g.length ≤ 40) (key : List Int) : ((byKeyS g key).map List.length).sum ≤ 1600 := by
  rw [← List.length_flatten, ← orderL_flat]
  obtain ⟨h1, h2⟩ := compsL_size hl
  have h3 := flat_len 40 h2 (byKeyL (keyAt key)) (byKeyL_len _)
  have h4 : (compsL g).length * 40 ≤ 40 * 40 := Nat.mul_le_mul_right _ h1
  unfold orderL
  omega
set_option maxHeartbeats 4000000 in
theorem implOrder_any (v u : Value) (g : List (List Int)) (key : List Int) (w : World) (hv : Intss w v g) (hu : Ints w u key) :
    Calls Tryz.prog 59 #[v, u] w (TwoInts (orderA g key) (keysB g key) w) := by
  have HV := Lib.hid hv
  have HU := Lib.hid hu
  obtain ⟨av, cv, rfl, hlv, _, _⟩ := hv
  obtain ⟨au, cu, rfl, hlu, _, _⟩ := hu
  unfold maxLen at hlv hlu
  have hkq := keysB_eq g key
  cases hg : goodG g with
  | false =>
    have hk : keysB g key = false := by rw [hkq, hg]; rfl
    have hc : orderA g key = [] := by unfold orderA; rw [hk]; rfl
    rw [hc, hk]
    have HG := Lib.hid hg
    clear hg hc hk hkq
    go_enter Tryz.func59, Tryz.ntmps59
    go_wp2_with fail
    refine (implGoodGraph_any _ _ _ HV.out).mono ?_
    rintro e w1 ⟨rfl, x1⟩
    rw [HG.out]
    go_wp2
    go_ret2
    exact ⟨_, rfl, fresh_nil _ _, x1⟩
  | true =>
    rw [hg, Bool.true_and] at hkq
    cases hk : keysB g key with
    | false =>
      have hc : orderA g key = [] := by unfold orderA; rw [hk]; rfl
      rw [hc]
      have HK := Lib.hid (hkq.symm.trans hk)
      have HG := Lib.hid hg
      clear hg hc hk hkq
      go_enter Tryz.func59, Tryz.ntmps59
      go_wp2_with fail
      refine (implGoodGraph_any _ _ _ HV.out).mono ?_
      rintro e w1 ⟨rfl, x1⟩
      have X1 := Lib.hid x1
      rw [HG.out]
      clear x1
      go_wp2_with fail
      refine (arePointKeys_any _ key g.length _ (HU.out.ext X1.out)).mono ?_
      rintro e w2 ⟨rfl, x2⟩
      have X2 := Lib.hid (X1.out.trans x2)
      rw [HK.out]
      clear x2
      go_wp2
      go_ret2
      exact ⟨_, rfl, fresh_nil _ _, X2.out⟩
    | true =>
      have hc : orderA g key = (byKeyS g key).flatten := by unfold orderA; rw [hk, if_pos rfl, orderL_flat]
      rw [hc]
      obtain ⟨_, hl⟩ := goodG_of hg
      have hsum := byKeyS_sum hl key
      have hby := fun W (h : Ext w W) => groupsByKey_any _ _ g key W (HV.out.ext h) (HU.out.ext h) hk
      obtain ⟨D, hD⟩ : ∃ D, D = byKeyS g key := ⟨_, rfl⟩
      rw [← hD] at hsum hby ⊢
      have HBY := Lib.hid hby
      have HSUM := Lib.hid hsum
      have HK := Lib.hid (hkq.symm.trans hk)
      have HG := Lib.hid hg
      clear hg hc hk hkq hl hsum hby hD
      go_enter Tryz.func59, Tryz.ntmps59
      go_wp2_with fail
      refine (implGoodGraph_any _ _ _ HV.out).mono ?_
      rintro e w1 ⟨rfl, x1⟩
      have X1 := Lib.hid x1
      rw [HG.out]
      clear x1
      go_wp2_with fail
      refine (arePointKeys_any _ key g.length _ (HU.out.ext X1.out)).mono ?_
      rintro e w2 ⟨rfl, x2⟩
      have X2 := Lib.hid (X1.out.trans x2)
      rw [HK.out]
      clear x2
      go_wp2_with fail
      refine (HBY.out _ X2.out).mono ?_
      rintro e w3 ⟨v3, rfl, f3, x3⟩
      have F3 := Lib.hid f3.intss
      have X3 := Lib.hid (X2.out.trans x3)
      clear f3 x3
      go_wp2_with fail
      refine (concat_any _ D _ F3.out (by have := HSUM.out; omega)).mono ?_
      rintro e w4 ⟨v4, rfl, f4, x4⟩
      have F4 := Lib.hid (f4.more X3.out.size)
      have X4 := Lib.hid (X3.out.trans x4)
      clear f4 x4
      go_wp2
      go_ret2
      exact ⟨_, rfl, F4.out, X4.out⟩
end Go.Proofs.YtcpmfcigciknlaaGreat
