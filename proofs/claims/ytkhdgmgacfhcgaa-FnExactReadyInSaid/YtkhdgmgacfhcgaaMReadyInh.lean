/- Texts of this proof, part h: words, plain facts, contracts. -/
import Derived.Test.YtkhdgmgacfhcgaaMReadyInc
import Derived.Test.YtkhdgmgacfhcgaaMReadyIng
import Derived.Deep.Cut
import Derived.Test.YtkhdgmgacfhcgaaMReadyInb

namespace Go.Proofs.Ytkhdgmgacfhcgaa
open Go.RowKit Go.Maps
set_option linter.unusedVariables false

instance (x y : Nat × Nat) : Decidable (lexL x y) := by unfold lexL; infer_instance
/-- How many of the first k stand ahead of x, from behind. -/
def insAt (L : List (Nat × Nat)) (x : Nat × Nat) : Nat → Nat
  | 0 => 0
  | k + 1 => match L[k]? with
    | some y => if lexL x y then insAt L x k else k + 1
    | none => k + 1
theorem insAt_le (L : List (Nat × Nat)) (x : Nat × Nat) : ∀ k, insAt L x k ≤ k
  | 0 => Nat.le_refl _
  | k + 1 => by
    unfold insAt
    split
    · split
      · have := insAt_le L x k; omega
      · exact Nat.le_refl _
    · exact Nat.le_refl _
def insK (L : List (Nat × Nat)) (x : Nat × Nat) : Nat := insAt L x L.length
def insL (L : List (Nat × Nat)) (x : Nat × Nat) : List (Nat × Nat) := L.take (insK L x) ++ [x] ++ L.drop (insK L x)

/-- A slice of lists, with its values. -/
def ValsAt (w : World) (v : Value) (vs : List Value) : Prop :=
  (v = .slice none 0 0 ∧ vs = []) ∨ ∃ b off cap, v = .slice (some ⟨b, off, none⟩) vs.length cap ∧ vs.length ≤ cap ∧ cap ≤ maxLen ∧ ∀ j z, vs[j]? = some z → w.cell? ⟨b, off + j, none⟩ = some z
theorem ValsAt.ext {w w' : World} {v : Value} {vs : List Value} (h : ValsAt w v vs) (e : Ext w w') : ValsAt w' v vs := by
  rcases h with h | ⟨b, off, cap, h1, h2, h3, h4⟩
  · exact .inl h
  · exact .inr ⟨b, off, cap, h1, h2, h3, fun j z hz => e.cell (h4 j z hz)⟩
theorem FreshV.vals {B : Nat} {w : World} {v : Value} {vs : List Value} (h : FreshV B w v vs) : ValsAt w v vs := by
  have h0 : w.ownsRow B 49 1 v vs.length vs := h
  rcases h0.2 with ⟨rfl, hn⟩ | ⟨g, cap, cur, rfl, _, _, h1, h2, _⟩
  · exact .inl ⟨rfl, List.eq_nil_of_length_eq_zero hn⟩
  · refine .inr ⟨g, 0, cap, rfl, h1, h2, fun j z hz => ?_⟩
    rw [Nat.zero_add]
    exact h.at rfl hz
/-- .. each of which reads as an instance's pair. -/
structure PairsAt (w : World) (v : Value) (vs : List Value) (L : List (Nat × Nat)) : Prop where
  len : vs.length = L.length
  reads : ValsAt w v vs
  row : ∀ (j : Nat) (u : Value) (x : Nat × Nat), vs[j]? = some u → L[j]? = some x → Ints w u (pairOf x)

/-- append(s, x...), x of no cells. -/
theorem wpList_joinV0 {ops : Array Oper} {rest : List Oper} {o : Oper} {a : Act} {Q : Exit → Act → World → Prop} {w : World} (hgd : o.guard = none) (s x : Operand)
    (ho : o.op = .call { callee := .builtin .append, args := #[s, x], argTypes := #[26, 26] })
    (B : Nat) (v : Value) (vs : List Value) (hs : a.eval s = v) (hf : FreshV B w v vs) (hx : a.eval x = .slice none 0 0)
    (h : ∀ v' w', FreshV B w' v' vs → w.grownBy w' v.ownBlock → Kept B w w' → wpList Try.prog ops Q rest (a.put o.dst v') w') : wpList Try.prog ops Q (o :: rest) a w := by
  obtain ⟨i0, hi, hz0, hz1, hz2⟩ := info_parts Try.infoInts
  exact wpList_append_own_none hgd s x 26 ho B 49 i0 1 Try.underlying26 hi v vs.length _ hs hf hx (h v w hf ⟨rfl, rfl, rfl, Nat.le_refl _, fun _ _ _ => rfl⟩ (fun w0 hx0 _ => hx0))
/-- .. x of the call's own, too. -/
theorem wpList_joinVV {ops : Array Oper} {rest : List Oper} {o : Oper} {a : Act} {Q : Exit → Act → World → Prop} {w : World} (hgd : o.guard = none) (s x : Operand)
    (ho : o.op = .call { callee := .builtin .append, args := #[s, x], argTypes := #[26, 26] })
    (B B2 : Nat) (v u : Value) (vs us : List Value) (hs : a.eval s = v) (hf : FreshV B w v vs) (hx : a.eval x = u) (hu : FreshV B2 w u us) (h1 : ∀ u ∈ us, u.oneCell' = true) (hl : vs.length + us.length ≤ 1048576) (hB : B ≤ w.heap.size)
    (h : ∀ v' w', FreshV B w' v' (vs ++ us) → w.grownBy w' v.ownBlock → Kept B w w' → wpList Try.prog ops Q rest (a.put o.dst v') w') : wpList Try.prog ops Q (o :: rest) a w := by
  have hu0 : w.ownsRow B2 49 1 u us.length us := hu
  rcases hu0.2 with ⟨rfl, hn⟩ | ⟨g, cap, cur, rfl, _⟩
  · obtain rfl : us = [] := List.eq_nil_of_length_eq_zero hn
    refine wpList_joinV0 hgd s x ho B v vs hs hf hx (fun v' w' f g k => h v' w' (by rw [List.append_nil]; exact f) g k)
  · refine wpList_joinVn hgd s x ho B v vs us hs hf g 0 us.length cap rfl hx (fun j z hz => ?_) h1 hl hB h
    rw [Nat.zero_add]
    exact hu.at rfl hz

set_option maxHeartbeats 4000000 in
set_option maxRecDepth 100000 in
theorem l6Insert_some (b off cap : Nat) (xv : Value) (vs : List Value) (L : List (Nat × Nat)) (x : Nat × Nat) (w : World) (hlen : vs.length = L.length) (hcap : vs.length ≤ cap) (hcm : cap ≤ maxLen)
    (hc : ∀ j z, vs[j]? = some z → w.cell? ⟨b, off + j, none⟩ = some z) (hrow : ∀ (j : Nat) (u : Value) (x : Nat × Nat), vs[j]? = some u → L[j]? = some x → Ints w u (pairOf x)) (hx : Ints w xv (pairOf x)) (hl : L.length ≤ 1000) (m : Nat) (hm : m = vs.length) :
    Calls Try.prog 53 #[.slice (some ⟨b, off, none⟩) m cap, xv] w (fun e w' => ∃ v', e = .returned v' ∧ FreshV w.heap.size w' v' (vs.take (insK L x) ++ [xv] ++ vs.drop (insK L x)) ∧ Ext w w') := by
  obtain ⟨bx, ox, cx, rfl, x0, x1⟩ := pair_at hx
  have hmc : m ≤ cap := by omega
  have hone : ∀ u ∈ vs, u.oneCell' = true := fun u hu => by
    obtain ⟨j, hj, e⟩ := List.getElem_of_mem hu
    have hj' : j < L.length := by omega
    obtain ⟨_, _, rfl, _⟩ := hrow j u L[j] (by rw [List.getElem?_eq_getElem hj, e]) (List.getElem?_eq_getElem hj')
    rfl
  have HM := Lib.hid hm
  have HLEN := Lib.hid hlen
  have HROW := Lib.hid hrow
  have HC := Lib.hid hc
  have HONE := Lib.hid hone
  have hm1 : m ≤ 1000 := by omega
  unfold maxLen at hcm
  clear hm hlen hrow hc hx hcap hone
  go_enter Try.func53, Try.ntmps53
  go_wp2
  go_loopw [5] (fun i wr => ∃ k : Nat, k ≤ m ∧ i = .int .i64 k ∧ Hid (insK L x = insAt L x k) ∧ Hid (Ext w wr)) (fun i _ => (intOf i).toNat)
  case atStart => exact ⟨m, Nat.le_refl _, rfl, Lib.hid (by unfold insK; rw [← HLEN.out, ← HM.out]), Lib.hid (Ext.refl _)⟩
  case round =>
    obtain ⟨k, hk, rfl, HI, HX⟩ := hrel
    by_cases hk0 : k = 0
    · subst hk0
      have HK : Hid (insK L x = 0) := Lib.hid (by rw [HI.out]; rfl)
      have n0 : decide ((0 : Int) < 0) = false := by decide
      clear HI
      go_wp2_with fail
      go_quiet (fail)
      have hk1 : 0 ≤ cap := by omega
      have XW : Hid (Ext w (wr.drewN nq)) := Lib.hid (HX.out.drewN _)
      obtain ⟨W, hW⟩ : ∃ W, W = wr.drewN nq := ⟨_, rfl⟩
      rw [← hW] at XW ⊢
      clear hW HX
      obtain ⟨tk, htk⟩ : ∃ tk, tk = vs.take 0 := ⟨_, rfl⟩
      obtain ⟨dr, hdr⟩ : ∃ dr, dr = vs.drop 0 := ⟨_, rfl⟩
      have hd1 : dr.length = m - 0 := by rw [hdr, List.length_drop, ← HM.out]
      have ht1 : tk.length = 0 := by rw [htk, List.length_take, ← HM.out]; omega
      have HTK := Lib.hid htk
      have HDR := Lib.hid hdr
      have HD1 := Lib.hid hd1
      have HT1 := Lib.hid ht1
      have HSW : Hid (w.heap.size ≤ (W.alloc (.cells #[] 49)).heap.size) := Lib.hid (Nat.le_trans XW.out.size (Ext.alloc1 _ _).size)
      have HBND : Hid (([] : List Value).length + dr.length ≤ 1048576) := Lib.hid (by rw [hd1]; simp only [List.length_nil]; omega)
      clear hd1 ht1 htk hdr
      by_cases hkc : cap = 0
      · have hmk : m - 0 = 0 := by omega
        have hm2 : m = 0 := by omega
        clear hmk
        subst hkc
        subst hm2
        have HD0 : Hid (dr.length = 0) := Lib.hid (by have := HD1.out; omega)
        clear HD1
        have HD1 := HD0
        clear HD0
        go_wp2_with (at_builtin; go_loud (refine wpList_joinVn rfl _ _ rfl w.heap.size _ [] dr rfl (freshV_lit W w.heap.size XW.out.size) b _ 0 _ HD1.out rfl ?_ (fun u hu => HONE.out u (List.mem_of_mem_drop (by rw [← HDR.out]; exact hu))) HBND.out HSW.out ?_))
        · intro j z hz
          rw [List.eq_nil_of_length_eq_zero HD1.out] at hz
          simp at hz
        intro v2 w2 f2 hg2 hk2
        have F2 : Hid (FreshV w.heap.size w2 v2 dr) := Lib.hid (by simpa using f2)
        have X2 := Lib.hid (hk2 w (XW.out.alloc _) (Nat.le_refl _))
        have XB2 : Hid (Ext w (w2.alloc (.cells #[] 49))) := Lib.hid (X2.out.alloc _)
        have HSB2 : Hid (w2.heap.size ≤ (w2.alloc (.cells #[] 49)).heap.size) := Lib.hid (Ext.alloc1 _ _).size
        have HB2 : Hid (([] : List Value).length + tk.length ≤ 1048576) := Lib.hid (by rw [HT1.out]; simp only [List.length_nil]; omega)
        clear f2 hg2 hk2 XW HBND HSW
        go_wp2_with (at_builtin; refine wpList_joinVn rfl _ _ rfl w2.heap.size _ [] tk rfl (freshV_lit w2 w2.heap.size (Nat.le_refl _)) b off _ _ HT1.out rfl ?_ (fun u hu => HONE.out u (List.mem_of_mem_take (by rw [← HTK.out]; exact hu))) HB2.out HSB2.out ?_)
        · intro j z hz
          rw [HTK.out, List.getElem?_take] at hz
          split at hz
          · exact XB2.out.cell (HC.out _ _ hz)
          · cases hz
        intro v3 w3 f3 hg3 hk3
        have F3 : Hid (FreshV w2.heap.size (w3.alloc (.cells #[.slice (some ⟨bx, ox, none⟩) 2 cx] 49)) v3 tk) := Lib.hid ((show FreshV w2.heap.size w3 v3 tk by simpa using f3).ext (Ext.alloc1 w3 (.cells #[.slice (some ⟨bx, ox, none⟩) 2 cx] 49)))
        have X3 := Lib.hid (hk3 w2 (Ext.alloc1 _ _) (Nat.le_refl _))
        have HL3 : Hid (tk.length ≤ 1048576) := Lib.hid (by rw [HT1.out]; omega)
        have HS3 : Hid (w2.heap.size ≤ (w3.alloc (.cells #[.slice (some ⟨bx, ox, none⟩) 2 cx] 49)).heap.size) := Lib.hid (Nat.le_trans X3.out.size (Ext.alloc1 _ _).size)
        clear f3 hg3 hk3 HB2 XB2
        go_wp2_with (at_builtin; refine wpList_pushV rfl _ _ rfl w2.heap.size _ tk rfl F3.out (.slice (some ⟨bx, ox, none⟩) 2 cx) ⟨w3.heap.size, 0, none⟩ 1 rfl (cell_alloc_one _ _ _) rfl HL3.out HS3.out ?_)
        intro v4 w4 f4 hg4 hk4
        have F4 := Lib.hid f4
        have X4 := Lib.hid (hk4 w2 (X3.out.alloc _) (Nat.le_refl _))
        have G4 : Hid (FreshV w.heap.size w4 v2 dr) := Lib.hid (F2.out.ext X4.out)
        have HO4 : Hid (∀ u ∈ dr, u.oneCell' = true) := Lib.hid (fun u hu => HONE.out u (List.mem_of_mem_drop (by rw [← HDR.out]; exact hu)))
        have HL4 : Hid ((tk ++ [Value.slice (some ⟨bx, ox, none⟩) 2 cx]).length + dr.length ≤ 1048576) := Lib.hid (by
          have h1 := HT1.out
          have h2 := HD1.out
          simp only [List.length_append, h1, h2, List.length_cons, List.length_nil]
          omega)
        clear f4 hg4 hk4 HL3 HS3 F3 F2
        go_wp2_with (at_builtin; refine wpList_joinVV rfl _ _ rfl w2.heap.size w.heap.size _ v2 _ dr rfl F4.out rfl G4.out HO4.out HL4.out X4.out.size ?_)
        intro v5 w5 f5 hg5 hk5
        have F5 := Lib.hid (f5.more X2.out.size)
        have X5 := Lib.hid (X2.out.trans (hk5 w2 X4.out (Nat.le_refl _)))
        clear f5 hg5 hk5 HL4 HO4 G4 F4
        go_wp2
        go_ret
        rw [HK.out, ← HTK.out, ← HDR.out]
        exact ⟨_, rfl, (by simpa using F5.out), X5.out⟩
      · go_wp2_with (at_builtin; refine wpList_joinVn rfl _ _ rfl w.heap.size _ [] dr rfl (freshV_lit W w.heap.size XW.out.size) b _ (m - 0) _ HD1.out rfl ?_ (fun u hu => HONE.out u (List.mem_of_mem_drop (by rw [← HDR.out]; exact hu))) HBND.out HSW.out ?_)
        · intro j z hz
          rw [HDR.out, List.getElem?_drop] at hz
          have h := ((XW.out.alloc (.cells #[] 49)).cell (HC.out _ _ hz))
          simpa [Nat.add_assoc] using h
        intro v2 w2 f2 hg2 hk2
        have F2 : Hid (FreshV w.heap.size w2 v2 dr) := Lib.hid (by simpa using f2)
        have X2 := Lib.hid (hk2 w (XW.out.alloc _) (Nat.le_refl _))
        have XB2 : Hid (Ext w (w2.alloc (.cells #[] 49))) := Lib.hid (X2.out.alloc _)
        have HSB2 : Hid (w2.heap.size ≤ (w2.alloc (.cells #[] 49)).heap.size) := Lib.hid (Ext.alloc1 _ _).size
        have HB2 : Hid (([] : List Value).length + tk.length ≤ 1048576) := Lib.hid (by rw [HT1.out]; simp only [List.length_nil]; omega)
        clear f2 hg2 hk2 XW HBND HSW
        go_wp2_with (at_builtin; refine wpList_joinVn rfl _ _ rfl w2.heap.size _ [] tk rfl (freshV_lit w2 w2.heap.size (Nat.le_refl _)) b off 0 cap HT1.out rfl ?_ (fun u hu => HONE.out u (List.mem_of_mem_take (by rw [← HTK.out]; exact hu))) HB2.out HSB2.out ?_)
        · intro j z hz
          rw [HTK.out, List.getElem?_take] at hz
          split at hz
          · exact XB2.out.cell (HC.out _ _ hz)
          · cases hz
        intro v3 w3 f3 hg3 hk3
        have F3 : Hid (FreshV w2.heap.size (w3.alloc (.cells #[.slice (some ⟨bx, ox, none⟩) 2 cx] 49)) v3 tk) := Lib.hid ((show FreshV w2.heap.size w3 v3 tk by simpa using f3).ext (Ext.alloc1 w3 (.cells #[.slice (some ⟨bx, ox, none⟩) 2 cx] 49)))
        have X3 := Lib.hid (hk3 w2 (Ext.alloc1 _ _) (Nat.le_refl _))
        have HL3 : Hid (tk.length ≤ 1048576) := Lib.hid (by rw [HT1.out]; omega)
        have HS3 : Hid (w2.heap.size ≤ (w3.alloc (.cells #[.slice (some ⟨bx, ox, none⟩) 2 cx] 49)).heap.size) := Lib.hid (Nat.le_trans X3.out.size (Ext.alloc1 _ _).size)
        clear f3 hg3 hk3 HB2 XB2
        go_wp2_with (at_builtin; refine wpList_pushV rfl _ _ rfl w2.heap.size _ tk rfl F3.out (.slice (some ⟨bx, ox, none⟩) 2 cx) ⟨w3.heap.size, 0, none⟩ 1 rfl (cell_alloc_one _ _ _) rfl HL3.out HS3.out ?_)
        intro v4 w4 f4 hg4 hk4
        have F4 := Lib.hid f4
        have X4 := Lib.hid (hk4 w2 (X3.out.alloc _) (Nat.le_refl _))
        have G4 : Hid (FreshV w.heap.size w4 v2 dr) := Lib.hid (F2.out.ext X4.out)
        have HO4 : Hid (∀ u ∈ dr, u.oneCell' = true) := Lib.hid (fun u hu => HONE.out u (List.mem_of_mem_drop (by rw [← HDR.out]; exact hu)))
        have HL4 : Hid ((tk ++ [Value.slice (some ⟨bx, ox, none⟩) 2 cx]).length + dr.length ≤ 1048576) := Lib.hid (by
          have h1 := HT1.out
          have h2 := HD1.out
          simp only [List.length_append, h1, h2, List.length_cons, List.length_nil]
          omega)
        clear f4 hg4 hk4 HL3 HS3 F3 F2
        go_wp2_with (at_builtin; refine wpList_joinVV rfl _ _ rfl w2.heap.size w.heap.size _ v2 _ dr rfl F4.out rfl G4.out HO4.out HL4.out X4.out.size ?_)
        intro v5 w5 f5 hg5 hk5
        have F5 := Lib.hid (f5.more X2.out.size)
        have X5 := Lib.hid (X2.out.trans (hk5 w2 X4.out (Nat.le_refl _)))
        clear f5 hg5 hk5 HL4 HO4 G4 F4
        go_wp2
        go_ret
        rw [HK.out, ← HTK.out, ← HDR.out]
        exact ⟨_, rfl, (by simpa using F5.out), X5.out⟩
    · obtain ⟨k', rfl⟩ : ∃ k', k = k' + 1 := ⟨k - 1, by omega⟩
      have hkl : k' < L.length := by have := HLEN.out; have := HM.out; omega
      have hkv : k' < vs.length := by have := HM.out; omega
      obtain ⟨y, hy⟩ : ∃ y, y = L[k'] := ⟨_, rfl⟩
      have gv := HX.out.cell (HC.out k' _ (List.getElem?_eq_getElem hkv))
      have iy := HROW.out k' _ y (List.getElem?_eq_getElem hkv) (by rw [hy]; exact List.getElem?_eq_getElem hkl)
      obtain ⟨by_, oy, cy, hvy, y0, y1⟩ := pair_at (iy.ext HX.out)
      rw [hvy] at gv
      have f0 := HX.out.cell x0
      have f1 := HX.out.cell x1
      have hw : IntKind.i64.wrap (((k' + 1 : Nat) : Int) - 1) = (k' : Int) := by rw [show (((k' + 1 : Nat) : Int) - 1) = k' by omega]; exact IntWalk.i64_in _ (by omega)
      have hin : insAt L x (k' + 1) = if lexL x y then insAt L x k' else k' + 1 := by
        show (match L[k']? with
          | some y => if lexL x y then insAt L x k' else k' + 1
          | none => k' + 1) = _
        rw [List.getElem?_eq_getElem hkl, hy]
      have HIN := Lib.hid hin
      have p0 : (0 : Int) < ((k' + 1 : Nat) : Int) := by omega
      have b0 : decide ((0 : Int) < ((k' + 1 : Nat) : Int)) = true := decide_eq_true p0
      obtain ⟨X1, hX1⟩ : ∃ X1 : Int, X1 = (x.1 : Int) := ⟨_, rfl⟩
      obtain ⟨X2, hX2⟩ : ∃ X2 : Int, X2 = (x.2 : Int) + 1 := ⟨_, rfl⟩
      obtain ⟨Y1, hY1⟩ : ∃ Y1 : Int, Y1 = (y.1 : Int) := ⟨_, rfl⟩
      obtain ⟨Y2, hY2⟩ : ∃ Y2 : Int, Y2 = (y.2 : Int) + 1 := ⟨_, rfl⟩
      rw [← hX1] at f0
      rw [← hX2] at f1
      rw [← hY1] at y0
      rw [← hY2] at y1
      have HEQ := Lib.hid (And.intro (And.intro hX1 hX2) (And.intro hY1 hY2))
      clear iy hvy hin hy hX1 hX2 hY1 hY2 x0 x1
      by_cases hc1' : X1 < Y1
      · have b1 : decide (X1 < Y1) = true := decide_eq_true hc1'
        have nl : lexL x y := by unfold lexL; have := HEQ.out; omega
        have HK : Hid (insK L x = insAt L x k') := Lib.hid (by rw [HI.out, HIN.out, if_pos nl])
        clear HIN nl hc1'
        clear HI
        go_wp2_with fail
        go_quiet (fail)
        go_wp2
        go_roundw
        case rel => exact ⟨k', by omega, by go_num, HK, Lib.hid (HX.out.drewN _)⟩
        case measure => first | (simp [intOf]; done) | (simp [intOf]; omega)
      · by_cases hc2' : Y1 = X1
        · have b1 : decide (X1 < Y1) = false := decide_eq_false hc1'
          have b2 : (Y1 == X1) = true := by simpa using hc2'
          by_cases hc3' : X2 < Y2
          · have b3 : decide (X2 < Y2) = true := decide_eq_true hc3'
            have nl : lexL x y := by unfold lexL; have := HEQ.out; omega
            have HK : Hid (insK L x = insAt L x k') := Lib.hid (by rw [HI.out, HIN.out, if_pos nl])
            clear HIN nl hc1' hc2' hc3'
            clear HI
            go_wp2_with fail
            go_quiet (fail)
            go_wp2
            go_roundw
            case rel => exact ⟨k', by omega, by go_num, HK, Lib.hid (HX.out.drewN _)⟩
            case measure => first | (simp [intOf]; done) | (simp [intOf]; omega)
          · have b3 : decide (X2 < Y2) = false := decide_eq_false hc3'
            have nl : ¬ lexL x y := by unfold lexL; have := HEQ.out; omega
            have HK : Hid (insK L x = k' + 1) := Lib.hid (by rw [HI.out, HIN.out, if_neg nl])
            clear HIN nl hc1' hc2' hc3'
            clear HI
            go_wp2_with fail
            go_quiet (fail)
            have hk1 : (k' + 1) ≤ cap := by omega
            have XW : Hid (Ext w (wr.drewN nq)) := Lib.hid (HX.out.drewN _)
            obtain ⟨W, hW⟩ : ∃ W, W = wr.drewN nq := ⟨_, rfl⟩
            rw [← hW] at XW ⊢
            clear hW HX
            obtain ⟨tk, htk⟩ : ∃ tk, tk = vs.take (k' + 1) := ⟨_, rfl⟩
            obtain ⟨dr, hdr⟩ : ∃ dr, dr = vs.drop (k' + 1) := ⟨_, rfl⟩
            have hd1 : dr.length = m - (k' + 1) := by rw [hdr, List.length_drop, ← HM.out]
            have ht1 : tk.length = (k' + 1) := by rw [htk, List.length_take, ← HM.out]; omega
            have HTK := Lib.hid htk
            have HDR := Lib.hid hdr
            have HD1 := Lib.hid hd1
            have HT1 := Lib.hid ht1
            have HSW : Hid (w.heap.size ≤ (W.alloc (.cells #[] 49)).heap.size) := Lib.hid (Nat.le_trans XW.out.size (Ext.alloc1 _ _).size)
            have HBND : Hid (([] : List Value).length + dr.length ≤ 1048576) := Lib.hid (by rw [hd1]; simp only [List.length_nil]; omega)
            clear hd1 ht1 htk hdr
            by_cases hkc : cap = (k' + 1)
            · have hmk : m - (k' + 1) = 0 := by omega
              have hm2 : m = (k' + 1) := by omega
              clear hmk
              subst hkc
              subst hm2
              have HD0 : Hid (dr.length = 0) := Lib.hid (by have := HD1.out; omega)
              clear HD1
              have HD1 := HD0
              clear HD0
              go_wp2_with (at_builtin; go_loud (refine wpList_joinVn rfl _ _ rfl w.heap.size _ [] dr rfl (freshV_lit W w.heap.size XW.out.size) b _ 0 _ HD1.out rfl ?_ (fun u hu => HONE.out u (List.mem_of_mem_drop (by rw [← HDR.out]; exact hu))) HBND.out HSW.out ?_))
              · intro j z hz
                rw [List.eq_nil_of_length_eq_zero HD1.out] at hz
                simp at hz
              intro v2 w2 f2 hg2 hk2
              have F2 : Hid (FreshV w.heap.size w2 v2 dr) := Lib.hid (by simpa using f2)
              have X2 := Lib.hid (hk2 w (XW.out.alloc _) (Nat.le_refl _))
              have XB2 : Hid (Ext w (w2.alloc (.cells #[] 49))) := Lib.hid (X2.out.alloc _)
              have HSB2 : Hid (w2.heap.size ≤ (w2.alloc (.cells #[] 49)).heap.size) := Lib.hid (Ext.alloc1 _ _).size
              have HB2 : Hid (([] : List Value).length + tk.length ≤ 1048576) := Lib.hid (by rw [HT1.out]; simp only [List.length_nil]; omega)
              clear f2 hg2 hk2 XW HBND HSW
              go_wp2_with (at_builtin; refine wpList_joinVn rfl _ _ rfl w2.heap.size _ [] tk rfl (freshV_lit w2 w2.heap.size (Nat.le_refl _)) b off _ _ HT1.out rfl ?_ (fun u hu => HONE.out u (List.mem_of_mem_take (by rw [← HTK.out]; exact hu))) HB2.out HSB2.out ?_)
              · intro j z hz
                rw [HTK.out, List.getElem?_take] at hz
                split at hz
                · exact XB2.out.cell (HC.out _ _ hz)
                · cases hz
              intro v3 w3 f3 hg3 hk3
              have F3 : Hid (FreshV w2.heap.size (w3.alloc (.cells #[.slice (some ⟨bx, ox, none⟩) 2 cx] 49)) v3 tk) := Lib.hid ((show FreshV w2.heap.size w3 v3 tk by simpa using f3).ext (Ext.alloc1 w3 (.cells #[.slice (some ⟨bx, ox, none⟩) 2 cx] 49)))
              have X3 := Lib.hid (hk3 w2 (Ext.alloc1 _ _) (Nat.le_refl _))
              have HL3 : Hid (tk.length ≤ 1048576) := Lib.hid (by rw [HT1.out]; omega)
              have HS3 : Hid (w2.heap.size ≤ (w3.alloc (.cells #[.slice (some ⟨bx, ox, none⟩) 2 cx] 49)).heap.size) := Lib.hid (Nat.le_trans X3.out.size (Ext.alloc1 _ _).size)
              clear f3 hg3 hk3 HB2 XB2
              go_wp2_with (at_builtin; refine wpList_pushV rfl _ _ rfl w2.heap.size _ tk rfl F3.out (.slice (some ⟨bx, ox, none⟩) 2 cx) ⟨w3.heap.size, 0, none⟩ 1 rfl (cell_alloc_one _ _ _) rfl HL3.out HS3.out ?_)
              intro v4 w4 f4 hg4 hk4
              have F4 := Lib.hid f4
              have X4 := Lib.hid (hk4 w2 (X3.out.alloc _) (Nat.le_refl _))
              have G4 : Hid (FreshV w.heap.size w4 v2 dr) := Lib.hid (F2.out.ext X4.out)
              have HO4 : Hid (∀ u ∈ dr, u.oneCell' = true) := Lib.hid (fun u hu => HONE.out u (List.mem_of_mem_drop (by rw [← HDR.out]; exact hu)))
              have HL4 : Hid ((tk ++ [Value.slice (some ⟨bx, ox, none⟩) 2 cx]).length + dr.length ≤ 1048576) := Lib.hid (by
                have h1 := HT1.out
                have h2 := HD1.out
                simp only [List.length_append, h1, h2, List.length_cons, List.length_nil]
                omega)
              clear f4 hg4 hk4 HL3 HS3 F3 F2
              go_wp2_with (at_builtin; refine wpList_joinVV rfl _ _ rfl w2.heap.size w.heap.size _ v2 _ dr rfl F4.out rfl G4.out HO4.out HL4.out X4.out.size ?_)
              intro v5 w5 f5 hg5 hk5
              have F5 := Lib.hid (f5.more X2.out.size)
              have X5 := Lib.hid (X2.out.trans (hk5 w2 X4.out (Nat.le_refl _)))
              clear f5 hg5 hk5 HL4 HO4 G4 F4
              go_wp2
              go_ret
              rw [HK.out, ← HTK.out, ← HDR.out]
              exact ⟨_, rfl, (by simpa using F5.out), X5.out⟩
            · go_wp2_with (at_builtin; refine wpList_joinVn rfl _ _ rfl w.heap.size _ [] dr rfl (freshV_lit W w.heap.size XW.out.size) b _ (m - (k' + 1)) _ HD1.out rfl ?_ (fun u hu => HONE.out u (List.mem_of_mem_drop (by rw [← HDR.out]; exact hu))) HBND.out HSW.out ?_)
              · intro j z hz
                rw [HDR.out, List.getElem?_drop] at hz
                have h := ((XW.out.alloc (.cells #[] 49)).cell (HC.out _ _ hz))
                simpa [Nat.add_assoc] using h
              intro v2 w2 f2 hg2 hk2
              have F2 : Hid (FreshV w.heap.size w2 v2 dr) := Lib.hid (by simpa using f2)
              have X2 := Lib.hid (hk2 w (XW.out.alloc _) (Nat.le_refl _))
              have XB2 : Hid (Ext w (w2.alloc (.cells #[] 49))) := Lib.hid (X2.out.alloc _)
              have HSB2 : Hid (w2.heap.size ≤ (w2.alloc (.cells #[] 49)).heap.size) := Lib.hid (Ext.alloc1 _ _).size
              have HB2 : Hid (([] : List Value).length + tk.length ≤ 1048576) := Lib.hid (by rw [HT1.out]; simp only [List.length_nil]; omega)
              clear f2 hg2 hk2 XW HBND HSW
              go_wp2_with (at_builtin; refine wpList_joinVn rfl _ _ rfl w2.heap.size _ [] tk rfl (freshV_lit w2 w2.heap.size (Nat.le_refl _)) b off (k' + 1) cap HT1.out rfl ?_ (fun u hu => HONE.out u (List.mem_of_mem_take (by rw [← HTK.out]; exact hu))) HB2.out HSB2.out ?_)
              · intro j z hz
                rw [HTK.out, List.getElem?_take] at hz
                split at hz
                · exact XB2.out.cell (HC.out _ _ hz)
                · cases hz
              intro v3 w3 f3 hg3 hk3
              have F3 : Hid (FreshV w2.heap.size (w3.alloc (.cells #[.slice (some ⟨bx, ox, none⟩) 2 cx] 49)) v3 tk) := Lib.hid ((show FreshV w2.heap.size w3 v3 tk by simpa using f3).ext (Ext.alloc1 w3 (.cells #[.slice (some ⟨bx, ox, none⟩) 2 cx] 49)))
              have X3 := Lib.hid (hk3 w2 (Ext.alloc1 _ _) (Nat.le_refl _))
              have HL3 : Hid (tk.length ≤ 1048576) := Lib.hid (by rw [HT1.out]; omega)
              have HS3 : Hid (w2.heap.size ≤ (w3.alloc (.cells #[.slice (some ⟨bx, ox, none⟩) 2 cx] 49)).heap.size) := Lib.hid (Nat.le_trans X3.out.size (Ext.alloc1 _ _).size)
              clear f3 hg3 hk3 HB2 XB2
              go_wp2_with (at_builtin; refine wpList_pushV rfl _ _ rfl w2.heap.size _ tk rfl F3.out (.slice (some ⟨bx, ox, none⟩) 2 cx) ⟨w3.heap.size, 0, none⟩ 1 rfl (cell_alloc_one _ _ _) rfl HL3.out HS3.out ?_)
              intro v4 w4 f4 hg4 hk4
              have F4 := Lib.hid f4
              have X4 := Lib.hid (hk4 w2 (X3.out.alloc _) (Nat.le_refl _))
              have G4 : Hid (FreshV w.heap.size w4 v2 dr) := Lib.hid (F2.out.ext X4.out)
              have HO4 : Hid (∀ u ∈ dr, u.oneCell' = true) := Lib.hid (fun u hu => HONE.out u (List.mem_of_mem_drop (by rw [← HDR.out]; exact hu)))
              have HL4 : Hid ((tk ++ [Value.slice (some ⟨bx, ox, none⟩) 2 cx]).length + dr.length ≤ 1048576) := Lib.hid (by
                have h1 := HT1.out
                have h2 := HD1.out
                simp only [List.length_append, h1, h2, List.length_cons, List.length_nil]
                omega)
              clear f4 hg4 hk4 HL3 HS3 F3 F2
              go_wp2_with (at_builtin; refine wpList_joinVV rfl _ _ rfl w2.heap.size w.heap.size _ v2 _ dr rfl F4.out rfl G4.out HO4.out HL4.out X4.out.size ?_)
              intro v5 w5 f5 hg5 hk5
              have F5 := Lib.hid (f5.more X2.out.size)
              have X5 := Lib.hid (X2.out.trans (hk5 w2 X4.out (Nat.le_refl _)))
              clear f5 hg5 hk5 HL4 HO4 G4 F4
              go_wp2
              go_ret
              rw [HK.out, ← HTK.out, ← HDR.out]
              exact ⟨_, rfl, (by simpa using F5.out), X5.out⟩
        · have b1 : decide (X1 < Y1) = false := decide_eq_false hc1'
          have b2 : (Y1 == X1) = false := by simpa using hc2'
          have nl : ¬ lexL x y := by unfold lexL; have := HEQ.out; omega
          have HK : Hid (insK L x = k' + 1) := Lib.hid (by rw [HI.out, HIN.out, if_neg nl])
          clear HIN nl hc1' hc2'
          clear HI
          go_wp2_with fail
          go_quiet (fail)
          have hk1 : (k' + 1) ≤ cap := by omega
          have XW : Hid (Ext w (wr.drewN nq)) := Lib.hid (HX.out.drewN _)
          obtain ⟨W, hW⟩ : ∃ W, W = wr.drewN nq := ⟨_, rfl⟩
          rw [← hW] at XW ⊢
          clear hW HX
          obtain ⟨tk, htk⟩ : ∃ tk, tk = vs.take (k' + 1) := ⟨_, rfl⟩
          obtain ⟨dr, hdr⟩ : ∃ dr, dr = vs.drop (k' + 1) := ⟨_, rfl⟩
          have hd1 : dr.length = m - (k' + 1) := by rw [hdr, List.length_drop, ← HM.out]
          have ht1 : tk.length = (k' + 1) := by rw [htk, List.length_take, ← HM.out]; omega
          have HTK := Lib.hid htk
          have HDR := Lib.hid hdr
          have HD1 := Lib.hid hd1
          have HT1 := Lib.hid ht1
          have HSW : Hid (w.heap.size ≤ (W.alloc (.cells #[] 49)).heap.size) := Lib.hid (Nat.le_trans XW.out.size (Ext.alloc1 _ _).size)
          have HBND : Hid (([] : List Value).length + dr.length ≤ 1048576) := Lib.hid (by rw [hd1]; simp only [List.length_nil]; omega)
          clear hd1 ht1 htk hdr
          by_cases hkc : cap = (k' + 1)
          · have hmk : m - (k' + 1) = 0 := by omega
            have hm2 : m = (k' + 1) := by omega
            clear hmk
            subst hkc
            subst hm2
            have HD0 : Hid (dr.length = 0) := Lib.hid (by have := HD1.out; omega)
            clear HD1
            have HD1 := HD0
            clear HD0
            go_wp2_with (at_builtin; go_loud (refine wpList_joinVn rfl _ _ rfl w.heap.size _ [] dr rfl (freshV_lit W w.heap.size XW.out.size) b _ 0 _ HD1.out rfl ?_ (fun u hu => HONE.out u (List.mem_of_mem_drop (by rw [← HDR.out]; exact hu))) HBND.out HSW.out ?_))
            · intro j z hz
              rw [List.eq_nil_of_length_eq_zero HD1.out] at hz
              simp at hz
            intro v2 w2 f2 hg2 hk2
            have F2 : Hid (FreshV w.heap.size w2 v2 dr) := Lib.hid (by simpa using f2)
            have X2 := Lib.hid (hk2 w (XW.out.alloc _) (Nat.le_refl _))
            have XB2 : Hid (Ext w (w2.alloc (.cells #[] 49))) := Lib.hid (X2.out.alloc _)
            have HSB2 : Hid (w2.heap.size ≤ (w2.alloc (.cells #[] 49)).heap.size) := Lib.hid (Ext.alloc1 _ _).size
            have HB2 : Hid (([] : List Value).length + tk.length ≤ 1048576) := Lib.hid (by rw [HT1.out]; simp only [List.length_nil]; omega)
            clear f2 hg2 hk2 XW HBND HSW
            go_wp2_with (at_builtin; refine wpList_joinVn rfl _ _ rfl w2.heap.size _ [] tk rfl (freshV_lit w2 w2.heap.size (Nat.le_refl _)) b off _ _ HT1.out rfl ?_ (fun u hu => HONE.out u (List.mem_of_mem_take (by rw [← HTK.out]; exact hu))) HB2.out HSB2.out ?_)
            · intro j z hz
              rw [HTK.out, List.getElem?_take] at hz
              split at hz
              · exact XB2.out.cell (HC.out _ _ hz)
              · cases hz
            intro v3 w3 f3 hg3 hk3
            have F3 : Hid (FreshV w2.heap.size (w3.alloc (.cells #[.slice (some ⟨bx, ox, none⟩) 2 cx] 49)) v3 tk) := Lib.hid ((show FreshV w2.heap.size w3 v3 tk by simpa using f3).ext (Ext.alloc1 w3 (.cells #[.slice (some ⟨bx, ox, none⟩) 2 cx] 49)))
            have X3 := Lib.hid (hk3 w2 (Ext.alloc1 _ _) (Nat.le_refl _))
            have HL3 : Hid (tk.length ≤ 1048576) := Lib.hid (by rw [HT1.out]; omega)
            have HS3 : Hid (w2.heap.size ≤ (w3.alloc (.cells #[.slice (some ⟨bx, ox, none⟩) 2 cx] 49)).heap.size) := Lib.hid (Nat.le_trans X3.out.size (Ext.alloc1 _ _).size)
            clear f3 hg3 hk3 HB2 XB2
            go_wp2_with (at_builtin; refine wpList_pushV rfl _ _ rfl w2.heap.size _ tk rfl F3.out (.slice (some ⟨bx, ox, none⟩) 2 cx) ⟨w3.heap.size, 0, none⟩ 1 rfl (cell_alloc_one _ _ _) rfl HL3.out HS3.out ?_)
            intro v4 w4 f4 hg4 hk4
            have F4 := Lib.hid f4
            have X4 := Lib.hid (hk4 w2 (X3.out.alloc _) (Nat.le_refl _))
            have G4 : Hid (FreshV w.heap.size w4 v2 dr) := Lib.hid (F2.out.ext X4.out)
            have HO4 : Hid (∀ u ∈ dr, u.oneCell' = true) := Lib.hid (fun u hu => HONE.out u (List.mem_of_mem_drop (by rw [← HDR.out]; exact hu)))
            have HL4 : Hid ((tk ++ [Value.slice (some ⟨bx, ox, none⟩) 2 cx]).length + dr.length ≤ 1048576) := Lib.hid (by
              have h1 := HT1.out
              have h2 := HD1.out
              simp only [List.length_append, h1, h2, List.length_cons, List.length_nil]
              omega)
            clear f4 hg4 hk4 HL3 HS3 F3 F2
            go_wp2_with (at_builtin; refine wpList_joinVV rfl _ _ rfl w2.heap.size w.heap.size _ v2 _ dr rfl F4.out rfl G4.out HO4.out HL4.out X4.out.size ?_)
            intro v5 w5 f5 hg5 hk5
            have F5 := Lib.hid (f5.more X2.out.size)
            have X5 := Lib.hid (X2.out.trans (hk5 w2 X4.out (Nat.le_refl _)))
            clear f5 hg5 hk5 HL4 HO4 G4 F4
            go_wp2
            go_ret
            rw [HK.out, ← HTK.out, ← HDR.out]
            exact ⟨_, rfl, (by simpa using F5.out), X5.out⟩
          · go_wp2_with (at_builtin; refine wpList_joinVn rfl _ _ rfl w.heap.size _ [] dr rfl (freshV_lit W w.heap.size XW.out.size) b _ (m - (k' + 1)) _ HD1.out rfl ?_ (fun u hu => HONE.out u (List.mem_of_mem_drop (by rw [← HDR.out]; exact hu))) HBND.out HSW.out ?_)
            · intro j z hz
              rw [HDR.out, List.getElem?_drop] at hz
              have h := ((XW.out.alloc (.cells #[] 49)).cell (HC.out _ _ hz))
              simpa [Nat.add_assoc] using h
            intro v2 w2 f2 hg2 hk2
            have F2 : Hid (FreshV w.heap.size w2 v2 dr) := Lib.hid (by simpa using f2)
            have X2 := Lib.hid (hk2 w (XW.out.alloc _) (Nat.le_refl _))
            have XB2 : Hid (Ext w (w2.alloc (.cells #[] 49))) := Lib.hid (X2.out.alloc _)
            have HSB2 : Hid (w2.heap.size ≤ (w2.alloc (.cells #[] 49)).heap.size) := Lib.hid (Ext.alloc1 _ _).size
            have HB2 : Hid (([] : List Value).length + tk.length ≤ 1048576) := Lib.hid (by rw [HT1.out]; simp only [List.length_nil]; omega)
            clear f2 hg2 hk2 XW HBND HSW
            go_wp2_with (at_builtin; refine wpList_joinVn rfl _ _ rfl w2.heap.size _ [] tk rfl (freshV_lit w2 w2.heap.size (Nat.le_refl _)) b off (k' + 1) cap HT1.out rfl ?_ (fun u hu => HONE.out u (List.mem_of_mem_take (by rw [← HTK.out]; exact hu))) HB2.out HSB2.out ?_)
            · intro j z hz
              rw [HTK.out, List.getElem?_take] at hz
              split at hz
              · exact XB2.out.cell (HC.out _ _ hz)
              · cases hz
            intro v3 w3 f3 hg3 hk3
            have F3 : Hid (FreshV w2.heap.size (w3.alloc (.cells #[.slice (some ⟨bx, ox, none⟩) 2 cx] 49)) v3 tk) := Lib.hid ((show FreshV w2.heap.size w3 v3 tk by simpa using f3).ext (Ext.alloc1 w3 (.cells #[.slice (some ⟨bx, ox, none⟩) 2 cx] 49)))
            have X3 := Lib.hid (hk3 w2 (Ext.alloc1 _ _) (Nat.le_refl _))
            have HL3 : Hid (tk.length ≤ 1048576) := Lib.hid (by rw [HT1.out]; omega)
            have HS3 : Hid (w2.heap.size ≤ (w3.alloc (.cells #[.slice (some ⟨bx, ox, none⟩) 2 cx] 49)).heap.size) := Lib.hid (Nat.le_trans X3.out.size (Ext.alloc1 _ _).size)
            clear f3 hg3 hk3 HB2 XB2
            go_wp2_with (at_builtin; refine wpList_pushV rfl _ _ rfl w2.heap.size _ tk rfl F3.out (.slice (some ⟨bx, ox, none⟩) 2 cx) ⟨w3.heap.size, 0, none⟩ 1 rfl (cell_alloc_one _ _ _) rfl HL3.out HS3.out ?_)
            intro v4 w4 f4 hg4 hk4
            have F4 := Lib.hid f4
            have X4 := Lib.hid (hk4 w2 (X3.out.alloc _) (Nat.le_refl _))
            have G4 : Hid (FreshV w.heap.size w4 v2 dr) := Lib.hid (F2.out.ext X4.out)
            have HO4 : Hid (∀ u ∈ dr, u.oneCell' = true) := Lib.hid (fun u hu => HONE.out u (List.mem_of_mem_drop (by rw [← HDR.out]; exact hu)))
            have HL4 : Hid ((tk ++ [Value.slice (some ⟨bx, ox, none⟩) 2 cx]).length + dr.length ≤ 1048576) := Lib.hid (by
              have h1 := HT1.out
              have h2 := HD1.out
              simp only [List.length_append, h1, h2, List.length_cons, List.length_nil]
              omega)
            clear f4 hg4 hk4 HL3 HS3 F3 F2
            go_wp2_with (at_builtin; refine wpList_joinVV rfl _ _ rfl w2.heap.size w.heap.size _ v2 _ dr rfl F4.out rfl G4.out HO4.out HL4.out X4.out.size ?_)
            intro v5 w5 f5 hg5 hk5
            have F5 := Lib.hid (f5.more X2.out.size)
            have X5 := Lib.hid (X2.out.trans (hk5 w2 X4.out (Nat.le_refl _)))
            clear f5 hg5 hk5 HL4 HO4 G4 F4
            go_wp2
            go_ret
            rw [HK.out, ← HTK.out, ← HDR.out]
            exact ⟨_, rfl, (by simpa using F5.out), X5.out⟩

end Go.Proofs.Ytkhdgmgacfhcgaa

namespace Go.Proofs.Ytkhdgmgacfhcgaa
open Go.RowKit Go.Maps
set_option linter.unusedVariables false

set_option maxHeartbeats 4000000 in
set_option maxRecDepth 100000 in
theorem l6Insert_nil (xv : Value) (x : Nat × Nat) (w : World) (hx : Ints w xv (pairOf x)) :
    Calls Try.prog 53 #[.slice none 0 0, xv] w (fun e w' => ∃ v', e = .returned v' ∧ FreshV w.heap.size w' v' [xv] ∧ Ext w w') := by
  obtain ⟨bx, ox, cx, rfl, x0, x1⟩ := pair_at hx
  clear hx
  go_enter Try.func53, Try.ntmps53
  go_wp2
  go_loopw [5] (fun i wr => ∃ k : Nat, k = 0 ∧ i = .int .i64 k ∧ Hid (Ext w wr)) (fun i _ => (intOf i).toNat)
  case atStart => exact ⟨0, rfl, rfl, Lib.hid (Ext.refl _)⟩
  case round =>
    obtain ⟨k, hk, rfl, HX⟩ := hrel
    subst hk
    have n0 : decide ((0 : Int) < 0) = false := by decide
    go_wp2_with fail
    go_quiet (fail)
    have XW : Hid (Ext w (wr.drewN nq)) := Lib.hid (HX.out.drewN _)
    obtain ⟨W, hW⟩ : ∃ W, W = wr.drewN nq := ⟨_, rfl⟩
    rw [← hW] at XW ⊢
    clear hW HX
    have HSW : Hid (w.heap.size ≤ (W.alloc (.cells #[] 49)).heap.size) := Lib.hid (Nat.le_trans XW.out.size (Ext.alloc1 _ _).size)
    go_wp2_with (at_builtin; refine wpList_joinV0 rfl _ _ rfl w.heap.size _ [] rfl (freshV_lit W w.heap.size XW.out.size) rfl ?_)
    intro v2 w2 f2 hg2 hk2
    have F2 : Hid (FreshV w.heap.size w2 v2 []) := Lib.hid f2
    have X2 := Lib.hid (hk2 w (XW.out.alloc _) (Nat.le_refl _))
    clear f2 hg2 hk2 XW HSW
    go_wp2_with (at_builtin; refine wpList_joinV0 rfl _ _ rfl w2.heap.size _ [] rfl (freshV_lit w2 w2.heap.size (Nat.le_refl _)) rfl ?_)
    intro v3 w3 f3 hg3 hk3
    have F3 : Hid (FreshV w2.heap.size (w3.alloc (.cells #[.slice (some ⟨bx, ox, none⟩) 2 cx] 49)) v3 []) := Lib.hid (f3.ext (Ext.alloc1 w3 (.cells #[.slice (some ⟨bx, ox, none⟩) 2 cx] 49)))
    have X3 := Lib.hid (hk3 w2 (Ext.alloc1 _ _) (Nat.le_refl _))
    have HL3 : Hid (([] : List Value).length ≤ 1048576) := Lib.hid (by simp only [List.length_nil]; omega)
    have HS3 : Hid (w2.heap.size ≤ (w3.alloc (.cells #[.slice (some ⟨bx, ox, none⟩) 2 cx] 49)).heap.size) := Lib.hid (Nat.le_trans X3.out.size (Ext.alloc1 _ _).size)
    clear f3 hg3 hk3
    go_wp2_with (at_builtin; refine wpList_pushV rfl _ _ rfl w2.heap.size _ [] rfl F3.out (.slice (some ⟨bx, ox, none⟩) 2 cx) ⟨w3.heap.size, 0, none⟩ 1 rfl (cell_alloc_one _ _ _) rfl HL3.out HS3.out ?_)
    intro v4 w4 f4 hg4 hk4
    have F4 := Lib.hid f4
    have X4 := Lib.hid (hk4 w2 (X3.out.alloc _) (Nat.le_refl _))
    have G4 : Hid (FreshV w.heap.size w4 v2 []) := Lib.hid (F2.out.ext X4.out)
    have HO4 : Hid (∀ u ∈ ([] : List Value), u.oneCell' = true) := Lib.hid (fun u hu => by cases hu)
    have HL4 : Hid ((([] : List Value) ++ [Value.slice (some ⟨bx, ox, none⟩) 2 cx]).length + ([] : List Value).length ≤ 1048576) := Lib.hid (by
      simp only [List.length_append, List.length_cons, List.length_nil]
      omega)
    clear f4 hg4 hk4 HL3 HS3 F3 F2
    go_wp2_with (at_builtin; refine wpList_joinVV rfl _ _ rfl w2.heap.size w.heap.size _ v2 _ [] rfl F4.out rfl G4.out HO4.out HL4.out X4.out.size ?_)
    intro v5 w5 f5 hg5 hk5
    have F5 := Lib.hid (f5.more X2.out.size)
    have X5 := Lib.hid (X2.out.trans (hk5 w2 X4.out (Nat.le_refl _)))
    clear f5 hg5 hk5 HL4 HO4 G4 F4
    go_wp2
    go_ret
    exact ⟨_, rfl, F5.out, X5.out⟩

/-- How the pairs come out, in new memory. -/
theorem l6Insert_any {sv xv : Value} {vs : List Value} {L : List (Nat × Nat)} {x : Nat × Nat} {w : World} (h : PairsAt w sv vs L) (hx : Ints w xv (pairOf x)) (hl : L.length ≤ 1000) :
    Calls Try.prog 53 #[sv, xv] w (fun e w' => ∃ v', e = .returned v' ∧ FreshV w.heap.size w' v' (vs.take (insK L x) ++ [xv] ++ vs.drop (insK L x)) ∧ Ext w w' ∧ PairsAt w' v' (vs.take (insK L x) ++ [xv] ++ vs.drop (insK L x)) (insL L x)) := by
  have key : ∀ (w' : World) (v' : Value), FreshV w.heap.size w' v' (vs.take (insK L x) ++ [xv] ++ vs.drop (insK L x)) → Ext w w' → PairsAt w' v' (vs.take (insK L x) ++ [xv] ++ vs.drop (insK L x)) (insL L x) := by
    intro w' v' f e
    have hk : insK L x ≤ L.length := insAt_le L x _
    refine ⟨?_, f.vals, ?_⟩
    · unfold insL
      simp only [List.length_append, List.length_take, List.length_drop, h.len]
      rfl
    · intro j u y hu hy
      unfold insL at hy
      have hlt : (vs.take (insK L x)).length = insK L x := by rw [List.length_take, h.len]; omega
      have hlt2 : (L.take (insK L x)).length = insK L x := by rw [List.length_take]; omega
      rw [List.append_assoc] at hu hy
      by_cases h1 : j < insK L x
      · rw [List.getElem?_append_left (by omega), List.getElem?_take, if_pos h1] at hu hy
        exact (h.row j u y hu hy).ext e
      · rw [List.getElem?_append_right (by omega)] at hu hy
        rw [hlt] at hu
        rw [hlt2] at hy
        by_cases h2 : j - insK L x = 0
        · rw [h2] at hu hy
          obtain rfl : xv = u := by simpa using hu
          obtain rfl : x = y := by simpa using hy
          exact hx.ext e
        · obtain ⟨i, hi⟩ : ∃ i, j - insK L x = i + 1 := ⟨j - insK L x - 1, by omega⟩
          rw [hi, List.singleton_append, List.getElem?_cons_succ, List.getElem?_drop] at hu hy
          exact (h.row _ u y hu hy).ext e
  rcases h.reads with ⟨rfl, rfl⟩ | ⟨b, off, cap, rfl, h1, h2, h3⟩
  · obtain rfl : L = [] := List.eq_nil_of_length_eq_zero h.len.symm
    refine (l6Insert_nil xv x w hx).mono ?_
    rintro e w1 ⟨v', rfl, f, e⟩
    exact ⟨v', rfl, f, e, key _ _ f e⟩
  · refine (l6Insert_some b off cap xv vs L x w h.len h1 h2 h3 h.row hx hl vs.length rfl).mono ?_
    rintro e w1 ⟨v', rfl, f, e⟩
    exact ⟨v', rfl, f, e, key _ _ f e⟩
end Go.Proofs.Ytkhdgmgacfhcgaa

namespace Go.Proofs.Ytkhdgmgacfhcgaa
open Go.RowKit
set_option linter.unusedVariables false

/-- An instance's two cells. -/
def cellsI (x : Nat × Nat) : List Value := [.int .i64 x.1, .int .i64 ((x.2 : Int) + 1)]
def flatI (L : List (Nat × Nat)) : List Value := L.flatMap cellsI
theorem flatI_len (L : List (Nat × Nat)) : (flatI L).length = L.length * 2 := by
  unfold flatI
  induction L with
  | nil => rfl
  | cons x t ih => rw [List.flatMap_cons, List.length_append, ih]; simp [cellsI]; omega
theorem flatI_at {L : List (Nat × Nat)} {j : Nat} (h : j < L.length) : (flatI L)[j * 2]? = some (.int .i64 (L[j].1 : Int)) ∧ (flatI L)[j * 2 + 1]? = some (.int .i64 ((L[j].2 : Int) + 1)) := by
  induction L generalizing j with
  | nil => simp at h
  | cons x t ih =>
    unfold flatI
    rw [List.flatMap_cons]
    cases j with
    | zero => simp [cellsI]
    | succ j =>
      have h' : j < t.length := by simpa using h
      obtain ⟨i1, i2⟩ := ih h'
      unfold flatI at i1 i2
      have e1 : (j + 1) * 2 = (cellsI x).length + j * 2 := by simp [cellsI]; omega
      refine ⟨?_, ?_⟩
      · rw [e1, List.getElem?_append_right (by omega), Nat.add_sub_cancel_left, i1]
        simp
      · rw [e1, Nat.add_assoc, List.getElem?_append_right (by omega), Nat.add_sub_cancel_left, i2]
        simp

/-- v is a slice of instances of a block that was made from block number B on. -/
def FreshIn (B : Nat) (w : World) (v : Value) (L : List (Nat × Nat)) : Prop := w.ownsRow B 64 2 v L.length (flatI L)
theorem FreshIn.nil (B : Nat) (w : World) : FreshIn B w (.slice none 0 0) [] := ⟨rfl, .inl ⟨rfl, rfl⟩⟩
theorem FreshIn.ext {B : Nat} {w w' : World} {v : Value} {L : List (Nat × Nat)} (h : FreshIn B w v L) (e : Ext w w') : FreshIn B w' v L := e.ownsRow h

/-- v is a slice that reads as the instances L in w. -/
def InstsAt (w : World) (v : Value) (L : List (Nat × Nat)) : Prop :=
  ∃ ao cap, v = .slice ao L.length cap ∧ L.length ≤ maxLen ∧ (L.length ≤ cap ∧ cap ≤ maxLen ∧ (ao = none → cap = 0)) ∧
    (0 < L.length → ∃ b off, ao = some ⟨b, off, none⟩ ∧ ∀ j (h : j < L.length), w.cell? ⟨b, off + j * 2, none⟩ = some (.int .i64 (L[j].1 : Int)) ∧ w.cell? ⟨b, off + j * 2 + 1, none⟩ = some (.int .i64 ((L[j].2 : Int) + 1)))
theorem InstsAt.ext {w w' : World} {v : Value} {L : List (Nat × Nat)} (h : InstsAt w v L) (e : Ext w w') : InstsAt w' v L := by
  obtain ⟨ao, cap, hv, hm, hcap, hc⟩ := h
  refine ⟨ao, cap, hv, hm, hcap, fun hp => ?_⟩
  obtain ⟨b, off, ha, hc⟩ := hc hp
  exact ⟨b, off, ha, fun j hj => ⟨e.cell (hc j hj).1, e.cell (hc j hj).2⟩⟩
theorem FreshIn.at {B : Nat} {w : World} {v : Value} {L : List (Nat × Nat)} (h : FreshIn B w v L) : InstsAt w v L := by
  rcases h.2 with ⟨rfl, hn⟩ | ⟨g, cap, cur, rfl, hb, hg, hnc, hcm, hcs, htake⟩
  · obtain rfl : L = [] := List.eq_nil_of_length_eq_zero hn
    exact ⟨none, 0, rfl, by simp, ⟨by simp, by simp, fun _ => rfl⟩, fun h => by simp at h⟩
  · refine ⟨some ⟨g, 0, none⟩, cap, rfl, by omega, ⟨by omega, by omega, fun h => by cases h⟩, fun _ => ⟨g, 0, rfl, fun j hj => ?_⟩⟩
    have hc1 := World.ownsRow.cellAt h (j * 2) (by omega)
    have hc2 := World.ownsRow.cellAt h (j * 2 + 1) (by omega)
    obtain ⟨f1, f2⟩ := flatI_at hj
    rw [Nat.zero_add]
    exact ⟨hc1.trans f1, hc2.trans f2⟩

theorem Try.infoInst : (Try.prog.info? 64).map (fun i => (i.zero, i.size, i.bytes)) = some (some (.agg #[.int .i64 0, .int .i64 0]), 2, 16) := by kernel_rfl

/-- append(s, x), s of the call's own. -/
theorem wpList_pushI {ops : Array Oper} {rest : List Oper} {o : Oper} {a : Act} {Q : Exit → Act → World → Prop} {w : World} (hgd : o.guard = none) (s x : Operand)
    (ho : o.op = .call { callee := .builtin .append, args := #[s, x], argTypes := #[45, 45] })
    (B : Nat) (v : Value) (L : List (Nat × Nat)) (y : Nat × Nat) (hs : a.eval s = v) (hf : FreshIn B w v L) (g : Nat) (c : Nat) (hx : a.eval x = .slice (some ⟨g, 0, none⟩) 1 c)
    (hc0 : w.cell? ⟨g, 0, none⟩ = some (.int .i64 (y.1 : Int))) (hc1 : w.cell? ⟨g, 1, none⟩ = some (.int .i64 ((y.2 : Int) + 1))) (hl : L.length ≤ 1048576) (hB : B ≤ w.heap.size)
    (h : ∀ v' w', FreshIn B w' v' (L ++ [y]) → w.grownBy w' v.ownBlock → Kept B w w' → wpList Try.prog ops Q rest (a.put o.dst v') w') : wpList Try.prog ops Q (o :: rest) a w := by
  obtain ⟨i0, hi, hz0, hz1, hz2⟩ := info_parts Try.infoInst
  refine wpList_append_own _ hgd s x 45 ho B 64 i0 (.agg #[.int .i64 0, .int .i64 0]) 2 16 Try.underlying45 hi hz0 hz1 hz2 rfl (by decide) v L.length _ hs hf ⟨g, 0, none⟩ 1 c (cellsI y) hx rfl ?_ ?_ ?_ ?_ hB ?_
  · intro j u hj
    match j, hj with
    | 0, hj => simp [cellsI] at hj; subst hj; simpa [Addr.add] using hc0
    | 1, hj => simp [cellsI] at hj; subst hj; simpa [Addr.add] using hc1
  · intro u hu
    simp [cellsI] at hu
    rcases hu with rfl | rfl <;> rfl
  · unfold maxLen; omega
  · omega
  · intro v' w' ho' hg _
    refine h v' w' ?_ hg (fun w0 hx0 hB0 => Below.grown hx0 hg hx0.size (fun q hq => Nat.le_trans hB0 (World.ownsRow.lt hf q hq).1))
    unfold FreshIn
    have e : flatI (L ++ [y]) = flatI L ++ cellsI y := by simp [flatI]
    rw [e, List.length_append]
    exact ho'

end Go.Proofs.Ytkhdgmgacfhcgaa

namespace Go.Proofs.Ytkhdgmgacfhcgaa
open Go.RowKit Go.Maps
set_option linter.unusedVariables false

theorem set_nextI (vs : List Value) (z n : Value) (k m : Nat) (hk : vs.length = k) (hm : k < m) : (vs ++ List.replicate (m - k) n).set k z = (vs ++ [z]) ++ List.replicate (m - (k + 1)) n := by
  rw [List.set_append_right _ _ (by omega), hk, Nat.sub_self]
  have e : m - k = (m - (k + 1)) + 1 := by omega
  rw [e, List.replicate_succ, List.set_cons_zero]
  simp

set_option maxHeartbeats 2000000 in
set_option maxRecDepth 100000 in
theorem pairsOf_any (u : Value) (I : List (Nat × Nat)) (w : World) (hu : InstsAt w u I) (hI : I.length ≤ 1048576) :
    Calls Try.prog 21 #[u] w (NewIntss (I.map pairOf) w) := by
  obtain ⟨L, hL⟩ : ∃ L, L = I.map pairOf := ⟨_, rfl⟩
  have hl : L.length = I.length := by rw [hL]; simp
  obtain ⟨au, cu, rfl, hlu, _, hcu⟩ := hu
  unfold maxLen at hlu
  obtain ⟨i0, hi, hz0, hz1, hz2⟩ := info_parts Try.infoInts
  have HLI := Lib.hid hL
  have HI := Lib.hid hI
  rw [← hL]
  clear hL
  rw [← hl] at hlu ⊢
  have HCU := Lib.hid hcu
  have HLL := Lib.hid hl
  have hL2 : L.length ≤ 1048576 := by omega
  clear hcu hl hI
  go_enter Try.func21, Try.ntmps21
  go_wp2_with (at_make; refine wpList_make_full _ rfl _ _ 26 rfl w.heap.size 49 i0 (.slice none 0 0) 1 Try.underlying26 hi hz0 hz1 _ _ _ _ L.length rfl rfl rfl rfl ?c1 ?c2 ?c3 ?_)
  case c1 => rw [hz2]; omega
  case c2 => unfold maxLen; omega
  case c3 => simp
  intro w1 ho1 hg1
  have hx1 : Ext w w1 := ext_of_grown hg1
  have ho : w1.ownsRow w.heap.size 49 1 (.slice (some ⟨w.heap.size, 0, none⟩) L.length L.length) L.length (([] : List Value) ++ List.replicate (L.length - 0) (.slice none 0 0)) := by
    rw [toList_madeCells_one] at ho1
    simpa using ho1
  have hsz : w.heap.size < w1.heap.size := by
    rcases ho1.2 with ⟨h, _⟩ | ⟨g, cap, cur, h, hb, hg, _⟩
    · cases h
    · simp only [Value.slice.injEq, Option.some.injEq, Addr.mk.injEq, and_true, true_and] at h
      obtain ⟨rfl, _⟩ := h
      exact (Array.getElem?_eq_some_iff.1 hg).1
  clear ho1 hg1 hz0 hz1 hz2 hi
  go_wp2
  go_loopw [11] (fun i wr => ∃ (k : Nat) (vs : List Value), k ≤ L.length ∧ i = .int .i64 k ∧ wr.ownsRow w.heap.size 49 1 (.slice (some ⟨w.heap.size, 0, none⟩) L.length L.length) L.length (vs ++ List.replicate (L.length - k) (.slice none 0 0)) ∧ Rows_ (w.heap.size + 1) wr vs (L.take k) ∧ w.heap.size < wr.heap.size ∧ Ext w wr) (fun i _ => L.length - (intOf i).toNat)
  case atStart => exact ⟨0, [], Nat.zero_le _, rfl, ho, by simpa using Rows_.nil _ _, hsz, hx1⟩
  case round =>
    clear ho hx1 hsz
    obtain ⟨k, vs, hk, rfl, ho, hR, hsz, hx⟩ := hrel
    have hvl : vs.length = k := by rw [hR.len]; simp; omega
    by_cases hlt : k < L.length
    · obtain ⟨bu, ou, rfl, du⟩ := HCU.out (by have := HLL.out; omega)
      have hki : k < I.length := by have := HLL.out; omega
      obtain ⟨q0, q1⟩ := du k hki
      obtain ⟨x, hx1⟩ : ∃ x, x = I[k] := ⟨_, rfl⟩
      rw [← hx1] at q0 q1
      have eLk : L[k] = pairOf x := by simp only [HLI.out, List.getElem_map, hx1]
      have HE := Lib.hid eLk
      have g0 := hx.cell q0
      have g1 := hx.cell q1
      have HO := Lib.hid ho
      have HR := Lib.hid hR
      have HV := Lib.hid hvl
      clear du q0 q1 hx1 eLk ho hR hvl
      have x2 : Ext wr ((wr.alloc (.cells #[.int .i64 x.1, .int .i64 ((x.2 : Int) + 1)] 64)).alloc (.cells #[.int .i64 x.1, .int .i64 ((x.2 : Int) + 1)] 3)) := Ext.alloc2 _ _ _
      have f2 : Fresh wr.heap.size ((wr.alloc (.cells #[.int .i64 x.1, .int .i64 ((x.2 : Int) + 1)] 64)).alloc (.cells #[.int .i64 x.1, .int .i64 ((x.2 : Int) + 1)] 3)) (.slice (some ⟨wr.heap.size + 1, 0, none⟩) 2 2) L[k] := by
        rw [HE.out]
        exact fresh_lit2 wr _ (pairOf x) 2 #[.int .i64 x.1, .int .i64 ((x.2 : Int) + 1)] rfl rfl (by simp [pairOf])
      have F2 := Lib.hid f2
      have X2 := Lib.hid x2
      have ho2 := x2.ownsRow HO.out
      have hlen2 : (vs ++ List.replicate (L.length - k) (Value.slice none 0 0)).length = L.length := by simp [HV.out]; omega
      have gs := (ho2.cellAt k (by omega)).trans (show _ = some (Value.slice none 0 0) by
        rw [List.getElem?_append_right (by have := HV.out; omega)]
        rw [List.getElem?_replicate, if_pos (by have := HV.out; omega)])
      have gf := ho2.frozenAt k
      have hst0 := ho2.stored k (.slice (some ⟨wr.heap.size + 1, 0, none⟩) 2 2)
      have hext0 : Ext w (((wr.alloc (.cells #[.int .i64 x.1, .int .i64 ((x.2 : Int) + 1)] 64)).alloc (.cells #[.int .i64 x.1, .int .i64 ((x.2 : Int) + 1)] 3)).setCell ⟨w.heap.size, k, none⟩ (.slice (some ⟨wr.heap.size + 1, 0, none⟩) 2 2)) := Below.setCell (hx.trans x2) (Nat.le_refl _) _
      have ecm : ((wr.alloc (.cells #[.int .i64 x.1, .int .i64 ((x.2 : Int) + 1)] 64)).alloc (.cells #[.int .i64 x.1, .int .i64 ((x.2 : Int) + 1)] 3)).setCell ⟨w.heap.size, k, none⟩ (.slice (some ⟨wr.heap.size + 1, 0, none⟩) 2 2) = ((wr.setCell ⟨w.heap.size, k, none⟩ (.slice (some ⟨wr.heap.size + 1, 0, none⟩) 2 2)).alloc (.cells #[.int .i64 x.1, .int .i64 ((x.2 : Int) + 1)] 64)).alloc (.cells #[.int .i64 x.1, .int .i64 ((x.2 : Int) + 1)] 3) := by
        rw [World.setCell_alloc_past (hn := by simp; omega), World.setCell_alloc_past (hn := hsz)]
      rw [ecm] at hst0 hext0
      have HST := Lib.hid hst0
      have HEX := Lib.hid hext0
      clear hlen2 f2 x2 ho2 hst0 hext0 ecm
      go_wp2
      go_roundw
      case rel =>
        have hst := HST.out
        rw [set_nextI vs _ _ k L.length HV.out hlt] at hst
        have hsn := HR.out.snoc X2.out F2.out (by omega)
        have htk : L.take k ++ [L[k]] = L.take (k + 1) := by rw [List.take_add_one, List.getElem?_eq_getElem hlt]; rfl
        rw [htk] at hsn
        refine ⟨k + 1, _, by omega, by go_num, hst.1, hsn.touch hst.2 (hsn.low (by omega)), ?_, HEX.out⟩
        have := X2.out.size
        have := hst.2.size
        omega
      case measure => simp [intOf]; omega
    · obtain rfl : k = L.length := by omega
      have HO := Lib.hid ho
      have HR := Lib.hid hR
      clear ho hR
      go_wp2
      go_ret
      refine ⟨_, rfl, ⟨vs, ?_, ?_, ?_⟩, hx⟩
      · have h := HO.out
        rw [Nat.sub_self] at h
        simpa using h
      · have h := HR.out
        rw [List.take_length] at h
        exact h.more (by omega)
      · exact HR.out.low (g := w.heap.size) (by omega)

end Go.Proofs.Ytkhdgmgacfhcgaa
