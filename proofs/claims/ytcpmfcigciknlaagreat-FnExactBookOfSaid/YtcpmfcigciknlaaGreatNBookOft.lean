/- Texts of this proof, part t: words, plain facts, contracts. -/
import Derived.Test.YtcpmfcigciknlaaGreatNBookOfh
import Derived.Test.YtcpmfcigciknlaaGreatNBookOfs
import Derived.Deep.Cut
import Derived.Test.YtcpmfcigciknlaaGreatNBookOfk
import Derived.Test.YtcpmfcigciknlaaGreatNBookOff
set_option linter.unusedVariables false
set_option linter.unusedSimpArgs false

namespace Go.Proofs.YtcpmfcigciknlaaGreat
open Go.RowKit Go.Maps
set_option linter.unusedVariables false
instance (x y : Nat × Nat) : Decidable (lexL x y) := by unfold lexL; infer_instance
def insAtI (L : List (Nat × Nat)) (x : Nat × Nat) : Nat → Nat
  | 0 => 0
  | k + 1 => match L[k]? with
    | some y => if lexL x y then insAtI L x k else k + 1
    | none => k + 1
theorem insAtI_le (L : List (Nat × Nat)) (x : Nat × Nat) : ∀ k, insAtI L x k ≤ k
  | 0 => Nat.le_refl _
  | k + 1 => by
    unfold insAtI
    split
    · split
      · have := insAtI_le L x k; omega
      · exact Nat.le_refl _
    · exact Nat.le_refl _
def insKI (L : List (Nat × Nat)) (x : Nat × Nat) : Nat := insAtI L x L.length
def insL (L : List (Nat × Nat)) (x : Nat × Nat) : List (Nat × Nat) := L.take (insKI L x) ++ [x] ++ L.drop (insKI L x)
def ValsAt (w : World) (v : Value) (vs : List Value) : Prop :=
  (v = .slice none 0 0 ∧ vs = []) ∨ ∃ b off cap, v = .slice (some ⟨b, off, none⟩) vs.length cap ∧ vs.length ≤ cap ∧ cap ≤ maxLen ∧ ∀ j z, vs[j]? = some z → w.cell? ⟨b, off + j, none⟩ = some z
theorem ValsAt.ext {w w' : World} {v : Value} {vs : List Value} (h : ValsAt w v vs) (e : Ext w w') : ValsAt w' v vs := by
  rcases h with h | ⟨b, off, cap, h1, h2, h3, h4⟩
  · exact .inl h
  · exact .inr ⟨b, off, cap, h1, h2, h3, fun j z hz => e.cell (h4 j z hz)⟩
theorem FreshV.vals {B : Nat} {w : World} {v : Value} {vs : List Value} (h : FreshV B w v vs) : ValsAt w v vs := by
  have h0 : w.ownsRow B 26 1 v vs.length vs := h
  rcases h0.2 with ⟨rfl, hn⟩ | ⟨g, cap, cur, rfl, _, _, h1, h2, _⟩
  · exact .inl ⟨rfl, List.eq_nil_of_length_eq_zero hn⟩
  · refine .inr ⟨g, 0, cap, rfl, h1, h2, fun j z hz => ?_⟩
    rw [Nat.zero_add]
    exact h.at rfl hz
structure PairsAt (w : World) (v : Value) (vs : List Value) (L : List (Nat × Nat)) : Prop where
  len : vs.length = L.length
  reads : ValsAt w v vs
  row : ∀ (j : Nat) (u : Value) (x : Nat × Nat), vs[j]? = some u → L[j]? = some x → Ints w u (pairOf x)
theorem wpList_joinV0 {ops : Array Oper} {rest : List Oper} {o : Oper} {a : Act} {Q : Exit → Act → World → Prop} {w : World} (hgd : o.guard = none) (s x : Operand)
    (ho : o.op = .call { callee := .builtin .append, args := #[s, x], argTypes := #[63, 63] })
    (B : Nat) (v : Value) (vs : List Value) (hs : a.eval s = v) (hf : FreshV B w v vs) (hx : a.eval x = .slice none 0 0)
    (h : ∀ v' w', FreshV B w' v' vs → w.grownBy w' v.ownBlock → Kept B w w' → wpList Tryz.prog ops Q rest (a.put o.dst v') w') : wpList Tryz.prog ops Q (o :: rest) a w := by
  obtain ⟨i0, hi, hz0, hz1, hz2⟩ := info_parts Tryz.infoInts
  exact wpList_append_own_none hgd s x 63 ho B 26 i0 1 Tryz.underlying63 hi v vs.length _ hs hf hx (h v w hf ⟨rfl, rfl, rfl, Nat.le_refl _, fun _ _ _ => rfl⟩ (fun w0 hx0 _ => hx0))
theorem wpList_joinVV {ops : Array Oper} {rest : List Oper} {o : Oper} {a : Act} {Q : Exit → Act → World → Prop} {w : World} (hgd : o.guard = none) (s x : Operand)
    (ho : o.op = .call { callee := .builtin .append, args := #[s, x], argTypes := #[63, 63] })
    (B B2 : Nat) (v u : Value) (vs us : List Value) (hs : a.eval s = v) (hf : FreshV B w v vs) (hx : a.eval x = u) (hu : FreshV B2 w u us) (h1 : ∀ u ∈ us, u.oneCell' = true) (hl : vs.length + us.length ≤ 1048576) (hB : B ≤ w.heap.size)
    (h : ∀ v' w', FreshV B w' v' (vs ++ us) → w.grownBy w' v.ownBlock → Kept B w w' → wpList Tryz.prog ops Q rest (a.put o.dst v') w') : wpList Tryz.prog ops Q (o :: rest) a w := by
  have hu0 : w.ownsRow B2 26 1 u us.length us := hu
  rcases hu0.2 with ⟨rfl, hn⟩ | ⟨g, cap, cur, rfl, _⟩
  · obtain rfl : us = [] := List.eq_nil_of_length_eq_zero hn
    refine wpList_joinV0 hgd s x ho B v vs hs hf hx (fun v' w' f g k => h v' w' (by rw [List.append_nil]; exact f) g k)
  · refine wpList_joinVn hgd s x ho B v vs us hs hf g 0 us.length cap rfl hx (fun j z hz => ?_) h1 hl hB h
    rw [Nat.zero_add]
    exact hu.at rfl hz
set_option maxHeartbeats 4000000 in
set_option maxRecDepth 100000 in
theorem l6Insert_some (b off cap : Nat) (xv : Value) (vs : List Value) (L : List (Nat × Nat)) (x : Nat × Nat) (w : World) (hlen : vs.length = L.length) (hcap : vs.length ≤ cap) (hcm : cap ≤ maxLen)
    (hc : ∀ j z, vs[j]? = some z → w.cell? ⟨b, off + j, none⟩ = some z) (hrow : ∀ (j : Nat) (u : Value) (x : Nat × Nat), vs[j]? = some u → L[j]? = some x → Ints w u (pairOf x)) (hx : Ints w xv (pairOf x)) (hl : L.length ≤ 1000) (m : Nat) (hm : m = vs.length) :
    Calls Tryz.prog 176 #[.slice (some ⟨b, off, none⟩) m cap, xv] w (fun e w' => ∃ v', e = .returned v' ∧ FreshV w.heap.size w' v' (vs.take (insKI L x) ++ [xv] ++ vs.drop (insKI L x)) ∧ Ext w w') := by
  obtain ⟨bx, ox, cx, rfl, x0, x1⟩ := pair_at hx
  have hmc : m ≤ cap := by omega
  have hone : ∀ u ∈ vs, u.oneCell' = true := fun u hu => by
    obtain ⟨j, hj, e⟩ := List.getElem_of_mem hu
    have hj' : j < L.length := by omega
    obtain ⟨_, _, rfl, _⟩ := hrow j u L[j] (by rw [List.getElem?_eq_getElem hj, e]) (List.getElem?_eq_getElem hj')
    rfl
  have HM := Lib.hid hm
  have HLEN := Lib.hid hlen
  have HROW := Lib.hid hrow
  have HC := Lib.hid hc
  have HONE := Lib.hid hone
  have hm1 : m ≤ 1000 := by omega
  unfold maxLen at hcm
  clear hm hlen hrow hc hx hcap hone
  go_enter Tryz.func176, Tryz.ntmps176
  go_wp2
  go_loopw [5] (fun i wr => ∃ k : Nat, k ≤ m ∧ i = .int .i64 k ∧ Hid (insKI L x = insAtI L x k) ∧ Hid (Ext w wr)) (fun i _ => (intOf i).toNat)
  case atStart => exact ⟨m, Nat.le_refl _, rfl, Lib.hid (by unfold insKI; rw [← HLEN.out, ← HM.out]), Lib.hid (Ext.refl _)⟩
  case round =>
    obtain ⟨k, hk, rfl, HI, HX⟩ := hrel
    by_cases hk0 : k = 0
    · subst hk0
      have HK : Hid (insKI L x = 0) := Lib.hid (by rw [HI.out]; rfl)
      have n0 : decide ((0 : Int) < 0) = false := by decide
      clear HI
      go_wp2_with fail
      go_quiet (fail)
      have hk1 : 0 ≤ cap := by omega
      have XW : Hid (Ext w (wr.drewN nq)) := Lib.hid (HX.out.drewN _)
      obtain ⟨W, hW⟩ : ∃ W, W = wr.drewN nq := ⟨_, rfl⟩
      rw [← hW] at XW ⊢
      clear hW HX
      obtain ⟨tk, htk⟩ : ∃ tk, tk = vs.take 0 := ⟨_, rfl⟩
      obtain ⟨dr, hdr⟩ : ∃ dr, dr = vs.drop 0 := ⟨_, rfl⟩
      have hd1 : dr.length = m - 0 := by rw [hdr, List.length_drop, ← HM.out]
      have ht1 : tk.length = 0 := by rw [htk, List.length_take, ← HM.out]; omega
      have HTK := Lib.hid htk
      have HDR := Lib.hid hdr
      have HD1 := Lib.hid hd1
      have HT1 := Lib.hid ht1
      have HSW : Hid (w.heap.size ≤ (W.alloc (.cells #[] 26)).heap.size) := Lib.hid (Nat.le_trans XW.out.size (Ext.alloc1 _ _).size)
      have HBND : Hid (([] : List Value).length + dr.length ≤ 1048576) := Lib.hid (by rw [hd1]; simp only [List.length_nil]; omega)
      clear hd1 ht1 htk hdr
      by_cases hkc : cap = 0
      · have hmk : m - 0 = 0 := by omega
        have hm2 : m = 0 := by omega
        clear hmk
        subst hkc
        subst hm2
        have HD0 : Hid (dr.length = 0) := Lib.hid (by have := HD1.out; omega)
        clear HD1
        have HD1 := HD0
        clear HD0
        go_wp2_with (at_builtin; go_loud (refine wpList_joinVn rfl _ _ rfl w.heap.size _ [] dr rfl (freshV_lit W w.heap.size XW.out.size) b _ 0 _ HD1.out rfl ?_ (fun u hu => HONE.out u (List.mem_of_mem_drop (by rw [← HDR.out]; exact hu))) HBND.out HSW.out ?_))
        · intro j z hz
          rw [List.eq_nil_of_length_eq_zero HD1.out] at hz
          simp at hz
        intro v2 w2 f2 hg2 hk2
        have F2 : Hid (FreshV w.heap.size w2 v2 dr) := Lib.hid (by simpa using f2)
        have X2 := Lib.hid (hk2 w (XW.out.alloc _) (Nat.le_refl _))
        have XB2 : Hid (Ext w (w2.alloc (.cells #[] 26))) := Lib.hid (X2.out.alloc _)
        have HSB2 : Hid (w2.heap.size ≤ (w2.alloc (.cells #[] 26)).heap.size) := Lib.hid (Ext.alloc1 _ _).size
        have HB2 : Hid (([] : List Value).length + tk.length ≤ 1048576) := Lib.hid (by rw [HT1.out]; simp only [List.length_nil]; omega)
        clear f2 hg2 hk2 XW HBND HSW
        go_wp2_with (at_builtin; refine wpList_joinVn rfl _ _ rfl w2.heap.size _ [] tk rfl (freshV_lit w2 w2.heap.size (Nat.le_refl _)) b off _ _ HT1.out rfl ?_ (fun u hu => HONE.out u (List.mem_of_mem_take (by rw [← HTK.out]; exact hu))) HB2.out HSB2.out ?_)
        · intro j z hz
          rw [HTK.out, List.getElem?_take] at hz
          split at hz
          · exact XB2.out.cell (HC.out _ _ hz)
          · cases hz
        intro v3 w3 f3 hg3 hk3
        have F3 : Hid (FreshV w2.heap.size (w3.alloc (.cells #[.slice (some ⟨bx, ox, none⟩) 2 cx] 26)) v3 tk) := Lib.hid ((show FreshV w2.heap.size w3 v3 tk by simpa using f3).ext (Ext.alloc1 w3 (.cells #[.slice (some ⟨bx, ox, none⟩) 2 cx] 26)))
        have X3 := Lib.hid (hk3 w2 (Ext.alloc1 _ _) (Nat.le_refl _))
        have HL3 : Hid (tk.length ≤ 1048576) := Lib.hid (by rw [HT1.out]; omega)
        have HS3 : Hid (w2.heap.size ≤ (w3.alloc (.cells #[.slice (some ⟨bx, ox, none⟩) 2 cx] 26)).heap.size) := Lib.hid (Nat.le_trans X3.out.size (Ext.alloc1 _ _).size)
        clear f3 hg3 hk3 HB2 XB2
        go_wp2_with (at_builtin; refine wpList_pushV rfl _ _ rfl w2.heap.size _ tk rfl F3.out (.slice (some ⟨bx, ox, none⟩) 2 cx) ⟨w3.heap.size, 0, none⟩ 1 rfl (cell_alloc_one _ _ _) rfl HL3.out HS3.out ?_)
        intro v4 w4 f4 hg4 hk4
        have F4 := Lib.hid f4
        have X4 := Lib.hid (hk4 w2 (X3.out.alloc _) (Nat.le_refl _))
        have G4 : Hid (FreshV w.heap.size w4 v2 dr) := Lib.hid (F2.out.ext X4.out)
        have HO4 : Hid (∀ u ∈ dr, u.oneCell' = true) := Lib.hid (fun u hu => HONE.out u (List.mem_of_mem_drop (by rw [← HDR.out]; exact hu)))
        have HL4 : Hid ((tk ++ [Value.slice (some ⟨bx, ox, none⟩) 2 cx]).length + dr.length ≤ 1048576) := Lib.hid (by
          have h1 := HT1.out
          have h2 := HD1.out
          simp only [List.length_append, h1, h2, List.length_cons, List.length_nil]
          omega)
        clear f4 hg4 hk4 HL3 HS3 F3 F2
        go_wp2_with (at_builtin; refine wpList_joinVV rfl _ _ rfl w2.heap.size w.heap.size _ v2 _ dr rfl F4.out rfl G4.out HO4.out HL4.out X4.out.size ?_)
        intro v5 w5 f5 hg5 hk5
        have F5 := Lib.hid (f5.more X2.out.size)
        have X5 := Lib.hid (X2.out.trans (hk5 w2 X4.out (Nat.le_refl _)))
        clear f5 hg5 hk5 HL4 HO4 G4 F4
        go_wp2
        go_ret
        rw [HK.out, ← HTK.out, ← HDR.out]
        exact ⟨_, rfl, (by simpa using F5.out), X5.out⟩
      · go_wp2_with (at_builtin; refine wpList_joinVn rfl _ _ rfl w.heap.size _ [] dr rfl (freshV_lit W w.heap.size XW.out.size) b _ (m - 0) _ HD1.out rfl ?_ (fun u hu => HONE.out u (List.mem_of_mem_drop (by rw [← HDR.out]; exact hu))) HBND.out HSW.out ?_)
        · intro j z hz
          rw [HDR.out, List.getElem?_drop] at hz
          have h := ((XW.out.alloc (.cells #[] 26)).cell (HC.out _ _ hz))
          simpa [Nat.add_assoc] using h
        intro v2 w2 f2 hg2 hk2
        have F2 : Hid (FreshV w.heap.size w2 v2 dr) := Lib.hid (by simpa using f2)
        have X2 := Lib.hid (hk2 w (XW.out.alloc _) (Nat.le_refl _))
        have XB2 : Hid (Ext w (w2.alloc (.cells #[] 26))) := Lib.hid (X2.out.alloc _)
        have HSB2 : Hid (w2.heap.size ≤ (w2.alloc (.cells #[] 26)).heap.size) := Lib.hid (Ext.alloc1 _ _).size
        have HB2 : Hid (([] : List Value).length + tk.length ≤ 1048576) := Lib.hid (by rw [HT1.out]; simp only [List.length_nil]; omega)
        clear f2 hg2 hk2 XW HBND HSW
        go_wp2_with (at_builtin; refine wpList_joinVn rfl _ _ rfl w2.heap.size _ [] tk rfl (freshV_lit w2 w2.heap.size (Nat.le_refl _)) b off 0 cap HT1.out rfl ?_ (fun u hu => HONE.out u (List.mem_of_mem_take (by rw [← HTK.out]; exact hu))) HB2.out HSB2.out ?_)
        · intro j z hz
          rw [HTK.out, List.getElem?_take] at hz
          split at hz
          · exact XB2.out.cell (HC.out _ _ hz)
          · cases hz
        intro v3 w3 f3 hg3 hk3
        have F3 : Hid (FreshV w2.heap.size (w3.alloc (.cells #[.slice (some ⟨bx, ox, none⟩) 2 cx] 26)) v3 tk) := Lib.hid ((show FreshV w2.heap.size w3 v3 tk by simpa using f3).ext (Ext.alloc1 w3 (.cells #[.slice (some ⟨bx, ox, none⟩) 2 cx] 26)))
        have X3 := Lib.hid (hk3 w2 (Ext.alloc1 _ _) (Nat.le_refl _))
        have HL3 : Hid (tk.length ≤ 1048576) := Lib.hid (by rw [HT1.out]; omega)
        have HS3 : Hid (w2.heap.size ≤ (w3.alloc (.cells #[.slice (some ⟨bx, ox, none⟩) 2 cx] 26)).heap.size) := Lib.hid (Nat.le_trans X3.out.size (Ext.alloc1 _ _).size)
        clear f3 hg3 hk3 HB2 XB2
        go_wp2_with (at_builtin; refine wpList_pushV rfl _ _ rfl w2.heap.size _ tk rfl F3.out (.slice (some ⟨bx, ox, none⟩) 2 cx) ⟨w3.heap.size, 0, none⟩ 1 rfl (cell_alloc_one _ _ _) rfl HL3.out HS3.out ?_)
        intro v4 w4 f4 hg4 hk4
        have F4 := Lib.hid f4
        have X4 := Lib.hid (hk4 w2 (X3.out.alloc _) (Nat.le_refl _))
        have G4 : Hid (FreshV w.heap.size w4 v2 dr) := Lib.hid (F2.out.ext X4.out)
        have HO4 : Hid (∀ u ∈ dr, u.oneCell' = true) := Lib.hid (fun u hu => HONE.out u (List.mem_of_mem_drop (by rw [← HDR.out]; exact hu)))
        have HL4 : Hid ((tk ++ [Value.slice (some ⟨bx, ox, none⟩) 2 cx]).length + dr.length ≤ 1048576) := Lib.hid (by
          have h1 := HT1.out
          have h2 := HD1.out
          simp only [List.length_append, h1, h2, List.length_cons, List.length_nil]
          omega)
        clear f4 hg4 hk4 HL3 HS3 F3 F2
        go_wp2_with (at_builtin; refine wpList_joinVV rfl _ _ rfl w2.heap.size w.heap.size _ v2 _ dr rfl F4.out rfl G4.out HO4.out HL4.out X4.out.size ?_)
        intro v5 w5 f5 hg5 hk5
        have F5 := Lib.hid (f5.more X2.out.size)
        have X5 := Lib.hid (X2.out.trans (hk5 w2 X4.out (Nat.le_refl _)))
        clear f5 hg5 hk5 HL4 HO4 G4 F4
        go_wp2
        go_ret
        rw [HK.out, ← HTK.out, ← HDR.out]
        exact ⟨_, rfl, (by simpa using F5.out), X5.out⟩
    · obtain ⟨k', rfl⟩ : ∃ k', k = k' + 1 := ⟨k - 1, by omega⟩
      have hkl : k' < L.length := by have := HLEN.out; have := HM.out; omega
      have hkv : k' < vs.length := by have := HM.out; omega
      obtain ⟨y, hy⟩ : ∃ y, y = L[k'] := ⟨_, rfl⟩
      have gv := HX.out.cell (HC.out k' _ (List.getElem?_eq_getElem hkv))
      have iy := HROW.out k' _ y (List.getElem?_eq_getElem hkv) (by rw [hy]; exact List.getElem?_eq_getElem hkl)
      obtain ⟨by_, oy, cy, hvy, y0, y1⟩ := pair_at (iy.ext HX.out)
      rw [hvy] at gv
      have f0 := HX.out.cell x0
      have f1 := HX.out.cell x1
      have hw : IntKind.i64.wrap (((k' + 1 : Nat) : Int) - 1) = (k' : Int) := by rw [show (((k' + 1 : Nat) : Int) - 1) = k' by omega]; exact IntWalk.i64_in _ (by omega)
      have hin : insAtI L x (k' + 1) = if lexL x y then insAtI L x k' else k' + 1 := by
        show (match L[k']? with
          | some y => if lexL x y then insAtI L x k' else k' + 1
          | none => k' + 1) = _
        rw [List.getElem?_eq_getElem hkl, hy]
      have HIN := Lib.hid hin
      have p0 : (0 : Int) < ((k' + 1 : Nat) : Int) := by omega
      have b0 : decide ((0 : Int) < ((k' + 1 : Nat) : Int)) = true := decide_eq_true p0
      obtain ⟨X1, hX1⟩ : ∃ X1 : Int, X1 = (x.1 : Int) := ⟨_, rfl⟩
      obtain ⟨X2, hX2⟩ : ∃ X2 : Int, X2 = (x.2 : Int) + 1 := ⟨_, rfl⟩
      obtain ⟨Y1, hY1⟩ : ∃ Y1 : Int, Y1 = (y.1 : Int) := ⟨_, rfl⟩
      obtain ⟨Y2, hY2⟩ : ∃ Y2 : Int, Y2 = (y.2 : Int) + 1 := ⟨_, rfl⟩
      rw [← hX1] at f0
      rw [← hX2] at f1
      rw [← hY1] at y0
      rw [← hY2] at y1
      have HEQ := Lib.hid (And.intro (And.intro hX1 hX2) (And.intro hY1 hY2))
      clear iy hvy hin hy hX1 hX2 hY1 hY2 x0 x1
      by_cases hc1' : X1 < Y1
      · have b1 : decide (X1 < Y1) = true := decide_eq_true hc1'
        have nl : lexL x y := by unfold lexL; have := HEQ.out; omega
        have HK : Hid (insKI L x = insAtI L x k') := Lib.hid (by rw [HI.out, HIN.out, if_pos nl])
        clear HIN nl hc1'
        clear HI
        go_wp2_with fail
        go_quiet (fail)
        go_wp2
        go_roundw
        case rel => exact ⟨k', by omega, by go_num, HK, Lib.hid (HX.out.drewN _)⟩
        case measure => first | (simp [intOf]; done) | (simp [intOf]; omega)
      · by_cases hc2' : Y1 = X1
        · have b1 : decide (X1 < Y1) = false := decide_eq_false hc1'
          have b2 : (Y1 == X1) = true := by simpa using hc2'
          by_cases hc3' : X2 < Y2
          · have b3 : decide (X2 < Y2) = true := decide_eq_true hc3'
            have nl : lexL x y := by unfold lexL; have := HEQ.out; omega
            have HK : Hid (insKI L x = insAtI L x k') := Lib.hid (by rw [HI.out, HIN.out, if_pos nl])
            clear HIN nl hc1' hc2' hc3'
            clear HI
            go_wp2_with fail
            go_quiet (fail)
            go_wp2
            go_roundw
            case rel => exact ⟨k', by omega, by go_num, HK, Lib.hid (HX.out.drewN _)⟩
            case measure => first | (simp [intOf]; done) | (simp [intOf]; omega)
          · have b3 : decide (X2 < Y2) = false := decide_eq_false hc3'
            have nl : ¬ lexL x y := by unfold lexL; have := HEQ.out; omega
            have HK : Hid (insKI L x = k' + 1) := Lib.hid (by rw [HI.out, HIN.out, if_neg nl])
            clear HIN nl hc1' hc2' hc3'
            clear HI
            go_wp2_with fail
            go_quiet (fail)
            have hk1 : (k' + 1) ≤ cap := by omega
            have XW : Hid (Ext w (wr.drewN nq)) := Lib.hid (HX.out.drewN _)
            obtain ⟨W, hW⟩ : ∃ W, W = wr.drewN nq := ⟨_, rfl⟩
            rw [← hW] at XW ⊢
            clear hW HX
            obtain ⟨tk, htk⟩ : ∃ tk, tk = vs.take (k' + 1) := ⟨_, rfl⟩
            obtain ⟨dr, hdr⟩ : ∃ dr, dr = vs.drop (k' + 1) := ⟨_, rfl⟩
            have hd1 : dr.length = m - (k' + 1) := by rw [hdr, List.length_drop, ← HM.out]
            have ht1 : tk.length = (k' + 1) := by rw [htk, List.length_take, ← HM.out]; omega
            have HTK := Lib.hid htk
            have HDR := Lib.hid hdr
            have HD1 := Lib.hid hd1
            have HT1 := Lib.hid ht1
            have HSW : Hid (w.heap.size ≤ (W.alloc (.cells #[] 26)).heap.size) := Lib.hid (Nat.le_trans XW.out.size (Ext.alloc1 _ _).size)
            have HBND : Hid (([] : List Value).length + dr.length ≤ 1048576) := Lib.hid (by rw [hd1]; simp only [List.length_nil]; omega)
            clear hd1 ht1 htk hdr
            by_cases hkc : cap = (k' + 1)
            · have hmk : m - (k' + 1) = 0 := by omega
              have hm2 : m = (k' + 1) := by omega
              clear hmk
              subst hkc
              subst hm2
              have HD0 : Hid (dr.length = 0) := Lib.hid (by have := HD1.out; omega)
              clear HD1
              have HD1 := HD0
              clear HD0
              go_wp2_with (at_builtin; go_loud (refine wpList_joinVn rfl _ _ rfl w.heap.size _ [] dr rfl (freshV_lit W w.heap.size XW.out.size) b _ 0 _ HD1.out rfl ?_ (fun u hu => HONE.out u (List.mem_of_mem_drop (by rw [← HDR.out]; exact hu))) HBND.out HSW.out ?_))
              · intro j z hz
                rw [List.eq_nil_of_length_eq_zero HD1.out] at hz
                simp at hz
              intro v2 w2 f2 hg2 hk2
              have F2 : Hid (FreshV w.heap.size w2 v2 dr) := Lib.hid (by simpa using f2)
              have X2 := Lib.hid (hk2 w (XW.out.alloc _) (Nat.le_refl _))
              have XB2 : Hid (Ext w (w2.alloc (.cells #[] 26))) := Lib.hid (X2.out.alloc _)
              have HSB2 : Hid (w2.heap.size ≤ (w2.alloc (.cells #[] 26)).heap.size) := Lib.hid (Ext.alloc1 _ _).size
              have HB2 : Hid (([] : List Value).length + tk.length ≤ 1048576) := Lib.hid (by rw [HT1.out]; simp only [List.length_nil]; omega)
              clear f2 hg2 hk2 XW HBND HSW
              go_wp2_with (at_builtin; refine wpList_joinVn rfl _ _ rfl w2.heap.size _ [] tk rfl (freshV_lit w2 w2.heap.size (Nat.le_refl _)) b off _ _ HT1.out rfl ?_ (fun u hu => HONE.out u (List.mem_of_mem_take (by rw [← HTK.out]; exact hu))) HB2.out HSB2.out ?_)
              · intro j z hz
                rw [HTK.out, List.getElem?_take] at hz
                split at hz
                · exact XB2.out.cell (HC.out _ _ hz)
                · cases hz
              intro v3 w3 f3 hg3 hk3
              have F3 : Hid (FreshV w2.heap.size (w3.alloc (.cells #[.slice (some ⟨bx, ox, none⟩) 2 cx] 26)) v3 tk) := Lib.hid ((show FreshV w2.heap.size w3 v3 tk by simpa using f3).ext (Ext.alloc1 w3 (.cells #[.slice (some ⟨bx, ox, none⟩) 2 cx] 26)))
              have X3 := Lib.hid (hk3 w2 (Ext.alloc1 _ _) (Nat.le_refl _))
              have HL3 : Hid (tk.length ≤ 1048576) := Lib.hid (by rw [HT1.out]; omega)
              have HS3 : Hid (w2.heap.size ≤ (w3.alloc (.cells #[.slice (some ⟨bx, ox, none⟩) 2 cx] 26)).heap.size) := Lib.hid (Nat.le_trans X3.out.size (Ext.alloc1 _ _).size)
              clear f3 hg3 hk3 HB2 XB2
              go_wp2_with (at_builtin; refine wpList_pushV rfl _ _ rfl w2.heap.size _ tk rfl F3.out (.slice (some ⟨bx, ox, none⟩) 2 cx) ⟨w3.heap.size, 0, none⟩ 1 rfl (cell_alloc_one _ _ _) rfl HL3.out HS3.out ?_)
              intro v4 w4 f4 hg4 hk4
              have F4 := Lib.hid f4
              have X4 := Lib.hid (hk4 w2 (X3.out.alloc _) (Nat.le_refl _))
              have G4 : Hid (FreshV w.heap.size w4 v2 dr) := Lib.hid (F2.out.ext X4.out)
              have HO4 : Hid (∀ u ∈ dr, u.oneCell' = true) := Lib.hid (fun u hu => HONE.out u (List.mem_of_mem_drop (by rw [← HDR.out]; exact hu)))
              have HL4 : Hid ((tk ++ [Value.slice (some ⟨bx, ox, none⟩) 2 cx]).length + dr.length ≤ 1048576) := Lib.hid (by
                have h1 := HT1.out
                have h2 := HD1.out
                simp only [List.length_append, h1, h2, List.length_cons, List.length_nil]
                omega)
              clear f4 hg4 hk4 HL3 HS3 F3 F2
              go_wp2_with (at_builtin; refine wpList_joinVV rfl _ _ rfl w2.heap.size w.heap.size _ v2 _ dr rfl F4.out rfl G4.out HO4.out HL4.out X4.out.size ?_)
              intro v5 w5 f5 hg5 hk5
              have F5 := Lib.hid (f5.more X2.out.size)
              have X5 := Lib.hid (X2.out.trans (hk5 w2 X4.out (Nat.le_refl _)))
              clear f5 hg5 hk5 HL4 HO4 G4 F4
              go_wp2
              go_ret
              rw [HK.out, ← HTK.out, ← HDR.out]
              exact ⟨_, rfl, (by simpa using F5.out), X5.out⟩
            · go_wp2_with (at_builtin; refine wpList_joinVn rfl _ _ rfl w.heap.size _ [] dr rfl (freshV_lit W w.heap.size XW.out.size) b _ (m - (k' + 1)) _ HD1.out rfl ?_ (fun u hu => HONE.out u (List.mem_of_mem_drop (by rw [← HDR.out]; exact hu))) HBND.out HSW.out ?_)
              · intro j z hz
                rw [HDR.out, List.getElem?_drop] at hz
                have h := ((XW.out.alloc (.cells #[] 26)).cell (HC.out _ _ hz))
                simpa [Nat.add_assoc] using h
              intro v2 w2 f2 hg2 hk2
              have F2 : Hid (FreshV w.heap.size w2 v2 dr) := Lib.hid (by simpa using f2)
              have X2 := Lib.hid (hk2 w (XW.out.alloc _) (Nat.le_refl _))
              have XB2 : Hid (Ext w (w2.alloc (.cells #[] 26))) := Lib.hid (X2.out.alloc _)
              have HSB2 : Hid (w2.heap.size ≤ (w2.alloc (.cells #[] 26)).heap.size) := Lib.hid (Ext.alloc1 _ _).size
              have HB2 : Hid (([] : List Value).length + tk.length ≤ 1048576) := Lib.hid (by rw [HT1.out]; simp only [List.length_nil]; omega)
              clear f2 hg2 hk2 XW HBND HSW
              go_wp2_with (at_builtin; refine wpList_joinVn rfl _ _ rfl w2.heap.size _ [] tk rfl (freshV_lit w2 w2.heap.size (Nat.le_refl _)) b off (k' + 1) cap HT1.out rfl ?_ (fun u hu => HONE.out u (List.mem_of_mem_take (by rw [← HTK.out]; exact hu))) HB2.out HSB2.out ?_)
              · intro j z hz
                rw [HTK.out, List.getElem?_take] at hz
                split at hz
                · exact XB2.out.cell (HC.out _ _ hz)
                · cases hz
              intro v3 w3 f3 hg3 hk3
              have F3 : Hid (FreshV w2.heap.size (w3.alloc (.cells #[.slice (some ⟨bx, ox, none⟩) 2 cx] 26)) v3 tk) := Lib.hid ((show FreshV w2.heap.size w3 v3 tk by simpa using f3).ext (Ext.alloc1 w3 (.cells #[.slice (some ⟨bx, ox, none⟩) 2 cx] 26)))
              have X3 := Lib.hid (hk3 w2 (Ext.alloc1 _ _) (Nat.le_refl _))
              have HL3 : Hid (tk.length ≤ 1048576) := Lib.hid (by rw [HT1.out]; omega)
              have HS3 : Hid (w2.heap.size ≤ (w3.alloc (.cells #[.slice (some ⟨bx, ox, none⟩) 2 cx] 26)).heap.size) := Lib.hid (Nat.le_trans X3.out.size (Ext.alloc1 _ _).size)
              clear f3 hg3 hk3 HB2 XB2
              go_wp2_with (at_builtin; refine wpList_pushV rfl _ _ rfl w2.heap.size _ tk rfl F3.out (.slice (some ⟨bx, ox, none⟩) 2 cx) ⟨w3.heap.size, 0, none⟩ 1 rfl (cell_alloc_one _ _ _) rfl HL3.out HS3.out ?_)
              intro v4 w4 f4 hg4 hk4
              have F4 := Lib.hid f4
              have X4 := Lib.hid (hk4 w2 (X3.out.alloc _) (Nat.le_refl _))
              have G4 : Hid (FreshV w.heap.size w4 v2 dr) := Lib.hid (F2.out.ext X4.out)
              have HO4 : Hid (∀ u ∈ dr, u.oneCell' = true) := Lib.hid (fun u hu => HONE.out u (List.mem_of_mem_drop (by rw [← HDR.out]; exact hu)))
              have HL4 : Hid ((tk ++ [Value.slice (some ⟨bx, ox, none⟩) 2 cx]).length + dr.length ≤ 1048576) := Lib.hid (by
                have h1 := HT1.out
                have h2 := HD1.out
                simp only [List.length_append, h1, h2, List.length_cons, List.length_nil]
                omega)
              clear f4 hg4 hk4 HL3 HS3 F3 F2
              go_wp2_with (at_builtin; refine wpList_joinVV rfl _ _ rfl w2.heap.size w.heap.size _ v2 _ dr rfl F4.out rfl G4.out HO4.out HL4.out X4.out.size ?_)
              intro v5 w5 f5 hg5 hk5
              have F5 := Lib.hid (f5.more X2.out.size)
              have X5 := Lib.hid (X2.out.trans (hk5 w2 X4.out (Nat.le_refl _)))
              clear f5 hg5 hk5 HL4 HO4 G4 F4
              go_wp2
              go_ret
              rw [HK.out, ← HTK.out, ← HDR.out]
              exact ⟨_, rfl, (by simpa using F5.out), X5.out⟩
        · have b1 : decide (X1 < Y1) = false := decide_eq_false hc1'
          have b2 : (Y1 == X1) = false := by simpa using hc2'
          have nl : ¬ lexL x y := by unfold lexL; have := HEQ.out; omega
          have HK : Hid (insKI L x = k' + 1) := Lib.hid (by rw [HI.out, HIN.out, if_neg nl])
          clear HIN nl hc1' hc2'
          clear HI
          go_wp2_with fail
          go_quiet (fail)
          have hk1 : (k' + 1) ≤ cap := by omega
          have XW : Hid (Ext w (wr.drewN nq)) := Lib.hid (HX.out.drewN _)
          obtain ⟨W, hW⟩ : ∃ W, W = wr.drewN nq := ⟨_, rfl⟩
          rw [← hW] at XW ⊢
          clear hW HX
          obtain ⟨tk, htk⟩ : ∃ tk, tk = vs.take (k' + 1) := ⟨_, rfl⟩
          obtain ⟨dr, hdr⟩ : ∃ dr, dr = vs.drop (k' + 1) := ⟨_, rfl⟩
          have hd1 : dr.length = m - (k' + 1) := by rw [hdr, List.length_drop, ← HM.out]
          have ht1 : tk.length = (k' + 1) := by rw [htk, List.length_take, ← HM.out]; omega
          have HTK := Lib.hid htk
          have HDR := Lib.hid hdr
          have HD1 := Lib.hid hd1
          have HT1 := Lib.hid ht1
          have HSW : Hid (w.heap.size ≤ (W.alloc (.cells #[] 26)).heap.size) := Lib.hid (Nat.le_trans XW.out.size (Ext.alloc1 _ _).size)
          have HBND : Hid (([] : List Value).length + dr.length ≤ 1048576) := Lib.hid (by rw [hd1]; simp only [List.length_nil]; omega)
          clear hd1 ht1 htk hdr
          by_cases hkc : cap = (k' + 1)
          · have hmk : m - (k' + 1) = 0 := by omega
            have hm2 : m = (k' + 1) := by omega
            clear hmk
            subst hkc
            subst hm2
            have HD0 : Hid (dr.length = 0) := Lib.hid (by have := HD1.out; omega)
            clear HD1
            have HD1 := HD0
            clear HD0
            go_wp2_with (at_builtin; go_loud (refine wpList_joinVn rfl _ _ rfl w.heap.size _ [] dr rfl (freshV_lit W w.heap.size XW.out.size) b _ 0 _ HD1.out rfl ?_ (fun u hu => HONE.out u (List.mem_of_mem_drop (by rw [← HDR.out]; exact hu))) HBND.out HSW.out ?_))
            · intro j z hz
              rw [List.eq_nil_of_length_eq_zero HD1.out] at hz
              simp at hz
            intro v2 w2 f2 hg2 hk2
            have F2 : Hid (FreshV w.heap.size w2 v2 dr) := Lib.hid (by simpa using f2)
            have X2 := Lib.hid (hk2 w (XW.out.alloc _) (Nat.le_refl _))
            have XB2 : Hid (Ext w (w2.alloc (.cells #[] 26))) := Lib.hid (X2.out.alloc _)
            have HSB2 : Hid (w2.heap.size ≤ (w2.alloc (.cells #[] 26)).heap.size) := Lib.hid (Ext.alloc1 _ _).size
            have HB2 : Hid (([] : List Value).length + tk.length ≤ 1048576) := Lib.hid (by rw [HT1.out]; simp only [List.length_nil]; omega)
            clear f2 hg2 hk2 XW HBND HSW
            go_wp2_with (at_builtin; refine wpList_joinVn rfl _ _ rfl w2.heap.size _ [] tk rfl (freshV_lit w2 w2.heap.size (Nat.le_refl _)) b off _ _ HT1.out rfl ?_ (fun u hu => HONE.out u (List.mem_of_mem_take (by rw [← HTK.out]; exact hu))) HB2.out HSB2.out ?_)
            · intro j z hz
              rw [HTK.out, List.getElem?_take] at hz
              split at hz
              · exact XB2.out.cell (HC.out _ _ hz)
              · cases hz
            intro v3 w3 f3 hg3 hk3
            have F3 : Hid (FreshV w2.heap.size (w3.alloc (.cells #[.slice (some ⟨bx, ox, none⟩) 2 cx] 26)) v3 tk) := Lib.hid ((show FreshV w2.heap.size w3 v3 tk by simpa using f3).ext (Ext.alloc1 w3 (.cells #[.slice (some ⟨bx, ox, none⟩) 2 cx] 26)))
            have X3 := Lib.hid (hk3 w2 (Ext.alloc1 _ _) (Nat.le_refl _))
            have HL3 : Hid (tk.length ≤ 1048576) := Lib.hid (by rw [HT1.out]; omega)
            have HS3 : Hid (w2.heap.size ≤ (w3.alloc (.cells #[.slice (some ⟨bx, ox, none⟩) 2 cx] 26)).heap.size) := Lib.hid (Nat.le_trans X3.out.size (Ext.alloc1 _ _).size)
            clear f3 hg3 hk3 HB2 XB2
            go_wp2_with (at_builtin; refine wpList_pushV rfl _ _ rfl w2.heap.size _ tk rfl F3.out (.slice (some ⟨bx, ox, none⟩) 2 cx) ⟨w3.heap.size, 0, none⟩ 1 rfl (cell_alloc_one _ _ _) rfl HL3.out HS3.out ?_)
            intro v4 w4 f4 hg4 hk4
            have F4 := Lib.hid f4
            have X4 := Lib.hid (hk4 w2 (X3.out.alloc _) (Nat.le_refl _))
            have G4 : Hid (FreshV w.heap.size w4 v2 dr) := Lib.hid (F2.out.ext X4.out)
            have HO4 : Hid (∀ u ∈ dr, u.oneCell' = true) := Lib.hid (fun u hu => HONE.out u (List.mem_of_mem_drop (by rw [← HDR.out]; exact hu)))
            have HL4 : Hid ((tk ++ [Value.slice (some ⟨bx, ox, none⟩) 2 cx]).length + dr.length ≤ 1048576) := Lib.hid (by
              have h1 := HT1.out
              have h2 := HD1.out
              simp only [List.length_append, h1, h2, List.length_cons, List.length_nil]
              omega)
            clear f4 hg4 hk4 HL3 HS3 F3 F2
            go_wp2_with (at_builtin; refine wpList_joinVV rfl _ _ rfl w2.heap.size w.heap.size _ v2 _ dr rfl F4.out rfl G4.out HO4.out HL4.out X4.out.size ?_)
            intro v5 w5 f5 hg5 hk5
            have F5 := Lib.hid (f5.more X2.out.size)
            have X5 := Lib.hid (X2.out.trans (hk5 w2 X4.out (Nat.le_refl _)))
            clear f5 hg5 hk5 HL4 HO4 G4 F4
            go_wp2
            go_ret
            rw [HK.out, ← HTK.out, ← HDR.out]
            exact ⟨_, rfl, (by simpa using F5.out), X5.out⟩
          · go_wp2_with (at_builtin; refine wpList_joinVn rfl _ _ rfl w.heap.size _ [] dr rfl (freshV_lit W w.heap.size XW.out.size) b _ (m - (k' + 1)) _ HD1.out rfl ?_ (fun u hu => HONE.out u (List.mem_of_mem_drop (by rw [← HDR.out]; exact hu))) HBND.out HSW.out ?_)
            · intro j z hz
              rw [HDR.out, List.getElem?_drop] at hz
              have h := ((XW.out.alloc (.cells #[] 26)).cell (HC.out _ _ hz))
              simpa [Nat.add_assoc] using h
            intro v2 w2 f2 hg2 hk2
            have F2 : Hid (FreshV w.heap.size w2 v2 dr) := Lib.hid (by simpa using f2)
            have X2 := Lib.hid (hk2 w (XW.out.alloc _) (Nat.le_refl _))
            have XB2 : Hid (Ext w (w2.alloc (.cells #[] 26))) := Lib.hid (X2.out.alloc _)
            have HSB2 : Hid (w2.heap.size ≤ (w2.alloc (.cells #[] 26)).heap.size) := Lib.hid (Ext.alloc1 _ _).size
            have HB2 : Hid (([] : List Value).length + tk.length ≤ 1048576) := Lib.hid (by rw [HT1.out]; simp only [List.length_nil]; omega)
            clear f2 hg2 hk2 XW HBND HSW
            go_wp2_with (at_builtin; refine wpList_joinVn rfl _ _ rfl w2.heap.size _ [] tk rfl (freshV_lit w2 w2.heap.size (Nat.le_refl _)) b off (k' + 1) cap HT1.out rfl ?_ (fun u hu => HONE.out u (List.mem_of_mem_take (by rw [← HTK.out]; exact hu))) HB2.out HSB2.out ?_)
            · intro j z hz
              rw [HTK.out, List.getElem?_take] at hz
              split at hz
              · exact XB2.out.cell (HC.out _ _ hz)
              · cases hz
            intro v3 w3 f3 hg3 hk3
            have F3 : Hid (FreshV w2.heap.size (w3.alloc (.cells #[.slice (some ⟨bx, ox, none⟩) 2 cx] 26)) v3 tk) := Lib.hid ((show FreshV w2.heap.size w3 v3 tk by simpa using f3).ext (Ext.alloc1 w3 (.cells #[.slice (some ⟨bx, ox, none⟩) 2 cx] 26)))
            have X3 := Lib.hid (hk3 w2 (Ext.alloc1 _ _) (Nat.le_refl _))
            have HL3 : Hid (tk.length ≤ 1048576) := Lib.hid (by rw [HT1.out]; omega)
            have HS3 : Hid (w2.heap.size ≤ (w3.alloc (.cells #[.slice (some ⟨bx, ox, none⟩) 2 cx] 26)).heap.size) := Lib.hid (Nat.le_trans X3.out.size (Ext.alloc1 _ _).size)
            clear f3 hg3 hk3 HB2 XB2
            go_wp2_with (at_builtin; refine wpList_pushV rfl _ _ rfl w2.heap.size _ tk rfl F3.out (.slice (some ⟨bx, ox, none⟩) 2 cx) ⟨w3.heap.size, 0, none⟩ 1 rfl (cell_alloc_one _ _ _) rfl HL3.out HS3.out ?_)
            intro v4 w4 f4 hg4 hk4
            have F4 := Lib.hid f4
            have X4 := Lib.hid (hk4 w2 (X3.out.alloc _) (Nat.le_refl _))
            have G4 : Hid (FreshV w.heap.size w4 v2 dr) := Lib.hid (F2.out.ext X4.out)
            have HO4 : Hid (∀ u ∈ dr, u.oneCell' = true) := Lib.hid (fun u hu => HONE.out u (List.mem_of_mem_drop (by rw [← HDR.out]; exact hu)))
            have HL4 : Hid ((tk ++ [Value.slice (some ⟨bx, ox, none⟩) 2 cx]).length + dr.length ≤ 1048576) := Lib.hid (by
              have h1 := HT1.out
              have h2 := HD1.out
              simp only [List.length_append, h1, h2, List.length_cons, List.length_nil]
              omega)
            clear f4 hg4 hk4 HL3 HS3 F3 F2
            go_wp2_with (at_builtin; refine wpList_joinVV rfl _ _ rfl w2.heap.size w.heap.size _ v2 _ dr rfl F4.out rfl G4.out HO4.out HL4.out X4.out.size ?_)
            intro v5 w5 f5 hg5 hk5
            have F5 := Lib.hid (f5.more X2.out.size)
            have X5 := Lib.hid (X2.out.trans (hk5 w2 X4.out (Nat.le_refl _)))
            clear f5 hg5 hk5 HL4 HO4 G4 F4
            go_wp2
            go_ret
            rw [HK.out, ← HTK.out, ← HDR.out]
            exact ⟨_, rfl, (by simpa using F5.out), X5.out⟩
end Go.Proofs.YtcpmfcigciknlaaGreat

namespace Go.Proofs.YtcpmfcigciknlaaGreat
open Go.RowKit Go.Maps
set_option linter.unusedVariables false
set_option maxHeartbeats 4000000 in
set_option maxRecDepth 100000 in
theorem l6Insert_nil (xv : Value) (x : Nat × Nat) (w : World) (hx : Ints w xv (pairOf x)) :
    Calls Tryz.prog 176 #[.slice none 0 0, xv] w (fun e w' => ∃ v', e = .returned v' ∧ FreshV w.heap.size w' v' [xv] ∧ Ext w w') := by
  obtain ⟨bx, ox, cx, rfl, x0, x1⟩ := pair_at hx
  clear hx
  go_enter Tryz.func176, Tryz.ntmps176
  go_wp2
  go_loopw [5] (fun i wr => ∃ k : Nat, k = 0 ∧ i = .int .i64 k ∧ Hid (Ext w wr)) (fun i _ => (intOf i).toNat)
  case atStart => exact ⟨0, rfl, rfl, Lib.hid (Ext.refl _)⟩
  case round =>
    obtain ⟨k, hk, rfl, HX⟩ := hrel
    subst hk
    have n0 : decide ((0 : Int) < 0) = false := by decide
    go_wp2_with fail
    go_quiet (fail)
    have XW : Hid (Ext w (wr.drewN nq)) := Lib.hid (HX.out.drewN _)
    obtain ⟨W, hW⟩ : ∃ W, W = wr.drewN nq := ⟨_, rfl⟩
    rw [← hW] at XW ⊢
    clear hW HX
    have HSW : Hid (w.heap.size ≤ (W.alloc (.cells #[] 26)).heap.size) := Lib.hid (Nat.le_trans XW.out.size (Ext.alloc1 _ _).size)
    go_wp2_with (at_builtin; refine wpList_joinV0 rfl _ _ rfl w.heap.size _ [] rfl (freshV_lit W w.heap.size XW.out.size) rfl ?_)
    intro v2 w2 f2 hg2 hk2
    have F2 : Hid (FreshV w.heap.size w2 v2 []) := Lib.hid f2
    have X2 := Lib.hid (hk2 w (XW.out.alloc _) (Nat.le_refl _))
    clear f2 hg2 hk2 XW HSW
    go_wp2_with (at_builtin; refine wpList_joinV0 rfl _ _ rfl w2.heap.size _ [] rfl (freshV_lit w2 w2.heap.size (Nat.le_refl _)) rfl ?_)
    intro v3 w3 f3 hg3 hk3
    have F3 : Hid (FreshV w2.heap.size (w3.alloc (.cells #[.slice (some ⟨bx, ox, none⟩) 2 cx] 26)) v3 []) := Lib.hid (f3.ext (Ext.alloc1 w3 (.cells #[.slice (some ⟨bx, ox, none⟩) 2 cx] 26)))
    have X3 := Lib.hid (hk3 w2 (Ext.alloc1 _ _) (Nat.le_refl _))
    have HL3 : Hid (([] : List Value).length ≤ 1048576) := Lib.hid (by simp only [List.length_nil]; omega)
    have HS3 : Hid (w2.heap.size ≤ (w3.alloc (.cells #[.slice (some ⟨bx, ox, none⟩) 2 cx] 26)).heap.size) := Lib.hid (Nat.le_trans X3.out.size (Ext.alloc1 _ _).size)
    clear f3 hg3 hk3
    go_wp2_with (at_builtin; refine wpList_pushV rfl _ _ rfl w2.heap.size _ [] rfl F3.out (.slice (some ⟨bx, ox, none⟩) 2 cx) ⟨w3.heap.size, 0, none⟩ 1 rfl (cell_alloc_one _ _ _) rfl HL3.out HS3.out ?_)
    intro v4 w4 f4 hg4 hk4
    have F4 := Lib.hid f4
    have X4 := Lib.hid (hk4 w2 (X3.out.alloc _) (Nat.le_refl _))
    have G4 : Hid (FreshV w.heap.size w4 v2 []) := Lib.hid (F2.out.ext X4.out)
    have HO4 : Hid (∀ u ∈ ([] : List Value), u.oneCell' = true) := Lib.hid (fun u hu => by cases hu)
    have HL4 : Hid ((([] : List Value) ++ [Value.slice (some ⟨bx, ox, none⟩) 2 cx]).length + ([] : List Value).length ≤ 1048576) := Lib.hid (by
      simp only [List.length_append, List.length_cons, List.length_nil]
      omega)
    clear f4 hg4 hk4 HL3 HS3 F3 F2
    go_wp2_with (at_builtin; refine wpList_joinVV rfl _ _ rfl w2.heap.size w.heap.size _ v2 _ [] rfl F4.out rfl G4.out HO4.out HL4.out X4.out.size ?_)
    intro v5 w5 f5 hg5 hk5
    have F5 := Lib.hid (f5.more X2.out.size)
    have X5 := Lib.hid (X2.out.trans (hk5 w2 X4.out (Nat.le_refl _)))
    clear f5 hg5 hk5 HL4 HO4 G4 F4
    go_wp2
    go_ret
    exact ⟨_, rfl, F5.out, X5.out⟩
theorem l6Insert_any {sv xv : Value} {vs : List Value} {L : List (Nat × Nat)} {x : Nat × Nat} {w : World} (h : PairsAt w sv vs L) (hx : Ints w xv (pairOf x)) (hl : L.length ≤ 1000) :
    Calls Tryz.prog 176 #[sv, xv] w (fun e w' => ∃ v', e = .returned v' ∧ FreshV w.heap.size w' v' (vs.take (insKI L x) ++ [xv] ++ vs.drop (insKI L x)) ∧ Ext w w' ∧ PairsAt w' v' (vs.take (insKI L x) ++ [xv] ++ vs.drop (insKI L x)) (insL L x)) := by
  have key : ∀ (w' : World) (v' : Value), FreshV w.heap.size w' v' (vs.take (insKI L x) ++ [xv] ++ vs.drop (insKI L x)) → Ext w w' → PairsAt w' v' (vs.take (insKI L x) ++ [xv] ++ vs.drop (insKI L x)) (insL L x) := by
    intro w' v' f e
    have hk : insKI L x ≤ L.length := insAtI_le L x _
    refine ⟨?_, f.vals, ?_⟩
    · unfold insL
      simp only [List.length_append, List.length_take, List.length_drop, h.len]
      rfl
    · intro j u y hu hy
      unfold insL at hy
      have hlt : (vs.take (insKI L x)).length = insKI L x := by rw [List.length_take, h.len]; omega
      have hlt2 : (L.take (insKI L x)).length = insKI L x := by rw [List.length_take]; omega
      rw [List.append_assoc] at hu hy
      by_cases h1 : j < insKI L x
      · rw [List.getElem?_append_left (by omega), List.getElem?_take, if_pos h1] at hu hy
        exact (h.row j u y hu hy).ext e
      · rw [List.getElem?_append_right (by omega)] at hu hy
        rw [hlt] at hu
        rw [hlt2] at hy
        by_cases h2 : j - insKI L x = 0
        · rw [h2] at hu hy
          obtain rfl : xv = u := by simpa using hu
          obtain rfl : x = y := by simpa using hy
          exact hx.ext e
        · obtain ⟨i, hi⟩ : ∃ i, j - insKI L x = i + 1 := ⟨j - insKI L x - 1, by omega⟩
          rw [hi, List.singleton_append, List.getElem?_cons_succ, List.getElem?_drop] at hu hy
          exact (h.row _ u y hu hy).ext e
  rcases h.reads with ⟨rfl, rfl⟩ | ⟨b, off, cap, rfl, h1, h2, h3⟩
  · obtain rfl : L = [] := List.eq_nil_of_length_eq_zero h.len.symm
    refine (l6Insert_nil xv x w hx).mono ?_
    rintro e w1 ⟨v', rfl, f, e⟩
    exact ⟨v', rfl, f, e, key _ _ f e⟩
  · refine (l6Insert_some b off cap xv vs L x w h.len h1 h2 h3 h.row hx hl vs.length rfl).mono ?_
    rintro e w1 ⟨v', rfl, f, e⟩
    exact ⟨v', rfl, f, e, key _ _ f e⟩
end Go.Proofs.YtcpmfcigciknlaaGreat

namespace Go.Proofs.YtcpmfcigciknlaaGreat
open Go.RowKit Go.Maps
set_option linter.unusedVariables false
theorem mem_insL {L : List (Nat × Nat)} {x z : Nat × Nat} : z ∈ insL L x ↔ z = x ∨ z ∈ L := by
  unfold insL
  conv => rhs; rw [← List.take_append_drop (insKI L x) L]
  simp only [List.mem_append, List.mem_singleton]
  constructor
  · rintro ((h | h) | h)
    · exact .inr (.inl h)
    · exact .inl h
    · exact .inr (.inr h)
  · rintro (h | h | h)
    · exact .inl (.inr h)
    · exact .inl (.inl h)
    · exact .inr h
theorem mem_depsL {n : Int} {T : List (List RowD)} {x z : Nat × Nat} : z ∈ depsL n T x ↔ z ∈ hungL (rowOf n T x.1 x.2) ∧ z ≠ x := by
  unfold depsL depsTo hungL hungTo depsAt hungAt depN depM
  simp only [List.mem_flatMap, List.mem_range, List.mem_map, List.mem_filter]
  constructor
  · rintro ⟨p, hp, i, ⟨hi, hne⟩, rfl⟩
    exact ⟨⟨p, hp, i, hi, rfl⟩, by simpa using hne⟩
  · rintro ⟨⟨p, hp, i, hi, rfl⟩, hne⟩
    exact ⟨p, hp, i, ⟨hi, by simpa using hne⟩, rfl⟩
theorem insAtI_spec (L : List (Nat × Nat)) (x : Nat × Nat) : ∀ k, k ≤ L.length → (∀ i y, insAtI L x k ≤ i → i < k → L[i]? = some y → lexL x y) ∧ (insAtI L x k = 0 ∨ ∃ y, L[insAtI L x k - 1]? = some y ∧ ¬ lexL x y)
  | 0, _ => ⟨fun i y _ h => by omega, .inl rfl⟩
  | k + 1, hk => by
    have e : L[k]? = some (L[k]'(by omega)) := List.getElem?_eq_getElem _
    by_cases h : lexL x (L[k]'(by omega))
    · have e2 : insAtI L x (k + 1) = insAtI L x k := by
        conv => lhs; unfold insAtI
        rw [e]
        simp only [if_pos h]
      rw [e2]
      obtain ⟨i1, i2⟩ := insAtI_spec L x k (by omega)
      refine ⟨fun i y h1 h2 hy => ?_, i2⟩
      by_cases hi : i = k
      · subst hi
        rw [e] at hy
        rw [← Option.some.inj hy]; exact h
      · exact i1 i y h1 (by omega) hy
    · have e2 : insAtI L x (k + 1) = k + 1 := by
        conv => lhs; unfold insAtI
        rw [e]
        simp only [if_neg h]
      rw [e2]
      exact ⟨fun i y h1 h2 _ => by omega, .inr ⟨_, e, h⟩⟩
theorem lexL_trans {a b c : Nat × Nat} (h : lexL a b) (k : lexL b c) : lexL a c := by unfold lexL at *; omega
theorem lexL_total {a b : Nat × Nat} (h : ¬ lexL a b) (hne : a ≠ b) : lexL b a := by
  unfold lexL at *
  have : ¬ (a.1 = b.1 ∧ a.2 = b.2) := fun e => hne (Prod.ext e.1 e.2)
  omega
theorem insL_sorted {L : List (Nat × Nat)} {x : Nat × Nat} (h : L.Pairwise lexL) (hx : x ∉ L) : (insL L x).Pairwise lexL := by
  obtain ⟨h1, h2⟩ := insAtI_spec L x L.length (Nat.le_refl _)
  have hk : insKI L x ≤ L.length := insAtI_le L x _
  have hdrop : ∀ z ∈ L.drop (insKI L x), lexL x z := by
    intro z hz
    obtain ⟨i, hi, e⟩ := List.getElem_of_mem hz
    rw [List.length_drop] at hi
    rw [List.getElem_drop] at e
    exact h1 (insKI L x + i) z (Nat.le_add_right _ _) (by omega) (by rw [List.getElem?_eq_getElem (by omega), e])
  have htake : ∀ z ∈ L.take (insKI L x), lexL z x := by
    intro z hz
    obtain ⟨i, hi, e⟩ := List.getElem_of_mem hz
    rw [List.length_take] at hi
    rw [List.getElem_take] at e
    have hlt : i < L.length := by omega
    rcases h2 with h0 | ⟨y, hy, hn⟩
    · have : insKI L x = 0 := h0
      omega
    · have hy' : L[insKI L x - 1]? = some y := hy
      have hlt2 := (List.getElem?_eq_some_iff.1 hy').1
      have hym : y ∈ L := List.mem_of_getElem? hy'
      have hyx : lexL y x := lexL_total hn (fun e => hx (by rw [e]; exact hym))
      by_cases hi2 : i = insKI L x - 1
      · have : z = y := by
          rw [← e]
          have := (List.getElem?_eq_some_iff.1 hy').2
          rw [← this]
          congr
        rw [this]; exact hyx
      · have hlex : lexL z y := by
          have := List.pairwise_iff_getElem.1 h i (insKI L x - 1) hlt hlt2 (by omega)
          rw [e, (List.getElem?_eq_some_iff.1 hy').2] at this
          exact this
        exact lexL_trans hlex hyx
  unfold insL
  rw [List.append_assoc, List.pairwise_append]
  refine ⟨h.sublist (List.take_sublist _ _), ?_, ?_⟩
  · rw [List.singleton_append, List.pairwise_cons]
    exact ⟨hdrop, h.sublist (List.drop_sublist _ _)⟩
  · intro a ha b hb
    rw [List.singleton_append, List.mem_cons] at hb
    rcases hb with rfl | hb
    · exact htake a ha
    · exact lexL_trans (htake a ha) (hdrop b hb)
def addB (T : List (List RowD)) (s : List (Nat × Nat) × List (Nat × Nat)) (x : Nat × Nat) : List (Nat × Nat) × List (Nat × Nat) :=
  if x ∈ s.1 ∨ x ∈ s.2 then s else if instCom T x.1 x.2 then (s.1 ++ [x], s.2) else (s.1, insL s.2 x)
structure BlkI (n : Int) (T : List (List RowD)) (x0 : Nat × Nat) (i j : Nat) (s : List (Nat × Nat) × List (Nat × Nat)) : Prop where
  first : x0 ∈ s.1
  com : ∀ z ∈ s.1, instCom T z.1 z.2 = true
  not : ∀ z ∈ s.2, instCom T z.1 z.2 = false
  nodup : s.1.Nodup
  done : ∀ k y, k < i → s.1[k]? = some y → ∀ z ∈ depsL n T y, z ∈ s.1 ∨ z ∈ s.2
  part : ∀ y, s.1[i]? = some y → ∀ z ∈ (depsL n T y).take j, z ∈ s.1 ∨ z ∈ s.2
  led : ∀ C : Nat × Nat → Prop, (∀ y, C y → instCom T y.1 y.2 = true → ∀ z ∈ hungL (rowOf n T y.1 y.2), C z) → C x0 → (∀ z ∈ s.1, C z) ∧ ∀ z ∈ s.2, C z
  sorted : s.2.Pairwise lexL
theorem BlkI.start {n : Int} {T : List (List RowD)} {x0 : Nat × Nat} (h : instCom T x0.1 x0.2 = true) : BlkI n T x0 0 0 ([x0], []) where
  first := by simp
  com := fun z hz => by obtain rfl : z = x0 := by simpa using hz
                        exact h
  not := fun z hz => by cases hz
  nodup := by simp
  done := fun k y hk => by omega
  part := fun y _ z hz => by simp at hz
  led := fun C _ hC => ⟨fun z hz => by obtain rfl : z = x0 := by simpa using hz
                                       exact hC, fun z hz => by cases hz⟩
  sorted := List.Pairwise.nil
theorem addB_keep {T : List (List RowD)} {s : List (Nat × Nat) × List (Nat × Nat)} {x : Nat × Nat} : (∀ (k : Nat) (y : Nat × Nat), s.1[k]? = some y → (addB T s x).1[k]? = some y) ∧ (∀ z, z ∈ s.1 ∨ z ∈ s.2 → z ∈ (addB T s x).1 ∨ z ∈ (addB T s x).2) ∧ (x ∈ (addB T s x).1 ∨ x ∈ (addB T s x).2) := by
  unfold addB
  split
  · rename_i h
    exact ⟨fun _ _ h => h, fun _ h => h, h⟩
  · split
    · refine ⟨fun k y h => ?_, fun z h => ?_, .inl (by simp)⟩
      · have hk := (List.getElem?_eq_some_iff.1 h).1
        rw [List.getElem?_append_left hk]
        exact h
      · rcases h with h | h
        · exact .inl (List.mem_append_left _ h)
        · exact .inr h
    · refine ⟨fun _ _ h => h, fun z h => ?_, .inr (mem_insL.2 (.inl rfl))⟩
      rcases h with h | h
      · exact .inl h
      · exact .inr (mem_insL.2 (.inr h))
theorem BlkI.step {n : Int} {T : List (List RowD)} {x0 : Nat × Nat} {i j : Nat} {s : List (Nat × Nat) × List (Nat × Nat)} (h : BlkI n T x0 i j s) {y x : Nat × Nat} (hy : s.1[i]? = some y) (hx : (depsL n T y)[j]? = some x) : BlkI n T x0 i (j + 1) (addB T s x) := by
  obtain ⟨k1, k2, k3⟩ := addB_keep (T := T) (s := s) (x := x)
  have old : ∀ k, k ≤ i → ∀ y', (addB T s x).1[k]? = some y' → s.1[k]? = some y' := by
    intro k hk y' h'
    have hi := (List.getElem?_eq_some_iff.1 hy).1
    have e : s.1[k]? = some (s.1[k]'(by omega)) := List.getElem?_eq_getElem _
    have := k1 k _ e
    rw [this] at h'
    rw [e, h']
  have hmem : x ∈ depsL n T y := List.mem_of_getElem? hx
  have hled : ∀ C : Nat × Nat → Prop, (∀ y, C y → instCom T y.1 y.2 = true → ∀ z ∈ hungL (rowOf n T y.1 y.2), C z) → C x0 → C x := fun C hC h0 => hC y ((h.led C hC h0).1 y (List.mem_of_getElem? hy)) (h.com y (List.mem_of_getElem? hy)) x (mem_depsL.1 hmem).1
  have hdone : ∀ k y', k < i → (addB T s x).1[k]? = some y' → ∀ z ∈ depsL n T y', z ∈ (addB T s x).1 ∨ z ∈ (addB T s x).2 := fun k y' hk h' z hz => k2 z (h.done k y' hk (old k (by omega) y' h') z hz)
  have hpart : ∀ y', (addB T s x).1[i]? = some y' → ∀ z ∈ (depsL n T y').take (j + 1), z ∈ (addB T s x).1 ∨ z ∈ (addB T s x).2 := by
    intro y' h' z hz
    have e := old i (Nat.le_refl _) y' h'
    obtain rfl : y = y' := by rw [hy] at e; exact Option.some.inj e
    rw [List.take_add_one, hx] at hz
    rcases List.mem_append.1 hz with hz | hz
    · exact k2 z (h.part y hy z hz)
    · obtain rfl : z = x := by simpa using hz
      exact k3
  refine ⟨?_, ?_, ?_, ?_, hdone, hpart, ?_, ?_⟩
  · have h0 := h.first
    unfold addB
    split
    · exact h0
    · split
      · exact List.mem_append_left _ h0
      · exact h0
  · have h0 := h.com
    unfold addB
    split
    · exact h0
    · split
      · rename_i hc
        intro z hz
        rcases List.mem_append.1 hz with hz | hz
        · exact h0 z hz
        · obtain rfl : z = x := by simpa using hz
          exact hc
      · exact h0
  · have h0 := h.not
    unfold addB
    split
    · exact h0
    · split
      · exact h0
      · rename_i hc
        intro z hz
        rcases mem_insL.1 hz with rfl | hz
        · simpa using hc
        · exact h0 z hz
  · have h0 := h.nodup
    unfold addB
    split
    · exact h0
    · rename_i hn
      split
      · refine List.nodup_append.2 ⟨h0, by simp, fun a ha b hb => ?_⟩
        obtain rfl : b = x := by simpa using hb
        intro e
        subst e
        exact hn (.inl ha)
      · exact h0
  · intro C hC hx0
    have h0 := h.led C hC hx0
    have hxc := hled C hC hx0
    unfold addB
    split
    · exact h0
    · split
      · refine ⟨fun z hz => ?_, h0.2⟩
        rcases List.mem_append.1 hz with hz | hz
        · exact h0.1 z hz
        · obtain rfl : z = x := by simpa using hz
          exact hxc
      · refine ⟨h0.1, fun z hz => ?_⟩
        rcases mem_insL.1 hz with rfl | hz
        · exact hxc
        · exact h0.2 z hz
  · have h0 := h.sorted
    unfold addB
    split
    · exact h0
    · rename_i hn
      split
      · exact h0
      · exact insL_sorted h0 (fun e => hn (.inr e))
theorem BlkI.next {n : Int} {T : List (List RowD)} {x0 : Nat × Nat} {i j : Nat} {s : List (Nat × Nat) × List (Nat × Nat)} (h : BlkI n T x0 i j s) {y : Nat × Nat} (hy : s.1[i]? = some y) (hj : (depsL n T y).length ≤ j) : BlkI n T x0 (i + 1) 0 s := by
  refine ⟨h.first, h.com, h.not, h.nodup, fun k y' hk h' z hz => ?_, fun y' _ z hz => by simp at hz, h.led, h.sorted⟩
  by_cases hki : k < i
  · exact h.done k y' hki h' z hz
  · obtain rfl : k = i := by omega
    obtain rfl : y = y' := by rw [hy] at h'; exact Option.some.inj h'
    exact h.part y hy z (by rw [List.take_of_length_le hj]; exact hz)
theorem BlkI.ready {n : Int} {T : List (List RowD)} {x0 : Nat × Nat} {i : Nat} {s : List (Nat × Nat) × List (Nat × Nat)} (h : BlkI n T x0 i 0 s) (hi : s.1.length ≤ i) : s.2 = [] ↔ readyP n T x0 := by
  constructor
  · intro h0
    refine ⟨fun z => z ∈ s.1, ⟨h.com, fun y hy z hz => ?_⟩, h.first⟩
    by_cases e : z = y
    · rw [e]; exact hy
    · obtain ⟨k, hk⟩ := List.getElem?_of_mem hy
      have hlt := (List.getElem?_eq_some_iff.1 hk).1
      rcases h.done k y (by omega) hk z (mem_depsL.2 ⟨hz, e⟩) with g | g
      · exact g
      · rw [h0] at g; cases g
  · rintro ⟨C, hC, h0⟩
    have hl := (h.led C (fun y hy _ z hz => hC.2 y hy z hz) h0).2
    cases hs : s.2 with
    | nil => rfl
    | cons z r =>
      have hz : z ∈ s.2 := by rw [hs]; simp
      have a := hC.1 z (hl z hz)
      rw [h.not z hz] at a
      cases a
theorem insL_perm (L : List (Nat × Nat)) (x : Nat × Nat) : (insL L x).Perm (x :: L) := by
  unfold insL
  rw [List.append_assoc, List.singleton_append]
  have h := List.perm_middle (a := x) (l₁ := L.take (insKI L x)) (l₂ := L.drop (insKI L x))
  rw [List.take_append_drop] at h
  exact h
structure BlkB (s : List (Nat × Nat) × List (Nat × Nat)) : Prop where
  n1 : s.1.Nodup
  n2 : s.2.Nodup
  in1 : ∀ z ∈ s.1, z.1 < 5 ∧ z.2 < 6
  in2 : ∀ z ∈ s.2, z.1 < 5 ∧ z.2 < 6
theorem few_of {l : List (Nat × Nat)} (hn : l.Nodup) (hb : ∀ z ∈ l, z.1 < 5 ∧ z.2 < 6) : l.length ≤ 30 := by
  have h := nodup_len 30 (l.map fun z => z.1 * 6 + z.2) (by
    unfold List.Nodup at hn ⊢
    rw [List.pairwise_map]
    refine List.Pairwise.imp_of_mem ?_ hn
    intro a b ha hb' hne e
    have h1 := hb a ha
    have h2 := hb b hb'
    apply hne
    exact Prod.ext (by omega) (by omega)) (by
    intro i hi
    obtain ⟨z, hz, rfl⟩ := List.mem_map.1 hi
    have := hb z hz
    omega)
  rwa [List.length_map] at h
theorem BlkB.few {s : List (Nat × Nat) × List (Nat × Nat)} (h : BlkB s) : s.1.length ≤ 30 ∧ s.2.length ≤ 30 := ⟨few_of h.n1 h.in1, few_of h.n2 h.in2⟩
theorem depsL_in {n : Int} {T : List (List RowD)} (hg : goodTab n T = true) {y x : Nat × Nat} (hy : y.1 < T.length) (hx : x ∈ depsL n T y) : x.1 < 5 ∧ x.2 < 6 := by
  have h := (mem_depsL.1 hx).1
  unfold hungL hungTo hungAt depM at h
  simp only [List.mem_flatMap, List.mem_range, List.mem_map] at h
  obtain ⟨p, hp, i, hi, rfl⟩ := h
  have h1 := rowOf_list hg hy y.2
  have h2 := dep_in hg hy y.2 p
  exact ⟨by show p < 5; omega, by show i < 6; omega⟩
theorem BlkB.step {n : Int} {T : List (List RowD)} (hg : goodTab n T = true) {s : List (Nat × Nat) × List (Nat × Nat)} (h : BlkB s) {y x : Nat × Nat} (hy : y.1 < T.length) (hx : x ∈ depsL n T y) : BlkB (addB T s x) := by
  have hb := depsL_in hg hy hx
  unfold addB
  split
  · exact h
  · rename_i hn
    split
    · refine ⟨List.nodup_append.2 ⟨h.n1, by simp, fun a ha b hb' => ?_⟩, h.n2, fun z hz => ?_, h.in2⟩
      · obtain rfl : b = x := by simpa using hb'
        intro e
        subst e
        exact hn (.inl ha)
      · rcases List.mem_append.1 hz with hz | hz
        · exact h.in1 z hz
        · obtain rfl : z = x := by simpa using hz
          exact hb
    · refine ⟨h.n1, (insL_perm s.2 x).nodup_iff.2 (List.nodup_cons.2 ⟨fun e => hn (.inr e), h.n2⟩), h.in1, fun z hz => ?_⟩
      rcases mem_insL.1 hz with rfl | hz
      · exact hb
      · exact h.in2 z hz
end Go.Proofs.YtcpmfcigciknlaaGreat
