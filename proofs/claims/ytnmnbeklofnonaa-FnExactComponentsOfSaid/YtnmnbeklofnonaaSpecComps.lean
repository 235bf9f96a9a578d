/- Contract of the model's l5Components: the groups, each behind those that it hangs on. -/
import Derived.Test.YtnmnbeklofnonaaSpecGroups
import Derived.Test.YtnmnbeklofnonaaCompS
import Derived.Test.YtnmnbeklofnonaaPushV
import Derived.Test.YtnmnbeklofnonaaL1Has
import Derived.Deep.AppendLies
namespace Go.Proofs.Ytnmnbeklofnonaa
open Go.RowKit
set_option linter.unusedVariables false

theorem nodup_len : ∀ (N : Nat) (l : List Nat), l.Nodup → (∀ i ∈ l, i < N) → l.length ≤ N
  | 0, l, _, h => by
    cases l with
    | nil => simp
    | cons a t => exact absurd (h a (by simp)) (by omega)
  | N + 1, l, hn, h => by
    have ih := nodup_len N (l.erase N) (hn.erase N) (fun i hi => by
      have h1 := (hn.mem_erase_iff).1 hi
      have := h i h1.2
      have := h1.1
      omega)
    rw [List.length_erase] at ih
    split at ih <;> omega

def lenV : Value → Nat
  | .slice _ n _ => n
  | _ => 0
def pickV (VS : List Value) (is : List Nat) : List Value := is.map fun i => VS[i]?.getD (.slice none 0 0)
theorem pickV_len (VS : List Value) (is : List Nat) : (pickV VS is).length = is.length := by simp [pickV]
theorem pickL_len (L : List (List Int)) (is : List Nat) : (pickL L is).length = is.length := by simp [pickL]
theorem pickV_at {VS : List Value} {is : List Nat} {k i : Nat} (h : is[k]? = some i) : (pickV VS is)[k]? = some (VS[i]?.getD (.slice none 0 0)) := by
  unfold pickV
  rw [List.getElem?_map, h]; rfl
theorem pickV_erase (VS : List Value) (is : List Nat) (k : Nat) : pickV VS (is.eraseIdx k) = (pickV VS is).take k ++ (pickV VS is).drop (k + 1) := by
  unfold pickV
  rw [erase_map, List.eraseIdx_eq_take_drop_succ]
theorem pickV_snoc (VS : List Value) (is : List Nat) (i : Nat) : pickV VS (is ++ [i]) = pickV VS is ++ [VS[i]?.getD (.slice none 0 0)] := by simp [pickV]

theorem FreshV.zero {B : Nat} {w : World} {v : Value} {vs : List Value} (h : FreshV B w v vs) : FreshV 0 w v vs := h.more (Nat.zero_le _)
theorem FreshV.at {B : Nat} {w : World} {g n cap : Nat} {vs : List Value} (h : FreshV B w (.slice (some ⟨g, 0, none⟩) n cap) vs) (hn : vs.length = n) {j : Nat} {z : Value} (hj : vs[j]? = some z) : w.cell? ⟨g, j, none⟩ = some z := by
  subst hn
  have hlt := (List.getElem?_eq_some_iff.1 hj).1
  have := World.ownsRow.cellAt h j (by omega)
  rw [this, hj]
theorem FreshV.form {B : Nat} {w : World} {v : Value} {vs : List Value} (h : FreshV B w v vs) {n : Nat} (hn : vs.length = n) (h0 : 0 < n) : ∃ g cap, v = .slice (some ⟨g, 0, none⟩) n cap ∧ n ≤ cap ∧ cap ≤ maxLen := by
  subst hn
  rcases h.2 with ⟨_, h1⟩ | ⟨g, cap, cur, hv, hb, hg, hnc, hcm, _⟩
  · omega
  · exact ⟨g, cap, hv, by omega, hcm⟩
theorem FreshV.len {B : Nat} {w : World} {v : Value} {vs : List Value} (h : FreshV B w v vs) : ∃ ao cap, v = .slice ao vs.length cap := by
  rcases h.2 with ⟨hv, h1⟩ | ⟨g, cap, cur, hv, _⟩
  · exact ⟨none, 0, by rw [hv, h1]⟩
  · exact ⟨_, cap, hv⟩

theorem wpList_joinVn {ops : Array Oper} {rest : List Oper} {o : Oper} {a : Act} {Q : Exit → Act → World → Prop} {w : World} (hgd : o.guard = none) (s x : Operand)
    (ho : o.op = .call { callee := .builtin .append, args := #[s, x], argTypes := #[50, 50] })
    (B : Nat) (v : Value) (vs us : List Value) (hs : a.eval s = v) (hf : FreshV B w v vs) (b off n c : Nat) (hn : us.length = n) (hx : a.eval x = .slice (some ⟨b, off, none⟩) n c)
    (hc : ∀ j z, us[j]? = some z → w.cell? ⟨b, off + j, none⟩ = some z) (h1 : ∀ u ∈ us, u.oneCell' = true) (hl : vs.length + us.length ≤ 1048576) (hB : B ≤ w.heap.size)
    (h : ∀ v' w', FreshV B w' v' (vs ++ us) → w.grownBy w' v.ownBlock → Kept B w w' → wpList Try.prog ops Q rest (a.put o.dst v') w') : wpList Try.prog ops Q (o :: rest) a w := by
  subst hn
  exact wpList_joinV hgd s x ho B v vs us hs hf b off c hx hc h1 hl hB h

theorem freshV_lit (w : World) (B : Nat) (hB : B ≤ w.heap.size) : FreshV B (w.alloc (.cells #[] 27)) (.slice (some ⟨w.heap.size, 0, none⟩) 0 0) [] := by
  have h := World.ownsRow_lit (e := 27) (size := 1) w #[] 0 hB (by unfold maxLen; omega) (by simp)
  exact h
/-- The rows behind the values that are left. -/
theorem Rows_.ints {B : Nat} {w : World} {VS : List Value} {L : List (List Int)} (h : Rows_ B w VS L) {i : Nat} (hi : i < L.length) : Ints w (VS[i]?.getD (.slice none 0 0)) (L[i]?.getD []) := by
  have h1 : VS[i]? = some (VS[i]'(by rw [h.len]; exact hi)) := List.getElem?_eq_getElem _
  have h2 : L[i]? = some L[i] := List.getElem?_eq_getElem hi
  rw [h1, h2]
  exact (h.row i _ _ h1 h2).ints
theorem Rows_.one {B : Nat} {w : World} {VS : List Value} {L : List (List Int)} (h : Rows_ B w VS L) (i : Nat) : (VS[i]?.getD (.slice none 0 0)).oneCell' = true := by
  cases hj : VS[i]? with
  | none => rfl
  | some u =>
    have hlt := (List.getElem?_eq_some_iff.1 hj).1
    have := h.ints (i := i) (by rw [← h.len]; exact hlt)
    rw [hj] at this
    obtain ⟨_, _, hv, _⟩ := this
    rw [Option.getD_some] at hv ⊢
    rw [hv]; rfl
theorem Left.in {g LL : List (List Int)} (hg : rowsB g = true) (h : Left g LL) {k : Nat} {G : List Int} (hk : LL[k]? = some G) : ∀ p ∈ G, 0 ≤ p ∧ p < (g.length : Int) := by
  intro p hp
  obtain ⟨q, hq, rfl⟩ := h.1 G (List.mem_of_getElem? hk)
  exact groupL_in hg hq hp

/-- Whether the point p leads to none of the lists but its own. -/
def fromP (g LL : List (List Int)) (k : Nat) (p : Int) : Bool := (List.range LL.length).all fun i => freeN g LL k p i
theorem freeB_all (g LL : List (List Int)) (k : Nat) (G : List Int) (h : LL[k]? = some G) : freeB g LL k = G.all (fromP g LL k) := by
  rw [freeB_eq, h, Option.getD_some]; rfl
def upTo (g LL : List (List Int)) (k : Nat) (p : Int) (t : Nat) : Bool := (List.range t).all fun i => freeN g LL k p i
theorem upTo_succ (g LL : List (List Int)) (k : Nat) (p : Int) (t : Nat) : upTo g LL k p (t + 1) = (upTo g LL k p t && freeN g LL k p t) := by
  unfold upTo
  rw [List.range_succ, List.all_append]
  simp
def inTo (g : List (List Int)) (k t : Nat) (p : Int) (O : List Int) (s : Nat) : Bool := (O.take s).all fun n => decide (t = k) || !hasI (rowG g p) n
theorem inTo_succ (g : List (List Int)) (k t : Nat) (p : Int) (O : List Int) {s : Nat} (h : s < O.length) : inTo g k t p O (s + 1) = (inTo g k t p O s && (decide (t = k) || !hasI (rowG g p) O[s])) := by
  unfold inTo
  rw [List.take_add_one, List.getElem?_eq_getElem h, List.all_append]
  simp
theorem inTo_all (g LL : List (List Int)) (k t : Nat) (p : Int) (O : List Int) (h : LL[t]? = some O) : inTo g k t p O O.length = freeN g LL k p t := by
  unfold inTo freeN
  rw [List.take_length, h, Option.getD_some]
theorem takeAll_succ {l : List Int} {k : Nat} (h : k < l.length) (p : Int → Bool) : (l.take (k + 1)).all p = ((l.take k).all p && p l[k]) := by
  rw [List.take_add_one, List.getElem?_eq_getElem h, List.all_append]
  simp

set_option maxRecDepth 100000 in
set_option maxHeartbeats 8000000 in
theorem l5Components_any (v : Value) (g : List (List Int)) (w : World) (hv : Intss w v g) (hg : goodG g = true) :
    Calls Try.prog 65 #[v] w (NewSS (compsL g) w) := by
  have HV := Lib.hid hv
  obtain ⟨av, cv, rfl, hlv, _, dv⟩ := hv
  unfold maxLen at hlv
  obtain ⟨ha, hb⟩ := goodG_of hg
  have HG := Lib.hid hg
  have HA := Lib.hid ha
  have HB := Lib.hid hb
  have DV := Lib.hid dv
  clear hg ha hb dv
  go_enter Try.func65, Try.ntmps65
  go_wp2_with fail
  refine (l5Groups_any _ g _ HV.out HG.out).mono ?_
  rintro e wb ⟨v1, rfl, f1, x1⟩
  obtain ⟨VS, fv, hR⟩ := f1.vals
  obtain ⟨a1, c1, rfl⟩ := fv.len
  have hVL : VS.length = (groupsL g).length := hR.len
  have HXB := Lib.hid x1
  have HR := Lib.hid hR
  have HVL := Lib.hid hVL
  have HCS := Lib.hid (CompS.start HA.out)
  have hF0 : FreshV 0 wb (.slice a1 VS.length c1) (pickV VS (List.range (groupsL g).length)) := by
    have : pickV VS (List.range (groupsL g).length) = VS := by
      rw [← hVL]
      unfold pickV
      apply List.ext_getElem (by simp)
      intro i h1 h2
      simp [h2]
    rw [this]; exact fv.zero
  have HF0 := Lib.hid hF0
  have HL0 : Hid (VS.length = (List.range (groupsL g).length).length) := Lib.hid (by rw [List.length_range]; exact hVL)
  clear f1 fv hR hVL hF0 x1
  go_wp2
  go_loopw [3, 4, 5, 6, 7, 9, 10, 11, 13, 14] (fun vl vo _ _ _ _ _ _ _ _ wr => ∃ (isO isL : List Nat) (ao : Option Addr) (n c : Nat), vl = .slice ao n c ∧ Hid (isL.length = n) ∧ Hid (CompS g isO isL) ∧ Hid (FreshV 0 wr vl (pickV VS isL)) ∧ Hid (FreshV wb.heap.size wr vo (pickV VS isO)) ∧ Hid (Ext wb wr) ∧ Hid (∀ b, vl.ownBlock = some b → vo.ownBlock ≠ some b)) (fun vl _ _ _ _ _ _ _ _ _ _ => lenV vl)
  case atStart => exact ⟨[], _, a1, VS.length, c1, rfl, Lib.hid HL0.out.symm, HCS, HF0, Lib.hid (FreshV.nil _ _), Lib.hid (Ext.refl _), Lib.hid (fun b _ => by simp [Value.ownBlock])⟩
  case round =>
    obtain ⟨isO, isL, ao, n, c, rfl, hn, hC, hFl, hFo, hX, hAp⟩ := hrel
    obtain ⟨wa, hwa⟩ : ∃ x : World, x = wr := ⟨_, rfl⟩
    subst hwa
    obtain ⟨vo, hvo⟩ : ∃ x : Value, x = u4 := ⟨_, rfl⟩
    subst hvo
    by_cases h0 : n = 0
    · subst h0
      obtain rfl : isL = [] := List.eq_nil_of_length_eq_zero hn.out
      go_wp2
      go_ret
      have hd := hC.out.done
      have hp := (HR.out.ext hX.out).pick isO (by have := hC.out.nodup; simpa using this) (fun i hi => by rw [HVL.out]; exact hC.out.bound i (by simpa using hi))
      rw [← hd]
      exact ⟨_, rfl, FreshV.ss (hFo.out.more HXB.out.size) hp, HXB.out.trans hX.out⟩
    · obtain ⟨gl, cl, hvl, hcl1, hcl2⟩ := hFl.out.form (n := n) (by rw [pickV_len]; exact hn.out) (by omega)
      simp only [Value.slice.injEq, true_and] at hvl
      obtain ⟨rfl, rfl⟩ := hvl
      unfold maxLen at hcl2
      have hnn : n ≤ 40 := by
        have h1 := hC.out.nodup
        have h2 := hC.out.bound
        have h3 : isL.length ≤ (groupsL g).length := by
          have h4 := (List.nodup_append.1 h1).2.1
          exact nodup_len _ _ h4 (fun i hi => h2 i (List.mem_append_right _ hi))
        have h6 : (groupsL g).length ≤ g.length := by rw [← grpTo_all]; exact grpTo_len g _
        have := hn.out
        have := HB.out
        omega
      obtain ⟨LL, hLL⟩ : ∃ LL, LL = pickL (groupsL g) isL := ⟨_, rfl⟩
      have hLn : LL.length = n := by rw [hLL, pickL_len]; exact hn.out
      have hlef : Left g LL := by rw [hLL]; exact hC.out.left
      have HLL := Lib.hid hLL
      have HLN := Lib.hid hLn
      have HLE := Lib.hid hlef
      have hpos : 0 < n := by omega
      clear hLL hLn hlef
      go_wp2
      go_loopw [3, 4, 5, 6, 7, 9, 10, 11, 13, 14, 22] (fun vl vo2 _ _ _ _ _ _ _ _ i wr => ∃ k : Nat, k ≤ n ∧ i = .int .i64 k ∧ vl = .slice (some ⟨gl, 0, none⟩) n c ∧ vo2 = vo ∧ Hid (∀ j, j < k → freeB g LL j = false) ∧ Hid (Ext wa wr)) (fun _ _ _ _ _ _ _ _ _ _ i _ => n - (intOf i).toNat)
      case atStart => exact ⟨0, Nat.zero_le _, rfl, rfl, rfl, Lib.hid (fun j hj => by omega), Lib.hid (Ext.refl _)⟩
      case round =>
        obtain ⟨k, hk, rfl, rfl, rfl, hno, hX2⟩ := hrel
        obtain ⟨w2, hw2⟩ : ∃ x : World, x = wr := ⟨_, rfl⟩
        subst hw2
        by_cases hlt : k < n
        · obtain ⟨i, hi⟩ : ∃ i, isL[k]? = some i := ⟨_, List.getElem?_eq_getElem (by rw [hn.out]; exact hlt)⟩
          have hib : i < (groupsL g).length := hC.out.bound i (List.mem_append_right _ (List.mem_of_getElem? hi))
          obtain ⟨u, hu⟩ : ∃ u, u = VS[i]?.getD (.slice none 0 0) := ⟨_, rfl⟩
          obtain ⟨G, hG⟩ : ∃ G, G = (groupsL g)[i]?.getD [] := ⟨_, rfl⟩
          have hGk : LL[k]? = some G := by rw [HLL.out, hG]; exact pickL_at hi
          have zu : w2.cell? ⟨gl, k, none⟩ = some u := hX2.out.cell (by rw [hu]; exact hFl.out.at (by rw [pickV_len]; exact hn.out) (pickV_at hi))
          have iu : Ints wb u G := by rw [hu, hG]; exact HR.out.ints hib
          have hGin := HLE.out.in HA.out hGk
          have hfr := freeB_all g LL k G hGk
          have HU := Lib.hid hu
          have HGK := Lib.hid hGk
          have HGI := Lib.hid hGin
          have HFR := Lib.hid hfr
          have HI := Lib.hid hi
          obtain ⟨au, cu, rfl, hlu, _, du⟩ := iu
          have DU := Lib.hid du
          unfold maxLen at hlu
          clear hu hG hGk hGin hfr hi hib du
          go_wp2
          go_loopw [7, 9, 10, 11, 13, 29] (fun b _ _ _ _ i wr => ∃ s : Nat, s ≤ G.length ∧ i = .int .i64 s ∧ b = .bool ((G.take s).all (fromP g LL k)) ∧ Ext w2 wr) (fun _ _ _ _ _ i _ => G.length - (intOf i).toNat)
          case atStart => exact ⟨0, Nat.zero_le _, rfl, by simp, Ext.refl _⟩
          case round =>
            obtain ⟨s, hs, rfl, hb, hx3⟩ := hrel
            obtain ⟨w3, hw3⟩ : ∃ x : World, x = wr := ⟨_, rfl⟩
            subst hw3
            by_cases hls : s < G.length
            · have HX3 := Lib.hid (hX2.out.trans hx3)
              obtain ⟨bu, ou, rfl, eu⟩ := DU.out (by omega)
              have zp := (hX.out.trans HX3.out).cell (eu s hls)
              rw [List.getElem?_eq_getElem hls, Option.getD_some] at zp
              have hpb := HGI.out _ (List.getElem_mem hls)
              obtain ⟨p, hp⟩ : ∃ p : Nat, G[s] = (p : Int) := ⟨G[s].toNat, by omega⟩
              have hpg : p < g.length := by omega
              have hsc := takeAll_succ hls (fromP g LL k)
              rw [hp] at zp hsc
              obtain ⟨A, hA⟩ : ∃ A, A = (G.take s).all (fromP g LL k) := ⟨_, rfl⟩
              rw [← hA] at hb hsc
              subst hb
              have HSC := Lib.hid hsc
              have HX3' := Lib.hid hx3
              clear hA hpb hp hsc hx3 eu
              go_wp2
              go_loopw [7, 10, 11, 13, 35] (fun b _ _ _ i wr => ∃ t : Nat, t ≤ n ∧ i = .int .i64 t ∧ b = .bool (A && upTo g LL k p t) ∧ Ext w3 wr) (fun _ _ _ _ i _ => n - (intOf i).toNat)
              case atStart => exact ⟨0, Nat.zero_le _, rfl, by simp [upTo], Ext.refl _⟩
              case round =>
                obtain ⟨t, ht, rfl, hb, hx4⟩ := hrel
                obtain ⟨w4, hw4⟩ : ∃ x : World, x = wr := ⟨_, rfl⟩
                subst hw4
                by_cases hlt4 : t < n
                · have HX4 := Lib.hid (HX3.out.trans hx4)
                  obtain ⟨i', hi'⟩ : ∃ i, isL[t]? = some i := ⟨_, List.getElem?_eq_getElem (by rw [hn.out]; exact hlt4)⟩
                  have hib' : i' < (groupsL g).length := hC.out.bound i' (List.mem_append_right _ (List.mem_of_getElem? hi'))
                  obtain ⟨u', hu'⟩ : ∃ u, u = VS[i']?.getD (.slice none 0 0) := ⟨_, rfl⟩
                  obtain ⟨O, hO⟩ : ∃ O, O = (groupsL g)[i']?.getD [] := ⟨_, rfl⟩
                  have hOt : LL[t]? = some O := by rw [HLL.out, hO]; exact pickL_at hi'
                  have zo : w4.cell? ⟨gl, t, none⟩ = some u' := HX4.out.cell (by rw [hu']; exact hFl.out.at (by rw [pickV_len]; exact hn.out) (pickV_at hi'))
                  have io : Ints wb u' O := by rw [hu', hO]; exact HR.out.ints hib'
                  have hfa := inTo_all g LL k t (p : Int) O hOt
                  have hus := upTo_succ g LL k (p : Int) t
                  obtain ⟨ao, co, rfl, hlo, _, dO⟩ := io
                  unfold maxLen at hlo
                  obtain ⟨A2, hA2⟩ : ∃ A2, A2 = (A && upTo g LL k p t) := ⟨_, rfl⟩
                  have hus2 : (A && upTo g LL k (p : Int) (t + 1)) = (A2 && freeN g LL k (p : Int) t) := by rw [hus, hA2, Bool.and_assoc]
                  rw [← hA2] at hb
                  subst hb
                  have DO := Lib.hid dO
                  have HFA := Lib.hid hfa
                  have HUS := Lib.hid hus2
                  have HX4' := Lib.hid hx4
                  clear hA2 hu' hO hOt hfa hus hus2 dO hi' hib' hx4
                  go_wp2
                  go_loopw [7, 13, 42] (fun b _ i wr => ∃ s : Nat, s ≤ O.length ∧ i = .int .i64 s ∧ b = .bool (A2 && inTo g k t p O s) ∧ Ext w4 wr) (fun _ _ i _ => O.length - (intOf i).toNat)
                  case atStart => exact ⟨0, Nat.zero_le _, rfl, by simp [inTo], Ext.refl _⟩
                  case round =>
                    obtain ⟨s5, hs5, rfl, hb, hx5⟩ := hrel
                    by_cases hls5 : s5 < O.length
                    · have HX5 := Lib.hid (HX4.out.trans hx5)
                      obtain ⟨bo, oo, rfl, eo⟩ := DO.out (by omega)
                      have zn := (hX.out.trans HX5.out).cell (eo s5 hls5)
                      rw [List.getElem?_eq_getElem hls5, Option.getD_some] at zn
                      have hin := inTo_succ g k t (p : Int) O hls5
                      obtain ⟨m, hm⟩ : ∃ m, m = O[s5] := ⟨_, rfl⟩
                      rw [← hm] at zn hin
                      obtain ⟨A3, hA3⟩ : ∃ A3, A3 = (A2 && inTo g k t p O s5) := ⟨_, rfl⟩
                      have hin2 : (A2 && inTo g k t p O (s5 + 1)) = (A3 && (decide (t = k) || !hasI (rowG g p) m)) := by rw [hin, hA3, Bool.and_assoc]
                      rw [← hA3] at hb
                      subst hb
                      have HIN := Lib.hid hin2
                      have HX5' := Lib.hid hx5
                      clear hA3 hm hin hin2 hx5 eo
                      obtain ⟨bg, og, rfl, eg⟩ := DV.out (by omega)
                      obtain ⟨ur, hur, ir⟩ := eg p hpg
                      rw [List.getElem?_eq_getElem hpg, Option.getD_some, ← rowG_at hpg] at ir
                      have zr := ((HXB.out.trans hX.out).trans HX5.out).cell hur
                      have IR := Lib.hid (ir.ext ((HXB.out.trans hX.out).trans HX5.out))
                      clear eg hur ir
                      cases A3 with
                      | false =>
                        go_wp2
                        go_roundw
                        case rel => exact ⟨s5 + 1, by omega, by go_num, by rw [HIN.out]; simp, HX5'.out⟩
                        case measure => simp [intOf]; omega
                      | true =>
                        by_cases etk : t = k
                        · subst etk
                          go_wp2
                          go_roundw
                          case rel => exact ⟨s5 + 1, by omega, by go_num, by rw [HIN.out]; simp, HX5'.out⟩
                          case measure => simp [intOf]; omega
                        · have e1 : ((t : Int) == (k : Int)) = false := by simp; omega
                          have e2 : decide (t = k) = false := by simp [etk]
                          rw [e2, Bool.false_or, Bool.true_and] at HIN
                          clear e2
                          go_wp2_with fail
                          refine (l1Has_any _ (rowG g p) m _ IR.out).mono ?_
                          rintro e w6 ⟨rfl, x6⟩
                          have hx6 := HX5'.out.trans x6
                          obtain ⟨hb, hhb⟩ : ∃ hb, hb = hasI (rowG g p) m := ⟨_, rfl⟩
                          rw [← hhb] at HIN ⊢
                          clear x6 hhb zn zr
                          go_wp2
                          go_roundw
                          case rel => exact ⟨s5 + 1, by omega, by go_num, by rw [HIN.out], hx6⟩
                          case measure => simp [intOf]; omega
                    · obtain rfl : s5 = O.length := by omega
                      rw [HFA.out, ← HUS.out] at hb
                      subst hb
                      have hx5 := hx5
                      go_wp2
                      go_roundw
                      case rel => exact ⟨t + 1, by omega, by go_num, rfl, HX4'.out.trans hx5⟩
                      case measure => simp [intOf]; omega
                · obtain rfl : t = n := by omega
                  have e4 : upTo g LL k p t = fromP g LL k p := by unfold upTo fromP; rw [HLN.out]
                  rw [e4, ← HSC.out] at hb
                  subst hb
                  clear e4
                  go_wp2
                  go_roundw
                  case rel => exact ⟨s + 1, by omega, by go_num, rfl, HX3'.out.trans hx4⟩
                  case measure => simp [intOf]; omega
            · obtain rfl : s = G.length := by omega
              rw [List.take_length, ← HFR.out] at hb
              have HX3 := Lib.hid (hX2.out.trans hx3)
              cases hf : freeB g LL k with
              | false =>
                rw [hf] at hb
                subst hb
                have HF := Lib.hid hf
                clear hf hx3
                go_wp2
                go_roundw
                case rel => exact ⟨k + 1, by omega, by go_num, rfl, rfl, Lib.hid (fun j hj => by
                    by_cases e : j = k
                    · rw [e]; exact HF.out
                    · exact hno.out j (by omega)), HX3⟩
                case measure => simp [intOf]; omega
              | true =>
                rw [hf] at hb
                subst hb
                have HPK : Hid (pickC g LL = some k) := Lib.hid (pickC_at (by rw [HLN.out]; exact hlt) hf hno.out)
                have HN2 : Hid (CompS g (isO ++ [i]) (isL.eraseIdx k)) := Lib.hid (hC.out.next HI.out (by rw [← HLL.out]; exact HPK.out))
                have hFo2 := hFo.out.ext HX3.out
                have hon : (pickV VS isO).length ≤ 1048576 := by
                  rw [pickV_len]
                  have h1 := nodup_len _ _ (List.nodup_append.1 hC.out.nodup).1 (fun i hi => hC.out.bound i (List.mem_append_left _ hi))
                  have h6 : (groupsL g).length ≤ g.length := by rw [← grpTo_all]; exact grpTo_len g _
                  have := HB.out
                  omega
                have HO2 := Lib.hid hFo2
                have HON := Lib.hid hon
                have HBW : Hid (wb.heap.size ≤ (w3.alloc (.cells #[Value.slice au G.length cu] 27)).heap.size) := Lib.hid (size_alloc_le (hX.out.trans HX3.out).size)
                clear hf hFo2 hon hx3
                go_wp2_with (at_builtin; refine wpList_pushV rfl _ _ rfl wb.heap.size _ (pickV VS isO) rfl (HO2.out.ext (Ext.alloc (Ext.refl _) _)) (.slice au G.length cu) ⟨w3.heap.size, 0, none⟩ 1 rfl (cell_alloc_one _ _ _) rfl HON.out HBW.out ?_)
                intro v4 w4 f4 g4 k4
                have x4 : Ext wb w4 := k4 wb ((hX.out.trans HX3.out).alloc _) (Nat.le_refl _)
                have fl4 : FreshV 0 w4 (.slice (some ⟨gl, 0, none⟩) n c) (pickV VS isL) := World.ownsRow.kept ((hFl.out.ext HX3.out).ext (Ext.alloc (Ext.refl _) _)) g4 (.inr fun e => hAp.out gl rfl e.symm)
                have f4' : FreshV wb.heap.size w4 v4 (pickV VS (isO ++ [i])) := by
                  rw [pickV_snoc, ← HU.out]; exact f4
                have hlv4 : (pickV VS isL).length = n := by rw [pickV_len]; exact hn.out
                have h1v : ∀ (is : List Nat), ∀ z ∈ pickV VS is, z.oneCell' = true := fun is z hz => by
                  unfold pickV at hz
                  obtain ⟨q, _, rfl⟩ := List.mem_map.1 hz
                  exact HR.out.one q
                have ha4 : ∀ b, v4.ownBlock = some b → b < w4.heap.size := fun b hb => (World.ownsRow.lt f4 b hb).2
                have X4 := Lib.hid x4
                have FL4 := Lib.hid fl4
                have F4 := Lib.hid f4'
                have HLV := Lib.hid hlv4
                have H1V := Lib.hid h1v
                have HA4 := Lib.hid ha4
                have j1 : (0 : Int) ≤ (k : Int) ∧ (k : Int) ≤ (c : Int) := by omega
                have HTL : Hid (((pickV VS isL).take k).length = k) := Lib.hid (by rw [List.length_take, hlv4]; omega)
                have HDL : Hid (((pickV VS isL).drop (k + 1)).length = n - (k + 1)) := Lib.hid (by rw [List.length_drop, hlv4])
                have hc1 : ∀ j z, ((pickV VS isL).take k)[j]? = some z → (w4.alloc (.cells #[] 27)).cell? ⟨gl, 0 + j, none⟩ = some z := fun j z hz => by
                  have hj := (List.getElem?_eq_some_iff.1 hz).1
                  rw [List.getElem?_take_of_lt (by rw [HTL.out] at hj; exact hj)] at hz
                  rw [Nat.zero_add]
                  exact (Ext.alloc (Ext.refl _) _).cell (FL4.out.at hlv4 hz)
                have HC1 := Lib.hid hc1
                have HB1 : Hid (([] : List Value).length + ((pickV VS isL).take k).length ≤ 1048576) := Lib.hid (by rw [HTL.out]; simp; omega)
                clear f4 g4 k4 x4 fl4 f4' hlv4 h1v ha4 hc1 HO2 HON HBW
                go_wp2_with (at_builtin; refine wpList_joinVn rfl _ _ rfl w4.heap.size _ [] ((pickV VS isL).take k) rfl (freshV_lit w4 _ (Nat.le_refl _)) gl 0 k c HTL.out rfl HC1.out (fun z hz => H1V.out isL z (List.mem_of_mem_take hz)) HB1.out (size_alloc_le (Nat.le_refl _)) ?_)
                intro v5 w5 f5 g5 k5
                have x5 : Ext w4 w5 := k5 w4 (Ext.alloc (Ext.refl _) _) (Nat.le_refl _)
                have X5 := Lib.hid (X4.out.trans x5)
                have X45 := Lib.hid x5
                have F5 := Lib.hid f5
                have hpe := pickV_erase VS isL k
                have HPE := Lib.hid hpe
                have HB2 : Hid (((pickV VS isL).take k).length + ((pickV VS isL).drop (k + 1)).length ≤ 1048576) := Lib.hid (by rw [HTL.out, HDL.out]; omega)
                have HB5 : Hid (w4.heap.size ≤ w5.heap.size) := Lib.hid x5.size
                have HEL : Hid ((isL.eraseIdx k).length = n - 1) := Lib.hid (by rw [List.length_eraseIdx, hn.out]; simp [hlt])
                clear f5 g5 k5 x5 hpe
                by_cases hkc : k + 1 = c
                · subst hkc
                  have hnk : n = k + 1 := by omega
                  have HD0 : Hid ((pickV VS isL).drop (k + 1) = []) := Lib.hid (List.eq_nil_of_length_eq_zero (by rw [HDL.out]; omega))
                  have HNK := Lib.hid hnk
                  clear hnk
                  go_wp2_with (at_builtin; refine wpList_joinVn rfl _ _ rfl w4.heap.size _ ((pickV VS isL).take k) ((pickV VS isL).drop (k + 1)) rfl F5.out gl 0 0 0 (by rw [HD0.out]; rfl) rfl (fun j z hz => by rw [HD0.out] at hz; simp at hz) (fun z hz => by rw [HD0.out] at hz; simp at hz) HB2.out HB5.out ?_)
                  intro v6 w6 f6 g6 k6
                  have x6 : Ext w4 w6 := k6 w4 X45.out (Nat.le_refl _)
                  rw [← HPE.out] at f6
                  have f60 : FreshV 0 w6 v6 (pickV VS (isL.eraseIdx k)) := f6.zero
                  have ap6 : ∀ b, v6.ownBlock = some b → v4.ownBlock ≠ some b := fun b hb e => by
                    have h1 := (World.ownsRow.lt f6 b hb).1
                    have h2 := HA4.out b e
                    omega
                  obtain ⟨a6, c6, rfl⟩ := f6.len
                  have hl6 : (pickV VS (isL.eraseIdx k)).length = n - 1 := by rw [pickV_len]; exact HEL.out
                  rw [hl6] at f60 ap6 ⊢
                  have F60 := Lib.hid f60
                  have AP6 := Lib.hid ap6
                  have HX6 := Lib.hid (X4.out.trans x6)
                  have F46 := Lib.hid (F4.out.ext x6)
                  clear f6 g6 k6 x6 f60 ap6 hl6
                  go_wp2
                  go_roundw
                  case rel => exact ⟨isO ++ [i], isL.eraseIdx k, a6, n - 1, c6, rfl, HEL, HN2, F60, F46, HX6, AP6⟩
                  case measure => simp [lenV]; omega
                · have j2 : (0 : Int) ≤ (k : Int) + 1 ∧ (k : Int) + 1 ≤ (n : Int) := by omega
                  have hlv4 := HLV.out
                  have hc2 : ∀ j z, ((pickV VS isL).drop (k + 1))[j]? = some z → w5.cell? ⟨gl, k + 1 + j, none⟩ = some z := fun j z hz => by
                    rw [List.getElem?_drop] at hz
                    exact X45.out.cell (FL4.out.at hlv4 hz)
                  have HC2 := Lib.hid hc2
                  clear hc2 hlv4
                  go_wp2_with (at_builtin; refine wpList_joinVn rfl _ _ rfl w4.heap.size _ ((pickV VS isL).take k) ((pickV VS isL).drop (k + 1)) rfl F5.out gl (k + 1) (n - (k + 1)) (c - (k + 1)) HDL.out rfl HC2.out (fun z hz => H1V.out isL z (List.mem_of_mem_drop hz)) HB2.out HB5.out ?_)
                  intro v6 w6 f6 g6 k6
                  have x6 : Ext w4 w6 := k6 w4 X45.out (Nat.le_refl _)
                  rw [← HPE.out] at f6
                  have f60 : FreshV 0 w6 v6 (pickV VS (isL.eraseIdx k)) := f6.zero
                  have ap6 : ∀ b, v6.ownBlock = some b → v4.ownBlock ≠ some b := fun b hb e => by
                    have h1 := (World.ownsRow.lt f6 b hb).1
                    have h2 := HA4.out b e
                    omega
                  obtain ⟨a6, c6, rfl⟩ := f6.len
                  have hl6 : (pickV VS (isL.eraseIdx k)).length = n - 1 := by rw [pickV_len]; exact HEL.out
                  rw [hl6] at f60 ap6 ⊢
                  have F60 := Lib.hid f60
                  have AP6 := Lib.hid ap6
                  have HX6 := Lib.hid (X4.out.trans x6)
                  have F46 := Lib.hid (F4.out.ext x6)
                  clear f6 g6 k6 x6 f60 ap6 hl6
                  go_wp2
                  go_roundw
                  case rel => exact ⟨isO ++ [i], isL.eraseIdx k, a6, n - 1, c6, rfl, HEL, HN2, F60, F46, HX6, AP6⟩
                  case measure => simp [lenV]; omega
        · obtain rfl : k = n := by omega
          exact absurd (pickC_must HA.out HLE.out (by intro e; have := HLN.out; rw [e] at this; simp at this; omega) (by rw [HLN.out]; exact hno.out)) id

end Go.Proofs.Ytnmnbeklofnonaa
