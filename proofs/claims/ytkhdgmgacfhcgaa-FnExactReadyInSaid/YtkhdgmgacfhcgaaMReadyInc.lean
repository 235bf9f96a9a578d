/- Texts of this proof, part c: words, plain facts, contracts. -/
import Derived.Test.YtkhdgmgacfhcgaaMReadyInb
import Derived.Deep.AppendLies
import Derived.Test.YtkhdgmgacfhcgaaMReadyIna
import Derived.Maps.RangeWalk
import Derived.Maps.OwnSet
import Derived.Maps.OwnOps
import Derived.DeepKeys5
import Derived.Laws.CopyOwn

namespace Go.Proofs.Ytkhdgmgacfhcgaa
open Go.RowKit
set_option linter.unusedVariables false

theorem nodup_len : ∀ (N : Nat) (l : List Nat), l.Nodup → (∀ i ∈ l, i < N) → l.length ≤ N
  | 0, l, _, h => by
    cases l with
    | nil => simp
    | cons a t => exact absurd (h a (by simp)) (by omega)
  | N + 1, l, hn, h => by
    have ih := nodup_len N (l.erase N) (hn.erase N) (fun i hi => by
      have h1 := (hn.mem_erase_iff).1 hi
      have := h i h1.2
      have := h1.1
      omega)
    rw [List.length_erase] at ih
    split at ih <;> omega

def lenV : Value → Nat
  | .slice _ n _ => n
  | _ => 0
def pickV (VS : List Value) (is : List Nat) : List Value := is.map fun i => VS[i]?.getD (.slice none 0 0)
theorem pickV_len (VS : List Value) (is : List Nat) : (pickV VS is).length = is.length := by simp [pickV]
theorem pickL_len (L : List (List Int)) (is : List Nat) : (pickL L is).length = is.length := by simp [pickL]
theorem pickV_at {VS : List Value} {is : List Nat} {k i : Nat} (h : is[k]? = some i) : (pickV VS is)[k]? = some (VS[i]?.getD (.slice none 0 0)) := by
  unfold pickV
  rw [List.getElem?_map, h]; rfl
theorem pickV_erase (VS : List Value) (is : List Nat) (k : Nat) : pickV VS (is.eraseIdx k) = (pickV VS is).take k ++ (pickV VS is).drop (k + 1) := by
  unfold pickV
  rw [erase_map, List.eraseIdx_eq_take_drop_succ]
theorem pickV_snoc (VS : List Value) (is : List Nat) (i : Nat) : pickV VS (is ++ [i]) = pickV VS is ++ [VS[i]?.getD (.slice none 0 0)] := by simp [pickV]

theorem FreshV.zero {B : Nat} {w : World} {v : Value} {vs : List Value} (h : FreshV B w v vs) : FreshV 0 w v vs := h.more (Nat.zero_le _)
theorem FreshV.at {B : Nat} {w : World} {g n cap : Nat} {vs : List Value} (h : FreshV B w (.slice (some ⟨g, 0, none⟩) n cap) vs) (hn : vs.length = n) {j : Nat} {z : Value} (hj : vs[j]? = some z) : w.cell? ⟨g, j, none⟩ = some z := by
  subst hn
  have hlt := (List.getElem?_eq_some_iff.1 hj).1
  have := World.ownsRow.cellAt h j (by omega)
  rw [this, hj]
theorem FreshV.form {B : Nat} {w : World} {v : Value} {vs : List Value} (h : FreshV B w v vs) {n : Nat} (hn : vs.length = n) (h0 : 0 < n) : ∃ g cap, v = .slice (some ⟨g, 0, none⟩) n cap ∧ n ≤ cap ∧ cap ≤ maxLen := by
  subst hn
  rcases h.2 with ⟨_, h1⟩ | ⟨g, cap, cur, hv, hb, hg, hnc, hcm, _⟩
  · omega
  · exact ⟨g, cap, hv, by omega, hcm⟩
theorem FreshV.len {B : Nat} {w : World} {v : Value} {vs : List Value} (h : FreshV B w v vs) : ∃ ao cap, v = .slice ao vs.length cap := by
  rcases h.2 with ⟨hv, h1⟩ | ⟨g, cap, cur, hv, _⟩
  · exact ⟨none, 0, by rw [hv, h1]⟩
  · exact ⟨_, cap, hv⟩

theorem wpList_joinVn {ops : Array Oper} {rest : List Oper} {o : Oper} {a : Act} {Q : Exit → Act → World → Prop} {w : World} (hgd : o.guard = none) (s x : Operand)
    (ho : o.op = .call { callee := .builtin .append, args := #[s, x], argTypes := #[26, 26] })
    (B : Nat) (v : Value) (vs us : List Value) (hs : a.eval s = v) (hf : FreshV B w v vs) (b off n c : Nat) (hn : us.length = n) (hx : a.eval x = .slice (some ⟨b, off, none⟩) n c)
    (hc : ∀ j z, us[j]? = some z → w.cell? ⟨b, off + j, none⟩ = some z) (h1 : ∀ u ∈ us, u.oneCell' = true) (hl : vs.length + us.length ≤ 1048576) (hB : B ≤ w.heap.size)
    (h : ∀ v' w', FreshV B w' v' (vs ++ us) → w.grownBy w' v.ownBlock → Kept B w w' → wpList Try.prog ops Q rest (a.put o.dst v') w') : wpList Try.prog ops Q (o :: rest) a w := by
  subst hn
  exact wpList_joinV hgd s x ho B v vs us hs hf b off c hx hc h1 hl hB h

theorem freshV_lit (w : World) (B : Nat) (hB : B ≤ w.heap.size) : FreshV B (w.alloc (.cells #[] 49)) (.slice (some ⟨w.heap.size, 0, none⟩) 0 0) [] := by
  have h := World.ownsRow_lit (e := 49) (size := 1) w #[] 0 hB (by unfold maxLen; omega) (by simp)
  exact h
/-- The rows behind the values that are left. -/
theorem Rows_.ints {B : Nat} {w : World} {VS : List Value} {L : List (List Int)} (h : Rows_ B w VS L) {i : Nat} (hi : i < L.length) : Ints w (VS[i]?.getD (.slice none 0 0)) (L[i]?.getD []) := by
  have h1 : VS[i]? = some (VS[i]'(by rw [h.len]; exact hi)) := List.getElem?_eq_getElem _
  have h2 : L[i]? = some L[i] := List.getElem?_eq_getElem hi
  rw [h1, h2]
  exact (h.row i _ _ h1 h2).ints
theorem Rows_.one {B : Nat} {w : World} {VS : List Value} {L : List (List Int)} (h : Rows_ B w VS L) (i : Nat) : (VS[i]?.getD (.slice none 0 0)).oneCell' = true := by
  cases hj : VS[i]? with
  | none => rfl
  | some u =>
    have hlt := (List.getElem?_eq_some_iff.1 hj).1
    have := h.ints (i := i) (by rw [← h.len]; exact hlt)
    rw [hj] at this
    obtain ⟨_, _, hv, _⟩ := this
    rw [Option.getD_some] at hv ⊢
    rw [hv]; rfl
theorem Left.in {g LL : List (List Int)} (hg : rowsB g = true) (h : Left g LL) {k : Nat} {G : List Int} (hk : LL[k]? = some G) : ∀ p ∈ G, 0 ≤ p ∧ p < (g.length : Int) := by
  intro p hp
  obtain ⟨q, hq, rfl⟩ := h.1 G (List.mem_of_getElem? hk)
  exact groupL_in hg hq hp

/-- Whether the point p leads to none of the lists but its own. -/
def fromP (g LL : List (List Int)) (k : Nat) (p : Int) : Bool := (List.range LL.length).all fun i => freeN g LL k p i
theorem freeB_all (g LL : List (List Int)) (k : Nat) (G : List Int) (h : LL[k]? = some G) : freeB g LL k = G.all (fromP g LL k) := by
  rw [freeB_eq, h, Option.getD_some]; rfl
def upTo (g LL : List (List Int)) (k : Nat) (p : Int) (t : Nat) : Bool := (List.range t).all fun i => freeN g LL k p i
theorem upTo_succ (g LL : List (List Int)) (k : Nat) (p : Int) (t : Nat) : upTo g LL k p (t + 1) = (upTo g LL k p t && freeN g LL k p t) := by
  unfold upTo
  rw [List.range_succ, List.all_append]
  simp
def inTo (g : List (List Int)) (k t : Nat) (p : Int) (O : List Int) (s : Nat) : Bool := (O.take s).all fun n => decide (t = k) || !hasI (rowG g p) n
theorem inTo_succ (g : List (List Int)) (k t : Nat) (p : Int) (O : List Int) {s : Nat} (h : s < O.length) : inTo g k t p O (s + 1) = (inTo g k t p O s && (decide (t = k) || !hasI (rowG g p) O[s])) := by
  unfold inTo
  rw [List.take_add_one, List.getElem?_eq_getElem h, List.all_append]
  simp
theorem inTo_all (g LL : List (List Int)) (k t : Nat) (p : Int) (O : List Int) (h : LL[t]? = some O) : inTo g k t p O O.length = freeN g LL k p t := by
  unfold inTo freeN
  rw [List.take_length, h, Option.getD_some]
theorem takeAll_succ {l : List Int} {k : Nat} (h : k < l.length) (p : Int → Bool) : (l.take (k + 1)).all p = ((l.take k).all p && p l[k]) := by
  rw [List.take_add_one, List.getElem?_eq_getElem h, List.all_append]
  simp

end Go.Proofs.Ytkhdgmgacfhcgaa

namespace Go.Proofs.Ytkhdgmgacfhcgaa
open Go.RowKit Go.Maps
set_option linter.unusedVariables false

theorem two_of {n : Nat} (h : 1 ≤ n) : ∃ d, n + 1 = d + 2 := ⟨n - 1, by omega⟩
/-- What an instance reads as, as a key. -/
def kl (a b : Int) : Lit := .string (keyBytes [.int .i64 a, .int .i64 b])
def instV (a b : Int) : Value := .agg #[.int .i64 a, .int .i64 b]
set_option maxRecDepth 100000
theorem instWide : (match Try.prog.underlying 64 with | some (.array _ _) | some (.struct _) => true | _ => false) = true := by kernel_rfl
theorem instKeyed : Keyed Try.prog 64 :=
  Keyed.of_law (deep_law_laid (by kernel_rfl) (m := 2) (by omega) (of_decide_eq_true (by kernel_rfl)) (by kernel_rfl) instWide)

theorem instType : Try.prog.keyType 64 = true := by kernel_rfl
theorem lits_int {d : Nat} {a : Int} (ha : wf64 a) : Try.prog.keyLits (d + 1) 3 [.int .i64 a] = some [.int .i64 a] := by
  unfold Program.keyLits
  rw [Try.underlying3]
  unfold wf64 at ha
  simp [ha]
theorem lits_int_inv {d : Nat} {v : Value} {L : List Lit} (h : Try.prog.keyLits (d + 1) 3 [v] = some L) : ∃ a, v = .int .i64 a ∧ wf64 a ∧ L = [.int .i64 a] := by
  unfold Program.keyLits at h
  rw [Try.underlying3] at h
  cases v <;> simp at h
  obtain ⟨⟨rfl, hw⟩, rfl⟩ := h
  exact ⟨_, rfl, hw, rfl⟩
theorem cellsInst : Try.prog.cellsOf 64 = 2 := by kernel_rfl
theorem cellsInt : Try.prog.cellsOf 3 = 1 := by kernel_rfl
theorem lits_inst {d : Nat} {a b : Int} (ha : wf64 a) (hb : wf64 b) : Try.prog.keyLits (d + 2) 64 [.int .i64 a, .int .i64 b] = some [.int .i64 a, .int .i64 b] := by
  unfold Program.keyLits
  rw [Try.underlying64]
  simp [cellsInst, cellsInt, lits_int ha, lits_int hb]
theorem keyOf_inst {a b : Int} (ha : wf64 a) (hb : wf64 b) : keyOf Try.prog 64 (instV a b) = some (kl a b) := by
  unfold keyOf
  rw [Try.underlying64]
  have hf : Value.formed Try.prog 64 (instV a b) = true := by
    unfold Value.formed instV
    simp [Try.underlying64, cellsInst]
  obtain ⟨d, hd⟩ : ∃ d, Try.prog.types.size + 1 = d + 2 := two_of (of_decide_eq_true (by kernel_rfl))
  simp only [instType, hf, Bool.and_self, if_true, hd]
  unfold instV
  simp only [Value.cells]
  rw [lits_inst ha hb]
  rfl
theorem keyOf_inst_inv {v : Value} {l : Lit} (h : keyOf Try.prog 64 v = some l) : ∃ a b, v = instV a b ∧ l = kl a b ∧ wf64 a ∧ wf64 b := by
  obtain ⟨xs, L, rfl, hL, rfl⟩ := keyOf_top instWide h
  obtain ⟨d, hd⟩ : ∃ d, Try.prog.types.size + 1 = d + 2 := two_of (of_decide_eq_true (by kernel_rfl))
  rw [hd] at hL
  unfold Program.keyLits at hL
  rw [Try.underlying64] at hL
  simp only [cellsInst] at hL
  split at hL
  · rename_i hc
    obtain ⟨x, y, hxy⟩ : ∃ x y, xs.toList = [x, y] := by
      match h : xs.toList with
      | [x, y] => exact ⟨x, y, rfl⟩
      | [] => simp [h] at hc
      | [_] => simp [h] at hc
      | _ :: _ :: _ :: _ => simp [h] at hc
    rw [hxy] at hL
    cases h1 : Try.prog.keyLits (d + 1) 3 [x] with
    | none => simp [cellsInt, h1] at hL
    | some A =>
      cases h2 : Try.prog.keyLits (d + 1) 3 [y] with
      | none => simp [cellsInt, h1, h2] at hL
      | some B =>
        simp [cellsInt, h1, h2] at hL
        obtain ⟨a, rfl, wa, rfl⟩ := lits_int_inv h1
        obtain ⟨b, rfl, wb, rfl⟩ := lits_int_inv h2
        refine ⟨a, b, ?_, ?_, wa, wb⟩
        · unfold instV
          rw [← Array.toArray_toList (xs := xs), hxy]
        · subst hL
          rfl
  · cases hL
theorem kl_inj {a b c d : Int} (ha : wf64 a) (hb : wf64 b) (hc : wf64 c) (hd : wf64 d) (h : kl a b = kl c d) : a = c ∧ b = d := by
  have e := instKeyed.inj (keyOf_inst ha hb) (h ▸ keyOf_inst hc hd)
  unfold instV at e
  simpa using e

end Go.Proofs.Ytkhdgmgacfhcgaa

namespace Go.Proofs.Ytkhdgmgacfhcgaa
open Go.RowKit

def acctB (n : Int) : Bool := inB n 0 3
theorem acctB_yes {n : Int} (h : acctB n = true) : 0 ≤ n ∧ n ≤ 3 := by unfold acctB inB at h; simpa using h

theorem l2Account_any (n : Int) (w : World) :
    Calls Try.prog 93 #[.int .i64 n] w fun e w' => e = .returned (.bool (acctB n)) ∧ w = w' := by
  go_enter Try.func93, Try.ntmps93
  go_wp2_with (go_at_call 56; refine (l1In_any _ _ _ _).mono ?_; rintro e w' ⟨rfl, rfl⟩)
  go_ret
  exact ⟨rfl, rfl⟩

theorem isAccount_any (n : Int) (w : World) :
    Calls Try.prog 103 #[.int .i64 n] w fun e w' => e = .returned (.bool (acctB n)) ∧ w = w' := by
  unfold acctB
  by_cases h1 : 0 ≤ n
  · by_cases h2 : n < 4
    · go_enter Try.func103, Try.ntmps103
      go_wp2
      go_ret
      exact ⟨by rw [inB_yes h1 (by omega)]; rfl, rfl⟩
    · go_enter Try.func103, Try.ntmps103
      go_wp2
      go_ret
      exact ⟨by rw [inB_no (by omega)]; rfl, rfl⟩
  · go_enter Try.func103, Try.ntmps103
    go_wp2
    go_ret
    exact ⟨by rw [inB_no (by omega)]; rfl, rfl⟩

theorem isCmdId_any (n : Int) (w : World) :
    Calls Try.prog 104 #[.int .i64 n] w fun e w' => e = .returned (.bool (inB n 1 999)) ∧ w = w' := by
  by_cases h1 : 1 ≤ n
  · by_cases h2 : n ≤ 999
    · go_enter Try.func104, Try.ntmps104
      go_wp2
      go_ret
      exact ⟨by rw [inB_yes h1 (by omega)]; rfl, rfl⟩
    · go_enter Try.func104, Try.ntmps104
      go_wp2
      go_ret
      exact ⟨by rw [inB_no (by omega)]; rfl, rfl⟩
  · go_enter Try.func104, Try.ntmps104
    go_wp2
    go_ret
    exact ⟨by rw [inB_no (by omega)]; rfl, rfl⟩

theorem isAmount_any (n : Int) (w : World) :
    Calls Try.prog 105 #[.int .i64 n] w fun e w' => e = .returned (.bool (inB n 1 1000)) ∧ w = w' := by
  by_cases h1 : 1 ≤ n
  · by_cases h2 : n ≤ 1000
    · go_enter Try.func105, Try.ntmps105
      go_wp2
      go_ret
      exact ⟨by rw [inB_yes h1 (by omega)]; rfl, rfl⟩
    · go_enter Try.func105, Try.ntmps105
      go_wp2
      go_ret
      exact ⟨by rw [inB_no (by omega)]; rfl, rfl⟩
  · go_enter Try.func105, Try.ntmps105
    go_wp2
    go_ret
    exact ⟨by rw [inB_no (by omega)]; rfl, rfl⟩

/-- What is wrong with a command that moves. -/
def codeM (i f t a : Int) : Int := if acctB f then (if acctB t then (if f == t then 5 else if inB i 1 999 then (if inB a 1 1000 then 0 else 6) else 6) else 4) else 4
/-- What is wrong with another one. -/
def codeR (i f : Int) : Int := if acctB f then (if inB i 1 999 then 0 else 6) else 4

set_option maxHeartbeats 1000000 in
theorem l2Code_move (i f t a : Int) (w : World) :
    Calls Try.prog 70 #[.agg #[.int .i64 1, .int .i64 i, .int .i64 f, .int .i64 t, .int .i64 a]] w (IntExt (codeM i f t a) w) := by
  unfold codeM
  cases h0 : acctB f with
  | false =>
    go_enter Try.func70, Try.ntmps70
    go_wp2_with (first | (go_at_call 93; refine (l2Account_any _ _).mono ?_; rintro e w' ⟨rfl, rfl⟩) | (go_at_call 56; refine (l1In_any _ _ _ _).mono ?_; rintro e w' ⟨rfl, rfl⟩))
    go_ret
    exact ⟨rfl, by repeat (first | exact Ext.refl _ | apply Ext.drew | apply Ext.alloc)⟩
  | true =>
    cases h1 : acctB t with
    | false =>
      go_enter Try.func70, Try.ntmps70
      go_wp2_with (first | (go_at_call 93; refine (l2Account_any _ _).mono ?_; rintro e w' ⟨rfl, rfl⟩) | (go_at_call 56; refine (l1In_any _ _ _ _).mono ?_; rintro e w' ⟨rfl, rfl⟩))
      go_ret
      exact ⟨rfl, by repeat (first | exact Ext.refl _ | apply Ext.drew | apply Ext.alloc)⟩
    | true =>
      cases h2 : (f == t) with
      | true =>
        go_enter Try.func70, Try.ntmps70
        go_wp2_with (first | (go_at_call 93; refine (l2Account_any _ _).mono ?_; rintro e w' ⟨rfl, rfl⟩) | (go_at_call 56; refine (l1In_any _ _ _ _).mono ?_; rintro e w' ⟨rfl, rfl⟩))
        go_ret
        exact ⟨rfl, by repeat (first | exact Ext.refl _ | apply Ext.drew | apply Ext.alloc)⟩
      | false =>
        cases h3 : inB i 1 999 with
        | false =>
          go_enter Try.func70, Try.ntmps70
          go_wp2_with (first | (go_at_call 93; refine (l2Account_any _ _).mono ?_; rintro e w' ⟨rfl, rfl⟩) | (go_at_call 56; refine (l1In_any _ _ _ _).mono ?_; rintro e w' ⟨rfl, rfl⟩))
          go_ret
          exact ⟨rfl, by repeat (first | exact Ext.refl _ | apply Ext.drew | apply Ext.alloc)⟩
        | true =>
          cases h4 : inB a 1 1000 with
          | false =>
            go_enter Try.func70, Try.ntmps70
            go_wp2_with (first | (go_at_call 93; refine (l2Account_any _ _).mono ?_; rintro e w' ⟨rfl, rfl⟩) | (go_at_call 56; refine (l1In_any _ _ _ _).mono ?_; rintro e w' ⟨rfl, rfl⟩))
            go_ret
            exact ⟨rfl, by repeat (first | exact Ext.refl _ | apply Ext.drew | apply Ext.alloc)⟩
          | true =>
            go_enter Try.func70, Try.ntmps70
            go_wp2_with (first | (go_at_call 93; refine (l2Account_any _ _).mono ?_; rintro e w' ⟨rfl, rfl⟩) | (go_at_call 56; refine (l1In_any _ _ _ _).mono ?_; rintro e w' ⟨rfl, rfl⟩))
            go_ret
            exact ⟨rfl, by repeat (first | exact Ext.refl _ | apply Ext.drew | apply Ext.alloc)⟩

set_option maxHeartbeats 1000000 in
theorem l2Code_read (k i f t a : Int) (w : World) (hk : (k == 1) = false) (_hk0 : (k == 0) = false) :
    Calls Try.prog 70 #[.agg #[.int .i64 k, .int .i64 i, .int .i64 f, .int .i64 t, .int .i64 a]] w (IntExt (codeR i f) w) := by
  unfold codeR
  cases h0 : acctB f with
  | false =>
    go_enter Try.func70, Try.ntmps70
    go_wp2_with (first | (go_at_call 93; refine (l2Account_any _ _).mono ?_; rintro e w' ⟨rfl, rfl⟩) | (go_at_call 56; refine (l1In_any _ _ _ _).mono ?_; rintro e w' ⟨rfl, rfl⟩))
    go_ret
    exact ⟨rfl, by repeat (first | exact Ext.refl _ | apply Ext.drew | apply Ext.alloc)⟩
  | true =>
    cases h1 : inB i 1 999 with
    | false =>
      go_enter Try.func70, Try.ntmps70
      go_wp2_with (first | (go_at_call 93; refine (l2Account_any _ _).mono ?_; rintro e w' ⟨rfl, rfl⟩) | (go_at_call 56; refine (l1In_any _ _ _ _).mono ?_; rintro e w' ⟨rfl, rfl⟩))
      go_ret
      exact ⟨rfl, by repeat (first | exact Ext.refl _ | apply Ext.drew | apply Ext.alloc)⟩
    | true =>
      go_enter Try.func70, Try.ntmps70
      go_wp2_with (first | (go_at_call 93; refine (l2Account_any _ _).mono ?_; rintro e w' ⟨rfl, rfl⟩) | (go_at_call 56; refine (l1In_any _ _ _ _).mono ?_; rintro e w' ⟨rfl, rfl⟩))
      go_ret
      exact ⟨rfl, by repeat (first | exact Ext.refl _ | apply Ext.drew | apply Ext.alloc)⟩

set_option maxHeartbeats 1000000 in
theorem faultOfCmd_move (i f t a : Int) (w : World) :
    Calls Try.prog 97 #[.agg #[.int .i64 1, .int .i64 i, .int .i64 f, .int .i64 t, .int .i64 a]] w (IntExt (codeM i f t a) w) := by
  unfold codeM
  cases h0 : acctB f with
  | false =>
    go_enter Try.func97, Try.ntmps97
    go_wp2_with (first | (go_at_call 103; refine (isAccount_any _ _).mono ?_; rintro e w' ⟨rfl, rfl⟩) | (go_at_call 104; refine (isCmdId_any _ _).mono ?_; rintro e w' ⟨rfl, rfl⟩) | (go_at_call 105; refine (isAmount_any _ _).mono ?_; rintro e w' ⟨rfl, rfl⟩))
    go_ret
    exact ⟨rfl, by repeat (first | exact Ext.refl _ | apply Ext.drew | apply Ext.alloc)⟩
  | true =>
    cases h1 : acctB t with
    | false =>
      go_enter Try.func97, Try.ntmps97
      go_wp2_with (first | (go_at_call 103; refine (isAccount_any _ _).mono ?_; rintro e w' ⟨rfl, rfl⟩) | (go_at_call 104; refine (isCmdId_any _ _).mono ?_; rintro e w' ⟨rfl, rfl⟩) | (go_at_call 105; refine (isAmount_any _ _).mono ?_; rintro e w' ⟨rfl, rfl⟩))
      go_ret
      exact ⟨rfl, by repeat (first | exact Ext.refl _ | apply Ext.drew | apply Ext.alloc)⟩
    | true =>
      cases h2 : (f == t) with
      | true =>
        go_enter Try.func97, Try.ntmps97
        go_wp2_with (first | (go_at_call 103; refine (isAccount_any _ _).mono ?_; rintro e w' ⟨rfl, rfl⟩) | (go_at_call 104; refine (isCmdId_any _ _).mono ?_; rintro e w' ⟨rfl, rfl⟩) | (go_at_call 105; refine (isAmount_any _ _).mono ?_; rintro e w' ⟨rfl, rfl⟩))
        go_ret
        exact ⟨rfl, by repeat (first | exact Ext.refl _ | apply Ext.drew | apply Ext.alloc)⟩
      | false =>
        cases h3 : inB i 1 999 with
        | false =>
          go_enter Try.func97, Try.ntmps97
          go_wp2_with (first | (go_at_call 103; refine (isAccount_any _ _).mono ?_; rintro e w' ⟨rfl, rfl⟩) | (go_at_call 104; refine (isCmdId_any _ _).mono ?_; rintro e w' ⟨rfl, rfl⟩) | (go_at_call 105; refine (isAmount_any _ _).mono ?_; rintro e w' ⟨rfl, rfl⟩))
          go_ret
          exact ⟨rfl, by repeat (first | exact Ext.refl _ | apply Ext.drew | apply Ext.alloc)⟩
        | true =>
          cases h4 : inB a 1 1000 with
          | false =>
            go_enter Try.func97, Try.ntmps97
            go_wp2_with (first | (go_at_call 103; refine (isAccount_any _ _).mono ?_; rintro e w' ⟨rfl, rfl⟩) | (go_at_call 104; refine (isCmdId_any _ _).mono ?_; rintro e w' ⟨rfl, rfl⟩) | (go_at_call 105; refine (isAmount_any _ _).mono ?_; rintro e w' ⟨rfl, rfl⟩))
            go_ret
            exact ⟨rfl, by repeat (first | exact Ext.refl _ | apply Ext.drew | apply Ext.alloc)⟩
          | true =>
            go_enter Try.func97, Try.ntmps97
            go_wp2_with (first | (go_at_call 103; refine (isAccount_any _ _).mono ?_; rintro e w' ⟨rfl, rfl⟩) | (go_at_call 104; refine (isCmdId_any _ _).mono ?_; rintro e w' ⟨rfl, rfl⟩) | (go_at_call 105; refine (isAmount_any _ _).mono ?_; rintro e w' ⟨rfl, rfl⟩))
            go_ret
            exact ⟨rfl, by repeat (first | exact Ext.refl _ | apply Ext.drew | apply Ext.alloc)⟩

set_option maxHeartbeats 1000000 in
theorem faultOfCmd_read (k i f t a : Int) (w : World) (hk : (k == 1) = false) (_hk0 : (k == 0) = false) :
    Calls Try.prog 97 #[.agg #[.int .i64 k, .int .i64 i, .int .i64 f, .int .i64 t, .int .i64 a]] w (IntExt (codeR i f) w) := by
  unfold codeR
  cases h0 : acctB f with
  | false =>
    go_enter Try.func97, Try.ntmps97
    go_wp2_with (first | (go_at_call 103; refine (isAccount_any _ _).mono ?_; rintro e w' ⟨rfl, rfl⟩) | (go_at_call 104; refine (isCmdId_any _ _).mono ?_; rintro e w' ⟨rfl, rfl⟩) | (go_at_call 105; refine (isAmount_any _ _).mono ?_; rintro e w' ⟨rfl, rfl⟩))
    go_ret
    exact ⟨rfl, by repeat (first | exact Ext.refl _ | apply Ext.drew | apply Ext.alloc)⟩
  | true =>
    cases h1 : inB i 1 999 with
    | false =>
      go_enter Try.func97, Try.ntmps97
      go_wp2_with (first | (go_at_call 103; refine (isAccount_any _ _).mono ?_; rintro e w' ⟨rfl, rfl⟩) | (go_at_call 104; refine (isCmdId_any _ _).mono ?_; rintro e w' ⟨rfl, rfl⟩) | (go_at_call 105; refine (isAmount_any _ _).mono ?_; rintro e w' ⟨rfl, rfl⟩))
      go_ret
      exact ⟨rfl, by repeat (first | exact Ext.refl _ | apply Ext.drew | apply Ext.alloc)⟩
    | true =>
      go_enter Try.func97, Try.ntmps97
      go_wp2_with (first | (go_at_call 103; refine (isAccount_any _ _).mono ?_; rintro e w' ⟨rfl, rfl⟩) | (go_at_call 104; refine (isCmdId_any _ _).mono ?_; rintro e w' ⟨rfl, rfl⟩) | (go_at_call 105; refine (isAmount_any _ _).mono ?_; rintro e w' ⟨rfl, rfl⟩))
      go_ret
      exact ⟨rfl, by repeat (first | exact Ext.refl _ | apply Ext.drew | apply Ext.alloc)⟩

end Go.Proofs.Ytkhdgmgacfhcgaa

namespace Go.Proofs.Ytkhdgmgacfhcgaa
open Go.RowKit
set_option linter.unusedVariables false

def zeroB (i f t a : Int) : Bool := i == 0 && (f == 0 && (t == 0 && a == 0))
/-- Whether a command is good. -/
def goodB (k i f t a : Int) : Bool := if k == 0 then zeroB i f t a else if k == 1 then codeM i f t a == 0 else if k == 2 then (codeR i f == 0 && t == 0) && a == 0 else false
theorem goodB_0 (i f t a : Int) : goodB 0 i f t a = zeroB i f t a := rfl
theorem goodB_1 (i f t a : Int) : goodB 1 i f t a = (codeM i f t a == 0) := rfl
theorem goodB_2 (i f t a : Int) : goodB 2 i f t a = ((codeR i f == 0 && t == 0) && a == 0) := rfl
theorem goodB_else {k : Int} (i f t a : Int) (h0 : (k == 0) = false) (h1 : (k == 1) = false) (h2 : (k == 2) = false) : goodB k i f t a = false := by
  unfold goodB; simp [h0, h1, h2]

set_option maxHeartbeats 1000000 in
theorem specGood_0 (i f t a : Int) (w : World) :
    Calls Try.prog 58 #[.agg #[.int .i64 0, .int .i64 i, .int .i64 f, .int .i64 t, .int .i64 a]] w (BoolExt (zeroB i f t a) w) := by
  unfold zeroB
  go_enter Try.func58, Try.ntmps58
  go_wp2
  all_goals go_ret
  all_goals refine ⟨?_, by repeat (first | assumption | exact Ext.refl _ | apply Ext.drew | apply Ext.alloc)⟩
  all_goals first | rfl | simp [*]

set_option maxHeartbeats 1000000 in
theorem specGood_1 (i f t a : Int) (w : World) :
    Calls Try.prog 58 #[.agg #[.int .i64 1, .int .i64 i, .int .i64 f, .int .i64 t, .int .i64 a]] w (BoolExt (codeM i f t a == 0) w) := by
  go_enter Try.func58, Try.ntmps58
  go_wp2_with fail
  refine (l2Code_move _ _ _ _ _).mono ?_
  rintro e w' ⟨rfl, hx⟩
  go_wp2
  go_ret
  exact ⟨rfl, Ext.trans (Ext.alloc (Ext.refl _) _) hx⟩

set_option maxHeartbeats 1000000 in
theorem specGood_2 (i f t a : Int) (w : World) :
    Calls Try.prog 58 #[.agg #[.int .i64 2, .int .i64 i, .int .i64 f, .int .i64 t, .int .i64 a]] w (BoolExt ((codeR i f == 0 && t == 0) && a == 0) w) := by
  by_cases ht : t = 0
  · by_cases ha : a = 0
    · subst ht; subst ha
      cases hc : (codeR i f == 0) with
      | false =>
        go_enter Try.func58, Try.ntmps58
        go_wp2_with fail
        refine (l2Code_read 2 _ _ _ _ _ rfl rfl).mono ?_
        rintro e w' ⟨rfl, hx⟩
        go_wp2
        go_ret
        exact ⟨rfl, Ext.trans (Ext.alloc (Ext.refl _) _) hx⟩
      | true =>
        go_enter Try.func58, Try.ntmps58
        go_wp2_with fail
        refine (l2Code_read 2 _ _ _ _ _ rfl rfl).mono ?_
        rintro e w' ⟨rfl, hx⟩
        have c1 := hx.cell (a := ⟨w.heap.size, 3, none⟩) (v := .int .i64 0) (by go_simp)
        have c2 := hx.cell (a := ⟨w.heap.size, 4, none⟩) (v := .int .i64 0) (by go_simp)
        go_wp2
        go_ret
        exact ⟨rfl, Ext.trans (Ext.alloc (Ext.refl _) _) hx⟩
    · have e2 : (a == 0) = false := by simp [ha]
      subst ht
      cases hc : (codeR i f == 0) with
      | false =>
        go_enter Try.func58, Try.ntmps58
        go_wp2_with fail
        refine (l2Code_read 2 _ _ _ _ _ rfl rfl).mono ?_
        rintro e w' ⟨rfl, hx⟩
        go_wp2
        go_ret
        exact ⟨rfl, Ext.trans (Ext.alloc (Ext.refl _) _) hx⟩
      | true =>
        go_enter Try.func58, Try.ntmps58
        go_wp2_with fail
        refine (l2Code_read 2 _ _ _ _ _ rfl rfl).mono ?_
        rintro e w' ⟨rfl, hx⟩
        have c1 := hx.cell (a := ⟨w.heap.size, 3, none⟩) (v := .int .i64 0) (by go_simp)
        have c2 := hx.cell (a := ⟨w.heap.size, 4, none⟩) (v := .int .i64 a) (by go_simp)
        go_wp2
        go_ret
        exact ⟨by rw [e2]; rfl, Ext.trans (Ext.alloc (Ext.refl _) _) hx⟩
  · have e1 : (t == 0) = false := by simp [ht]
    cases hc : (codeR i f == 0) with
    | false =>
      go_enter Try.func58, Try.ntmps58
      go_wp2_with fail
      refine (l2Code_read 2 _ _ _ _ _ rfl rfl).mono ?_
      rintro e w' ⟨rfl, hx⟩
      go_wp2
      go_ret
      exact ⟨rfl, Ext.trans (Ext.alloc (Ext.refl _) _) hx⟩
    | true =>
      go_enter Try.func58, Try.ntmps58
      go_wp2_with fail
      refine (l2Code_read 2 _ _ _ _ _ rfl rfl).mono ?_
      rintro e w' ⟨rfl, hx⟩
      have c1 := hx.cell (a := ⟨w.heap.size, 3, none⟩) (v := .int .i64 t) (by go_simp)
      go_wp2
      go_ret
      exact ⟨by rw [e1]; rfl, Ext.trans (Ext.alloc (Ext.refl _) _) hx⟩

set_option maxHeartbeats 1000000 in
theorem specGood_else (k i f t a : Int) (w : World) (h0 : (k == 0) = false) (h1 : (k == 1) = false) (h2 : (k == 2) = false) :
    Calls Try.prog 58 #[.agg #[.int .i64 k, .int .i64 i, .int .i64 f, .int .i64 t, .int .i64 a]] w (BoolExt false w) := by
  go_enter Try.func58, Try.ntmps58
  go_wp2
  go_ret
  exact ⟨rfl, by repeat (first | assumption | exact Ext.refl _ | apply Ext.drew | apply Ext.alloc)⟩

theorem specGood_any (k i f t a : Int) (w : World) :
    Calls Try.prog 58 #[.agg #[.int .i64 k, .int .i64 i, .int .i64 f, .int .i64 t, .int .i64 a]] w (BoolExt (goodB k i f t a) w) := by
  by_cases h0 : k = 0
  · subst h0; exact specGood_0 i f t a w
  · by_cases h1 : k = 1
    · subst h1; exact specGood_1 i f t a w
    · by_cases h2 : k = 2
      · subst h2; exact specGood_2 i f t a w
      · have g0 : (k == 0) = false := by simp [h0]
        have g1 : (k == 1) = false := by simp [h1]
        have g2 : (k == 2) = false := by simp [h2]
        rw [goodB_else i f t a g0 g1 g2]
        exact specGood_else k i f t a w g0 g1 g2

set_option maxHeartbeats 1000000 in
theorem implGood_0 (i f t a : Int) (w : World) :
    Calls Try.prog 76 #[.agg #[.int .i64 0, .int .i64 i, .int .i64 f, .int .i64 t, .int .i64 a]] w (BoolExt (zeroB i f t a) w) := by
  unfold zeroB
  go_enter Try.func76, Try.ntmps76
  go_wp2
  all_goals go_ret
  all_goals refine ⟨?_, by repeat (first | assumption | exact Ext.refl _ | apply Ext.drew | apply Ext.alloc)⟩
  all_goals first | rfl | simp [*]

set_option maxHeartbeats 1000000 in
theorem implGood_1 (i f t a : Int) (w : World) :
    Calls Try.prog 76 #[.agg #[.int .i64 1, .int .i64 i, .int .i64 f, .int .i64 t, .int .i64 a]] w (BoolExt (codeM i f t a == 0) w) := by
  go_enter Try.func76, Try.ntmps76
  go_wp2_with fail
  refine (faultOfCmd_move _ _ _ _ _).mono ?_
  rintro e w' ⟨rfl, hx⟩
  go_wp2
  go_ret
  exact ⟨rfl, Ext.trans (Ext.alloc (Ext.refl _) _) hx⟩

set_option maxHeartbeats 1000000 in
theorem implGood_2 (i f t a : Int) (w : World) :
    Calls Try.prog 76 #[.agg #[.int .i64 2, .int .i64 i, .int .i64 f, .int .i64 t, .int .i64 a]] w (BoolExt ((codeR i f == 0 && t == 0) && a == 0) w) := by
  by_cases ht : t = 0
  · by_cases ha : a = 0
    · subst ht; subst ha
      go_enter Try.func76, Try.ntmps76
      go_wp2_with fail
      refine (faultOfCmd_read 2 _ _ _ _ _ rfl rfl).mono ?_
      rintro e w' ⟨rfl, hx⟩
      go_wp2
      go_ret
      exact ⟨by simp, Ext.trans (Ext.alloc (Ext.refl _) _) hx⟩
    · have e2 : (a != 0) = true := by simp [ha]
      have e3 : (a == 0) = false := by simp [ha]
      subst ht
      go_enter Try.func76, Try.ntmps76
      go_wp2
      go_ret
      exact ⟨by simp [ha], by repeat (first | assumption | exact Ext.refl _ | apply Ext.drew | apply Ext.alloc)⟩
  · have e1 : (t != 0) = true := by simp [ht]
    go_enter Try.func76, Try.ntmps76
    go_wp2
    go_ret
    exact ⟨by simp [ht], by repeat (first | assumption | exact Ext.refl _ | apply Ext.drew | apply Ext.alloc)⟩

set_option maxHeartbeats 1000000 in
theorem implGood_else (k i f t a : Int) (w : World) (h0 : (k == 0) = false) (h1 : (k == 1) = false) (h2 : (k == 2) = false) :
    Calls Try.prog 76 #[.agg #[.int .i64 k, .int .i64 i, .int .i64 f, .int .i64 t, .int .i64 a]] w (BoolExt false w) := by
  go_enter Try.func76, Try.ntmps76
  go_wp2
  go_ret
  exact ⟨rfl, by repeat (first | assumption | exact Ext.refl _ | apply Ext.drew | apply Ext.alloc)⟩

theorem implGood_any (k i f t a : Int) (w : World) :
    Calls Try.prog 76 #[.agg #[.int .i64 k, .int .i64 i, .int .i64 f, .int .i64 t, .int .i64 a]] w (BoolExt (goodB k i f t a) w) := by
  by_cases h0 : k = 0
  · subst h0; exact implGood_0 i f t a w
  · by_cases h1 : k = 1
    · subst h1; exact implGood_1 i f t a w
    · by_cases h2 : k = 2
      · subst h2; exact implGood_2 i f t a w
      · have g0 : (k == 0) = false := by simp [h0]
        have g1 : (k == 1) = false := by simp [h1]
        have g2 : (k == 2) = false := by simp [h2]
        rw [goodB_else i f t a g0 g1 g2]
        exact implGood_else k i f t a w g0 g1 g2

end Go.Proofs.Ytkhdgmgacfhcgaa

namespace Go.Proofs.Ytkhdgmgacfhcgaa
open Go.RowKit

def isGrp (n : Int) : Bool := n == 3 || n == 5
theorem isGrp_of {n : Int} (h : isGrp n = true) : n = 3 ∨ n = 5 := by simpa [isGrp] using h
theorem isGrp_no {n : Int} (h : isGrp n = false) : (n == 3) = false ∧ (n == 5) = false := by simpa [isGrp] using h

theorem specIsGroup_any (n : Int) (w : World) : Calls Try.prog 36 #[.int .i64 n] w (fun e w' => e = .returned (.bool (isGrp n)) ∧ w = w') := by
  cases h : isGrp n with
  | true =>
    rcases isGrp_of h with rfl | rfl
    all_goals
      clear h
      go_enter Try.func36, Try.ntmps36
      go_wp2
      go_ret
      exact ⟨rfl, rfl⟩
  | false =>
    obtain ⟨h3, h5⟩ := isGrp_no h
    clear h
    go_enter Try.func36, Try.ntmps36
    go_wp2
    go_ret
    exact ⟨rfl, rfl⟩
theorem implIsGroup_any (n : Int) (w : World) : Calls Try.prog 40 #[.int .i64 n] w (fun e w' => e = .returned (.bool (isGrp n)) ∧ w = w') := by
  cases h : isGrp n with
  | true =>
    rcases isGrp_of h with rfl | rfl
    all_goals
      clear h
      go_enter Try.func40, Try.ntmps40
      go_wp2
      go_ret
      exact ⟨rfl, rfl⟩
  | false =>
    obtain ⟨h3, h5⟩ := isGrp_no h
    clear h
    go_enter Try.func40, Try.ntmps40
    go_wp2
    go_ret
    exact ⟨rfl, rfl⟩

end Go.Proofs.Ytkhdgmgacfhcgaa

namespace Go.Proofs.Ytkhdgmgacfhcgaa
open Go.RowKit

set_option maxHeartbeats 400000 in
theorem l1All_any (v : Value) (l : List Int) (lo hi : Int) (w : World) (hv : Ints w v l) :
    Calls Try.prog 71 #[v, .int .i64 lo, .int .i64 hi] w (BoolExt (allIn l lo hi) w) := by
  obtain ⟨av, cv, rfl, hlv, _, hcv⟩ := hv
  unfold maxLen at hlv
  go_enter Try.func71, Try.ntmps71
  go_wp2
  go_loopw [8, 11] (fun _ i wr => ∃ k : Nat, k ≤ l.length ∧ i = .int .i64 k ∧ (l.take k).all (fun x => inB x lo hi) = true ∧ Ext w wr) (fun _ i _ => l.length - (intOf i).toNat)
  case atStart => exact ⟨0, Nat.zero_le _, rfl, by simp, Ext.refl _⟩
  case round =>
    obtain ⟨k, hk, rfl, ht, hx⟩ := hrel
    have HT := Lib.hid ht
    clear ht
    by_cases hlt : k < l.length
    · obtain ⟨bv, ov, rfl, dv⟩ := hcv (by omega)
      have gv := hx.cell (dv k hlt)
      clear hcv dv
      cases hp : inB l[k] lo hi with
      | true =>
        go_wp2_with (go_at_call 56; refine (l1In_any _ _ _ _).mono ?_; rintro e w' ⟨rfl, rfl⟩)
        go_roundw
        case rel => exact ⟨k + 1, by omega, by go_num, all_take_succ hlt _ HT.out (by simpa [hlt] using hp), hx⟩
        case measure => simp [intOf]; omega
      | false =>
        go_wp2_with (go_at_call 56; refine (l1In_any _ _ _ _).mono ?_; rintro e w' ⟨rfl, rfl⟩)
        go_ret
        refine ⟨?_, hx⟩
        have hf : allIn l lo hi = false := all_false_at hlt _ (by simpa [hlt] using hp)
        rw [hf]; rfl
    · obtain rfl : k = l.length := by omega
      go_wp2
      go_ret
      refine ⟨?_, hx⟩
      have hf : allIn l lo hi = true := by have h := HT.out; rwa [List.take_length] at h
      rw [hf]; rfl


end Go.Proofs.Ytkhdgmgacfhcgaa

namespace Go.Proofs.Ytkhdgmgacfhcgaa
open Go.RowKit
set_option linter.unusedVariables false

/-- Whether the numbers fit a group of n. -/
def goodD (n s : Int) (l : List Int) : Bool := inB s 0 999 && decide ((l.length : Int) = n) && allIn l 0 6
def goodA (n s : Int) (l : List Int) : Bool := isGrp n && goodD n s l
theorem goodD_s {n s : Int} {l : List Int} (h : inB s 0 999 = false) : goodD n s l = false := by unfold goodD; rw [h]; rfl
theorem goodD_l {n s : Int} {l : List Int} (h : (l.length : Int) ≠ n) : goodD n s l = false := by unfold goodD; rw [decide_eq_false h, Bool.and_false, Bool.false_and]
theorem goodD_a {n s : Int} {l : List Int} (h : inB s 0 999 = true) (hl : (l.length : Int) = n) : goodD n s l = allIn l 0 6 := by unfold goodD; rw [h, decide_eq_true hl]; rfl
theorem goodD_of {n s : Int} {l : List Int} (h : goodD n s l = true) : inB s 0 999 = true ∧ (l.length : Int) = n ∧ allIn l 0 6 = true := by
  unfold goodD at h
  simp only [Bool.and_eq_true, decide_eq_true_eq] at h
  exact ⟨h.1.1, h.1.2, h.2⟩

set_option maxHeartbeats 1000000 in
theorem l3Attr_any (n s : Int) (u : Value) (l : List Int) (w : World) (hv : Ints w u l) :
    Calls Try.prog 59 #[.int .i64 n, .agg #[.int .i64 s, u]] w (BoolExt (goodD n s l) w) := by
  obtain ⟨au, cu, rfl, hlu, hcap, hcu⟩ := hv
  have HV : Hid (Ints w (.slice au l.length cu) l) := Lib.hid ⟨au, cu, rfl, hlu, hcap, hcu⟩
  clear hlu hcap hcu
  cases hp : inB s 0 999 with
  | false =>
    have HG := Lib.hid (goodD_s (n := n) (l := l) hp)
    have HP := Lib.hid hp
    clear hp
    go_enter Try.func59, Try.ntmps59
    go_wp2_with fail
    refine (l1In_any _ _ _ _).mono ?_
    rintro e w' ⟨rfl, rfl⟩
    rw [HP.out]
    go_wp2
    go_ret
    exact ⟨by rw [HG.out]; rfl, Ext.alloc (Ext.refl _) _⟩
  | true =>
    by_cases hl : (l.length : Int) = n
    · have HG := Lib.hid (goodD_a (n := n) hp hl)
      have HP := Lib.hid hp
      have e0 : ((l.length : Int) == n) = true := by simp [hl]
      clear hp hl
      rw [HG.out]
      go_enter Try.func59, Try.ntmps59
      go_wp2_with fail
      refine (l1In_any _ _ _ _).mono ?_
      rintro e w' ⟨rfl, rfl⟩
      rw [HP.out]
      go_wp2_with fail
      refine (l1All_any _ _ _ _ _ (HV.out.ext (Ext.alloc (Ext.refl _) _))).mono ?_
      rintro e w1 ⟨rfl, x1⟩
      have hx : Ext w w1 := (Ext.alloc (Ext.refl _) _).trans x1
      clear x1
      cases hA : allIn l 0 6
      all_goals
        have HA := Lib.hid hA
        clear hA
        go_wp2
        go_ret
        exact ⟨by rw [HA.out]; rfl, hx⟩
    · have HG := Lib.hid (goodD_l (s := s) hl)
      have HP := Lib.hid hp
      have e0 : ((l.length : Int) == n) = false := by simp [hl]
      clear hp hl
      go_enter Try.func59, Try.ntmps59
      go_wp2_with fail
      refine (l1In_any _ _ _ _).mono ?_
      rintro e w' ⟨rfl, rfl⟩
      rw [HP.out]
      go_wp2
      go_ret
      exact ⟨by rw [HG.out]; rfl, Ext.alloc (Ext.refl _) _⟩

theorem goodA_no {n s : Int} {l : List Int} (h : isGrp n = false) : goodA n s l = false := by unfold goodA; rw [h]; rfl
theorem goodA_d {n s : Int} {l : List Int} (h : goodD n s l = false) : goodA n s l = false := by unfold goodA; rw [h, Bool.and_false]
theorem goodA_of {n s : Int} {l : List Int} (h : goodA n s l = true) : isGrp n = true ∧ goodD n s l = true := by unfold goodA at h; simpa using h

set_option maxHeartbeats 1000000 in
/-- The program's function where the loop is not come to. -/
theorem implGoodAttr_early (n s : Int) (u : Value) (l : List Int) (w : World) (hv : Ints w u l) (h : isGrp n = false ∨ (l.length : Int) ≠ n ∨ s < 0 ∨ 999 < s) :
    Calls Try.prog 77 #[.int .i64 n, .agg #[.int .i64 s, u]] w (BoolExt false w) := by
  obtain ⟨au, cu, rfl, hlu, hcap, hcu⟩ := hv
  clear hlu hcap hcu
  cases hg : isGrp n with
  | false =>
    have HG := Lib.hid hg
    clear hg h
    go_enter Try.func77, Try.ntmps77
    go_wp2_with fail
    refine (implIsGroup_any _ _).mono ?_
    rintro e w' ⟨rfl, rfl⟩
    rw [HG.out]
    go_wp2
    go_ret
    exact ⟨rfl, Ext.alloc (Ext.refl _) _⟩
  | true =>
    have h' : (l.length : Int) ≠ n ∨ s < 0 ∨ 999 < s := by
      rcases h with h | h
      · rw [hg] at h; cases h
      · exact h
    clear h
    have HG := Lib.hid hg
    clear hg
    by_cases hl : (l.length : Int) = n
    · have h2 : s < 0 ∨ 999 < s := by
        rcases h' with h | h
        · exact absurd hl h
        · exact h
      have e0 : ((l.length : Int) != n) = false := by simp [hl]
      clear h' hl
      by_cases hs : s < 0
      · clear h2
        go_enter Try.func77, Try.ntmps77
        go_wp2_with fail
        refine (implIsGroup_any _ _).mono ?_
        rintro e w' ⟨rfl, rfl⟩
        rw [HG.out]
        go_wp2
        go_ret
        exact ⟨rfl, Ext.alloc (Ext.refl _) _⟩
      · have h0 : 0 ≤ s := by omega
        have h1 : 999 < s := by omega
        clear h2 hs
        go_enter Try.func77, Try.ntmps77
        go_wp2_with fail
        refine (implIsGroup_any _ _).mono ?_
        rintro e w' ⟨rfl, rfl⟩
        rw [HG.out]
        go_wp2
        go_ret
        exact ⟨rfl, Ext.alloc (Ext.refl _) _⟩
    · have e0 : ((l.length : Int) != n) = true := by simp [hl]
      clear h' hl
      go_enter Try.func77, Try.ntmps77
      go_wp2_with fail
      refine (implIsGroup_any _ _).mono ?_
      rintro e w' ⟨rfl, rfl⟩
      rw [HG.out]
      go_wp2
      go_ret
      exact ⟨rfl, Ext.alloc (Ext.refl _) _⟩

set_option maxHeartbeats 1000000 in
/-- The program's function where the loop is come to. -/
theorem implGoodAttr_loop (n s : Int) (u : Value) (l : List Int) (w : World) (hv : Ints w u l) (hg : isGrp n = true) (hl : (l.length : Int) = n) (h0 : 0 ≤ s) (h1 : s ≤ 999) :
    Calls Try.prog 77 #[.int .i64 n, .agg #[.int .i64 s, u]] w (BoolExt (allIn l 0 6) w) := by
  obtain ⟨au, cu, rfl, hlu, hcap, hcu⟩ := hv
  have hlen : l.length ≤ 5 := by rcases isGrp_of hg with h | h <;> omega
  have HG := Lib.hid hg
  have e0 : ((l.length : Int) != n) = false := by simp [hl]
  have e1 : (s < 0) = False := by simp; omega
  clear hlu hcap hg hl e1
  go_enter Try.func77, Try.ntmps77
  go_wp2_with fail
  refine (implIsGroup_any _ _).mono ?_
  rintro e w' ⟨rfl, rfl⟩
  rw [HG.out]
  go_wp2
  go_loopw [6, 30] (fun _ i wr => ∃ k : Nat, k ≤ l.length ∧ i = .int .i64 k ∧ Hid ((l.take k).all (fun x => inB x 0 6) = true) ∧ Ext w wr) (fun _ i _ => l.length - (intOf i).toNat)
  case atStart => exact ⟨0, Nat.zero_le _, rfl, Lib.hid (by simp), Ext.alloc (Ext.refl _) _⟩
  case round =>
    obtain ⟨k, hk, rfl, HT, hx⟩ := hrel
    by_cases hlt : k < l.length
    · obtain ⟨bv, ov, rfl, dv⟩ := hcu (by omega)
      have gv := hx.cell (dv k hlt)
      rw [List.getElem?_eq_getElem hlt, Option.getD_some] at gv
      obtain ⟨y, hy⟩ : ∃ y : Int, y = l[k] := ⟨_, rfl⟩
      rw [← hy] at gv
      have HY := Lib.hid hy
      clear hcu dv hy
      by_cases ha : y < 0
      · go_wp2
        go_ret
        refine ⟨?_, hx⟩
        have hf : allIn l 0 6 = false := all_false_at hlt _ (by rw [List.getElem?_eq_getElem hlt, Option.getD_some, ← HY.out]; exact inB_no (by omega))
        rw [hf]; rfl
      · have ha' : 0 ≤ y := by omega
        clear ha
        by_cases hb : 6 < y
        · go_wp2
          go_ret
          refine ⟨?_, hx⟩
          have hf : allIn l 0 6 = false := all_false_at hlt _ (by rw [List.getElem?_eq_getElem hlt, Option.getD_some, ← HY.out]; exact inB_no (by omega))
          rw [hf]; rfl
        · have hb' : y ≤ 6 := by omega
          clear hb
          go_wp2
          go_roundw
          case rel => exact ⟨k + 1, by omega, by go_num, Lib.hid (all_take_succ hlt _ HT.out (by rw [List.getElem?_eq_getElem hlt, Option.getD_some, ← HY.out]; exact inB_yes ha' hb')), hx⟩
          case measure => simp [intOf]; omega
    · obtain rfl : k = l.length := by omega
      go_wp2
      go_ret
      refine ⟨?_, hx⟩
      have hf : allIn l 0 6 = true := by have h := HT.out; rwa [List.take_length] at h
      rw [hf]; rfl

theorem implGoodAttr_any (n s : Int) (u : Value) (l : List Int) (w : World) (hv : Ints w u l) :
    Calls Try.prog 77 #[.int .i64 n, .agg #[.int .i64 s, u]] w (BoolExt (goodA n s l) w) := by
  by_cases h : isGrp n = false ∨ (l.length : Int) ≠ n ∨ s < 0 ∨ 999 < s
  · have e : goodA n s l = false := by
      rcases h with h | h | h
      · exact goodA_no h
      · exact goodA_d (goodD_l h)
      · exact goodA_d (goodD_s (inB_no (by omega)))
    rw [e]
    exact implGoodAttr_early n s u l w hv h
  · have hg : isGrp n = true := by
      cases hh : isGrp n with
      | true => rfl
      | false => exact absurd (Or.inl hh) h
    have hl : (l.length : Int) = n := Classical.byContradiction fun hh => h (.inr (.inl hh))
    have h0 : 0 ≤ s := by
      by_cases hh : s < 0
      · exact absurd (.inr (.inr (.inl hh))) h
      · omega
    have h1 : s ≤ 999 := by
      by_cases hh : 999 < s
      · exact absurd (.inr (.inr (.inr hh))) h
      · omega
    have e : goodA n s l = allIn l 0 6 := by unfold goodA; rw [hg, goodD_a (inB_yes h0 h1) hl]; rfl
    rw [e]
    exact implGoodAttr_loop n s u l w hv hg hl h0 h1

end Go.Proofs.Ytkhdgmgacfhcgaa

namespace Go.Proofs.Ytkhdgmgacfhcgaa
open Go.RowKit
set_option linter.unusedVariables false

/-- The number at a place, 0 behind the end. -/
def at0 (l : List Int) (j : Nat) : Int := l[j]?.getD 0
/-- The first five numbers. -/
def five (l : List Int) : Array Value := #[.int .i64 (at0 l 0), .int .i64 (at0 l 1), .int .i64 (at0 l 2), .int .i64 (at0 l 3), .int .i64 (at0 l 4)]
def FiveExt (l : List Int) (w : World) (e : Ending) (w' : World) : Prop := e = .returned (.agg (five l)) ∧ Ext w w'

theorem splice_five (l : List Int) : splice [Value.int .i64 0, .int .i64 0, .int .i64 0, .int .i64 0, .int .i64 0] 0 ((l.map (Value.int .i64)).take 5) = (five l).toList := by
  match l with
  | [] => rfl
  | [a] => rfl
  | [a, b] => rfl
  | [a, b, c] => rfl
  | [a, b, c, d] => rfl
  | a :: b :: c :: d :: e :: r => simp [splice, five, at0]

theorem setc_heap (w : World) (b o : Nat) (v : Value) (k : Nat) (h : k ≠ b) : (w.setCell ⟨b, o, none⟩ v).heap[k]? = w.heap[k]? := Below.heap_setCell _ _ _ k h

set_option maxRecDepth 100000 in
set_option maxHeartbeats 1000000 in
theorem depsIn_any (u : Value) (l : List Int) (w : World) (hv : Ints w u l) :
    Calls Try.prog 95 #[u] w (FiveExt l w) := by
  obtain ⟨au, cu, rfl, hlu, hcap, hcu⟩ := hv
  have hlu' : l.length ≤ 9223372036854775807 := by unfold maxLen at hlu; exact hlu
  have HCU := Lib.hid hcu
  have hcap1 : l.length ≤ cu := hcap.1
  clear hlu hcap hcu
  have hz0 : (w.alloc (.cells #[.int .i64 0, .int .i64 0, .int .i64 0, .int .i64 0, .int .i64 0] 123)).heap.size = w.heap.size + 1 := by simp
  have HZ := Lib.hid hz0
  clear hz0
  go_enter Try.func95, Try.ntmps95
  go_wp2_with (with_reducible refine wpList_copy_splice rfl _ _ 49 49 rfl 3 Try.underlying49 rfl _ _ 5 5 l.length cu rfl rfl (w.heap.size + 1) 0 [Value.int .i64 0, .int .i64 0, .int .i64 0, .int .i64 0, .int .i64 0] 123 ?c1 ((l.take 5).map (Value.int .i64)) ?c2 ?c3 ?c4 ?c5 (w.heap.size + 1) (w.alloc (.cells #[.int .i64 0, .int .i64 0, .int .i64 0, .int .i64 0, .int .i64 0] 123)) ?c6 (Nat.le_refl _) ?_)
  case c1 =>
    have h := heap_alloc_new (w.alloc (.cells #[.int .i64 0, .int .i64 0, .int .i64 0, .int .i64 0, .int .i64 0] 123)) (.cells #[.int .i64 0, .int .i64 0, .int .i64 0, .int .i64 0, .int .i64 0] 123)
    rw [HZ.out] at h
    exact h
  case c2 =>
    rw [List.length_map, List.length_take]
    exact Nat.min_comm _ _
  case c3 =>
    intro hp
    have hp' : 0 < l.length := by
      omega
    obtain ⟨b, off, rfl, hc⟩ := HCU.out hp'
    refine ⟨_, rfl, fun j z hj => ?_⟩
    have hj5 : j < l.length := by
      have := (List.getElem?_eq_some_iff.1 hj).1
      simp at this; omega
    have hx := (Ext.alloc (Ext.alloc (Ext.refl w) (.cells #[.int .i64 0, .int .i64 0, .int .i64 0, .int .i64 0, .int .i64 0] 123)) (.cells #[.int .i64 0, .int .i64 0, .int .i64 0, .int .i64 0, .int .i64 0] 123)).cell (hc j hj5)
    rw [show (⟨b, off, none⟩ : Addr).add j = ⟨b, off + j, none⟩ by simp [Addr.add], hx]
    have hj' : j < ((l.map (Value.int .i64)).take 5).length := (List.getElem?_eq_some_iff.1 hj).1
    rw [List.getElem?_eq_getElem hj'] at hj
    rw [← hj]
    simp [List.getElem?_eq_getElem hj5]
  case c4 =>
    rw [List.length_map, List.length_take]
    simp; omega
  case c5 =>
    intro z hz
    obtain ⟨q, _, rfl⟩ := List.mem_map.1 hz
    rfl
  case c6 => exact (Below.refl _ _).alloc (by rw [HZ.out]; exact Nat.le_refl _) _
  intro w' HG hb
  have hg := HG.out
  rw [splice_five] at hg
  have hcells : ∀ j, w'.cell? ⟨w.heap.size + 1, j, none⟩ = (five l)[j]? := fun j => by rw [cell_of_row w' _ j _ _ _ hg]
  have hx : Ext w w' := (Ext.alloc (Ext.refl w) _).trans (by
    show Below _ _ _
    rw [HZ.out]; exact hb)
  have d0 : w'.cell? ⟨w.heap.size + 1, 0, none⟩ = some (.int .i64 (at0 l 0)) := hcells 0
  have d1 : w'.cell? ⟨w.heap.size + 1, 1, none⟩ = some (.int .i64 (at0 l 1)) := hcells 1
  have d2 : w'.cell? ⟨w.heap.size + 1, 2, none⟩ = some (.int .i64 (at0 l 2)) := hcells 2
  have d3 : w'.cell? ⟨w.heap.size + 1, 3, none⟩ = some (.int .i64 (at0 l 3)) := hcells 3
  have d4 : w'.cell? ⟨w.heap.size + 1, 4, none⟩ = some (.int .i64 (at0 l 4)) := hcells 4
  have hlow : ∀ j, w'.cell? ⟨w.heap.size, j, none⟩ = (w.alloc (.cells #[.int .i64 0, .int .i64 0, .int .i64 0, .int .i64 0, .int .i64 0] 123)).cell? ⟨w.heap.size, j, none⟩ := fun j => hb.cell (p := ⟨w.heap.size, j, none⟩) (Nat.lt_succ_self _)
  have hfro : ∀ j, w'.frozen? ⟨w.heap.size, j, none⟩ = (w.alloc (.cells #[.int .i64 0, .int .i64 0, .int .i64 0, .int .i64 0, .int .i64 0] 123)).frozen? ⟨w.heap.size, j, none⟩ := fun j => hb.frozen (p := ⟨w.heap.size, j, none⟩) (Nat.lt_succ_self _)
  have c0 : w'.cell? ⟨w.heap.size, 0, none⟩ = some (.int .i64 0) := (hlow 0).trans (by go_simp)
  have c1 : w'.cell? ⟨w.heap.size, 1, none⟩ = some (.int .i64 0) := (hlow 1).trans (by go_simp)
  have c2 : w'.cell? ⟨w.heap.size, 2, none⟩ = some (.int .i64 0) := (hlow 2).trans (by go_simp)
  have c3 : w'.cell? ⟨w.heap.size, 3, none⟩ = some (.int .i64 0) := (hlow 3).trans (by go_simp)
  have c4 : w'.cell? ⟨w.heap.size, 4, none⟩ = some (.int .i64 0) := (hlow 4).trans (by go_simp)
  have f0 : w'.frozen? ⟨w.heap.size, 0, none⟩ = false := (hfro 0).trans (by go_simp)
  have f1 : w'.frozen? ⟨w.heap.size, 1, none⟩ = false := (hfro 1).trans (by go_simp)
  have f2 : w'.frozen? ⟨w.heap.size, 2, none⟩ = false := (hfro 2).trans (by go_simp)
  have f3 : w'.frozen? ⟨w.heap.size, 3, none⟩ = false := (hfro 3).trans (by go_simp)
  have f4 : w'.frozen? ⟨w.heap.size, 4, none⟩ = false := (hfro 4).trans (by go_simp)
  clear hcells hlow hfro hb HG hg hlu' hcap1
  go_wp2
  refine bodyPost_ret (v := .agg (five l)) (by simp [results, Try.results95, go_sem, c0, c1, c2, c3, c4, five]) rfl ⟨rfl, ?_⟩
  exact ((((hx.setc (Nat.le_refl _)).setc (Nat.le_refl _)).setc (Nat.le_refl _)).setc (Nat.le_refl _)).setc (Nat.le_refl _)

end Go.Proofs.Ytkhdgmgacfhcgaa
