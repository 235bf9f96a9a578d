/- Texts of this proof, part g: words, plain facts, contracts. -/
import Derived.Test.YtcpmfcigciknlaaGreatNBookOff
import Derived.Test.YtcpmfcigciknlaaGreatNBookOfe
import Derived.Deep.Cut
import Derived.Test.YtcpmfcigciknlaaGreatNBookOfc
import Derived.Test.YtcpmfcigciknlaaGreatShelf
import Derived.Test.YtcpmfcigciknlaaGreatNBookOfa
import Derived.Test.YtcpmfcigciknlaaGreatNBookOfb
set_option linter.unusedVariables false
set_option linter.unusedSimpArgs false

namespace Go.Proofs.YtcpmfcigciknlaaGreat
open Go.RowKit Go.Maps
set_option linter.unusedVariables false
theorem left_other {left : Lit → Bool} {x : Nat × Nat} {p q : Nat} (h1 : x.1 ≤ 1048576 ∧ x.2 ≤ 1048576) (h2 : p ≤ 1048576 ∧ q ≤ 1048576) (e : ¬ x = (p, q))
    (h : (fun z : Lit => left z && !z.sameKey (kl (p : Int) ((q : Int) + 1))) (kl (x.1 : Int) ((x.2 : Int) + 1)) = false) : left (kl (x.1 : Int) ((x.2 : Int) + 1)) = false := by
  have h' : (left (kl (x.1 : Int) ((x.2 : Int) + 1)) && !(kl (x.1 : Int) ((x.2 : Int) + 1)).sameKey (kl (p : Int) ((q : Int) + 1))) = false := h
  rw [same_kl h1 h2] at h'
  have : (decide (x.1 = p) && decide (x.2 = q)) = false := by
    simp only [Bool.and_eq_false_iff, decide_eq_false_iff_not]
    by_cases e1 : x.1 = p
    · exact .inr (fun e2 => e (Prod.ext e1 e2))
    · exact .inl e1
  rw [this] at h'
  simpa using h'
theorem goodTab_both {n : Int} {T : List (List RowD)} (h : goodTab n T = true) : T.length ≤ 5 ∧ ∀ R ∈ T, R.length ≤ 6 := by
  obtain ⟨h1, h2, h3⟩ := goodTab_of h
  refine ⟨?_, fun R hR => (h3 R hR).1⟩
  rcases isGrp_of h1 with e | e <;> omega
theorem goodRow_cmd' {n : Int} {r : RowD} (h : goodRow n r = true) : goodB r.k r.i r.f r.t r.a = true ∧ ((r.st == 0) = true → r.k = 0) := by
  unfold goodRow at h
  simp only [Bool.and_eq_true] at h
  have h2 := h.2
  split at h2
  · unfold emptyB zeroC at h2
    simp only [Bool.and_eq_true, beq_iff_eq] at h2
    obtain ⟨⟨_, e0, e1, e2, e3, e4⟩, _⟩ := h2
    rw [e0, e1, e2, e3, e4]
    exact ⟨rfl, fun _ => rfl⟩
  · rename_i hst
    unfold fullB at h2
    simp only [Bool.and_eq_true] at h2
    exact ⟨h2.1, fun h => absurd h (by simpa using hst)⟩
theorem com_row {n : Int} {T : List (List RowD)} (h : goodTab n T = true) {p q : Nat} (hc : instCom T p q = true) :
    goodB (rowOf n T p q).k (rowOf n T p q).i (rowOf n T p q).f (rowOf n T p q).t (rowOf n T p q).a = true ∧ (rowOf n T p q).l.length = T.length ∧ p < T.length ∧ q ≤ 5 := by
  obtain ⟨hp, hq, hs⟩ := instCom_lt hc
  have h1 := goodTab_row h hp hq
  have h2 := goodTab_of h
  have h3 := (h2.2.2 _ (List.getElem_mem hp)).1
  rw [rowOf_in hp hq]
  refine ⟨?_, by omega, hp, by omega⟩
  exact (goodRow_cmd' h1.1).1
def PairAt (w : World) (b : Nat) (x y : Int) : Prop := w.cell? ⟨b, 0, none⟩ = some (.int .i64 x) ∧ w.cell? ⟨b, 1, none⟩ = some (.int .i64 y)
theorem PairAt.ext {w w' : World} {b : Nat} {x y : Int} (h : PairAt w b x y) (e : Ext w w') : PairAt w' b x y := ⟨e.cell h.1, e.cell h.2⟩
theorem two_new (w : World) (x y : Int) (T T' : TypeId) (C : Array Value) : PairAt ((w.alloc (.cells #[.int .i64 x, .int .i64 y] T)).alloc (.cells C T')) w.heap.size x y := by
  refine ⟨?_, ?_⟩ <;> go_simp
end Go.Proofs.YtcpmfcigciknlaaGreat

namespace Go.Proofs.YtcpmfcigciknlaaGreat
open Go.RowKit
set_option linter.unusedVariables false
theorem lex_unique {L M : List (Nat × Nat)} (hL : L.Pairwise lexL) (hM : M.Pairwise lexL) (h : ∀ x, x ∈ L ↔ x ∈ M) : L = M := by
  induction L generalizing M with
  | nil =>
    cases M with
    | nil => rfl
    | cons y t => exact absurd ((h y).2 (by simp)) (by simp)
  | cons x s ih =>
    cases M with
    | nil => exact absurd ((h x).1 (by simp)) (by simp)
    | cons y t =>
      rw [List.pairwise_cons] at hL hM
      have exy : x = y := by
        rcases List.mem_cons.1 ((h x).1 (by simp)) with e | e
        · exact e
        · rcases List.mem_cons.1 ((h y).2 (by simp)) with e' | e'
          · exact e'.symm
          · have h1 := hM.1 x e
            have h2 := hL.1 y e'
            unfold lexL at h1 h2
            omega
      subst exy
      congr 1
      refine ih hL.2 hM.2 fun z => ?_
      constructor
      · intro hz
        rcases List.mem_cons.1 ((h z).1 (by simp [hz])) with e | e
        · subst e
          have := hL.1 _ hz
          unfold lexL at this
          omega
        · exact e
      · intro hz
        rcases List.mem_cons.1 ((h z).2 (by simp [hz])) with e | e
        · subst e
          have := hM.1 _ hz
          unfold lexL at this
          omega
        · exact e
theorem insts_short {n : Int} {T : List (List RowD)} (hg : goodTab n T = true) : (insts T).length ≤ 30 := by
  have h := goodTab_both hg
  have h2 := allTo_len h.2 T.length (Nat.le_refl _)
  rw [allTo_insts, List.length_map] at h2
  have : (insts T).length ≤ 6 * T.length := h2
  omega
noncomputable def readyL (n : Int) (T : List (List RowD)) : List (Nat × Nat) := (insts T).filter fun x => readyB n T x.1 x.2
theorem readyB_com {n : Int} {T : List (List RowD)} {p q : Nat} (h : readyB n T p q = true) : instCom T p q = true := by
  obtain ⟨C, hC, hx⟩ := readyB_iff.1 h
  exact hC.1 _ hx
theorem readyL_of {n : Int} {T : List (List RowD)} {L : List (Nat × Nat)} (hL : L.Pairwise lexL) (h : ∀ x : Nat × Nat, x ∈ L ↔ readyB n T x.1 x.2 = true) : L = readyL n T :=
  lex_unique hL ((insts_lex T).filter _) (fun x => by
    unfold readyL
    rw [h, List.mem_filter, mem_insts]
    exact ⟨fun hr => ⟨readyB_com hr, hr⟩, fun hr => hr.2⟩)
theorem readyL_short {n : Int} {T : List (List RowD)} (hg : goodTab n T = true) : (readyL n T).length ≤ 30 :=
  Nat.le_trans (List.length_filter_le _ _) (insts_short hg)
end Go.Proofs.YtcpmfcigciknlaaGreat

namespace Go.Proofs.YtcpmfcigciknlaaGreat
open Go.RowKit Go.Sort Go.Shelf
set_option linter.unusedVariables false
section
variable {α : Type} [Inhabited α] (enc : α → Value)
theorem holds_of_own {w : World} {B g n cap : Nat} {e : TypeId} {d : List α} (h : w.ownsRow B e 1 (.slice (some ⟨g, 0, none⟩) n cap) n (d.map enc)) (hn : d.length = n) : Holds enc w g 0 d.toArray := by
  subst hn
  intro j hj
  have hj' : j < d.length := by simpa using hj
  have hc := World.ownsRow.cellAt h j (by omega)
  rcases h.2 with ⟨hv, _⟩ | ⟨g', cap', cur, hv, _, hb, _⟩
  · cases hv
  · cases hv
    refine ⟨?_, by simp [World.frozen?, hb]⟩
    rw [Nat.zero_add, hc, List.getElem?_map, List.getElem?_eq_getElem hj']
    simp [hj']
theorem heap_put {w : World} {g n : Nat} {os : Array Obj} {cur : Array Value} {e : TypeId} {fr : Nat × Nat} (d : Array α) (hb : w.heap[g]? = some (.cells cur e fr)) :
    (grow (putRow enc (Sort.ahead w n) g 0 d) os).heap[g]? = some (.cells (putCells enc 0 d cur) e fr) := by
  have hg : g < w.heap.size := (Array.getElem?_eq_some_iff.1 hb).1
  rw [heap_grow_old _ _ (by simpa using hg)]
  simp [putRow, mapBlock, Sort.ahead, Array.getElem?_modify, hb, onCells]
theorem grown_put {w : World} {g n : Nat} {os : Array Obj} (d : Array α) : w.grownBy (grow (putRow enc (Sort.ahead w n) g 0 d) os) (some g) := by
  refine ⟨rfl, rfl, rfl, by simp, fun k hk hne => ?_⟩
  rw [heap_grow_old _ _ (by simpa using hk)]
  have : g ≠ k := fun e => hne (by rw [e])
  simp [putRow, mapBlock, Sort.ahead, Array.getElem?_modify, this]
theorem take_put (cur : Array Value) (ts : List α) (h : ts.length ≤ cur.size) : (putCells enc 0 ts.toArray cur).toList.take ts.length = ts.map enc := by
  apply List.ext_getElem?
  intro j
  by_cases hj : j < ts.length
  · rw [List.getElem?_take_of_lt hj, Array.getElem?_toList]
    simp [putCells, hj, show j < cur.size by omega]
  · rw [List.getElem?_take_eq_none (by omega), List.getElem?_eq_none (by simp; omega)]
theorem own_put {w : World} {B g cap n m : Nat} {e : TypeId} {os : Array Obj} {xs : List Value} {ts : List α} (h : w.ownsRow B e 1 (.slice (some ⟨g, 0, none⟩) n cap) n xs) (hl : ts.length = n) :
    (grow (putRow enc (Sort.ahead w m) g 0 ts.toArray) os).ownsRow B e 1 (.slice (some ⟨g, 0, none⟩) n cap) n (ts.map enc) := by
  rcases h.2 with ⟨hv, _⟩ | ⟨g', cap', cur, hv, hbase, hb, h1, h2, h3, _⟩
  · cases hv
  · cases hv
    refine ⟨by simp [hl], .inr ⟨g, cap, _, rfl, hbase, heap_put enc ts.toArray hb, h1, h2, by simp [putCells, h3], ?_⟩⟩
    rw [Nat.mul_one, ← hl]
    exact take_put enc cur ts (by omega)
end
def sortI (l : List Int) : List Int := l.mergeSort fun x y => decide (x ≤ y)
def SortOk : Prop := ∀ (B : Nat) (v : Value) (l : List Int) (w : World), Fresh B w v l → 0 < l.length → l.length ≤ 1048576 →
  Calls Tryz.prog 243 #[v] w (fun e w' => (∃ r, e = .returned r) ∧ Fresh B w' v (sortI l) ∧ w.grownBy w' v.ownBlock)
theorem sortOk : SortOk := by
  intro B v l w hf h0 hl
  have hf' : w.ownsRow B 3 1 v l.length (l.map (Value.int .i64)) := hf
  rcases hf.2 with ⟨_, h1⟩ | ⟨g, cap, cur, rfl, hb, hg, _⟩
  · omega
  · have hH := holds_of_own (Value.int .i64) hf' rfl
    have hgw : g < w.heap.size := (Array.getElem?_eq_some_iff.1 hg).1
    have hc := Tryz.slices_Sort_int g 0 cap l w hH hgw (by omega)
    refine hc.mono ?_
    rintro e w' ⟨rfl, n, os, rfl⟩
    have hlen : (sortI l).length = l.length := by simp [sortI]
    refine ⟨⟨_, rfl⟩, ?_, grown_put _ _⟩
    have := own_put (Value.int .i64) (m := n) (os := os) hf' hlen
    unfold Fresh
    rw [hlen]
    exact this
end Go.Proofs.YtcpmfcigciknlaaGreat

namespace Go.Proofs.YtcpmfcigciknlaaGreat
open Go.RowKit
set_option linter.unusedVariables false
def cmpI (a b : Int) : Int := if a < b then -1 else if b < a then 1 else 0
def cmpL : List Int → List Int → Int
  | [], [] => 0
  | [], _ :: _ => -1
  | _ :: _, [] => 1
  | a :: s, b :: t => if cmpI a b = 0 then cmpL s t else cmpI a b
def IntSame (n : Int) (w : World) (e : Ending) (w' : World) : Prop := e = .returned (.int .i64 n) ∧ w' = w
set_option maxHeartbeats 1000000 in
theorem compareInt_any (a b : Int) (w : World) : Calls Tryz.prog 146 #[.int .i64 a, .int .i64 b] w (IntSame (cmpI a b) w) := by
  have hnan : ∀ (n : Int) (W : World), Calls Tryz.prog 190 #[.int .i64 n] W (fun e W' => e = .returned (.bool false) ∧ W' = W) := fun n W => by
    go_enter Tryz.func190, Tryz.ntmps190
    go_wp2
    go_ret
    exact ⟨rfl, rfl⟩
  go_enter Tryz.func146, Tryz.ntmps146
  by_cases h1 : a < b
  · have e : cmpI a b = -1 := by unfold cmpI; rw [if_pos h1]
    rw [e]
    clear e
    go_wp2_with fail
    refine (hnan a _).mono ?_
    rintro e w1 ⟨rfl, rfl⟩
    go_wp2_with fail
    refine (hnan b _).mono ?_
    rintro e w1 ⟨rfl, rfl⟩
    go_wp2
    go_ret
    exact ⟨rfl, rfl⟩
  · by_cases h2 : b < a
    · have e : cmpI a b = 1 := by unfold cmpI; rw [if_neg h1, if_pos h2]
      rw [e]
      clear e
      go_wp2_with fail
      refine (hnan a _).mono ?_
      rintro e w1 ⟨rfl, rfl⟩
      go_wp2_with fail
      refine (hnan b _).mono ?_
      rintro e w1 ⟨rfl, rfl⟩
      go_wp2
      go_ret
      exact ⟨rfl, rfl⟩
    · have e : cmpI a b = 0 := by unfold cmpI; rw [if_neg h1, if_neg h2]
      rw [e]
      clear e
      go_wp2_with fail
      refine (hnan a _).mono ?_
      rintro e w1 ⟨rfl, rfl⟩
      go_wp2_with fail
      refine (hnan b _).mono ?_
      rintro e w1 ⟨rfl, rfl⟩
      go_wp2
      go_ret
      exact ⟨rfl, rfl⟩
theorem cmpL_step : ∀ (l r : List Int) (k : Nat) (hk : k < l.length) (hr : k < r.length) (h : cmpL l r = cmpL (l.drop k) (r.drop k)), (cmpI l[k] r[k] = 0 → cmpL l r = cmpL (l.drop (k + 1)) (r.drop (k + 1))) ∧ (cmpI l[k] r[k] ≠ 0 → cmpL l r = cmpI l[k] r[k]) := by
  intro l r k hk hr h
  rw [List.drop_eq_getElem_cons hk, List.drop_eq_getElem_cons hr] at h
  have e4 : cmpL (l[k] :: l.drop (k + 1)) (r[k] :: r.drop (k + 1)) = if cmpI l[k] r[k] = 0 then cmpL (l.drop (k + 1)) (r.drop (k + 1)) else cmpI l[k] r[k] := by simp only [cmpL]
  rw [e4] at h
  constructor
  · intro e; rw [h, if_pos e]
  · intro e; rw [h, if_neg e]
set_option maxHeartbeats 2000000 in
theorem compare_any (u v : Value) (l r : List Int) (w : World) (hu : Ints w u l) (hv : Ints w v r) : Calls Tryz.prog 194 #[u, v] w (IntSame (cmpL l r) w) := by
  obtain ⟨au, cu, rfl, hlu, _, du⟩ := hu
  obtain ⟨av, cv, rfl, hlv, _, dv⟩ := hv
  unfold maxLen at hlu hlv
  have DU := Lib.hid du
  have DV := Lib.hid dv
  clear du dv
  go_enter Tryz.func194, Tryz.ntmps194
  go_wp2
  go_loopw [5, 6, 7, 8, 11] (fun _ _ _ _ i wr => ∃ k : Nat, k ≤ l.length ∧ k ≤ r.length ∧ i = .int .i64 k ∧ Hid (cmpL l r = cmpL (l.drop k) (r.drop k)) ∧ wr = w) (fun _ _ _ _ i _ => l.length - (intOf i).toNat)
  case atStart => exact ⟨0, Nat.zero_le _, Nat.zero_le _, rfl, Lib.hid rfl, rfl⟩
  case round =>
    obtain ⟨k, hk, hk2, rfl, hC, rfl⟩ := hrel
    by_cases hlt : k < l.length
    · obtain ⟨bu, ou, rfl, eu⟩ := DU.out (by omega)
      have z1 := eu k hlt
      rw [List.getElem?_eq_getElem hlt, Option.getD_some] at z1
      by_cases hlr : k < r.length
      · obtain ⟨bv, ov, rfl, ev⟩ := DV.out (by omega)
        have z2 := ev k hlr
        rw [List.getElem?_eq_getElem hlr, Option.getD_some] at z2
        obtain ⟨h1, h2⟩ := cmpL_step l r k hlt hlr hC.out
        obtain ⟨x, hx⟩ : ∃ x, x = l[k] := ⟨_, rfl⟩
        obtain ⟨y, hy⟩ : ∃ y, y = r[k] := ⟨_, rfl⟩
        rw [← hx] at z1 h1 h2
        rw [← hy] at z2 h1 h2
        have H1 := Lib.hid h1
        have H2 := Lib.hid h2
        clear hx hy h1 h2 eu ev
        go_wp2_with fail
        refine (compareInt_any x y _).mono ?_
        rintro e w1 ⟨rfl, rfl⟩
        by_cases hc : cmpI x y = 0
        · have HC := Lib.hid (H1.out hc)
          rw [hc]
          clear hc
          go_wp2
          go_roundw
          case rel => exact ⟨k + 1, by omega, by omega, by go_num, HC, by first | exact rfl | trivial⟩
          case measure => simp [intOf]; omega
        · have HC := Lib.hid (H2.out hc)
          obtain ⟨n, hn⟩ : ∃ n, n = cmpI x y := ⟨_, rfl⟩
          rw [← hn] at hc HC ⊢
          have hb : (n != 0) = true := by simp [hc]
          clear hn
          go_wp2
          go_ret
          exact ⟨by rw [HC.out]; rfl, rfl⟩
      · obtain rfl : k = r.length := by omega
        have HC : Hid (cmpL l r = 1) := Lib.hid (by
          have := hC.out
          rw [List.drop_length, List.drop_eq_getElem_cons hlt] at this
          exact this)
        go_wp2
        go_ret
        exact ⟨by rw [HC.out]; rfl, rfl⟩
    · obtain rfl : k = l.length := by omega
      by_cases hlr : l.length < r.length
      · have HC : Hid (cmpL l r = -1) := Lib.hid (by
          have := hC.out
          rw [List.drop_length, List.drop_eq_getElem_cons hlr] at this
          exact this)
        go_wp2
        go_ret
        exact ⟨by rw [HC.out]; rfl, rfl⟩
      · have HC : Hid (cmpL l r = 0) := Lib.hid (by
          have := hC.out
          have e : l.length = r.length := by omega
          rw [List.drop_length, e, List.drop_length] at this
          exact this)
        go_wp2
        go_ret
        exact ⟨by rw [HC.out]; rfl, rfl⟩
end Go.Proofs.YtcpmfcigciknlaaGreat

namespace Go.Proofs.YtcpmfcigciknlaaGreat
open Go.RowKit
set_option linter.unusedVariables false

/-! ### Rising lists -/
def Rises (l : List Int) : Prop := l.Pairwise (· < ·)
instance (l : List Int) : Decidable (Rises l) := inferInstanceAs (Decidable (List.Pairwise _ _))
def riseB (l : List Int) (lo hi : Int) : Bool := decide (Rises l) && allIn l lo hi
theorem riseB_of {l : List Int} {lo hi : Int} (h : riseB l lo hi = true) : Rises l ∧ ∀ x ∈ l, lo ≤ x ∧ x ≤ hi := by
  unfold riseB allIn inB at h
  simpa using h
theorem riseB_yes {l : List Int} {lo hi : Int} (h : Rises l) (k : ∀ x ∈ l, lo ≤ x ∧ x ≤ hi) : riseB l lo hi = true := by
  unfold riseB allIn inB
  simpa using ⟨h, k⟩
theorem take_while (p : Int → Bool) : ∀ l : List Int, l.take (l.takeWhile p).length = l.takeWhile p
  | [] => rfl
  | x :: l => by
    cases h : p x
    · simp [h]
    · simp [h, take_while p l]
theorem mem_while (p : Int → Bool) : ∀ (l : List Int) (x : Int), x ∈ l.takeWhile p → p x = true
  | [], x, h => by simp at h
  | y :: l, x, h => by
    cases hy : p y
    · simp [hy] at h
    · rw [List.takeWhile_cons, if_pos hy] at h
      rcases List.mem_cons.1 h with rfl | h
      · exact hy
      · exact mem_while p l x h
theorem mem_ahead {l : List Int} {n x : Int} (h : x ∈ l.take (ahead l n)) : x < n := by
  unfold ahead at h
  rw [take_while] at h
  have := mem_while _ _ _ h
  simpa using this
theorem ahead_le (l : List Int) (n : Int) : ahead l n ≤ l.length := (List.takeWhile_sublist _).length_le
theorem at_ahead : ∀ (l : List Int) (n x : Int), l[ahead l n]? = some x → n ≤ x
  | [], n, x, h => by simp [ahead] at h
  | y :: l, n, x, h => by
    by_cases hy : y < n
    · have e : ahead (y :: l) n = ahead l n + 1 := by simp [ahead, hy]
      rw [e, List.getElem?_cons_succ] at h
      exact at_ahead l n x h
    · have e : ahead (y :: l) n = 0 := by simp [ahead, hy]
      rw [e] at h
      simp at h
      omega
theorem putI_mem (l : List Int) (n x : Int) : x ∈ putI l n ↔ x ∈ l ∨ x = n := by
  unfold putI
  by_cases h : l[ahead l n]? = some n
  · rw [if_pos h]
    constructor
    · exact Or.inl
    · rintro (h' | rfl)
      · exact h'
      · exact List.mem_of_getElem? h
  · rw [if_neg h]
    have e := List.take_append_drop (ahead l n) l
    constructor
    · intro hx
      rcases List.mem_append.1 hx with hx | hx
      · rcases List.mem_append.1 hx with hx | hx
        · exact .inl (List.mem_of_mem_take hx)
        · exact .inr (by simpa using hx)
      · exact .inl (List.mem_of_mem_drop hx)
    · rintro (hx | rfl)
      · rw [← e] at hx
        rcases List.mem_append.1 hx with hx | hx
        · exact List.mem_append_left _ (List.mem_append_left _ hx)
        · exact List.mem_append_right _ hx
      · simp
theorem putI_len {l : List Int} {n : Int} (h : n ∉ l) : (putI l n).length = l.length + 1 := by
  unfold putI
  rw [if_neg (fun e => h (List.mem_of_getElem? e))]
  have := ahead_le l n
  simp
  omega
theorem behind_ahead {l : List Int} {n x : Int} (hl : Rises l) (h : l[ahead l n]? ≠ some n) (hx : x ∈ l.drop (ahead l n)) : n < x := by
  obtain ⟨j, hj, rfl⟩ := List.getElem_of_mem hx
  have hjl : ahead l n + j < l.length := by simp at hj; omega
  rw [List.getElem_drop]
  have h0 : ahead l n < l.length := by omega
  have h1 : n ≤ l[ahead l n] := at_ahead l n _ (List.getElem?_eq_getElem h0)
  have h2 : n ≠ l[ahead l n] := fun e => h (by rw [List.getElem?_eq_getElem h0, ← e])
  rcases Nat.eq_zero_or_pos j with rfl | hp
  · show n < l[ahead l n + 0]
    simp only [Nat.add_zero]
    omega
  · have h3 : l[ahead l n] < l[ahead l n + j] := List.pairwise_iff_getElem.1 hl _ _ h0 hjl (by omega)
    omega
theorem putI_rises {l : List Int} (n : Int) (hl : Rises l) : Rises (putI l n) := by
  unfold putI
  by_cases h : l[ahead l n]? = some n
  · rw [if_pos h]; exact hl
  · rw [if_neg h]
    unfold Rises
    rw [List.pairwise_append, List.pairwise_append]
    refine ⟨⟨List.Pairwise.sublist (List.take_sublist _ _) hl, by simp, ?_⟩, List.Pairwise.sublist (List.drop_sublist _ _) hl, ?_⟩
    · intro a ha b hb
      obtain rfl : b = n := by simpa using hb
      exact mem_ahead ha
    · intro a ha b hb
      have hb' := behind_ahead hl h hb
      rcases List.mem_append.1 ha with ha | ha
      · have := mem_ahead ha; omega
      · obtain rfl : a = n := by simpa using ha
        exact hb'
theorem rises_ext : ∀ {a b : List Int}, Rises a → Rises b → (∀ x, x ∈ a ↔ x ∈ b) → a = b
  | [], [], _, _, _ => rfl
  | [], y :: b, _, _, h => by have := (h y).2 (by simp); simp at this
  | x :: a, [], _, _, h => by have := (h x).1 (by simp); simp at this
  | x :: a, y :: b, ha, hb, h => by
    have ha' := List.pairwise_cons.1 ha
    have hb' := List.pairwise_cons.1 hb
    have hxy : x = y := by
      have h1 := (h x).1 (by simp)
      have h2 := (h y).2 (by simp)
      rcases List.mem_cons.1 h1 with e | h1
      · exact e
      · rcases List.mem_cons.1 h2 with e | h2
        · exact e.symm
        · have := hb'.1 x h1; have := ha'.1 y h2; omega
    subst hxy
    have ht : a = b := rises_ext ha'.2 hb'.2 (fun z => by
      constructor
      · intro hz
        rcases List.mem_cons.1 ((h z).1 (List.mem_cons_of_mem _ hz)) with e | k
        · have := ha'.1 z hz; omega
        · exact k
      · intro hz
        rcases List.mem_cons.1 ((h z).2 (List.mem_cons_of_mem _ hz)) with e | k
        · have := hb'.1 z hz; omega
        · exact k)
    rw [ht]
theorem rises_len : ∀ {l : List Int} (lo hi : Int), Rises l → (∀ x ∈ l, lo ≤ x ∧ x < hi) → lo ≤ hi → (l.length : Int) ≤ hi - lo
  | [], lo, hi, _, _, h => by simp; omega
  | x :: l, lo, hi, hl, hb, h => by
    have hl' := List.pairwise_cons.1 hl
    have hx := hb x (by simp)
    have := rises_len (x + 1) hi hl'.2 (fun y hy => ⟨by have := hl'.1 y hy; omega, (hb y (List.mem_cons_of_mem _ hy)).2⟩) (by omega)
    simp only [List.length_cons]
    omega

/-! ### Graphs -/
def rowG (g : List (List Int)) (p : Int) : List Int := if 0 ≤ p then g[p.toNat]?.getD [] else []
def rowsB (g : List (List Int)) : Bool := g.all fun l => riseB l 0 ((g.length : Int) - 1)
def goodG (g : List (List Int)) : Bool := rowsB g && decide (g.length ≤ 40)

inductive Reach (g : List (List Int)) (a : Int) : Int → Prop
  | self : Reach g a a
  | step {b c : Int} : Reach g a b → c ∈ rowG g b → Reach g a c
theorem Reach.trans {g : List (List Int)} {a b c : Int} (h : Reach g a b) (k : Reach g b c) : Reach g a c := by
  induction k with
  | self => exact h
  | step _ hc ih => exact ih.step hc
theorem rowG_at {g : List (List Int)} {k : Nat} (h : k < g.length) : rowG g (k : Int) = g[k] := by
  unfold rowG
  rw [if_pos (by omega), Int.toNat_natCast, List.getElem?_eq_getElem h]
  rfl
theorem row_in {g : List (List Int)} (hg : rowsB g = true) {p c : Int} (h : c ∈ rowG g p) : 0 ≤ c ∧ c < g.length := by
  unfold rowG at h
  by_cases hp : 0 ≤ p
  · rw [if_pos hp] at h
    cases e : g[p.toNat]? with
    | none => rw [e] at h; simp at h
    | some l =>
      rw [e] at h
      have hl : riseB l 0 ((g.length : Int) - 1) = true := List.all_eq_true.1 hg l (List.mem_of_getElem? e)
      have := (riseB_of hl).2 c h
      omega
  · rw [if_neg hp] at h; simp at h
theorem reach_in {g : List (List Int)} (hg : rowsB g = true) {k x : Int} (hk : 0 ≤ k ∧ k < g.length) (h : Reach g k x) : 0 ≤ x ∧ x < g.length := by
  induction h with
  | self => exact hk
  | step _ hc _ => exact row_in hg hc
open Classical in
noncomputable def reachL (g : List (List Int)) (k : Int) : List Int := ((List.range g.length).map fun (i : Nat) => (i : Int)).filter fun x => decide (Reach g k x)
theorem range_rises (n : Nat) : Rises ((List.range n).map fun (i : Nat) => (i : Int)) := by
  unfold Rises
  rw [List.pairwise_map]
  exact List.pairwise_lt_range.imp (fun h => by omega)
theorem reachL_rises (g : List (List Int)) (k : Int) : Rises (reachL g k) := List.Pairwise.filter _ (range_rises _)
open Classical in
theorem reachL_mem {g : List (List Int)} (hg : rowsB g = true) {k : Int} (hk : 0 ≤ k ∧ k < g.length) (x : Int) : x ∈ reachL g k ↔ Reach g k x := by
  unfold reachL
  rw [List.mem_filter]
  constructor
  · rintro ⟨_, h⟩; exact of_decide_eq_true h
  · intro h
    have hx := reach_in hg hk h
    exact ⟨List.mem_map.2 ⟨x.toNat, by simp; omega, by omega⟩, decide_eq_true h⟩
theorem reachL_unique {g : List (List Int)} (hg : rowsB g = true) {k : Int} (hk : 0 ≤ k ∧ k < g.length) {l : List Int} (hl : Rises l) (h : ∀ x, x ∈ l ↔ Reach g k x) : l = reachL g k :=
  rises_ext hl (reachL_rises g k) (fun x => (h x).trans (reachL_mem hg hk x).symm)
theorem reachL_len (g : List (List Int)) (k : Int) : (reachL g k).length ≤ g.length := by
  have := List.length_filter_le (fun x => @decide (Reach g k x) (Classical.propDecidable _)) ((List.range g.length).map fun (i : Nat) => (i : Int))
  simpa [reachL] using this

/-! ### A search in breadth -/
structure Srch (g : List (List Int)) (k : Int) (i : Nat) (met out : List Int) : Prop where
  first : k ∈ met
  reach : ∀ x ∈ met, Reach g k x
  shut : ∀ (j : Nat) (p : Int), j < i → met[j]? = some p → ∀ c ∈ rowG g p, c ∈ met
  rises : Rises out
  same : ∀ x, x ∈ out ↔ x ∈ met
  len : met.length = out.length
theorem Srch.start (g : List (List Int)) (k : Int) : Srch g k 0 [k] [k] :=
  ⟨by simp, fun x hx => by obtain rfl : x = k := by simpa using hx
                           exact .self, fun j p hj => by omega, by simp [Rises], fun x => Iff.rfl, rfl⟩
def SrchAt (g : List (List Int)) (k : Int) (i j : Nat) (p : Int) (met out : List Int) : Prop :=
  Srch g k i met out ∧ met[i]? = some p ∧ ∀ c ∈ (rowG g p).take j, c ∈ met
theorem Srch.look {g : List (List Int)} {k : Int} {i : Nat} {met out : List Int} (h : Srch g k i met out) (hi : i < met.length) : SrchAt g k i 0 met[i] met out :=
  ⟨h, List.getElem?_eq_getElem hi, by simp⟩
theorem SrchAt.known {g : List (List Int)} {k p : Int} {i j : Nat} {met out : List Int} (h : SrchAt g k i j p met out) (hj : j < (rowG g p).length) (hm : (rowG g p)[j] ∈ met) : SrchAt g k i (j + 1) p met out := by
  refine ⟨h.1, h.2.1, fun c hc => ?_⟩
  rw [List.take_add_one, List.getElem?_eq_getElem hj] at hc
  rcases List.mem_append.1 hc with hc | hc
  · exact h.2.2 c hc
  · obtain rfl : c = (rowG g p)[j] := by simpa using hc
    exact hm
theorem SrchAt.add {g : List (List Int)} {k p : Int} {i j : Nat} {met out : List Int} (h : SrchAt g k i j p met out) (hj : j < (rowG g p).length) (hm : (rowG g p)[j] ∉ met) : SrchAt g k i (j + 1) p (met ++ [(rowG g p)[j]]) (putI out (rowG g p)[j]) := by
  obtain ⟨h, hp, hs⟩ := h
  have hi : i < met.length := (List.getElem?_eq_some_iff.1 hp).1
  refine ⟨⟨List.mem_append_left _ h.first, ?_, ?_, putI_rises _ h.rises, ?_, ?_⟩, ?_, ?_⟩
  · intro x hx
    rcases List.mem_append.1 hx with hx | hx
    · exact h.reach x hx
    · obtain rfl : x = (rowG g p)[j] := by simpa using hx
      exact (h.reach p (List.mem_of_getElem? hp)).step (List.getElem_mem hj)
  · intro j' q hj' hq c hc
    rw [List.getElem?_append_left (by omega)] at hq
    exact List.mem_append_left _ (h.shut j' q hj' hq c hc)
  · intro x
    rw [putI_mem, List.mem_append, h.same x]
    simp
  · rw [List.length_append, putI_len (fun e => hm ((h.same _).1 e)), h.len]
    rfl
  · rw [List.getElem?_append_left hi]; exact hp
  · intro c hc
    rw [List.take_add_one, List.getElem?_eq_getElem hj] at hc
    rcases List.mem_append.1 hc with hc | hc
    · exact List.mem_append_left _ (hs c hc)
    · exact List.mem_append_right _ (by simpa using hc)
theorem SrchAt.next {g : List (List Int)} {k p : Int} {i j : Nat} {met out : List Int} (h : SrchAt g k i j p met out) (hj : (rowG g p).length ≤ j) : Srch g k (i + 1) met out := by
  obtain ⟨h, hp, hs⟩ := h
  refine ⟨h.first, h.reach, fun j' q hj' hq c hc => ?_, h.rises, h.same, h.len⟩
  by_cases e : j' = i
  · subst e
    rw [hp] at hq
    cases hq
    exact hs c (by rw [List.take_of_length_le hj]; exact hc)
  · exact h.shut j' q (by omega) hq c hc
theorem Srch.small {g : List (List Int)} {k : Int} {i : Nat} {met out : List Int} (hg : rowsB g = true) (hk : 0 ≤ k ∧ k < g.length) (h : Srch g k i met out) : met.length ≤ g.length := by
  have := rises_len 0 g.length h.rises (fun x hx => by have := reach_in hg hk (h.reach x ((h.same x).1 hx)); omega) (by omega)
  have := h.len
  omega
theorem Srch.done {g : List (List Int)} {k : Int} {i : Nat} {met out : List Int} (hg : rowsB g = true) (hk : 0 ≤ k ∧ k < g.length) (h : Srch g k i met out) (hi : met.length ≤ i) : out = reachL g k := by
  refine reachL_unique hg hk h.rises (fun x => ⟨fun hx => h.reach x ((h.same x).1 hx), fun hx => (h.same x).2 ?_⟩)
  induction hx with
  | self => exact h.first
  | step _ hc ih =>
    obtain ⟨j, hj, e⟩ := List.getElem_of_mem ih
    exact h.shut j _ (by omega) (by rw [List.getElem?_eq_getElem hj, e]) _ hc
end Go.Proofs.YtcpmfcigciknlaaGreat

namespace Go.Proofs.YtcpmfcigciknlaaGreat
open Go.RowKit
set_option linter.unusedVariables false
open Classical in
noncomputable def groupL (g : List (List Int)) (k : Int) : List Int := (reachL g k).filter fun n => decide (k ∈ reachL g n)
noncomputable def groupsL (g : List (List Int)) : List (List Int) :=
  (((List.range g.length).map fun (i : Nat) => (i : Int)).filter fun k => decide ((groupL g k).head? = some k)).map (groupL g)
open Classical in
theorem groupL_mem {g : List (List Int)} (hg : rowsB g = true) {k : Int} (hk : 0 ≤ k ∧ k < g.length) (x : Int) : x ∈ groupL g k ↔ Reach g k x ∧ Reach g x k := by
  unfold groupL
  rw [List.mem_filter, reachL_mem hg hk, decide_eq_true_iff]
  constructor
  · rintro ⟨h1, h2⟩
    exact ⟨h1, (reachL_mem hg (reach_in hg hk h1) k).1 h2⟩
  · rintro ⟨h1, h2⟩
    exact ⟨h1, (reachL_mem hg (reach_in hg hk h1) k).2 h2⟩
theorem groupL_rises (g : List (List Int)) (k : Int) : Rises (groupL g k) := List.Pairwise.filter _ (reachL_rises g k)
theorem groupL_self {g : List (List Int)} (hg : rowsB g = true) {k : Int} (hk : 0 ≤ k ∧ k < g.length) : k ∈ groupL g k := (groupL_mem hg hk k).2 ⟨.self, .self⟩
theorem groupL_in {g : List (List Int)} (hg : rowsB g = true) {k x : Int} (hk : 0 ≤ k ∧ k < g.length) (h : x ∈ groupL g k) : 0 ≤ x ∧ x < g.length := reach_in hg hk ((groupL_mem hg hk x).1 h).1
theorem groupL_same {g : List (List Int)} (hg : rowsB g = true) {k x : Int} (hk : 0 ≤ k ∧ k < g.length) (h : x ∈ groupL g k) : groupL g x = groupL g k := by
  have hx := groupL_in hg hk h
  obtain ⟨h1, h2⟩ := (groupL_mem hg hk x).1 h
  refine rises_ext (groupL_rises g x) (groupL_rises g k) (fun y => ?_)
  rw [groupL_mem hg hx, groupL_mem hg hk]
  exact ⟨fun ⟨a, b⟩ => ⟨h1.trans a, b.trans h2⟩, fun ⟨a, b⟩ => ⟨h2.trans a, b.trans h1⟩⟩
def Left (g left : List (List Int)) : Prop := (∀ G ∈ left, ∃ k, (0 ≤ k ∧ k < (g.length : Int)) ∧ G = groupL g k) ∧ left.Pairwise (fun G H => ∀ x, x ∈ G → x ∉ H)
theorem left_groups {g : List (List Int)} (hg : rowsB g = true) : Left g (groupsL g) := by
  refine ⟨fun G hG => ?_, ?_⟩
  · obtain ⟨k, hk, rfl⟩ := List.mem_map.1 hG
    obtain ⟨i, hi, rfl⟩ := List.mem_map.1 (List.mem_filter.1 hk).1
    exact ⟨_, ⟨by omega, by have := List.mem_range.1 hi; omega⟩, rfl⟩
  · unfold groupsL
    rw [List.pairwise_map]
    refine (List.Pairwise.filter _ (range_rises g.length)).imp_of_mem ?_
    intro a b ha hb hab x hxa hxb
    obtain ⟨ia, hia, ea⟩ := List.mem_map.1 (List.mem_filter.1 ha).1
    obtain ⟨ib, hib, eb⟩ := List.mem_map.1 (List.mem_filter.1 hb).1
    have hia := List.mem_range.1 hia
    have hib := List.mem_range.1 hib
    have h1 := groupL_same hg (k := a) (by omega) hxa
    have h2 := groupL_same hg (k := b) (by omega) hxb
    have h3 := of_decide_eq_true (List.mem_filter.1 ha).2
    have h4 := of_decide_eq_true (List.mem_filter.1 hb).2
    rw [← h1, h2, h4] at h3
    cases h3
    omega
def freeB (g left : List (List Int)) (k : Nat) : Bool :=
  (left[k]?.getD []).all fun p => (List.range left.length).all fun i => decide (i = k) || (left[i]?.getD []).all fun n => !decide (n ∈ rowG g p)
theorem freeB_yes {g left : List (List Int)} {k : Nat} (h : ∀ p ∈ left[k]?.getD [], ∀ i, i < left.length → i ≠ k → ∀ n ∈ left[i]?.getD [], n ∉ rowG g p) : freeB g left k = true := by
  unfold freeB
  rw [List.all_eq_true]
  intro p hp
  rw [List.all_eq_true]
  intro i hi
  by_cases e : i = k
  · simp [e]
  · rw [Bool.or_eq_true]
    right
    rw [List.all_eq_true]
    intro n hn
    simpa using h p hp i (List.mem_range.1 hi) e n hn
theorem reach_less {g : List (List Int)} (hg : rowsB g = true) {p n : Int} (hp : 0 ≤ p ∧ p < g.length) (h : Reach g p n) (hn : ¬ Reach g n p) : (reachL g n).length < (reachL g p).length := by
  have hnn := reach_in hg hp h
  have hs : (reachL g n).Sublist (reachL g p) := by
    have e : reachL g n = (reachL g p).filter (fun x => decide (x ∈ reachL g n)) := by
      refine rises_ext (reachL_rises g n) (List.Pairwise.filter _ (reachL_rises g p)) (fun x => ?_)
      rw [List.mem_filter, decide_eq_true_iff]
      refine ⟨fun hx => ⟨?_, hx⟩, fun hx => hx.2⟩
      exact (reachL_mem hg hp x).2 (h.trans ((reachL_mem hg hnn x).1 hx))
    rw [e]
    exact List.filter_sublist
  rcases Nat.lt_or_ge (reachL g n).length (reachL g p).length with hl | hl
  · exact hl
  · have e := hs.eq_of_length_le hl
    have : p ∈ reachL g n := by rw [e]; exact (reachL_mem hg hp p).2 .self
    exact absurd ((reachL_mem hg hnn p).1 this) hn
theorem least_of {α : Type} (m : α → Nat) : ∀ (l : List α), l ≠ [] → ∃ (k : Nat) (h : k < l.length), ∀ (i : Nat) (hi : i < l.length), m l[k] ≤ m l[i]
  | [], h => absurd rfl h
  | [x], _ => by
    refine ⟨0, by simp, fun i hi => ?_⟩
    have e : i = 0 := by simpa using hi
    subst e
    exact Nat.le_refl _
  | x :: y :: l, _ => by
    obtain ⟨k, hk, hm⟩ := least_of m (y :: l) (by simp)
    by_cases h : m x ≤ m (y :: l)[k]
    · refine ⟨0, by simp, fun i hi => ?_⟩
      cases i with
      | zero => exact Nat.le_refl _
      | succ i => simpa using Nat.le_trans h (hm i (by simpa using hi))
    · refine ⟨k + 1, by simpa using hk, fun i hi => ?_⟩
      cases i with
      | zero => simp only [List.getElem_cons_succ, List.getElem_cons_zero]; omega
      | succ i => simpa using hm i (by simpa using hi)
theorem free_one {g left : List (List Int)} (hg : rowsB g = true) (hl : Left g left) (hne : left ≠ []) : ∃ k, k < left.length ∧ freeB g left k = true := by
  obtain ⟨k, hk, hm⟩ := least_of (fun G : List Int => (reachL g (G.head?.getD 0)).length) left hne
  refine ⟨k, hk, freeB_yes ?_⟩
  intro p hp i hi hik n hn hpn
  rw [List.getElem?_eq_getElem hk] at hp
  rw [List.getElem?_eq_getElem hi] at hn
  have hp : p ∈ left[k] := hp
  have hn : n ∈ left[i] := hn
  obtain ⟨a, ha, ea⟩ := hl.1 left[k] (List.getElem_mem hk)
  obtain ⟨b, hb, eb⟩ := hl.1 left[i] (List.getElem_mem hi)
  have hmi := hm i hi
  rw [ea] at hp
  rw [eb] at hn
  have hpi := groupL_in hg ha hp
  have hni := groupL_in hg hb hn
  -- the group's own first point
  have first : ∀ (c : Int) (hc : 0 ≤ c ∧ c < (g.length : Int)) (x : Int), x ∈ groupL g c → (reachL g ((groupL g c).head?.getD 0)).length = (reachL g x).length := by
    intro c hc x hx
    obtain ⟨y, hy⟩ : ∃ y, (groupL g c).head? = some y := by
      cases hG : groupL g c with
      | nil => rw [hG] at hx; simp at hx
      | cons y l => exact ⟨y, rfl⟩
    rw [hy]
    have hym : y ∈ groupL g c := List.mem_of_mem_head? (by rw [hy]; exact rfl)
    obtain ⟨x1, x2⟩ := (groupL_mem hg hc x).1 hx
    obtain ⟨y1, y2⟩ := (groupL_mem hg hc y).1 hym
    have hyi := groupL_in hg hc hym
    have hxi := groupL_in hg hc hx
    have e : reachL g y = reachL g x := rises_ext (reachL_rises g y) (reachL_rises g x) (fun z => by
      rw [reachL_mem hg hyi, reachL_mem hg hxi]
      exact ⟨fun hz => (x2.trans y1).trans hz, fun hz => (y2.trans x1).trans hz⟩)
    show (reachL g y).length = (reachL g x).length
    rw [e]
  have e1 := first a ha p hp
  have e2 := first b hb n hn
  simp only [ea, eb] at hmi
  rw [e1, e2] at hmi
  have hpr : Reach g p n := Reach.self.step hpn
  by_cases hr : Reach g n p
  · -- then both lie in one group
    have hnp : n ∈ groupL g p := (groupL_mem hg hpi n).2 ⟨hpr, hr⟩
    rw [groupL_same hg ha hp] at hnp
    have hd := List.pairwise_iff_getElem.1 hl.2
    rcases Nat.lt_or_ge i k with hlt | hge
    · exact hd i k hi hk hlt n (by rw [eb]; exact hn) (by rw [ea]; exact hnp)
    · exact hd k i hk hi (by omega) n (by rw [ea]; exact hnp) (by rw [eb]; exact hn)
  · have := reach_less hg hpi hpr hr
    omega
def pickC (g left : List (List Int)) : Option Nat := (List.range left.length).find? (freeB g left)
theorem pickC_some {g left : List (List Int)} (hg : rowsB g = true) (hl : Left g left) (hne : left ≠ []) : ∃ k, pickC g left = some k ∧ k < left.length := by
  obtain ⟨k, hk, hf⟩ := free_one hg hl hne
  cases h : pickC g left with
  | none => exact absurd hf (List.find?_eq_none.1 h k (List.mem_range.2 hk))
  | some j => exact ⟨j, rfl, List.mem_range.1 (List.mem_of_find?_eq_some h)⟩
theorem Left.erase {g left : List (List Int)} (h : Left g left) (k : Nat) : Left g (left.eraseIdx k) :=
  ⟨fun G hG => h.1 G ((List.eraseIdx_sublist _ _).subset hG), h.2.sublist (List.eraseIdx_sublist _ _)⟩
def compsC (g : List (List Int)) : Nat → List (List Int) → List (List Int)
  | 0, _ => []
  | f + 1, left => match pickC g left with
    | none => []
    | some k => (left[k]?.getD []) :: compsC g f (left.eraseIdx k)
noncomputable def compsL (g : List (List Int)) : List (List Int) := compsC g (groupsL g).length (groupsL g)
end Go.Proofs.YtcpmfcigciknlaaGreat

namespace Go.Proofs.YtcpmfcigciknlaaGreat
open Go.RowKit
set_option linter.unusedVariables false
theorem erase_map {α β : Type} (f : α → β) : ∀ (l : List α) (k : Nat), (l.eraseIdx k).map f = (l.map f).eraseIdx k
  | [], k => by simp
  | x :: l, 0 => by simp
  | x :: l, k + 1 => by simp [erase_map f l k]
theorem perm_erase {α : Type} : ∀ (l : List α) (k : Nat) (h : k < l.length), (l[k] :: l.eraseIdx k).Perm l
  | x :: l, 0, _ => by simp
  | x :: l, k + 1, h => by
    have h' : k < l.length := by simpa using h
    have := perm_erase l k h'
    simp only [List.getElem_cons_succ, List.eraseIdx_cons_succ]
    exact (List.Perm.swap x _ _).trans (List.Perm.cons x this)
def pickL (L : List (List Int)) (is : List Nat) : List (List Int) := is.map fun i => L[i]?.getD []
theorem pickL_range (L : List (List Int)) : pickL L (List.range L.length) = L := by
  unfold pickL
  apply List.ext_getElem
  · simp
  · intro i h1 h2
    simp [List.getElem?_eq_getElem h2]
theorem pickL_erase (L : List (List Int)) (is : List Nat) (k : Nat) : pickL L (is.eraseIdx k) = (pickL L is).eraseIdx k := by
  unfold pickL
  exact erase_map _ _ _
theorem pickL_at {L : List (List Int)} {is : List Nat} {k i : Nat} (h : is[k]? = some i) : (pickL L is)[k]? = some (L[i]?.getD []) := by
  unfold pickL
  rw [List.getElem?_map, h]; rfl
structure CompS (g : List (List Int)) (isO isL : List Nat) : Prop where
  nodup : (isO ++ isL).Nodup
  bound : ∀ i ∈ isO ++ isL, i < (groupsL g).length
  left : Left g (pickL (groupsL g) isL)
  told : pickL (groupsL g) isO ++ compsC g isL.length (pickL (groupsL g) isL) = compsL g
theorem CompS.start {g : List (List Int)} (hg : rowsB g = true) : CompS g [] (List.range (groupsL g).length) := by
  refine ⟨by simpa using List.nodup_range, by simp, ?_, ?_⟩
  · rw [pickL_range]; exact left_groups hg
  · rw [pickL_range, List.length_range]; rfl
theorem CompS.next {g : List (List Int)} {isO isL : List Nat} (h : CompS g isO isL) {k i : Nat} (hk : isL[k]? = some i) (hp : pickC g (pickL (groupsL g) isL) = some k) : CompS g (isO ++ [i]) (isL.eraseIdx k) := by
  have hlt : k < isL.length := (List.getElem?_eq_some_iff.1 hk).1
  have hperm : (i :: isL.eraseIdx k).Perm isL := by
    obtain ⟨h1, h2⟩ := List.getElem?_eq_some_iff.1 hk
    have := perm_erase isL k h1
    rwa [h2] at this
  have hp2 : ((isO ++ [i]) ++ isL.eraseIdx k).Perm (isO ++ isL) := by
    rw [List.append_assoc]
    exact List.Perm.append_left isO hperm
  refine ⟨hp2.nodup_iff.2 h.nodup, fun j hj => h.bound j (hp2.mem_iff.1 hj), ?_, ?_⟩
  · rw [pickL_erase]; exact h.left.erase k
  · have ht := h.told
    have hl : isL.length = (isL.eraseIdx k).length + 1 := by rw [List.length_eraseIdx]; simp [hlt]; omega
    rw [hl] at ht
    unfold compsC at ht
    rw [hp] at ht
    simp only at ht
    rw [pickL_at hk, Option.getD_some, ← pickL_erase] at ht
    rw [← ht]
    simp [pickL]
theorem CompS.done {g : List (List Int)} {isO : List Nat} (h : CompS g isO []) : pickL (groupsL g) isO = compsL g := by
  have := h.told
  simpa [compsC] using this

/-! ### Whether a group is free -/
def freeN (g left : List (List Int)) (k : Nat) (p : Int) (i : Nat) : Bool := (left[i]?.getD []).all fun n => decide (i = k) || !hasI (rowG g p) n
theorem freeB_eq (g left : List (List Int)) (k : Nat) : freeB g left k = (left[k]?.getD []).all fun p => (List.range left.length).all fun i => freeN g left k p i := by
  unfold freeB freeN
  congr 1
  funext p
  congr 1
  funext i
  by_cases e : i = k
  · simp [e]
  · have hh : ∀ n, hasI (rowG g p) n = decide (n ∈ rowG g p) := fun n => by rw [Bool.eq_iff_iff]; simp [hasI]
    simp [e, hh]
theorem pickC_at {g left : List (List Int)} {k : Nat} (hk : k < left.length) (h : freeB g left k = true) (hb : ∀ j, j < k → freeB g left j = false) : pickC g left = some k := by
  unfold pickC
  rw [List.find?_eq_some_iff_getElem]
  refine ⟨h, k, by simpa using hk, by simp, fun j hj => ?_⟩
  simp [hb j hj]
theorem pickC_must {g left : List (List Int)} (hg : rowsB g = true) (hl : Left g left) (hne : left ≠ []) (hb : ∀ j, j < left.length → freeB g left j = false) : False := by
  obtain ⟨k, hk, hf⟩ := free_one hg hl hne
  rw [hb k hk] at hf
  cases hf
end Go.Proofs.YtcpmfcigciknlaaGreat

namespace Go.Proofs.YtcpmfcigciknlaaGreat
open Go.RowKit
set_option linter.unusedVariables false
structure Told (g L : List (List Int)) : Prop where
  is : ∀ G ∈ L, ∃ k : Nat, k < g.length ∧ G = groupL g (k : Int)
  all : ∀ q : Nat, q < g.length → ∃ G ∈ L, (q : Int) ∈ G
  apart : L.Pairwise (fun G H => ∀ x, x ∈ G → x ∉ H)
  len : L.length ≤ g.length
def hdI (G : List Int) : Int := G.head?.getD 0
theorem hdI_mem {G : List Int} {x : Int} (h : x ∈ G) : hdI G ∈ G := by
  cases G with
  | nil => simp at h
  | cons a t => simp [hdI]
theorem groupsL_keys (g : List (List Int)) : (groupsL g).Pairwise (fun G H => hdI G < hdI H) := by
  unfold groupsL
  rw [List.pairwise_map]
  refine ((range_rises g.length).filter _).imp_of_mem ?_
  intro a b ha hb hab
  have h1 := (List.mem_filter.1 ha).2
  have h2 := (List.mem_filter.1 hb).2
  have h1 : (groupL g a).head? = some a := by simpa using h1
  have h2 : (groupL g b).head? = some b := by simpa using h2
  unfold hdI
  rw [h1, h2]
  exact hab
theorem groupsL_mem {g : List (List Int)} (hg : rowsB g = true) (G : List Int) : G ∈ groupsL g ↔ ∃ k : Nat, k < g.length ∧ G = groupL g (k : Int) := by
  constructor
  · intro h
    obtain ⟨k, hk, e⟩ := (left_groups hg).1 G h
    exact ⟨k.toNat, by omega, by rw [e]; congr 1; omega⟩
  · rintro ⟨k, hk, rfl⟩
    have hk' : 0 ≤ (k : Int) ∧ (k : Int) < g.length := by omega
    have hs := groupL_self hg hk'
    obtain ⟨h, t, e⟩ : ∃ h t, groupL g (k : Int) = h :: t := by
      cases e : groupL g (k : Int) with
      | nil => rw [e] at hs; simp at hs
      | cons h t => exact ⟨h, t, rfl⟩
    have hm : h ∈ groupL g (k : Int) := by rw [e]; simp
    have hb := groupL_in hg hk' hm
    have hsame := groupL_same hg hk' hm
    unfold groupsL
    refine List.mem_map.2 ⟨h, List.mem_filter.2 ⟨?_, ?_⟩, hsame⟩
    · exact List.mem_map.2 ⟨h.toNat, List.mem_range.2 (by omega), by omega⟩
    · rw [decide_eq_true_iff, hsame, e]; rfl
theorem Told.mem {g L : List (List Int)} (hg : rowsB g = true) (h : Told g L) (G : List Int) : G ∈ L ↔ G ∈ groupsL g := by
  rw [groupsL_mem hg]
  constructor
  · exact h.is G
  · rintro ⟨k, hk, rfl⟩
    obtain ⟨H, hH, hkH⟩ := h.all k hk
    obtain ⟨q, hq, e⟩ := h.is H hH
    rw [e] at hkH
    have := groupL_same hg (by omega) hkH
    rw [this, ← e]; exact hH
theorem keys_ext {α : Type} (key : α → Int) : ∀ {a b : List α}, a.Pairwise (fun x y => key x < key y) → b.Pairwise (fun x y => key x < key y) → (∀ x, x ∈ a ↔ x ∈ b) → a = b
  | [], [], _, _, _ => rfl
  | [], y :: b, _, _, h => by have := (h y).2 (by simp); simp at this
  | x :: a, [], _, _, h => by have := (h x).1 (by simp); simp at this
  | x :: a, y :: b, ha, hb, h => by
    have ha' := List.pairwise_cons.1 ha
    have hb' := List.pairwise_cons.1 hb
    have hxy : x = y := by
      have h1 := (h x).1 (by simp)
      have h2 := (h y).2 (by simp)
      rcases List.mem_cons.1 h1 with e | h1
      · exact e
      · rcases List.mem_cons.1 h2 with e | h2
        · exact e.symm
        · have := hb'.1 x h1; have := ha'.1 y h2; omega
    subst hxy
    have ht : a = b := keys_ext key ha'.2 hb'.2 (fun z => by
      constructor
      · intro hz
        rcases List.mem_cons.1 ((h z).1 (List.mem_cons_of_mem _ hz)) with e | k
        · have := ha'.1 z hz; rw [e] at this; omega
        · exact k
      · intro hz
        rcases List.mem_cons.1 ((h z).2 (List.mem_cons_of_mem _ hz)) with e | k
        · have := hb'.1 z hz; rw [e] at this; omega
        · exact k)
    rw [ht]
theorem cmpL_heads {G H : List Int} {x y : Int} (hx : x ∈ G) (hy : y ∈ H) (h : hdI H < hdI G) : cmpL H G < 0 := by
  cases G with
  | nil => simp at hx
  | cons a s =>
    cases H with
    | nil => simp at hy
    | cons b t =>
      simp only [hdI, List.head?_cons, Option.getD_some] at h
      have e : cmpI b a = -1 := by unfold cmpI; rw [if_pos h]
      simp only [cmpL, e]
      rw [if_neg (by decide)]; decide
theorem sorted_groups {g L X : List (List Int)} (hg : rowsB g = true) (T : Told g L) (hp : X.Perm L) (hs : X.Pairwise (fun G H => ¬ cmpL H G < 0)) : X = groupsL g := by
  have hap : X.Pairwise (fun G H => ∀ x, x ∈ G → x ∉ H) := (hp.pairwise_iff (fun {a b} h x h1 h2 => h x h2 h1)).2 T.apart
  have hne : ∀ G ∈ X, ∃ x, x ∈ G := fun G hG => by
    obtain ⟨k, hk, e⟩ := T.is G (hp.mem_iff.1 hG)
    exact ⟨k, by rw [e]; exact groupL_self hg (by omega)⟩
  refine keys_ext hdI ?_ (groupsL_keys g) (fun G => by rw [hp.mem_iff, T.mem hg])
  refine (hs.and hap).imp_of_mem ?_
  rintro G H hG hH ⟨h1, h2⟩
  obtain ⟨x, hx⟩ := hne G hG
  obtain ⟨y, hy⟩ := hne H hH
  have ha := hdI_mem hx
  have hb := hdI_mem hy
  rcases Int.lt_trichotomy (hdI G) (hdI H) with h | h | h
  · exact h
  · exact absurd hb (by rw [← h]; exact h2 _ ha)
  · exact absurd (cmpL_heads hx hy h) h1

/-! ### Which group is free, by what is told -/
def GMarks (g LL : List (List Int)) (tb : Nat → Bool) : Prop := ∀ q : Nat, q < g.length → (tb q = true ↔ ∀ G ∈ LL, (q : Int) ∉ G)
def isFreeB (g : List (List Int)) (G : List Int) (tb : Nat → Bool) : Bool := G.all fun p => (rowG g p).all fun o => tb o.toNat || hasI G o
theorem hasI_mem (l : List Int) (n : Int) : hasI l n = true ↔ n ∈ l := by simp [hasI]
theorem isFree_eq {g LL : List (List Int)} {tb : Nat → Bool} {k : Nat} {G : List Int} (hg : rowsB g = true) (hl : Left g LL) (M : GMarks g LL tb) (hk : LL[k]? = some G) : isFreeB g G tb = freeB g LL k := by
  have hklt : k < LL.length := (List.getElem?_eq_some_iff.1 hk).1
  have hkG : LL[k] = G := (List.getElem?_eq_some_iff.1 hk).2
  have hd := List.pairwise_iff_getElem.1 hl.2
  have hdis : ∀ (i : Nat) (hi : i < LL.length), i ≠ k → ∀ x ∈ LL[i], x ∉ G := fun i hi hik x hx hxG => by
    rcases Nat.lt_or_ge i k with h | h
    · exact hd i k hi hklt h x hx (by rw [hkG]; exact hxG)
    · exact hd k i hklt hi (by omega) x (by rw [hkG]; exact hxG) hx
  rw [Bool.eq_iff_iff]
  constructor
  · intro h
    refine freeB_yes (fun p hp i hi hik n hn hno => ?_)
    rw [hk, Option.getD_some] at hp
    rw [List.getElem?_eq_getElem hi, Option.getD_some] at hn
    have h1 := List.all_eq_true.1 (List.all_eq_true.1 h p hp) n hno
    have hnb := row_in hg hno
    rw [Bool.or_eq_true] at h1
    rcases h1 with h1 | h1
    · have := (M n.toNat (by omega)).1 h1 LL[i] (List.getElem_mem hi)
      rw [Int.toNat_of_nonneg hnb.1] at this
      exact this hn
    · exact hdis i hi hik n hn ((hasI_mem G n).1 h1)
  · intro h
    unfold isFreeB
    rw [List.all_eq_true]
    intro p hp
    rw [List.all_eq_true]
    intro o ho
    have hob := row_in hg ho
    rw [Bool.or_eq_true]
    cases ht : tb o.toNat with
    | true => exact .inl rfl
    | false =>
      right
      rw [hasI_mem]
      have h1 : ¬ ∀ H ∈ LL, ((o.toNat : Nat) : Int) ∉ H := fun e => by
        have := (M o.toNat (by omega)).2 e
        rw [ht] at this; cases this
      rw [Int.toNat_of_nonneg hob.1] at h1
      have ⟨H, h2⟩ := Classical.not_forall.1 h1
      have ⟨hH, h3⟩ := Classical.not_imp.1 h2
      have hoH := Classical.not_not.1 h3
      obtain ⟨i, hi, rfl⟩ := List.getElem_of_mem hH
      by_cases hik : i = k
      · subst hik; rw [← hkG]; exact hoH
      · exfalso
        unfold freeB at h
        rw [hk, Option.getD_some] at h
        have h4 := List.all_eq_true.1 (List.all_eq_true.1 h p hp) i (List.mem_range.2 hi)
        rw [List.getElem?_eq_getElem hi, Option.getD_some, Bool.or_eq_true] at h4
        rcases h4 with h4 | h4
        · exact hik (by simpa using h4)
        · have := List.all_eq_true.1 h4 o hoH
          simp [ho] at this
theorem GMarks.start {g : List (List Int)} (hg : rowsB g = true) : GMarks g (groupsL g) (fun _ => false) := by
  intro q hq
  simp only [Bool.false_eq_true, false_iff]
  intro h
  exact h _ ((groupsL_mem hg _).2 ⟨q, hq, rfl⟩) (groupL_self hg (by omega))
theorem mem_erase_or {α : Type} {l : List α} {k : Nat} {x : α} (hk : l[k]? = some x) {y : α} (h : y ∈ l) : y = x ∨ y ∈ l.eraseIdx k := by
  have hlt : k < l.length := (List.getElem?_eq_some_iff.1 hk).1
  have he : l[k] = x := (List.getElem?_eq_some_iff.1 hk).2
  have hp := perm_erase l k hlt
  rw [he] at hp
  have := hp.mem_iff.2 h
  simpa using this
theorem GMarks.next {g LL : List (List Int)} {tb tb' : Nat → Bool} {k : Nat} {G : List Int} (hl : Left g LL) (M : GMarks g LL tb) (hk : LL[k]? = some G) (ht : ∀ q : Nat, q < g.length → tb' q = (tb q || hasI G (q : Int))) : GMarks g (LL.eraseIdx k) tb' := by
  intro q hq
  rw [ht q hq, Bool.or_eq_true, hasI_mem, M q hq]
  have hlt : k < LL.length := (List.getElem?_eq_some_iff.1 hk).1
  have he : LL[k] = G := (List.getElem?_eq_some_iff.1 hk).2
  constructor
  · rintro (h | h) H hH
    · exact h H ((List.eraseIdx_sublist _ _).subset hH)
    · intro hqH
      have hp := perm_erase LL k hlt
      have hpw : (LL[k] :: LL.eraseIdx k).Pairwise (fun G H => ∀ x, x ∈ G → x ∉ H) := (hp.pairwise_iff (fun {a b} h x h1 h2 => h x h2 h1)).2 hl.2
      exact (List.pairwise_cons.1 hpw).1 H hH q (by rw [he]; exact h) hqH
  · intro h
    by_cases hG : (q : Int) ∈ G
    · exact .inr hG
    · refine .inl fun H hH => ?_
      rcases mem_erase_or hk hH with e | e
      · rw [e]; exact hG
      · exact h H e
end Go.Proofs.YtcpmfcigciknlaaGreat

namespace Go.Proofs.YtcpmfcigciknlaaGreat
open Go.RowKit
set_option linter.unusedVariables false
end Go.Proofs.YtcpmfcigciknlaaGreat

namespace Go.Proofs.YtcpmfcigciknlaaGreat
open Go.RowKit
set_option linter.unusedVariables false
theorem goodG_of {g : List (List Int)} (h : goodG g = true) : rowsB g = true ∧ g.length ≤ 40 := by
  unfold goodG at h
  simpa using h
theorem goodG_not {g : List (List Int)} {k : Nat} (hk : k < g.length) (h : riseB g[k] 0 ((g.length : Int) - 1) = false) : goodG g = false := by
  cases e : goodG g with
  | false => rfl
  | true =>
    unfold goodG rowsB at e
    rw [Bool.and_eq_true] at e
    have := List.all_eq_true.1 e.1 _ (List.getElem_mem hk)
    rw [h] at this; cases this
theorem goodG_all {g : List (List Int)} (h : (g.take g.length).all (fun l => riseB l 0 ((g.length : Int) - 1)) = true) : goodG g = decide (g.length ≤ 40) := by
  rw [List.take_length] at h
  unfold goodG rowsB
  rw [h]; rfl
theorem allT_succ {α : Type} {L : List α} {k : Nat} (h : k < L.length) (p : α → Bool) (ht : (L.take k).all p = true) (hp : p L[k] = true) : (L.take (k + 1)).all p = true := by
  rw [List.take_add_one, List.getElem?_eq_getElem h, List.all_append, ht]
  simpa using hp
end Go.Proofs.YtcpmfcigciknlaaGreat

namespace Go.Proofs.YtcpmfcigciknlaaGreat
open Go.RowKit
set_option linter.unusedVariables false
def OneInts (l : List Int) (w : World) (e : Ending) (w' : World) : Prop := ∃ v, e = .returned v ∧ Fresh w.heap.size w' v l ∧ Ext w w'
theorem hasI_iff (l : List Int) (n : Int) : hasI l n = true ↔ n ∈ l := by simp [hasI]
def Pair (w wr : World) (vm vo : Value) (met out : List Int) : Prop :=
  Fresh w.heap.size wr vm met ∧ Fresh w.heap.size wr vo out ∧ (vo.ownBlock = none ∨ vo.ownBlock ≠ vm.ownBlock) ∧ Ext w wr
theorem Pair.ext {w wr w1 : World} {vm vo : Value} {met out : List Int} (h : Pair w wr vm vo met out) (x : Ext wr w1) : Pair w w1 vm vo met out :=
  ⟨h.1.ext x, h.2.1.ext x, h.2.2.1, h.2.2.2.trans x⟩
theorem Pair.add {w wr w1 w2 : World} {vm vo v1 v2 : Value} {met out : List Int} {n : Int} (h : Pair w wr vm vo met out)
    (f1 : Fresh w.heap.size w1 v1 (met ++ [n])) (x1 : Ext w w1) (f2 : Fresh w1.heap.size w2 v2 (putI out n)) (x2 : Ext w1 w2) : Pair w w2 v1 v2 (met ++ [n]) (putI out n) :=
  ⟨f1.ext x2, f2.more x1.size, f1.apart f2 (Nat.le_refl _), x1.trans x2⟩
theorem pair_start (w : World) (k : Int) : Pair w ((w.alloc (.cells #[.int .i64 k] 3)).alloc (.cells #[.int .i64 k] 3)) (.slice (some ⟨w.heap.size + 1, 0, none⟩) 1 1) (.slice (some ⟨w.heap.size, 0, none⟩) 1 1) [k] [k] := by
  have e : (w.alloc (.cells #[.int .i64 k] 3)).heap.size = w.heap.size + 1 := by simp
  refine ⟨fresh_lit2 w _ [k] 1 _ rfl rfl (by simp), ?_, .inr ?_, (Ext.alloc (Ext.refl _) _).alloc _⟩
  · exact (fresh_lit w [k] _ _ rfl (Nat.le_refl _) (by simp)).ext (Ext.alloc (Ext.refl _) _)
  · simp [Value.ownBlock]
set_option maxHeartbeats 4000000 in
theorem l5Reached_any (v : Value) (g : List (List Int)) (k : Nat) (w : World) (hv : Intss w v g) (hg : rowsB g = true) (hs : g.length ≤ 1048576) (hk : k < g.length) :
    Calls Tryz.prog 207 #[v, .int .i64 k] w (OneInts (reachL g k) w) := by
  have HV := Lib.hid hv
  have HG := Lib.hid hg
  have HK := Lib.hid hk
  have HS := Lib.hid hs
  have hki : 0 ≤ (k : Int) ∧ (k : Int) < g.length := by omega
  have HKI := Lib.hid hki
  obtain ⟨av, cv, rfl, hlv, hcap, hcv⟩ := hv
  clear hg hk hs hki hlv hcap
  have hst := pair_start w (k : Int)
  have HST := Lib.hid hst
  clear hst
  go_enter Tryz.func207, Tryz.ntmps207
  go_wp2
  go_loopw [5, 6, 7, 9] (fun vo vm i _ wr => ∃ (j : Nat) (met out : List Int), i = .int .i64 j ∧ j ≤ met.length ∧ Srch g k j met out ∧ Pair w wr vm vo met out) (fun _ _ i _ _ => g.length - (intOf i).toNat)
  case atStart => exact ⟨0, [(k : Int)], [(k : Int)], rfl, by simp, Srch.start g k, HST.out⟩
  case round =>
    obtain ⟨j, met, out, rfl, hj, hS, hP⟩ := hrel
    have hm := hS.small HG.out HKI.out
    by_cases hlt : j < met.length
    · have hin := reach_in HG.out HKI.out (hS.reach _ (List.getElem_mem hlt))
      obtain ⟨q, hq⟩ : ∃ q : Nat, met[j] = (q : Int) := ⟨met[j].toNat, by omega⟩
      have hqg : q < g.length := by omega
      have hlook := hS.look hlt
      rw [hq] at hlook
      obtain ⟨am, cm, rfl, hlm, hcm, dm⟩ := hP.1.ints
      obtain ⟨bm, om, rfl, em⟩ := dm (by omega)
      have gm := em j hlt
      rw [List.getElem?_eq_getElem hlt, Option.getD_some, hq] at gm
      obtain ⟨bg, og, rfl, dg⟩ := hcv (by omega)
      obtain ⟨x, hx1, ix⟩ := dg q hqg
      rw [List.getElem?_eq_getElem hqg, Option.getD_some] at ix
      have gg := hP.2.2.2.cell hx1
      have hrow := rowG_at hqg
      obtain ⟨ax, cx, rfl, hlx, hcx, dx⟩ := ix
      have HR := Lib.hid hrow
      have HP := Lib.hid hP
      have HL := Lib.hid hlook
      have HC := Lib.hid hcv
      have DX := Lib.hid dx
      unfold maxLen at hlx
      clear hrow hP hlook hcv dm em dg hx1 dx hcx hlm hcm hS hin hq
      go_wp2
      go_loopw [5, 6, 9, 28] (fun vo vm _ i w2 => ∃ (t : Nat) (met' out' : List Int), i = .int .i64 t ∧ t ≤ g[q].length ∧ SrchAt g k j t q met' out' ∧ Pair w w2 vm vo met' out') (fun _ _ _ i _ => g[q].length - (intOf i).toNat)
      case atStart => exact ⟨0, met, out, rfl, Nat.zero_le _, HL.out, HP.out⟩
      case round =>
        obtain ⟨t, met', out', rfl, ht, hA, hP'⟩ := hrel
        by_cases hti : t < g[q].length
        · obtain ⟨bx, ox, rfl, ex⟩ := DX.out (by omega)
          have gx := hP'.2.2.2.cell (ex t hti)
          rw [List.getElem?_eq_getElem hti, Option.getD_some] at gx
          have htr : t < (rowG g q).length := by rw [HR.out]; exact hti
          have hn : (rowG g q)[t] = g[q][t] := by simp only [HR.out]
          have hm' := hA.1.small HG.out HKI.out
          have hl' := hA.1.len
          obtain ⟨n, hnn⟩ : ∃ n, n = g[q][t] := ⟨_, rfl⟩
          rw [← hnn] at gx hn
          have HN := Lib.hid hn
          have HA := Lib.hid hA
          have HP2 := Lib.hid hP'
          have HH := Lib.hid hnn
          clear ex hn hA hP' hnn
          go_wp2_with fail
          refine (l1Has_any _ met' n _ HP2.out.1.ints).mono ?_
          rintro e w3 ⟨rfl, x3⟩
          have HP3 := Lib.hid (HP2.out.ext x3)
          clear x3 gx HP2
          cases hh : hasI met' n with
          | true =>
            have HM := Lib.hid ((hasI_iff _ _).1 hh)
            go_wp2
            go_roundw
            case rel => exact ⟨t + 1, met', out', by go_num, by omega, HA.out.known htr (by rw [HN.out]; exact HM.out), HP3.out⟩
            case measure => simp [intOf]; omega
          | false =>
            have hno : n ∉ met' := fun h => by rw [(hasI_iff _ _).2 h] at hh; cases hh
            have HM := Lib.hid hno
            have hb1 : met'.length ≤ 1099511627776 := by have := HS.out; omega
            have hb2 : out'.length ≤ 1048576 := by have := HS.out; omega
            have HB := Lib.hid (And.intro hb1 hb2)
            clear hno hb1 hb2
            go_wp2_with (at_builtin; refine wpList_push rfl _ _ rfl w.heap.size _ met' n rfl (HP3.out.1.ext (Ext.alloc (Ext.refl _) _)) ⟨w3.heap.size, 0, none⟩ 1 rfl (cell_alloc_one _ _ _) HB.out.1 (size_alloc_le HP3.out.2.2.2.size) ?_)
            intro v4 w4 f4 g4 k4
            have e4 : Ext w w4 := k4 w (HP3.out.2.2.2.alloc _) (Nat.le_refl _)
            have o4 := (HP3.out.2.1.ext (Ext.alloc (Ext.refl _) _)).touch g4 HP3.out.2.2.1
            have F4 := Lib.hid f4
            have E4 := Lib.hid e4
            have O4 := Lib.hid o4
            clear f4 g4 k4 e4 o4
            go_wp2_with fail
            refine (l1Put_any _ out' n _ O4.out.ints HB.out.2).mono ?_
            rintro e w5 ⟨v5, rfl, x5, h5⟩
            have hno : n ∉ out' := fun h => HM.out ((HA.out.1.same n).1 h)
            have f5 : Fresh w4.heap.size w5 v5 (putI out' n) := by
              rcases h5 with ⟨_, h5⟩ | h5
              · have := putI_len hno
                rw [h5] at this
                omega
              · exact h5
            have hP5 := HP3.out.add F4.out E4.out f5 x5
            have HP5 := Lib.hid hP5
            clear h5 f5 hP5 x5 hno
            go_wp2
            go_roundw
            case rel =>
              have ha := HA.out.add htr (by rw [HN.out]; exact HM.out)
              rw [HN.out] at ha
              exact ⟨t + 1, met' ++ [n], putI out' n, by go_num, by omega, ha, HP5.out⟩
            case measure => simp [intOf]; omega
        · have htt : (rowG g q).length ≤ t := by rw [HR.out]; omega
          have hN := hA.next htt
          have hm' := hA.1.small HG.out HKI.out
          have hj' : j < met'.length := (List.getElem?_eq_some_iff.1 hA.2.1).1
          have HN := Lib.hid hN
          have HP2 := Lib.hid hP'
          have hb : j < 1048576 := by have := HS.out; omega
          clear hN hP' hA htt
          go_wp2
          go_roundw
          case rel => exact ⟨j + 1, met', out', by go_num, by omega, HN.out, HP2.out⟩
          case measure => simp [intOf]; omega
    · obtain rfl : j = met.length := by omega
      have hd := hS.done HG.out HKI.out (Nat.le_refl _)
      obtain ⟨am, cm, rfl, hlm, hcm, dm⟩ := hP.1.ints
      have HD := Lib.hid hd
      have HP := Lib.hid hP
      clear hcv dm hd hP hS hcm
      go_wp2
      go_ret
      exact ⟨_, rfl, HD.out ▸ HP.out.2.1, HP.out.2.2.2⟩
end Go.Proofs.YtcpmfcigciknlaaGreat
