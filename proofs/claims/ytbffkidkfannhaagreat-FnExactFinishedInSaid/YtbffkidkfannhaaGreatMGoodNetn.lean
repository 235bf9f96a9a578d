/- Texts of this proof, part n: words, plain facts, contracts. -/
import Derived.Test.YtbffkidkfannhaaGreatMGoodNeta
import Derived.Test.YtbffkidkfannhaaGreatMGoodNetc
import Derived.Deep.RegionLaw
import Derived.Deep.AppendLies
import Derived.Test.YtbffkidkfannhaaGreatMGoodNetm
import Derived.Test.YtbffkidkfannhaaGreatMGoodNetd
import Derived.Test.YtbffkidkfannhaaGreatMGoodNetg
import Derived.Test.YtbffkidkfannhaaGreatMGoodNeth
import Derived.Test.YtbffkidkfannhaaGreatMGoodNetf

namespace Go.Proofs.YtbffkidkfannhaaGreat
open Go.RowKit
set_option linter.unusedVariables false

theorem step_push {ops : Array Oper} {o : Oper} {a : Act} {w : World} {K : Act → World → Prop} {Q : Exit → Act → World → Prop} {E : Prop} (hgd : o.guard = none) (s x : Operand)
    (ho : o.op = .call { callee := .builtin .append, args := #[s, x], argTypes := #[27, 27] })
    (B : Nat) (v : Value) (l : List Int) (n : Int) (hs : a.eval s = v) (hf : Fresh B w v l) (ad : Addr) (c : Nat) (hx : a.eval x = .slice (some ad) 1 c)
    (hc : w.cell? ad = some (.int .i64 n)) (m : Nat) (hm : l.length = m) (hl : m ≤ 1099511627776) (hB : B ≤ w.heap.size)
    (h : ∀ ao cap w', Fresh B w' (.slice ao (m + 1) cap) (l ++ [n]) → w.grownBy w' v.ownBlock → K (a.put o.dst (.slice ao (m + 1) cap)) w') : if Region.wanted o (yielded ops a.tmps) = true then Oper.wp Tryz.prog o a w K Q else E := by
  obtain ⟨i0, hi, hz0, hz1, hz2⟩ := info_parts Tryz.infoInt
  have hw : Region.wanted o (yielded ops a.tmps) = true := by simp [Region.wanted, hgd]
  rw [if_pos hw]
  refine wp_append_own w s x 27 ho B 3 i0 (.int .i64 0) 1 8 Tryz.underlying27 hi hz0 hz1 hz2 rfl (by decide) v l.length _ hs hf ad 1 c [.int .i64 n] hx rfl ?_ ?_ ?_ ?_ hB ?_
  · intro j u hj
    match j, hj with
    | 0, hj => simp at hj; subst hj; simpa [Addr.add] using hc
  · intro u hu; simp at hu; subst hu; rfl
  · unfold maxLen; omega
  · omega
  · intro v' w' ho' hg _
    have hf' : Fresh B w' v' (l ++ [n]) := by
      unfold Fresh
      rw [List.map_append, List.length_append]; exact ho'
    obtain ⟨ao, cap, rfl⟩ := hf'.form
    have e : (l ++ [n]).length = m + 1 := by simp [hm]
    rw [e] at hf' ⊢
    exact h ao cap w' hf' hg

theorem far_cell {B b o : Nat} {wr W W' : World} {v x : Value} {l : List Int} (f : Fresh B wr v l) (e : Ext wr W) (t : W.grownBy W' v.ownBlock) (hc : wr.cell? ⟨b, o, none⟩ = some x) (hb : b < B) : W'.cell? ⟨b, o, none⟩ = some x := cell_marked f t (e.cell hc) (.inl hb)
theorem far_free {B b o : Nat} {wr W W' : World} {v x : Value} {l : List Int} (f : Fresh B wr v l) (e : Ext wr W) (t : W.grownBy W' v.ownBlock) (hc : wr.cell? ⟨b, 0, none⟩ = some x) (hz : wr.frozen? ⟨b, o, none⟩ = false) (hb : b < B) : W'.frozen? ⟨b, o, none⟩ = false := by
  have hlt : b < wr.heap.size := World.block_lt_of_cell? wr _ hc
  have h := World.grownBy.frozen_far t ⟨b, o, none⟩ (Nat.lt_of_lt_of_le hlt e.size) (fun e' => by
    have := (World.ownsRow.lt f b e'.symm).1
    omega)
  rw [h]
  exact e.frozen hlt hz
theorem far_attr {B b : Nat} {wr W W' : World} {v u : Value} {s : Int} {l : List Int} (f : Fresh B wr v l) (e : Ext wr W) (t : W.grownBy W' v.ownBlock) (h : AttrAt wr b s u) (hb : b < B) : AttrAt W' b s u := ⟨far_cell f e t h.1 hb, far_cell f e t h.2 hb⟩
theorem far_open {B b : Nat} {wr W W' : World} {v u : Value} {s : Int} {l : List Int} (f : Fresh B wr v l) (e : Ext wr W) (t : W.grownBy W' v.ownBlock) (h : OpenAt wr b s u) (hb : b < B) : OpenAt W' b s u :=
  ⟨far_attr f e t h.1 hb, far_free f e t h.1.1 h.2.1 hb, far_free f e t h.1.1 h.2.2 hb⟩
theorem cell_other {W : World} {g o : Nat} {a : Addr} {z u : Value} (hne : a.block ≠ g) (h : W.cell? a = some u) : (W.setCell ⟨g, o, none⟩ z).cell? a = some u := by
  have hh := Below.heap_setCell W ⟨g, o, none⟩ z a.block hne
  have e : (W.setCell ⟨g, o, none⟩ z).cell? a = W.cell? a := by unfold World.cell?; rw [hh]
  rw [e]; exact h
theorem AttrAt.other {w : World} {b g o : Nat} {s : Int} {u z : Value} (h : AttrAt w b s u) (hne : b ≠ g) : AttrAt (w.setCell ⟨g, o, none⟩ z) b s u := ⟨cell_other hne h.1, cell_other hne h.2⟩
theorem OpenAt.other {w : World} {b g o : Nat} {s : Int} {u z : Value} (h : OpenAt w b s u) (hne : b ≠ g) : OpenAt (w.setCell ⟨g, o, none⟩ z) b s u :=
  ⟨h.1.other hne, by rw [World.frozen?_setCell]; exact h.2.1, by rw [World.frozen?_setCell]; exact h.2.2⟩
theorem OpenAt.set1 {w : World} {b : Nat} {s : Int} {u z : Value} (h : OpenAt w b s u) : OpenAt (w.setCell ⟨b, 1, none⟩ z) b s z := by
  obtain ⟨⟨c0, c1⟩, z0, z1⟩ := h
  refine ⟨⟨?_, ?_⟩, ?_, ?_⟩ <;> go_simp

end Go.Proofs.YtbffkidkfannhaaGreat

namespace Go.Proofs.YtbffkidkfannhaaGreat
open Go.RowKit
set_option linter.unusedVariables false

/-- The greater of both. -/
def mo (x y : Int) : Int := if y < x then x else y
theorem l1Most_any (x y : Int) (w : World) :
    Calls Tryz.prog 48 #[.int .i64 x, .int .i64 y] w fun e w' => e = .returned (.int .i64 (mo x y)) ∧ w = w' := by
  by_cases h : y < x
  · have e : mo x y = x := by unfold mo; rw [if_pos h]
    rw [e]
    go_enter Tryz.func48, Tryz.ntmps48
    go_wp2
    go_ret
    exact ⟨rfl, rfl⟩
  · have e : mo x y = y := by unfold mo; rw [if_neg h]
    rw [e]
    go_enter Tryz.func48, Tryz.ntmps48
    go_wp2
    go_ret
    exact ⟨rfl, rfl⟩

theorem four_at (w : World) (T : TypeId) (s t p q : Int) (u v y z : Value) :
    OpenAt ((((w.alloc (.cells #[.int .i64 s, u] T)).alloc (.cells #[.int .i64 t, v] T)).alloc (.cells #[.int .i64 p, y] T)).alloc (.cells #[.int .i64 q, z] T)) (w.heap.size + 1 + 1 + 1) q z ∧
    OpenAt ((((w.alloc (.cells #[.int .i64 s, u] T)).alloc (.cells #[.int .i64 t, v] T)).alloc (.cells #[.int .i64 p, y] T)).alloc (.cells #[.int .i64 q, z] T)) (w.heap.size + 1 + 1) p y ∧
    AttrAt ((((w.alloc (.cells #[.int .i64 s, u] T)).alloc (.cells #[.int .i64 t, v] T)).alloc (.cells #[.int .i64 p, y] T)).alloc (.cells #[.int .i64 q, z] T)) w.heap.size s u ∧
    AttrAt ((((w.alloc (.cells #[.int .i64 s, u] T)).alloc (.cells #[.int .i64 t, v] T)).alloc (.cells #[.int .i64 p, y] T)).alloc (.cells #[.int .i64 q, z] T)) (w.heap.size + 1) t v := by
  refine ⟨⟨⟨?_, ?_⟩, ?_, ?_⟩, ⟨⟨?_, ?_⟩, ?_, ?_⟩, ⟨?_, ?_⟩, ?_, ?_⟩ <;> go_simp
theorem Ext.alloc4 (w : World) (a b c d : Obj) : Ext w ((((w.alloc a).alloc b).alloc c).alloc d) := ((((Ext.refl w).alloc a).alloc b).alloc c).alloc d

theorem keepJ {W W' : World} {a b c d : Addr} {u v r s : Value} (x : Ext W W') (h : W.cell? a = some u ∧ W.cell? b = some v ∧ W.cell? c = some r ∧ W.cell? d = some s) : W'.cell? a = some u ∧ W'.cell? b = some v ∧ W'.cell? c = some r ∧ W'.cell? d = some s :=
  ⟨x.cell h.1, x.cell h.2.1, x.cell h.2.2.1, x.cell h.2.2.2⟩
theorem keepJF {B : Nat} {wr W W' : World} {v0 : Value} {l : List Int} (f : Fresh B wr v0 l) (t : W.grownBy W' v0.ownBlock) {a b c d : Addr} {u v r s : Value} (ha : a.block < B) (hb : b.block < B) (hc : c.block < B) (hd : d.block < B)
    (h : W.cell? a = some u ∧ W.cell? b = some v ∧ W.cell? c = some r ∧ W.cell? d = some s) : W'.cell? a = some u ∧ W'.cell? b = some v ∧ W'.cell? c = some r ∧ W'.cell? d = some s := by
  have ne : ∀ q : Addr, q.block < B → some q.block ≠ v0.ownBlock := fun q hq e => by
    have := (World.ownsRow.lt f q.block e.symm).1
    omega
  exact ⟨World.grownBy.cell t h.1 (ne a ha), World.grownBy.cell t h.2.1 (ne b hb), World.grownBy.cell t h.2.2.1 (ne c hc), World.grownBy.cell t h.2.2.2 (ne d hd)⟩
theorem keepJS {W : World} {g o : Nat} {z : Value} {a b c d : Addr} {u v r s : Value} (ha : a.block ≠ g) (hb : b.block ≠ g) (hc : c.block ≠ g) (hd : d.block ≠ g)
    (h : W.cell? a = some u ∧ W.cell? b = some v ∧ W.cell? c = some r ∧ W.cell? d = some s) : (W.setCell ⟨g, o, none⟩ z).cell? a = some u ∧ (W.setCell ⟨g, o, none⟩ z).cell? b = some v ∧ (W.setCell ⟨g, o, none⟩ z).cell? c = some r ∧ (W.setCell ⟨g, o, none⟩ z).cell? d = some s :=
  ⟨cell_other ha h.1, cell_other hb h.2.1, cell_other hc h.2.2.1, cell_other hd h.2.2.2⟩

/-- The first k greater ones. -/
def joinTo (l r : List Int) (k : Nat) : List Int := (List.range k).map fun i => mo (at0 l i) (at0 r i)
theorem joinTo_succ (l r : List Int) (k : Nat) : joinTo l r (k + 1) = joinTo l r k ++ [mo (at0 l k) (at0 r k)] := by simp [joinTo, List.range_succ]
theorem joinTo_len (l r : List Int) (k : Nat) : (joinTo l r k).length = k := by simp [joinTo]

end Go.Proofs.YtbffkidkfannhaaGreat

namespace Go.Proofs.YtbffkidkfannhaaGreat
open Go.RowKit
set_option linter.unusedVariables false

/-- The rows of a state. -/
def inSt (S : List RowD) (st : Int) : List RowD := S.filter fun r => r.st == st
/-- The first of the greatest vote. -/
def lastV (L : List RowD) : RowD := match L with
  | [] => zeroR
  | a :: t => t.foldl (fun m r => if m.v < r.v then r else m) a
theorem lastV_one (r : RowD) : lastV [r] = r := rfl
theorem lastV_snoc {L : List RowD} (h : L ≠ []) (r : RowD) : lastV (L ++ [r]) = if (lastV L).v < r.v then r else lastV L := by
  cases L with
  | nil => exact absurd rfl h
  | cons a t =>
    show (t ++ [r]).foldl _ a = _
    rw [List.foldl_append]
    rfl
theorem inSt_yes {S : List RowD} {st : Int} {k : Nat} (h : k < S.length) (hs : (S[k].st == st) = true) : inSt (S.take (k + 1)) st = inSt (S.take k) st ++ [S[k]] := by
  unfold inSt
  rw [List.take_succ_eq_append_getElem h, List.filter_append]
  simp [hs]
theorem inSt_no {S : List RowD} {st : Int} {k : Nat} (h : k < S.length) (hs : (S[k].st == st) = false) : inSt (S.take (k + 1)) st = inSt (S.take k) st := by
  unfold inSt
  rw [List.take_succ_eq_append_getElem h, List.filter_append]
  simp [hs]
theorem lastV_mem {L : List RowD} (h : L ≠ []) : lastV L ∈ L := by
  cases L with
  | nil => exact absurd rfl h
  | cons a t =>
    have : ∀ (t : List RowD) (a : RowD) (M : List RowD), a ∈ M → (∀ x ∈ t, x ∈ M) → t.foldl (fun m r => if m.v < r.v then r else m) a ∈ M := by
      intro t
      induction t with
      | nil => intro a M ha _; exact ha
      | cons x t ih =>
        intro a M ha ht
        simp only [List.foldl_cons]
        apply ih
        · split
          · exact ht x (by simp)
          · exact ha
        · exact fun y hy => ht y (by simp [hy])
    exact this t a (a :: t) (by simp) (fun x hx => by simp [hx])
/-- As it was first proposed, and like x. -/
def likeB (x r : RowD) : Bool := (r.st == 1) && ((r.v == 0) && (sameC r.k r.i r.f r.t r.a x.k x.i x.f x.t x.a && sameA r.s x.s r.l x.l))
def head0 (S : List RowD) : RowD := S[0]?.getD zeroR
def alike (S : List RowD) (k : Nat) : Bool := (S.take k).all (likeB (head0 S))
theorem alike_succ {S : List RowD} {k : Nat} (h : k < S.length) : alike S (k + 1) = (alike S k && likeB (head0 S) S[k]) := by
  unfold alike
  rw [List.take_succ_eq_append_getElem h, List.all_append]
  simp
/-- Their attributes. -/
def attrsOf (L : List RowD) : List (Int × List Int) := L.map fun r => (r.s, r.l)
theorem attrsOf_len (L : List RowD) : (attrsOf L).length = L.length := by simp [attrsOf]
def joinS_ (n : Int) (L : List RowD) : Int := sN (attrsOf L) (attrsOf L).length
def joinL_ (n : Int) (L : List RowD) : List Int := (dN (attrsOf L) (attrsOf L).length).take n.toNat
theorem sN_all (A : List (Int × List Int)) (x : Int × List Int) : sN (A ++ [x]) (A ++ [x]).length = mx (sN A A.length) x.1 := by
  unfold sN
  rw [List.take_length, List.take_length, List.foldl_append]
  rfl
theorem dN_all (A : List (Int × List Int)) (x : Int × List Int) : dN (A ++ [x]) (A ++ [x]).length = dStep (dN A A.length) x.2 := by
  unfold dN
  rw [List.take_length, List.take_length, List.foldl_append]
  rfl
theorem mx_mo (x y : Int) : mx x y = mo x y := by unfold mx mo; split <;> split <;> omega
theorem joinS_snoc (n : Int) (L : List RowD) (r : RowD) : joinS_ n (L ++ [r]) = mo (joinS_ n L) r.s := by
  unfold joinS_
  have e : attrsOf (L ++ [r]) = attrsOf L ++ [(r.s, r.l)] := by simp [attrsOf]
  rw [e, sN_all, mx_mo]
theorem joinL_len {n : Int} (h : isGrp n = true) (L : List RowD) : ((joinL_ n L).length : Int) = n := by
  unfold joinL_
  rw [List.length_take, dN_len]
  rcases isGrp_of h with rfl | rfl <;> rfl
theorem at0_take {l : List Int} {m i : Nat} (h : i < m) : at0 (l.take m) i = at0 l i := by
  unfold at0
  rw [List.getElem?_take, if_pos h]
theorem joinL_snoc {n : Int} (h : isGrp n = true) (L : List RowD) (r : RowD) : joinL_ n (L ++ [r]) = joinTo (joinL_ n L) r.l (joinL_ n L).length := by
  have hl := joinL_len h L
  unfold joinL_ at hl ⊢
  have e : attrsOf (L ++ [r]) = attrsOf L ++ [(r.s, r.l)] := by simp [attrsOf]
  rw [e, dN_all]
  unfold dStep joinTo
  rw [← List.map_take, List.take_range]
  have hm : (List.take n.toNat (dN (attrsOf L) (attrsOf L).length)).length = n.toNat := by omega
  have hn : n.toNat ≤ 5 := by rcases isGrp_of h with rfl | rfl <;> decide
  rw [hm, Nat.min_eq_left hn]
  refine List.map_congr_left fun i hi => ?_
  rw [List.mem_range] at hi
  rw [mx_mo, at0_take hi]
theorem joinL_nil {n : Int} (h : isGrp n = true) : joinL_ n [] = noneL n := by
  rcases isGrp_of h with rfl | rfl <;> rfl
theorem joinS_nil (n : Int) : joinS_ n [] = 0 := rfl
/-- One good attribute is itself. -/
theorem goodD_parts {n s : Int} {l : List Int} (h : goodD n s l = true) : 0 ≤ s ∧ (l.length : Int) = n ∧ allIn l 0 6 = true := by
  unfold goodD inB at h
  simp only [Bool.and_eq_true, decide_eq_true_eq] at h
  exact ⟨h.1.1.1, h.1.2, h.2⟩
theorem all_nonneg {l : List Int} (h : allIn l 0 6 = true) (i : Nat) : 0 ≤ at0 l i := by
  unfold at0
  by_cases hi : i < l.length
  · rw [List.getElem?_eq_getElem hi, Option.getD_some]
    unfold allIn at h
    rw [List.all_eq_true] at h
    have := h _ (List.getElem_mem hi)
    unfold inB at this
    simp at this
    exact this.1
  · rw [List.getElem?_eq_none (by omega)]; simp
theorem join_one {n : Int} {r : RowD} (hn : isGrp n = true) (h : goodD n r.s r.l = true) : joinS_ n [r] = r.s ∧ joinL_ n [r] = r.l := by
  obtain ⟨h0, hl, ha⟩ := goodD_parts h
  have e1 := joinS_snoc n [] r
  have e2 := joinL_snoc hn [] r
  rw [List.nil_append] at e1 e2
  constructor
  · rw [e1, joinS_nil]; unfold mo; split <;> omega
  · rw [e2]
    have hz : ∀ i, at0 (joinL_ n []) i = 0 := by
      intro i
      rw [joinL_nil hn]
      have hz : ∀ m : Nat, at0 (List.replicate m 0) i = 0 := fun m => by
        unfold at0
        rw [List.getElem?_replicate]
        split <;> rfl
      rcases isGrp_of hn with rfl | rfl
      · exact hz 3
      · exact hz 5
    have hll : (joinL_ n ([] : List RowD)).length = r.l.length := by have := joinL_len hn ([] : List RowD); omega
    rw [hll]
    unfold joinTo
    refine List.ext_getElem (by simp) (fun i h1 h2 => ?_)
    rw [List.getElem_map, List.getElem_range, hz]
    have := all_nonneg ha i
    have e : at0 r.l i = r.l[i] := by unfold at0; rw [List.getElem?_eq_getElem h2, Option.getD_some]
    rw [← e]
    unfold mo
    split <;> omega
/-- Good rows of which none is settled. -/
def toldB (n : Int) (r : RowD) : Bool := !(r.st == 3) && goodRow n r
def chooseOk (n : Int) (S : List RowD) : Bool := isGrp n && (inB (S.length : Int) (n / 2 + 1) n && S.all (toldB n))
/-- The way (in b), the command and the attribute. -/
def wayOf (n : Int) (S : List RowD) : Int := if inSt S 2 ≠ [] then 1 else if alike S S.length = true then 1 else if inSt S 1 ≠ [] then 2 else 3
def pickOf (n : Int) (S : List RowD) : RowD := if inSt S 2 ≠ [] then lastV (inSt S 2) else if alike S S.length = true then head0 S else if inSt S 1 ≠ [] then ⟨0, 0, 0, (lastV (inSt S 1)).k, (lastV (inSt S 1)).i, (lastV (inSt S 1)).f, (lastV (inSt S 1)).t, (lastV (inSt S 1)).a, joinS_ n (inSt S 1), joinL_ n (inSt S 1)⟩ else ⟨0, 0, 0, 0, 0, 0, 0, 0, 0, noneL n⟩
def wayR (n : Int) (S : List RowD) : Int := if chooseOk n S then wayOf n S else 0
def pickR (n : Int) (S : List RowD) : RowD := if chooseOk n S then pickOf n S else zeroR
/-- Way, command, attribute and whether it is told come back. -/
def FourW (y : Int) (r : RowD) (b : Bool) (w : World) (e : Ending) (w' : World) : Prop := ∃ u, e = .returned (.tuple #[.int .i64 y, .agg #[.int .i64 r.k, .int .i64 r.i, .int .i64 r.f, .int .i64 r.t, .int .i64 r.a], .agg #[.int .i64 r.s, u], .bool b]) ∧ Fresh w.heap.size w' u r.l ∧ Ext w w'
end Go.Proofs.YtbffkidkfannhaaGreat

namespace Go.Proofs.YtbffkidkfannhaaGreat
open Go.RowKit
set_option linter.unusedVariables false

theorem allx_take_succ {α : Type} {l : List α} {k : Nat} (h : k < l.length) (p : α → Bool) (ht : (l.take k).all p = true) (hp : p l[k] = true) : (l.take (k + 1)).all p = true := by
  rw [List.take_add_one, List.all_append, ht, List.getElem?_eq_getElem h]
  simpa using hp
theorem allx_false_at {α : Type} {l : List α} {k : Nat} (h : k < l.length) (p : α → Bool) (hp : p l[k] = false) : l.all p = false := by
  rw [List.all_eq_false]
  exact ⟨l[k], List.getElem_mem h, by rw [hp]; simp⟩

/-- Whether a list of rows, whether all lists of a table are good. -/
def goodList (n : Int) (R : List RowD) : Bool := decide (R.length ≤ 6) && R.all (goodRow n)
def goodTab (n : Int) (T : List (List RowD)) : Bool := (isGrp n && decide ((T.length : Int) = n)) && T.all (goodList n)
theorem goodTab_grp {n : Int} {T : List (List RowD)} (h : isGrp n = false) : goodTab n T = false := by unfold goodTab; rw [h]; rfl
theorem goodTab_len {n : Int} {T : List (List RowD)} (h : (T.length : Int) ≠ n) : goodTab n T = false := by unfold goodTab; rw [decide_eq_false h, Bool.and_false]; rfl
theorem goodTab_all {n : Int} {T : List (List RowD)} (h : isGrp n = true) (hl : (T.length : Int) = n) : goodTab n T = T.all (goodList n) := by unfold goodTab; rw [h, decide_eq_true hl]; rfl
theorem goodList_long {n : Int} {R : List RowD} (h : 6 < R.length) : goodList n R = false := by unfold goodList; rw [decide_eq_false (by omega)]; rfl
theorem goodList_all {n : Int} {R : List RowD} (h : R.length ≤ 6) : goodList n R = R.all (goodRow n) := by unfold goodList; rw [decide_eq_true h]; rfl
theorem goodList_row {n : Int} {R : List RowD} (h : R.all (goodRow n) = false) : goodList n R = false := by unfold goodList; rw [h, Bool.and_false]

set_option maxHeartbeats 4000000 in
theorem specGoodTable_any (n : Int) (u : Value) (T : List (List RowD)) (w : World) (hu : Rowzz w u T) :
    Calls Tryz.prog 63 #[.agg #[.int .i64 n, u]] w (BoolExt (goodTab n T) w) := by
  obtain ⟨au, cu, rfl, hlu, _, hcu⟩ := hu
  unfold maxLen at hlu
  cases hg : isGrp n with
  | false =>
    rw [goodTab_grp hg]
    have HG := Lib.hid hg
    clear hg hcu
    go_enter Tryz.func63, Tryz.ntmps63
    go_wp2_with fail
    refine (specIsGroup_any _ _).mono ?_
    rintro e w' ⟨rfl, rfl⟩
    rw [HG.out]
    go_wp2
    go_ret
    exact ⟨rfl, Ext.alloc1 _ _⟩
  | true =>
    have HG := Lib.hid hg
    by_cases hl : (T.length : Int) = n
    · rw [goodTab_all hg hl]
      have e0 : ((T.length : Int) != n) = false := by simp [hl]
      have HL := Lib.hid hl
      obtain ⟨wb, hwb⟩ : ∃ wb, wb = w.alloc (.cells #[.int .i64 n, .slice au T.length cu] 67) := ⟨_, rfl⟩
      have hb := attrAt_new w 67 n (.slice au T.length cu)
      rw [← hwb] at hb
      have xb : Ext w wb := by rw [hwb]; exact Ext.alloc1 _ _
      have HWB := Lib.hid hwb
      have HBB := Lib.hid hb
      clear hg hl hwb hb
      go_enter Tryz.func63, Tryz.ntmps63
      go_wp2_with fail
      refine (specIsGroup_any _ _).mono ?_
      rintro e w' ⟨rfl, rfl⟩
      rw [HG.out]
      go_wp2
      rw [← HWB.out]
      go_loopw [22] (fun i wr => ∃ k : Nat, k ≤ T.length ∧ i = .int .i64 k ∧ Hid ((T.take k).all (goodList n) = true) ∧ Ext wb wr) (fun i _ => T.length - (intOf i).toNat)
      case atStart => exact ⟨0, Nat.zero_le _, rfl, Lib.hid (by simp), Ext.refl _⟩
      case round =>
        obtain ⟨k, hk, rfl, HT, hx⟩ := hrel
        by_cases hlt : k < T.length
        · obtain ⟨bu, ou, rfl, du⟩ := hcu (by omega)
          obtain ⟨x, hx1, ix⟩ := du k hlt
          have gu := (xb.trans hx).cell hx1
          have ixr := ix.ext (xb.trans hx)
          obtain ⟨R, hR⟩ : ∃ R, R = T[k] := ⟨_, rfl⟩
          rw [← hR] at ixr
          obtain ⟨ax, cx, rfl, hlx, _, hcx⟩ := ixr
          unfold maxLen at hlx
          have HR := Lib.hid hR
          clear hcu du hx1 ix hR
          obtain ⟨wo, hwo⟩ : ∃ wo : World, wo = wr := ⟨_, rfl⟩
          subst hwo
          go_wp2
          go_loopw [28] (fun i wr => ∃ j : Nat, j ≤ R.length ∧ i = .int .i64 j ∧ Hid ((R.take j).all (goodRow n) = true) ∧ Ext wo wr) (fun i _ => R.length - (intOf i).toNat)
          case atStart => exact ⟨0, Nat.zero_le _, rfl, Lib.hid (by simp), Ext.refl _⟩
          case round =>
            obtain ⟨j, hj, rfl, HS, hy⟩ := hrel
            by_cases hjt : j < R.length
            · obtain ⟨bx, ox, rfl, dx⟩ := hcx (by omega)
              obtain ⟨y, hy1, iy⟩ := dx j hjt
              obtain ⟨d, hd⟩ : ∃ d, d = R[j] := ⟨_, rfl⟩
              rw [← hd] at hy1 iy
              have gy := hy1.ext hy
              have iy2 := iy.ext hy
              obtain ⟨ay, cy, rfl, _⟩ := id iy2
              have IY := Lib.hid iy2
              have HD := Lib.hid hd
              obtain ⟨wp, hwp⟩ : ∃ wp : World, wp = wr := ⟨_, rfl⟩
              subst hwp
              have gn := ((hx.trans hy).trans (Ext.alloc1 wp (.cells #[.int .i64 d.b, .int .i64 d.v, .int .i64 d.st, .int .i64 d.k, .int .i64 d.i, .int .i64 d.f, .int .i64 d.t, .int .i64 d.a, .int .i64 d.s, .slice ay d.l.length cy] 101))).cell HBB.out.1
              clear hcx dx hy1 iy iy2 hd
              obtain ⟨g0, g1, g2, g3, g4, g5, g6, g7, g8, g9⟩ := gy
              go_wp2_with fail
              cases hq : goodRow n d with
              | false =>
                have HQ := Lib.hid hq
                clear hq
                refine (l4Row_any n d _ _ (IY.out.ext (Ext.alloc1 _ _)) HG.out).mono ?_
                rintro e w3 ⟨rfl, x3⟩
                have hz := (xb.trans ((hx.trans hy).trans (Ext.alloc1 _ _))).trans x3
                clear x3 gn g0 g1 g2 g3 g4 g5 g6 g7 g8 g9
                rw [HQ.out]
                go_wp2
                go_ret
                refine ⟨?_, hz⟩
                have h1 : R.all (goodRow n) = false := allx_false_at hjt _ (by rw [← HD.out]; exact HQ.out)
                have h2 : T.all (goodList n) = false := allx_false_at hlt _ (by rw [← HR.out]; exact goodList_row h1)
                rw [h2]; rfl
              | true =>
                have HQ := Lib.hid hq
                clear hq
                refine (l4Row_any n d _ _ (IY.out.ext (Ext.alloc1 _ _)) HG.out).mono ?_
                rintro e w3 ⟨rfl, x3⟩
                have hz := (hy.trans (Ext.alloc1 _ _)).trans x3
                clear x3 gn g0 g1 g2 g3 g4 g5 g6 g7 g8 g9
                rw [HQ.out]
                go_wp2
                go_roundw
                case rel => exact ⟨j + 1, by omega, by go_num, Lib.hid (allx_take_succ hjt _ HS.out (by rw [← HD.out]; exact HQ.out)), hz⟩
                case measure => simp [intOf]; omega
            · obtain rfl : j = R.length := by omega
              have hfull : R.all (goodRow n) = true := by have h := HS.out; rwa [List.take_length] at h
              have HF := Lib.hid hfull
              clear hfull
              by_cases h6 : 6 < R.length
              · go_wp2
                go_ret
                refine ⟨?_, xb.trans (hx.trans hy)⟩
                have h2 : T.all (goodList n) = false := allx_false_at hlt _ (by rw [← HR.out]; exact goodList_long h6)
                rw [h2]; rfl
              · go_wp2
                go_roundw
                case rel => exact ⟨k + 1, by omega, by go_num, Lib.hid (allx_take_succ hlt _ HT.out (by rw [← HR.out, goodList_all (by omega)]; exact HF.out)), hx.trans hy⟩
                case measure => simp [intOf]; omega
        · obtain rfl : k = T.length := by omega
          go_wp2
          go_ret
          refine ⟨?_, xb.trans hx⟩
          have h2 : T.all (goodList n) = true := by have h := HT.out; rwa [List.take_length] at h
          rw [h2]; rfl
    · rw [goodTab_len hl]
      have e0 : ((T.length : Int) != n) = true := by simp [hl]
      clear hg hcu hl
      go_enter Tryz.func63, Tryz.ntmps63
      go_wp2_with fail
      refine (specIsGroup_any _ _).mono ?_
      rintro e w' ⟨rfl, rfl⟩
      rw [HG.out]
      go_wp2
      go_ret
      exact ⟨rfl, Ext.alloc1 _ _⟩

end Go.Proofs.YtbffkidkfannhaaGreat

namespace Go.Proofs.YtbffkidkfannhaaGreat
open Go.RowKit
set_option linter.unusedVariables false

/-- The least majority, 0 of what is no group. -/
def majN (n : Int) : Int := if n == 3 then 2 else if n == 5 then 3 else 0
theorem majN_half {n : Int} (h : isGrp n = true) : majN n = n / 2 + 1 := by rcases isGrp_of h with rfl | rfl <;> rfl
/-- Are so many a majority? -/
def mostB (n c : Int) : Bool := isGrp n && decide (majN n ≤ c)
set_option maxHeartbeats 2000000 in
set_option maxRecDepth 100000 in
theorem isGood_rep (n : Int) (r : RowD) (u : Value) (w : World) (hv : Ints w u r.l) (hn : isGrp n = true) (hs : r.l.length ≤ 1099511627776) :
    Calls Tryz.prog 136 #[.agg #[.int .i64 r.b, .int .i64 r.v, .int .i64 r.st, .int .i64 r.k, .int .i64 r.i, .int .i64 r.f, .int .i64 r.t, .int .i64 r.a, .int .i64 r.s, u], .int .i64 n] w (BoolExt (toldB n r) w) := by
  have xb := Ext.alloc1 w (.cells #[.int .i64 r.b, .int .i64 r.v, .int .i64 r.st, .int .i64 r.k, .int .i64 r.i, .int .i64 r.f, .int .i64 r.t, .int .i64 r.a, .int .i64 r.s, u] 179)
  unfold toldB
  cases h3 : (r.st == 3)
  · have h3' : (r.st != 3) = true := by simpa using h3
    have HV := Lib.hid (hv.ext xb)
    clear h3 hv
    go_enter Tryz.func136, Tryz.ntmps136
    go_wp2_with fail
    refine (isGoodRow_any n r u _ HV.out hs hn).mono ?_
    rintro e w2 ⟨rfl, x2⟩
    have hy := xb.trans x2
    clear x2 xb HV
    cases hA : goodRow n r
    all_goals
      have HA := Lib.hid hA
      clear hA
      go_wp2
      go_ret
      exact ⟨by rw [HA.out]; rfl, hy⟩
  · have h3' : (r.st != 3) = false := by simpa using h3
    clear h3
    go_enter Tryz.func136, Tryz.ntmps136
    go_wp2
    go_ret
    exact ⟨rfl, xb⟩
theorem told_succ {n : Int} {S : List RowD} {k : Nat} (h : k < S.length) (ht : (S.take k).all (toldB n) = true) (hk : toldB n S[k] = true) : (S.take (k + 1)).all (toldB n) = true := by
  rw [List.take_succ_eq_append_getElem h, List.all_append, ht]
  simp [hk]
theorem told_no {n : Int} {S : List RowD} {k : Nat} (h : k < S.length) (hk : toldB n S[k] = false) : S.all (toldB n) = false := by
  rw [List.all_eq_false]
  exact ⟨_, List.getElem_mem h, by rw [hk]; simp⟩
set_option maxHeartbeats 4000000 in
set_option maxRecDepth 100000 in
theorem areReports_any (n : Int) (v : Value) (S : List RowD) (w : World) (hv : Rowz w v S) (hn : isGrp n = true) (hs : bulkR S ≤ 1099511627776) :
    Calls Tryz.prog 122 #[.int .i64 n, v] w (BoolExt (S.all (toldB n)) w) := by
  obtain ⟨av, cv, rfl, hlv, _, hcv⟩ := hv
  unfold maxLen at hlv
  have HCV := Lib.hid hcv
  have HN := Lib.hid hn
  have HS := Lib.hid hs
  clear hcv hn hs
  go_enter Tryz.func122, Tryz.ntmps122
  go_wp2
  go_loopw [10] (fun i wr => ∃ k : Nat, k ≤ S.length ∧ i = .int .i64 k ∧ Hid ((S.take k).all (toldB n) = true) ∧ Hid (Ext w wr)) (fun i _ => S.length - (intOf i).toNat)
  case atStart => exact ⟨0, Nat.zero_le _, rfl, Lib.hid (by simp), Lib.hid (Ext.refl _)⟩
  case round =>
    obtain ⟨k, hk, rfl, HT, HX⟩ := hrel
    by_cases hlt : k < S.length
    · obtain ⟨b, off, rfl, dv⟩ := HCV.out (by omega)
      obtain ⟨r, hr⟩ : ∃ r, r = S[k] := ⟨_, rfl⟩
      obtain ⟨u, hu, iu⟩ := dv k hlt
      rw [← hr] at hu iu
      obtain ⟨au, cu, rfl, _, _, _⟩ := id iu
      have HR := Lib.hid hr
      have hl : r.l.length ≤ 1099511627776 := by rw [hr]; have := bulkR_row hlt; have := HS.out; omega
      have HL := Lib.hid hl
      have HLT := Lib.hid hlt
      obtain ⟨g0, g1, g2, g3, g4, g5, g6, g7, g8, g9⟩ := hu.ext HX.out
      obtain ⟨w2, hw2⟩ : ∃ w2, w2 = (wr.alloc (.cells #[.int .i64 r.b, .int .i64 r.v, .int .i64 r.st, .int .i64 r.k, .int .i64 r.i, .int .i64 r.f, .int .i64 r.t, .int .i64 r.a, .int .i64 r.s, .slice au r.l.length cu] 101)).alloc (.cells #[.int .i64 r.b, .int .i64 r.v, .int .i64 r.st, .int .i64 r.k, .int .i64 r.i, .int .i64 r.f, .int .i64 r.t, .int .i64 r.a, .int .i64 r.s, .slice au r.l.length cu] 179) := ⟨_, rfl⟩
      have x2 : Ext wr w2 := by rw [hw2]; exact (Ext.alloc1 _ _).alloc _
      have IU := Lib.hid ((iu.ext HX.out).ext x2)
      have HW2 := Lib.hid hw2
      have X2 := Lib.hid (HX.out.trans x2)
      obtain ⟨c, hc⟩ : ∃ c, c = toldB n r := ⟨_, rfl⟩
      have HC := Lib.hid hc
      clear dv hr hl hu iu hw2 x2 hc
      go_wp2_with fail
      rw [← HW2.out]
      refine (isGood_rep n r _ _ IU.out HN.out HL.out).mono ?_
      rintro e w3 ⟨rfl, x3⟩
      rw [← HC.out]
      have X3 := Lib.hid (X2.out.trans x3)
      clear x3 g0 g1 g2 g3 g4 g5 g6 g7 g8 g9 IU HW2 X2
      cases c with
      | false =>
        have HO : Hid (S.all (toldB n) = false) := Lib.hid (told_no HLT.out (by rw [← HR.out]; exact HC.out.symm))
        go_wp2
        go_ret
        exact ⟨by rw [HO.out]; rfl, X3.out⟩
      | true =>
        have HT1 := Lib.hid (told_succ HLT.out HT.out (by rw [← HR.out]; exact HC.out.symm))
        go_wp2
        go_roundw
        case rel => exact ⟨k + 1, by omega, by go_num, HT1, X3⟩
        case measure => simp [intOf]; omega
    · obtain rfl : k = S.length := by omega
      have HA := HT.out
      rw [List.take_length] at HA
      have HA := Lib.hid HA
      clear HT
      go_wp2
      go_ret
      exact ⟨by rw [HA.out]; rfl, HX.out⟩
end Go.Proofs.YtbffkidkfannhaaGreat

namespace Go.Proofs.YtbffkidkfannhaaGreat
open Go.RowKit
set_option linter.unusedVariables false

def phaseL (n : Int) (d : LeadD) : Bool :=
  if d.ph = 1 then goodB d.k d.i d.f d.t d.a && decide (d.seen.length = 0)
  else if d.ph = 2 then goodB d.k d.i d.f d.t d.a && (decide (d.seen.length = 0) && (!d.sm && sameA d.s1 d.s2 d.l1 d.l2))
  else if d.ph = 3 then sameC d.k d.i d.f d.t d.a 0 0 0 0 0 && (sameA d.s1 0 d.l1 (noneL n) && (sameA d.s2 0 d.l2 (noneL n) && (!d.sm && decide (d.seen.length = d.who.length))))
  else false
set_option maxHeartbeats 8000000 in
set_option maxRecDepth 100000 in
theorem l8Lead_seen (n me : Int) (d : LeadD) (u1 u2 u3 u4 : Value) (w : World) (hl : LeadL w d u1 u2 u3 u4) (hn : isGrp n = true) (hs : d.seen.all (toldB n) = false) (hc0 : Hid (instB n d.rp d.no = true)) (hc1 : Hid (inB d.bl 0 9999 = true)) (hc2 : Hid (riseB d.who 0 (n - 1) = true)) (hc3 : Hid (hasI d.who me = true)) (hc4 : Hid (goodD n d.s1 d.l1 = true)) (hc5 : Hid (goodD n d.s2 d.l2 = true)) :
    Calls Tryz.prog 64 #[.int .i64 n, .int .i64 me, .agg #[.int .i64 d.rp, .int .i64 d.no, .int .i64 d.bl, .int .i64 d.ph, .int .i64 d.k, .int .i64 d.i, .int .i64 d.f, .int .i64 d.t, .int .i64 d.a, .int .i64 d.s1, u1, .int .i64 d.s2, u2, .bool d.sm, u3, u4]] w (BoolExt false w) := by
  obtain ⟨h3, h5⟩ : 3 ≤ n ∧ n ≤ 5 := by rcases isGrp_of hn with rfl | rfl <;> omega
  have HN := Lib.hid hn
  have HNO := Lib.hid hs
  clear hn hs
  obtain ⟨wb, hwb⟩ : ∃ wb, wb = w.alloc (.cells #[.int .i64 d.rp, .int .i64 d.no, .int .i64 d.bl, .int .i64 d.ph, .int .i64 d.k, .int .i64 d.i, .int .i64 d.f, .int .i64 d.t, .int .i64 d.a, .int .i64 d.s1, u1, .int .i64 d.s2, u2, .bool d.sm, u3, u4] 123) := ⟨_, rfl⟩
  have x0 : Ext w wb := by rw [hwb]; exact Ext.alloc1 _ _
  have HA : Hid (BoxV wb w.heap.size (leadVs d u1 u2 u3 u4)) := Lib.hid (by rw [hwb]; exact lead_box w _ d u1 u2 u3 u4)
  have HL := Lib.hid hl
  have HX0 := Lib.hid x0
  have HX0w := Lib.hid (Ext.refl wb)
  have HW := Lib.hid hwb
  clear hwb x0 hl
  obtain ⟨av, cv, rfl, hlv, _, hcv⟩ := HL.out.i4
  unfold maxLen at hlv
  have HCV := Lib.hid hcv
  clear hcv
  go_enter Tryz.func64, Tryz.ntmps64
  have a0 := (HA.out.ext HX0w.out).cell 0 _ rfl
  have a1 := (HA.out.ext HX0w.out).cell 1 _ rfl
  have a2 := (HA.out.ext HX0w.out).cell 2 _ rfl
  have a3 := (HA.out.ext HX0w.out).cell 3 _ rfl
  have a4 := (HA.out.ext HX0w.out).cell 4 _ rfl
  have a5 := (HA.out.ext HX0w.out).cell 5 _ rfl
  have a6 := (HA.out.ext HX0w.out).cell 6 _ rfl
  have a7 := (HA.out.ext HX0w.out).cell 7 _ rfl
  have a8 := (HA.out.ext HX0w.out).cell 8 _ rfl
  have a9 := (HA.out.ext HX0w.out).cell 9 _ rfl
  have a10 := (HA.out.ext HX0w.out).cell 10 _ rfl
  have a11 := (HA.out.ext HX0w.out).cell 11 _ rfl
  have a12 := (HA.out.ext HX0w.out).cell 12 _ rfl
  have a13 := (HA.out.ext HX0w.out).cell 13 _ rfl
  have a14 := (HA.out.ext HX0w.out).cell 14 _ rfl
  have a15 := (HA.out.ext HX0w.out).cell 15 _ rfl
  go_wp2_with fail
  rw [← HW.out]
  refine (l3Inst_any n d.rp d.no _ h3 h5).mono ?_
  rintro e w1 ⟨rfl, rfl⟩
  rw [hc0.out]
  have HX1 := HX0
  have HX1w := HX0w
  clear a0 a1 a2 a3 a4 a5 a6 a7 a8 a9 a10 a11 a12 a13 a14 a15 HX0 HX0w
  have a0 := (HA.out.ext HX1w.out).cell 0 _ rfl
  have a1 := (HA.out.ext HX1w.out).cell 1 _ rfl
  have a2 := (HA.out.ext HX1w.out).cell 2 _ rfl
  have a3 := (HA.out.ext HX1w.out).cell 3 _ rfl
  have a4 := (HA.out.ext HX1w.out).cell 4 _ rfl
  have a5 := (HA.out.ext HX1w.out).cell 5 _ rfl
  have a6 := (HA.out.ext HX1w.out).cell 6 _ rfl
  have a7 := (HA.out.ext HX1w.out).cell 7 _ rfl
  have a8 := (HA.out.ext HX1w.out).cell 8 _ rfl
  have a9 := (HA.out.ext HX1w.out).cell 9 _ rfl
  have a10 := (HA.out.ext HX1w.out).cell 10 _ rfl
  have a11 := (HA.out.ext HX1w.out).cell 11 _ rfl
  have a12 := (HA.out.ext HX1w.out).cell 12 _ rfl
  have a13 := (HA.out.ext HX1w.out).cell 13 _ rfl
  have a14 := (HA.out.ext HX1w.out).cell 14 _ rfl
  have a15 := (HA.out.ext HX1w.out).cell 15 _ rfl
  go_wp2_with fail
  refine (l1In_any d.bl 0 9999 _).mono ?_
  rintro e w2 ⟨rfl, rfl⟩
  rw [hc1.out]
  have HX2 := HX1
  have HX2w := HX1w
  clear a0 a1 a2 a3 a4 a5 a6 a7 a8 a9 a10 a11 a12 a13 a14 a15 HX1 HX1w
  have a0 := (HA.out.ext HX2w.out).cell 0 _ rfl
  have a1 := (HA.out.ext HX2w.out).cell 1 _ rfl
  have a2 := (HA.out.ext HX2w.out).cell 2 _ rfl
  have a3 := (HA.out.ext HX2w.out).cell 3 _ rfl
  have a4 := (HA.out.ext HX2w.out).cell 4 _ rfl
  have a5 := (HA.out.ext HX2w.out).cell 5 _ rfl
  have a6 := (HA.out.ext HX2w.out).cell 6 _ rfl
  have a7 := (HA.out.ext HX2w.out).cell 7 _ rfl
  have a8 := (HA.out.ext HX2w.out).cell 8 _ rfl
  have a9 := (HA.out.ext HX2w.out).cell 9 _ rfl
  have a10 := (HA.out.ext HX2w.out).cell 10 _ rfl
  have a11 := (HA.out.ext HX2w.out).cell 11 _ rfl
  have a12 := (HA.out.ext HX2w.out).cell 12 _ rfl
  have a13 := (HA.out.ext HX2w.out).cell 13 _ rfl
  have a14 := (HA.out.ext HX2w.out).cell 14 _ rfl
  have a15 := (HA.out.ext HX2w.out).cell 15 _ rfl
  go_wp2_with fail
  refine (l1Rising_any u3 d.who 0 (n - 1) _ (HL.out.i3.ext HX2.out)).mono ?_
  rintro e w3 ⟨rfl, x3⟩
  rw [hc2.out]
  have HX3 := Lib.hid (HX2.out.trans x3)
  have HX3w := Lib.hid (HX2w.out.trans x3)
  clear x3
  clear a0 a1 a2 a3 a4 a5 a6 a7 a8 a9 a10 a11 a12 a13 a14 a15 HX2 HX2w
  have a0 := (HA.out.ext HX3w.out).cell 0 _ rfl
  have a1 := (HA.out.ext HX3w.out).cell 1 _ rfl
  have a2 := (HA.out.ext HX3w.out).cell 2 _ rfl
  have a3 := (HA.out.ext HX3w.out).cell 3 _ rfl
  have a4 := (HA.out.ext HX3w.out).cell 4 _ rfl
  have a5 := (HA.out.ext HX3w.out).cell 5 _ rfl
  have a6 := (HA.out.ext HX3w.out).cell 6 _ rfl
  have a7 := (HA.out.ext HX3w.out).cell 7 _ rfl
  have a8 := (HA.out.ext HX3w.out).cell 8 _ rfl
  have a9 := (HA.out.ext HX3w.out).cell 9 _ rfl
  have a10 := (HA.out.ext HX3w.out).cell 10 _ rfl
  have a11 := (HA.out.ext HX3w.out).cell 11 _ rfl
  have a12 := (HA.out.ext HX3w.out).cell 12 _ rfl
  have a13 := (HA.out.ext HX3w.out).cell 13 _ rfl
  have a14 := (HA.out.ext HX3w.out).cell 14 _ rfl
  have a15 := (HA.out.ext HX3w.out).cell 15 _ rfl
  go_wp2_with fail
  refine (l1Has_any u3 d.who me _ (HL.out.i3.ext HX3.out)).mono ?_
  rintro e w4 ⟨rfl, x4⟩
  rw [hc3.out]
  have HX4 := Lib.hid (HX3.out.trans x4)
  have HX4w := Lib.hid (HX3w.out.trans x4)
  clear x4
  clear a0 a1 a2 a3 a4 a5 a6 a7 a8 a9 a10 a11 a12 a13 a14 a15 HX3 HX3w
  have a0 := (HA.out.ext HX4w.out).cell 0 _ rfl
  have a1 := (HA.out.ext HX4w.out).cell 1 _ rfl
  have a2 := (HA.out.ext HX4w.out).cell 2 _ rfl
  have a3 := (HA.out.ext HX4w.out).cell 3 _ rfl
  have a4 := (HA.out.ext HX4w.out).cell 4 _ rfl
  have a5 := (HA.out.ext HX4w.out).cell 5 _ rfl
  have a6 := (HA.out.ext HX4w.out).cell 6 _ rfl
  have a7 := (HA.out.ext HX4w.out).cell 7 _ rfl
  have a8 := (HA.out.ext HX4w.out).cell 8 _ rfl
  have a9 := (HA.out.ext HX4w.out).cell 9 _ rfl
  have a10 := (HA.out.ext HX4w.out).cell 10 _ rfl
  have a11 := (HA.out.ext HX4w.out).cell 11 _ rfl
  have a12 := (HA.out.ext HX4w.out).cell 12 _ rfl
  have a13 := (HA.out.ext HX4w.out).cell 13 _ rfl
  have a14 := (HA.out.ext HX4w.out).cell 14 _ rfl
  have a15 := (HA.out.ext HX4w.out).cell 15 _ rfl
  go_wp2_with fail
  refine (l3Attr_any n d.s1 u1 d.l1 _ (HL.out.i1.ext HX4.out)).mono ?_
  rintro e w5 ⟨rfl, x5⟩
  rw [hc4.out]
  have HX5 := Lib.hid (HX4.out.trans x5)
  have HX5w := Lib.hid (HX4w.out.trans x5)
  clear x5
  clear a0 a1 a2 a3 a4 a5 a6 a7 a8 a9 a10 a11 a12 a13 a14 a15 HX4 HX4w
  have a0 := (HA.out.ext HX5w.out).cell 0 _ rfl
  have a1 := (HA.out.ext HX5w.out).cell 1 _ rfl
  have a2 := (HA.out.ext HX5w.out).cell 2 _ rfl
  have a3 := (HA.out.ext HX5w.out).cell 3 _ rfl
  have a4 := (HA.out.ext HX5w.out).cell 4 _ rfl
  have a5 := (HA.out.ext HX5w.out).cell 5 _ rfl
  have a6 := (HA.out.ext HX5w.out).cell 6 _ rfl
  have a7 := (HA.out.ext HX5w.out).cell 7 _ rfl
  have a8 := (HA.out.ext HX5w.out).cell 8 _ rfl
  have a9 := (HA.out.ext HX5w.out).cell 9 _ rfl
  have a10 := (HA.out.ext HX5w.out).cell 10 _ rfl
  have a11 := (HA.out.ext HX5w.out).cell 11 _ rfl
  have a12 := (HA.out.ext HX5w.out).cell 12 _ rfl
  have a13 := (HA.out.ext HX5w.out).cell 13 _ rfl
  have a14 := (HA.out.ext HX5w.out).cell 14 _ rfl
  have a15 := (HA.out.ext HX5w.out).cell 15 _ rfl
  go_wp2_with fail
  refine (l3Attr_any n d.s2 u2 d.l2 _ (HL.out.i2.ext HX5.out)).mono ?_
  rintro e w6 ⟨rfl, x6⟩
  rw [hc5.out]
  have HX6 := Lib.hid (HX5.out.trans x6)
  have HX6w := Lib.hid (HX5w.out.trans x6)
  clear x6
  clear a0 a1 a2 a3 a4 a5 a6 a7 a8 a9 a10 a11 a12 a13 a14 a15 HX5 HX5w
  have a15 := (HA.out.ext HX6w.out).cell 15 _ rfl
  go_wp2
  clear a15
  go_loopw [55] (fun i wr => ∃ k : Nat, k ≤ d.seen.length ∧ i = .int .i64 k ∧ Hid ((d.seen.take k).all (toldB n) = true) ∧ Hid (Ext w wr)) (fun i _ => d.seen.length - (intOf i).toNat)
  case atStart => exact ⟨0, Nat.zero_le _, rfl, Lib.hid (by simp), HX6⟩
  case round =>
    obtain ⟨k, hk, rfl, HT, HX⟩ := hrel
    by_cases hlt : k < d.seen.length
    · obtain ⟨b, off, rfl, dv⟩ := HCV.out (by omega)
      obtain ⟨r, hr⟩ : ∃ r, r = d.seen[k] := ⟨_, rfl⟩
      obtain ⟨u, hu, iu⟩ := dv k hlt
      rw [← hr] at hu iu
      obtain ⟨au, cu, rfl, _, _, _⟩ := id iu
      have HR := Lib.hid hr
      have HLT := Lib.hid hlt
      obtain ⟨g0, g1, g2, g3, g4, g5, g6, g7, g8, g9⟩ := hu.ext HX.out
      obtain ⟨w2, hw2⟩ : ∃ w2, w2 = wr.alloc (.cells #[.int .i64 r.b, .int .i64 r.v, .int .i64 r.st, .int .i64 r.k, .int .i64 r.i, .int .i64 r.f, .int .i64 r.t, .int .i64 r.a, .int .i64 r.s, .slice au r.l.length cu] 101) := ⟨_, rfl⟩
      have x2 : Ext wr w2 := by rw [hw2]; exact Ext.alloc1 _ _
      have ST : Hid (w2.cell? ⟨wr.heap.size, 2, none⟩ = some (.int .i64 r.st)) := Lib.hid (by rw [hw2]; go_simp)
      have IU := Lib.hid ((iu.ext HX.out).ext x2)
      have HW2 := Lib.hid hw2
      have X2 := Lib.hid (HX.out.trans x2)
      clear dv hr hu iu hw2 x2
      go_wp2_with fail
      rw [← HW2.out]
      refine (l4Row_any n r _ _ IU.out HN.out).mono ?_
      rintro e w3 ⟨rfl, x3⟩
      have X3 := Lib.hid (X2.out.trans x3)
      have st := x3.cell ST.out
      clear x3 g0 g1 g2 g3 g4 g5 g6 g7 g8 g9 IU HW2 X2 ST
      cases hg : goodRow n r with
      | false =>
        clear st
        go_wp2
        go_ret
        exact ⟨rfl, X3.out⟩
      | true =>
        by_cases h3 : r.st = 3
        · rw [h3] at st
          clear h3
          go_wp2
          go_ret
          exact ⟨rfl, X3.out⟩
        · have HT1 := Lib.hid (told_succ HLT.out HT.out (by rw [← HR.out]; simp [toldB, hg, h3]))
          have h3' : (r.st == 3) = false := by simpa using h3
          clear h3 hg
          go_wp2
          go_roundw
          case rel => exact ⟨k + 1, by omega, by go_num, HT1, X3⟩
          case measure => simp [intOf]; omega
    · obtain rfl : k = d.seen.length := by omega
      have hA := HT.out
      rw [List.take_length, HNO.out] at hA
      cases hA
end Go.Proofs.YtbffkidkfannhaaGreat
