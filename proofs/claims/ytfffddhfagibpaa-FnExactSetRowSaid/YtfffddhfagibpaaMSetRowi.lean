/- Texts of this proof, part i: words, plain facts, contracts. -/
import Derived.Test.YtfffddhfagibpaaMSetRowh
import Derived.Test.YtfffddhfagibpaaMSetRowa
import Derived.Test.YtfffddhfagibpaaMSetRowd
import Derived.Deep.RegionLaw
import Derived.Deep.AppendLies
import Derived.Test.YtfffddhfagibpaaMSetRowf
import Derived.Test.YtfffddhfagibpaaMSetRowg
import Derived.BigRegion
import Derived.Deep.DeepCutAuto

namespace Go.Proofs.Ytfffddhfagibpaa
open Go.RowKit
set_option linter.unusedVariables false

/-- The marks of a table's rows from k on stand so. -/
def HeldT (w : World) (g0 : Nat) (q : WinT) (k : Int) (T : List (List RowD)) : Prop := ∀ j (h : j < T.length), (T[j] = [] ∧ ∃ a c, w.cell? ⟨g0, j, none⟩ = some (.slice a 0 c)) ∨ (T[j] ≠ [] ∧ w.cell? ⟨g0, j, none⟩ = some (.slice (some ⟨q.b j, q.o j, none⟩) T[j].length (q.c j)) ∧ ∀ i (h' : i < T[j].length), HeldX w (q.b j) (q.o j + i * 10) (k + sumN (weighs T) j + sumN (weigh T[j]) i) T[j][i].l.length)
theorem HeldT.ext {w w' : World} {g0 : Nat} {q : WinT} {k : Int} {T : List (List RowD)} (h : HeldT w g0 q k T) (e : Ext w w') : HeldT w' g0 q k T := fun j hj => by
  rcases h j hj with ⟨h1, a, c, h2⟩ | ⟨h1, h2, h3⟩
  · exact .inl ⟨h1, a, c, e.cell h2⟩
  · exact .inr ⟨h1, e.cell h2, fun i hi => (h3 i hi).ext e⟩
theorem heldT_of {P : Nat → Prop} {w : World} {g0 : Nat} {vs US : List Value} {LS : List (List Int)} {q : WinT} {XS : Nat → List Value} {k : Int} {T : List (List RowD)} (f : TabF P g0 vs US q T) (h : TabS w g0 vs US LS q XS k T.length T) : HeldT w g0 q k T := fun j hj => by
  rcases f.val j hj with ⟨he, a, c, hv, _⟩ | ⟨hne, hv, _⟩
  · exact .inl ⟨he, a, c, h.out.cell j _ hv⟩
  · refine .inr ⟨hne, h.out.cell j _ hv, fun i hi => ?_⟩
    obtain ⟨u, hu, hl, hx⟩ := h.new j hj hj i hi
    exact heldX_of (h.box j hj hne).1 hx (h.row.row _ _ _ hu hl).ints
theorem tabS_rows {P : Nat → Prop} {w : World} {g0 cap : Nat} {vs US : List Value} {LS : List (List Int)} {q : WinT} {XS : Nat → List Value} {k : Int} {T : List (List RowD)} (f : TabF P g0 vs US q T) (h : TabS w g0 vs US LS q XS k 0 T) (h1 : T.length ≤ cap) (h2 : cap ≤ maxLen) : Rowzz w (.slice (some ⟨g0, 0, none⟩) T.length cap) T := by
  refine ⟨some ⟨g0, 0, none⟩, cap, rfl, by omega, ⟨h1, h2, fun h => by cases h⟩, fun _ => ⟨g0, 0, rfl, fun j hj => ?_⟩⟩
  rcases f.val j hj with ⟨he, a, c, hv, hc, ha⟩ | ⟨hne, hv, hc, hm⟩
  · refine ⟨_, by rw [Nat.zero_add]; exact h.out.cell j _ hv, ?_⟩
    rw [he]
    exact ⟨a, c, rfl, by simp, ⟨by simp, hc, ha⟩, fun h => by simp at h⟩
  · refine ⟨_, by rw [Nat.zero_add]; exact h.out.cell j _ hv, some ⟨q.b j, q.o j, none⟩, q.c j, rfl, by omega, ⟨hc, hm, fun h => by cases h⟩, fun _ => ⟨q.b j, q.o j, rfl, fun i hi => ?_⟩⟩
    obtain ⟨u, hu, hl, hx⟩ := h.old j hj (Nat.zero_le _) i hi
    have hb := (h.box j hj hne).1
    obtain ⟨x0, x1, x2, x3, x4, x5, x6, x7, x8, x9⟩ := hx
    exact ⟨u, ⟨hb.cell _ _ x0, hb.cell _ _ x1, hb.cell _ _ x2, hb.cell _ _ x3, hb.cell _ _ x4, hb.cell _ _ x5, hb.cell _ _ x6, hb.cell _ _ x7, hb.cell _ _ x8, hb.cell _ _ x9⟩, (h.row.row _ _ _ hu hl).ints⟩
theorem heldRowS_empty (a : Option Addr) (c : Nat) (k : Int) (w : World) : Calls Try.prog 105 #[.slice a 0 c, .int .i64 k] w (IntExt k w) := by
  go_enter Try.func105, Try.ntmps105
  go_wp2
  refine wp_loop_rounds 1 ?_; rw [rounds_succ]
  go_wp2
  go_ret
  exact ⟨rfl, Ext.refl _⟩
set_option maxHeartbeats 4000000 in
set_option maxRecDepth 100000 in
theorem heldTabW_yes (g0 cap : Nat) (q : WinT) (T : List (List RowD)) (k : Int) (w : World) (hx : HeldT w g0 q k T) (h0 : 0 ≤ k) (hk : k ≤ 1073741824) (h1 : bulkT T ≤ 10995116277) :
    Calls Try.prog 79 #[.slice (some ⟨g0, 0, none⟩) T.length cap, .int .i64 k] w (IntExt (k + (weighs T).sum) w) := by
  have hws := weighs_sum T
  have HX := Lib.hid hx
  have HWS := Lib.hid hws
  have H1 := Lib.hid h1
  have hLen : T.length ≤ 1099511627776 := by unfold bulkT at h1; omega
  clear hx hws h1
  go_enter Try.func79, Try.ntmps79
  go_wp2
  go_loopw [1, 5] (fun m i wr => ∃ (j : Nat) (r : Int), j ≤ T.length ∧ i = .int .i64 j ∧ m = .int .i64 r ∧ Hid (r = k + sumN (weighs T) j) ∧ Hid (Ext w wr)) (fun _ i _ => T.length - (intOf i).toNat)
  case atStart => exact ⟨0, k, Nat.zero_le _, rfl, rfl, Lib.hid (by rw [sumN_zero]; simp), Lib.hid (Ext.refl _)⟩
  case round =>
    obtain ⟨j, r, hj, rfl, rfl, hr, hE⟩ := hrel
    by_cases hlt : j < T.length
    · have hr0 : 0 ≤ r := by have := hr.out; omega
      have hr1 : r ≤ 1099511627776 := by
        have h := hr.out
        have h2 := sumN_mono (g := weighs T) (k := j) (by rw [weighs_len]; omega)
        have := HWS.out; have := H1.out; omega
      have hs := sumN_succ (g := weighs T) (k := j) (by rw [weighs_len]; exact hlt)
      rw [weighs_get hlt] at hs
      have HSU := Lib.hid hs
      clear hs
      rcases HX.out j hlt with ⟨he, a, c, hc⟩ | ⟨hne, hc, hh⟩
      · have hc := hE.out.cell hc
        have HE := Lib.hid he
        clear he
        go_wp2_with fail
        refine (heldRowS_empty _ _ _ _).mono ?_
        rintro e w3 ⟨rfl, x3⟩
        have hE3 := Lib.hid (hE.out.trans x3)
        clear hc x3
        go_wp2
        go_roundw
        case rel => exact ⟨j + 1, r, by omega, by go_num, rfl, Lib.hid (by have h1 := hr.out; have h2 := HSU.out; have h3 := HE.out; rw [h3] at h2; simp [weigh] at h2; omega), hE3⟩
        case measure => simp [intOf]; omega
      · have hc := hE.out.cell hc
        have hlen : bulkR T[j] ≤ 1099511627776 := by have := bulkT_row hlt; have := H1.out; omega
        have hcall := fun W (e : Ext w W) => heldRowW_yes (q.b j) (q.o j) (q.c j) T[j] r W (fun i hi => by rw [hr.out]; exact (hh i hi).ext e) hr0 hr1 hlen
        have HCALL := Lib.hid hcall
        obtain ⟨n, hn⟩ : ∃ n, n = T[j].length := ⟨_, rfl⟩
        rw [← hn] at hc
        have HN := Lib.hid hn
        have hwj := weigh_sum T[j]
        obtain ⟨s, hsd⟩ : ∃ s, s = (weigh T[j]).sum := ⟨_, rfl⟩
        rw [← hsd] at hwj
        have HSD := Lib.hid hsd
        have hs1 : s ≤ 109951162770 := by have := bulkT_row hlt; have := H1.out; omega
        clear hcall hne hn hsd hwj hh
        go_wp2_with fail
        rw [HN.out]
        refine (HCALL.out _ hE.out).mono ?_
        rintro e w3 ⟨rfl, x3⟩
        have hE3 := Lib.hid (hE.out.trans x3)
        rw [← HSD.out]
        have hq0 : 0 ≤ r + (s : Int) := by omega
        clear hc x3
        go_wp2
        go_roundw
        case rel => exact ⟨j + 1, r + s, by omega, by go_num, rfl, Lib.hid (by have h1 := hr.out; have h2 := HSU.out; have h3 := HSD.out; omega), hE3⟩
        case measure => simp [intOf]; omega
    · obtain rfl : j = T.length := by omega
      go_wp2
      go_ret
      refine ⟨?_, hE.out⟩
      have h := hr.out
      have h2 := sumN_all (weighs T)
      rw [weighs_len] at h2
      rw [h2] at h
      rw [h]; rfl
end Go.Proofs.Ytfffddhfagibpaa

namespace Go.Proofs.Ytfffddhfagibpaa
open Go.RowKit
set_option linter.unusedVariables false

theorem step_push {ops : Array Oper} {o : Oper} {a : Act} {w : World} {K : Act → World → Prop} {Q : Exit → Act → World → Prop} {E : Prop} (hgd : o.guard = none) (s x : Operand)
    (ho : o.op = .call { callee := .builtin .append, args := #[s, x], argTypes := #[22, 22] })
    (B : Nat) (v : Value) (l : List Int) (n : Int) (hs : a.eval s = v) (hf : Fresh B w v l) (ad : Addr) (c : Nat) (hx : a.eval x = .slice (some ad) 1 c)
    (hc : w.cell? ad = some (.int .i64 n)) (m : Nat) (hm : l.length = m) (hl : m ≤ 1099511627776) (hB : B ≤ w.heap.size)
    (h : ∀ ao cap w', Fresh B w' (.slice ao (m + 1) cap) (l ++ [n]) → w.grownBy w' v.ownBlock → K (a.put o.dst (.slice ao (m + 1) cap)) w') : if Region.wanted o (yielded ops a.tmps) = true then Oper.wp Try.prog o a w K Q else E := by
  obtain ⟨i0, hi, hz0, hz1, hz2⟩ := info_parts Try.infoInt
  have hw : Region.wanted o (yielded ops a.tmps) = true := by simp [Region.wanted, hgd]
  rw [if_pos hw]
  refine wp_append_own w s x 22 ho B 3 i0 (.int .i64 0) 1 8 Try.underlying22 hi hz0 hz1 hz2 rfl (by decide) v l.length _ hs hf ad 1 c [.int .i64 n] hx rfl ?_ ?_ ?_ ?_ hB ?_
  · intro j u hj
    match j, hj with
    | 0, hj => simp at hj; subst hj; simpa [Addr.add] using hc
  · intro u hu; simp at hu; subst hu; rfl
  · unfold maxLen; omega
  · omega
  · intro v' w' ho' hg _
    have hf' : Fresh B w' v' (l ++ [n]) := by
      unfold Fresh
      rw [List.map_append, List.length_append]; exact ho'
    obtain ⟨ao, cap, rfl⟩ := hf'.form
    have e : (l ++ [n]).length = m + 1 := by simp [hm]
    rw [e] at hf' ⊢
    exact h ao cap w' hf' hg

theorem far_cell {B b o : Nat} {wr W W' : World} {v x : Value} {l : List Int} (f : Fresh B wr v l) (e : Ext wr W) (t : W.grownBy W' v.ownBlock) (hc : wr.cell? ⟨b, o, none⟩ = some x) (hb : b < B) : W'.cell? ⟨b, o, none⟩ = some x := cell_marked f t (e.cell hc) (.inl hb)
theorem far_free {B b o : Nat} {wr W W' : World} {v x : Value} {l : List Int} (f : Fresh B wr v l) (e : Ext wr W) (t : W.grownBy W' v.ownBlock) (hc : wr.cell? ⟨b, 0, none⟩ = some x) (hz : wr.frozen? ⟨b, o, none⟩ = false) (hb : b < B) : W'.frozen? ⟨b, o, none⟩ = false := by
  have hlt : b < wr.heap.size := World.block_lt_of_cell? wr _ hc
  have h := World.grownBy.frozen_far t ⟨b, o, none⟩ (Nat.lt_of_lt_of_le hlt e.size) (fun e' => by
    have := (World.ownsRow.lt f b e'.symm).1
    omega)
  rw [h]
  exact e.frozen hlt hz
theorem far_attr {B b : Nat} {wr W W' : World} {v u : Value} {s : Int} {l : List Int} (f : Fresh B wr v l) (e : Ext wr W) (t : W.grownBy W' v.ownBlock) (h : AttrAt wr b s u) (hb : b < B) : AttrAt W' b s u := ⟨far_cell f e t h.1 hb, far_cell f e t h.2 hb⟩
theorem far_open {B b : Nat} {wr W W' : World} {v u : Value} {s : Int} {l : List Int} (f : Fresh B wr v l) (e : Ext wr W) (t : W.grownBy W' v.ownBlock) (h : OpenAt wr b s u) (hb : b < B) : OpenAt W' b s u :=
  ⟨far_attr f e t h.1 hb, far_free f e t h.1.1 h.2.1 hb, far_free f e t h.1.1 h.2.2 hb⟩
theorem cell_other {W : World} {g o : Nat} {a : Addr} {z u : Value} (hne : a.block ≠ g) (h : W.cell? a = some u) : (W.setCell ⟨g, o, none⟩ z).cell? a = some u := by
  have hh := Below.heap_setCell W ⟨g, o, none⟩ z a.block hne
  have e : (W.setCell ⟨g, o, none⟩ z).cell? a = W.cell? a := by unfold World.cell?; rw [hh]
  rw [e]; exact h
theorem AttrAt.other {w : World} {b g o : Nat} {s : Int} {u z : Value} (h : AttrAt w b s u) (hne : b ≠ g) : AttrAt (w.setCell ⟨g, o, none⟩ z) b s u := ⟨cell_other hne h.1, cell_other hne h.2⟩
theorem OpenAt.other {w : World} {b g o : Nat} {s : Int} {u z : Value} (h : OpenAt w b s u) (hne : b ≠ g) : OpenAt (w.setCell ⟨g, o, none⟩ z) b s u :=
  ⟨h.1.other hne, by rw [World.frozen?_setCell]; exact h.2.1, by rw [World.frozen?_setCell]; exact h.2.2⟩
theorem OpenAt.set1 {w : World} {b : Nat} {s : Int} {u z : Value} (h : OpenAt w b s u) : OpenAt (w.setCell ⟨b, 1, none⟩ z) b s z := by
  obtain ⟨⟨c0, c1⟩, z0, z1⟩ := h
  refine ⟨⟨?_, ?_⟩, ?_, ?_⟩ <;> go_simp

end Go.Proofs.Ytfffddhfagibpaa

namespace Go.Proofs.Ytfffddhfagibpaa
open Go.RowKit
set_option linter.unusedVariables false

theorem ownTab_new (m : Nat) (hm : m ≤ 5) (w : World) (lo : Nat) : OwnTab lo (w.alloc (.cells (Array.replicate m (.slice none 0 0)) 127)) w.heap.size m (List.replicate m (.slice none 0 0)) (List.replicate m []) := by
  have h := World.ownsRow_lit (e := 127) (size := 1) (base := 0) w (Array.replicate m (.slice none 0 0)) m (Nat.zero_le _) (by unfold maxLen; omega) (by simp)
  refine ⟨by simpa using h, by simp, by simp, fun k v L hv hL => ?_, fun i j u v _ hu _ => ?_, fun L hL x hx => ?_⟩
  · rw [List.getElem?_replicate] at hv hL
    split at hv
    · rw [if_pos (by assumption)] at hL
      cases hv; cases hL
      exact FreshZ.nil _ _
    · cases hv
  · rw [List.getElem?_replicate] at hu
    split at hu
    · cases hu; exact .inl rfl
    · cases hu
  · rw [(List.mem_replicate.1 hL).2] at hx
    cases hx
theorem OwnTab.set {lo g m b o : Nat} {w : World} {vs : List Value} {P : List (List (RowD × Value))} (h : OwnTab lo w g m vs P) (x : Value) (hg : b ≠ g) (hb : b < lo) : OwnTab lo (w.setCell ⟨b, o, none⟩ x) g m vs P :=
  ⟨World.ownsRow.kept h.out (grownBy_set w b o x) (.inr (fun e => hg (Option.some.inj e).symm)), h.vl, h.pl, fun k v L hv hL => World.ownsRow.kept (h.row k v L hv hL) (grownBy_set w b o x) (by
    cases hv' : v.ownBlock with
    | none => exact .inl rfl
    | some q => exact .inr (fun e => by have := (World.ownsRow.lt (h.row k v L hv hL) q hv').1; have := Option.some.inj e; omega)), h.apart, fun L hL y hy => (h.dep L hL y hy).set _ _ _ hb⟩
theorem OwnTab.more {lo lo' g m : Nat} {w : World} {vs : List Value} {P : List (List (RowD × Value))} (h : OwnTab lo w g m vs P) (k : lo' ≤ lo) : OwnTab lo' w g m vs P :=
  ⟨h.out, h.vl, h.pl, fun i v L hv hL => ownsRow_more (h.row i v L hv hL) k, h.apart, fun L hL y hy => (h.dep L hL y hy).more k⟩
def NewOwnT (n : Int) (T : List (List RowD)) (w : World) (e : Ending) (w' : World) : Prop :=
  ∃ g vs P, e = .returned (.agg #[.int .i64 n, .slice (some ⟨g, 0, none⟩) T.length T.length]) ∧ OwnTab (g + 1) w' g T.length vs P ∧ rowsP P = T ∧ w.heap.size ≤ g ∧ Ext w w'

theorem l4New_own (m : Nat) (hm : m = 3 ∨ m = 5) (w : World) :
    Calls Try.prog 114 #[.int .i64 m] w (fun e w' => e = .returned (.agg #[.int .i64 m, .slice (some ⟨w.heap.size + 1, 0, none⟩) m m]) ∧ w' = ((w.alloc (.cells #[.int .i64 m, .slice (some ⟨w.heap.size + 1, 0, none⟩) m m] 67)).alloc (.cells (Array.replicate m (.slice none 0 0)) 127))) := by
  have hmk := makeT_m m hm
  clear hm
  go_enter Try.func114, Try.ntmps114
  go_wp2
  exact bodyPost_ret (v := .agg #[.int .i64 m, .slice (some ⟨w.heap.size + 1, 0, none⟩) m m]) (by simp [results, Try.results114, go_sem]) rfl ⟨rfl, rfl⟩

theorem rowQ_in {T : List (List RowD)} {p j : Nat} {Q : List RowD} {hp : p < T.length} (h : Q = T[p]) (hj : j < Q.length) : ∃ h' : j < T[p].length, T[p][j] = Q[j] := by
  subst h
  exact ⟨hj, rfl⟩
theorem farZ {lo b o : Nat} {w W W' : World} {v x : Value} {L : List (RowD × Value)} (f : FreshZ lo w v L) (e : Ext w W) (t : W.grownBy W' v.ownBlock) (hc : w.cell? ⟨b, o, none⟩ = some x) (hb : b < lo) : W'.cell? ⟨b, o, none⟩ = some x :=
  World.grownBy.cell t (e.cell hc) (fun e' => by
    have := (World.ownsRow.lt f b e'.symm).1
    omega)
theorem farZ_free {lo b o : Nat} {w W W' : World} {v x : Value} {L : List (RowD × Value)} (f : FreshZ lo w v L) (e : Ext w W) (t : W.grownBy W' v.ownBlock) (hc : w.cell? ⟨b, o, none⟩ = some x) (hz : w.frozen? ⟨b, o, none⟩ = false) (hb : b < lo) : W'.frozen? ⟨b, o, none⟩ = false := by
  have hlt : b < w.heap.size := World.block_lt_of_cell? w _ hc
  have h := World.grownBy.frozen_far t ⟨b, o, none⟩ (Nat.lt_of_lt_of_le hlt e.size) (fun e' => by
    have := (World.ownsRow.lt f b e'.symm).1
    omega)
  rw [h]
  exact e.frozen hlt hz
theorem rowIn_alloc (w : World) (T : TypeId) (r : RowD) (u : Value) : RowIn (w.alloc (.cells #[.int .i64 r.b, .int .i64 r.v, .int .i64 r.st, .int .i64 r.k, .int .i64 r.i, .int .i64 r.f, .int .i64 r.t, .int .i64 r.a, .int .i64 r.s, u] T)) w.heap.size 0 r u := by
  refine ⟨?_, ?_, ?_, ?_, ?_, ?_, ?_, ?_, ?_, ?_⟩ <;> go_simp
/-- What stands while the table is copied: the copy, the box that holds it, the box of the result. -/
structure OwnS (w wr : World) (g N m : Nat) (vs : List Value) (P : List (List (RowD × Value))) : Prop where
  tab : OwnTab (N + 1) wr g m vs P
  box : AttrAt wr N m (.slice (some ⟨g, 0, none⟩) m m)
  res : OpenAt wr (w.heap.size + 1) 0 (.slice none 0 0)
  ext : Ext w wr
  lo : N + 1 ≤ wr.heap.size
theorem OwnS.on {w wr w' : World} {g N m : Nat} {vs : List Value} {P : List (List (RowD × Value))} (h : OwnS w wr g N m vs P) (e : Ext wr w') : OwnS w w' g N m vs P := ⟨h.tab.ext e, h.box.ext e, h.res.ext e, h.ext.trans e, Nat.le_trans h.lo e.size⟩
theorem OwnS.grow {w wr W W' : World} {g N m k : Nat} {vs : List Value} {P : List (List (RowD × Value))} {v v' : Value} {L : List (RowD × Value)} {x : RowD × Value} (h : OwnS w wr g N m vs P) (hk : vs[k]? = some v) (hP : P[k]? = some L) (e : Ext wr W) (hgN : g < N) (hwg : w.heap.size + 1 < g)
    (t : W.grownBy W' v.ownBlock) (f : FreshZ (N + 1) W' v' (L ++ [x])) (loc : v'.ownBlock = v.ownBlock ∨ v'.ownBlock = some W.heap.size) (hx : Fresh (N + 1) W x.2 x.1.l) :
    OwnS w (W'.setCell ⟨g, k, none⟩ v') g N m (vs.set k v') (P.set k (L ++ [x])) := by
  have hz := h.tab.row k v L hk hP
  have hs := t.size
  have he := e.size
  refine ⟨(h.tab.ext e).grow hk hP t f loc hx, ?_, ?_, ?_, ?_⟩
  · have h0 : AttrAt W' N m (.slice (some ⟨g, 0, none⟩) m m) := ⟨farZ hz e t h.box.1 (by omega), farZ hz e t h.box.2 (by omega)⟩
    exact h0.other (by omega)
  · have h0 : OpenAt W' (w.heap.size + 1) 0 (.slice none 0 0) := ⟨⟨farZ hz e t h.res.1.1 (by omega), farZ hz e t h.res.1.2 (by omega)⟩, farZ_free hz e t h.res.1.1 h.res.2.1 (by omega), farZ_free hz e t h.res.1.2 h.res.2.2 (by omega)⟩
    exact h0.other (by omega)
  · have h0 : Ext w W' := Below.grown (h.ext.trans e) t (h.ext.trans e).size (fun b hb => by
      have := (World.ownsRow.lt hz b hb).1
      have := h.ext.size
      omega)
    exact h0.setc (by dsimp only; omega)
  · simp only [World.size_setCell]
    have := h.lo
    omega

set_option maxHeartbeats 8000000 in
set_option maxRecDepth 100000 in
theorem l4Own_any (n : Int) (u : Value) (T : List (List RowD)) (w : World) (hu : Rowzz w u T) (hg : goodTab n T = true) :
    Calls Try.prog 91 #[.agg #[.int .i64 n, u]] w (NewOwnT n T w) := by
  obtain ⟨hgrp, hlen, hrows⟩ := goodTab_of hg
  subst hlen
  have hm35 : T.length = 3 ∨ T.length = 5 := by rcases isGrp_of hgrp with h | h <;> omega
  have HM := Lib.hid hm35
  have hm5 : T.length ≤ 5 := by omega
  obtain ⟨au, cu, rfl, hlu, _, hcu⟩ := hu
  unfold maxLen at hlu
  have HCU := Lib.hid hcu
  have HR := Lib.hid hrows
  have HG := Lib.hid hg
  obtain ⟨wb, hwb⟩ : ∃ wb, wb = (w.alloc (.cells #[.int .i64 T.length, .slice au T.length cu] 67)).alloc (.cells #[.int .i64 0, .slice none 0 0] 67) := ⟨_, rfl⟩
  have sb : wb.heap.size = w.heap.size + 2 := by rw [hwb]; simp
  have xb : Ext w wb := by rw [hwb]; exact Ext.alloc2 _ _ _
  have hres : OpenAt wb (w.heap.size + 1) 0 (.slice none 0 0) := by rw [hwb]; refine ⟨⟨?_, ?_⟩, ?_, ?_⟩ <;> go_simp
  have c1 : wb.cell? ⟨w.heap.size, 1, none⟩ = some (.slice au T.length cu) := by rw [hwb]; go_simp
  have HWB := Lib.hid hwb
  clear hcu hrows hg hgrp hm35 hwb
  go_enter Try.func91, Try.ntmps91
  go_wp2_with fail
  rw [← HWB.out]
  refine (l4New_own T.length HM.out _).mono ?_
  rintro e w1 ⟨rfl, hw1⟩
  rw [sb] at hw1 ⊢
  have x1 : Ext wb w1 := by rw [hw1]; exact Ext.alloc2 _ _ _
  have sz1 : w1.heap.size = w.heap.size + 4 := by rw [hw1]; simp [sb]
  have ht : OwnTab (w.heap.size + 5) w1 (w.heap.size + 3) T.length (List.replicate T.length (.slice none 0 0)) (List.replicate T.length []) := by
    have h := ownTab_new T.length hm5 (wb.alloc (.cells #[.int .i64 T.length, .slice (some ⟨w.heap.size + 2 + 1, 0, none⟩) T.length T.length] 67)) (w.heap.size + 5)
    rw [World.size_alloc, sb] at h
    rw [hw1]
    exact h
  have x2 := Ext.alloc1 w1 (.cells #[.int .i64 T.length, .slice (some ⟨w.heap.size + 3, 0, none⟩) T.length T.length] 67)
  have hs : OwnS w (w1.alloc (.cells #[.int .i64 T.length, .slice (some ⟨w.heap.size + 3, 0, none⟩) T.length T.length] 67)) (w.heap.size + 3) (w.heap.size + 4) T.length (List.replicate T.length (.slice none 0 0)) (List.replicate T.length []) := by
    refine ⟨ht.ext x2, ?_, (hres.ext x1).ext x2, (xb.trans x1).trans x2, by rw [World.size_alloc, sz1]; exact Nat.le_refl _⟩
    have h := attrAt_new w1 67 T.length (.slice (some ⟨w.heap.size + 3, 0, none⟩) T.length T.length)
    rw [sz1] at h
    exact h
  have g1 := x1.cell c1
  have HS := Lib.hid hs
  have SZ := Lib.hid sz1
  clear hw1 ht hs x1 xb hres c1 sb
  go_wp2
  clear g1
  go_loopw [14] (fun i wr => ∃ (k : Nat) (vs : List Value) (P : List (List (RowD × Value))), k ≤ T.length ∧ i = .int .i64 k ∧ Hid (OwnS w wr (w.heap.size + 3) (w.heap.size + 4) T.length vs P) ∧ Hid (rowsP P = copT T T.length k 0)) (fun i _ => T.length - (intOf i).toNat)
  case atStart =>
    have h := HS.out
    exact ⟨0, _, _, Nat.zero_le _, rfl, Lib.hid h, Lib.hid (by rw [copT_zero]; simp [rowsP])⟩
  case round =>
    clear HS
    obtain ⟨k, vs, P, hk, rfl, HS, HP⟩ := hrel
    by_cases hlt : k < T.length
    · obtain ⟨bu, ou, rfl, du⟩ := HCU.out (by omega)
      obtain ⟨x, hx1, ix⟩ := du k hlt
      have gu := HS.out.ext.cell hx1
      obtain ⟨R, hR⟩ : ∃ R, R = T[k] := ⟨_, rfl⟩
      rw [← hR] at ix
      have hgr : ∀ r ∈ R, goodRow T.length r = true := by rw [hR]; exact (HR.out _ (List.getElem_mem hlt)).2
      have hl6 : R.length ≤ 6 := by rw [hR]; exact (HR.out _ (List.getElem_mem hlt)).1
      obtain ⟨ax, cx, rfl, hlx, _, hcx⟩ := ix
      unfold maxLen at hlx
      have HRR := Lib.hid hR
      have HCX := Lib.hid hcx
      have HLT := Lib.hid hlt
      have HP0 : Hid (rowsP P = copT T T.length k 0) := HP
      clear du hx1 hR hgr hcx
      go_wp2
      clear gu
      go_loopw [21] (fun i wr => ∃ (j : Nat) (vs : List Value) (P : List (List (RowD × Value))), j ≤ R.length ∧ i = .int .i64 j ∧ Hid (OwnS w wr (w.heap.size + 3) (w.heap.size + 4) T.length vs P) ∧ Hid (rowsP P = copT T T.length k j)) (fun i _ => R.length - (intOf i).toNat)
      case atStart => exact ⟨0, vs, P, Nat.zero_le _, rfl, HS, HP0⟩
      case round =>
        clear HS HP HP0
        obtain ⟨j, vs, P, hj, rfl, HS, HP⟩ := hrel
        by_cases hjt : j < R.length
        · obtain ⟨bx, ox, rfl, dx⟩ := HCX.out (by omega)
          obtain ⟨y, hy1, iy⟩ := dx j hjt
          obtain ⟨d, hd⟩ : ∃ d, d = R[j] := ⟨_, rfl⟩
          rw [← hd] at hy1 iy
          obtain ⟨g0, g1, g2, g3, g4, g5, g6, g7, g8, g9⟩ := hy1.ext HS.out.ext
          have hi7 := iy.ext (HS.out.ext.trans (Ext.alloc1 wr (.cells #[.int .i64 d.b, .int .i64 d.v, .int .i64 d.st, .int .i64 d.k, .int .i64 d.i, .int .i64 d.f, .int .i64 d.t, .int .i64 d.a, .int .i64 d.s, y] 73)))
          obtain ⟨ay, cy, rfl, _⟩ := id iy
          have hdl : d.l.length ≤ 1048576 := by
            obtain ⟨hj', ej⟩ := rowQ_in HRR.out hjt
            rw [← hd] at ej
            have h := (goodTab_row HG.out HLT.out hj').2.2
            rw [ej] at h
            omega
          obtain ⟨v, L, hv, hL, q0, q1, fz⟩ := HS.out.tab.at HLT.out
          obtain ⟨av, cv, rfl⟩ := fz.form
          have hLl : L.length = j := by
            have h := congrArg (fun Z => (Z[k]?.getD []).length) HP.out
            unfold rowsP at h
            rw [List.getElem?_map, hL, copT_at HLT.out] at h
            simp only [Option.map_some, Option.getD_some, List.length_map] at h
            rw [h]
            unfold copL
            rw [if_neg (by omega), if_pos rfl, List.getElem?_eq_getElem HLT.out, Option.getD_some, ← HRR.out, List.length_take]
            omega
          obtain ⟨w7, hw7⟩ : ∃ w7, w7 = wr.alloc (.cells #[.int .i64 d.b, .int .i64 d.v, .int .i64 d.st, .int .i64 d.k, .int .i64 d.i, .int .i64 d.f, .int .i64 d.t, .int .i64 d.a, .int .i64 d.s, .slice ay d.l.length cy] 73) := ⟨_, rfl⟩
          have x7 : Ext wr w7 := by rw [hw7]; exact Ext.alloc1 _ _
          obtain ⟨p0, p1, p2, p3, p4, p5, p6, p7, p8, p9⟩ : RowIn w7 wr.heap.size 0 d (.slice ay d.l.length cy) := by rw [hw7]; exact rowIn_alloc wr _ d _
          rw [← hw7] at hi7
          have S7 := Lib.hid (HS.out.on x7)
          have F7 := Lib.hid (FreshZ.ext fz x7)
          have a0 := S7.out.box.1
          have a1 := S7.out.box.2
          have e0 := x7.cell q0
          have HW7 := Lib.hid hw7
          have HI7 := Lib.hid hi7
          have HDL := Lib.hid hdl
          have HJT := Lib.hid hjt
          have HD := Lib.hid hd
          have HV := Lib.hid hv
          have HL := Lib.hid hL
          have HLL := Lib.hid hLl
          rw [hLl] at e0 F7 HV fz
          have lo7 : w.heap.size + 5 ≤ w7.heap.size := S7.out.lo
          clear dx hy1 iy hi7 hd hv hL hLl x7 hw7 HS fz q0 q1 hdl
          go_wp2
          rw [← HW7.out]
          have L73 : Hid (w.heap.size + 3 < w7.heap.size) := Lib.hid (by omega)
          have L74 : Hid (w.heap.size + 4 < w7.heap.size) := Lib.hid (by omega)
          go_region_law (first | (refine step_pushRow rfl (.tmp 32) (.tmp 35) rfl (w.heap.size + 5) (.slice av j cv) L d a9 d.l.length c9 rfl (FreshZ.ext F7.out (Ext.alloc x8 _)) w8.heap.size 1 rfl (rowIn_alloc w8 _ d _) j HLL.out (by omega) (by have := x8.size; rw [World.size_alloc]; omega) ?_; intro ao' c' W' hf' hg' hloc'; have m0 := farZ F7.out (Ext.alloc x8 _) hg' a0 (by omega); have m1 := farZ F7.out (Ext.alloc x8 _) hg' a1 (by omega); have m2 := farZ F7.out (Ext.alloc x8 _) hg' e0 (by omega); have m3 := farZ_free F7.out (Ext.alloc x8 _) hg' e0 (S7.out.tab.out.frozenAt k) (by omega)) | (go_simp; go_at_call 92; refine (l4OwnRow_any d _ _ (HI7.out.ext (Ext.drew (Ext.refl _))) HDL.out).mono ?_; rintro e w8 ⟨y9, rfl, f9, x8'⟩; obtain ⟨a9, c9, rfl⟩ := f9.form; have x8 : Ext w7 w8 := (Ext.drew (Ext.refl _)).trans x8'; have b0 := x8.cell a0; have b1 := x8.cell a1; have b2 := x8.cell e0; have l3 : w.heap.size + 3 < w8.heap.size := Nat.lt_of_lt_of_le L73.out x8.size; have l4 : w.heap.size + 4 < w8.heap.size := Nat.lt_of_lt_of_le L74.out x8.size; have l5 : w.heap.size + 3 ≠ w8.heap.size := Nat.ne_of_lt l3; have l6 : w.heap.size + 4 ≠ w8.heap.size := Nat.ne_of_lt l4))
          all_goals
            have F9 : Fresh (w.heap.size + 5) (w8.alloc (.cells #[.int .i64 d.b, .int .i64 d.v, .int .i64 d.st, .int .i64 d.k, .int .i64 d.i, .int .i64 d.f, .int .i64 d.t, .int .i64 d.a, .int .i64 d.s, .slice a9 d.l.length c9] 73)) (.slice a9 d.l.length c9) d.l := (f9.more (by simp; omega)).ext (Ext.alloc1 _ _)
            have hN := Lib.hid (S7.out.grow HV.out HL.out (Ext.alloc x8 _) (by omega) (by omega) hg' hf' hloc' F9)
            have hPN : Hid (rowsP (P.set k (L ++ [(d, .slice a9 d.l.length c9)])) = copT T T.length k (j + 1)) := Lib.hid (by
              obtain ⟨hj', ej⟩ := rowQ_in HRR.out HJT.out
              rw [rowsP_grow HL.out, HP.out, ← copT_step HLT.out HLT.out hj', ej, HD.out])
            clear F9 f9 x8 x8' hg' hf' hloc' m0 m1 m2 m3 b0 b1 b2 l3 l4 l5 l6 a0 a1 e0 p0 p1 p2 p3 p4 p5 p6 p7 p8 p9
            go_wp2
            go_roundw
            case rel => exact ⟨j + 1, _, _, by have := HJT.out; omega, by go_num, hN, hPN⟩
            case measure => simp [intOf]; have := HJT.out; omega
        · obtain rfl : j = R.length := by omega
          have HPN : Hid (rowsP P = copT T T.length (k + 1) 0) := Lib.hid (by rw [HP.out, HRR.out, copT_next HLT.out])
          go_wp2
          go_roundw
          case rel => exact ⟨k + 1, vs, P, by have := HLT.out; omega, by go_num, HS, HPN⟩
          case measure => simp [intOf]; have := HLT.out; omega
    · obtain rfl : k = T.length := by omega
      have HPN : Hid (rowsP P = T) := Lib.hid (by rw [HP.out, copT_all])
      obtain ⟨a0, a1⟩ := HS.out.box
      obtain ⟨⟨z0, z1⟩, f0, f1⟩ := HS.out.res
      have HF := Lib.hid (((HS.out.tab.set (b := w.heap.size + 1) (o := 0) (.int .i64 T.length) (by omega) (by omega)).set (b := w.heap.size + 1) (o := 1) (.slice (some ⟨w.heap.size + 3, 0, none⟩) T.length T.length) (by omega) (by omega)))
      have HX := Lib.hid ((HS.out.ext.setc (a := ⟨w.heap.size + 1, 0, none⟩) (v := .int .i64 T.length) (by dsimp only; omega)).setc (a := ⟨w.heap.size + 1, 1, none⟩) (v := .slice (some ⟨w.heap.size + 3, 0, none⟩) T.length T.length) (by dsimp only; omega))
      go_wp2
      refine bodyPost_ret (v := .agg #[.int .i64 T.length, .slice (some ⟨w.heap.size + 3, 0, none⟩) T.length T.length]) (by simp [results, Try.results91, go_sem, z0, z1]) rfl ⟨w.heap.size + 3, vs, P, rfl, HF.out.more (by omega), HPN.out, by omega, HX.out⟩
end Go.Proofs.Ytfffddhfagibpaa

namespace Go.Proofs.Ytfffddhfagibpaa
open Go.RowKit
set_option linter.unusedVariables false

theorem mAt_small {T : List (List RowD)} (h : ∀ R ∈ T, R.length ≤ 6) : ∀ i, i ≤ T.length → mAt T i ≤ 6 * i := by
  intro i
  induction i with
  | zero => intro _; unfold mAt; rw [sumN_zero]; exact Nat.le_refl _
  | succ i ih =>
    intro hi
    have h1 := ih (by omega)
    rw [mAt_succ (show i < T.length by omega)]
    have := h _ (List.getElem_mem (show i < T.length by omega))
    omega
/-- What is left of the block from list k on. -/
def LeftAt (B cap : Nat) (T : List (List RowD)) (k : Nat) (v : Value) : Prop := ∃ a, v = .slice a (mAt T T.length - mAt T k) (cap - mAt T k) ∧ (mAt T k < cap → a = some ⟨B, mAt T k * 10, none⟩)
/-- What else stands while a table is copied: the box of the copy, of the result, of the table that came. -/
structure CopW (w wr : World) (N g m lo : Nat) : Prop where
  box : AttrAt wr N m (.slice (some ⟨g, 0, none⟩) m m)
  res : OpenAt wr (w.heap.size + 1) 0 (.slice none 0 0)
  arg : wr.cell? ⟨w.heap.size, 0, none⟩ = some (.int .i64 m)
  ext : Ext w wr
  lo : lo ≤ wr.heap.size
theorem CopW.on {w wr w' : World} {N g m lo : Nat} (h : CopW w wr N g m lo) (e : Ext wr w') : CopW w w' N g m lo := ⟨h.box.ext e, h.res.ext e, e.cell h.arg, h.ext.trans e, Nat.le_trans h.lo e.size⟩
theorem CopW.grown {w wr w' : World} {N g m lo b : Nat} (h : CopW w wr N g m lo) (t : wr.grownBy w' (some b)) (hN : N ≠ b) (hb : w.heap.size + 2 ≤ b) : CopW w w' N g m lo := by
  have f : ∀ q o v, q ≠ b → wr.cell? ⟨q, o, none⟩ = some v → wr.frozen? ⟨q, o, none⟩ = false → w'.frozen? ⟨q, o, none⟩ = false := fun q o v hq hc hz => by
    rw [World.grownBy.frozen_far t ⟨q, o, none⟩ (World.block_lt_of_cell? wr _ hc) (by simpa using hq)]
    exact hz
  refine ⟨⟨World.grownBy.cell t h.box.1 (by simpa using hN), World.grownBy.cell t h.box.2 (by simpa using hN)⟩, ⟨⟨World.grownBy.cell t h.res.1.1 (by simp; omega), World.grownBy.cell t h.res.1.2 (by simp; omega)⟩, f _ _ _ (by omega) h.res.1.1 h.res.2.1, f _ _ _ (by omega) h.res.1.2 h.res.2.2⟩, World.grownBy.cell t h.arg (by simp; omega), Below.grown h.ext t h.ext.size (fun q hq => by have := Option.some.inj hq; omega), Nat.le_trans h.lo t.size⟩

theorem TabF.more {P Q : Nat → Prop} {g : Nat} {vs US : List Value} {q : WinT} {T : List (List RowD)} (h : TabF P g vs US q T) (k : ∀ b, P b → Q b) : TabF Q g vs US q T :=
  ⟨h.val, h.apart, h.lists, h.outer, ⟨k _ h.foot.1, fun i hi hne => k _ (h.foot.2.1 i hi hne), fun i u b hu hb => k _ (h.foot.2.2 i u b hu hb)⟩⟩
theorem TabS.set {P : Nat → Prop} {w : World} {g x i : Nat} {vs US : List Value} {LS : List (List Int)} {q : WinT} {XS : Nat → List Value} {k : Int} {T : List (List RowD)} (h : TabS w g vs US LS q XS k i T) (f : TabF P g vs US q T) (o : Nat) (v : Value) (hx : ¬ P x) : TabS (w.setCell ⟨x, o, none⟩ v) g vs US LS q XS k i T :=
  ⟨h.out.other _ _ (fun e => hx (by have e' : x = g := e; rw [e']; exact f.foot.1)), h.row.touch (grownBy_set w x o v) (fun j u hu => by
    cases hb : u.ownBlock with
    | none => exact .inl rfl
    | some b => exact .inr (fun e => hx (by rw [← Option.some.inj e]; exact f.foot.2.2 j u b hu hb))), fun j hj hne => ⟨(h.box j hj hne).1.other _ _ (fun e => hx (by have e' : x = q.b j := e; rw [e']; exact f.foot.2.1 j hj hne)), (h.box j hj hne).2⟩, h.new, h.old⟩
/-- Every list is full, and no list stands idle. -/
structure FullT (vs US : List Value) (T : List (List RowD)) : Prop where
  ul : US.length = mAt T T.length
  vl : vs.length = T.length
  at_ : ∀ i (h : i < T.length), ∃ a, vs[i]? = some (.slice a T[i].length T[i].length)
theorem CopS.full {lo g B J : Nat} {wr : World} {T : List (List RowD)} {vs US : List Value} {LS : List (List Int)} {xs : List Value} (h : CopS lo wr g B T vs US LS xs T.length J) (hJ : J = mAt T T.length) : FullT vs US T :=
  ⟨h.ul.trans hJ, h.vl, fun i hi => by
    rcases h.val i hi hi with ⟨e, a, ha⟩ | ⟨e, ha⟩
    · exact ⟨a, by rw [e]; exact ha⟩
    · exact ⟨_, ha⟩⟩
/-- A table comes back whose rows lie in windows of blocks made by the call. -/
def NewWinT (n : Int) (T : List (List RowD)) (w : World) (e : Ending) (w' : World) : Prop :=
  ∃ g vs US LS q XS, e = .returned (.agg #[.int .i64 n, .slice (some ⟨g, 0, none⟩) T.length T.length]) ∧ TabF (fun b => w.heap.size ≤ b ∧ b < w'.heap.size) g vs US q T ∧ (∀ k, TabS w' g vs US LS q XS k 0 T) ∧ Ext w w' ∧ FullT vs US T
/-- A copied row, its cells not told one by one. -/
theorem copyRow_veil {m : Nat} (hm : m = 3 ∨ m = 5) (r : RowD) (u : Value) (w : World) (hv : Ints w u r.l) (hl : r.l.length = m) :
    Calls Try.prog 101 #[.int .i64 m, .agg #[.int .i64 r.b, .int .i64 r.v, .int .i64 r.st, .int .i64 r.k, .int .i64 r.i, .int .i64 r.f, .int .i64 r.t, .int .i64 r.a, .int .i64 r.s, u]] w (fun e w' => ∃ (cs : Array Value) (z : Value), e = .returned (.agg cs) ∧ cs.toList = rowL r z ∧ cs.size = 10 ∧ Fresh w.heap.size w' z r.l ∧ Ext w w') :=
  (copyRow_nat m hm r u w hv hl).mono (by
    rintro e w' ⟨z, rfl, f, x⟩
    exact ⟨_, z, rfl, rfl, rfl, f, x⟩)
theorem storeRow_run {W : World} {B o lo : Nat} {xs : List Value} {d : RowD} {z : Value} {l : List Int} (h : BoxV W B xs) (ho : o + 10 ≤ xs.length) (hz : Fresh lo W z l) :
    Sem.run Try.prog (storeCells ⟨B, o, none⟩ (rowL d z)) W = .ok () (W.setCells B o (rowL d z)) := by
  obtain ⟨v0, v1, v2, v3, v4, v5, v6, v7, v8, v9, s0, s1, s2, s3, s4, s5, s6, s7, s8, s9⟩ := boxV_ten h ho
  have z0 := h.free o (by omega)
  have z1 := h.free (o + 1) (by omega)
  have z2 := h.free (o + 2) (by omega)
  have z3 := h.free (o + 3) (by omega)
  have z4 := h.free (o + 4) (by omega)
  have z5 := h.free (o + 5) (by omega)
  have z6 := h.free (o + 6) (by omega)
  have z7 := h.free (o + 7) (by omega)
  have z8 := h.free (o + 8) (by omega)
  have z9 := h.free (o + 9) (by omega)
  obtain ⟨az, kz, rfl⟩ := hz.form
  rw [setCells_row]
  unfold rowL
  go_simp
theorem lt10 {a n : Nat} (h : a + 10 ≤ n) (q : Nat) (hq : q < 10) : a + q < n := by omega
theorem outer2 (m : Nat) (hm : m ≤ 5) (w : World) (a b : Obj) : (((w.alloc a).alloc b).alloc (.cells (Array.replicate m (.slice none 0 0)) 127)).ownsRow 0 127 1 (.slice (some ⟨w.heap.size + 1 + 1, 0, none⟩) m m) m (List.replicate m (.slice none 0 0)) := by
  have h := (ownTab_new m hm ((w.alloc a).alloc b) 0).out
  have e : ((w.alloc a).alloc b).heap.size = w.heap.size + 1 + 1 := by simp
  rw [e] at h
  exact h
theorem outer3 (m : Nat) (hm : m ≤ 5) (w : World) (a b c : Obj) : ((((w.alloc a).alloc b).alloc c).alloc (.cells (Array.replicate m (.slice none 0 0)) 127)).ownsRow 0 127 1 (.slice (some ⟨w.heap.size + 1 + 1 + 1, 0, none⟩) m m) m (List.replicate m (.slice none 0 0)) := by
  have h := (ownTab_new m hm (((w.alloc a).alloc b).alloc c) 0).out
  have e : (((w.alloc a).alloc b).alloc c).heap.size = w.heap.size + 1 + 1 + 1 := by simp
  rw [e] at h
  exact h
set_option maxHeartbeats 8000000 in
set_option maxRecDepth 100000 in
theorem copyTable_any (n : Int) (u : Value) (T : List (List RowD)) (w : World) (hu : Rowzz w u T) (hg : goodTab n T = true) :
    Calls Try.prog 73 #[.agg #[.int .i64 n, u]] w (NewWinT n T w) := by
  obtain ⟨hgrp, hlen, hrows⟩ := goodTab_of hg
  subst hlen
  have hm35 : T.length = 3 ∨ T.length = 5 := by rcases isGrp_of hgrp with h | h <;> omega
  have hm5 : T.length ≤ 5 := by omega
  have hm3 : 3 ≤ T.length := by omega
  have HU := Lib.hid hu
  obtain ⟨au, cu, rfl, hlu, _, hcu⟩ := hu
  unfold maxLen at hlu
  have HCU := Lib.hid hcu
  have HR := Lib.hid hrows
  have HG := Lib.hid hg
  have HM := Lib.hid hm35
  have hmk := makeT_m T.length hm35
  clear hcu hrows hg hgrp hm35
  go_enter Try.func73, Try.ntmps73
  go_upto_region 1 with fail
  go_cut [3] (fun p wx => ∃ N g : Nat, p = .pointer (some ⟨N, 0, none⟩) ∧ CopW w wx N g T.length 0 ∧ wx.ownsRow 0 127 1 (.slice (some ⟨g, 0, none⟩) T.length T.length) T.length (List.replicate T.length (.slice none 0 0)) ∧ w.heap.size + 2 ≤ N ∧ w.heap.size + 2 ≤ g ∧ N ≠ g ∧ N < wx.heap.size ∧ wx.cell? ⟨w.heap.size, 1, none⟩ = some (.slice au T.length cu))
  case first =>
    go_region
    all_goals
      go_wp2_with fail
      go_meet
      first
        | (refine ⟨w.heap.size + 1 + 1, w.heap.size + 1 + 1 + 1, rfl, ⟨⟨?_, ?_⟩, ⟨⟨?_, ?_⟩, ?_, ?_⟩, ?_, Ext.drew (((((Ext.refl w).alloc _).alloc _).alloc _).alloc _), Nat.zero_le _⟩, Ext.ownsRow (Ext.drew (Ext.refl _)) (outer3 T.length hm5 w _ _ _), by omega, by omega, by omega, ?_, ?_⟩ <;> first | (go_simp; done) | (simp; done) | (simp; omega))
        | (refine ⟨w.heap.size + 1 + 1 + 1, w.heap.size + 1 + 1, rfl, ⟨⟨?_, ?_⟩, ⟨⟨?_, ?_⟩, ?_, ?_⟩, ?_, Ext.drew (((((Ext.refl w).alloc _).alloc _).alloc _).alloc _), Nat.zero_le _⟩, Ext.ownsRow (Ext.drew (Ext.alloc1 _ _)) (outer2 T.length hm5 w _ _), by omega, by omega, by omega, ?_, ?_⟩ <;> first | (go_simp; done) | (simp; done) | (simp; omega))
  case rest =>
    obtain ⟨N, g, rfl, hcw, hout, hN, hgg, hNg, hNs, c1⟩ := hcut
    have HCW := Lib.hid hcw
    have HOUT := Lib.hid hout
    have HNG := Lib.hid hNg
    have hb30 := mAt_small (T := T) (fun R hR => (HR.out R hR).1) T.length (Nat.le_refl _)
    have hsum : (lensC T).sum ≤ 1048576 := by rw [← mAt_all]; omega
    have hgs : g < wc.heap.size := (World.ownsRow.lt hout g rfl).2
    clear hcw hout hNg
    go_wp2_with fail
    refine (concatR_any _ T _ (HU.out.ext HCW.out.ext) hsum).mono ?_
    rintro e w4 ⟨vL, rfl, ⟨xs0, hown⟩, x4⟩
    rw [← mAt_all] at hown
    have hc1 := x4.cell c1
    obtain ⟨B, cap, xs, hleft, hcop, hBw, hcap1, hcap2⟩ : ∃ B cap xs, LeftAt B cap T 0 vL ∧ CopS w4.heap.size w4 g B T (List.replicate T.length (.slice none 0 0)) [] [] xs 0 (mAt T 0) ∧ (0 < mAt T T.length → w.heap.size + 2 ≤ B ∧ B ≠ N) ∧ mAt T T.length ≤ cap ∧ cap ≤ maxLen := by
      have hcs : ∀ (B : Nat) (xs : List Value), (0 < mAt T T.length → BoxV w4 B xs ∧ mAt T T.length * 10 ≤ xs.length ∧ B < w4.heap.size ∧ B ≠ g) → CopS w4.heap.size w4 g B T (List.replicate T.length (.slice none 0 0)) [] [] xs 0 (mAt T 0) := fun B xs hb =>
        ⟨x4.ownsRow HOUT.out, by simp, hb, Nat.lt_of_lt_of_le hgs x4.size, Rows_.nil _ _, by rw [mAt_zero]; rfl, fun i _ i' _ h => by rw [mAt_zero] at h; omega, fun i h => by omega⟩
      rcases id hown.2 with ⟨hv, h0⟩ | ⟨B, cap, cur, hv, hb, hg, hnc, hcm, hcs', htake⟩
      · refine ⟨0, 0, [], ⟨none, ?_, fun h => by omega⟩, hcs 0 [] (fun h => by omega), fun h => by omega, by omega, Nat.zero_le _⟩
        rw [hv, mAt_zero, h0]
      · subst hv
        have hlt := World.ownsRow.lt hown B rfl
        refine ⟨B, cap, xs0, ⟨some ⟨B, 0, none⟩, by rw [mAt_zero]; rfl, fun _ => by rw [mAt_zero]⟩, hcs B xs0 (fun hp => ⟨⟨fun j v hj => ?_, fun j _ => hown.frozenAt j, hlt.2⟩, by rw [hown.1]; exact Nat.le_refl _, hlt.2, by omega⟩), fun _ => by omega, hnc, hcm⟩
        rw [hown.cellAt j (by have := (List.getElem?_eq_some_iff.1 hj).1; have := hown.1; omega)]
        exact hj
    have HL0 := Lib.hid hleft
    have HC0 := Lib.hid hcop
    have HBW := Lib.hid hBw
    have HW0 : Hid (CopW w w4 N g T.length w4.heap.size) := Lib.hid (by
      have h := HCW.out.on x4
      exact ⟨h.box, h.res, h.arg, h.ext, Nat.le_refl _⟩)
    obtain ⟨lo, hlo⟩ : ∃ lo, lo = w4.heap.size := ⟨_, rfl⟩
    have hlo2 : w.heap.size + 2 ≤ lo := by have := x4.size; omega
    rw [← hlo] at HC0 HW0
    obtain ⟨av, hav⟩ : ∃ a, vL = .slice a (mAt T T.length - mAt T 0) (cap - mAt T 0) := by obtain ⟨a, h, _⟩ := hleft; exact ⟨a, h⟩
    subst hav
    have HB30 := Lib.hid hb30
    have HCAP := Lib.hid (And.intro hcap1 hcap2)
    clear hown hleft hcop hBw x4 c1 hlo HOUT hsum hgs hcap1 hcap2
    go_wp2
    go_loopw [4, 22] (fun l i wr => ∃ (k : Nat) (vs US : List Value) (LS : List (List Int)) (xs : List Value), k ≤ T.length ∧ i = .int .i64 k ∧ Hid (LeftAt B cap T k l) ∧ Hid (CopS lo wr g B T vs US LS xs k (mAt T k)) ∧ Hid (CopW w wr N g T.length lo)) (fun _ i _ => T.length - (intOf i).toNat)
    case atStart => exact ⟨0, _, _, _, xs, Nat.zero_le _, rfl, HL0, HC0, HW0⟩
    case round =>
      clear HL0 HC0 HW0 hc1
      obtain ⟨k, vs, US, LS, xs, hk, rfl, HL, HC, HW⟩ := hrel
      by_cases hlt : k < T.length
      · obtain ⟨bu, ou, rfl, du⟩ := HCU.out (by omega)
        obtain ⟨x, hx1, ix⟩ := du k hlt
        have gu := HW.out.ext.cell hx1
        obtain ⟨R, hR⟩ : ∃ R, R = T[k] := ⟨_, rfl⟩
        rw [← hR] at ix
        have hgr : ∀ r ∈ R, goodRow T.length r = true := by rw [hR]; exact (HR.out _ (List.getElem_mem hlt)).2
        have hl6 : R.length ≤ 6 := by rw [hR]; exact (HR.out _ (List.getElem_mem hlt)).1
        obtain ⟨ax, cx, rfl, hlx, _, hcx⟩ := ix
        unfold maxLen at hlx
        have hms : mAt T (k + 1) = mAt T k + R.length := by rw [mAt_succ hlt, hR]
        have hle := mAt_le (T := T) (show k + 1 ≤ T.length by omega)
        obtain ⟨M, hM⟩ : ∃ M, M = mAt T k := ⟨_, rfl⟩
        obtain ⟨tot, htot⟩ : ∃ tot, tot = mAt T T.length := ⟨_, rfl⟩
        have HRR := Lib.hid hR
        have HCX := Lib.hid hcx
        have HLT := Lib.hid hlt
        have HGR := Lib.hid hgr
        have HMS := Lib.hid hms
        have HLE := Lib.hid hle
        have HMM := Lib.hid hM
        have HTT := Lib.hid htot
        obtain ⟨a, hla, hia⟩ := HL.out
        rw [← hM, ← htot] at hla
        rw [← hM] at hia
        obtain ⟨Lq, hLq⟩ : ∃ Lq, Lq = tot - M := ⟨_, rfl⟩
        obtain ⟨Cq, hCq⟩ : ∃ Cq, Cq = cap - M := ⟨_, rfl⟩
        rw [← hLq, ← hCq] at hla
        subst hla
        have hcp1 : tot ≤ cap := by rw [htot]; exact HCAP.out.1
        have hcp2 : cap ≤ 9223372036854775807 := by have := HCAP.out.2; unfold maxLen at this; omega
        have a1 := HW.out.box.2
        have gf := HC.out.out.frozenAt k
        obtain ⟨vk, hvk⟩ : ∃ v, vs[k]? = some v := ⟨_, List.getElem?_eq_getElem (by rw [HC.out.vl]; exact hlt)⟩
        have gc := (HC.out.out.cellAt k (by omega)).trans hvk
        have hb1 : M + R.length ≤ tot := by rw [hM, htot]; omega
        have ht30 : tot ≤ 30 := by have := HB30.out; omega
        have hq1 : R.length ≤ Lq := by omega
        have hq2 : Lq ≤ Cq := by omega
        have hq3 : Cq ≤ 9223372036854775807 := by omega
        have hq4 : Lq ≤ 30 := by omega
        have HLQ := Lib.hid hLq
        have HCQ := Lib.hid hCq
        have HIA := Lib.hid hia
        have HB1 := Lib.hid hb1
        clear du hx1 hR hgr hcx hms hle hM htot hvk hia hLq hCq hb1 ht30 hcp1 hcp2
        go_upto_region 7 with fail
        go_cut [4] (fun l wx => Hid (LeftAt B cap T (k + 1) l) ∧ ∃ vs, Hid (CopS lo wx g B T vs US LS xs (k + 1) (mAt T k)) ∧ Hid (CopW w wx N g T.length lo))
        case first =>
          by_cases hc : M < cap
          · obtain rfl := HIA.out hc
            have hval : ValAt B T (vs.set k (.slice (some ⟨B, M * 10, none⟩) R.length R.length)) k := fun hk' => by
              have hkv : k < vs.length := by rw [HC.out.vl]; exact hk'
              by_cases he : T[k] = []
              · refine .inl ⟨he, some ⟨B, M * 10, none⟩, ?_⟩
                rw [List.getElem?_set_self hkv, HRR.out, he]
                rfl
              · refine .inr ⟨he, ?_⟩
                rw [List.getElem?_set_self hkv, HRR.out, HMM.out]
            have hp := HC.out.place HLT.out (.slice (some ⟨B, M * 10, none⟩) R.length R.length) hval
            have hst := HC.out.out.stored k (.slice (some ⟨B, M * 10, none⟩) R.length R.length)
            have hwn := HW.out.grown hst.2 HNG.out (by omega)
            have HPN := Lib.hid hp
            have HWN := Lib.hid hwn
            clear hval hp hst hwn
            by_cases hE : R.length = Cq
            · have hlx : LeftAt B cap T (k + 1) (.slice (some ⟨B, M * 10, none⟩) (Lq - R.length) (Cq - R.length)) := by
                refine ⟨some ⟨B, M * 10, none⟩, ?_, fun h => ?_⟩
                · rw [HMS.out, ← HTT.out, ← HMM.out, HLQ.out, HCQ.out, Nat.sub_sub, Nat.sub_sub]
                · rw [HMS.out, ← HMM.out] at h; have := HCQ.out; omega
              obtain rfl : Cq = R.length := hE.symm
              clear hE
              have e1 : Lq - R.length = 0 := by omega
              have e2 : R.length - R.length = 0 := by omega
              rw [e1, e2] at hlx
              have HLX := Lib.hid hlx
              have HPM := Lib.hid (HPN.out.on (Ext.drew (Ext.refl _)))
              have HWM := Lib.hid (HWN.out.on (Ext.drew (Ext.refl _)))
              clear hlx e1 e2
              go_region
              go_wp2_with fail
              go_meet
              exact ⟨HLX, _, HPM, HWM⟩
            · have hlx : LeftAt B cap T (k + 1) (.slice (some ⟨B, M * 10 + R.length * 10, none⟩) (Lq - R.length) (Cq - R.length)) := by
                refine ⟨some ⟨B, M * 10 + R.length * 10, none⟩, ?_, fun h => ?_⟩
                · rw [HMS.out, ← HTT.out, ← HMM.out, HLQ.out, HCQ.out, Nat.sub_sub, Nat.sub_sub]
                · rw [HMS.out, ← HMM.out, Nat.add_mul]
              have HLX := Lib.hid hlx
              have HPM := Lib.hid (HPN.out.on (Ext.drew (Ext.refl _)))
              have HWM := Lib.hid (HWN.out.on (Ext.drew (Ext.refl _)))
              clear hlx
              go_region
              go_wp2_with fail
              go_meet
              exact ⟨HLX, _, HPM, HWM⟩
          · have hr0 : R.length = 0 := by have := HCQ.out; omega
            have hl0 : Lq = 0 := by have := HCQ.out; omega
            have hc0 : Cq = 0 := by have := HCQ.out; omega
            have he : T[k]'HLT.out = [] := by
              have h := HRR.out
              rw [← h]
              exact List.eq_nil_of_length_eq_zero hr0
            have hval : ValAt B T (vs.set k (.slice a 0 0)) k := fun hk' => .inl ⟨he, a, List.getElem?_set_self (by rw [HC.out.vl]; exact hk')⟩
            have hp := HC.out.place HLT.out (.slice a 0 0) hval
            have hst := HC.out.out.stored k (.slice a 0 0)
            have hwn := HW.out.grown hst.2 HNG.out (by omega)
            have hlx : LeftAt B cap T (k + 1) (.slice a 0 0) := by
              refine ⟨a, ?_, fun h => ?_⟩
              · rw [HMS.out, ← HTT.out, ← HMM.out, hr0, Nat.add_zero, ← HLQ.out, ← HCQ.out, hl0, hc0]
              · rw [HMS.out, ← HMM.out] at h; omega
            have HLX := Lib.hid hlx
            have HPM := Lib.hid (hp.on (Ext.drew (Ext.refl _)))
            have HWM := Lib.hid (hwn.on (Ext.drew (Ext.refl _)))
            rw [hl0, hc0]
            clear hval hp hst hwn hlx he hc hl0 hc0
            cases a
            all_goals
              go_region
              go_wp2_with fail
              go_meet
              exact ⟨HLX, _, HPM, HWM⟩
        case rest =>
          obtain ⟨HL2, vs2, HC2, HW2⟩ := hcut
          clear HC HW a1 gf gc HIA
          go_wp2
          go_loopw [9, 42] (fun _ i wr => ∃ (j : Nat) (US : List Value) (LS : List (List Int)) (xs : List Value), j ≤ R.length ∧ i = .int .i64 j ∧ Hid (CopS lo wr g B T vs2 US LS xs (k + 1) (mAt T k + j)) ∧ Hid (CopW w wr N g T.length lo)) (fun _ i _ => R.length - (intOf i).toNat)
          case atStart => exact ⟨0, US, LS, xs, Nat.zero_le _, rfl, HC2, HW2⟩
          case round =>
            clear HC2 HW2
            obtain ⟨j, US, LS, xs, hj, rfl, HC, HW⟩ := hrel
            by_cases hjt : j < R.length
            · obtain ⟨bx, ox, rfl, dx⟩ := HCX.out (by omega)
              obtain ⟨y, hy1, iy⟩ := dx j hjt
              obtain ⟨d, hd⟩ : ∃ d, d = R[j] := ⟨_, rfl⟩
              rw [← hd] at hy1 iy
              obtain ⟨g0, g1, g2, g3, g4, g5, g6, g7, g8, g9⟩ := hy1.ext HW.out.ext
              obtain ⟨hj', ej⟩ := rowQ_in HRR.out hjt
              rw [← hd] at ej
              have hdl : d.l.length = T.length := by
                have h := (goodTab_row HG.out HLT.out hj').2.1
                rw [ej] at h
                omega
              obtain ⟨ay, cy, rfl, _⟩ := id iy
              obtain ⟨w7, hw7⟩ : ∃ w7, w7 = wr.alloc (.cells #[.int .i64 d.b, .int .i64 d.v, .int .i64 d.st, .int .i64 d.k, .int .i64 d.i, .int .i64 d.f, .int .i64 d.t, .int .i64 d.a, .int .i64 d.s, .slice ay d.l.length cy] 73) := ⟨_, rfl⟩
              have x7 : Ext wr w7 := by rw [hw7]; exact Ext.alloc1 _ _
              have hi7 := iy.ext (HW.out.ext.trans x7)
              obtain ⟨p0, p1, p2, p3, p4, p5, p6, p7, p8, p9⟩ : RowIn w7 wr.heap.size 0 d (.slice ay d.l.length cy) := by rw [hw7]; exact rowIn_alloc wr _ d _
              have hne : T[k]'HLT.out ≠ [] := by
                intro e
                rw [e] at hj'
                simp at hj'
              have hvk : vs2[k]? = some (.slice (some ⟨B, mAt T k * 10, none⟩) R.length R.length) := by
                rcases HC.out.val k (Nat.lt_succ_self _) HLT.out with ⟨e, _⟩ | ⟨_, e⟩
                · exact absurd e hne
                · rw [e, ← HRR.out]
              obtain ⟨hbx, hbl, hblo, hbg⟩ := HC.out.big (mAt_pos HLT.out hne)
              have hBN : B ≠ N := (HBW.out (mAt_pos HLT.out hne)).2
              have hBw : w.heap.size + 2 ≤ B := (HBW.out (mAt_pos HLT.out hne)).1
              have hms2 := HMS.out
              have hle2 := HLE.out
              have S7 := Lib.hid (HC.out.on x7)
              have W7 := Lib.hid (HW.out.on x7)
              have a1 := W7.out.box.2
              have n0 := W7.out.arg
              have e0 : w7.cell? ⟨g, k, none⟩ = some (.slice (some ⟨B, mAt T k * 10, none⟩) R.length R.length) := ((S7.out.out.cellAt k (by omega)).trans hvk)
              have HB7 := Lib.hid (hbx.ext x7)
              have lo7 : lo ≤ w7.heap.size := W7.out.lo
              have hgl := HC.out.glo
              have HW7 := Lib.hid hw7
              have HI7 := Lib.hid hi7
              have HDL := Lib.hid hdl
              have HJT := Lib.hid hjt
              have HEJ := Lib.hid (show ∃ h : j < (T[k]'HLT.out).length, (T[k]'HLT.out)[j] = d from ⟨hj', ej⟩)
              have CR := Lib.hid (fun W (x : Ext w7 W) => copyRow_veil HM.out d (.slice ay d.l.length cy) W (hi7.ext x) hdl)
              have HBL : Hid (mAt T k * 10 + j * 10 + 10 ≤ xs.length ∧ B < lo ∧ B ≠ g) := Lib.hid (by omega)
              clear dx hy1 iy hi7 hd hdl x7 hw7 HC HW hvk hbx hbl hj' ej hne hms2 hle2
              go_wp2
              rw [← HW7.out]
              go_region_law (go_simp; go_at_call 101; refine (CR.out _ (Ext.drew (Ext.refl _))).mono ?_; rintro e w8 ⟨cs, z, rfl, hcs, hc10, fz, x8'⟩; have x8 : Ext w7 w8 := (Ext.drew (Ext.refl _)).trans x8'; have b1 := x8.cell a1; have b2 := x8.cell e0; have hst := storeRow_run (d := d) (HB7.out.ext x8) HBL.out.1 fz)
              all_goals
                have hws : CopS lo (w8.setCells B (mAt T k * 10 + j * 10) (rowL d z)) g B T vs2 (US ++ [z]) (LS ++ [d.l]) (putL xs (mAt T k * 10 + j * 10) (rowL d z)) (k + 1) (mAt T k + (j + 1)) := by
                  obtain ⟨hj', ej⟩ := HEJ.out
                  have h := S7.out.write (k := k) (j := j) (z := z) x8 lo7 HLT.out hj' rfl (by rw [ej]; exact fz)
                  have eo : (mAt T k + j) * 10 = mAt T k * 10 + j * 10 := by omega
                  rw [eo, ej] at h
                  exact h
                have hww := (W7.out.on x8).grown (setCells_grown (g := B) (rowL d z) (mAt T k * 10 + j * 10) w8) (fun e => hBN e.symm) hBw
                have HWS := Lib.hid hws
                have HWW := Lib.hid hww
                clear hws hww hst b1 b2 a1 n0 e0 p0 p1 p2 p3 p4 p5 p6 p7 p8 p9 x8 x8' fz hcs hc10
                go_wp2
                go_roundw
                case rel => exact ⟨j + 1, _, _, _, by have := HJT.out; omega, by go_num, HWS, HWW⟩
                case measure => simp [intOf]; have := HJT.out; omega
            · obtain rfl : j = R.length := by omega
              have HCN : Hid (CopS lo wr g B T vs2 US LS xs (k + 1) (mAt T (k + 1))) := Lib.hid (by rw [HMS.out]; exact HC.out)
              clear HC
              go_wp2
              go_roundw
              case rel => exact ⟨k + 1, vs2, US, LS, xs, by have := HLT.out; omega, by go_num, HL2, HCN, HW⟩
              case measure => simp [intOf]; have := HLT.out; omega
      · obtain rfl : k = T.length := by omega
        have hd := HC.out.done (n0 := w.heap.size + 2) (fun R hR => (HR.out R hR).1) (by omega) (fun h => by have := (HBW.out h).1; omega) (by omega)
        have HD := Lib.hid hd
        have HFU := Lib.hid (HC.out.full rfl)
        obtain ⟨a0, a1⟩ := HW.out.box
        obtain ⟨⟨z0, z1⟩, f0, f1⟩ := HW.out.res
        have HX := Lib.hid ((HW.out.ext.setc (a := ⟨w.heap.size + 1, 0, none⟩) (v := .int .i64 T.length) (by dsimp only; omega)).setc (a := ⟨w.heap.size + 1, 1, none⟩) (v := .slice (some ⟨g, 0, none⟩) T.length T.length) (by dsimp only; omega))
        have hTS : ∀ k, TabS ((wr.setCell ⟨w.heap.size + 1, 0, none⟩ (.int .i64 T.length)).setCell ⟨w.heap.size + 1, 1, none⟩ (.slice (some ⟨g, 0, none⟩) T.length T.length)) g vs US LS (winT B T) (fun _ => xs) k 0 T := fun k => ((HD.out.2 k).set HD.out.1 _ _ (fun h => by omega)).set HD.out.1 _ _ (fun h => by omega)
        have HTS := Lib.hid hTS
        have HTF : Hid (TabF (fun b => w.heap.size ≤ b ∧ b < ((wr.setCell ⟨w.heap.size + 1, 0, none⟩ (.int .i64 T.length)).setCell ⟨w.heap.size + 1, 1, none⟩ (.slice (some ⟨g, 0, none⟩) T.length T.length)).heap.size) g vs US (winT B T) T) := Lib.hid (HD.out.1.more (fun b hb => by simp only [World.size_setCell]; omega))
        clear hd hTS HC HL
        go_wp2
        exact bodyPost_ret (v := .agg #[.int .i64 T.length, .slice (some ⟨g, 0, none⟩) T.length T.length]) (by simp [results, Try.results73, go_sem, z0, z1]) rfl ⟨g, vs, US, LS, winT B T, fun _ => xs, rfl, HTF.out, HTS.out, HX.out, HFU.out⟩
end Go.Proofs.Ytfffddhfagibpaa
