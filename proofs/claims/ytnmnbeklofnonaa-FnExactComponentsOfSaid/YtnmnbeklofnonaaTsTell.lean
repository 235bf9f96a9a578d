/- Contract of the search's tellFrom. -/
import Derived.Test.YtnmnbeklofnonaaTsMeet
import Derived.Test.YtnmnbeklofnonaaIdx
import Derived.Test.YtnmnbeklofnonaaPushV
import Derived.Test.YtnmnbeklofnonaaLedAt
import Derived.Test.YtnmnbeklofnonaaSortKit
namespace Go.Proofs.Ytnmnbeklofnonaa
open Go.RowKit
set_option linter.unusedVariables false

/-- The state in memory, and the lists that it holds. -/
structure MemT (B X : Nat) (w : World) (gv grv ov : Value) (vs : List Value) (S : TS) : Prop where
  ts : TsAt w X gv grv ov S
  opn : Fresh B w ov (natsI S.opn)
  grp : FreshV B w grv vs
  rows : Rows_ B w vs S.grp
  far : ∀ (j : Nat) (u : Value), vs[j]? = some u → u.ownBlock = none ∨ u.ownBlock ≠ ov.ownBlock

theorem MemT.meet {B X c g cap n : Nat} {w w' : World} {gv grv ov : Value} {vs : List Value} {S : TS} (h : MemT B X w gv grv ov vs S) (hXB : X < B)
    (t : TsAt w' X gv grv (.slice (some ⟨g, 0, none⟩) n cap) (meetS S c)) (f : Fresh B w' (.slice (some ⟨g, 0, none⟩) n cap) (natsI (S.opn ++ [c]))) (k : But X ov w w') (hg : ov.ownBlock = some g ∨ w.heap.size ≤ g) :
    MemT B X w' gv grv (.slice (some ⟨g, 0, none⟩) n cap) vs (meetS S c) := by
  have hrow : ∀ (j : Nat) (u : Value), vs[j]? = some u → ∃ l, S.grp[j]? = some l ∧ Fresh B w u l := fun j u hu => by
    have hj : j < vs.length := (List.getElem?_eq_some_iff.1 hu).1
    have hl : S.grp[j]? = some (S.grp[j]'(by rw [← h.rows.len]; exact hj)) := List.getElem?_eq_getElem _
    exact ⟨_, hl, h.rows.row j u _ hu hl⟩
  refine ⟨t, f, k.row h.grp (fun e => by have := (World.ownsRow.lt h.grp X e).1; omega) (types_apart h.opn h.grp (by decide)), ⟨h.rows.len, fun j u l hu hl => ?_, h.rows.apart⟩, fun j u hu => ?_⟩
  · have hf := h.rows.row j u l hu hl
    exact k.row hf (fun e => by have := (World.ownsRow.lt hf X e).1; omega) (h.far j u hu)
  · obtain ⟨l, _, hf⟩ := hrow j u hu
    rcases hg with hg | hg
    · have := h.far j u hu
      rwa [hg] at this
    · cases hu' : u.ownBlock with
      | none => exact .inl rfl
      | some q =>
        refine .inr fun e => ?_
        have h1 := (World.ownsRow.lt hf q hu').2
        have h2 : q = g := Option.some.inj e
        omega

def tellS (S : TS) (A B : List Nat) (p : Nat) : TS := { S with op := fun q => S.op q && !decide (q ∈ p :: B), opn := A, grp := S.grp ++ [sortI (natsI (p :: B))] }

/-- The first k points of a list are no more open. -/
def shutK (f : Nat → Bool) (l : List Nat) (k : Nat) : Nat → Bool := fun q => f q && !decide (q ∈ l.take k)
theorem shutK_zero (f : Nat → Bool) (l : List Nat) : shutK f l 0 = f := by funext q; simp [shutK]
theorem mem_take_next {l : List Nat} {k : Nat} (h : k < l.length) (q : Nat) : q ∈ l.take (k + 1) ↔ q ∈ l.take k ∨ q = l[k] := by
  rw [List.take_add_one, List.getElem?_eq_getElem h, List.mem_append]
  simp
theorem shutK_succ (f : Nat → Bool) (l : List Nat) {k : Nat} (h : k < l.length) : upd (shutK f l k) l[k] false = shutK f l (k + 1) := by
  funext q
  unfold upd shutK
  by_cases e : q = l[k]
  · rw [if_pos e, decide_eq_true ((mem_take_next h q).2 (.inr e))]
    simp
  · rw [if_neg e]
    have : decide (q ∈ l.take (k + 1)) = decide (q ∈ l.take k) := by
      rw [decide_eq_decide, mem_take_next h]
      exact ⟨fun h => h.resolve_right e, Or.inl⟩
    rw [this]
theorem shutK_all (f : Nat → Bool) (l : List Nat) : shutK f l l.length = fun q => f q && !decide (q ∈ l) := by funext q; simp [shutK]
theorem natsI_len (l : List Nat) : (natsI l).length = l.length := by simp [natsI]
theorem natsI_get (l : List Nat) {k : Nat} (h : k < l.length) : (natsI l)[k]?.getD 0 = (l[k] : Int) := by simp [natsI, h]

theorem ints_from {w : World} {b cap n : Nat} {l : List Int} (k : Nat) (hk : k ≤ l.length) (hn : l.length = n) (h : Ints w (.slice (some ⟨b, 0, none⟩) n cap) l) : Ints w (.slice (some ⟨b, k, none⟩) (n - k) (cap - k)) (l.drop k) := by
  obtain ⟨ao, c, hv, hm, hc, hcc⟩ := h
  simp only [Value.slice.injEq] at hv
  obtain ⟨rfl, _, rfl⟩ := hv
  subst hn
  unfold maxLen at hm hc
  refine ⟨some ⟨b, k, none⟩, cap - k, by rw [List.length_drop], by unfold maxLen; rw [List.length_drop]; omega, ⟨by rw [List.length_drop]; omega, by unfold maxLen; omega, fun h => by cases h⟩, fun hp => ⟨b, k, rfl, fun j hj => ?_⟩⟩
  rw [List.length_drop] at hj
  obtain ⟨b', o', e, h'⟩ := hcc (by omega)
  cases e
  have := h' (k + j) (by omega)
  rw [Nat.zero_add] at this
  rw [this, List.getElem?_drop]

theorem row_setOut {B X e sz n : Nat} {w : World} {v : Value} {xs : List Value} (h : w.ownsRow B e sz v n xs) (hX : X < B) (i : Nat) (u : Value) : (w.setCell ⟨X, i, none⟩ u).ownsRow B e sz v n xs := by
  refine World.ownsRow.kept h (⟨rfl, rfl, rfl, by simp, fun k _ hk => heap_setCell_other _ _ _ _ (by intro e; subst e; exact hk rfl)⟩ : w.grownBy (w.setCell ⟨X, i, none⟩ u) (some X)) ?_
  cases hv : v.ownBlock with
  | none => exact .inl rfl
  | some q =>
    refine .inr fun e => ?_
    have h1 := (World.ownsRow.lt h q hv).1
    have h2 := Option.some.inj e
    omega
/-- One more row behind. -/
theorem Rows_.add {B : Nat} {w w' : World} {vs : List Value} {L : List (List Int)} {u : Value} {l : List Int} {g : Nat} (h : Rows_ B w vs L) (hk : ∀ (v : Value) (r : List Int), Fresh B w v r → Fresh B w' v r) (hu : Fresh B w' u l) (hg : u.ownBlock = some g) (hgw : w.heap.size ≤ g) : Rows_ B w' (vs ++ [u]) (L ++ [l]) := by
  have hlow : ∀ (j : Nat) (z : Value), vs[j]? = some z → z.ownBlock = none ∨ z.ownBlock ≠ some g := fun j z hz => by
    have hj : j < vs.length := (List.getElem?_eq_some_iff.1 hz).1
    have hf := h.row j z _ hz (List.getElem?_eq_getElem (by rw [← h.len]; exact hj))
    cases hz' : z.ownBlock with
    | none => exact .inl rfl
    | some b =>
      refine .inr fun e => ?_
      have h1 := (World.ownsRow.lt hf b hz').2
      have h2 := Option.some.inj e
      omega
  refine ⟨by simp [h.len], fun j z r hz hr => ?_, fun i j z y hij hz hy => ?_⟩
  · by_cases hj : j < vs.length
    · rw [List.getElem?_append_left hj] at hz
      rw [List.getElem?_append_left (by rw [← h.len]; exact hj)] at hr
      exact hk _ _ (h.row j z r hz hr)
    · rw [List.getElem?_append_right (by omega)] at hz
      rw [List.getElem?_append_right (by rw [← h.len]; omega)] at hr
      have hj' : j - vs.length = 0 := by
        have := (List.getElem?_eq_some_iff.1 hz).1
        simp at this; omega
      rw [hj'] at hz
      rw [← h.len, hj'] at hr
      simp at hz hr
      subst hz hr
      exact hu
  · by_cases hi : i < vs.length
    · rw [List.getElem?_append_left hi] at hz
      by_cases hj : j < vs.length
      · rw [List.getElem?_append_left hj] at hy
        exact h.apart i j z y hij hz hy
      · rw [List.getElem?_append_right (by omega)] at hy
        have hj' : j - vs.length = 0 := by
          have := (List.getElem?_eq_some_iff.1 hy).1
          simp at this; omega
        rw [hj'] at hy
        simp at hy
        subst hy
        have := hlow i z hz
        rwa [hg]
    · rw [List.getElem?_append_right (by omega)] at hz
      have hi' : i - vs.length = 0 := by
        have := (List.getElem?_eq_some_iff.1 hz).1
        simp at this; omega
      rw [hi'] at hz
      simp at hz
      subst hz
      have hj : j < vs.length := by
        rcases Nat.lt_or_ge j vs.length with hj | hj
        · exact hj
        · rw [List.getElem?_append_right hj] at hy
          have := (List.getElem?_eq_some_iff.1 hy).1
          simp at this; omega
      rw [List.getElem?_append_left hj] at hy
      right
      intro e
      rcases hlow j y hy with h1 | h1
      · rw [h1, hg] at e; cases e
      · exact h1 (by rw [← e, hg])

theorem But.of_ext {X : Nat} {v : Value} {w w' : World} (e : Ext w w') : But X v w w' := ⟨e.os, e.tape, e.output, e.size, fun b hb _ _ => Below.block e b hb⟩
theorem But.trans {X : Nat} {v : Value} {a b c : World} (h : But X v a b) (k : But X v b c) : But X v a c :=
  ⟨k.os.trans h.os, k.tape.trans h.tape, k.output.trans h.output, Nat.le_trans h.size k.size, fun x hx hX hv => (k.block x (Nat.lt_of_lt_of_le hx h.size) hX hv).trans (h.block x hx hX hv)⟩
theorem But.weaken {X : Nat} {v : Value} {w w' : World} (h : But X (.slice none 0 0) w w') : But X v w w' := ⟨h.os, h.tape, h.output, h.size, fun b hb hX _ => h.block b hb hX (by simp [Value.ownBlock])⟩

set_option maxRecDepth 100000 in
set_option maxHeartbeats 4000000 in
theorem tsTell_any (hsort : SortOk) (X p B : Nat) (gv grv ov : Value) (vs : List Value) (S : TS) (A C : List Nat) (w : World) (hM : MemT B X w gv grv ov vs S) (hXB : X < B) (hB : B ≤ w.heap.size) (he : S.opn = A ++ p :: C) (hp : p ∉ A) (hl : S.opn.length ≤ 40) (h40 : ∀ q ∈ S.opn, q < 40) (hg : S.grp.length ≤ 40) :
    Calls Try.prog 136 #[.pointer (some ⟨X, 0, none⟩), .int .i64 p] w (fun e w' => (∃ r, e = .returned r) ∧ ∃ grv' ov' vs', MemT B X w' gv grv' ov' vs' (tellS S A C p) ∧ But X grv w w' ∧ (ov'.ownBlock = none ∨ ov'.ownBlock = ov.ownBlock) ∧ ∀ (j : Nat) (u : Value), vs'[j]? = some u → vs[j]? = some u ∨ ∀ b, u.ownBlock = some b → w.heap.size ≤ b) := by
  have hlen : S.opn.length = A.length + 1 + C.length := by rw [he]; simp; omega
  obtain ⟨g0, c0, hov, _, _⟩ := World.ownsRow.form hM.opn (by rw [natsI_len, hlen]; omega)
  rw [natsI_len] at hov
  subst hov
  have i0 : Ints w (.slice (some ⟨g0, 0, none⟩) S.opn.length c0) (natsI A ++ (p : Int) :: natsI C) := by
    have := hM.opn.ints
    rw [he] at this
    rw [he]
    simpa [natsI] using this
  obtain ⟨_, hcap⟩ : True ∧ S.opn.length ≤ c0 := by
    obtain ⟨_, _, hv, _, hc, _⟩ := hM.opn.ints
    simp only [Value.slice.injEq] at hv
    obtain ⟨_, h1, h2⟩ := hv
    refine ⟨trivial, ?_⟩
    have := hc.1
    rw [natsI_len] at this
    omega
  have hpA : (p : Int) ∉ natsI A := fun e => by
    obtain ⟨q, hq, e⟩ := List.mem_map.1 e
    have : q = p := by omega
    exact hp (by rw [← this]; exact hq)
  obtain ⟨n, hn⟩ : ∃ n, S.opn.length = n := ⟨_, rfl⟩
  rw [hn] at i0 hcap hl hlen
  have i1 := ints_from (natsI A).length (by simp) (by rw [List.length_append, List.length_cons, natsI_len, natsI_len]; omega) i0
  rw [List.drop_left, natsI_len] at i1
  have i1' : Ints w (.slice (some ⟨g0, A.length, none⟩) (n - A.length) (c0 - A.length)) (natsI (p :: C)) := i1
  have HM := Lib.hid hM
  have HI0 := Lib.hid i0
  have HI1 := Lib.hid i1'
  have HPA := Lib.hid hpA
  have z2 := hM.ts.opens
  have HE := Lib.hid he
  have HN := Lib.hid hn
  have HP := Lib.hid hp
  have H40 := Lib.hid h40
  rw [hn] at z2
  have ha1 : A.length < n := by omega
  have ha2 : A.length ≤ c0 := by omega
  have hcl : (natsI (p :: C)).length ≤ 1048576 := by rw [natsI_len]; simp; omega
  have HLEN := Lib.hid hlen
  clear i0 i1 i1' hpA hM he hn hp h40 hlen
  go_enter Try.func136, Try.ntmps136
  go_wp2_with fail
  refine (index_found _ (natsI A) (natsI C) (p : Int) _ HI0.out HPA.out).mono ?_
  rintro e W1 ⟨rfl, x1⟩
  rw [natsI_len]
  have M1 := Lib.hid x1
  have z2 := x1.cell z2
  go_wp2_with fail
  refine (clone_any _ _ _ _ (natsI (p :: C)) _ (HI1.out.ext x1) hcl).mono ?_
  rintro e W2 ⟨v2, rfl, f2, x2⟩
  have hm0 : 0 < (natsI (p :: C)).length := by rw [natsI_len]; simp
  obtain ⟨g2, c2, hv2, hg2, _⟩ := World.ownsRow.form f2 hm0
  rw [natsI_len] at hv2
  subst hv2
  obtain ⟨m, hm⟩ : ∃ m, (p :: C).length = m := ⟨_, rfl⟩
  rw [hm] at f2 ⊢
  have hm1 : 1 ≤ m ∧ m ≤ 40 := by have := HLEN.out; rw [← hm]; simp; omega
  have y2 : Ext w W2 := x1.trans x2
  have hgw : w.heap.size ≤ g2 := by have := x1.size; omega
  have hXw : X < w.heap.size := by omega
  have t2 : TsAt W2 X gv grv (.slice (some ⟨g0, 0, none⟩) n c0) S := by
    have := Ext.block y2 HM.out.ts
    rw [HN.out] at this; exact this
  have z3 := t2.free 2
  have z2 := t2.opens
  have T3 := Lib.hid (t2.setOpens (.slice (some ⟨g0, 0, none⟩) A.length c0) A)
  have k3 : But X (.slice none 0 0) w (W2.setCell ⟨X, 2, none⟩ (.slice (some ⟨g0, 0, none⟩) A.length c0)) := (But.of_ext y2).setX 2 _
  have f3 : Fresh W1.heap.size (W2.setCell ⟨X, 2, none⟩ (.slice (some ⟨g0, 0, none⟩) A.length c0)) (.slice (some ⟨g2, 0, none⟩) m c2) (natsI (p :: C)) := f2.setOut (by have := x1.size; omega) 2 _
  have K3 := Lib.hid k3
  have F3 := Lib.hid f3
  have HM1 := Lib.hid hm
  have HGW := Lib.hid hgw
  have hq : ∀ k (h : k < (p :: C).length), (p :: C)[k] < 40 := fun k h => H40.out _ (by rw [HE.out]; exact List.mem_append_right _ (List.getElem_mem h))
  have HQ := Lib.hid hq
  have hXW1 : X < W1.heap.size := by have := x1.size; omega
  have hBW1 : B ≤ W1.heap.size := by have := x1.size; omega
  clear k3 f3 f2 x1 x2 M1 hg2 hm hm0 hgw y2 hq
  go_wp2
  obtain ⟨W3, hW3⟩ : ∃ W3, W3 = W2.setCell ⟨X, 2, none⟩ (.slice (some ⟨g0, 0, none⟩) A.length c0) := ⟨_, rfl⟩
  have K3' : Hid (But X (.slice none 0 0) w W3) := Lib.hid (by rw [hW3]; exact K3.out)
  have F3' : Hid (Fresh W1.heap.size W3 (.slice (some ⟨g2, 0, none⟩) m c2) (natsI (p :: C))) := Lib.hid (by rw [hW3]; exact F3.out)
  have T3' : Hid (TsAt W3 X gv grv (.slice (some ⟨g0, 0, none⟩) A.length c0) { S with opn := A, op := shutK S.op (p :: C) 0 }) := Lib.hid (by rw [hW3, shutK_zero]; exact T3.out)
  rw [← hW3]
  clear hW3 K3 F3 T3 t2 z2 z3
  go_loopw [7, 32] (fun _ i wr => ∃ k : Nat, k ≤ m ∧ i = .int .i64 k ∧ Hid (TsAt wr X gv grv (.slice (some ⟨g0, 0, none⟩) A.length c0) { S with opn := A, op := shutK S.op (p :: C) k }) ∧ Hid (But X (.slice none 0 0) w wr) ∧ Hid (Fresh W1.heap.size wr (.slice (some ⟨g2, 0, none⟩) m c2) (natsI (p :: C)))) (fun _ i _ => m - (intOf i).toNat)
  case atStart => exact ⟨0, Nat.zero_le _, rfl, T3', K3', F3'⟩
  case round =>
    clear T3' K3' F3'
    obtain ⟨k, hk, rfl, hT, hK, hF⟩ := hrel
    by_cases hlt : k < m
    · have hkl : k < (p :: C).length := by rw [HM1.out]; exact hlt
      obtain ⟨q, hqq⟩ : ∃ q, q = (p :: C)[k] := ⟨_, rfl⟩
      have gc := World.ownsRow.cellAt (by have := hF.out; unfold Fresh at this; rw [natsI_len, HM1.out] at this; exact this) k (by omega)
      have hgk : (List.map (Value.int IntKind.i64) (natsI (p :: C)))[k]? = some (.int .i64 (q : Int)) := by
        rw [hqq]
        unfold natsI
        rw [List.map_map, List.getElem?_map, List.getElem?_eq_getElem hkl]
        rfl
      rw [hgk] at gc
      have hq40 : q < 40 := by rw [hqq]; exact HQ.out k hkl
      have i1 : (0 : Int) ≤ (q : Int) := by omega
      have i2 : (q : Int) < 40 := by omega
      have z3 := hT.out.isOpen hq40
      have z4 := hT.out.free (3 + q)
      have T4 := hT.out.setOpen hq40 false
      have e4 : upd (shutK S.op (p :: C) k) q false = shutK S.op (p :: C) (k + 1) := by rw [hqq]; exact shutK_succ S.op (p :: C) hkl
      dsimp only at T4
      rw [e4] at T4
      have HT4 := Lib.hid T4
      clear hgk T4 e4 hqq
      go_wp2
      go_roundw
      case rel => exact ⟨k + 1, by omega, by go_num, HT4, Lib.hid (hK.out.setX _ _), Lib.hid (hF.out.setOut hXW1 _ _)⟩
      case measure => simp [intOf]; omega
    · obtain rfl : k = m := by omega
      have hlm : (natsI (p :: C)).length = k := by rw [natsI_len, HM1.out]
      have hF5 := hF.out
      have T4 := hT.out
      rw [← HM1.out, shutK_all] at T4
      have T4' := Lib.hid T4
      clear T4 hT
      go_wp2_with fail
      refine (hsort W1.heap.size _ _ _ hF5 (by omega) (by omega)).mono ?_
      rintro e W5 ⟨⟨r, rfl⟩, f5, g5⟩
      have hgb : (Value.slice (some ⟨g2, 0, none⟩) k c2).ownBlock = some g2 := rfl
      have t5 : TsAt W5 X gv grv (.slice (some ⟨g0, 0, none⟩) A.length c0) { S with opn := A, op := fun q => S.op q && !decide (q ∈ p :: C) } := by
        unfold TsAt
        have hXr : X < wr.heap.size := (Array.getElem?_eq_some_iff.1 T4'.out).1
        rw [g5.block X hXr (fun e => by rw [hgb] at e; have := Option.some.inj e; have := HGW.out; omega)]
        exact T4'.out
      have k5 : But X grv w W5 := by
        refine ⟨g5.os.trans hK.out.os, g5.tape.trans hK.out.tape, g5.output.trans hK.out.output, Nat.le_trans hK.out.size g5.size, fun b hb hbX hbv => ?_⟩
        rw [g5.block b (Nat.lt_of_lt_of_le hb hK.out.size) (fun e => by rw [hgb] at e; have := Option.some.inj e; have := HGW.out; omega)]
        exact hK.out.block b hb hbX (by simp [Value.ownBlock])
      have k50 : ∀ (Bx e sz nn : Nat) (u : Value) (xs : List Value), w.ownsRow Bx e sz u nn xs → X < Bx → W5.ownsRow Bx e sz u nn xs := fun Bx e sz nn u xs f hBx => by
        have h1 := hK.out.row f (fun e => by have := (World.ownsRow.lt f X e).1; omega) (by
          cases u.ownBlock with
          | none => exact .inl rfl
          | some b => exact .inr (by simp [Value.ownBlock]))
        refine World.ownsRow.kept h1 g5 ?_
        cases hu : u.ownBlock with
        | none => exact .inl rfl
        | some b =>
          refine .inr fun e => ?_
          rw [hgb] at e
          have h2 := (World.ownsRow.lt f b hu).2
          have h3 := Option.some.inj e
          have := HGW.out
          omega
      have fg5 : FreshV B W5 grv vs := k50 _ _ _ _ _ _ HM.out.grp hXB
      have z1 := t5.groups
      have hvl : vs.length ≤ 1048576 := by have := HM.out.rows.len; omega
      have hB5 : B ≤ W5.heap.size := by have := k5.size; omega
      have hfa : FreshV B (W5.alloc (.cells #[.slice (some ⟨g2, 0, none⟩) k c2] 27)) grv vs := fg5.ext (Ext.alloc (Ext.refl _) _)
      have hca := cell_alloc_one W5 (.slice (some ⟨g2, 0, none⟩) k c2) 27
      have hsa : (W5.alloc (.cells #[.slice (some ⟨g2, 0, none⟩) k c2] 27)).heap.size = W5.heap.size + 1 := by simp
      have HT5 := Lib.hid t5
      have HK5 := Lib.hid k5
      have HK50 := Lib.hid k50
      have HF5 := Lib.hid f5
      have HG5 := Lib.hid fg5
      have HFA := Lib.hid hfa
      have HCA := Lib.hid hca
      have HSA := Lib.hid hsa
      clear t5 k5 k50 f5 g5 fg5 hfa hca hsa hF hF5 hK T4' hlm
      go_wp2_with (at_builtin; refine wpList_pushV rfl _ _ rfl B grv vs rfl HFA.out (.slice (some ⟨g2, 0, none⟩) k c2) ⟨W5.heap.size, 0, none⟩ 1 rfl HCA.out rfl hvl (by rw [HSA.out]; omega) ?_)
      intro v6 W6 f6 g6 _
      obtain ⟨g6b, c6, hv6, _, _⟩ := World.ownsRow.form f6 (by simp)
      have hXs : X < (W5.alloc (.cells #[.slice (some ⟨g2, 0, none⟩) k c2] 27)).heap.size := by rw [HSA.out]; omega
      have t6 : TsAt W6 X gv grv (.slice (some ⟨g0, 0, none⟩) A.length c0) { S with opn := A, op := fun q => S.op q && !decide (q ∈ p :: C) } := by
        unfold TsAt
        rw [g6.block X hXs (fun e => by have := (World.ownsRow.lt HFA.out X e.symm).1; omega), heap_alloc_old _ _ (by omega)]
        exact HT5.out
      have k6 : But X grv w W6 := (HK5.out.alloc _).grown g6
      -- what lay in w from B on, but for the groups' own list, lies there still
      have kx : ∀ (v : Value) (r : List Int), Fresh B w v r → Fresh B W6 v r := fun v r f => by
        have h1 : Fresh B (W5.alloc (.cells #[.slice (some ⟨g2, 0, none⟩) k c2] 27)) v r := Fresh.ext (HK50.out _ _ _ _ _ _ f hXB) (Ext.alloc (Ext.refl _) _)
        exact World.ownsRow.kept h1 g6 (types_apart HFA.out h1 (by decide))
      have f26 : Fresh B W6 (.slice (some ⟨g2, 0, none⟩) k c2) (sortI (natsI (p :: C))) := by
        have h1 : Fresh B (W5.alloc (.cells #[.slice (some ⟨g2, 0, none⟩) k c2] 27)) (.slice (some ⟨g2, 0, none⟩) k c2) (sortI (natsI (p :: C))) := (HF5.out.more (by omega)).ext (Ext.alloc (Ext.refl _) _)
        exact World.ownsRow.kept h1 g6 (types_apart HFA.out h1 (by decide))
      have fo : Fresh B w (.slice (some ⟨g0, 0, none⟩) A.length c0) (natsI A) := by
        have h1 := HM.out.opn
        rw [show S.opn.length = (natsI S.opn).length from (natsI_len _).symm] at h1
        have h2 := h1.less A.length (by rw [natsI_len, HN.out]; omega)
        have e : (natsI S.opn).take A.length = natsI A := by
          rw [HE.out]
          unfold natsI
          rw [List.map_append, show A.length = (A.map fun (n : Nat) => (n : Int)).length by simp, List.take_left]
        rwa [e] at h2
      rw [List.length_append, List.length_singleton] at hv6
      subst hv6
      have z6 := t6.groups
      have y6 := t6.free 1
      have T7 := Lib.hid (t6.setGroups (.slice (some ⟨g6b, 0, none⟩) (vs.length + 1) c6) (S.grp ++ [sortI (natsI (p :: C))]))
      have K7 := Lib.hid (k6.setX 1 (.slice (some ⟨g6b, 0, none⟩) (vs.length + 1) c6))
      have F7 : Hid (FreshV B (W6.setCell ⟨X, 1, none⟩ (.slice (some ⟨g6b, 0, none⟩) (vs.length + 1) c6)) (.slice (some ⟨g6b, 0, none⟩) (vs.length + 1) c6) (vs ++ [Value.slice (some ⟨g2, 0, none⟩) k c2])) := Lib.hid (row_setOut f6 hXB 1 _)
      have O7 := Lib.hid ((kx _ _ fo).setOut hXB 1 (.slice (some ⟨g6b, 0, none⟩) (vs.length + 1) c6))
      have R7 := Lib.hid (HM.out.rows.add (w' := W6.setCell ⟨X, 1, none⟩ (.slice (some ⟨g6b, 0, none⟩) (vs.length + 1) c6)) (fun v r f => (kx v r f).setOut hXB 1 _) (f26.setOut hXB 1 _) rfl HGW.out)
      clear t6 k6 kx f26 fo f6 g6 hXs
      go_wp2
      go_end0
      refine ⟨⟨_, rfl⟩, _, _, _, ⟨T7.out, O7.out, F7.out, R7.out, fun j u hu => ?_⟩, K7.out, .inr rfl, fun j u hu => ?_⟩
      · by_cases hj : j < vs.length
        · rw [List.getElem?_append_left hj] at hu
          exact HM.out.far j u hu
        · rw [List.getElem?_append_right (by omega)] at hu
          have hj' : j - vs.length = 0 := by
            have := (List.getElem?_eq_some_iff.1 hu).1
            simp at this; omega
          rw [hj'] at hu
          simp at hu
          subst hu
          refine .inr fun e => ?_
          have h1 : g2 = g0 := Option.some.inj e
          have := HGW.out
          omega
      · by_cases hj : j < vs.length
        · rw [List.getElem?_append_left hj] at hu
          exact .inl hu
        · rw [List.getElem?_append_right (by omega)] at hu
          have hj' : j - vs.length = 0 := by
            have := (List.getElem?_eq_some_iff.1 hu).1
            simp at this; omega
          rw [hj'] at hu
          simp at hu
          subst hu
          refine .inr fun b e => ?_
          have h1 : g2 = b := Option.some.inj e
          have := HGW.out
          omega

end Go.Proofs.Ytnmnbeklofnonaa
