/- Texts of this proof, part e: words, plain facts, contracts. -/
import Derived.Test.YtfffddhfagibpaaMSetRowd
import Derived.Test.YtfffddhfagibpaaMSetRowb
import Derived.Test.YtfffddhfagibpaaMSetRowa

namespace Go.Proofs.Ytfffddhfagibpaa
open Go.RowKit
set_option linter.unusedVariables false

theorem boxV_puts {b : Nat} : ∀ (vs : List Value) (o : Nat) (w : World) (xs : List Value), BoxV w b xs → o + vs.length ≤ xs.length → BoxV (w.setCells b o vs) b (putL xs o vs)
  | [], _, w, _, h, _ => h
  | v :: r, o, w, xs, h, hl => by
    rw [List.length_cons] at hl
    exact boxV_puts r (o + 1) _ _ (h.set o v (by omega)) (by rw [List.length_set]; omega)
theorem ins_puts {lo hi b : Nat} (h1 : lo ≤ b) (h2 : b < hi) : ∀ (vs : List Value) (o : Nat) (w : World), Ins lo hi w (w.setCells b o vs)
  | [], _, w => Ins.refl _ _ _
  | v :: r, o, w => (ins_set h1 h2).trans (ins_puts h1 h2 r (o + 1) _)
theorem leadVs_len (d : LeadD) (u1 u2 u3 u4 : Value) : (leadVs d u1 u2 u3 u4).length = 16 := rfl
/-- From o on the list xs has the cells of the lead. -/
def XLead (xs : List Value) (o : Nat) (d : LeadD) (u1 u2 u3 u4 : Value) : Prop := ∀ q v, (leadVs d u1 u2 u3 u4)[q]? = some v → xs[o + q]? = some v
theorem lead_lt {d : LeadD} {u1 u2 u3 u4 v : Value} {q : Nat} (h : (leadVs d u1 u2 u3 u4)[q]? = some v) : q < 16 := by
  have := (List.getElem?_eq_some_iff.1 h).1
  rwa [leadVs_len] at this
theorem XLead.put_other {xs vs : List Value} {o p : Nat} {d : LeadD} {u1 u2 u3 u4 : Value} (h : XLead xs o d u1 u2 u3 u4) (hv : vs.length = 16) (hap : o + 16 ≤ p ∨ p + 16 ≤ o) : XLead (putL xs p vs) o d u1 u2 u3 u4 := by
  intro q v hq
  have := lead_lt hq
  rw [putL_out _ _ _ _ (by omega)]
  exact h q v hq
theorem XLead.put {xs : List Value} {o : Nat} {d : LeadD} {u1 u2 u3 u4 : Value} (h : o + 16 ≤ xs.length) : XLead (putL xs o (leadVs d u1 u2 u3 u4)) o d u1 u2 u3 u4 := by
  intro q v hq
  have := lead_lt hq
  rw [putL_in _ o xs q (by rw [leadVs_len]; exact this) (by rw [leadVs_len]; exact h)]
  exact hq
theorem XLead.leadIn {w : World} {b o : Nat} {xs : List Value} {d : LeadD} {u1 u2 u3 u4 : Value} (h : BoxV w b xs) (hx : XLead xs o d u1 u2 u3 u4) : LeadIn w b o d u1 u2 u3 u4 := fun q v hq => h.cell _ _ (hx q v hq)
/-- The first k leads stand in the block's cells xs, their lists in ranges of blocks. -/
def LeadsTo (cut : Nat → Nat) (w : World) (xs : List Value) (L : List LeadD) (k : Nat) : Prop := ∀ j (h : j < L.length), j < k → ∃ u1 u2 u3 u4, XLead xs (j * 16) L[j] u1 u2 u3 u4 ∧ LeadC (cut j) (cut (j + 1)) w L[j] u1 u2 u3 u4
theorem LeadsTo.kept {lo hi k : Nat} {cut : Nat → Nat} {w w' : World} {xs : List Value} {L : List LeadD} (h : LeadsTo cut w xs L k) (c : CutOk lo k hi cut) (s : Stood lo hi w w') : LeadsTo cut w' xs L k := fun j hj hk => by
  obtain ⟨u1, u2, u3, u4, a, b⟩ := h j hj hk
  exact ⟨u1, u2, u3, u4, a, b.kept (s.within (c.low (by omega)) (c.high (by omega)))⟩
theorem LeadsTo.put {g k e : Nat} {cut : Nat → Nat} {w : World} {xs : List Value} {L : List LeadD} {u1 u2 u3 u4 : Value} (h : LeadsTo cut w xs L k) (c : CutOk (g + 1) k w.heap.size cut) (hk : k < L.length) (hl : xs.length = L.length * 16) (he : e ≤ w.heap.size) (hf : LeadC (cut k) e w L[k] u1 u2 u3 u4) :
    LeadsTo (cutTo cut k e) (w.setCells g (k * 16) (leadVs L[k] u1 u2 u3 u4)) (putL xs (k * 16) (leadVs L[k] u1 u2 u3 u4)) L (k + 1) := by
  have hs : Stood (g + 1) w.heap.size w (w.setCells g (k * 16) (leadVs L[k] u1 u2 u3 u4)) := (ins_puts (lo := g) (hi := g + 1) (Nat.le_refl g) (Nat.lt_succ_self g) (leadVs L[k] u1 u2 u3 u4) (k * 16) w).stood (Nat.le_refl _) (.inr (Nat.le_refl _))
  intro j hj hjk
  by_cases ej : j = k
  · subst ej
    rw [cutTo_old (Nat.le_refl _), cutTo_new]
    exact ⟨u1, u2, u3, u4, XLead.put (by omega), hf.kept (hs.within (c.low (Nat.le_refl _)) he)⟩
  · obtain ⟨v1, v2, v3, v4, a, b⟩ := h j hj (by omega)
    rw [cutTo_old (by omega), cutTo_old (by omega)]
    exact ⟨v1, v2, v3, v4, a.put_other (leadVs_len _ _ _ _ _) (by omega), b.kept (hs.within (c.low (by omega)) (c.high (by omega)))⟩
theorem setCells_lead (w : World) (g o : Nat) (d : LeadD) (u1 u2 u3 u4 : Value) :
    w.setCells g o (leadVs d u1 u2 u3 u4) = ((((((((((((((((w.setCell ⟨g, o, none⟩ (.int .i64 d.rp)).setCell ⟨g, o + 1, none⟩ (.int .i64 d.no)).setCell ⟨g, o + 2, none⟩ (.int .i64 d.bl)).setCell ⟨g, o + 3, none⟩ (.int .i64 d.ph)).setCell ⟨g, o + 4, none⟩ (.int .i64 d.k)).setCell ⟨g, o + 5, none⟩ (.int .i64 d.i)).setCell ⟨g, o + 6, none⟩ (.int .i64 d.f)).setCell ⟨g, o + 7, none⟩ (.int .i64 d.t)).setCell ⟨g, o + 8, none⟩ (.int .i64 d.a)).setCell ⟨g, o + 9, none⟩ (.int .i64 d.s1)).setCell ⟨g, o + 10, none⟩ u1).setCell ⟨g, o + 11, none⟩ (.int .i64 d.s2)).setCell ⟨g, o + 12, none⟩ u2).setCell ⟨g, o + 13, none⟩ (.bool d.sm)).setCell ⟨g, o + 14, none⟩ u3).setCell ⟨g, o + 15, none⟩ u4) := rfl
end Go.Proofs.Ytfffddhfagibpaa

namespace Go.Proofs.Ytfffddhfagibpaa
open Go.RowKit
set_option linter.unusedVariables false

/-- From q0 on the cells of vs stand in ys, from o on. -/
def RestX (ys : List Value) (o q0 : Nat) (vs : List Value) : Prop := ∀ q v, q0 ≤ q → vs[q]? = some v → ys[o + q]? = some v
theorem RestX.put {ys vs ms : List Value} {o q0 p q1 : Nat} (h : RestX ys o q0 vs) (h0 : q0 ≤ q1) (h1 : p + ms.length ≤ o + q1) : RestX (putL ys p ms) o q1 vs := fun q v hq hv => by
  rw [putL_out _ _ _ _ (by omega)]
  exact h q v (by omega) hv
/-- But from a on, below b, the lists are one. -/
def KeptX (ys zs : List Value) (a b : Nat) : Prop := zs.length = ys.length ∧ ∀ q, (q < a ∨ b ≤ q) → zs[q]? = ys[q]?
theorem KeptX.refl (ys : List Value) (a b : Nat) : KeptX ys ys a b := ⟨rfl, fun _ _ => rfl⟩
theorem KeptX.put {ys zs ms : List Value} {a b p : Nat} (h : KeptX ys zs a b) (h1 : a ≤ p) (h2 : p + ms.length ≤ b) : KeptX ys (putL zs p ms) a b :=
  ⟨by rw [putL_len]; exact h.1, fun q hq => by rw [putL_out _ _ _ _ (by omega)]; exact h.2 q hq⟩
theorem BoxV.ins' {lo hi : Nat} {w w' : World} {b : Nat} {vs : List Value} (h : BoxV w b vs) (k : Ins lo hi w w') (hb : b < lo ∨ hi ≤ b) : BoxV w' b vs :=
  ⟨fun j v hj => k.cell (h.cell j v hj) hb, fun j hj => by
    have := h.free j hj
    unfold World.frozen? at this ⊢
    rw [k.block b h.lt hb]
    exact this, Nat.lt_of_lt_of_le h.lt k.size⟩
/-- Marks were laid, so many at most, between two blocks. -/
def MarkUp (lo hi : Nat) (k : Int) (n : Nat) (w : World) (e : Ending) (w' : World) : Prop := ∃ k' : Int, e = .returned (.int .i64 k') ∧ k ≤ k' ∧ k' ≤ k + 16 * (n : Int) ∧ Ins lo hi w w'
end Go.Proofs.Ytfffddhfagibpaa

namespace Go.Proofs.Ytfffddhfagibpaa
open Go.RowKit
set_option linter.unusedVariables false

/-- The row that the marks from r on leave. -/
def markRowD (r : Int) (d : RowD) : RowD := ⟨r, r + 1, r + 1 + 1, r + 1 + 1 + 1, r + 1 + 1 + 1 + 1, r + 1 + 1 + 1 + 1 + 1, r + 1 + 1 + 1 + 1 + 1 + 1, r + 1 + 1 + 1 + 1 + 1 + 1 + 1, r + 1 + 1 + 1 + 1 + 1 + 1 + 1 + 1, marks (r + 1 + 1 + 1 + 1 + 1 + 1 + 1 + 1 + 1) d.l.length⟩
theorem setCells_grown {g : Nat} : ∀ (vs : List Value) (o : Nat) (w : World), w.grownBy (w.setCells g o vs) (some g)
  | [], _, w => World.grownBy.refl _ _
  | v :: r, o, w => (grownBy_set w g o v).trans (setCells_grown r (o + 1) _)
theorem BoxV.grown {w w' : World} {b : Nat} {vs : List Value} {blk : Option Nat} (h : BoxV w b vs) (t : w.grownBy w' blk) (ap : blk = none ∨ blk ≠ some b) : BoxV w' b vs := by
  have hb : w'.heap[b]? = w.heap[b]? := t.block b h.lt (by
    rcases ap with e | e
    · rw [e]; intro h; cases h
    · intro h; exact e h.symm)
  exact ⟨fun j v hj => (World.cell?_of_block (a := ⟨b, j, none⟩) hb).trans (h.cell j v hj), fun j hj => by
    have := h.free j hj
    unfold World.frozen? at this ⊢
    rw [hb]
    exact this, Nat.lt_of_lt_of_le h.lt t.size⟩
theorem Rows_.markAt {B : Nat} {w w' : World} {vs : List Value} {L : List (List Int)} {j : Nat} {z : Value} {l : List Int} (h : Rows_ B w vs L) (hj : vs[j]? = some z) (t : w.grownBy w' z.ownBlock) (hz : Fresh B w' z l) : Rows_ B w' vs (L.set j l) := by
  have hjl : j < L.length := by rw [← h.len]; exact (List.getElem?_eq_some_iff.1 hj).1
  refine ⟨by simp [h.len], fun i u r hu hr => ?_, h.apart⟩
  rw [List.getElem?_set] at hr
  by_cases e : j = i
  · subst e
    rw [if_pos rfl, if_pos hjl] at hr
    rw [hj] at hu
    cases hu
    cases hr
    exact hz
  · rw [if_neg e] at hr
    exact World.ownsRow.kept (h.row i u r hu hr) t (h.apart i j u z (fun e' => e e'.symm) hu hj)
theorem KeptX.widen {xs zs : List Value} {a b b' : Nat} (h : KeptX xs zs a b) (hb : b ≤ b') : KeptX xs zs a b' := ⟨h.1, fun q hq => h.2 q (by omega)⟩
/-- The blocks of which P says so may have turned; no other. -/
structure ChgB (P : Nat → Prop) (w w' : World) : Prop where
  os : w'.os = w.os
  tape : w'.tape = w.tape
  output : w'.output = w.output
  size : w.heap.size ≤ w'.heap.size
  block : ∀ b, b < w.heap.size → ¬ P b → w'.heap[b]? = w.heap[b]?
theorem ChgB.refl (P : Nat → Prop) (w : World) : ChgB P w w := ⟨rfl, rfl, rfl, Nat.le_refl _, fun _ _ _ => rfl⟩
theorem ChgB.trans {P : Nat → Prop} {a b c : World} (h : ChgB P a b) (k : ChgB P b c) : ChgB P a c :=
  ⟨k.os.trans h.os, k.tape.trans h.tape, k.output.trans h.output, Nat.le_trans h.size k.size, fun x hx hn => (k.block x (Nat.lt_of_lt_of_le hx h.size) hn).trans (h.block x hx hn)⟩
theorem ChgB.more {P Q : Nat → Prop} {w w' : World} (h : ChgB P w w') (k : ∀ b, P b → Q b) : ChgB Q w w' := ⟨h.os, h.tape, h.output, h.size, fun b hb hn => h.block b hb (fun hp => hn (k b hp))⟩
theorem ChgB.of_grown {P : Nat → Prop} {w w' : World} {blk : Option Nat} (h : w.grownBy w' blk) (k : ∀ b, blk = some b → P b) : ChgB P w w' :=
  ⟨h.os, h.tape, h.output, h.size, fun b hb hn => h.block b hb (fun e => hn (k b e.symm))⟩
theorem ChgB.of_ins {P : Nat → Prop} {lo hi : Nat} {w w' : World} (h : Ins lo hi w w') (k : ∀ b, lo ≤ b → b < hi → P b) : ChgB P w w' :=
  ⟨h.os, h.tape, h.output, h.size, fun b hb hn => h.block b hb (by
    by_cases h1 : b < lo
    · exact .inl h1
    · exact .inr (Nat.le_of_not_lt (fun h2 => hn (k b (by omega) h2))))⟩
theorem ChgB.below {P : Nat → Prop} {n : Nat} {w w' : World} (h : ChgB P w w') (hp : ∀ b, P b → n ≤ b) (hn : n ≤ w.heap.size) : ∀ w0 : World, w0.heap.size ≤ n → Ext w0 w → Ext w0 w' := fun w0 h0 e =>
  ⟨h.os.trans e.os, h.tape.trans e.tape, h.output.trans e.output, Nat.le_trans e.size h.size, fun k hk => (h.block k (by omega) (fun hb => by have := hp k hb; omega)).trans (Below.block e k hk)⟩
/-- R's rows lie from o on in ys, their lists are US from m on, and these read LS from m on. -/
def WinX (ys US : List Value) (LS : List (List Int)) (o m : Nat) (R : List RowD) : Prop := ∀ j (h : j < R.length), ∃ u, US[m + j]? = some u ∧ LS[m + j]? = some R[j].l ∧ XRow ys (o + j * 10) R[j] u
theorem XRow.kept {xs zs : List Value} {a b o : Nat} {d : RowD} {u : Value} (h : XRow xs o d u) (k : KeptX xs zs a b) (hap : o + 10 ≤ a ∨ b ≤ o) : XRow zs o d u := by
  obtain ⟨h0, h1, h2, h3, h4, h5, h6, h7, h8, h9⟩ := h
  refine ⟨?_, ?_, ?_, ?_, ?_, ?_, ?_, ?_, ?_, ?_⟩ <;> (rw [k.2 _ (by omega)]; assumption)
theorem WinX.kept {xs zs US : List Value} {LS : List (List Int)} {a b o m : Nat} {R : List RowD} (h : WinX xs US LS o m R) (k : KeptX xs zs a b) (hap : o + R.length * 10 ≤ a ∨ b ≤ o) : WinX zs US LS o m R := fun j hj => by
  obtain ⟨u, h1, h2, h3⟩ := h j hj
  exact ⟨u, h1, h2, h3.kept k (by omega)⟩
/-- Behind the marks. -/
def WinMarked (g o m : Nat) (lo : Nat) (xs US : List Value) (LS : List (List Int)) (R : List RowD) (k : Int) (w : World) (e : Ending) (w' : World) : Prop :=
  e = .returned (.int .i64 (k + (weigh R).sum)) ∧ ∃ zs LS', BoxV w' g zs ∧ KeptX xs zs o (o + R.length * 10) ∧ Rows_ lo w' US LS' ∧ (∀ i, (i < m ∨ m + R.length ≤ i) → LS'[i]? = LS[i]?) ∧
    (∀ j (h : j < R.length), ∃ u, US[m + j]? = some u ∧ LS'[m + j]? = some (markRowD (k + sumN (weigh R) j) R[j]).l ∧ XRow zs (o + j * 10) (markRowD (k + sumN (weigh R) j) R[j]) u) ∧
    ChgB (fun b => b = g ∨ ∃ (i : Nat) (u : Value), US[i]? = some u ∧ u.ownBlock = some b) w w'

set_option maxHeartbeats 4000000 in
set_option maxRecDepth 100000 in
theorem markRowW_any (lo g o m cap : Nat) (xs US : List Value) (LS : List (List Int)) (R : List RowD) (k : Int) (w : World) (hb : BoxV w g xs) (hr : Rows_ lo w US LS) (hg : ∀ (i : Nat) (u : Value), US[i]? = some u → u.ownBlock = none ∨ u.ownBlock ≠ some g) (hw : o + R.length * 10 ≤ xs.length) (hx : WinX xs US LS o m R) (h0 : 0 ≤ k) (hk : k ≤ 1099511627776) (h1 : bulkR R ≤ 1099511627776) :
    Calls Try.prog 104 #[.slice (some ⟨g, o, none⟩) R.length cap, .int .i64 k] w (WinMarked g o m lo xs US LS R k w) := by
  have hws := weigh_sum R
  have HG := Lib.hid hg
  have HWS := Lib.hid hws
  have HW := Lib.hid hw
  have HX := Lib.hid hx
  have H1 := Lib.hid h1
  have HB0 := Lib.hid hb
  have HR0 := Lib.hid hr
  have hLen : R.length ≤ 1099511627776 := by unfold bulkR at h1; omega
  clear hb hr hg hw hx hws h1
  go_enter Try.func104, Try.ntmps104
  go_wp2
  go_loopw [1, 5] (fun q i wr => ∃ (j : Nat) (r : Int) (ys : List Value) (LT : List (List Int)), j ≤ R.length ∧ i = .int .i64 j ∧ q = .int .i64 r ∧ Hid (r = k + sumN (weigh R) j) ∧ Hid (BoxV wr g ys) ∧ Hid (KeptX xs ys o (o + j * 10)) ∧ Hid (Rows_ lo wr US LT) ∧ Hid (∀ i, (i < m ∨ m + j ≤ i) → LT[i]? = LS[i]?) ∧ Hid (∀ i (h : i < R.length), i < j → ∃ u, US[m + i]? = some u ∧ LT[m + i]? = some (markRowD (k + sumN (weigh R) i) R[i]).l ∧ XRow ys (o + i * 10) (markRowD (k + sumN (weigh R) i) R[i]) u) ∧ Hid (ChgB (fun b => b = g ∨ ∃ (i : Nat) (u : Value), US[i]? = some u ∧ u.ownBlock = some b) w wr)) (fun _ i _ => R.length - (intOf i).toNat)
  case atStart => exact ⟨0, k, xs, LS, Nat.zero_le _, rfl, rfl, Lib.hid (by rw [sumN_zero]; simp), HB0, Lib.hid (KeptX.refl _ _ _), HR0, Lib.hid (fun _ _ => rfl), Lib.hid (fun i _ h => by omega), Lib.hid (ChgB.refl _ _)⟩
  case round =>
    clear HB0 HR0
    obtain ⟨j, r, ys, LT, hj, rfl, rfl, hr, hB, hK, hR, hO, hD, hC⟩ := hrel
    by_cases hlt : j < R.length
    · obtain ⟨d, hd⟩ : ∃ d, d = R[j] := ⟨_, rfl⟩
      obtain ⟨u, hu, hl, hx⟩ := HX.out j hlt
      rw [← hd] at hl hx
      have hx := hx.kept hK.out (.inr (Nat.le_refl _))
      have hl := (hO.out (m + j) (.inr (Nat.le_refl _))).trans hl
      have hf := hR.out.row _ _ _ hu hl
      have hlen : d.l.length ≤ 1099511627776 := by rw [hd]; have := bulkR_row hlt; have := H1.out; omega
      have hr0 : 0 ≤ r := by have := hr.out; omega
      have hr1 : r ≤ 21990232555520 := by
        have h := hr.out
        have h2 := sumN_mono (g := weigh R) (k := j) (by rw [weigh_len]; omega)
        have := HWS.out; have := H1.out; omega
      have hs := sumN_succ (g := weigh R) (k := j) (by rw [weigh_len]; exact hlt)
      rw [weigh_get hlt, ← hd] at hs
      have HS := Lib.hid hs
      have hin : o + j * 10 + 10 ≤ ys.length := by have h1 := HW.out; have h2 := hK.out.1; omega
      obtain ⟨x0, x1, x2, x3, x4, x5, x6, x7, x8, x9⟩ := hx
      have c0 := hB.out.cell (o + j * 10) _ x0
      have n0 := hB.out.free (o + j * 10) (by omega)
      have c1 := hB.out.cell (o + j * 10 + 1) _ x1
      have n1 := hB.out.free (o + j * 10 + 1) (by omega)
      have c2 := hB.out.cell (o + j * 10 + 2) _ x2
      have n2 := hB.out.free (o + j * 10 + 2) (by omega)
      have c3 := hB.out.cell (o + j * 10 + 3) _ x3
      have n3 := hB.out.free (o + j * 10 + 3) (by omega)
      have c4 := hB.out.cell (o + j * 10 + 4) _ x4
      have n4 := hB.out.free (o + j * 10 + 4) (by omega)
      have c5 := hB.out.cell (o + j * 10 + 5) _ x5
      have n5 := hB.out.free (o + j * 10 + 5) (by omega)
      have c6 := hB.out.cell (o + j * 10 + 6) _ x6
      have n6 := hB.out.free (o + j * 10 + 6) (by omega)
      have c7 := hB.out.cell (o + j * 10 + 7) _ x7
      have n7 := hB.out.free (o + j * 10 + 7) (by omega)
      have c8 := hB.out.cell (o + j * 10 + 8) _ x8
      have n8 := hB.out.free (o + j * 10 + 8) (by omega)
      have c9 := hB.out.cell (o + j * 10 + 9) _ x9
      have n9 := hB.out.free (o + j * 10 + 9) (by omega)
      obtain ⟨au, cu, rfl⟩ := hf.form
      have HFF := Lib.hid hf
      have HD := Lib.hid hd
      have HU := Lib.hid hu
      have HIN := Lib.hid hin
      have HL := Lib.hid hl
      clear hf hd hu hl hs hin x0 x1 x2 x3 x4 x5 x6 x7 x8 x9
      have kS : wr.grownBy (wr.setCells g (o + j * 10) [.int .i64 r, .int .i64 (r + 1), .int .i64 (r + 1 + 1), .int .i64 (r + 1 + 1 + 1), .int .i64 (r + 1 + 1 + 1 + 1), .int .i64 (r + 1 + 1 + 1 + 1 + 1), .int .i64 (r + 1 + 1 + 1 + 1 + 1 + 1), .int .i64 (r + 1 + 1 + 1 + 1 + 1 + 1 + 1), .int .i64 (r + 1 + 1 + 1 + 1 + 1 + 1 + 1 + 1)]) (some g) := setCells_grown [.int .i64 r, .int .i64 (r + 1), .int .i64 (r + 1 + 1), .int .i64 (r + 1 + 1 + 1), .int .i64 (r + 1 + 1 + 1 + 1), .int .i64 (r + 1 + 1 + 1 + 1 + 1), .int .i64 (r + 1 + 1 + 1 + 1 + 1 + 1), .int .i64 (r + 1 + 1 + 1 + 1 + 1 + 1 + 1), .int .i64 (r + 1 + 1 + 1 + 1 + 1 + 1 + 1 + 1)] _ wr
      have hf9 : Fresh lo (wr.setCells g (o + j * 10) [.int .i64 r, .int .i64 (r + 1), .int .i64 (r + 1 + 1), .int .i64 (r + 1 + 1 + 1), .int .i64 (r + 1 + 1 + 1 + 1), .int .i64 (r + 1 + 1 + 1 + 1 + 1), .int .i64 (r + 1 + 1 + 1 + 1 + 1 + 1), .int .i64 (r + 1 + 1 + 1 + 1 + 1 + 1 + 1), .int .i64 (r + 1 + 1 + 1 + 1 + 1 + 1 + 1 + 1)]) (.slice au d.l.length cu) d.l := World.ownsRow.kept HFF.out kS (HG.out _ _ HU.out)
      have HF9 := Lib.hid hf9
      have KS := Lib.hid kS
      clear hf9 kS
      go_wp2_with fail
      refine (markIntS_any lo _ d.l _ (wr.setCells g (o + j * 10) [.int .i64 r, .int .i64 (r + 1), .int .i64 (r + 1 + 1), .int .i64 (r + 1 + 1 + 1), .int .i64 (r + 1 + 1 + 1 + 1), .int .i64 (r + 1 + 1 + 1 + 1 + 1), .int .i64 (r + 1 + 1 + 1 + 1 + 1 + 1), .int .i64 (r + 1 + 1 + 1 + 1 + 1 + 1 + 1), .int .i64 (r + 1 + 1 + 1 + 1 + 1 + 1 + 1 + 1)]) HF9.out (by omega) (by omega)).mono ?_
      rintro e w3 ⟨rfl, f3, t3⟩
      have T3 := Lib.hid t3
      have F3 := Lib.hid f3
      clear f3 t3 c0 n0 c1 n1 c2 n2 c3 n3 c4 n4 c5 n5 c6 n6 c7 n7 c8 n8 c9 n9
      obtain ⟨q, hq⟩ : ∃ q, q = r + 1 + 1 + 1 + 1 + 1 + 1 + 1 + 1 + 1 + (d.l.length : Int) := ⟨_, rfl⟩
      have hq0 : 0 ≤ q := by omega
      rw [← hq]
      have HQ := Lib.hid hq
      clear hq
      go_wp2
      go_roundw
      case rel =>
        have hgu := HG.out _ _ HU.out
        have hB9 := boxV_puts [.int .i64 r, .int .i64 (r + 1), .int .i64 (r + 1 + 1), .int .i64 (r + 1 + 1 + 1), .int .i64 (r + 1 + 1 + 1 + 1), .int .i64 (r + 1 + 1 + 1 + 1 + 1), .int .i64 (r + 1 + 1 + 1 + 1 + 1 + 1), .int .i64 (r + 1 + 1 + 1 + 1 + 1 + 1 + 1), .int .i64 (r + 1 + 1 + 1 + 1 + 1 + 1 + 1 + 1)] (o + j * 10) _ _ hB.out (by simp only [List.length_cons, List.length_nil]; have := HIN.out; omega)
        have hB3 : BoxV w3 g (putL ys (o + j * 10) [.int .i64 r, .int .i64 (r + 1), .int .i64 (r + 1 + 1), .int .i64 (r + 1 + 1 + 1), .int .i64 (r + 1 + 1 + 1 + 1), .int .i64 (r + 1 + 1 + 1 + 1 + 1), .int .i64 (r + 1 + 1 + 1 + 1 + 1 + 1), .int .i64 (r + 1 + 1 + 1 + 1 + 1 + 1 + 1), .int .i64 (r + 1 + 1 + 1 + 1 + 1 + 1 + 1 + 1)]) := hB9.grown T3.out hgu
        have hR3 := (hR.out.touch KS.out HG.out).markAt HU.out T3.out F3.out
        have hKK : KeptX xs (putL ys (o + j * 10) [.int .i64 r, .int .i64 (r + 1), .int .i64 (r + 1 + 1), .int .i64 (r + 1 + 1 + 1), .int .i64 (r + 1 + 1 + 1 + 1), .int .i64 (r + 1 + 1 + 1 + 1 + 1), .int .i64 (r + 1 + 1 + 1 + 1 + 1 + 1), .int .i64 (r + 1 + 1 + 1 + 1 + 1 + 1 + 1), .int .i64 (r + 1 + 1 + 1 + 1 + 1 + 1 + 1 + 1)]) o (o + (j + 1) * 10) := (hK.out.widen (by omega)).put (by omega) (by simp only [List.length_cons, List.length_nil]; omega)
        have hlm : m + j < LT.length := by have h1 := hR.out.len; have h2 := (List.getElem?_eq_some_iff.1 HU.out).1; omega
        have ers : ∀ s : Int, s = r → markRowD s d = markRowD r d := fun s h => by rw [h]
        refine ⟨j + 1, q, _, _, by omega, by go_num, rfl, Lib.hid (by have h1 := hr.out; have h2 := HS.out; have h3 := HQ.out; omega), Lib.hid hB3, Lib.hid hKK, Lib.hid hR3, Lib.hid (fun i hi => ?_), Lib.hid (fun i h hij => ?_), Lib.hid (hC.out.trans ((ChgB.of_grown KS.out (fun b e => .inl (Option.some.inj e).symm)).trans (ChgB.of_grown T3.out (fun b e => .inr ⟨_, _, HU.out, e⟩))))⟩
        · rw [List.getElem?_set_ne (by omega)]
          exact hO.out i (by omega)
        · by_cases ei : i = j
          · subst ei
            refine ⟨_, HU.out, ?_, ?_⟩
            · rw [List.getElem?_set_self hlm, ← HD.out, ers _ hr.out.symm]
              rfl
            · rw [← HD.out, ers _ hr.out.symm]
              have hin := HIN.out
              have hput : ∀ (q : Nat) (v : Value), ([.int .i64 r, .int .i64 (r + 1), .int .i64 (r + 1 + 1), .int .i64 (r + 1 + 1 + 1), .int .i64 (r + 1 + 1 + 1 + 1), .int .i64 (r + 1 + 1 + 1 + 1 + 1), .int .i64 (r + 1 + 1 + 1 + 1 + 1 + 1), .int .i64 (r + 1 + 1 + 1 + 1 + 1 + 1 + 1), .int .i64 (r + 1 + 1 + 1 + 1 + 1 + 1 + 1 + 1)] : List Value)[q]? = some v → (putL ys (o + i * 10) [.int .i64 r, .int .i64 (r + 1), .int .i64 (r + 1 + 1), .int .i64 (r + 1 + 1 + 1), .int .i64 (r + 1 + 1 + 1 + 1), .int .i64 (r + 1 + 1 + 1 + 1 + 1), .int .i64 (r + 1 + 1 + 1 + 1 + 1 + 1), .int .i64 (r + 1 + 1 + 1 + 1 + 1 + 1 + 1), .int .i64 (r + 1 + 1 + 1 + 1 + 1 + 1 + 1 + 1)])[o + i * 10 + q]? = some v := fun q v hv => by
                have hq := (List.getElem?_eq_some_iff.1 hv).1
                rw [putL_in _ _ _ _ hq (by simp only [List.length_cons, List.length_nil] at hq ⊢; omega)]
                exact hv
              refine ⟨hput 0 _ rfl, hput 1 _ rfl, hput 2 _ rfl, hput 3 _ rfl, hput 4 _ rfl, hput 5 _ rfl, hput 6 _ rfl, hput 7 _ rfl, hput 8 _ rfl, ?_⟩
              rw [putL_out _ _ _ _ (by simp only [List.length_cons, List.length_nil]; omega)]
              obtain ⟨u2, hu2, _, hx2⟩ := HX.out i hlt
              have e2 : u2 = _ := Option.some.inj (hu2.symm.trans HU.out)
              subst e2
              exact (hx2.kept hK.out (.inr (Nat.le_refl _))).2.2.2.2.2.2.2.2.2
          · obtain ⟨u2, a1, a2, a3⟩ := hD.out i h (by omega)
            refine ⟨u2, a1, ?_, a3.kept ((KeptX.refl _ (o + j * 10) (o + j * 10 + 9)).put (Nat.le_refl _) (by simp only [List.length_cons, List.length_nil]; omega)) (.inl (by omega))⟩
            rw [List.getElem?_set_ne (by omega)]
            exact a2
      case measure => simp [intOf]; omega
    · obtain rfl : j = R.length := by omega
      go_wp2
      go_ret
      refine ⟨?_, ys, LT, hB.out, hK.out, hR.out, hO.out, fun i h => hD.out i h h, hC.out⟩
      have h := hr.out
      have h2 := sumN_all (weigh R)
      rw [weigh_len] at h2
      rw [h2] at h
      rw [h]; rfl
end Go.Proofs.Ytfffddhfagibpaa

namespace Go.Proofs.Ytfffddhfagibpaa
open Go.RowKit
set_option linter.unusedVariables false

/-- A world that is W with new blocks. -/
def ExtOf (W : World) := {w' : World // Ext W w'}
instance (W : World) : Nonempty (ExtOf W) := ⟨⟨W, Ext.refl W⟩⟩
theorem ExtOf.cell {W : World} (e : ExtOf W) {a : Addr} {v : Value} (h : W.cell? a = some v) : e.1.cell? a = some v := Ext.cell e.2 h
theorem wp_region_ext_lit {P : Program} {id : Nat} {Q : Exit → Act → World → Prop} {a : Act} {w : World} {l : List Oper} (hm : P.follows .mixedOrders = true) (hB : Region.lexB .any l.toArray = true)
    (h : wpQuiet P l.toArray (fun w' => ∃ e : ExtOf w, w' = e.1) (fun a' => ∀ w', (∃ e : ExtOf w, w' = e.1) → Q .normal a' w') l a) : (Code.region id l.toArray true).wp P Q a w :=
  wp_region_quiet (C := fun w' => ∃ e : ExtOf w, w' = e.1) hm hB ⟨⟨w.drew, Ext.drew (Ext.refl w)⟩, rfl⟩ (by simpa using h)
/-- A callee's contract, met in such a world. -/
theorem Calls.ext_of {P : Program} {f : FuncId} {args : Array Value} {W : World} {v : Value} (e : ExtOf W)
    (h : Calls P f args e.1 fun x w' => x = .returned v ∧ Ext e.1 w') : Calls P f args e.1 fun x w'' => x = .returned v ∧ ∃ e' : ExtOf W, w'' = e'.1 :=
  h.mono fun _ w' ⟨he, hx⟩ => ⟨he, ⟨w', e.2.trans hx⟩, rfl⟩

end Go.Proofs.Ytfffddhfagibpaa

namespace Go.Proofs.Ytfffddhfagibpaa
open Go.RowKit
set_option linter.unusedVariables false

/-- A row's marks from r on stand so. -/
def HeldX (w : World) (g o : Nat) (r : Int) (n : Nat) : Prop := ∃ u, w.cell? ⟨g, o, none⟩ = some (.int .i64 r) ∧ w.cell? ⟨g, o + 1, none⟩ = some (.int .i64 (r + 1)) ∧ w.cell? ⟨g, o + 2, none⟩ = some (.int .i64 (r + 1 + 1)) ∧ w.cell? ⟨g, o + 3, none⟩ = some (.int .i64 (r + 1 + 1 + 1)) ∧ w.cell? ⟨g, o + 4, none⟩ = some (.int .i64 (r + 1 + 1 + 1 + 1)) ∧ w.cell? ⟨g, o + 5, none⟩ = some (.int .i64 (r + 1 + 1 + 1 + 1 + 1)) ∧ w.cell? ⟨g, o + 6, none⟩ = some (.int .i64 (r + 1 + 1 + 1 + 1 + 1 + 1)) ∧ w.cell? ⟨g, o + 7, none⟩ = some (.int .i64 (r + 1 + 1 + 1 + 1 + 1 + 1 + 1)) ∧ w.cell? ⟨g, o + 8, none⟩ = some (.int .i64 (r + 1 + 1 + 1 + 1 + 1 + 1 + 1 + 1)) ∧ w.cell? ⟨g, o + 9, none⟩ = some u ∧ Ints w u (marks (r + 1 + 1 + 1 + 1 + 1 + 1 + 1 + 1 + 1) n)
theorem HeldX.ext {w w' : World} {g o n : Nat} {r : Int} (h : HeldX w g o r n) (e : Ext w w') : HeldX w' g o r n := by
  obtain ⟨u, h0, h1, h2, h3, h4, h5, h6, h7, h8, h9, h10⟩ := h
  exact ⟨u, e.cell h0, e.cell h1, e.cell h2, e.cell h3, e.cell h4, e.cell h5, e.cell h6, e.cell h7, e.cell h8, e.cell h9, h10.ext e⟩
theorem heldX_of {w : World} {g o : Nat} {r : Int} {d : RowD} {xs : List Value} {u : Value} (hb : BoxV w g xs) (hx : XRow xs o (markRowD r d) u) (hl : Ints w u (markRowD r d).l) : HeldX w g o r d.l.length := by
  obtain ⟨h0, h1, h2, h3, h4, h5, h6, h7, h8, h9⟩ := hx
  exact ⟨u, hb.cell _ _ h0, hb.cell _ _ h1, hb.cell _ _ h2, hb.cell _ _ h3, hb.cell _ _ h4, hb.cell _ _ h5, hb.cell _ _ h6, hb.cell _ _ h7, hb.cell _ _ h8, hb.cell _ _ h9, hl⟩
set_option maxHeartbeats 4000000 in
set_option maxRecDepth 100000 in
theorem heldRowW_yes (g o cap : Nat) (R : List RowD) (k : Int) (w : World) (hx : ∀ j (h : j < R.length), HeldX w g (o + j * 10) (k + sumN (weigh R) j) R[j].l.length) (h0 : 0 ≤ k) (hk : k ≤ 1099511627776) (h1 : bulkR R ≤ 1099511627776) :
    Calls Try.prog 105 #[.slice (some ⟨g, o, none⟩) R.length cap, .int .i64 k] w (IntExt (k + (weigh R).sum) w) := by
  have hws := weigh_sum R
  have HWS := Lib.hid hws
  have HX := Lib.hid hx
  have H1 := Lib.hid h1
  have hLen : R.length ≤ 1099511627776 := by unfold bulkR at h1; omega
  clear hx hws h1
  go_enter Try.func105, Try.ntmps105
  go_wp2
  go_loopw [1, 5] (fun q i wr => ∃ (j : Nat) (r : Int), j ≤ R.length ∧ i = .int .i64 j ∧ q = .int .i64 r ∧ Hid (r = k + sumN (weigh R) j) ∧ Hid (Ext w wr)) (fun _ i _ => R.length - (intOf i).toNat)
  case atStart => exact ⟨0, k, Nat.zero_le _, rfl, rfl, Lib.hid (by rw [sumN_zero]; simp), Lib.hid (Ext.refl _)⟩
  case round =>
    obtain ⟨j, r, hj, rfl, rfl, hr, hE⟩ := hrel
    by_cases hlt : j < R.length
    · obtain ⟨d, hd⟩ : ∃ d, d = R[j] := ⟨_, rfl⟩
      have hx := (HX.out j hlt).ext hE.out
      rw [← hd, ← hr.out] at hx
      obtain ⟨u, c0, c1, c2, c3, c4, c5, c6, c7, c8, c9, hl⟩ := hx
      have hlen : d.l.length ≤ 1099511627776 := by rw [hd]; have := bulkR_row hlt; have := H1.out; omega
      have hr0 : 0 ≤ r := by have := hr.out; omega
      have hr1 : r ≤ 21990232555520 := by
        have h := hr.out
        have h2 := sumN_mono (g := weigh R) (k := j) (by rw [weigh_len]; omega)
        have := HWS.out; have := H1.out; omega
      have hs := sumN_succ (g := weigh R) (k := j) (by rw [weigh_len]; exact hlt)
      rw [weigh_get hlt, ← hd] at hs
      have HS := Lib.hid hs
      obtain ⟨au, cu, rfl, _⟩ := id hl
      have HL := Lib.hid hl
      clear hs hd hl
      go_wp2_with fail
      refine (heldIntS_yes _ _ _ _ HL.out (by omega) (by omega)).mono ?_
      rintro e w3 ⟨rfl, x3⟩
      have hE3 := Lib.hid (hE.out.trans x3)
      obtain ⟨q, hq⟩ : ∃ q, q = r + 1 + 1 + 1 + 1 + 1 + 1 + 1 + 1 + 1 + (d.l.length : Int) := ⟨_, rfl⟩
      have hq0 : 0 ≤ q := by omega
      rw [← hq]
      have HQ := Lib.hid hq
      clear hq x3 c0 c1 c2 c3 c4 c5 c6 c7 c8 c9
      go_wp2
      go_roundw
      case rel => exact ⟨j + 1, q, by omega, by go_num, rfl, Lib.hid (by have h1 := hr.out; have h2 := HS.out; have h3 := HQ.out; omega), hE3⟩
      case measure => simp [intOf]; omega
    · obtain rfl : j = R.length := by omega
      go_wp2
      go_ret
      refine ⟨?_, hE.out⟩
      have h := hr.out
      have h2 := sumN_all (weigh R)
      rw [weigh_len] at h2
      rw [h2] at h
      rw [h]; rfl
end Go.Proofs.Ytfffddhfagibpaa

namespace Go.Proofs.Ytfffddhfagibpaa
open Go.RowKit
set_option linter.unusedVariables false

def weighs (T : List (List RowD)) : List Nat := T.map fun R => (weigh R).sum
theorem weighs_len (T : List (List RowD)) : (weighs T).length = T.length := by simp [weighs]
theorem weighs_get {T : List (List RowD)} {k : Nat} (h : k < T.length) : (weighs T)[k]'(by rw [weighs_len]; exact h) = (weigh T[k]).sum := by simp [weighs]
theorem weighs_sum (T : List (List RowD)) : (weighs T).sum ≤ 10 * bulkT T := by
  unfold weighs bulkT
  induction T with
  | nil => simp
  | cons R T ih =>
    have := weigh_sum R
    simp at ih ⊢; omega

/-- So many marks were laid, and nothing else has turned. -/
def Marked (lo hi : Nat) (k : Int) (n : Nat) (w : World) (e : Ending) (w' : World) : Prop := e = .returned (.int .i64 (k + n)) ∧ Ins lo hi w w'

set_option maxHeartbeats 4000000 in
set_option maxRecDepth 100000 in
theorem markRowSS_any (lo hi : Nat) (v : Value) (T : List (List RowD)) (k : Int) (w : World) (hv : FreshT lo hi w v T) (h0 : 0 ≤ k) (hk : k ≤ 1073741824) (h1 : bulkT T ≤ 10995116277) :
    Calls Try.prog 77 #[v, .int .i64 k] w (Marked lo hi k (weighs T).sum w) := by
  obtain ⟨vs, cut, ho, hU, hcut, hc0, hcn, hF⟩ := hv
  have hvl : vs.length = T.length := by have := ho.1; omega
  have hws := weighs_sum T
  rcases ho.2 with ⟨rfl, hn⟩ | ⟨g, cap, cur, rfl, hb, hg, hnc, hcm, hcs, htake⟩
  · obtain rfl : T = [] := List.eq_nil_of_length_eq_zero hn
    clear h1 hws
    go_enter Try.func77, Try.ntmps77
    go_wp2
    refine wp_loop_rounds 1 ?_; rw [rounds_succ]
    go_wp2
    go_ret
    exact ⟨by simp [weighs], Ins.refl _ _ _⟩
  · have hgc : g < cut 0 := hU g rfl
    have hm := cut_mono hcut
    have hfr : Hid (∀ i (h : i < T.length) (h' : i < vs.length), 0 ≤ i → FreshI (cut i) (cut (i + 1)) w vs[i] T[i]) := Lib.hid fun i h h' _ => hF i h h'
    have HM := Lib.hid hm
    have HGC := Lib.hid hgc
    have HC0 := Lib.hid hc0
    have HCN := Lib.hid hcn
    have HVL := Lib.hid hvl
    have HWS := Lib.hid hws
    have H1 := Lib.hid h1
    have hLen : T.length ≤ 1099511627776 := by unfold bulkT at h1; omega
    clear hg hnc hcm hcs htake cur hb hU hcut hF hm hgc hc0 hcn hvl hws h1
    go_enter Try.func77, Try.ntmps77
    go_wp2
    go_loopw [1, 5] (fun m i wr => ∃ (j : Nat) (r : Int), j ≤ T.length ∧ i = .int .i64 j ∧ m = .int .i64 r ∧ Hid (r = k + sumN (weighs T) j) ∧ wr.ownsRow lo 127 1 (.slice (some ⟨g, 0, none⟩) T.length cap) T.length vs ∧ Hid (∀ i (h : i < T.length) (h' : i < vs.length), j ≤ i → FreshI (cut i) (cut (i + 1)) wr vs[i] T[i]) ∧ Ins lo hi w wr) (fun _ i _ => T.length - (intOf i).toNat)
    case atStart => exact ⟨0, k, Nat.zero_le _, rfl, rfl, Lib.hid (by rw [sumN_zero]; simp), ho, hfr, Ins.refl _ _ _⟩
    case round =>
      clear ho hfr
      obtain ⟨j, r, hj, rfl, rfl, hr, ho, hF, hI⟩ := hrel
      by_cases hlt : j < T.length
      · have hjv : j < vs.length := by rw [HVL.out]; exact hlt
        obtain ⟨d, hd⟩ : ∃ d, d = T[j] := ⟨_, rfl⟩
        obtain ⟨u, hu⟩ : ∃ u, u = vs[j] := ⟨_, rfl⟩
        have hf := hF.out j hlt hjv (Nat.le_refl _)
        rw [← hd, ← hu] at hf
        have hlen : bulkR d ≤ 1099511627776 := by rw [hd]; have := bulkT_row hlt; have := H1.out; omega
        have hr0 : 0 ≤ r := by have := hr.out; omega
        have hr1 : r ≤ 1099511627776 := by
          have h := hr.out
          have h2 := sumN_mono (g := weighs T) (k := j) (by rw [weighs_len]; omega)
          have := HWS.out; have := H1.out; omega
        have hwd := weigh_sum d
        have hc := (ho.cellAt j (by omega)).trans (List.getElem?_eq_getElem hjv)
        rw [← hu] at hc
        have HO := Lib.hid ho
        have HFF := Lib.hid hf
        have HD := Lib.hid hd
        have HU := Lib.hid hu
        clear ho hf hd hu
        go_wp2_with fail
        refine (markRowS_any (cut j) (cut (j + 1)) _ d _ _ HFF.out hr0 hr1 hlen).mono ?_
        rintro e w3 ⟨rfl, t3⟩
        have T3 := Lib.hid t3
        have hs := sumN_succ (g := weighs T) (k := j) (by rw [weighs_len]; exact hlt)
        rw [weighs_get hlt, ← HD.out] at hs
        have HS := Lib.hid hs
        clear t3 hs hc
        obtain ⟨q, hq⟩ : ∃ q, q = r + ((weigh d).sum : Int) := ⟨_, rfl⟩
        have hq0 : 0 ≤ q := by omega
        rw [← hq]
        have HQ := Lib.hid hq
        clear hq
        go_wp2
        go_roundw
        case rel =>
          have m1 := HM.out 0 j (by omega) (by omega)
          have m2 := HM.out (j + 1) T.length (by omega) (Nat.le_refl _)
          have m3 := HGC.out
          have m4 := HC0.out
          have m5 := HCN.out
          refine ⟨j + 1, q, by omega, by go_num, rfl, Lib.hid (by have h1 := hr.out; have h2 := HS.out; have h3 := HQ.out; omega), T3.out.row HO.out (fun b e => .inl (by have := Option.some.inj e; simp at this; omega)), Lib.hid fun i h h' hij => ?_, hI.trans (T3.out.more (by omega) (by omega))⟩
          obtain ⟨zs, us, q1, q2, q3, q4, q5, q6⟩ := hF.out i h h' (by omega)
          have m6 := HM.out (j + 1) i (by omega) (by omega)
          refine ⟨zs, us, T3.out.row q1 (fun b e => .inr (by have := (World.ownsRow.lt q1 b e).1; omega)), q2, ⟨q3.len, fun a z l hz hl => T3.out.row (q3.row a z l hz hl) (fun b e => .inr (by have := (World.ownsRow.lt (q3.row a z l hz hl) b e).1; omega)), q3.apart⟩, q4, q5, q6⟩
        case measure => simp [intOf]; omega
      · obtain rfl : j = T.length := by omega
        go_wp2
        go_ret
        refine ⟨?_, hI⟩
        have h := hr.out
        have h2 := sumN_all (weighs T)
        rw [weighs_len] at h2
        rw [h2] at h
        rw [h]; rfl

set_option maxHeartbeats 1000000 in
theorem markTable_any (lo hi : Nat) (n : Int) (v : Value) (T : List (List RowD)) (k : Int) (w : World) (hv : FreshT lo hi w v T) (hhi : hi ≤ w.heap.size) (h0 : 0 ≤ k) (hk : k ≤ 1073741824) (h1 : bulkT T ≤ 10995116277) :
    Calls Try.prog 43 #[.agg #[.int .i64 n, v], .int .i64 k] w (Marked lo hi k (weighs T).sum w) := by
  have hws := weighs_sum T
  have hq0 : 0 ≤ k + ((weighs T).sum : Int) := by omega
  have HX : Hid (Ins lo hi w (w.alloc (.cells #[.int .i64 n, v] 67))) := Lib.hid (Ins.of_ext (Ext.alloc (Ext.refl _) _))
  have HV := Lib.hid (hv.kept (Stood.of_ext (Ext.alloc (Ext.refl _) (.cells #[.int .i64 n, v] 67)) hhi))
  have H1 := Lib.hid h1
  clear hws hv h1
  go_enter Try.func43, Try.ntmps43
  go_wp2_with fail
  refine (markRowSS_any lo hi _ T _ _ HV.out h0 hk H1.out).mono ?_
  rintro e w1 ⟨rfl, t1⟩
  have T1 := Lib.hid t1
  clear t1
  go_wp2
  go_ret
  exact ⟨rfl, HX.out.trans T1.out⟩

end Go.Proofs.Ytfffddhfagibpaa

namespace Go.Proofs.Ytfffddhfagibpaa
open Go.RowKit
set_option linter.unusedVariables false

theorem sumN_le {g : List Nat} {i j : Nat} (h : i ≤ j) : sumN g i ≤ sumN g j := by
  unfold sumN
  obtain ⟨d, rfl⟩ := Nat.le.dest h
  rw [List.take_add, List.sum_append]
  exact Nat.le_add_right _ _
def lensT (T : List (List RowD)) : List Nat := T.map List.length
theorem lensT_len (T : List (List RowD)) : (lensT T).length = T.length := by simp [lensT]
def mAt (T : List (List RowD)) (i : Nat) : Nat := sumN (lensT T) i
theorem mAt_lt {T : List (List RowD)} {i j : Nat} (hi : i < T.length) (h : i < j) : mAt T i + T[i].length ≤ mAt T j := by
  have h1 := sumN_succ (g := lensT T) (k := i) (by rw [lensT_len]; exact hi)
  have h2 : (lensT T)[i]'(by rw [lensT_len]; exact hi) = T[i].length := by simp [lensT]
  have h3 := sumN_le (g := lensT T) (i := i + 1) (j := j) (by omega)
  unfold mAt
  omega
theorem BoxV.same {w w' : World} {b : Nat} {vs : List Value} (h : BoxV w b vs) (hb : w'.heap[b]? = w.heap[b]?) (hs : w.heap.size ≤ w'.heap.size) : BoxV w' b vs :=
  ⟨fun j v hj => (World.cell?_of_block (a := ⟨b, j, none⟩) hb).trans (h.cell j v hj), fun j hj => by
    have := h.free j hj
    unfold World.frozen? at this ⊢
    rw [hb]
    exact this, Nat.lt_of_lt_of_le h.lt hs⟩
/-- Where the lists lie: block, place, room. -/
structure WinT where
  b : Nat → Nat
  o : Nat → Nat
  c : Nat → Nat
/-- The marks of one list of rows stand in its window. -/
def WinM (ys US : List Value) (LS : List (List Int)) (o m : Nat) (k : Int) (R : List RowD) : Prop := ∀ j (h : j < R.length), ∃ u, US[m + j]? = some u ∧ LS[m + j]? = some (markRowD (k + sumN (weigh R) j) R[j]).l ∧ XRow ys (o + j * 10) (markRowD (k + sumN (weigh R) j) R[j]) u
theorem WinM.kept {xs zs US : List Value} {LS : List (List Int)} {a b o m : Nat} {k : Int} {R : List RowD} (h : WinM xs US LS o m k R) (kx : KeptX xs zs a b) (hap : o + R.length * 10 ≤ a ∨ b ≤ o) : WinM zs US LS o m k R := fun j hj => by
  obtain ⟨u, h1, h2, h3⟩ := h j hj
  exact ⟨u, h1, h2, h3.kept kx (by omega)⟩
theorem WinM.lists {xs US : List Value} {LS LT : List (List Int)} {o m : Nat} {k : Int} {R : List RowD} (h : WinM xs US LS o m k R) (hl : ∀ i, m ≤ i → i < m + R.length → LT[i]? = LS[i]?) : WinM xs US LT o m k R := fun j hj => by
  obtain ⟨u, h1, h2, h3⟩ := h j hj
  exact ⟨u, h1, (hl _ (by omega) (by omega)).trans h2, h3⟩
theorem WinX.lists {xs US : List Value} {LS LT : List (List Int)} {o m : Nat} {R : List RowD} (h : WinX xs US LS o m R) (hl : ∀ i, m ≤ i → i < m + R.length → LT[i]? = LS[i]?) : WinX xs US LT o m R := fun j hj => by
  obtain ⟨u, h1, h2, h3⟩ := h j hj
  exact ⟨u, h1, (hl _ (by omega) (by omega)).trans h2, h3⟩
/-- What does not turn: the outer block, where the lists lie, that no two meet, and that all is in P. -/
structure TabF (P : Nat → Prop) (g0 : Nat) (vs US : List Value) (q : WinT) (T : List (List RowD)) : Prop where
  val : ∀ i (h : i < T.length), (T[i] = [] ∧ ∃ a c, vs[i]? = some (.slice a 0 c) ∧ c ≤ maxLen ∧ (a = none → c = 0)) ∨ (T[i] ≠ [] ∧ vs[i]? = some (.slice (some ⟨q.b i, q.o i, none⟩) T[i].length (q.c i)) ∧ T[i].length ≤ q.c i ∧ q.c i ≤ maxLen)
  apart : ∀ i j (h : i < T.length) (h' : j < T.length), T[i] ≠ [] → T[j] ≠ [] → i ≠ j → q.b i ≠ q.b j ∨ q.o i + T[i].length * 10 ≤ q.o j ∨ q.o j + T[j].length * 10 ≤ q.o i
  lists : ∀ (i : Nat) (u : Value), US[i]? = some u → (∀ j (h : j < T.length), T[j] ≠ [] → u.ownBlock = none ∨ u.ownBlock ≠ some (q.b j)) ∧ (u.ownBlock = none ∨ u.ownBlock ≠ some g0)
  outer : ∀ i (h : i < T.length), T[i] ≠ [] → q.b i ≠ g0
  foot : P g0 ∧ (∀ i (h : i < T.length), T[i] ≠ [] → P (q.b i)) ∧ ∀ (i : Nat) (u : Value) (b : Nat), US[i]? = some u → u.ownBlock = some b → P b
/-- What turns: up to i the marks stand, from i on the table's rows. -/
structure TabS (w : World) (g0 : Nat) (vs US : List Value) (LS : List (List Int)) (q : WinT) (XS : Nat → List Value) (k : Int) (i : Nat) (T : List (List RowD)) : Prop where
  out : BoxV w g0 vs
  row : Rows_ 0 w US LS
  box : ∀ j (h : j < T.length), T[j] ≠ [] → BoxV w (q.b j) (XS (q.b j)) ∧ q.o j + T[j].length * 10 ≤ (XS (q.b j)).length
  new : ∀ j (h : j < T.length), j < i → WinM (XS (q.b j)) US LS (q.o j) (mAt T j) (k + sumN (weighs T) j) T[j]
  old : ∀ j (h : j < T.length), i ≤ j → WinX (XS (q.b j)) US LS (q.o j) (mAt T j) T[j]
theorem WinX.nil (ys US : List Value) (LS : List (List Int)) (o m : Nat) : WinX ys US LS o m [] := fun j h => by simp at h
theorem WinM.nil (ys US : List Value) (LS : List (List Int)) (o m : Nat) (k : Int) : WinM ys US LS o m k [] := fun j h => by simp at h
theorem TabS.skip {w : World} {g0 i : Nat} {vs US : List Value} {LS : List (List Int)} {q : WinT} {XS : Nat → List Value} {k : Int} {T : List (List RowD)} (h : TabS w g0 vs US LS q XS k i T) (hi : i < T.length) (he : T[i] = []) : TabS w g0 vs US LS q XS k (i + 1) T := by
  refine ⟨h.out, h.row, h.box, fun j hj hji => ?_, fun j hj hji => h.old j hj (by omega)⟩
  by_cases e : j = i
  · subst e
    rw [he]
    exact WinM.nil _ _ _ _ _ _
  · exact h.new j hj (by omega)
theorem TabS.step {P : Nat → Prop} {w w' : World} {g0 i : Nat} {vs US zs : List Value} {LS LT : List (List Int)} {q : WinT} {XS : Nat → List Value} {k : Int} {T : List (List RowD)} (f : TabF P g0 vs US q T) (h : TabS w g0 vs US LS q XS k i T) (hi : i < T.length) (hne : T[i] ≠ [])
    (hb : BoxV w' (q.b i) zs) (hk : KeptX (XS (q.b i)) zs (q.o i) (q.o i + T[i].length * 10)) (hr : Rows_ 0 w' US LT) (hl : ∀ n, (n < mAt T i ∨ mAt T i + T[i].length ≤ n) → LT[n]? = LS[n]?) (hm : WinM zs US LT (q.o i) (mAt T i) (k + sumN (weighs T) i) T[i])
    (hc : ChgB (fun b => b = q.b i ∨ ∃ (n : Nat) (u : Value), US[n]? = some u ∧ u.ownBlock = some b) w w') :
    TabS w' g0 vs US LT q (fun b => if b = q.b i then zs else XS b) k (i + 1) T := by
  have hcell : ∀ b, b ≠ q.b i → (∀ (n : Nat) (u : Value), US[n]? = some u → u.ownBlock = none ∨ u.ownBlock ≠ some b) → b < w.heap.size → w'.heap[b]? = w.heap[b]? := fun b h1 h2 h3 => hc.block b h3 (by
    rintro (e | ⟨n, u, hu, hub⟩)
    · exact h1 e
    · rcases h2 n u hu with e | e
      · rw [e] at hub; cases hub
      · exact e hub)
  have hout : BoxV w' g0 vs := h.out.same (hcell g0 (fun e => f.outer i hi hne e.symm) (fun n u hu => (f.lists n u hu).2) h.out.lt) hc.size
  have hmm : ∀ j (hj : j < T.length), j ≠ i → ∀ n, mAt T j ≤ n → n < mAt T j + T[j].length → LT[n]? = LS[n]? := fun j hj hji n h1 h2 => hl n (by
    rcases Nat.lt_or_gt_of_ne hji with e | e
    · have := mAt_lt (T := T) (j := i) hj e; omega
    · have := mAt_lt (T := T) (j := j) hi e; omega)
  refine ⟨hout, hr, fun j hj hjn => ?_, fun j hj hji => ?_, fun j hj hji => ?_⟩
  · by_cases e : q.b j = q.b i
    · rw [if_pos e, e]
      refine ⟨hb, ?_⟩
      have := (h.box j hj hjn).2
      rw [e] at this
      rw [hk.1]; exact this
    · rw [if_neg e]
      have hbj := h.box j hj hjn
      exact ⟨hbj.1.same (hcell _ e (fun n u hu => (f.lists n u hu).1 j hj hjn) hbj.1.lt) hc.size, hbj.2⟩
  · by_cases ej : j = i
    · subst ej
      rw [if_pos rfl]
      exact hm
    · by_cases hjn : T[j] = []
      · rw [hjn]; exact WinM.nil _ _ _ _ _ _
      · have hn := (h.new j hj (by omega)).lists (hmm j hj ej)
        by_cases e : q.b j = q.b i
        · rw [if_pos e]
          rw [e] at hn
          refine hn.kept hk ?_
          rcases f.apart j i hj hi hjn hne ej with a | a | a
          · exact absurd e a
          · exact .inl a
          · exact .inr a
        · rw [if_neg e]; exact hn
  · have ej : j ≠ i := by omega
    by_cases hjn : T[j] = []
    · rw [hjn]; exact WinX.nil _ _ _ _ _
    · have hn := (h.old j hj (by omega)).lists (hmm j hj ej)
      by_cases e : q.b j = q.b i
      · rw [if_pos e]
        rw [e] at hn
        refine hn.kept hk ?_
        rcases f.apart j i hj hi hjn hne ej with a | a | a
        · exact absurd e a
        · exact .inl a
        · exact .inr a
      · rw [if_neg e]; exact hn
end Go.Proofs.Ytfffddhfagibpaa

namespace Go.Proofs.Ytfffddhfagibpaa
open Go.RowKit
set_option linter.unusedVariables false

/-- X, with Y in place of the len values from m on. -/
def spl {α : Type} (X Y : List α) (m len : Nat) : List α := X.take m ++ (Y ++ X.drop (m + len))
theorem spl_low {α : Type} {X Y : List α} {m len i : Nat} (hm : m ≤ X.length) (hi : i < m) : (spl X Y m len)[i]? = X[i]? := by
  unfold spl
  rw [List.getElem?_append_left (by rw [List.length_take]; omega), List.getElem?_take_of_lt hi]
theorem spl_in {α : Type} {X Y : List α} {m len i : Nat} (hm : m ≤ X.length) (hi : i < Y.length) : (spl X Y m len)[m + i]? = Y[i]? := by
  unfold spl
  rw [List.getElem?_append_right (by rw [List.length_take]; omega), List.length_take, Nat.min_eq_left hm, Nat.add_sub_cancel_left, List.getElem?_append_left hi]
theorem spl_high {α : Type} {X Y : List α} {m len i : Nat} (hm : m ≤ X.length) : (spl X Y m len)[m + Y.length + i]? = X[m + len + i]? := by
  unfold spl
  rw [List.getElem?_append_right (by rw [List.length_take]; omega), List.length_take, Nat.min_eq_left hm, List.getElem?_append_right (by omega), List.getElem?_drop]
  congr 1
  omega
theorem spl_len {α : Type} {X Y : List α} {m len : Nat} (hm : m + len ≤ X.length) : (spl X Y m len).length = X.length - len + Y.length := by
  unfold spl
  rw [List.length_append, List.length_append, List.length_take, List.length_drop]
  omega
/-- Lists picked out of lists that stand apart, no place twice. -/
theorem Rows_.pick {B : Nat} {w : World} {V US : List Value} {M LS : List (List Int)} (h : Rows_ B w V M) (hl : US.length = LS.length) (f : Nat → Nat) (hf : ∀ i, i < US.length → US[i]? = V[f i]? ∧ LS[i]? = M[f i]?) (inj : ∀ i j, i < US.length → j < US.length → f i = f j → i = j) : Rows_ B w US LS := by
  refine ⟨hl, fun i u l hu hL => ?_, fun i j u z hij hu hz => ?_⟩
  · have hi := (List.getElem?_eq_some_iff.1 hu).1
    obtain ⟨h1, h2⟩ := hf i hi
    exact h.row (f i) u l (h1.symm.trans hu) (h2.symm.trans hL)
  · have hi := (List.getElem?_eq_some_iff.1 hu).1
    have hj := (List.getElem?_eq_some_iff.1 hz).1
    exact h.apart (f i) (f j) u z (fun e => hij (inj i j hi hj e)) ((hf i hi).1.symm.trans hu) ((hf j hj).1.symm.trans hz)
theorem lensT_set (T : List (List RowD)) (p : Nat) (R : List RowD) : lensT (T.set p R) = (lensT T).set p R.length := by
  unfold lensT
  rw [List.map_set]
theorem mAt_set_low {T : List (List RowD)} {p i : Nat} (R : List RowD) (h : i ≤ p) : mAt (T.set p R) i = mAt T i := by
  unfold mAt sumN
  rw [lensT_set, List.take_set, List.set_eq_of_length_le (by rw [List.length_take]; omega)]
theorem mAt_set_high {T : List (List RowD)} {p : Nat} (R : List RowD) (hp : p < T.length) : ∀ i, p < i → i ≤ T.length → mAt (T.set p R) i + T[p].length = mAt T i + R.length := by
  intro i
  induction i with
  | zero => intro h; omega
  | succ i ih =>
    intro h1 h2
    have hi : i < T.length := by omega
    have s1 := sumN_succ (g := lensT T) (k := i) (by rw [lensT_len]; exact hi)
    have s2 := sumN_succ (g := lensT (T.set p R)) (k := i) (by rw [lensT_len, List.length_set]; exact hi)
    have e1 : (lensT T)[i]'(by rw [lensT_len]; exact hi) = T[i].length := by simp [lensT]
    have e2 : (lensT (T.set p R))[i]'(by rw [lensT_len, List.length_set]; exact hi) = ((T.set p R)[i]'(by rw [List.length_set]; exact hi)).length := by simp only [lensT, List.getElem_map]
    rw [e1] at s1
    rw [e2] at s2
    unfold mAt at ih ⊢
    by_cases e : p = i
    · subst e
      rw [List.getElem_set_self] at s2
      have h0 := mAt_set_low (T := T) R (Nat.le_refl p)
      unfold mAt at h0
      omega
    · rw [List.getElem_set_ne e] at s2
      have := ih (by omega) (by omega)
      omega
/-- The windows, list p's at b', o'. -/
def winAt (q : WinT) (p b' o' c' : Nat) : WinT := ⟨fun i => if i = p then b' else q.b i, fun i => if i = p then o' else q.o i, fun i => if i = p then c' else q.c i⟩
theorem tabF_splice {P P' : Nat → Prop} {g p b' o' c' : Nat} {vs US us : List Value} {q : WinT} {T : List (List RowD)} {R : List RowD} (f : TabF P g vs US q T) (hp : p < T.length) (hv : p < vs.length) (hR : R ≠ []) (hc1 : R.length ≤ c') (hc2 : c' ≤ maxLen) (hm : mAt T p + T[p].length ≤ US.length)
    (hP : ∀ b, P b → P' b) (hPb : P' b') (hg : b' ≠ g)
    (hw : ∀ j (h : j < T.length), j ≠ p → T[j] ≠ [] → q.b j ≠ b' ∨ o' + R.length * 10 ≤ q.o j ∨ q.o j + T[j].length * 10 ≤ o')
    (hus : ∀ (i : Nat) (u : Value), us[i]? = some u → (∀ j (h : j < T.length), T[j] ≠ [] → u.ownBlock = none ∨ u.ownBlock ≠ some (q.b j)) ∧ (u.ownBlock = none ∨ u.ownBlock ≠ some b') ∧ (u.ownBlock = none ∨ u.ownBlock ≠ some g) ∧ ∀ b, u.ownBlock = some b → P' b)
    (hold : ∀ (i : Nat) (u : Value), US[i]? = some u → u.ownBlock = none ∨ u.ownBlock ≠ some b') :
    TabF P' g (vs.set p (.slice (some ⟨b', o', none⟩) R.length c')) (spl US us (mAt T p) T[p].length) (winAt q p b' o' c') (T.set p R) := by
  have hUs : ∀ (i : Nat) (u : Value), (spl US us (mAt T p) T[p].length)[i]? = some u → (∃ j, us[j]? = some u) ∨ ∃ j, US[j]? = some u := fun i u hu => by
    by_cases h1 : i < mAt T p
    · rw [spl_low (by omega) h1] at hu; exact .inr ⟨_, hu⟩
    · obtain ⟨d, rfl⟩ := Nat.le.dest (Nat.le_of_not_lt h1)
      by_cases h2 : d < us.length
      · rw [spl_in (by omega) h2] at hu; exact .inl ⟨_, hu⟩
      · obtain ⟨e, rfl⟩ := Nat.le.dest (Nat.le_of_not_lt h2)
        rw [← Nat.add_assoc, spl_high (by omega)] at hu
        exact .inr ⟨_, hu⟩
  have hsl : ∀ i, i < (T.set p R).length → i < T.length := fun i h => by rw [List.length_set] at h; exact h
  have hne : ∀ i (h : i < (T.set p R).length), i ≠ p → (T.set p R)[i] = T[i]'(hsl i h) := fun i h e => List.getElem_set_ne (fun e' => e e'.symm) _
  refine ⟨fun i hi => ?_, fun i j hi hj h1 h2 hij => ?_, fun i u hu => ⟨fun j hj hnj => ?_, ?_⟩, fun i hi hni => ?_, ⟨hP _ f.foot.1, fun i hi hni => ?_, fun i u b hu hb => ?_⟩⟩
  · by_cases e : i = p
    · subst e
      refine .inr ⟨by rw [List.getElem_set_self]; exact hR, ?_, ?_, ?_⟩
      · rw [List.getElem?_set_self hv, List.getElem_set_self]
        simp [winAt]
      · rw [List.getElem_set_self]; simpa [winAt] using hc1
      · simpa [winAt] using hc2
    · rw [hne i hi e, List.getElem?_set_ne (fun e' => e e'.symm)]
      have h := f.val i (hsl i hi)
      simp only [winAt, if_neg e]
      exact h
  · by_cases e : i = p
    · subst e
      have ej : j ≠ i := fun e' => hij e'.symm
      rw [hne j hj ej] at h2
      have h := hw j (hsl j hj) ej h2
      simp only [winAt, ↓reduceIte, if_neg ej, List.getElem_set_self, hne j hj ej]
      rcases h with h | h | h
      · exact .inl (fun e' => h e'.symm)
      · exact .inr (.inl h)
      · exact .inr (.inr h)
    · by_cases e2 : j = p
      · subst e2
        rw [hne i hi e] at h1
        have h := hw i (hsl i hi) e h1
        simp only [winAt, ↓reduceIte, if_neg e, List.getElem_set_self, hne i hi e]
        rcases h with h | h | h
        · exact .inl h
        · exact .inr (.inr h)
        · exact .inr (.inl h)
      · rw [hne i hi e] at h1
        rw [hne j hj e2] at h2
        have h := f.apart i j (hsl i hi) (hsl j hj) h1 h2 hij
        simp only [winAt, if_neg e, if_neg e2, hne i hi e, hne j hj e2]
        exact h
  · by_cases e : j = p
    · simp only [winAt, if_pos e]
      rcases hUs i u hu with ⟨k, hk⟩ | ⟨k, hk⟩
      · exact (hus k u hk).2.1
      · exact hold k u hk
    · rw [hne j hj e] at hnj
      simp only [winAt, if_neg e]
      rcases hUs i u hu with ⟨k, hk⟩ | ⟨k, hk⟩
      · exact (hus k u hk).1 j (hsl j hj) hnj
      · exact (f.lists k u hk).1 j (hsl j hj) hnj
  · rcases hUs i u hu with ⟨k, hk⟩ | ⟨k, hk⟩
    · exact (hus k u hk).2.2.1
    · exact (f.lists k u hk).2
  · by_cases e : i = p
    · simp only [winAt, if_pos e]; exact hg
    · rw [hne i hi e] at hni
      simp only [winAt, if_neg e]
      exact f.outer i (hsl i hi) hni
  · by_cases e : i = p
    · simp only [winAt, if_pos e]; exact hPb
    · rw [hne i hi e] at hni
      simp only [winAt, if_neg e]
      exact hP _ (f.foot.2.1 i (hsl i hi) hni)
  · rcases hUs i u hu with ⟨k, hk⟩ | ⟨k, hk⟩
    · exact (hus k u hk).2.2.2 b hb
    · exact hP _ (f.foot.2.2 k u b hk hb)
theorem tabS_splice {w w' : World} {g p b' o' c' : Nat} {vs vs' US us ys : List Value} {LS ls : List (List Int)} {q : WinT} {XS : Nat → List Value} {T : List (List RowD)} {R : List RowD} (h : TabS w g vs US LS q XS 0 0 T) (hp : p < T.length) (hm : mAt T p + T[p].length ≤ US.length) (hml : LS.length = US.length)
    (hul : us.length = R.length) (hll : ls = R.map fun r => r.l)
    (hout : BoxV w' g vs') (hrow : Rows_ 0 w' (spl US us (mAt T p) T[p].length) (spl LS ls (mAt T p) T[p].length))
    (hbox : BoxV w' b' ys) (hlen : o' + R.length * 10 ≤ ys.length) (hnew : ∀ i (hi : i < R.length), ∃ u, us[i]? = some u ∧ XRow ys (o' + i * 10) R[i] u)
    (hoth : ∀ j (hj : j < T.length), j ≠ p → T[j] ≠ [] → (q.b j = b' ∧ KeptX (XS b') ys o' (o' + R.length * 10) ∧ (o' + R.length * 10 ≤ q.o j ∨ q.o j + T[j].length * 10 ≤ o')) ∨ (q.b j ≠ b' ∧ BoxV w' (q.b j) (XS (q.b j)))) (k : Int) :
    TabS w' g vs' (spl US us (mAt T p) T[p].length) (spl LS ls (mAt T p) T[p].length) (winAt q p b' o' c') (fun b => if b = b' then ys else XS b) k 0 (T.set p R) := by
  have hsl : ∀ i, i < (T.set p R).length → i < T.length := fun i h => by rw [List.length_set] at h; exact h
  have hne : ∀ i (h : i < (T.set p R).length), i ≠ p → (T.set p R)[i] = T[i]'(hsl i h) := fun i h e => List.getElem_set_ne (fun e' => e e'.symm) _
  have hlsl : ls.length = R.length := by rw [hll, List.length_map]
  refine ⟨hout, hrow, fun j hj hnj => ?_, fun j hj hj0 => by omega, fun j hj _ => ?_⟩
  · by_cases e : j = p
    · subst e
      rw [List.getElem_set_self]
      simp only [winAt, ↓reduceIte]
      exact ⟨hbox, hlen⟩
    · rw [hne j hj e] at hnj ⊢
      simp only [winAt, if_neg e]
      have hb := h.box j (hsl j hj) hnj
      rcases hoth j (hsl j hj) e hnj with ⟨e1, e2, _⟩ | ⟨e1, e2⟩
      · rw [if_pos e1, e1]
        rw [e1] at hb
        exact ⟨hbox, by rw [e2.1]; exact hb.2⟩
      · rw [if_neg e1]
        exact ⟨e2, hb.2⟩
  · by_cases e : j = p
    · subst e
      rw [List.getElem_set_self, mAt_set_low R (Nat.le_refl _)]
      simp only [winAt, ↓reduceIte]
      intro i hi
      obtain ⟨u, hu, hx⟩ := hnew i hi
      refine ⟨u, ?_, ?_, hx⟩
      · rw [spl_in (by omega) (by omega)]; exact hu
      · rw [spl_in (by omega) (by omega), hll, List.getElem?_map, List.getElem?_eq_getElem hi]; rfl
    · rw [hne j hj e]
      simp only [winAt, if_neg e]
      by_cases hnj : T[j]'(hsl j hj) = []
      · rw [hnj]; exact WinX.nil _ _ _ _ _
      · have ho := h.old j (hsl j hj) (Nat.zero_le _)
        have hs : WinX (XS (q.b j)) (spl US us (mAt T p) T[p].length) (spl LS ls (mAt T p) T[p].length) (q.o j) (mAt (T.set p R) j) (T[j]'(hsl j hj)) := by
          intro i hi
          obtain ⟨u, h1, h2, h3⟩ := ho i hi
          rcases Nat.lt_or_gt_of_ne e with e' | e'
          · have hlt := mAt_lt (T := T) (i := j) (j := p) (hsl j hj) e'
            rw [mAt_set_low R (Nat.le_of_lt e')]
            exact ⟨u, by rw [spl_low (by omega) (by omega)]; exact h1, by rw [spl_low (by omega) (by omega)]; exact h2, h3⟩
          · have hlt := mAt_lt (T := T) (i := p) (j := j) hp e'
            have hh := mAt_set_high (T := T) R hp j e' (Nat.le_of_lt (hsl j hj))
            obtain ⟨d, hd⟩ := Nat.le.dest hlt
            have e1 : mAt (T.set p R) j + i = mAt T p + us.length + (d + i) := by omega
            have e2 : mAt (T.set p R) j + i = mAt T p + ls.length + (d + i) := by omega
            have e3 : mAt T p + T[p].length + (d + i) = mAt T j + i := by omega
            exact ⟨u, by rw [e1, spl_high (by omega), e3]; exact h1, by rw [e2, spl_high (by omega), e3]; exact h2, h3⟩
        rcases hoth j (hsl j hj) e hnj with ⟨e1, e2, e3⟩ | ⟨e1, e2⟩
        · rw [if_pos e1]
          rw [e1] at hs
          exact hs.kept e2 (by omega)
        · rw [if_neg e1]
          exact hs
end Go.Proofs.Ytfffddhfagibpaa
