/- Texts of this proof, part n: words, plain facts, contracts. -/
import Derived.Test.YtbffkidkfannhaaMGoodReplicam
import Derived.Test.YtbffkidkfannhaaMGoodReplicaa
import Derived.Test.YtbffkidkfannhaaMGoodReplical
import Derived.Test.YtbffkidkfannhaaMGoodReplicae
import Derived.Test.YtbffkidkfannhaaMGoodReplicac
import Derived.Test.YtbffkidkfannhaaShelf

namespace Go.Proofs.Ytbffkidkfannhaa
open Go.RowKit
set_option linter.unusedVariables false

/-- The row that the marks from r on leave. -/
def markRowD (r : Int) (d : RowD) : RowD := ⟨r, r + 1, r + 1 + 1, r + 1 + 1 + 1, r + 1 + 1 + 1 + 1, r + 1 + 1 + 1 + 1 + 1, r + 1 + 1 + 1 + 1 + 1 + 1, r + 1 + 1 + 1 + 1 + 1 + 1 + 1, r + 1 + 1 + 1 + 1 + 1 + 1 + 1 + 1, marks (r + 1 + 1 + 1 + 1 + 1 + 1 + 1 + 1 + 1) d.l.length⟩
theorem setCells_grown {g : Nat} : ∀ (vs : List Value) (o : Nat) (w : World), w.grownBy (w.setCells g o vs) (some g)
  | [], _, w => World.grownBy.refl _ _
  | v :: r, o, w => (grownBy_set w g o v).trans (setCells_grown r (o + 1) _)
theorem BoxV.grown {w w' : World} {b : Nat} {vs : List Value} {blk : Option Nat} (h : BoxV w b vs) (t : w.grownBy w' blk) (ap : blk = none ∨ blk ≠ some b) : BoxV w' b vs := by
  have hb : w'.heap[b]? = w.heap[b]? := t.block b h.lt (by
    rcases ap with e | e
    · rw [e]; intro h; cases h
    · intro h; exact e h.symm)
  exact ⟨fun j v hj => (World.cell?_of_block (a := ⟨b, j, none⟩) hb).trans (h.cell j v hj), fun j hj => by
    have := h.free j hj
    unfold World.frozen? at this ⊢
    rw [hb]
    exact this, Nat.lt_of_lt_of_le h.lt t.size⟩
theorem Rows_.markAt {B : Nat} {w w' : World} {vs : List Value} {L : List (List Int)} {j : Nat} {z : Value} {l : List Int} (h : Rows_ B w vs L) (hj : vs[j]? = some z) (t : w.grownBy w' z.ownBlock) (hz : Fresh B w' z l) : Rows_ B w' vs (L.set j l) := by
  have hjl : j < L.length := by rw [← h.len]; exact (List.getElem?_eq_some_iff.1 hj).1
  refine ⟨by simp [h.len], fun i u r hu hr => ?_, h.apart⟩
  rw [List.getElem?_set] at hr
  by_cases e : j = i
  · subst e
    rw [if_pos rfl, if_pos hjl] at hr
    rw [hj] at hu
    cases hu
    cases hr
    exact hz
  · rw [if_neg e] at hr
    exact World.ownsRow.kept (h.row i u r hu hr) t (h.apart i j u z (fun e' => e e'.symm) hu hj)
theorem KeptX.widen {xs zs : List Value} {a b b' : Nat} (h : KeptX xs zs a b) (hb : b ≤ b') : KeptX xs zs a b' := ⟨h.1, fun q hq => h.2 q (by omega)⟩
/-- The blocks of which P says so may have turned; no other. -/
structure ChgB (P : Nat → Prop) (w w' : World) : Prop where
  os : w'.os = w.os
  tape : w'.tape = w.tape
  output : w'.output = w.output
  size : w.heap.size ≤ w'.heap.size
  block : ∀ b, b < w.heap.size → ¬ P b → w'.heap[b]? = w.heap[b]?
theorem ChgB.refl (P : Nat → Prop) (w : World) : ChgB P w w := ⟨rfl, rfl, rfl, Nat.le_refl _, fun _ _ _ => rfl⟩
theorem ChgB.trans {P : Nat → Prop} {a b c : World} (h : ChgB P a b) (k : ChgB P b c) : ChgB P a c :=
  ⟨k.os.trans h.os, k.tape.trans h.tape, k.output.trans h.output, Nat.le_trans h.size k.size, fun x hx hn => (k.block x (Nat.lt_of_lt_of_le hx h.size) hn).trans (h.block x hx hn)⟩
theorem ChgB.more {P Q : Nat → Prop} {w w' : World} (h : ChgB P w w') (k : ∀ b, P b → Q b) : ChgB Q w w' := ⟨h.os, h.tape, h.output, h.size, fun b hb hn => h.block b hb (fun hp => hn (k b hp))⟩
theorem ChgB.of_grown {P : Nat → Prop} {w w' : World} {blk : Option Nat} (h : w.grownBy w' blk) (k : ∀ b, blk = some b → P b) : ChgB P w w' :=
  ⟨h.os, h.tape, h.output, h.size, fun b hb hn => h.block b hb (fun e => hn (k b e.symm))⟩
theorem ChgB.of_ins {P : Nat → Prop} {lo hi : Nat} {w w' : World} (h : Ins lo hi w w') (k : ∀ b, lo ≤ b → b < hi → P b) : ChgB P w w' :=
  ⟨h.os, h.tape, h.output, h.size, fun b hb hn => h.block b hb (by
    by_cases h1 : b < lo
    · exact .inl h1
    · exact .inr (Nat.le_of_not_lt (fun h2 => hn (k b (by omega) h2))))⟩
theorem ChgB.below {P : Nat → Prop} {n : Nat} {w w' : World} (h : ChgB P w w') (hp : ∀ b, P b → n ≤ b) (hn : n ≤ w.heap.size) : ∀ w0 : World, w0.heap.size ≤ n → Ext w0 w → Ext w0 w' := fun w0 h0 e =>
  ⟨h.os.trans e.os, h.tape.trans e.tape, h.output.trans e.output, Nat.le_trans e.size h.size, fun k hk => (h.block k (by omega) (fun hb => by have := hp k hb; omega)).trans (Below.block e k hk)⟩
/-- R's rows lie from o on in ys, their lists are US from m on, and these read LS from m on. -/
def WinX (ys US : List Value) (LS : List (List Int)) (o m : Nat) (R : List RowD) : Prop := ∀ j (h : j < R.length), ∃ u, US[m + j]? = some u ∧ LS[m + j]? = some R[j].l ∧ XRow ys (o + j * 10) R[j] u
theorem XRow.kept {xs zs : List Value} {a b o : Nat} {d : RowD} {u : Value} (h : XRow xs o d u) (k : KeptX xs zs a b) (hap : o + 10 ≤ a ∨ b ≤ o) : XRow zs o d u := by
  obtain ⟨h0, h1, h2, h3, h4, h5, h6, h7, h8, h9⟩ := h
  refine ⟨?_, ?_, ?_, ?_, ?_, ?_, ?_, ?_, ?_, ?_⟩ <;> (rw [k.2 _ (by omega)]; assumption)
theorem WinX.kept {xs zs US : List Value} {LS : List (List Int)} {a b o m : Nat} {R : List RowD} (h : WinX xs US LS o m R) (k : KeptX xs zs a b) (hap : o + R.length * 10 ≤ a ∨ b ≤ o) : WinX zs US LS o m R := fun j hj => by
  obtain ⟨u, h1, h2, h3⟩ := h j hj
  exact ⟨u, h1, h2, h3.kept k (by omega)⟩
/-- Behind the marks. -/
def WinMarked (g o m : Nat) (lo : Nat) (xs US : List Value) (LS : List (List Int)) (R : List RowD) (k : Int) (w : World) (e : Ending) (w' : World) : Prop :=
  e = .returned (.int .i64 (k + (weigh R).sum)) ∧ ∃ zs LS', BoxV w' g zs ∧ KeptX xs zs o (o + R.length * 10) ∧ Rows_ lo w' US LS' ∧ (∀ i, (i < m ∨ m + R.length ≤ i) → LS'[i]? = LS[i]?) ∧
    (∀ j (h : j < R.length), ∃ u, US[m + j]? = some u ∧ LS'[m + j]? = some (markRowD (k + sumN (weigh R) j) R[j]).l ∧ XRow zs (o + j * 10) (markRowD (k + sumN (weigh R) j) R[j]) u) ∧
    ChgB (fun b => b = g ∨ ∃ (i : Nat) (u : Value), US[i]? = some u ∧ u.ownBlock = some b) w w'

set_option maxHeartbeats 4000000 in
set_option maxRecDepth 100000 in
theorem markRowW_any (lo g o m cap : Nat) (xs US : List Value) (LS : List (List Int)) (R : List RowD) (k : Int) (w : World) (hb : BoxV w g xs) (hr : Rows_ lo w US LS) (hg : ∀ (i : Nat) (u : Value), US[i]? = some u → u.ownBlock = none ∨ u.ownBlock ≠ some g) (hw : o + R.length * 10 ≤ xs.length) (hx : WinX xs US LS o m R) (h0 : 0 ≤ k) (hk : k ≤ 1099511627776) (h1 : bulkR R ≤ 1099511627776) :
    Calls Try.prog 82 #[.slice (some ⟨g, o, none⟩) R.length cap, .int .i64 k] w (WinMarked g o m lo xs US LS R k w) := by
  have hws := weigh_sum R
  have HG := Lib.hid hg
  have HWS := Lib.hid hws
  have HW := Lib.hid hw
  have HX := Lib.hid hx
  have H1 := Lib.hid h1
  have HB0 := Lib.hid hb
  have HR0 := Lib.hid hr
  have hLen : R.length ≤ 1099511627776 := by unfold bulkR at h1; omega
  clear hb hr hg hw hx hws h1
  go_enter Try.func82, Try.ntmps82
  go_wp2
  go_loopw [1, 5] (fun q i wr => ∃ (j : Nat) (r : Int) (ys : List Value) (LT : List (List Int)), j ≤ R.length ∧ i = .int .i64 j ∧ q = .int .i64 r ∧ Hid (r = k + sumN (weigh R) j) ∧ Hid (BoxV wr g ys) ∧ Hid (KeptX xs ys o (o + j * 10)) ∧ Hid (Rows_ lo wr US LT) ∧ Hid (∀ i, (i < m ∨ m + j ≤ i) → LT[i]? = LS[i]?) ∧ Hid (∀ i (h : i < R.length), i < j → ∃ u, US[m + i]? = some u ∧ LT[m + i]? = some (markRowD (k + sumN (weigh R) i) R[i]).l ∧ XRow ys (o + i * 10) (markRowD (k + sumN (weigh R) i) R[i]) u) ∧ Hid (ChgB (fun b => b = g ∨ ∃ (i : Nat) (u : Value), US[i]? = some u ∧ u.ownBlock = some b) w wr)) (fun _ i _ => R.length - (intOf i).toNat)
  case atStart => exact ⟨0, k, xs, LS, Nat.zero_le _, rfl, rfl, Lib.hid (by rw [sumN_zero]; simp), HB0, Lib.hid (KeptX.refl _ _ _), HR0, Lib.hid (fun _ _ => rfl), Lib.hid (fun i _ h => by omega), Lib.hid (ChgB.refl _ _)⟩
  case round =>
    clear HB0 HR0
    obtain ⟨j, r, ys, LT, hj, rfl, rfl, hr, hB, hK, hR, hO, hD, hC⟩ := hrel
    by_cases hlt : j < R.length
    · obtain ⟨d, hd⟩ : ∃ d, d = R[j] := ⟨_, rfl⟩
      obtain ⟨u, hu, hl, hx⟩ := HX.out j hlt
      rw [← hd] at hl hx
      have hx := hx.kept hK.out (.inr (Nat.le_refl _))
      have hl := (hO.out (m + j) (.inr (Nat.le_refl _))).trans hl
      have hf := hR.out.row _ _ _ hu hl
      have hlen : d.l.length ≤ 1099511627776 := by rw [hd]; have := bulkR_row hlt; have := H1.out; omega
      have hr0 : 0 ≤ r := by have := hr.out; omega
      have hr1 : r ≤ 21990232555520 := by
        have h := hr.out
        have h2 := sumN_mono (g := weigh R) (k := j) (by rw [weigh_len]; omega)
        have := HWS.out; have := H1.out; omega
      have hs := sumN_succ (g := weigh R) (k := j) (by rw [weigh_len]; exact hlt)
      rw [weigh_get hlt, ← hd] at hs
      have HS := Lib.hid hs
      have hin : o + j * 10 + 10 ≤ ys.length := by have h1 := HW.out; have h2 := hK.out.1; omega
      obtain ⟨x0, x1, x2, x3, x4, x5, x6, x7, x8, x9⟩ := hx
      have c0 := hB.out.cell (o + j * 10) _ x0
      have n0 := hB.out.free (o + j * 10) (by omega)
      have c1 := hB.out.cell (o + j * 10 + 1) _ x1
      have n1 := hB.out.free (o + j * 10 + 1) (by omega)
      have c2 := hB.out.cell (o + j * 10 + 2) _ x2
      have n2 := hB.out.free (o + j * 10 + 2) (by omega)
      have c3 := hB.out.cell (o + j * 10 + 3) _ x3
      have n3 := hB.out.free (o + j * 10 + 3) (by omega)
      have c4 := hB.out.cell (o + j * 10 + 4) _ x4
      have n4 := hB.out.free (o + j * 10 + 4) (by omega)
      have c5 := hB.out.cell (o + j * 10 + 5) _ x5
      have n5 := hB.out.free (o + j * 10 + 5) (by omega)
      have c6 := hB.out.cell (o + j * 10 + 6) _ x6
      have n6 := hB.out.free (o + j * 10 + 6) (by omega)
      have c7 := hB.out.cell (o + j * 10 + 7) _ x7
      have n7 := hB.out.free (o + j * 10 + 7) (by omega)
      have c8 := hB.out.cell (o + j * 10 + 8) _ x8
      have n8 := hB.out.free (o + j * 10 + 8) (by omega)
      have c9 := hB.out.cell (o + j * 10 + 9) _ x9
      have n9 := hB.out.free (o + j * 10 + 9) (by omega)
      obtain ⟨au, cu, rfl⟩ := hf.form
      have HFF := Lib.hid hf
      have HD := Lib.hid hd
      have HU := Lib.hid hu
      have HIN := Lib.hid hin
      have HL := Lib.hid hl
      clear hf hd hu hl hs hin x0 x1 x2 x3 x4 x5 x6 x7 x8 x9
      have kS : wr.grownBy (wr.setCells g (o + j * 10) [.int .i64 r, .int .i64 (r + 1), .int .i64 (r + 1 + 1), .int .i64 (r + 1 + 1 + 1), .int .i64 (r + 1 + 1 + 1 + 1), .int .i64 (r + 1 + 1 + 1 + 1 + 1), .int .i64 (r + 1 + 1 + 1 + 1 + 1 + 1), .int .i64 (r + 1 + 1 + 1 + 1 + 1 + 1 + 1), .int .i64 (r + 1 + 1 + 1 + 1 + 1 + 1 + 1 + 1)]) (some g) := setCells_grown [.int .i64 r, .int .i64 (r + 1), .int .i64 (r + 1 + 1), .int .i64 (r + 1 + 1 + 1), .int .i64 (r + 1 + 1 + 1 + 1), .int .i64 (r + 1 + 1 + 1 + 1 + 1), .int .i64 (r + 1 + 1 + 1 + 1 + 1 + 1), .int .i64 (r + 1 + 1 + 1 + 1 + 1 + 1 + 1), .int .i64 (r + 1 + 1 + 1 + 1 + 1 + 1 + 1 + 1)] _ wr
      have hf9 : Fresh lo (wr.setCells g (o + j * 10) [.int .i64 r, .int .i64 (r + 1), .int .i64 (r + 1 + 1), .int .i64 (r + 1 + 1 + 1), .int .i64 (r + 1 + 1 + 1 + 1), .int .i64 (r + 1 + 1 + 1 + 1 + 1), .int .i64 (r + 1 + 1 + 1 + 1 + 1 + 1), .int .i64 (r + 1 + 1 + 1 + 1 + 1 + 1 + 1), .int .i64 (r + 1 + 1 + 1 + 1 + 1 + 1 + 1 + 1)]) (.slice au d.l.length cu) d.l := World.ownsRow.kept HFF.out kS (HG.out _ _ HU.out)
      have HF9 := Lib.hid hf9
      have KS := Lib.hid kS
      clear hf9 kS
      go_wp2_with fail
      refine (markIntS_any lo _ d.l _ (wr.setCells g (o + j * 10) [.int .i64 r, .int .i64 (r + 1), .int .i64 (r + 1 + 1), .int .i64 (r + 1 + 1 + 1), .int .i64 (r + 1 + 1 + 1 + 1), .int .i64 (r + 1 + 1 + 1 + 1 + 1), .int .i64 (r + 1 + 1 + 1 + 1 + 1 + 1), .int .i64 (r + 1 + 1 + 1 + 1 + 1 + 1 + 1), .int .i64 (r + 1 + 1 + 1 + 1 + 1 + 1 + 1 + 1)]) HF9.out (by omega) (by omega)).mono ?_
      rintro e w3 ⟨rfl, f3, t3⟩
      have T3 := Lib.hid t3
      have F3 := Lib.hid f3
      clear f3 t3 c0 n0 c1 n1 c2 n2 c3 n3 c4 n4 c5 n5 c6 n6 c7 n7 c8 n8 c9 n9
      obtain ⟨q, hq⟩ : ∃ q, q = r + 1 + 1 + 1 + 1 + 1 + 1 + 1 + 1 + 1 + (d.l.length : Int) := ⟨_, rfl⟩
      have hq0 : 0 ≤ q := by omega
      rw [← hq]
      have HQ := Lib.hid hq
      clear hq
      go_wp2
      go_roundw
      case rel =>
        have hgu := HG.out _ _ HU.out
        have hB9 := boxV_puts [.int .i64 r, .int .i64 (r + 1), .int .i64 (r + 1 + 1), .int .i64 (r + 1 + 1 + 1), .int .i64 (r + 1 + 1 + 1 + 1), .int .i64 (r + 1 + 1 + 1 + 1 + 1), .int .i64 (r + 1 + 1 + 1 + 1 + 1 + 1), .int .i64 (r + 1 + 1 + 1 + 1 + 1 + 1 + 1), .int .i64 (r + 1 + 1 + 1 + 1 + 1 + 1 + 1 + 1)] (o + j * 10) _ _ hB.out (by simp only [List.length_cons, List.length_nil]; have := HIN.out; omega)
        have hB3 : BoxV w3 g (putL ys (o + j * 10) [.int .i64 r, .int .i64 (r + 1), .int .i64 (r + 1 + 1), .int .i64 (r + 1 + 1 + 1), .int .i64 (r + 1 + 1 + 1 + 1), .int .i64 (r + 1 + 1 + 1 + 1 + 1), .int .i64 (r + 1 + 1 + 1 + 1 + 1 + 1), .int .i64 (r + 1 + 1 + 1 + 1 + 1 + 1 + 1), .int .i64 (r + 1 + 1 + 1 + 1 + 1 + 1 + 1 + 1)]) := hB9.grown T3.out hgu
        have hR3 := (hR.out.touch KS.out HG.out).markAt HU.out T3.out F3.out
        have hKK : KeptX xs (putL ys (o + j * 10) [.int .i64 r, .int .i64 (r + 1), .int .i64 (r + 1 + 1), .int .i64 (r + 1 + 1 + 1), .int .i64 (r + 1 + 1 + 1 + 1), .int .i64 (r + 1 + 1 + 1 + 1 + 1), .int .i64 (r + 1 + 1 + 1 + 1 + 1 + 1), .int .i64 (r + 1 + 1 + 1 + 1 + 1 + 1 + 1), .int .i64 (r + 1 + 1 + 1 + 1 + 1 + 1 + 1 + 1)]) o (o + (j + 1) * 10) := (hK.out.widen (by omega)).put (by omega) (by simp only [List.length_cons, List.length_nil]; omega)
        have hlm : m + j < LT.length := by have h1 := hR.out.len; have h2 := (List.getElem?_eq_some_iff.1 HU.out).1; omega
        have ers : ∀ s : Int, s = r → markRowD s d = markRowD r d := fun s h => by rw [h]
        refine ⟨j + 1, q, _, _, by omega, by go_num, rfl, Lib.hid (by have h1 := hr.out; have h2 := HS.out; have h3 := HQ.out; omega), Lib.hid hB3, Lib.hid hKK, Lib.hid hR3, Lib.hid (fun i hi => ?_), Lib.hid (fun i h hij => ?_), Lib.hid (hC.out.trans ((ChgB.of_grown KS.out (fun b e => .inl (Option.some.inj e).symm)).trans (ChgB.of_grown T3.out (fun b e => .inr ⟨_, _, HU.out, e⟩))))⟩
        · rw [List.getElem?_set_ne (by omega)]
          exact hO.out i (by omega)
        · by_cases ei : i = j
          · subst ei
            refine ⟨_, HU.out, ?_, ?_⟩
            · rw [List.getElem?_set_self hlm, ← HD.out, ers _ hr.out.symm]
              rfl
            · rw [← HD.out, ers _ hr.out.symm]
              have hin := HIN.out
              have hput : ∀ (q : Nat) (v : Value), ([.int .i64 r, .int .i64 (r + 1), .int .i64 (r + 1 + 1), .int .i64 (r + 1 + 1 + 1), .int .i64 (r + 1 + 1 + 1 + 1), .int .i64 (r + 1 + 1 + 1 + 1 + 1), .int .i64 (r + 1 + 1 + 1 + 1 + 1 + 1), .int .i64 (r + 1 + 1 + 1 + 1 + 1 + 1 + 1), .int .i64 (r + 1 + 1 + 1 + 1 + 1 + 1 + 1 + 1)] : List Value)[q]? = some v → (putL ys (o + i * 10) [.int .i64 r, .int .i64 (r + 1), .int .i64 (r + 1 + 1), .int .i64 (r + 1 + 1 + 1), .int .i64 (r + 1 + 1 + 1 + 1), .int .i64 (r + 1 + 1 + 1 + 1 + 1), .int .i64 (r + 1 + 1 + 1 + 1 + 1 + 1), .int .i64 (r + 1 + 1 + 1 + 1 + 1 + 1 + 1), .int .i64 (r + 1 + 1 + 1 + 1 + 1 + 1 + 1 + 1)])[o + i * 10 + q]? = some v := fun q v hv => by
                have hq := (List.getElem?_eq_some_iff.1 hv).1
                rw [putL_in _ _ _ _ hq (by simp only [List.length_cons, List.length_nil] at hq ⊢; omega)]
                exact hv
              refine ⟨hput 0 _ rfl, hput 1 _ rfl, hput 2 _ rfl, hput 3 _ rfl, hput 4 _ rfl, hput 5 _ rfl, hput 6 _ rfl, hput 7 _ rfl, hput 8 _ rfl, ?_⟩
              rw [putL_out _ _ _ _ (by simp only [List.length_cons, List.length_nil]; omega)]
              obtain ⟨u2, hu2, _, hx2⟩ := HX.out i hlt
              have e2 : u2 = _ := Option.some.inj (hu2.symm.trans HU.out)
              subst e2
              exact (hx2.kept hK.out (.inr (Nat.le_refl _))).2.2.2.2.2.2.2.2.2
          · obtain ⟨u2, a1, a2, a3⟩ := hD.out i h (by omega)
            refine ⟨u2, a1, ?_, a3.kept ((KeptX.refl _ (o + j * 10) (o + j * 10 + 9)).put (Nat.le_refl _) (by simp only [List.length_cons, List.length_nil]; omega)) (.inl (by omega))⟩
            rw [List.getElem?_set_ne (by omega)]
            exact a2
      case measure => simp [intOf]; omega
    · obtain rfl : j = R.length := by omega
      go_wp2
      go_ret
      refine ⟨?_, ys, LT, hB.out, hK.out, hR.out, hO.out, fun i h => hD.out i h h, hC.out⟩
      have h := hr.out
      have h2 := sumN_all (weigh R)
      rw [weigh_len] at h2
      rw [h2] at h
      rw [h]; rfl
end Go.Proofs.Ytbffkidkfannhaa

namespace Go.Proofs.Ytbffkidkfannhaa
open Go.RowKit
set_option linter.unusedVariables false

/-- A row's marks from r on stand so. -/
def HeldX (w : World) (g o : Nat) (r : Int) (n : Nat) : Prop := ∃ u, w.cell? ⟨g, o, none⟩ = some (.int .i64 r) ∧ w.cell? ⟨g, o + 1, none⟩ = some (.int .i64 (r + 1)) ∧ w.cell? ⟨g, o + 2, none⟩ = some (.int .i64 (r + 1 + 1)) ∧ w.cell? ⟨g, o + 3, none⟩ = some (.int .i64 (r + 1 + 1 + 1)) ∧ w.cell? ⟨g, o + 4, none⟩ = some (.int .i64 (r + 1 + 1 + 1 + 1)) ∧ w.cell? ⟨g, o + 5, none⟩ = some (.int .i64 (r + 1 + 1 + 1 + 1 + 1)) ∧ w.cell? ⟨g, o + 6, none⟩ = some (.int .i64 (r + 1 + 1 + 1 + 1 + 1 + 1)) ∧ w.cell? ⟨g, o + 7, none⟩ = some (.int .i64 (r + 1 + 1 + 1 + 1 + 1 + 1 + 1)) ∧ w.cell? ⟨g, o + 8, none⟩ = some (.int .i64 (r + 1 + 1 + 1 + 1 + 1 + 1 + 1 + 1)) ∧ w.cell? ⟨g, o + 9, none⟩ = some u ∧ Ints w u (marks (r + 1 + 1 + 1 + 1 + 1 + 1 + 1 + 1 + 1) n)
theorem HeldX.ext {w w' : World} {g o n : Nat} {r : Int} (h : HeldX w g o r n) (e : Ext w w') : HeldX w' g o r n := by
  obtain ⟨u, h0, h1, h2, h3, h4, h5, h6, h7, h8, h9, h10⟩ := h
  exact ⟨u, e.cell h0, e.cell h1, e.cell h2, e.cell h3, e.cell h4, e.cell h5, e.cell h6, e.cell h7, e.cell h8, e.cell h9, h10.ext e⟩
theorem heldX_of {w : World} {g o : Nat} {r : Int} {d : RowD} {xs : List Value} {u : Value} (hb : BoxV w g xs) (hx : XRow xs o (markRowD r d) u) (hl : Ints w u (markRowD r d).l) : HeldX w g o r d.l.length := by
  obtain ⟨h0, h1, h2, h3, h4, h5, h6, h7, h8, h9⟩ := hx
  exact ⟨u, hb.cell _ _ h0, hb.cell _ _ h1, hb.cell _ _ h2, hb.cell _ _ h3, hb.cell _ _ h4, hb.cell _ _ h5, hb.cell _ _ h6, hb.cell _ _ h7, hb.cell _ _ h8, hb.cell _ _ h9, hl⟩
set_option maxHeartbeats 4000000 in
set_option maxRecDepth 100000 in
theorem heldRowW_yes (g o cap : Nat) (R : List RowD) (k : Int) (w : World) (hx : ∀ j (h : j < R.length), HeldX w g (o + j * 10) (k + sumN (weigh R) j) R[j].l.length) (h0 : 0 ≤ k) (hk : k ≤ 1099511627776) (h1 : bulkR R ≤ 1099511627776) :
    Calls Try.prog 84 #[.slice (some ⟨g, o, none⟩) R.length cap, .int .i64 k] w (IntExt (k + (weigh R).sum) w) := by
  have hws := weigh_sum R
  have HWS := Lib.hid hws
  have HX := Lib.hid hx
  have H1 := Lib.hid h1
  have hLen : R.length ≤ 1099511627776 := by unfold bulkR at h1; omega
  clear hx hws h1
  go_enter Try.func84, Try.ntmps84
  go_wp2
  go_loopw [1, 5] (fun q i wr => ∃ (j : Nat) (r : Int), j ≤ R.length ∧ i = .int .i64 j ∧ q = .int .i64 r ∧ Hid (r = k + sumN (weigh R) j) ∧ Hid (Ext w wr)) (fun _ i _ => R.length - (intOf i).toNat)
  case atStart => exact ⟨0, k, Nat.zero_le _, rfl, rfl, Lib.hid (by rw [sumN_zero]; simp), Lib.hid (Ext.refl _)⟩
  case round =>
    obtain ⟨j, r, hj, rfl, rfl, hr, hE⟩ := hrel
    by_cases hlt : j < R.length
    · obtain ⟨d, hd⟩ : ∃ d, d = R[j] := ⟨_, rfl⟩
      have hx := (HX.out j hlt).ext hE.out
      rw [← hd, ← hr.out] at hx
      obtain ⟨u, c0, c1, c2, c3, c4, c5, c6, c7, c8, c9, hl⟩ := hx
      have hlen : d.l.length ≤ 1099511627776 := by rw [hd]; have := bulkR_row hlt; have := H1.out; omega
      have hr0 : 0 ≤ r := by have := hr.out; omega
      have hr1 : r ≤ 21990232555520 := by
        have h := hr.out
        have h2 := sumN_mono (g := weigh R) (k := j) (by rw [weigh_len]; omega)
        have := HWS.out; have := H1.out; omega
      have hs := sumN_succ (g := weigh R) (k := j) (by rw [weigh_len]; exact hlt)
      rw [weigh_get hlt, ← hd] at hs
      have HS := Lib.hid hs
      obtain ⟨au, cu, rfl, _⟩ := id hl
      have HL := Lib.hid hl
      clear hs hd hl
      go_wp2_with fail
      refine (heldIntS_yes _ _ _ _ HL.out (by omega) (by omega)).mono ?_
      rintro e w3 ⟨rfl, x3⟩
      have hE3 := Lib.hid (hE.out.trans x3)
      obtain ⟨q, hq⟩ : ∃ q, q = r + 1 + 1 + 1 + 1 + 1 + 1 + 1 + 1 + 1 + (d.l.length : Int) := ⟨_, rfl⟩
      have hq0 : 0 ≤ q := by omega
      rw [← hq]
      have HQ := Lib.hid hq
      clear hq x3 c0 c1 c2 c3 c4 c5 c6 c7 c8 c9
      go_wp2
      go_roundw
      case rel => exact ⟨j + 1, q, by omega, by go_num, rfl, Lib.hid (by have h1 := hr.out; have h2 := HS.out; have h3 := HQ.out; omega), hE3⟩
      case measure => simp [intOf]; omega
    · obtain rfl : j = R.length := by omega
      go_wp2
      go_ret
      refine ⟨?_, hE.out⟩
      have h := hr.out
      have h2 := sumN_all (weigh R)
      rw [weigh_len] at h2
      rw [h2] at h
      rw [h]; rfl
end Go.Proofs.Ytbffkidkfannhaa

namespace Go.Proofs.Ytbffkidkfannhaa
open Go.RowKit
set_option linter.unusedVariables false

def weighs (T : List (List RowD)) : List Nat := T.map fun R => (weigh R).sum
theorem weighs_len (T : List (List RowD)) : (weighs T).length = T.length := by simp [weighs]
theorem weighs_get {T : List (List RowD)} {k : Nat} (h : k < T.length) : (weighs T)[k]'(by rw [weighs_len]; exact h) = (weigh T[k]).sum := by simp [weighs]
theorem weighs_sum (T : List (List RowD)) : (weighs T).sum ≤ 10 * bulkT T := by
  unfold weighs bulkT
  induction T with
  | nil => simp
  | cons R T ih =>
    have := weigh_sum R
    simp at ih ⊢; omega

/-- So many marks were laid, and nothing else has turned. -/
def Marked (lo hi : Nat) (k : Int) (n : Nat) (w : World) (e : Ending) (w' : World) : Prop := e = .returned (.int .i64 (k + n)) ∧ Ins lo hi w w'

set_option maxHeartbeats 4000000 in
set_option maxRecDepth 100000 in
theorem markRowSS_any (lo hi : Nat) (v : Value) (T : List (List RowD)) (k : Int) (w : World) (hv : FreshT lo hi w v T) (h0 : 0 ≤ k) (hk : k ≤ 1073741824) (h1 : bulkT T ≤ 10995116277) :
    Calls Try.prog 54 #[v, .int .i64 k] w (Marked lo hi k (weighs T).sum w) := by
  obtain ⟨vs, cut, ho, hU, hcut, hc0, hcn, hF⟩ := hv
  have hvl : vs.length = T.length := by have := ho.1; omega
  have hws := weighs_sum T
  rcases ho.2 with ⟨rfl, hn⟩ | ⟨g, cap, cur, rfl, hb, hg, hnc, hcm, hcs, htake⟩
  · obtain rfl : T = [] := List.eq_nil_of_length_eq_zero hn
    clear h1 hws
    go_enter Try.func54, Try.ntmps54
    go_wp2
    refine wp_loop_rounds 1 ?_; rw [rounds_succ]
    go_wp2
    go_ret
    exact ⟨by simp [weighs], Ins.refl _ _ _⟩
  · have hgc : g < cut 0 := hU g rfl
    have hm := cut_mono hcut
    have hfr : Hid (∀ i (h : i < T.length) (h' : i < vs.length), 0 ≤ i → FreshI (cut i) (cut (i + 1)) w vs[i] T[i]) := Lib.hid fun i h h' _ => hF i h h'
    have HM := Lib.hid hm
    have HGC := Lib.hid hgc
    have HC0 := Lib.hid hc0
    have HCN := Lib.hid hcn
    have HVL := Lib.hid hvl
    have HWS := Lib.hid hws
    have H1 := Lib.hid h1
    have hLen : T.length ≤ 1099511627776 := by unfold bulkT at h1; omega
    clear hg hnc hcm hcs htake cur hb hU hcut hF hm hgc hc0 hcn hvl hws h1
    go_enter Try.func54, Try.ntmps54
    go_wp2
    go_loopw [1, 5] (fun m i wr => ∃ (j : Nat) (r : Int), j ≤ T.length ∧ i = .int .i64 j ∧ m = .int .i64 r ∧ Hid (r = k + sumN (weighs T) j) ∧ wr.ownsRow lo 67 1 (.slice (some ⟨g, 0, none⟩) T.length cap) T.length vs ∧ Hid (∀ i (h : i < T.length) (h' : i < vs.length), j ≤ i → FreshI (cut i) (cut (i + 1)) wr vs[i] T[i]) ∧ Ins lo hi w wr) (fun _ i _ => T.length - (intOf i).toNat)
    case atStart => exact ⟨0, k, Nat.zero_le _, rfl, rfl, Lib.hid (by rw [sumN_zero]; simp), ho, hfr, Ins.refl _ _ _⟩
    case round =>
      clear ho hfr
      obtain ⟨j, r, hj, rfl, rfl, hr, ho, hF, hI⟩ := hrel
      by_cases hlt : j < T.length
      · have hjv : j < vs.length := by rw [HVL.out]; exact hlt
        obtain ⟨d, hd⟩ : ∃ d, d = T[j] := ⟨_, rfl⟩
        obtain ⟨u, hu⟩ : ∃ u, u = vs[j] := ⟨_, rfl⟩
        have hf := hF.out j hlt hjv (Nat.le_refl _)
        rw [← hd, ← hu] at hf
        have hlen : bulkR d ≤ 1099511627776 := by rw [hd]; have := bulkT_row hlt; have := H1.out; omega
        have hr0 : 0 ≤ r := by have := hr.out; omega
        have hr1 : r ≤ 1099511627776 := by
          have h := hr.out
          have h2 := sumN_mono (g := weighs T) (k := j) (by rw [weighs_len]; omega)
          have := HWS.out; have := H1.out; omega
        have hwd := weigh_sum d
        have hc := (ho.cellAt j (by omega)).trans (List.getElem?_eq_getElem hjv)
        rw [← hu] at hc
        have HO := Lib.hid ho
        have HFF := Lib.hid hf
        have HD := Lib.hid hd
        have HU := Lib.hid hu
        clear ho hf hd hu
        go_wp2_with fail
        refine (markRowS_any (cut j) (cut (j + 1)) _ d _ _ HFF.out hr0 hr1 hlen).mono ?_
        rintro e w3 ⟨rfl, t3⟩
        have T3 := Lib.hid t3
        have hs := sumN_succ (g := weighs T) (k := j) (by rw [weighs_len]; exact hlt)
        rw [weighs_get hlt, ← HD.out] at hs
        have HS := Lib.hid hs
        clear t3 hs hc
        obtain ⟨q, hq⟩ : ∃ q, q = r + ((weigh d).sum : Int) := ⟨_, rfl⟩
        have hq0 : 0 ≤ q := by omega
        rw [← hq]
        have HQ := Lib.hid hq
        clear hq
        go_wp2
        go_roundw
        case rel =>
          have m1 := HM.out 0 j (by omega) (by omega)
          have m2 := HM.out (j + 1) T.length (by omega) (Nat.le_refl _)
          have m3 := HGC.out
          have m4 := HC0.out
          have m5 := HCN.out
          refine ⟨j + 1, q, by omega, by go_num, rfl, Lib.hid (by have h1 := hr.out; have h2 := HS.out; have h3 := HQ.out; omega), T3.out.row HO.out (fun b e => .inl (by have := Option.some.inj e; simp at this; omega)), Lib.hid fun i h h' hij => ?_, hI.trans (T3.out.more (by omega) (by omega))⟩
          obtain ⟨zs, us, q1, q2, q3, q4, q5, q6⟩ := hF.out i h h' (by omega)
          have m6 := HM.out (j + 1) i (by omega) (by omega)
          refine ⟨zs, us, T3.out.row q1 (fun b e => .inr (by have := (World.ownsRow.lt q1 b e).1; omega)), q2, ⟨q3.len, fun a z l hz hl => T3.out.row (q3.row a z l hz hl) (fun b e => .inr (by have := (World.ownsRow.lt (q3.row a z l hz hl) b e).1; omega)), q3.apart⟩, q4, q5, q6⟩
        case measure => simp [intOf]; omega
      · obtain rfl : j = T.length := by omega
        go_wp2
        go_ret
        refine ⟨?_, hI⟩
        have h := hr.out
        have h2 := sumN_all (weighs T)
        rw [weighs_len] at h2
        rw [h2] at h
        rw [h]; rfl

set_option maxHeartbeats 1000000 in
theorem markTable_any (lo hi : Nat) (n : Int) (v : Value) (T : List (List RowD)) (k : Int) (w : World) (hv : FreshT lo hi w v T) (hhi : hi ≤ w.heap.size) (h0 : 0 ≤ k) (hk : k ≤ 1073741824) (h1 : bulkT T ≤ 10995116277) :
    Calls Try.prog 23 #[.agg #[.int .i64 n, v], .int .i64 k] w (Marked lo hi k (weighs T).sum w) := by
  have hws := weighs_sum T
  have hq0 : 0 ≤ k + ((weighs T).sum : Int) := by omega
  have HX : Hid (Ins lo hi w (w.alloc (.cells #[.int .i64 n, v] 32))) := Lib.hid (Ins.of_ext (Ext.alloc (Ext.refl _) _))
  have HV := Lib.hid (hv.kept (Stood.of_ext (Ext.alloc (Ext.refl _) (.cells #[.int .i64 n, v] 32)) hhi))
  have H1 := Lib.hid h1
  clear hws hv h1
  go_enter Try.func23, Try.ntmps23
  go_wp2_with fail
  refine (markRowSS_any lo hi _ T _ _ HV.out h0 hk H1.out).mono ?_
  rintro e w1 ⟨rfl, t1⟩
  have T1 := Lib.hid t1
  clear t1
  go_wp2
  go_ret
  exact ⟨rfl, HX.out.trans T1.out⟩

end Go.Proofs.Ytbffkidkfannhaa

namespace Go.Proofs.Ytbffkidkfannhaa
open Go.RowKit
set_option linter.unusedVariables false

theorem sumN_le {g : List Nat} {i j : Nat} (h : i ≤ j) : sumN g i ≤ sumN g j := by
  unfold sumN
  obtain ⟨d, rfl⟩ := Nat.le.dest h
  rw [List.take_add, List.sum_append]
  exact Nat.le_add_right _ _
def lensT (T : List (List RowD)) : List Nat := T.map List.length
theorem lensT_len (T : List (List RowD)) : (lensT T).length = T.length := by simp [lensT]
def mAt (T : List (List RowD)) (i : Nat) : Nat := sumN (lensT T) i
theorem mAt_lt {T : List (List RowD)} {i j : Nat} (hi : i < T.length) (h : i < j) : mAt T i + T[i].length ≤ mAt T j := by
  have h1 := sumN_succ (g := lensT T) (k := i) (by rw [lensT_len]; exact hi)
  have h2 : (lensT T)[i]'(by rw [lensT_len]; exact hi) = T[i].length := by simp [lensT]
  have h3 := sumN_le (g := lensT T) (i := i + 1) (j := j) (by omega)
  unfold mAt
  omega
theorem BoxV.same {w w' : World} {b : Nat} {vs : List Value} (h : BoxV w b vs) (hb : w'.heap[b]? = w.heap[b]?) (hs : w.heap.size ≤ w'.heap.size) : BoxV w' b vs :=
  ⟨fun j v hj => (World.cell?_of_block (a := ⟨b, j, none⟩) hb).trans (h.cell j v hj), fun j hj => by
    have := h.free j hj
    unfold World.frozen? at this ⊢
    rw [hb]
    exact this, Nat.lt_of_lt_of_le h.lt hs⟩
/-- Where the lists lie: block, place, room. -/
structure WinT where
  b : Nat → Nat
  o : Nat → Nat
  c : Nat → Nat
/-- The marks of one list of rows stand in its window. -/
def WinM (ys US : List Value) (LS : List (List Int)) (o m : Nat) (k : Int) (R : List RowD) : Prop := ∀ j (h : j < R.length), ∃ u, US[m + j]? = some u ∧ LS[m + j]? = some (markRowD (k + sumN (weigh R) j) R[j]).l ∧ XRow ys (o + j * 10) (markRowD (k + sumN (weigh R) j) R[j]) u
theorem WinM.kept {xs zs US : List Value} {LS : List (List Int)} {a b o m : Nat} {k : Int} {R : List RowD} (h : WinM xs US LS o m k R) (kx : KeptX xs zs a b) (hap : o + R.length * 10 ≤ a ∨ b ≤ o) : WinM zs US LS o m k R := fun j hj => by
  obtain ⟨u, h1, h2, h3⟩ := h j hj
  exact ⟨u, h1, h2, h3.kept kx (by omega)⟩
theorem WinM.lists {xs US : List Value} {LS LT : List (List Int)} {o m : Nat} {k : Int} {R : List RowD} (h : WinM xs US LS o m k R) (hl : ∀ i, m ≤ i → i < m + R.length → LT[i]? = LS[i]?) : WinM xs US LT o m k R := fun j hj => by
  obtain ⟨u, h1, h2, h3⟩ := h j hj
  exact ⟨u, h1, (hl _ (by omega) (by omega)).trans h2, h3⟩
theorem WinX.lists {xs US : List Value} {LS LT : List (List Int)} {o m : Nat} {R : List RowD} (h : WinX xs US LS o m R) (hl : ∀ i, m ≤ i → i < m + R.length → LT[i]? = LS[i]?) : WinX xs US LT o m R := fun j hj => by
  obtain ⟨u, h1, h2, h3⟩ := h j hj
  exact ⟨u, h1, (hl _ (by omega) (by omega)).trans h2, h3⟩
/-- What does not turn: the outer block, where the lists lie, that no two meet, and that all is in P. -/
structure TabF (P : Nat → Prop) (g0 : Nat) (vs US : List Value) (q : WinT) (T : List (List RowD)) : Prop where
  val : ∀ i (h : i < T.length), (T[i] = [] ∧ ∃ a c, vs[i]? = some (.slice a 0 c) ∧ c ≤ maxLen ∧ (a = none → c = 0)) ∨ (T[i] ≠ [] ∧ vs[i]? = some (.slice (some ⟨q.b i, q.o i, none⟩) T[i].length (q.c i)) ∧ T[i].length ≤ q.c i ∧ q.c i ≤ maxLen)
  apart : ∀ i j (h : i < T.length) (h' : j < T.length), T[i] ≠ [] → T[j] ≠ [] → i ≠ j → q.b i ≠ q.b j ∨ q.o i + T[i].length * 10 ≤ q.o j ∨ q.o j + T[j].length * 10 ≤ q.o i
  lists : ∀ (i : Nat) (u : Value), US[i]? = some u → (∀ j (h : j < T.length), T[j] ≠ [] → u.ownBlock = none ∨ u.ownBlock ≠ some (q.b j)) ∧ (u.ownBlock = none ∨ u.ownBlock ≠ some g0)
  outer : ∀ i (h : i < T.length), T[i] ≠ [] → q.b i ≠ g0
  foot : P g0 ∧ (∀ i (h : i < T.length), T[i] ≠ [] → P (q.b i)) ∧ ∀ (i : Nat) (u : Value) (b : Nat), US[i]? = some u → u.ownBlock = some b → P b
/-- What turns: up to i the marks stand, from i on the table's rows. -/
structure TabS (w : World) (g0 : Nat) (vs US : List Value) (LS : List (List Int)) (q : WinT) (XS : Nat → List Value) (k : Int) (i : Nat) (T : List (List RowD)) : Prop where
  out : BoxV w g0 vs
  row : Rows_ 0 w US LS
  box : ∀ j (h : j < T.length), T[j] ≠ [] → BoxV w (q.b j) (XS (q.b j)) ∧ q.o j + T[j].length * 10 ≤ (XS (q.b j)).length
  new : ∀ j (h : j < T.length), j < i → WinM (XS (q.b j)) US LS (q.o j) (mAt T j) (k + sumN (weighs T) j) T[j]
  old : ∀ j (h : j < T.length), i ≤ j → WinX (XS (q.b j)) US LS (q.o j) (mAt T j) T[j]
theorem WinX.nil (ys US : List Value) (LS : List (List Int)) (o m : Nat) : WinX ys US LS o m [] := fun j h => by simp at h
theorem WinM.nil (ys US : List Value) (LS : List (List Int)) (o m : Nat) (k : Int) : WinM ys US LS o m k [] := fun j h => by simp at h
theorem TabS.skip {w : World} {g0 i : Nat} {vs US : List Value} {LS : List (List Int)} {q : WinT} {XS : Nat → List Value} {k : Int} {T : List (List RowD)} (h : TabS w g0 vs US LS q XS k i T) (hi : i < T.length) (he : T[i] = []) : TabS w g0 vs US LS q XS k (i + 1) T := by
  refine ⟨h.out, h.row, h.box, fun j hj hji => ?_, fun j hj hji => h.old j hj (by omega)⟩
  by_cases e : j = i
  · subst e
    rw [he]
    exact WinM.nil _ _ _ _ _ _
  · exact h.new j hj (by omega)
theorem TabS.step {P : Nat → Prop} {w w' : World} {g0 i : Nat} {vs US zs : List Value} {LS LT : List (List Int)} {q : WinT} {XS : Nat → List Value} {k : Int} {T : List (List RowD)} (f : TabF P g0 vs US q T) (h : TabS w g0 vs US LS q XS k i T) (hi : i < T.length) (hne : T[i] ≠ [])
    (hb : BoxV w' (q.b i) zs) (hk : KeptX (XS (q.b i)) zs (q.o i) (q.o i + T[i].length * 10)) (hr : Rows_ 0 w' US LT) (hl : ∀ n, (n < mAt T i ∨ mAt T i + T[i].length ≤ n) → LT[n]? = LS[n]?) (hm : WinM zs US LT (q.o i) (mAt T i) (k + sumN (weighs T) i) T[i])
    (hc : ChgB (fun b => b = q.b i ∨ ∃ (n : Nat) (u : Value), US[n]? = some u ∧ u.ownBlock = some b) w w') :
    TabS w' g0 vs US LT q (fun b => if b = q.b i then zs else XS b) k (i + 1) T := by
  have hcell : ∀ b, b ≠ q.b i → (∀ (n : Nat) (u : Value), US[n]? = some u → u.ownBlock = none ∨ u.ownBlock ≠ some b) → b < w.heap.size → w'.heap[b]? = w.heap[b]? := fun b h1 h2 h3 => hc.block b h3 (by
    rintro (e | ⟨n, u, hu, hub⟩)
    · exact h1 e
    · rcases h2 n u hu with e | e
      · rw [e] at hub; cases hub
      · exact e hub)
  have hout : BoxV w' g0 vs := h.out.same (hcell g0 (fun e => f.outer i hi hne e.symm) (fun n u hu => (f.lists n u hu).2) h.out.lt) hc.size
  have hmm : ∀ j (hj : j < T.length), j ≠ i → ∀ n, mAt T j ≤ n → n < mAt T j + T[j].length → LT[n]? = LS[n]? := fun j hj hji n h1 h2 => hl n (by
    rcases Nat.lt_or_gt_of_ne hji with e | e
    · have := mAt_lt (T := T) (j := i) hj e; omega
    · have := mAt_lt (T := T) (j := j) hi e; omega)
  refine ⟨hout, hr, fun j hj hjn => ?_, fun j hj hji => ?_, fun j hj hji => ?_⟩
  · by_cases e : q.b j = q.b i
    · rw [if_pos e, e]
      refine ⟨hb, ?_⟩
      have := (h.box j hj hjn).2
      rw [e] at this
      rw [hk.1]; exact this
    · rw [if_neg e]
      have hbj := h.box j hj hjn
      exact ⟨hbj.1.same (hcell _ e (fun n u hu => (f.lists n u hu).1 j hj hjn) hbj.1.lt) hc.size, hbj.2⟩
  · by_cases ej : j = i
    · subst ej
      rw [if_pos rfl]
      exact hm
    · by_cases hjn : T[j] = []
      · rw [hjn]; exact WinM.nil _ _ _ _ _ _
      · have hn := (h.new j hj (by omega)).lists (hmm j hj ej)
        by_cases e : q.b j = q.b i
        · rw [if_pos e]
          rw [e] at hn
          refine hn.kept hk ?_
          rcases f.apart j i hj hi hjn hne ej with a | a | a
          · exact absurd e a
          · exact .inl a
          · exact .inr a
        · rw [if_neg e]; exact hn
  · have ej : j ≠ i := by omega
    by_cases hjn : T[j] = []
    · rw [hjn]; exact WinX.nil _ _ _ _ _
    · have hn := (h.old j hj (by omega)).lists (hmm j hj ej)
      by_cases e : q.b j = q.b i
      · rw [if_pos e]
        rw [e] at hn
        refine hn.kept hk ?_
        rcases f.apart j i hj hi hjn hne ej with a | a | a
        · exact absurd e a
        · exact .inl a
        · exact .inr a
      · rw [if_neg e]; exact hn
end Go.Proofs.Ytbffkidkfannhaa

namespace Go.Proofs.Ytbffkidkfannhaa
open Go.RowKit
set_option linter.unusedVariables false

/-- The cells of a list of structs. -/
def flatC {α : Type} (cells : α → List Value) (L : List α) : List Value := L.flatMap cells
theorem flatC_len {α : Type} {cells : α → List Value} {n : Nat} (h : ∀ x, (cells x).length = n) (L : List α) : (flatC cells L).length = L.length * n := by
  unfold flatC
  induction L with
  | nil => simp
  | cons x t ih => rw [List.flatMap_cons, List.length_append, ih, h, List.length_cons, Nat.add_mul]; omega
theorem flatC_at {α : Type} {cells : α → List Value} {n : Nat} (h : ∀ x, (cells x).length = n) {L : List α} {j i : Nat} (hj : j < L.length) (hi : i < n) : (flatC cells L)[j * n + i]? = (cells L[j])[i]? := by
  induction L generalizing j with
  | nil => simp at hj
  | cons x t ih =>
    unfold flatC
    rw [List.flatMap_cons]
    cases j with
    | zero =>
      rw [List.getElem?_append_left (by rw [h]; omega)]
      simp
    | succ j =>
      have h' : j < t.length := by simpa using hj
      have e1 : (j + 1) * n + i = (cells x).length + (j * n + i) := by rw [h, Nat.add_mul]; omega
      rw [e1, List.getElem?_append_right (by omega), Nat.add_sub_cancel_left]
      have := ih h'
      unfold flatC at this
      rw [this]
      simp

/-! ### Rows -/
def cellsR (x : RowD × Value) : List Value := [.int .i64 x.1.b, .int .i64 x.1.v, .int .i64 x.1.st, .int .i64 x.1.k, .int .i64 x.1.i, .int .i64 x.1.f, .int .i64 x.1.t, .int .i64 x.1.a, .int .i64 x.1.s, x.2]
theorem cellsR_len (x : RowD × Value) : (cellsR x).length = 10 := rfl
/-- v is a slice of rows of a block that was made from block number B on. -/
def FreshZ (B : Nat) (w : World) (v : Value) (P : List (RowD × Value)) : Prop := w.ownsRow B 57 10 v P.length (flatC cellsR P)
theorem FreshZ.nil (B : Nat) (w : World) : FreshZ B w (.slice none 0 0) [] := ⟨rfl, .inl ⟨rfl, rfl⟩⟩
theorem FreshZ.ext {B : Nat} {w w' : World} {v : Value} {P : List (RowD × Value)} (h : FreshZ B w v P) (e : Ext w w') : FreshZ B w' v P := e.ownsRow h
theorem FreshZ.rowz {B : Nat} {w : World} {v : Value} {P : List (RowD × Value)} (h : FreshZ B w v P) (hi : ∀ x ∈ P, Ints w x.2 x.1.l) : Rowz w v (P.map Prod.fst) := by
  rcases h.2 with ⟨rfl, hn⟩ | ⟨g, cap, cur, rfl, hb, hg, hnc, hcm, hcs, htake⟩
  · obtain rfl : P = [] := List.eq_nil_of_length_eq_zero hn
    exact Rowz.nil w
  · refine ⟨some ⟨g, 0, none⟩, cap, by simp, by simp; omega, ⟨by simp; omega, by omega, fun h => by cases h⟩, fun _ => ⟨g, 0, rfl, fun j hj => ?_⟩⟩
    have hj' : j < P.length := by simpa using hj
    have e : (P.map Prod.fst)[j] = P[j].1 := by simp
    rw [e]
    have hc : ∀ i, i < 10 → w.cell? ⟨g, j * 10 + i, none⟩ = (cellsR P[j])[i]? := fun i hi' => by
      rw [World.ownsRow.cellAt h (j * 10 + i) (by omega), flatC_at cellsR_len hj' hi']
    refine ⟨P[j].2, ?_, hi _ (List.getElem_mem hj')⟩
    rw [Nat.zero_add]
    exact ⟨hc 0 (by omega), hc 1 (by omega), hc 2 (by omega), hc 3 (by omega), hc 4 (by omega), hc 5 (by omega), hc 6 (by omega), hc 7 (by omega), hc 8 (by omega), hc 9 (by omega)⟩
theorem Try.infoRowP : (Try.prog.info? 57).map (fun i => (i.zero, i.size, i.bytes)) = some (some (.agg #[.int .i64 0, .int .i64 0, .int .i64 0, .int .i64 0, .int .i64 0, .int .i64 0, .int .i64 0, .int .i64 0, .int .i64 0, .slice none 0 0]), 10, 96) := by kernel_rfl
/-- append(s, r), s of the call's own. -/
theorem wpList_pushR {ops : Array Oper} {rest : List Oper} {o : Oper} {a : Act} {Q : Exit → Act → World → Prop} {w : World} (hgd : o.guard = none) (s x : Operand)
    (ho : o.op = .call { callee := .builtin .append, args := #[s, x], argTypes := #[67, 67] })
    (B : Nat) (v : Value) (P : List (RowD × Value)) (r : RowD) (ya : Option Addr) (yn yc : Nat) (hs : a.eval s = v) (hf : FreshZ B w v P) (g : Nat) (c : Nat) (hx : a.eval x = .slice (some ⟨g, 0, none⟩) 1 c)
    (hr : RowIn w g 0 r (.slice ya yn yc)) (hl : P.length ≤ 1048576) (hB : B ≤ w.heap.size)
    (h : ∀ v' w', FreshZ B w' v' (P ++ [(r, .slice ya yn yc)]) → w.grownBy w' v.ownBlock → Kept B w w' → wpList Try.prog ops Q rest (a.put o.dst v') w') : wpList Try.prog ops Q (o :: rest) a w := by
  obtain ⟨i0, hi, hz0, hz1, hz2⟩ := info_parts Try.infoRowP
  obtain ⟨h0, h1, h2, h3, h4, h5, h6, h7, h8, h9⟩ := hr
  refine wpList_append_own _ hgd s x 67 ho B 57 i0 (.agg #[.int .i64 0, .int .i64 0, .int .i64 0, .int .i64 0, .int .i64 0, .int .i64 0, .int .i64 0, .int .i64 0, .int .i64 0, .slice none 0 0]) 10 96 Try.underlying67 hi hz0 hz1 hz2 rfl (by decide) v P.length _ hs hf ⟨g, 0, none⟩ 1 c (cellsR (r, .slice ya yn yc)) hx rfl ?_ ?_ ?_ ?_ hB ?_
  · intro j u hj
    match j, hj with
    | 0, hj => simp [cellsR] at hj; subst hj; simpa [Addr.add] using h0
    | 1, hj => simp [cellsR] at hj; subst hj; simpa [Addr.add] using h1
    | 2, hj => simp [cellsR] at hj; subst hj; simpa [Addr.add] using h2
    | 3, hj => simp [cellsR] at hj; subst hj; simpa [Addr.add] using h3
    | 4, hj => simp [cellsR] at hj; subst hj; simpa [Addr.add] using h4
    | 5, hj => simp [cellsR] at hj; subst hj; simpa [Addr.add] using h5
    | 6, hj => simp [cellsR] at hj; subst hj; simpa [Addr.add] using h6
    | 7, hj => simp [cellsR] at hj; subst hj; simpa [Addr.add] using h7
    | 8, hj => simp [cellsR] at hj; subst hj; simpa [Addr.add] using h8
    | 9, hj => simp [cellsR] at hj; subst hj; simpa [Addr.add] using h9
  · intro u hu
    simp [cellsR] at hu
    rcases hu with rfl | rfl | rfl | rfl | rfl | rfl | rfl | rfl | rfl | rfl <;> rfl
  · unfold maxLen; omega
  · omega
  · intro v' w' ho' hg _
    refine h v' w' ?_ hg (fun w0 hx0 hB0 => Below.grown hx0 hg hx0.size (fun q hq => Nat.le_trans hB0 (World.ownsRow.lt hf q hq).1))
    unfold FreshZ
    have e : flatC cellsR (P ++ [(r, .slice ya yn yc)]) = flatC cellsR P ++ cellsR (r, .slice ya yn yc) := by simp [flatC]
    rw [e, List.length_append]
    exact ho'

/-! ### Attributes -/
def cellsA (x : (Int × List Int) × Value) : List Value := [.int .i64 x.1.1, x.2]
theorem cellsA_len (x : (Int × List Int) × Value) : (cellsA x).length = 2 := rfl
def FreshA (B : Nat) (w : World) (v : Value) (P : List ((Int × List Int) × Value)) : Prop := w.ownsRow B 55 2 v P.length (flatC cellsA P)
theorem FreshA.nil (B : Nat) (w : World) : FreshA B w (.slice none 0 0) [] := ⟨rfl, .inl ⟨rfl, rfl⟩⟩
theorem FreshA.ext {B : Nat} {w w' : World} {v : Value} {P : List ((Int × List Int) × Value)} (h : FreshA B w v P) (e : Ext w w') : FreshA B w' v P := e.ownsRow h
theorem FreshA.attrs {B : Nat} {w : World} {v : Value} {P : List ((Int × List Int) × Value)} (h : FreshA B w v P) (hi : ∀ x ∈ P, Ints w x.2 x.1.2) : Attrs w v (P.map Prod.fst) := by
  rcases h.2 with ⟨rfl, hn⟩ | ⟨g, cap, cur, rfl, hb, hg, hnc, hcm, hcs, htake⟩
  · obtain rfl : P = [] := List.eq_nil_of_length_eq_zero hn
    exact ⟨none, 0, rfl, by simp, ⟨by simp, by simp, fun _ => rfl⟩, fun h => by simp at h⟩
  · refine ⟨some ⟨g, 0, none⟩, cap, by simp, by simp; omega, ⟨by simp; omega, by omega, fun h => by cases h⟩, fun _ => ⟨g, 0, rfl, fun j hj => ?_⟩⟩
    have hj' : j < P.length := by simpa using hj
    have e : (P.map Prod.fst)[j] = P[j].1 := by simp
    rw [e]
    have hc : ∀ i, i < 2 → w.cell? ⟨g, j * 2 + i, none⟩ = (cellsA P[j])[i]? := fun i hi' => by
      rw [World.ownsRow.cellAt h (j * 2 + i) (by omega), flatC_at cellsA_len hj' hi']
    refine ⟨P[j].2, ?_, ?_, hi _ (List.getElem_mem hj')⟩
    · rw [Nat.zero_add]; exact hc 0 (by omega)
    · rw [Nat.zero_add]; exact hc 1 (by omega)
theorem Try.infoAttrP : (Try.prog.info? 55).map (fun i => (i.zero, i.size, i.bytes)) = some (some (.agg #[.int .i64 0, .slice none 0 0]), 2, 32) := by kernel_rfl
theorem wpList_pushA {ops : Array Oper} {rest : List Oper} {o : Oper} {a : Act} {Q : Exit → Act → World → Prop} {w : World} (hgd : o.guard = none) (s x : Operand)
    (ho : o.op = .call { callee := .builtin .append, args := #[s, x], argTypes := #[127, 127] })
    (B : Nat) (v : Value) (P : List ((Int × List Int) × Value)) (r : Int × List Int) (ya : Option Addr) (yn yc : Nat) (hs : a.eval s = v) (hf : FreshA B w v P) (g : Nat) (c : Nat) (hx : a.eval x = .slice (some ⟨g, 0, none⟩) 1 c)
    (hr0 : w.cell? ⟨g, 0, none⟩ = some (.int .i64 r.1)) (hr1 : w.cell? ⟨g, 1, none⟩ = some (.slice ya yn yc)) (hl : P.length ≤ 1048576) (hB : B ≤ w.heap.size)
    (h : ∀ v' w', FreshA B w' v' (P ++ [(r, .slice ya yn yc)]) → w.grownBy w' v.ownBlock → Kept B w w' → wpList Try.prog ops Q rest (a.put o.dst v') w') : wpList Try.prog ops Q (o :: rest) a w := by
  obtain ⟨i0, hi, hz0, hz1, hz2⟩ := info_parts Try.infoAttrP
  refine wpList_append_own _ hgd s x 127 ho B 55 i0 (.agg #[.int .i64 0, .slice none 0 0]) 2 32 Try.underlying127 hi hz0 hz1 hz2 rfl (by decide) v P.length _ hs hf ⟨g, 0, none⟩ 1 c (cellsA (r, .slice ya yn yc)) hx rfl ?_ ?_ ?_ ?_ hB ?_
  · intro j u hj
    match j, hj with
    | 0, hj => simp [cellsA] at hj; subst hj; simpa [Addr.add] using hr0
    | 1, hj => simp [cellsA] at hj; subst hj; simpa [Addr.add] using hr1
  · intro u hu
    simp [cellsA] at hu
    rcases hu with rfl | rfl <;> rfl
  · unfold maxLen; omega
  · omega
  · intro v' w' ho' hg _
    refine h v' w' ?_ hg (fun w0 hx0 hB0 => Below.grown hx0 hg hx0.size (fun q hq => Nat.le_trans hB0 (World.ownsRow.lt hf q hq).1))
    unfold FreshA
    have e : flatC cellsA (P ++ [(r, .slice ya yn yc)]) = flatC cellsA P ++ cellsA (r, .slice ya yn yc) := by simp [flatC]
    rw [e, List.length_append]
    exact ho'
end Go.Proofs.Ytbffkidkfannhaa

namespace Go.Proofs.Ytbffkidkfannhaa
open Go.RowKit Go.Shelf
set_option linter.unusedVariables false

/-- A slice of n rows in a block that was made from block number B on. -/
def OwnR (B : Nat) (w : World) (v : Value) (n : Nat) : Prop := ∃ xs, w.ownsRow B 57 10 v n xs
theorem OwnR.ext {B n : Nat} {w w' : World} {v : Value} (h : OwnR B w v n) (e : Ext w w') : OwnR B w' v n := by
  obtain ⟨xs, h⟩ := h
  exact ⟨xs, e.ownsRow h⟩
theorem OwnR.more {B B' n : Nat} {w : World} {v : Value} (h : OwnR B w v n) (hb : B' ≤ B) : OwnR B' w v n := by
  obtain ⟨xs, h⟩ := h
  exact ⟨xs, ownsRow_more h hb⟩
theorem OwnR.nil (B : Nat) (w : World) : OwnR B w (.slice none 0 0) 0 := ⟨[], rfl, .inl ⟨rfl, rfl⟩⟩
def NewOwnR (n : Nat) (w : World) (e : Ending) (w' : World) : Prop := ∃ v, e = .returned v ∧ OwnR w.heap.size w' v n ∧ Ext w w'
def zeroRow : Value := .agg #[.int .i64 0, .int .i64 0, .int .i64 0, .int .i64 0, .int .i64 0, .int .i64 0, .int .i64 0, .int .i64 0, .int .i64 0, .slice none 0 0]
theorem zeroCellsR_size (n : Nat) : (Builtin.zeroCells zeroRow.cells n).size = n * 10 := by
  have h : zeroRow.cells.size = 10 := rfl
  unfold Builtin.zeroCells
  simp [h]
theorem growR_none (n : Nat) (w : World) (hn : n ≤ 1048576) :
    Calls Try.prog 104 #[.slice none 0 0, .int .i64 n] w (NewOwnR 0 w) := by
  by_cases h0 : n = 0
  · subst h0
    refine (Any8.slices_Grow_room Try.growR none 0 0 0 w (by omega) (by omega) (by omega) (by omega)).mono ?_
    rintro e w' ⟨rfl, rfl⟩
    exact ⟨_, rfl, OwnR.nil _ _, Ext.refl _⟩
  · obtain ⟨i0, hi, hz0, hz1, hz2⟩ := info_parts Try.infoRowP
    have h := Any8.slices_Grow_grow Try.growR i0 zeroRow hi hz0 (by omega) none 0 0 n [] w (by omega) (by omega) (by rw [hz2]; omega) (by omega) (by simp) (fun _ => rfl) (fun a ha => by cases ha)
    refine h.mono ?_
    rintro e w' ⟨rfl, rfl⟩
    have hge := grownCap_ge w (0 + n) 0 57
    have hle := grownCap_le_maxLen w (0 + n) 0 57 (by unfold maxLen; omega)
    refine ⟨_, rfl, ⟨[], ?_⟩, (Ext.refl w).drew.alloc _⟩
    refine ⟨by simp, .inr ⟨w.heap.size, grownCap w (0 + n) 0 57, _, rfl, Nat.le_refl _, heap_alloc_new w.drew _, by simp, hle, ?_, by simp⟩⟩
    rw [Array.size_append, Array.size_append, zeroCellsR_size, zeroCellsR_size]
    have : (0 + n) - 0 = n := by omega
    simp
    have h2 := grownCap_ge w n 0 (Try.growR_ren.t 25)
    have h3 : grownCap w n 0 (Try.growR_ren.t 25) = grownCap w n 0 57 := rfl
    omega
theorem rowz_cell {w : World} {b off : Nat} {R : List RowD} (h : ∀ j (h : j < R.length), ∃ u, RowIn w b (off + j * 10) R[j] u ∧ Ints w u R[j].l) (t : Nat) (ht : t < R.length * 10) : ∃ z, w.cell? ⟨b, off + t, none⟩ = some z ∧ z.oneCell' = true := by
  obtain ⟨u, ⟨h0, h1, h2, h3, h4, h5, h6, h7, h8, h9⟩, hi⟩ := h (t / 10) (by omega)
  obtain ⟨au, cu, rfl, _⟩ := hi
  have hm : t % 10 < 10 := Nat.mod_lt _ (by omega)
  have et : t = t / 10 * 10 + t % 10 := by omega
  obtain ⟨m, hmm⟩ : ∃ m, m = t % 10 := ⟨_, rfl⟩
  obtain ⟨d, hd⟩ : ∃ d, d = t / 10 * 10 := ⟨_, rfl⟩
  rw [← hmm] at hm et
  rw [← hd] at et h0 h1 h2 h3 h4 h5 h6 h7 h8 h9
  rw [et, ← Nat.add_assoc]
  match m, hm with
  | 0, _ => exact ⟨_, h0, rfl⟩
  | 1, _ => exact ⟨_, h1, rfl⟩
  | 2, _ => exact ⟨_, h2, rfl⟩
  | 3, _ => exact ⟨_, h3, rfl⟩
  | 4, _ => exact ⟨_, h4, rfl⟩
  | 5, _ => exact ⟨_, h5, rfl⟩
  | 6, _ => exact ⟨_, h6, rfl⟩
  | 7, _ => exact ⟨_, h7, rfl⟩
  | 8, _ => exact ⟨_, h8, rfl⟩
  | 9, _ => exact ⟨_, h9, rfl⟩
theorem wpList_joinR {ops : Array Oper} {rest : List Oper} {o : Oper} {a : Act} {Q : Exit → Act → World → Prop} {w : World} (hgd : o.guard = none) (s x : Operand)
    (ho : o.op = .call { callee := .builtin .append, args := #[s, x], argTypes := #[67, 67] })
    (B : Nat) (v u : Value) (n : Nat) (R : List RowD) (hs : a.eval s = v) (hf : OwnR B w v n) (hx : a.eval x = u) (hu : Rowz w u R) (hl : n + R.length ≤ 1048576) (hB : B ≤ w.heap.size)
    (h : ∀ v' w', OwnR B w' v' (n + R.length) → w.grownBy w' v.ownBlock → Kept B w w' → wpList Try.prog ops Q rest (a.put o.dst v') w') : wpList Try.prog ops Q (o :: rest) a w := by
  obtain ⟨i0, hi, hz0, hz1, hz2⟩ := info_parts Try.infoRowP
  obtain ⟨xs, hf⟩ := hf
  obtain ⟨au, cu, rfl, hlu, hcap, hcu⟩ := hu
  cases au with
  | none =>
    have hr : R.length = 0 := by have := hcap.1; have := hcap.2.2 rfl; omega
    have hc0 : cu = 0 := hcap.2.2 rfl
    subst hc0
    rw [hr] at hx h
    exact wpList_append_own_none hgd s x 67 ho B 57 i0 10 Try.underlying67 hi v n _ hs hf hx (h v w ⟨xs, hf⟩ ⟨rfl, rfl, rfl, Nat.le_refl _, fun _ _ _ => rfl⟩ (fun w0 hx0 _ => hx0))
  | some ad =>
    have hcell : ∀ t, t < R.length * 10 → ∃ z, w.cell? (ad.add t) = some z ∧ z.oneCell' = true := fun t ht => by
      obtain ⟨b, off, e, dv⟩ := hcu (by omega)
      cases e
      have ea : (⟨b, off, none⟩ : Addr).add t = ⟨b, off + t, none⟩ := by by_cases h0 : t = 0 <;> simp [Addr.add, h0]
      rw [ea]
      exact rowz_cell dv t ht
    refine wpList_append_own _ hgd s x 67 ho B 57 i0 zeroRow 10 96 Try.underlying67 hi hz0 hz1 hz2 rfl (by decide) v n _ hs hf ad R.length cu ((List.range (R.length * 10)).map fun t => (w.cell? (ad.add t)).getD (.int .i64 0)) hx (by simp) ?_ ?_ ?_ ?_ hB ?_
    · intro t z hz
      have ht : t < R.length * 10 := by have := (List.getElem?_eq_some_iff.1 hz).1; simpa using this
      obtain ⟨y, hy, _⟩ := hcell t ht
      simp [ht, hy] at hz
      rw [← hz]; exact hy
    · intro z hz
      obtain ⟨t, ht, rfl⟩ := List.mem_map.1 hz
      obtain ⟨y, hy, h1⟩ := hcell t (List.mem_range.1 ht)
      rw [hy]; exact h1
    · unfold maxLen; omega
    · omega
    · intro v' w' ho' hg _
      exact h v' w' ⟨_, ho'⟩ hg (fun w0 hx0 hB0 => Below.grown hx0 hg hx0.size (fun q hq => Nat.le_trans hB0 (World.ownsRow.lt hf q hq).1))
def lensC (T : List (List RowD)) : List Nat := T.map List.length
theorem lensC_len (T : List (List RowD)) : (lensC T).length = T.length := by simp [lensC]
theorem lensC_succ {T : List (List RowD)} {i : Nat} (hi : i < T.length) : sumN (lensC T) (i + 1) = sumN (lensC T) i + T[i].length := by
  have h1 := sumN_succ (g := lensC T) (k := i) (by rw [lensC_len]; exact hi)
  have h2 : (lensC T)[i]'(by rw [lensC_len]; exact hi) = T[i].length := by simp [lensC]
  omega

set_option maxHeartbeats 4000000 in
theorem concatR_any (v : Value) (L : List (List RowD)) (w : World) (hv : Rowzz w v L) (hb : (lensC L).sum ≤ 1048576) :
    Calls Try.prog 79 #[v] w (NewOwnR (lensC L).sum w) := by
  have HV := Lib.hid hv
  obtain ⟨av, cv, rfl, hlv, _, dv⟩ := hv
  unfold maxLen at hlv
  have DV := Lib.hid dv
  have HB := Lib.hid hb
  clear dv hb
  go_enter Try.func79, Try.ntmps79
  go_wp2
  go_loopw [3, 5, 11] (fun s _ i wr => ∃ t : Nat, t ≤ L.length ∧ i = .int .i64 t ∧ s = .int .i64 (sumN (lensC L) t) ∧ Ext w wr) (fun _ _ i _ => L.length - (intOf i).toNat)
  case atStart => exact ⟨0, Nat.zero_le _, rfl, by rw [sumN_zero]; rfl, Ext.refl _⟩
  case round =>
    obtain ⟨t, ht, rfl, rfl, hx⟩ := hrel
    obtain ⟨w1, hw1⟩ : ∃ x : World, x = wr := ⟨_, rfl⟩
    subst hw1
    by_cases hlt : t < L.length
    · obtain ⟨bv, ov, rfl, ev⟩ := DV.out (by omega)
      obtain ⟨z, hz, iz⟩ := ev t hlt
      have z1 := hx.cell hz
      have hss := lensC_succ hlt
      have hm := sumN_mono (g := lensC L) (k := t + 1) (by rw [lensC_len]; omega)
      have hbb := HB.out
      obtain ⟨az, cz, rfl, hlz, _, _⟩ := iz
      unfold maxLen at hlz
      obtain ⟨m, hmm⟩ : ∃ m, m = (L[t]).length := ⟨_, rfl⟩
      rw [← hmm] at z1 hss hlz
      obtain ⟨s, hs⟩ : ∃ s, s = sumN (lensC L) t := ⟨_, rfl⟩
      rw [← hs] at hss ⊢
      have hsm : s + m ≤ 1048576 := by omega
      have HSS := Lib.hid hss
      have j0 : ¬ ((s : Int) + (m : Int) < 0) := by omega
      clear ev hz hss hm hbb hmm hs
      go_wp2
      go_roundw
      case rel => exact ⟨t + 1, by omega, by go_num, by rw [HSS.out]; go_num, hx⟩
      case measure => simp [intOf]; omega
    · obtain rfl : t = L.length := by omega
      have hsn : sumN (lensC L) L.length ≤ 1048576 := by rw [← lensC_len L, sumN_all]; exact HB.out
      obtain ⟨s, hs⟩ : ∃ s, s = sumN (lensC L) L.length := ⟨_, rfl⟩
      rw [← hs] at hsn ⊢
      have HX := Lib.hid hx
      clear hs hx
      go_wp2_with fail
      refine (growR_none s _ hsn).mono ?_
      rintro e w2 ⟨v2, rfl, f2, x2⟩
      have F2 := Lib.hid f2
      have X2 := Lib.hid (HX.out.trans x2)
      have S2 := Lib.hid x2.size
      clear f2 x2
      go_wp2
      go_loopw [6, 8, 27] (fun vo _ i wr => ∃ t : Nat, t ≤ L.length ∧ i = .int .i64 t ∧ OwnR w.heap.size wr vo (sumN (lensC L) t) ∧ Ext w wr) (fun _ _ i _ => L.length - (intOf i).toNat)
      case atStart => exact ⟨0, Nat.zero_le _, rfl, by rw [sumN_zero]; exact F2.out.more HX.out.size, X2.out⟩
      case round =>
        obtain ⟨t, ht, rfl, hf, hx⟩ := hrel
        by_cases hlt2 : t < L.length
        · obtain ⟨bv, ov, rfl, ev⟩ := DV.out (by omega)
          obtain ⟨z, hz, iz⟩ := ev t hlt2
          have z1 := hx.cell hz
          have hst := lensC_succ hlt2
          have hbd : sumN (lensC L) t + (L[t]).length ≤ 1048576 := by
            have h3 := sumN_mono (g := lensC L) (k := t + 1) (by rw [lensC_len]; omega)
            have := HB.out
            omega
          obtain ⟨G, hG⟩ : ∃ G, G = L[t] := ⟨_, rfl⟩
          rw [← hG] at iz hst hbd
          have IZ := Lib.hid (iz.ext hx)
          have HST := Lib.hid hst
          have HBD := Lib.hid hbd
          have HF := Lib.hid hf
          have HXX := Lib.hid hx
          clear ev hz iz hst hbd hG hf hx
          go_wp2_with (at_builtin; refine wpList_joinR rfl _ _ rfl w.heap.size _ _ (sumN (lensC L) t) G rfl HF.out rfl IZ.out HBD.out HXX.out.size ?_)
          intro v4 w4 f4 g4 k4
          have e4 : Ext w w4 := k4 w HXX.out (Nat.le_refl _)
          rw [← HST.out] at f4
          have F4 := Lib.hid f4
          have E4 := Lib.hid e4
          clear f4 g4 k4 e4
          go_wp2
          go_roundw
          case rel => exact ⟨t + 1, by omega, by go_num, F4.out, E4.out⟩
          case measure => simp [intOf]; omega
        · obtain rfl : t = L.length := by omega
          have e0 : sumN (lensC L) L.length = (lensC L).sum := by rw [← lensC_len L, sumN_all]
          rw [e0] at hf
          have HF := Lib.hid hf
          clear hf
          go_wp2
          go_ret
          exact ⟨_, rfl, HF.out, hx⟩

end Go.Proofs.Ytbffkidkfannhaa
