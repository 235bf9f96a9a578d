/- Contract of the search's meet. -/
import Derived.Test.YtnmnbeklofnonaaTsAt
import Derived.StillTailTactics
namespace Go.Proofs.Ytnmnbeklofnonaa
open Go.RowKit
set_option linter.unusedVariables false

def natsI (l : List Nat) : List Int := l.map fun (n : Nat) => (n : Int)

theorem Fresh.setOut {B X : Nat} {w : World} {v : Value} {l : List Int} (h : Fresh B w v l) (hX : X < B) (i : Nat) (u : Value) : Fresh B (w.setCell ⟨X, i, none⟩ u) v l := by
  refine World.ownsRow.kept h (⟨rfl, rfl, rfl, by simp, fun k _ hk => heap_setCell_other _ _ _ _ (by intro e; subst e; exact hk rfl)⟩ : w.grownBy (w.setCell ⟨X, i, none⟩ u) (some X)) ?_
  cases hv : v.ownBlock with
  | none => exact .inl rfl
  | some q =>
    refine .inr fun e => ?_
    have h1 := (World.ownsRow.lt h q hv).1
    have h2 := Option.some.inj e
    omega
theorem But.setX {X : Nat} {v : Value} {w w' : World} (h : But X v w w') (i : Nat) (u : Value) : But X v w (w'.setCell ⟨X, i, none⟩ u) :=
  ⟨h.os, h.tape, h.output, by have := h.size; simpa using this, fun b hb hX hv => (heap_setCell_other _ _ _ _ hX).trans (h.block b hb hX hv)⟩
theorem But.drew {X : Nat} {v : Value} {w w' : World} (h : But X v w w') : But X v w w'.drew := ⟨h.os, h.tape, h.output, h.size, h.block⟩
theorem But.alloc {X : Nat} {v : Value} {w w' : World} (h : But X v w w') (o : Obj) : But X v w (w'.alloc o) :=
  ⟨h.os, h.tape, h.output, by have := h.size; simp; omega, fun b hb hX hv => (heap_alloc_old _ _ (Nat.lt_of_lt_of_le hb h.size)).trans (h.block b hb hX hv)⟩
theorem But.grown {X : Nat} {v : Value} {w w' w2 : World} (h : But X v w w') (g : w'.grownBy w2 v.ownBlock) : But X v w w2 :=
  ⟨g.os.trans h.os, g.tape.trans h.tape, g.output.trans h.output, Nat.le_trans h.size g.size, fun b hb hX hv => (g.block b (Nat.lt_of_lt_of_le hb h.size) (fun e => hv e.symm)).trans (h.block b hb hX hv)⟩

set_option maxHeartbeats 2000000 in
set_option maxRecDepth 100000 in
theorem tsMeet_any (X c B : Nat) (gv grv ov : Value) (S : TS) (w : World) (hT : TsAt w X gv grv ov S) (hO : Fresh B w ov (natsI S.opn)) (hXB : X < B) (hB : B ≤ w.heap.size) (hc : c < 40) (hm : S.met ≤ 40) (hl : S.opn.length ≤ 40) :
    Calls Try.prog 135 #[.pointer (some ⟨X, 0, none⟩), .int .i64 c] w (fun e w' => (∃ r, e = .returned r) ∧ ∃ g cap, TsAt w' X gv grv (.slice (some ⟨g, 0, none⟩) (S.opn.length + 1) cap) (meetS S c) ∧ Fresh B w' (.slice (some ⟨g, 0, none⟩) (S.opn.length + 1) cap) (natsI (S.opn ++ [c])) ∧ But X ov w w' ∧ (ov.ownBlock = some g ∨ w.heap.size ≤ g)) := by
  have c0 := hT.met
  have f0 := hT.free 43
  have T1 := Lib.hid (hT.setMet (S.met + 1))
  have HT := Lib.hid hT
  have HO := Lib.hid hO
  clear hT hO
  go_enter Try.func135, Try.ntmps135
  go_wp2
  obtain ⟨W1, hW1⟩ : ∃ W1, W1 = w.setCell ⟨X, 43, none⟩ (.int .i64 ((S.met : Int) + 1)) := ⟨_, rfl⟩
  rw [← hW1]
  have t1 : TsAt W1 X gv grv ov { S with met := S.met + 1 } := by rw [hW1]; exact T1.out
  have c1 : W1.cell? ⟨X, 43, none⟩ = some (.int .i64 ((S.met : Int) + 1)) := t1.met
  have c2 := t1.metAs hc
  have f1 := t1.free (44 + c)
  have b1 : But X ov w W1 := by rw [hW1]; exact (But.refl X ov w).setX 43 _
  have HB1 := Lib.hid b1
  have HO1 : Hid (Fresh B W1 ov (natsI S.opn)) := Lib.hid (by rw [hW1]; exact HO.out.setOut hXB 43 _)
  have T2 := Lib.hid (TsAt.setAs (w := W1.drew) t1 hc (S.met + 1))
  have HT1 := Lib.hid t1
  clear hW1 t1 T1 c0 f0 b1
  have i1 : (0 : Int) ≤ (c : Int) := by omega
  have i2 : (c : Int) < 40 := by omega
  go_still_tail 9, (by kernel_rfl)
  change wpList _ _ _ _ _ W1.drew
  obtain ⟨W2, hW2⟩ : ∃ W2, W2 = W1.drew := ⟨_, rfl⟩
  rw [← hW2]
  have HW2 := Lib.hid hW2
  have t2 := TsAt.metAs (w := W2) (by rw [hW2]; exact HT1.out) hc
  have f2 := TsAt.free (w := W2) (by rw [hW2]; exact HT1.out) (44 + c)
  clear hW2 c1 c2 f1
  go_wp2
  obtain ⟨W3, hW3⟩ : ∃ W3, W3 = W2.setCell ⟨X, 44 + c, none⟩ (.int .i64 ((S.met : Int) + 1)) := ⟨_, rfl⟩
  rw [← hW3]
  have t3 : TsAt W3 X gv grv ov { S with met := S.met + 1, N := upd S.N c (S.met + 1) } := by rw [hW3, HW2.out]; exact T2.out
  have b3 : But X ov w W3 := by rw [hW3, HW2.out]; exact HB1.out.drew.setX (44 + c) _
  have c1 : W3.cell? ⟨X, 43, none⟩ = some (.int .i64 ((S.met : Int) + 1)) := t3.met
  have HB3 := Lib.hid b3
  have HO3 : Hid (Fresh B W3 ov (natsI S.opn)) := Lib.hid (by rw [hW3, HW2.out]; exact HO1.out.setOut hXB (44 + c) _)
  have HT3 := Lib.hid t3
  clear hW3 t2 f2 T2 HT1 HB1 t3 b3 HW2
  go_still_tail 9, (by kernel_rfl)
  change wpList _ _ _ _ _ W3.drew
  obtain ⟨W4, hW4⟩ : ∃ W4, W4 = W3.drew := ⟨_, rfl⟩
  rw [← hW4]
  have t4 : TsAt W4 X gv grv ov { S with met := S.met + 1, N := upd S.N c (S.met + 1) } := by rw [hW4]; exact HT3.out
  have b4 : But X ov w W4 := by rw [hW4]; exact HB3.out.drew
  have HO4 : Fresh B W4 ov (natsI S.opn) := by rw [hW4]; exact HO3.out
  have c2 := t4.back hc
  have f2 := t4.free (84 + c)
  obtain ⟨E, hE⟩ : ∃ E, E = W4.setCell ⟨X, 84 + c, none⟩ (.int .i64 ((S.met : Int) + 1)) := ⟨_, rfl⟩
  have t5 : TsAt E X gv grv ov { S with met := S.met + 1, N := upd S.N c (S.met + 1), bk := upd S.bk c (S.met + 1) } := by rw [hE]; exact t4.setBack hc (S.met + 1)
  have b5 : But X ov w E := by rw [hE]; exact b4.setX _ _
  have hne : ov.ownBlock ≠ some X := fun e => by have := (World.ownsRow.lt HO.out X e).1; omega
  have c3 := t5.opens
  have fo : Fresh B (E.alloc (.cells #[.int .i64 (c : Int)] 3)) ov (natsI S.opn) := by
    refine Fresh.ext ?_ (Ext.alloc (Ext.refl _) _)
    rw [hE]
    exact ((HO4 : Fresh B W4 ov (natsI S.opn)).setOut (by omega : X < B) (84 + c) _)
  have hcl := cell_alloc_one E (.int .i64 (c : Int)) 3
  have hEs : E.heap.size = W4.heap.size := by rw [hE]; simp
  rw [hEs] at hcl
  have hsz : (E.alloc (.cells #[.int .i64 (c : Int)] 3)).heap.size = E.heap.size + 1 := by simp
  have hBE : B ≤ (E.alloc (.cells #[.int .i64 (c : Int)] 3)).heap.size := by have := b5.size; omega
  have hl' : (natsI S.opn).length ≤ 1099511627776 := by unfold natsI; simp; omega
  rw [hE] at c3
  have HE := Lib.hid hE
  have HT5 := Lib.hid t5
  have HB5 := Lib.hid b5
  have FO := Lib.hid fo
  have HCL := Lib.hid hcl
  have HSZ := Lib.hid hsz
  have HBE := Lib.hid hBE
  have HNE := Lib.hid hne
  clear hW4 t4 b4 HT3 HB3 c1 hE t5 b5 fo hcl hsz hBE hne
  go_wp2_with (at_builtin; rw [← HE.out]; refine wpList_push_lies rfl _ _ rfl B ov (natsI S.opn) (c : Int) rfl FO.out ⟨W4.heap.size, 0, none⟩ 1 rfl HCL.out hl' HBE.out _ rfl ?_)
  intro g cap W6 f6 g6 h6
  have hlen : (natsI S.opn).length = S.opn.length := by simp [natsI]
  rw [hlen] at f6 ⊢
  have hXE : X < E.heap.size := by have := (Array.getElem?_eq_some_iff.1 HT5.out).1; exact this
  have t6 : TsAt W6 X gv grv ov { S with met := S.met + 1, N := upd S.N c (S.met + 1), bk := upd S.bk c (S.met + 1) } := by
    unfold TsAt
    rw [g6.block X (by rw [HSZ.out]; omega) (fun e => HNE.out e.symm), heap_alloc_old _ _ hXE]
    exact HT5.out
  have b6 := (HB5.out.alloc (.cells #[.int .i64 (c : Int)] 3)).grown g6
  have t7 := t6.setOpens (.slice (some ⟨g, 0, none⟩) (S.opn.length + 1) cap) (S.opn ++ [c])
  have hg : ov.ownBlock = some g ∨ w.heap.size ≤ g := by
    rcases h6 with h6 | h6
    · exact .inl h6
    · right; have := HB5.out.size; rw [hEs] at this; omega
  have e6 : natsI S.opn ++ [(c : Int)] = natsI (S.opn ++ [c]) := by simp [natsI]
  rw [e6] at f6
  have c6 := t6.opens
  have z6 := t6.free 2
  have c7 := t7.isOpen hc
  have z7 := t7.free (3 + c)
  have T8 := Lib.hid (t7.setOpen hc true)
  have F8 := Lib.hid ((f6.setOut hXB 2 (.slice (some ⟨g, 0, none⟩) (S.opn.length + 1) cap)).setOut hXB (3 + c) (.bool true))
  have B8 := Lib.hid ((b6.setX 2 (.slice (some ⟨g, 0, none⟩) (S.opn.length + 1) cap)).setX (3 + c) (.bool true))
  have HG := Lib.hid hg
  clear hXE t6 b6 t7 hg f6 g6 h6 c2 f2 c3 HT5 HB5 FO HCL HSZ HBE HNE e6
  go_wp2
  go_end0
  exact ⟨⟨_, rfl⟩, g, cap, T8.out, F8.out, B8.out, HG.out⟩

end Go.Proofs.Ytnmnbeklofnonaa
