/- Contracts of the laws' marks in one row; what lives through the marks of a table. -/
import Derived.Test.YthnoeknalpnadaaMarkTab
import Derived.Test.YthnoeknalpnadaaEqRow
namespace Go.Proofs.Ythnoeknalpnadaa
open Go.RowKit
set_option linter.unusedVariables false

set_option maxHeartbeats 1000000 in
theorem markRow_any (B : Nat) (r : RowD) (u : Value) (k : Int) (w : World) (hv : Fresh B w u r.l) (h0 : 0 ≤ k) (h1 : k + r.l.length ≤ 4611686018427387904) :
    Calls Try.prog 45 #[.agg #[.int .i64 r.b, .int .i64 r.v, .int .i64 r.st, .int .i64 r.k, .int .i64 r.i, .int .i64 r.f, .int .i64 r.t, .int .i64 r.a, .int .i64 r.s, u], .int .i64 k] w (MarkedA B k u r.l w) := by
  have H1 := Lib.hid h1
  clear h1
  go_enter Try.func45, Try.ntmps45
  go_wp2_with fail
  refine (markAttr_any B _ _ r.l _ _ (hv.ext (Ext.alloc (Ext.refl _) _)) h0 H1.out).mono ?_
  rintro e w1 ⟨rfl, f1, t1⟩
  have T := Lib.hid t1
  have F := Lib.hid f1
  clear t1 f1 hv
  go_wp2
  go_ret
  exact ⟨rfl, F.out, (World.grownBy_alloc _ _ _).trans T.out⟩

set_option maxHeartbeats 1000000 in
theorem heldRow_yes (r : RowD) (u : Value) (n : Nat) (k : Int) (w : World) (hv : Ints w u (marks k n)) (h0 : 0 ≤ k) (h1 : k + n ≤ 4611686018427387904) :
    Calls Try.prog 54 #[.agg #[.int .i64 r.b, .int .i64 r.v, .int .i64 r.st, .int .i64 r.k, .int .i64 r.i, .int .i64 r.f, .int .i64 r.t, .int .i64 r.a, .int .i64 r.s, u], .int .i64 k] w (IntExt (k + n) w) := by
  have H1 := Lib.hid h1
  have hk : 0 ≤ k + (n : Int) := by omega
  go_enter Try.func54, Try.ntmps54
  go_wp2_with fail
  refine (heldAttr_yes _ _ n _ _ (hv.ext (Ext.alloc (Ext.refl _) _)) h0 H1.out).mono ?_
  rintro e w1 ⟨rfl, x1⟩
  have hx : Ext w w1 := (Ext.alloc (Ext.refl _) _).trans x1
  clear x1 hv
  go_wp2
  go_ret
  exact ⟨rfl, hx⟩

theorem RowAt.ins {lo hi b : Nat} {w w' : World} {r : RowD} {u : Value} (h : RowAt w b r u) (k : Ins lo hi w w') (hb : b < lo ∨ hi ≤ b) : RowAt w' b r u := by
  obtain ⟨h0, h1, h2, h3, h4, h5, h6, h7, h8, h9⟩ := h
  exact ⟨k.cell h0 hb, k.cell h1 hb, k.cell h2 hb, k.cell h3 hb, k.cell h4 hb, k.cell h5 hb, k.cell h6 hb, k.cell h7 hb, k.cell h8 hb, k.cell h9 hb⟩
theorem AttrAt.ins {lo hi b : Nat} {w w' : World} {s : Int} {u : Value} (h : AttrAt w b s u) (k : Ins lo hi w w') (hb : b < lo ∨ hi ≤ b) : AttrAt w' b s u := ⟨k.cell h.1 hb, k.cell h.2 hb⟩
theorem Rowzz.ins {lo hi : Nat} {w0 w w' : World} {v : Value} {T : List (List RowD)} (h0 : Rowzz w0 v T) (x : Ext w0 w) (k : Ins lo hi w w') (hb : w0.heap.size ≤ lo) : Rowzz w' v T := h0.ext (k.ext x hb)

end Go.Proofs.Ythnoeknalpnadaa
