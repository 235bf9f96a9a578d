/- Texts of this proof, part q: words, plain facts, contracts. -/
import Derived.Test.YtbffkidkfannhaaMGoodReplicao
import Derived.Test.YtbffkidkfannhaaMGoodReplicad
import Derived.Test.YtbffkidkfannhaaMGoodReplicac
import Derived.Test.YtbffkidkfannhaaMGoodReplicak
import Derived.Test.YtbffkidkfannhaaMGoodReplicam
import Derived.Test.YtbffkidkfannhaaMGoodReplicap

namespace Go.Proofs.Ytbffkidkfannhaa
open Go.RowKit
set_option linter.unusedVariables false

theorem TabS.ext {w w' : World} {g0 i : Nat} {vs US : List Value} {LS : List (List Int)} {q : WinT} {XS : Nat → List Value} {k : Int} {T : List (List RowD)} (h : TabS w g0 vs US LS q XS k i T) (e : Ext w w') : TabS w' g0 vs US LS q XS k i T :=
  ⟨h.out.ext e, h.row.ext e, fun j a b => ⟨(h.box j a b).1.ext e, (h.box j a b).2⟩, h.new, h.old⟩
theorem ChgB.of_ext {P : Nat → Prop} {w w' : World} (e : Ext w w') : ChgB P w w' := ⟨e.os, e.tape, e.output, e.size, fun b hb _ => Below.block e b hb⟩
/-- Behind the marks of a table in windows. -/
def MarkedW (P : Nat → Prop) (g0 : Nat) (vs US : List Value) (q : WinT) (T : List (List RowD)) (k : Int) (w : World) (e : Ending) (w' : World) : Prop := e = .returned (.int .i64 (k + (weighs T).sum)) ∧ (∃ LT XT, TabS w' g0 vs US LT q XT k T.length T) ∧ ChgB P w w'
set_option maxHeartbeats 1000000 in
theorem markTableW_any (P : Nat → Prop) (g0 cap : Nat) (n : Int) (vs US : List Value) (LS : List (List Int)) (q : WinT) (XS : Nat → List Value) (T : List (List RowD)) (k : Int) (w : World) (hf : TabF P g0 vs US q T) (hs : TabS w g0 vs US LS q XS k 0 T) (h0 : 0 ≤ k) (hk : k ≤ 1073741824) (h1 : bulkT T ≤ 10995116277) :
    Calls Try.prog 23 #[.agg #[.int .i64 n, .slice (some ⟨g0, 0, none⟩) T.length cap], .int .i64 k] w (MarkedW P g0 vs US q T k w) := by
  have hq0 : 0 ≤ k + ((weighs T).sum : Int) := by omega
  have xb := Ext.alloc1 w (.cells #[.int .i64 n, .slice (some ⟨g0, 0, none⟩) T.length cap] 32)
  have HX := Lib.hid xb
  have HS := Lib.hid (hs.ext xb)
  have HF := Lib.hid hf
  have H1 := Lib.hid h1
  clear hs hf h1 xb
  go_enter Try.func23, Try.ntmps23
  go_wp2_with fail
  refine (markTabW_any P g0 cap vs US LS q XS T _ _ HF.out HS.out h0 hk H1.out).mono ?_
  rintro e w1 ⟨rfl, t1, c1⟩
  have T1 := Lib.hid t1
  have C1 := Lib.hid c1
  clear t1 c1
  go_wp2
  go_ret
  exact ⟨rfl, T1.out, (ChgB.of_ext HX.out).trans C1.out⟩
set_option maxRecDepth 100000 in
theorem markLeadS_none (k : Int) (w : World) : Calls Try.prog 38 #[.slice none 0 0, .int .i64 k] w (fun e w' => e = .returned (.int .i64 k) ∧ w' = w) := by
  go_enter Try.func38, Try.ntmps38
  go_wp2
  refine wp_loop_rounds 1 ?_; rw [rounds_succ]
  go_wp2
  go_ret
  exact ⟨rfl, rfl⟩
set_option maxRecDepth 100000 in
theorem heldLeadS_none (k : Int) (w : World) : Calls Try.prog 39 #[.slice none 0 0, .int .i64 k] w (fun e w' => e = .returned (.int .i64 k) ∧ w' = w) := by
  go_enter Try.func39, Try.ntmps39
  go_wp2
  refine wp_loop_rounds 1 ?_; rw [rounds_succ]
  go_wp2
  go_ret
  exact ⟨rfl, rfl⟩
set_option maxHeartbeats 1000000 in
theorem markRepW_none (P : Nat → Prop) (g0 cap : Nat) (me n : Int) (vs US : List Value) (LS : List (List Int)) (q : WinT) (XS : Nat → List Value) (T : List (List RowD)) (k : Int) (w : World) (hp : ∀ b, P b → b < w.heap.size) (hf : TabF P g0 vs US q T) (hs : TabS w g0 vs US LS q XS k 0 T) (h0 : 0 ≤ k) (hk : k ≤ 1073741824) (h1 : bulkT T ≤ 10995116277) :
    Calls Try.prog 13 #[.agg #[.int .i64 me, .int .i64 n, .slice (some ⟨g0, 0, none⟩) T.length cap, .slice none 0 0], .int .i64 k] w (MarkedW P g0 vs US q T k w) := by
  have hq0 : 0 ≤ k + ((weighs T).sum : Int) := by omega
  have xb := Ext.alloc1 w (.cells #[.int .i64 me, .int .i64 n, .slice (some ⟨g0, 0, none⟩) T.length cap, .slice none 0 0] 35)
  have HB := Lib.hid (boxV_new w [.int .i64 me, .int .i64 n, .slice (some ⟨g0, 0, none⟩) T.length cap, .slice none 0 0] 35)
  have HX := Lib.hid xb
  have HS := Lib.hid (hs.ext xb)
  have HF := Lib.hid hf
  have H1 := Lib.hid h1
  have HP := Lib.hid hp
  clear hs hf h1 xb hp
  go_enter Try.func13, Try.ntmps13
  go_wp2_with fail
  refine (markTableW_any P g0 cap n vs US LS q XS T _ _ HF.out HS.out h0 hk H1.out).mono ?_
  rintro e w1 ⟨rfl, t1, c1⟩
  have T1 := Lib.hid t1
  have C1 := Lib.hid c1
  have b1 := (HB.out.same (c1.block _ HB.out.lt (fun h => by have := HP.out _ h; omega)) c1.size)
  have a0 := b1.cell 0 _ rfl
  have a1 := b1.cell 1 _ rfl
  have a2 := b1.cell 2 _ rfl
  have a3 := b1.cell 3 _ rfl
  obtain ⟨r, hr⟩ : ∃ r, r = k + ((weighs T).sum : Int) := ⟨_, rfl⟩
  rw [← hr] at hq0 ⊢
  have HR := Lib.hid hr
  clear t1 c1 b1 hr
  go_wp2_with fail
  refine (markLeadS_none _ _).mono ?_
  rintro e w2 ⟨rfl, rfl⟩
  clear a0 a1 a2 a3
  go_wp2
  go_ret
  exact ⟨by rw [HR.out]; first | done | rfl, T1.out, (ChgB.of_ext HX.out).trans C1.out⟩
set_option maxHeartbeats 1000000 in
theorem heldTableW_yes (g0 cap : Nat) (n : Int) (q : WinT) (T : List (List RowD)) (k : Int) (w : World) (hx : HeldT w g0 q k T) (h0 : 0 ≤ k) (hk : k ≤ 1073741824) (h1 : bulkT T ≤ 10995116277) :
    Calls Try.prog 25 #[.agg #[.int .i64 n, .slice (some ⟨g0, 0, none⟩) T.length cap], .int .i64 k] w (IntExt (k + (weighs T).sum) w) := by
  have hq0 : 0 ≤ k + ((weighs T).sum : Int) := by omega
  have xb := Ext.alloc1 w (.cells #[.int .i64 n, .slice (some ⟨g0, 0, none⟩) T.length cap] 32)
  have HX := Lib.hid xb
  have HS := Lib.hid (hx.ext xb)
  have H1 := Lib.hid h1
  clear hx h1 xb
  go_enter Try.func25, Try.ntmps25
  go_wp2_with fail
  refine (heldTabW_yes g0 cap q T _ _ HS.out h0 hk H1.out).mono ?_
  rintro e w1 ⟨rfl, x1⟩
  have X1 := Lib.hid (HX.out.trans x1)
  obtain ⟨r, hr⟩ : ∃ r, r = k + ((weighs T).sum : Int) := ⟨_, rfl⟩
  rw [← hr] at hq0 ⊢
  have HR := Lib.hid hr
  clear x1 hr
  go_wp2
  go_ret
  exact ⟨by rw [HR.out]; first | done | rfl, X1.out⟩
set_option maxHeartbeats 1000000 in
theorem heldRepW_none (g0 cap : Nat) (me n : Int) (q : WinT) (T : List (List RowD)) (k : Int) (w : World) (hx : HeldT w g0 q k T) (h0 : 0 ≤ k) (hk : k ≤ 1073741824) (h1 : bulkT T ≤ 10995116277) :
    Calls Try.prog 14 #[.agg #[.int .i64 me, .int .i64 n, .slice (some ⟨g0, 0, none⟩) T.length cap, .slice none 0 0], .int .i64 k] w (IntExt (k + (weighs T).sum) w) := by
  have hq0 : 0 ≤ k + ((weighs T).sum : Int) := by omega
  have xb := Ext.alloc1 w (.cells #[.int .i64 me, .int .i64 n, .slice (some ⟨g0, 0, none⟩) T.length cap, .slice none 0 0] 35)
  have HB := Lib.hid (boxV_new w [.int .i64 me, .int .i64 n, .slice (some ⟨g0, 0, none⟩) T.length cap, .slice none 0 0] 35)
  have HX := Lib.hid xb
  have HS := Lib.hid (hx.ext xb)
  have H1 := Lib.hid h1
  clear hx h1 xb
  go_enter Try.func14, Try.ntmps14
  go_wp2_with fail
  refine (heldTableW_yes g0 cap n q T _ _ HS.out h0 hk H1.out).mono ?_
  rintro e w1 ⟨rfl, x1⟩
  have X1 := Lib.hid (HX.out.trans x1)
  have b1 := HB.out.ext x1
  have a0 := b1.cell 0 _ rfl
  have a1 := b1.cell 1 _ rfl
  have a2 := b1.cell 2 _ rfl
  have a3 := b1.cell 3 _ rfl
  obtain ⟨r, hr⟩ : ∃ r, r = k + ((weighs T).sum : Int) := ⟨_, rfl⟩
  rw [← hr] at hq0 ⊢
  have HR := Lib.hid hr
  clear x1 hr b1
  go_wp2_with fail
  refine (heldLeadS_none _ _).mono ?_
  rintro e w2 ⟨rfl, rfl⟩
  clear a0 a1 a2 a3
  go_wp2
  go_ret
  exact ⟨by rw [HR.out]; first | done | rfl, X1.out⟩
end Go.Proofs.Ytbffkidkfannhaa

namespace Go.Proofs.Ytbffkidkfannhaa
open Go.RowKit
set_option linter.unusedVariables false

/-- A replica without leads comes back. -/
def meR (n me : Int) : Int := if repB n me then me else 0
def nR (n me : Int) : Int := if repB n me then n else 0
def tR (n me : Int) : List (List RowD) := if repB n me then newT n else []
def TwoRep (me m : Int) (T : List (List RowD)) (b : Bool) (w : World) (e : Ending) (w' : World) : Prop := ∃ v hi, e = .returned (.tuple #[.agg #[.int .i64 me, .int .i64 m, v, .slice none 0 0], .bool b]) ∧ FreshT w.heap.size hi w' v T ∧ Ext w w'
theorem rep_no {n me : Int} (h : repB n me = false) : meR n me = 0 ∧ nR n me = 0 ∧ tR n me = [] := by unfold meR nR tR; rw [h]; exact ⟨rfl, rfl, rfl⟩
theorem rep_yes {n me : Int} (h : repB n me = true) : meR n me = me ∧ nR n me = n ∧ tR n me = newT n := by unfold meR nR tR; rw [h]; exact ⟨rfl, rfl, rfl⟩
theorem tR_nil (n me : Int) : ∀ R ∈ tR n me, R = [] := by
  unfold tR
  split
  · exact newT_nil n
  · intro R hR; cases hR
theorem repB_grp {n me : Int} (h : repB n me = true) : isGrp n = true ∧ inB me 0 (n - 1) = true := by unfold repB at h; simpa using h

/-- The result's block may be written. -/
def RepFree (w : World) (b : Nat) : Prop := RepAt w b 0 0 (.slice none 0 0) (.slice none 0 0) ∧ w.frozen? ⟨b, 0, none⟩ = false ∧ w.frozen? ⟨b, 1, none⟩ = false ∧ w.frozen? ⟨b, 2, none⟩ = false ∧ w.frozen? ⟨b, 3, none⟩ = false
theorem RepFree.ext {w w' : World} {b : Nat} (h : RepFree w b) (e : Ext w w') : RepFree w' b := by
  obtain ⟨h0, h1, h2, h3, h4⟩ := h
  have hl : b < w.heap.size := World.block_lt_of_cell? w _ h0.1
  exact ⟨h0.ext e, e.frozen hl h1, e.frozen hl h2, e.frozen hl h3, e.frozen hl h4⟩
theorem repFree_new (w : World) (T : TypeId) : RepFree (w.alloc (.cells #[.int .i64 0, .int .i64 0, .slice none 0 0, .slice none 0 0] T)) w.heap.size := by
  refine ⟨repAt_new _ _ _ _ _ _, ?_, ?_, ?_, ?_⟩ <;> go_simp

set_option maxHeartbeats 400000 in
theorem eqLeadS_nil (w : World) : Calls Try.prog 35 #[.slice none 0 0, .slice none 0 0] w (BoolExt true w) := by
  go_enter Try.func35, Try.ntmps35
  go_wp2
  refine wp_loop_rounds 1 ?_; rw [rounds_succ]
  go_wp2
  go_ret
  exact ⟨rfl, Ext.refl _⟩
set_option maxRecDepth 100000 in
set_option maxHeartbeats 1000000 in
theorem markLeadS_nil (k : Int) (w : World) : Calls Try.prog 38 #[.slice none 0 0, .int .i64 k] w (IntExt k w) := by
  go_enter Try.func38, Try.ntmps38
  go_wp2
  refine wp_loop_rounds 1 ?_; rw [rounds_succ]
  go_wp2
  go_ret
  exact ⟨rfl, Ext.refl _⟩
set_option maxRecDepth 100000 in
set_option maxHeartbeats 1000000 in
theorem heldLeadS_nil (k : Int) (w : World) : Calls Try.prog 39 #[.slice none 0 0, .int .i64 k] w (IntExt k w) := by
  go_enter Try.func39, Try.ntmps39
  go_wp2
  refine wp_loop_rounds 1 ?_; rw [rounds_succ]
  go_wp2
  go_ret
  exact ⟨rfl, Ext.refl _⟩

set_option maxHeartbeats 1000000 in
theorem eqReplica_nil (me n : Int) (u v : Value) (T : List (List RowD)) (w : World) (hu : Rowzz w u T) (hv : Rowzz w v T) :
    Calls Try.prog 10 #[.agg #[.int .i64 me, .int .i64 n, u, .slice none 0 0], .agg #[.int .i64 me, .int .i64 n, v, .slice none 0 0]] w (BoolExt true w) := by
  have HH := Lib.hid (two_reps w 35 35 me n me n u v (.slice none 0 0) (.slice none 0 0))
  have xx := Ext.alloc2 w (.cells #[.int .i64 me, .int .i64 n, u, .slice none 0 0] 35) (.cells #[.int .i64 me, .int .i64 n, v, .slice none 0 0] 35)
  have HU := Lib.hid (hu.ext xx)
  have HV := Lib.hid (hv.ext xx)
  obtain ⟨au, cu, rfl, _, _, _⟩ := hu
  obtain ⟨av, cv, rfl, _, _, _⟩ := hv
  have nm : (me != me) = false := by simp
  have HX := Lib.hid xx
  clear xx
  go_enter Try.func10, Try.ntmps10
  go_wp2_with fail
  refine (eqTable_same _ _ _ T _ HU.out HV.out).mono ?_
  rintro e w1 ⟨rfl, x1⟩
  obtain ⟨a0, a1, a2, a3⟩ := HH.out.1.ext x1
  obtain ⟨b0, b1, b2, b3⟩ := HH.out.2.ext x1
  have X1 := Lib.hid (HX.out.trans x1)
  clear x1
  go_wp2_with fail
  refine (eqLeadS_nil _).mono ?_
  rintro e w2 ⟨rfl, x2⟩
  have X2 := Lib.hid (X1.out.trans x2)
  clear x2 X1
  go_wp2
  go_ret
  exact ⟨rfl, X2.out⟩
set_option maxHeartbeats 1000000 in
theorem markReplica_nil (me n : Int) (u : Value) (T : List (List RowD)) (k : Int) (w : World) (hu : Rowzz w u T) (hT : ∀ R ∈ T, R = []) :
    Calls Try.prog 13 #[.agg #[.int .i64 me, .int .i64 n, u, .slice none 0 0], .int .i64 k] w (IntExt k w) := by
  have HH := Lib.hid (repAt_new w 35 me n u (.slice none 0 0))
  have xx := Ext.alloc1 w (.cells #[.int .i64 me, .int .i64 n, u, .slice none 0 0] 35)
  have HU := Lib.hid (hu.ext xx)
  obtain ⟨au, cu, rfl, _, _, _⟩ := hu
  have HT := Lib.hid hT
  have HX := Lib.hid xx
  clear xx hT
  go_enter Try.func13, Try.ntmps13
  go_wp2_with fail
  refine (markTable_nil _ _ T _ _ HU.out HT.out).mono ?_
  rintro e w1 ⟨rfl, x1⟩
  obtain ⟨a0, a1, a2, a3⟩ := HH.out.ext x1
  have X1 := Lib.hid (HX.out.trans x1)
  clear x1
  go_wp2_with fail
  refine (markLeadS_nil _ _).mono ?_
  rintro e w2 ⟨rfl, x2⟩
  have X2 := Lib.hid (X1.out.trans x2)
  clear x2 X1
  go_wp2
  go_ret
  exact ⟨rfl, X2.out⟩
set_option maxHeartbeats 1000000 in
theorem heldReplica_nil (me n : Int) (u : Value) (T : List (List RowD)) (k : Int) (w : World) (hu : Rowzz w u T) (hT : ∀ R ∈ T, R = []) (h0 : 0 ≤ k) :
    Calls Try.prog 14 #[.agg #[.int .i64 me, .int .i64 n, u, .slice none 0 0], .int .i64 k] w (IntExt k w) := by
  have HH := Lib.hid (repAt_new w 35 me n u (.slice none 0 0))
  have xx := Ext.alloc1 w (.cells #[.int .i64 me, .int .i64 n, u, .slice none 0 0] 35)
  have HU := Lib.hid (hu.ext xx)
  obtain ⟨au, cu, rfl, _, _, _⟩ := hu
  have HT := Lib.hid hT
  have HX := Lib.hid xx
  clear xx hT
  go_enter Try.func14, Try.ntmps14
  go_wp2_with fail
  refine (heldTable_nil _ _ T _ _ HU.out HT.out h0).mono ?_
  rintro e w1 ⟨rfl, x1⟩
  obtain ⟨a0, a1, a2, a3⟩ := HH.out.ext x1
  have X1 := Lib.hid (HX.out.trans x1)
  clear x1
  go_wp2_with fail
  refine (heldLeadS_nil _ _).mono ?_
  rintro e w2 ⟨rfl, x2⟩
  have X2 := Lib.hid (X1.out.trans x2)
  clear x2 X1
  go_wp2
  go_ret
  exact ⟨rfl, X2.out⟩
end Go.Proofs.Ytbffkidkfannhaa

namespace Go.Proofs.Ytbffkidkfannhaa
open Go.RowKit
set_option linter.unusedVariables false

set_option maxHeartbeats 8000000 in
set_option maxRecDepth 100000 in
theorem markLeadS_any (lo hi : Nat) (v : Value) (L : List LeadD) (k : Int) (w : World) (hv : LeadzF lo hi w v L) (hs : hi ≤ w.heap.size) (h0 : 0 ≤ k) (hk : k ≤ 536870912) (h1 : bulkL L ≤ 1048576) :
    Calls Try.prog 38 #[v, .int .i64 k] w (MarkUp lo hi k (bulkL L) w) := by
  obtain ⟨g, xs0, cut, hg, rfl, hm, hb, hl0, hC, hT⟩ := hv
  have hgh : g < hi := by have := hC.lo; have := hC.high (Nat.zero_le _); omega
  unfold maxLen at hm
  have hLen : L.length ≤ 1048576 := by unfold bulkL at h1; omega
  have hbu : bulkL L = L.length + (weighD L).sum := rfl
  have HBU := Lib.hid hbu
  have HGH : Hid (lo ≤ g ∧ g < hi ∧ hi ≤ w.heap.size) := Lib.hid ⟨hg, hgh, hs⟩
  have HC := Lib.hid hC
  have H1 := Lib.hid h1
  have HB0 := Lib.hid hb
  have HT0 : Hid (∀ i (h : i < L.length), 0 ≤ i → ∃ u1 u2 u3 u4, XLead xs0 (i * 16) L[i] u1 u2 u3 u4 ∧ LeadC (cut i) (cut (i + 1)) w L[i] u1 u2 u3 u4) := Lib.hid fun i h _ => hT i h h
  clear hb hbu hC hT hg hgh hs h1 hm
  go_enter Try.func38, Try.ntmps38
  go_wp2
  go_loopw [1, 5] (fun m i wr => ∃ (j : Nat) (r : Int) (ys : List Value), j ≤ L.length ∧ i = .int .i64 j ∧ m = .int .i64 r ∧ Hid (k ≤ r ∧ r ≤ k + 16 * ((j : Int) + sumN (weighD L) j)) ∧ Hid (BoxV wr g ys) ∧ ys.length = L.length * 16 ∧ Hid (∀ i (h : i < L.length), j ≤ i → ∃ u1 u2 u3 u4, XLead ys (i * 16) L[i] u1 u2 u3 u4 ∧ LeadC (cut i) (cut (i + 1)) wr L[i] u1 u2 u3 u4) ∧ Hid (Ins lo hi w wr)) (fun _ i _ => L.length - (intOf i).toNat)
  case atStart => exact ⟨0, k, xs0, Nat.zero_le _, rfl, rfl, Lib.hid ⟨by omega, by rw [sumN_zero]; omega⟩, HB0, hl0, HT0, Lib.hid (Ins.refl _ _ _)⟩
  case round =>
    clear HB0 HT0 hl0
    obtain ⟨j, r, ys, hj, rfl, rfl, hr, hB, hl, hP, hI⟩ := hrel
    by_cases hlt : j < L.length
    · have hr0 : 0 ≤ r := by have := hr.out; omega
      have hr1 : r ≤ 536870912 + 16777216 := by
        have h := hr.out
        have h2 := sumN_mono (g := weighD L) (k := j) (by rw [weighD_len]; omega)
        have := HBU.out; have := H1.out; omega
      have hsu := sumN_succ (g := weighD L) (k := j) (by rw [weighD_len]; exact hlt)
      rw [weighD_get hlt] at hsu
      obtain ⟨u1, u2, u3, u4, hX, hE⟩ := hP.out j hlt (Nat.le_refl _)
      obtain ⟨d, hd⟩ : ∃ d, d = L[j] := ⟨_, rfl⟩
      have hbk : bulkD d ≤ 1048576 := by
        rw [hd]
        have h2 := sumN_mono (g := weighD L) (k := j + 1) (by rw [weighD_len]; omega)
        have := HBU.out; have := H1.out; omega
      rw [← hd] at hX hE hsu
      have bl1 : d.l1.length ≤ 1048576 := by unfold bulkD at hbk; omega
      have bl2 : d.l2.length ≤ 1048576 := by unfold bulkD at hbk; omega
      have bl3 : d.who.length ≤ 1048576 := by unfold bulkD at hbk; omega
      have bl4 : bulkR d.seen ≤ 1048576 := by unfold bulkD at hbk; omega
      have bw4 := weigh_sum d.seen
      have HSU := Lib.hid hsu
      obtain ⟨pa, pb, pc, t1, t2, t3, t4, f1, f2, f3, f4⟩ := hE
      have HP : Hid (g + 1 ≤ cut j ∧ cut j ≤ pa ∧ pa ≤ pb ∧ pb ≤ pc ∧ pc ≤ cut (j + 1) ∧ cut (j + 1) ≤ hi ∧ hi ≤ wr.heap.size ∧ lo ≤ g) := Lib.hid (by
        have e1 := HC.out.low (j := j) (by omega)
        have e2 := HC.out.high (j := j + 1) (by omega)
        have e3 := HC.out.le (i := j) (j := j + 1) (by omega) (by omega)
        have e4 := HGH.out
        have e5 := hI.out.size
        omega)
      have F1 := Lib.hid f1
      have F2 := Lib.hid f2
      have F3 := Lib.hid f3
      have F4 := Lib.hid f4
      have HR : Hid (RestX ys (j * 16) 0 (leadVs d u1 u2 u3 u4)) := Lib.hid (fun q v _ h => hX q v h)
      have HK : Hid (KeptX ys ys (j * 16) (j * 16 + 16)) := Lib.hid (KeptX.refl _ _ _)
      have HI : Hid (Ins g (cut (j + 1)) wr wr) := Lib.hid (Ins.refl _ _ _)
      have HB := hB
      clear hX hsu hd hB f1 f2 f3 f4  t1 t2 t3 t4
      have c0 := HB.out.cell (j * 16) _ (HR.out 0 _ (by omega) rfl)
      have n0 := HB.out.free (j * 16) (by have := HK.out.1; omega)
      have c1 := HB.out.cell (j * 16 + 1) _ (HR.out 1 _ (by omega) rfl)
      have n1 := HB.out.free (j * 16 + 1) (by have := HK.out.1; omega)
      have c2 := HB.out.cell (j * 16 + 2) _ (HR.out 2 _ (by omega) rfl)
      have n2 := HB.out.free (j * 16 + 2) (by have := HK.out.1; omega)
      have c3 := HB.out.cell (j * 16 + 3) _ (HR.out 3 _ (by omega) rfl)
      have n3 := HB.out.free (j * 16 + 3) (by have := HK.out.1; omega)
      have c4 := HB.out.cell (j * 16 + 4) _ (HR.out 4 _ (by omega) rfl)
      have n4 := HB.out.free (j * 16 + 4) (by have := HK.out.1; omega)
      have c5 := HB.out.cell (j * 16 + 5) _ (HR.out 5 _ (by omega) rfl)
      have n5 := HB.out.free (j * 16 + 5) (by have := HK.out.1; omega)
      have c6 := HB.out.cell (j * 16 + 6) _ (HR.out 6 _ (by omega) rfl)
      have n6 := HB.out.free (j * 16 + 6) (by have := HK.out.1; omega)
      have c7 := HB.out.cell (j * 16 + 7) _ (HR.out 7 _ (by omega) rfl)
      have n7 := HB.out.free (j * 16 + 7) (by have := HK.out.1; omega)
      have c8 := HB.out.cell (j * 16 + 8) _ (HR.out 8 _ (by omega) rfl)
      have n8 := HB.out.free (j * 16 + 8) (by have := HK.out.1; omega)
      have c9 := HB.out.cell (j * 16 + 9) _ (HR.out 9 _ (by omega) rfl)
      have n9 := HB.out.free (j * 16 + 9) (by have := HK.out.1; omega)
      have c10 := HB.out.cell (j * 16 + 10) _ (HR.out 10 _ (by omega) rfl)
      have kS : Ins g (g + 1) wr (wr.setCells g (j * 16) [.int .i64 r, .int .i64 (r + 1), .int .i64 (r + 1 + 1), .int .i64 (r + 1 + 1 + 1), .int .i64 (r + 1 + 1 + 1 + 1), .int .i64 (r + 1 + 1 + 1 + 1 + 1), .int .i64 (r + 1 + 1 + 1 + 1 + 1 + 1), .int .i64 (r + 1 + 1 + 1 + 1 + 1 + 1 + 1), .int .i64 (r + 1 + 1 + 1 + 1 + 1 + 1 + 1 + 1), .int .i64 (r + 1 + 1 + 1 + 1 + 1 + 1 + 1 + 1 + 1)]) := ins_puts (Nat.le_refl _) (Nat.lt_succ_self _) [.int .i64 r, .int .i64 (r + 1), .int .i64 (r + 1 + 1), .int .i64 (r + 1 + 1 + 1), .int .i64 (r + 1 + 1 + 1 + 1), .int .i64 (r + 1 + 1 + 1 + 1 + 1), .int .i64 (r + 1 + 1 + 1 + 1 + 1 + 1), .int .i64 (r + 1 + 1 + 1 + 1 + 1 + 1 + 1), .int .i64 (r + 1 + 1 + 1 + 1 + 1 + 1 + 1 + 1), .int .i64 (r + 1 + 1 + 1 + 1 + 1 + 1 + 1 + 1 + 1)] _ _
      have hB2 := boxV_puts [.int .i64 r, .int .i64 (r + 1), .int .i64 (r + 1 + 1), .int .i64 (r + 1 + 1 + 1), .int .i64 (r + 1 + 1 + 1 + 1), .int .i64 (r + 1 + 1 + 1 + 1 + 1), .int .i64 (r + 1 + 1 + 1 + 1 + 1 + 1), .int .i64 (r + 1 + 1 + 1 + 1 + 1 + 1 + 1), .int .i64 (r + 1 + 1 + 1 + 1 + 1 + 1 + 1 + 1), .int .i64 (r + 1 + 1 + 1 + 1 + 1 + 1 + 1 + 1 + 1)] (j * 16) _ _ HB.out (by have := HK.out.1; simp only [List.length_cons, List.length_nil]; omega)
      have HK := Lib.hid (HK.out.put (p := j * 16) (ms := [.int .i64 r, .int .i64 (r + 1), .int .i64 (r + 1 + 1), .int .i64 (r + 1 + 1 + 1), .int .i64 (r + 1 + 1 + 1 + 1), .int .i64 (r + 1 + 1 + 1 + 1 + 1), .int .i64 (r + 1 + 1 + 1 + 1 + 1 + 1), .int .i64 (r + 1 + 1 + 1 + 1 + 1 + 1 + 1), .int .i64 (r + 1 + 1 + 1 + 1 + 1 + 1 + 1 + 1), .int .i64 (r + 1 + 1 + 1 + 1 + 1 + 1 + 1 + 1 + 1)]) (by omega) (by simp only [List.length_cons, List.length_nil]; omega))
      have HR := Lib.hid (HR.out.put (ms := [.int .i64 r, .int .i64 (r + 1), .int .i64 (r + 1 + 1), .int .i64 (r + 1 + 1 + 1), .int .i64 (r + 1 + 1 + 1 + 1), .int .i64 (r + 1 + 1 + 1 + 1 + 1), .int .i64 (r + 1 + 1 + 1 + 1 + 1 + 1), .int .i64 (r + 1 + 1 + 1 + 1 + 1 + 1 + 1), .int .i64 (r + 1 + 1 + 1 + 1 + 1 + 1 + 1 + 1), .int .i64 (r + 1 + 1 + 1 + 1 + 1 + 1 + 1 + 1 + 1)]) (p := j * 16) (q1 := 10) (by omega) (by simp only [List.length_cons, List.length_nil]; omega))
      have HI2 := Lib.hid (HI.out.trans (kS.more (Nat.le_refl _) (by have h := HP.out; have h2 := HI.out.size; omega)))
      have F1 := Lib.hid (F1.out.kept (kS.stood (by have h := HP.out; have h2 := HI.out.size; omega) (.inr (by have h := HP.out; omega))))
      have F2 := Lib.hid (F2.out.kept (kS.stood (by have h := HP.out; have h2 := HI.out.size; omega) (.inr (by have h := HP.out; omega))))
      have F3 := Lib.hid (F3.out.kept (kS.stood (by have h := HP.out; have h2 := HI.out.size; omega) (.inr (by have h := HP.out; omega))))
      have F4 := Lib.hid (F4.out.kept (kS.stood (by have h := HP.out; have h2 := HI.out.size; omega) (.inr (by have h := HP.out; omega))))
      have HI := HI2
      have HBn := Lib.hid hB2
      clear kS hB2 HI2
      go_wp2_with fail
      refine (markIntS_any (cut j) _ d.l1 _ (wr.setCells g (j * 16) [.int .i64 r, .int .i64 (r + 1), .int .i64 (r + 1 + 1), .int .i64 (r + 1 + 1 + 1), .int .i64 (r + 1 + 1 + 1 + 1), .int .i64 (r + 1 + 1 + 1 + 1 + 1), .int .i64 (r + 1 + 1 + 1 + 1 + 1 + 1), .int .i64 (r + 1 + 1 + 1 + 1 + 1 + 1 + 1), .int .i64 (r + 1 + 1 + 1 + 1 + 1 + 1 + 1 + 1), .int .i64 (r + 1 + 1 + 1 + 1 + 1 + 1 + 1 + 1 + 1)]) F1.out.fresh (by omega) (by omega)).mono ?_
      rintro e w1 ⟨rfl, ff, tt⟩
      have kC : Ins (cut j) (pa) (wr.setCells g (j * 16) [.int .i64 r, .int .i64 (r + 1), .int .i64 (r + 1 + 1), .int .i64 (r + 1 + 1 + 1), .int .i64 (r + 1 + 1 + 1 + 1), .int .i64 (r + 1 + 1 + 1 + 1 + 1), .int .i64 (r + 1 + 1 + 1 + 1 + 1 + 1), .int .i64 (r + 1 + 1 + 1 + 1 + 1 + 1 + 1), .int .i64 (r + 1 + 1 + 1 + 1 + 1 + 1 + 1 + 1), .int .i64 (r + 1 + 1 + 1 + 1 + 1 + 1 + 1 + 1 + 1)]) w1 := Ins.of_grown tt (fun b e => ⟨(World.ownsRow.lt F1.out.fresh b e).1, F1.out.und b e⟩)
      clear ff tt
      obtain ⟨r1, hr1⟩ : ∃ r1, r1 = r + 1 + 1 + 1 + 1 + 1 + 1 + 1 + 1 + 1 + 1 + (d.l1.length : Int) := ⟨_, rfl⟩
      rw [← hr1]
      have p1 : 0 ≤ r1 := by omega
      have b1 : r1 ≤ 536870912 + 16777216 + 11000000 := by omega
      have Q1 := Lib.hid hr1
      clear hr1
      have HB := Lib.hid (HBn.out.ins' kC (.inl (by have h := HP.out; omega)))
      have HI2 := Lib.hid (HI.out.trans (kC.more (by have h := HP.out; omega) (by have h := HP.out; omega)))
      have F2 := Lib.hid (F2.out.kept (kC.stood (by have h := HP.out; have h2 := HI.out.size; omega) (.inr (by have h := HP.out; omega))))
      have F3 := Lib.hid (F3.out.kept (kC.stood (by have h := HP.out; have h2 := HI.out.size; omega) (.inr (by have h := HP.out; omega))))
      have F4 := Lib.hid (F4.out.kept (kC.stood (by have h := HP.out; have h2 := HI.out.size; omega) (.inr (by have h := HP.out; omega))))
      have HI := HI2
      clear kC HI2 c0 n0 c1 n1 c2 n2 c3 n3 c4 n4 c5 n5 c6 n6 c7 n7 c8 n8 c9 n9 c10 HBn
      have c11 := HB.out.cell (j * 16 + 11) _ (HR.out 11 _ (by omega) rfl)
      have n11 := HB.out.free (j * 16 + 11) (by have := HK.out.1; omega)
      have c12 := HB.out.cell (j * 16 + 12) _ (HR.out 12 _ (by omega) rfl)
      have kS : Ins g (g + 1) w1 (w1.setCells g (j * 16 + 11) [.int .i64 r1]) := ins_puts (Nat.le_refl _) (Nat.lt_succ_self _) [.int .i64 r1] _ _
      have hB2 := boxV_puts [.int .i64 r1] (j * 16 + 11) _ _ HB.out (by have := HK.out.1; simp only [List.length_cons, List.length_nil]; omega)
      have HK := Lib.hid (HK.out.put (p := j * 16 + 11) (ms := [.int .i64 r1]) (by omega) (by simp only [List.length_cons, List.length_nil]; omega))
      have HR := Lib.hid (HR.out.put (ms := [.int .i64 r1]) (p := j * 16 + 11) (q1 := 12) (by omega) (by simp only [List.length_cons, List.length_nil]; omega))
      have HI2 := Lib.hid (HI.out.trans (kS.more (Nat.le_refl _) (by have h := HP.out; have h2 := HI.out.size; omega)))
      have F2 := Lib.hid (F2.out.kept (kS.stood (by have h := HP.out; have h2 := HI.out.size; omega) (.inr (by have h := HP.out; omega))))
      have F3 := Lib.hid (F3.out.kept (kS.stood (by have h := HP.out; have h2 := HI.out.size; omega) (.inr (by have h := HP.out; omega))))
      have F4 := Lib.hid (F4.out.kept (kS.stood (by have h := HP.out; have h2 := HI.out.size; omega) (.inr (by have h := HP.out; omega))))
      have HI := HI2
      have HBn := Lib.hid hB2
      clear kS hB2 HI2
      go_wp2_with fail
      refine (markIntS_any (pa) _ d.l2 _ (w1.setCells g (j * 16 + 11) [.int .i64 r1]) F2.out.fresh (by omega) (by omega)).mono ?_
      rintro e w2 ⟨rfl, ff, tt⟩
      have kC : Ins (pa) (pb) (w1.setCells g (j * 16 + 11) [.int .i64 r1]) w2 := Ins.of_grown tt (fun b e => ⟨(World.ownsRow.lt F2.out.fresh b e).1, F2.out.und b e⟩)
      clear ff tt
      obtain ⟨r2, hr2⟩ : ∃ r2, r2 = r1 + 1 + (d.l2.length : Int) := ⟨_, rfl⟩
      rw [← hr2]
      have p2 : 0 ≤ r2 := by omega
      have b2 : r2 ≤ 536870912 + 16777216 + 22000000 := by omega
      have Q2 := Lib.hid hr2
      clear hr2
      have HB := Lib.hid (HBn.out.ins' kC (.inl (by have h := HP.out; omega)))
      have HI2 := Lib.hid (HI.out.trans (kC.more (by have h := HP.out; omega) (by have h := HP.out; omega)))
      have F3 := Lib.hid (F3.out.kept (kC.stood (by have h := HP.out; have h2 := HI.out.size; omega) (.inr (by have h := HP.out; omega))))
      have F4 := Lib.hid (F4.out.kept (kC.stood (by have h := HP.out; have h2 := HI.out.size; omega) (.inr (by have h := HP.out; omega))))
      have HI := HI2
      clear kC HI2 c11 n11 c12 HBn
      have c13 := HB.out.cell (j * 16 + 13) _ (HR.out 13 _ (by omega) rfl)
      have n13 := HB.out.free (j * 16 + 13) (by have := HK.out.1; omega)
      have c14 := HB.out.cell (j * 16 + 14) _ (HR.out 14 _ (by omega) rfl)
      have kS : Ins g (g + 1) w2 (w2.setCells g (j * 16 + 13) [.bool (r2 % 3 == 0)]) := ins_puts (Nat.le_refl _) (Nat.lt_succ_self _) [.bool (r2 % 3 == 0)] _ _
      have hB2 := boxV_puts [.bool (r2 % 3 == 0)] (j * 16 + 13) _ _ HB.out (by have := HK.out.1; simp only [List.length_cons, List.length_nil]; omega)
      have HK := Lib.hid (HK.out.put (p := j * 16 + 13) (ms := [.bool (r2 % 3 == 0)]) (by omega) (by simp only [List.length_cons, List.length_nil]; omega))
      have HR := Lib.hid (HR.out.put (ms := [.bool (r2 % 3 == 0)]) (p := j * 16 + 13) (q1 := 14) (by omega) (by simp only [List.length_cons, List.length_nil]; omega))
      have HI2 := Lib.hid (HI.out.trans (kS.more (Nat.le_refl _) (by have h := HP.out; have h2 := HI.out.size; omega)))
      have F3 := Lib.hid (F3.out.kept (kS.stood (by have h := HP.out; have h2 := HI.out.size; omega) (.inr (by have h := HP.out; omega))))
      have F4 := Lib.hid (F4.out.kept (kS.stood (by have h := HP.out; have h2 := HI.out.size; omega) (.inr (by have h := HP.out; omega))))
      have HI := HI2
      have HBn := Lib.hid hB2
      clear kS hB2 HI2
      go_wp2_with fail
      refine (markIntS_any (pb) _ d.who _ (w2.setCells g (j * 16 + 13) [.bool (r2 % 3 == 0)]) F3.out.fresh (by omega) (by omega)).mono ?_
      rintro e w3 ⟨rfl, ff, tt⟩
      have kC : Ins (pb) (pc) (w2.setCells g (j * 16 + 13) [.bool (r2 % 3 == 0)]) w3 := Ins.of_grown tt (fun b e => ⟨(World.ownsRow.lt F3.out.fresh b e).1, F3.out.und b e⟩)
      clear ff tt
      obtain ⟨r3, hr3⟩ : ∃ r3, r3 = r2 + 1 + (d.who.length : Int) := ⟨_, rfl⟩
      rw [← hr3]
      have p3 : 0 ≤ r3 := by omega
      have b3 : r3 ≤ 536870912 + 16777216 + 33000000 := by omega
      have Q3 := Lib.hid hr3
      clear hr3
      have HB := Lib.hid (HBn.out.ins' kC (.inl (by have h := HP.out; omega)))
      have HI2 := Lib.hid (HI.out.trans (kC.more (by have h := HP.out; omega) (by have h := HP.out; omega)))
      have F4 := Lib.hid (F4.out.kept (kC.stood (by have h := HP.out; have h2 := HI.out.size; omega) (.inr (by have h := HP.out; omega))))
      have HI := HI2
      clear kC HI2 c13 n13 c14 HBn
      have c15 := HB.out.cell (j * 16 + 15) _ (HR.out 15 _ (by omega) rfl)
      go_wp2_with fail
      refine (markRowS_any (pc) (cut (j + 1)) _ d.seen _ w3 F4.out (by omega) (by omega) (by omega)).mono ?_
      rintro e w4 ⟨rfl, kC⟩
      obtain ⟨r4, hr4⟩ : ∃ r4, r4 = r3 + ((weigh d.seen).sum : Int) := ⟨_, rfl⟩
      rw [← hr4]
      have p4 : 0 ≤ r4 := by omega
      have b4 : r4 ≤ 536870912 + 16777216 + 44000000 := by omega
      have Q4 := Lib.hid hr4
      clear hr4
      have HB := Lib.hid (HB.out.ins' kC (.inl (by have h := HP.out; omega)))
      have HI2 := Lib.hid (HI.out.trans (kC.more (by have h := HP.out; omega) (by have h := HP.out; omega)))
      have HI := HI2
      clear kC HI2 c15
      go_wp2
      go_roundw
      case rel =>
        refine ⟨j + 1, r4, _, by omega, by go_num, rfl, Lib.hid ?_, HB, HK.out.1.trans hl, Lib.hid (fun i h hij => ?_), Lib.hid (hI.out.trans (HI.out.more (by have h := HP.out; omega) (by have h := HP.out; omega)))⟩
        · have z0 := hr.out
          have zs := HSU.out
          have z1 := Q1.out; have z2 := Q2.out; have z3 := Q3.out; have z4 := Q4.out;
          unfold bulkD at zs
          omega
        · obtain ⟨u1, u2, u3, u4, a, b⟩ := hP.out i h (by omega)
          have e3 := HC.out.le (i := j + 1) (j := i) (by omega) (by omega)
          have e4 := HC.out.high (j := i + 1) (by omega)
          exact ⟨_, _, _, _, fun q v hq => by have := lead_lt hq; rw [HK.out.2 _ (by omega)]; exact a q v hq, b.kept (HI.out.stood (by have h := HP.out; omega) (.inr e3))⟩
      case measure => simp [intOf]; omega
    · obtain rfl : j = L.length := by omega
      go_wp2
      go_ret
      have h := hr.out
      have h2 := sumN_all (weighD L)
      rw [weighD_len] at h2
      rw [h2] at h
      exact ⟨r, rfl, h.1, by have := HBU.out; omega, hI.out⟩
end Go.Proofs.Ytbffkidkfannhaa

namespace Go.Proofs.Ytbffkidkfannhaa
open Go.RowKit
set_option linter.unusedVariables false

theorem TabS.ins {P : Nat → Prop} {lo hi : Nat} {w w' : World} {g i : Nat} {vs US : List Value} {LS : List (List Int)} {q : WinT} {XS : Nat → List Value} {k : Int} {T : List (List RowD)} (h : TabS w g vs US LS q XS k i T) (f : TabF P g vs US q T) (I : Ins lo hi w w') (hp : ∀ b, P b → b < lo ∨ hi ≤ b) : TabS w' g vs US LS q XS k i T :=
  ⟨h.out.ins' I (hp _ f.foot.1), ⟨h.row.len, fun a z l hz hl => I.row (h.row.row a z l hz hl) (fun b e => hp _ (f.foot.2.2 a z b hz e)), h.row.apart⟩, fun j hj hne => ⟨(h.box j hj hne).1.ins' I (hp _ (f.foot.2.1 j hj hne)), (h.box j hj hne).2⟩, h.new, h.old⟩

/-- A table in windows in new memory, or none. -/
def AnsW (lo hi : Nat) (w : World) (u : Value) (T : List (List RowD)) : Prop := (T = [] ∧ u = .slice none 0 0) ∨ ∃ g vs US LS q XS, u = .slice (some ⟨g, 0, none⟩) T.length T.length ∧ T.length ≤ maxLen ∧ TabF (fun b => lo ≤ b ∧ b < hi) g vs US q T ∧ (∀ k, TabS w g vs US LS q XS k 0 T)
/-- Its marks stand. -/
def AnsM (w : World) (u : Value) (T : List (List RowD)) : Prop := (T = [] ∧ u = .slice none 0 0) ∨ ∃ g q, u = .slice (some ⟨g, 0, none⟩) T.length T.length ∧ HeldT w g q 1 T
theorem AnsW.ext {lo hi : Nat} {w w' : World} {u : Value} {T : List (List RowD)} (h : AnsW lo hi w u T) (e : Ext w w') : AnsW lo hi w' u T := by
  rcases h with h | ⟨g, vs, US, LS, q, XS, h1, h2, h3, h4⟩
  · exact .inl h
  · exact .inr ⟨g, vs, US, LS, q, XS, h1, h2, h3, fun k => (h4 k).ext e⟩
theorem AnsW.ins {lo hi a b : Nat} {w w' : World} {u : Value} {T : List (List RowD)} (h : AnsW lo hi w u T) (I : Ins a b w w') (hp : b ≤ lo) : AnsW lo hi w' u T := by
  rcases h with h | ⟨g, vs, US, LS, q, XS, h1, h2, h3, h4⟩
  · exact .inl h
  · exact .inr ⟨g, vs, US, LS, q, XS, h1, h2, h3, fun k => (h4 k).ins h3 I (fun b hb => .inr (Nat.le_trans hp hb.1))⟩
theorem AnsW.reads {lo hi : Nat} {w : World} {u : Value} {T : List (List RowD)} (h : AnsW lo hi w u T) : Rowzz w u T := by
  rcases h with ⟨rfl, rfl⟩ | ⟨g, vs, US, LS, q, XS, rfl, h2, h3, h4⟩
  · exact (FreshT.nil 0 w).rows
  · exact tabS_rows h3 (h4 0) (Nat.le_refl _) h2
theorem AnsM.ext {w w' : World} {u : Value} {T : List (List RowD)} (h : AnsM w u T) (e : Ext w w') : AnsM w' u T := by
  rcases h with h | ⟨g, q, h1, h2⟩
  · exact .inl h
  · exact .inr ⟨g, q, h1, h2.ext e⟩
theorem AnsW.form {lo hi : Nat} {w : World} {u : Value} {T : List (List RowD)} (h : AnsW lo hi w u T) : ∃ a, u = .slice a T.length T.length := by
  rcases h with ⟨rfl, rfl⟩ | ⟨g, vs, US, LS, q, XS, rfl, _⟩
  · exact ⟨none, rfl⟩
  · exact ⟨_, rfl⟩
theorem ansW_mark {lo hi : Nat} {me n : Int} {u : Value} {T : List (List RowD)} {w : World} (h : AnsW lo hi w u T) (hh : hi ≤ w.heap.size) (h1 : bulkT T ≤ 10995116277) :
    Calls Try.prog 13 #[.agg #[.int .i64 me, .int .i64 n, u, .slice none 0 0], .int .i64 1] w (fun e w' => e = .returned (.int .i64 (1 + (weighs T).sum)) ∧ AnsM w' u T ∧ Ins lo hi w w') := by
  rcases h with ⟨rfl, rfl⟩ | ⟨g, vs, US, LS, q, XS, rfl, h2, h3, h4⟩
  · refine (markReplica_nil me n _ [] 1 w (FreshT.nil 0 w).rows (fun _ h => by cases h)).mono ?_
    rintro e w' ⟨rfl, x⟩
    exact ⟨rfl, .inl ⟨rfl, rfl⟩, Ins.of_ext x⟩
  · refine (markRepW_none _ g T.length me n vs US LS q XS T 1 w (fun b hb => Nat.lt_of_lt_of_le hb.2 hh) h3 (h4 1) (by omega) (by omega) h1).mono ?_
    rintro e w' ⟨rfl, ⟨LT, XT, t⟩, c⟩
    exact ⟨rfl, .inr ⟨g, q, rfl, heldT_of h3 t⟩, ⟨c.os, c.tape, c.output, c.size, fun b hb hc => c.block b hb (fun hp => by omega)⟩⟩
theorem ansM_held {me n : Int} {u : Value} {T : List (List RowD)} {w : World} (h : AnsM w u T) (h1 : bulkT T ≤ 10995116277) :
    Calls Try.prog 14 #[.agg #[.int .i64 me, .int .i64 n, u, .slice none 0 0], .int .i64 1] w (IntExt (1 + (weighs T).sum) w) := by
  rcases h with ⟨rfl, rfl⟩ | ⟨g, q, rfl, h2⟩
  · exact heldReplica_nil me n _ [] 1 w (FreshT.nil 0 w).rows (fun _ h => by cases h) (by omega)
  · exact heldRepW_none g T.length me n q T 1 w h2 (by omega) (by omega) h1

/-- What both functions CrashOf give, all told. -/
structure CrashD where
  m : Int
  n : Int
  T : List (List RowD)
  b : Bool
def crashD (me n : Int) (T : List (List RowD)) (L : List LeadD) : CrashD := match goodRep me n T L with
  | true => ⟨me, n, T, true⟩
  | false => ⟨0, 0, [], false⟩
theorem crashD_le (me n : Int) (T : List (List RowD)) (L : List LeadD) : bulkT (crashD me n T L).T ≤ bulkT T := by
  unfold crashD
  cases goodRep me n T L <;> simp [bulkT]
def CrashS (d : CrashD) (w : World) (e : Ending) (w' : World) : Prop := ∃ u, e = .returned (.tuple #[.agg #[.int .i64 d.m, .int .i64 d.n, u, .slice none 0 0], .bool d.b]) ∧ Rowzz w' u d.T ∧ Ext w w'
def CrashI (d : CrashD) (w : World) (e : Ending) (w' : World) : Prop := ∃ u, e = .returned (.tuple #[.agg #[.int .i64 d.m, .int .i64 d.n, u, .slice none 0 0], .bool d.b]) ∧ AnsW w.heap.size w'.heap.size w' u d.T ∧ Ext w w'
theorem specCrash_any (me n : Int) (u v : Value) (T : List (List RowD)) (L : List LeadD) (w : World) (hu : Rowzz w u T) (hv : Leadz w v L) :
    Calls Try.prog 11 #[.agg #[.int .i64 me, .int .i64 n, u, v]] w (CrashS (crashD me n T L) w) := by
  cases hg : goodRep me n T L with
  | true =>
    refine (specCrash_yes me n u v T L w hu hv hg).mono ?_
    rintro e w' ⟨g, rfl, h1, h2⟩
    rw [crashD, hg]
    exact ⟨_, rfl, h1, h2⟩
  | false =>
    refine (specCrash_no me n u v T L w hu hv hg).mono ?_
    rintro e w' ⟨rfl, h2⟩
    rw [crashD, hg]
    exact ⟨_, rfl, (FreshT.nil 0 w').rows, h2⟩
theorem implCrash_any (me n : Int) (u v : Value) (T : List (List RowD)) (L : List LeadD) (w : World) (hu : Rowzz w u T) (hv : Leadz w v L) (hb : bulkT T ≤ 1099511627776) (hl : bulkL L ≤ 549755813888) :
    Calls Try.prog 12 #[.agg #[.int .i64 me, .int .i64 n, u, v]] w (CrashI (crashD me n T L) w) := by
  cases hg : goodRep me n T L with
  | true =>
    have hm : T.length ≤ maxLen := by
      obtain ⟨a, c, _, _, ⟨h1, h2, _⟩, _⟩ := hu
      exact Nat.le_trans h1 h2
    refine (implCrash_yes me n u v T L w hu hv hg hb hl).mono ?_
    rintro e w' ⟨g, vs, US, LS, q, XS, rfl, h1, h2, h3⟩
    rw [crashD, hg]
    exact ⟨_, rfl, .inr ⟨g, vs, US, LS, q, XS, rfl, hm, h1, h2⟩, h3⟩
  | false =>
    refine (implCrash_no me n u v T L w hu hv hg hb hl).mono ?_
    rintro e w' ⟨rfl, h2⟩
    rw [crashD, hg]
    exact ⟨_, rfl, .inl ⟨rfl, rfl⟩, h2⟩

set_option maxHeartbeats 1000000 in
theorem markReplica_any (lo hi : Nat) (me n : Int) (u v : Value) (T : List (List RowD)) (L : List LeadD) (k : Int) (w : World) (hr : RepC lo hi w u v T L) (hs : hi ≤ w.heap.size) (h0 : 0 ≤ k) (hk : k ≤ 1024) (h1 : bulkT T ≤ 1048576) (h2 : bulkL L ≤ 1048576) :
    Calls Try.prog 13 #[.agg #[.int .i64 me, .int .i64 n, u, v], .int .i64 k] w (fun e w' => ∃ k' : Int, e = .returned (.int .i64 k') ∧ 0 ≤ k' ∧ Ins lo hi w w') := by
  obtain ⟨c, hc1, hc2, f, z⟩ := hr
  have hws := weighs_sum T
  have hq0 : 0 ≤ k + ((weighs T).sum : Int) := by omega
  have hq1 : k + ((weighs T).sum : Int) ≤ 536870912 := by omega
  obtain ⟨au, cu, rfl⟩ := f.form
  obtain ⟨al, cl, rfl⟩ := z.form
  have xb := Ext.alloc1 w (.cells #[.int .i64 me, .int .i64 n, .slice au T.length cu, .slice al L.length cl] 35)
  have HB := Lib.hid (boxV_new w [.int .i64 me, .int .i64 n, .slice au T.length cu, .slice al L.length cl] 35)
  have HP : Hid (lo ≤ c ∧ c ≤ hi ∧ hi ≤ w.heap.size ∧ hi ≤ (w.alloc (.cells #[.int .i64 me, .int .i64 n, .slice au T.length cu, .slice al L.length cl] 35)).heap.size) := Lib.hid ⟨hc1, hc2, hs, Nat.le_trans hs xb.size⟩
  have HX := Lib.hid xb
  have HF := Lib.hid (f.kept (Stood.of_ext xb (Nat.le_trans hc2 hs)))
  have HZ := Lib.hid (z.kept (Stood.of_ext xb hs))
  have H1 := Lib.hid h1
  have H2 := Lib.hid h2
  have HW := Lib.hid hws
  clear f z xb hc1 hc2 hs h1 h2 hws
  go_enter Try.func13, Try.ntmps13
  go_wp2_with fail
  refine (markTable_any lo c n _ T _ _ HF.out (Nat.le_trans HP.out.2.1 HP.out.2.2.2) h0 (by omega) (by have := H1.out; omega)).mono ?_
  rintro e w1 ⟨rfl, t1⟩
  have b1 := HB.out.ins' t1 (.inr (Nat.le_trans HP.out.2.1 HP.out.2.2.1))
  have a0 := b1.cell 0 _ rfl
  have a1 := b1.cell 1 _ rfl
  have a2 := b1.cell 2 _ rfl
  have a3 := b1.cell 3 _ rfl
  have Z1 := Lib.hid (HZ.out.kept (t1.stood HP.out.2.2.2 (.inr (Nat.le_refl _))))
  have S1 : Hid (hi ≤ w1.heap.size) := Lib.hid (Nat.le_trans HP.out.2.2.2 t1.size)
  have T1 := Lib.hid t1
  obtain ⟨r, hr⟩ : ∃ r, r = k + ((weighs T).sum : Int) := ⟨_, rfl⟩
  rw [← hr] at hq0 hq1 ⊢
  clear t1 b1 hr
  go_wp2_with fail
  refine (markLeadS_any c hi _ L r w1 Z1.out S1.out hq0 hq1 H2.out).mono ?_
  rintro e w2 ⟨k', rfl, ka, kb, i2⟩
  clear a0 a1 a2 a3
  go_wp2
  go_ret
  exact ⟨k', rfl, by omega, (Ins.of_ext HX.out).trans ((T1.out.more (Nat.le_refl _) HP.out.2.1).trans (i2.more HP.out.1 (Nat.le_refl _)))⟩
end Go.Proofs.Ytbffkidkfannhaa
