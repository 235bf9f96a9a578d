/- The law's comparison of slices of Entry. -/
import Derived.Test.YtcpmfcigciknlaaLEnW
import Derived.Test.YtcpmfcigciknlaaLEnSz
import Derived.Test.YtcpmfcigciknlaaEnt
import Derived.Test.YtcpmfcigciknlaaRegionExt
namespace Go.Proofs.Ytcpmfcigciknlaa
open Go.RowKit
set_option linter.unusedVariables false

set_option maxHeartbeats 4000000 in
set_option maxRecDepth 100000 in
theorem eqEnS_same (u v : Value) (L : List EnD) (w : World) (hu : Enz w u L) (hv : Enz w v L) :
    Calls Try.prog 9 #[u, v] w (BoolExt true w) := by
  obtain ⟨au, cu, rfl, hlu, _, hcu⟩ := hu
  obtain ⟨av, cv, rfl, hlv, _, hcv⟩ := hv
  unfold maxLen at hlu hlv
  have e0 : ((L.length : Int) != (L.length : Int)) = false := by simp
  go_enter Try.func9, Try.ntmps9
  go_wp2
  go_loopw [5] (fun i wr => ∃ k : Nat, k ≤ L.length ∧ i = .int .i64 k ∧ Ext w wr) (fun i _ => L.length - (intOf i).toNat)
  case atStart => exact ⟨0, Nat.zero_le _, rfl, Ext.refl _⟩
  case round =>
    obtain ⟨k, hk, rfl, hx⟩ := hrel
    by_cases hlt : k < L.length
    · obtain ⟨bu, ou, rfl, du⟩ := hcu (by omega)
      obtain ⟨bv, ov, rfl, dv⟩ := hcv (by omega)
      have hx1 := du k hlt
      have hy1 := dv k hlt
      obtain ⟨d, hd⟩ : ∃ d, d = L[k] := ⟨_, rfl⟩
      rw [← hd] at hx1 hy1
      obtain ⟨p0, p1, p2, p3, p4, p5, p6, p7, p8⟩ := enIn_cells (hx1.ext hx)
      obtain ⟨q0, q1, q2, q3, q4, q5, q6, q7, q8⟩ := enIn_cells (hy1.ext hx)
      have cE : ∀ E : ExtOf wr, Calls Try.prog 22 #[.agg #[.int .i64 d.r, .int .i64 d.n, .int .i64 d.k, .int .i64 d.i, .int .i64 d.f, .int .i64 d.t, .int .i64 d.a, .int .i64 d.c, .int .i64 d.s], .agg #[.int .i64 d.r, .int .i64 d.n, .int .i64 d.k, .int .i64 d.i, .int .i64 d.f, .int .i64 d.t, .int .i64 d.a, .int .i64 d.c, .int .i64 d.s]] E.1 (BoolExt true E.1) := fun E => eqEntry_same d _
      have p0 := fun E : ExtOf wr => E.cell p0
      have q0 := fun E : ExtOf wr => E.cell q0
      have p1 := fun E : ExtOf wr => E.cell p1
      have q1 := fun E : ExtOf wr => E.cell q1
      have p2 := fun E : ExtOf wr => E.cell p2
      have q2 := fun E : ExtOf wr => E.cell q2
      have p3 := fun E : ExtOf wr => E.cell p3
      have q3 := fun E : ExtOf wr => E.cell q3
      have p4 := fun E : ExtOf wr => E.cell p4
      have q4 := fun E : ExtOf wr => E.cell q4
      have p5 := fun E : ExtOf wr => E.cell p5
      have q5 := fun E : ExtOf wr => E.cell q5
      have p6 := fun E : ExtOf wr => E.cell p6
      have q6 := fun E : ExtOf wr => E.cell q6
      have p7 := fun E : ExtOf wr => E.cell p7
      have q7 := fun E : ExtOf wr => E.cell q7
      have p8 := fun E : ExtOf wr => E.cell p8
      have q8 := fun E : ExtOf wr => E.cell q8
      have HX := Lib.hid hx
      have HLT := Lib.hid hlt
      clear hcu hcv du dv hx1 hy1 hd hx
      go_wp2_with fail
      refine wp_region_ext_lit (by kernel_rfl) (by kernel_rfl) ?_
      repeat (go_big_quiet_step (first | (go_at_call 22; with_reducible exact Calls.ext_of _ (cE _))))
      refine wpQuiet_nil ?_
      rintro _ ⟨E, rfl⟩
      have hx2 : Ext w E.1 := HX.out.trans E.2
      clear cE p0 p1 p2 p3 p4 p5 p6 p7 p8 q0 q1 q2 q3 q4 q5 q6 q7 q8
      go_wp2
      go_roundw
      case rel => exact ⟨k + 1, by have := HLT.out; omega, by go_num, hx2⟩
      case measure => simp [intOf]; have := HLT.out; omega
    · obtain rfl : k = L.length := by omega
      go_wp2
      go_ret
      exact ⟨rfl, hx⟩
end Go.Proofs.Ytcpmfcigciknlaa
