/- Arguments opened: a message to its numbers and its list. -/
import Derived.Test.YthnoeknalpnadaaMsg
import Derived.Test.YthnoeknalpnadaaFrameTab
namespace Go.Proofs.Ythnoeknalpnadaa
open Go.Joins Go.ChangeShapes Go.WideShapes Go.RowKit Go.Deep
set_option linter.unusedVariables false

set_option maxRecDepth 100000 in
set_option maxHeartbeats 1000000 in
theorem open_msg {H : Type} {enc : TypeId × Value → H} {w : World} {base : Nat} {held : Bool} {r0 : Reach} {b0 : Nat} {v : Value} {d : DataW H} {p : List MemPlace}
    (hv : Value.okWide Try.prog w r0 b0 106 v) (h : DataW.Trod enc Try.prog w base (fun _ => true) held 106 v d p) :
    ∃ (r : MsgD) (u : Value), v = .agg #[.int .i64 r.kd, .int .i64 r.fr, .int .i64 r.tt, .int .i64 r.rp, .int .i64 r.no, .int .i64 r.b, .int .i64 r.v, .int .i64 r.st, .int .i64 r.k, .int .i64 r.i, .int .i64 r.f, .int .i64 r.t, .int .i64 r.a, .int .i64 r.s, u] ∧ Ints w u r.l := by
  obtain ⟨cs, rfl, hsz⟩ := okWide_struct Try.underlying106 hv
  obtain ⟨l⟩ := cs
  match l, hsz.trans (show Try.prog.cellsOf 106 = 15 by kernel_rfl) with
  | [c0, c1, c2, c3, c4, c5, c6, c7, c8, c9, c10, c11, c12, c13, c14], _ =>
    obtain ⟨fuel, hf⟩ := h
    obtain ⟨xs, n, _, hx, _, hlen, hg⟩ := DataW.trod_struct Try.underlying106 hf
    have q : Try.prog.cellsOf 3 = 1 := by kernel_rfl
    have q2 : Try.prog.cellsOf 37 = 1 := by kernel_rfl
    have q5 : Try.prog.cellsOf 61 = 5 := by kernel_rfl
    have q6 : Try.prog.cellsOf 62 = 2 := by kernel_rfl
    match xs, hlen with
    | [y0, y1, y2, y3, y4, y5, y6, y7, y8, y9], _ =>
      obtain ⟨n0, e0, _⟩ := cell_int (by simpa [Value.cells, q] using hg 0 _ rfl)
      obtain ⟨n1, e1, _⟩ := cell_int (by simpa [Value.cells, q] using hg 1 _ rfl)
      obtain ⟨n2, e2, _⟩ := cell_int (by simpa [Value.cells, q] using hg 2 _ rfl)
      obtain ⟨n3, e3, _⟩ := cell_int (by simpa [Value.cells, q] using hg 3 _ rfl)
      obtain ⟨n4, e4, _⟩ := cell_int (by simpa [Value.cells, q] using hg 4 _ rfl)
      obtain ⟨n5, e5, _⟩ := cell_int (by simpa [Value.cells, q] using hg 5 _ rfl)
      obtain ⟨n6, e6, _⟩ := cell_int (by simpa [Value.cells, q] using hg 6 _ rfl)
      obtain ⟨n7, e7, _⟩ := cell_int (by simpa [Value.cells, q] using hg 7 _ rfl)
      subst e0 e1 e2 e3 e4 e5 e6 e7
      have h3 := hg 8 _ rfl
      have h4 := hg 9 _ rfl
      simp [Value.cells, q5] at h3
      simp [Value.cells, q6] at h4
      obtain ⟨zs, n', _, _, _, hzl, hz⟩ := DataW.trod_struct Try.underlying61 h3
      obtain ⟨vs, n'', _, _, _, hvl, hv2⟩ := DataW.trod_struct Try.underlying62 h4
      match zs, hzl with
      | [z0, z1, z2, z3, z4], _ =>
        match vs, hvl with
        | [v0, v1], _ =>
          obtain ⟨m0, rfl, _⟩ := cell_int (by simpa [q] using hz 0 _ rfl)
          obtain ⟨m1, rfl, _⟩ := cell_int (by simpa [q] using hz 1 _ rfl)
          obtain ⟨m2, rfl, _⟩ := cell_int (by simpa [q] using hz 2 _ rfl)
          obtain ⟨m3, rfl, _⟩ := cell_int (by simpa [q] using hz 3 _ rfl)
          obtain ⟨m4, rfl, _⟩ := cell_int (by simpa [q] using hz 4 _ rfl)
          obtain ⟨p0, rfl, _⟩ := cell_int (by simpa [q] using hv2 0 _ rfl)
          obtain ⟨l, hl⟩ := cell_ints (by simpa [q2] using hv2 1 _ rfl)
          exact ⟨⟨n0, n1, n2, n3, n4, n5, n6, n7, m0, m1, m2, m3, m4, p0, l⟩, c14, rfl, hl⟩
end Go.Proofs.Ythnoeknalpnadaa
