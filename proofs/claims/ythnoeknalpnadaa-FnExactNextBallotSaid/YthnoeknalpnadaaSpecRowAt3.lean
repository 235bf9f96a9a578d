/- Contract of the model's RowAt. -/
import Derived.Test.YthnoeknalpnadaaSpecRowAt2
namespace Go.Proofs.Ythnoeknalpnadaa
open Go.RowKit
set_option linter.unusedVariables false

def okAt (n : Int) (T : List (List RowD)) (rep no : Int) : Bool := goodTab n T && instB n rep no
/-- What RowAt tells. -/
def rowAtR (n : Int) (T : List (List RowD)) (rep no : Int) : RowD := if okAt n T rep no then rowOf n T rep.toNat (no - 1).toNat else zeroR
theorem rowAtR_no {n : Int} {T : List (List RowD)} {rep no : Int} (h : okAt n T rep no = false) : rowAtR n T rep no = zeroR := by unfold rowAtR; rw [h]; rfl
theorem rowAtR_yes {n : Int} {T : List (List RowD)} {p q : Nat} (h : okAt n T (p : Int) ((q : Int) + 1) = true) : rowAtR n T (p : Int) ((q : Int) + 1) = rowOf n T p q := by
  unfold rowAtR; rw [h]

  simp
theorem okAt_of {n : Int} {T : List (List RowD)} {rep no : Int} (h : okAt n T rep no = true) : goodTab n T = true ∧ instB n rep no = true := by
  unfold okAt at h; simpa using h
theorem rowOf_len {n : Int} {T : List (List RowD)} {p q : Nat} (h : goodTab n T = true) (hp : p < T.length) : (rowOf n T p q).l.length ≤ 5 := by
  by_cases hq : q < T[p].length
  · rw [rowOf_in hp hq]; exact (goodTab_row h hp hq).2.2
  · rw [rowOf_out hp (by omega)]; exact noneL_len n
theorem rowAtR_len (n : Int) (T : List (List RowD)) (rep no : Int) : (rowAtR n T rep no).l.length ≤ 5 := by
  cases h : okAt n T rep no with
  | false => rw [rowAtR_no h]; simp [zeroR]
  | true =>
    obtain ⟨h1, h2⟩ := okAt_of h
    obtain ⟨p, q, rfl, rfl, hp, _⟩ := inst_nat h1 h2
    rw [rowAtR_yes h]
    exact rowOf_len h1 hp

set_option maxHeartbeats 2000000 in
set_option maxRecDepth 100000 in
theorem specRowAt_any (n : Int) (u : Value) (T : List (List RowD)) (rep no : Int) (w : World) (hu : Rowzz w u T) :
    Calls Try.prog 52 #[.agg #[.int .i64 n, u], .int .i64 rep, .int .i64 no] w (TwoRow (rowAtR n T rep no) (okAt n T rep no) w) := by
  obtain ⟨wb, hwb⟩ : ∃ wb, wb = (w.alloc (.cells #[.int .i64 n, u] 24)).alloc (.cells #[.int .i64 0, .int .i64 0, .int .i64 0, .int .i64 0, .int .i64 0, .int .i64 0, .int .i64 0, .int .i64 0, .int .i64 0, .slice none 0 0] 71) := ⟨_, rfl⟩
  have ho := tab_res w n u 24 71
  rw [← hwb] at ho
  have xb : Ext w wb := by rw [hwb]; exact ((Ext.refl w).alloc _).alloc _
  have sb : w.heap.size + 2 ≤ wb.heap.size := by rw [hwb]; simp
  have HWB := Lib.hid hwb
  have HO := Lib.hid ho
  have SB := Lib.hid sb
  have HU := Lib.hid (hu.ext xb)
  obtain ⟨t0, t1⟩ := ho.1
  rw [hwb] at t0 t1
  clear hwb ho sb hu
  cases hk : okAt n T rep no with
  | false =>
    rw [rowAtR_no hk]
    have HK : Hid ((goodTab n T && instB n rep no) = false) := Lib.hid hk
    clear hk
    go_enter Try.func52, Try.ntmps52
    go_wp2_with fail
    rw [← HWB.out]
    refine (l4Asked_any _ _ T _ _ _ HU.out).mono ?_
    rintro e w1 ⟨rfl, x1⟩
    have hx := xb.trans x1
    obtain ⟨o0, o1, o2, o3, o4, o5, o6, o7, o8, o9⟩ := HO.out.2.1.ext x1
    obtain ⟨z0, z1, z2, z3, z4, z5, z6, z7, z8, z9⟩ := HO.out.2.2.ext (by have := SB.out; omega) x1
    clear x1 xb t0 t1
    rw [HK.out]
    go_wp2
    refine bodyPost_ret (v := .tuple #[.agg #[.int .i64 0, .int .i64 0, .int .i64 0, .int .i64 0, .int .i64 0, .int .i64 0, .int .i64 0, .int .i64 0, .int .i64 0, .slice none 0 0], .bool false]) (by simp [results, Try.results52, go_sem, o0, o1, o2, o3, o4, o5, o6, o7, o8, o9]) rfl ⟨_, rfl, fresh_nil _ _, ?_⟩
    exact ((((((((((hx.setc (by dsimp only; omega)).setc (by dsimp only; omega)).setc (by dsimp only; omega)).setc (by dsimp only; omega)).setc (by dsimp only; omega)).setc (by dsimp only; omega)).setc (by dsimp only; omega)).setc (by dsimp only; omega)).setc (by dsimp only; omega)).setc (by dsimp only; omega))
  | true =>
    obtain ⟨h1, h2⟩ := okAt_of hk
    obtain ⟨p, q, rfl, rfl, hp, hq⟩ := inst_nat h1 h2
    have hlen := rowOf_len (q := q) h1 hp
    rw [rowAtR_yes hk]
    obtain ⟨d, hd⟩ : ∃ d, d = rowOf n T p q := ⟨_, rfl⟩
    have hc : ∀ W, Rowzz W u T → Calls Try.prog 115 #[.agg #[.int .i64 n, u], .int .i64 p, .int .i64 ((q : Int) + 1)] W (NewRow d W) := fun W h => by rw [hd]; exact l4At_any n u T p q W h h1 hp hq
    rw [← hd]
    have HC := Lib.hid hc
    have HK : Hid ((goodTab n T && instB n (p : Int) ((q : Int) + 1)) = true) := Lib.hid hk
    clear hk hc hd hlen h1 h2
    go_enter Try.func52, Try.ntmps52
    go_wp2_with fail
    rw [← HWB.out]
    refine (l4Asked_any _ _ T _ _ _ HU.out).mono ?_
    rintro e w1 ⟨rfl, x1⟩
    obtain ⟨c0, c1⟩ := HO.out.1.ext x1
    clear t0 t1
    rw [HK.out]
    go_wp2_with fail
    refine (HC.out _ (HU.out.ext x1)).mono ?_
    rintro e w2 ⟨v, rfl, f2, x2⟩
    have x12 := x1.trans x2
    have hx := xb.trans x12
    obtain ⟨o0, o1, o2, o3, o4, o5, o6, o7, o8, o9⟩ := HO.out.2.1.ext x12
    obtain ⟨z0, z1, z2, z3, z4, z5, z6, z7, z8, z9⟩ := HO.out.2.2.ext (by have := SB.out; omega) x12
    obtain ⟨ay, cy, rfl⟩ := f2.form
    have F := Lib.hid (f2.more (B' := wb.heap.size) x1.size)
    clear f2 x1 x2 x12 xb c0 c1
    go_wp2
    refine bodyPost_ret (v := .tuple #[.agg #[.int .i64 d.b, .int .i64 d.v, .int .i64 d.st, .int .i64 d.k, .int .i64 d.i, .int .i64 d.f, .int .i64 d.t, .int .i64 d.a, .int .i64 d.s, .slice ay d.l.length cy], .bool true]) (by simp [results, Try.results52, go_sem, o0, o1, o2, o3, o4, o5, o6, o7, o8, o9]) rfl ⟨_, rfl, ?_, ?_⟩
    · exact ((((((((((F.out.set _ _ _ (by have := SB.out; omega)).set _ _ _ (by have := SB.out; omega)).set _ _ _ (by have := SB.out; omega)).set _ _ _ (by have := SB.out; omega)).set _ _ _ (by have := SB.out; omega)).set _ _ _ (by have := SB.out; omega)).set _ _ _ (by have := SB.out; omega)).set _ _ _ (by have := SB.out; omega)).set _ _ _ (by have := SB.out; omega)).set _ _ _ (by have := SB.out; omega)).more (by have := SB.out; omega)
    · exact ((((((((((hx.setc (by dsimp only; omega)).setc (by dsimp only; omega)).setc (by dsimp only; omega)).setc (by dsimp only; omega)).setc (by dsimp only; omega)).setc (by dsimp only; omega)).setc (by dsimp only; omega)).setc (by dsimp only; omega)).setc (by dsimp only; omega)).setc (by dsimp only; omega))

end Go.Proofs.Ythnoeknalpnadaa
