/- Texts of this proof, part k: words, plain facts, contracts. -/
import Derived.Test.YtfffddhfagibpaaMSetRowj
import Derived.Test.YtfffddhfagibpaaMSetRowh
import Derived.Deep.RegionLaw
import Derived.Deep.DeepCutAuto
import Derived.IntWalk
import Derived.Test.YtfffddhfagibpaaMSetRowd
import Derived.Test.YtfffddhfagibpaaMSetRowi
import Derived.Test.YtfffddhfagibpaaMSetRowg
import Derived.Test.YtfffddhfagibpaaMSetRowe
import Derived.Test.YtfffddhfagibpaaMSetRowa

namespace Go.Proofs.Ytfffddhfagibpaa
open Go.RowKit
set_option linter.unusedVariables false

def lst0 (T : List (List RowD)) (US : List Value) (p : Nat) (R : List RowD) : List (RowD × Value) := R.zip ((US.drop (mAt T p)).take R.length)
theorem full_le {vs US : List Value} {T : List (List RowD)} (fu : FullT vs US T) {p : Nat} (hp : p < T.length) : mAt T p + T[p].length ≤ US.length := by
  rw [fu.ul]
  have h1 := sumN_succ (g := lensT T) (k := p) (by rw [lensT_len]; exact hp)
  have h2 : (lensT T)[p]'(by rw [lensT_len]; exact hp) = T[p].length := by simp [lensT]
  have h3 := sumN_le (g := lensT T) (i := p + 1) (j := T.length) hp
  unfold mAt
  omega
theorem lst0_ok {vs US : List Value} {T : List (List RowD)} (fu : FullT vs US T) {p : Nat} (hp : p < T.length) : LstP T US p (lst0 T US p T[p]) := by
  have hm := full_le fu hp
  have hl : ((US.drop (mAt T p)).take T[p].length).length = T[p].length := by rw [List.length_take, List.length_drop]; omega
  exact ⟨hp, List.map_fst_zip (by omega), List.map_snd_zip (by omega)⟩
theorem putS_init {P : Nat → Prop} {w : World} {g p : Nat} {n : Int} {vs US : List Value} {LS : List (List Int)} {qq : WinT} {XS : Nat → List Value} {T : List (List RowD)}
    (f : TabF P g vs US qq T) (hS : TabS w g vs US LS qq XS 0 0 T) (fu : FullT vs US T) (hp : p < T.length) (hgw : g < w.heap.size) : ∃ a, vs[p]? = some (.slice a T[p].length T[p].length) ∧ PutS w w g p n vs US [] LS (lst0 T US p T[p]) (.slice a T[p].length T[p].length) 0 := by
  obtain ⟨a, ha⟩ := fu.at_ p hp
  have hm := full_le fu hp
  have hl := lst0_ok fu hp
  have hvp : p < vs.length := by rw [fu.vl]; exact hp
  have hset : vs.set p (.slice a T[p].length T[p].length) = vs := by
    refine List.ext_getElem? fun i => ?_
    by_cases e : p = i
    · subst e; rw [List.getElem?_set_self hvp, ha]
    · rw [List.getElem?_set_ne e]
  have hlen : (lst0 T US p T[p]).length = T[p].length := by
    have h := congrArg List.length hl.fst
    rw [List.length_map] at h
    exact h
  refine ⟨a, ha, (by rw [hset]; exact hS.out), (by simpa using hS.row), rfl, (fun u hu => by cases hu), ?_, ChgB.refl _ _, fun i u hu => (f.lists i u hu).2, hgw⟩
  by_cases he : T[p] = []
  · have h0 : lst0 T US p T[p] = [] := List.eq_nil_of_length_eq_zero (by rw [hlen, he]; rfl)
    rw [h0, he]
    cases a with
    | none => exact .inl (FreshZ.nil _ _)
    | some b => exact .inr ⟨rfl, ⟨b, rfl, fun j u hj => by simp [flatC] at hj⟩, by rw [ha, he]⟩
  · rcases f.val p hp with ⟨e, _⟩ | ⟨_, hv, _, _⟩
    · exact absurd e he
    · rw [ha] at hv
      simp only [Option.some.injEq, Value.slice.injEq] at hv
      obtain ⟨rfl, _, hc⟩ := hv
      refine .inr ⟨rfl, ⟨_, by rw [hlen], fun j u hj => ?_⟩, ha⟩
      have hjl := (List.getElem?_eq_some_iff.1 hj).1
      rw [flatC_len cellsR_len, hlen] at hjl
      obtain ⟨t, i, rfl, hi⟩ : ∃ t i, j = t * 10 + i ∧ i < 10 := ⟨j / 10, j % 10, by omega, by omega⟩
      have ht : t < T[p].length := by omega
      have ht' : t < (lst0 T US p T[p]).length := by rw [hlen]; exact ht
      rw [flatC_at cellsR_len ht' hi] at hj
      obtain ⟨u', h1, h2, h3⟩ := hS.old p hp (Nat.zero_le _) t ht
      have ht2 : t < (T[p].zip ((US.drop (mAt T p)).take T[p].length)).length := ht'
      have hL2 : (T[p].zip ((US.drop (mAt T p)).take T[p].length))[t]'ht2 = (T[p][t], u') := by
        rw [List.getElem_zip]
        congr 1
        rw [List.getElem_take, List.getElem_drop]
        exact (List.getElem?_eq_some_iff.1 h1).2
      have hL : (lst0 T US p T[p])[t] = (T[p][t], u') := hL2
      have hj : (cellsR (T[p][t], u'))[i]? = some u := (congrArg (fun x => (cellsR x)[i]?) hL).symm.trans hj
      have hadd : ((⟨qq.b p, qq.o p, none⟩ : Addr).add (t * 10 + i)) = ⟨qq.b p, qq.o p + t * 10 + i, none⟩ := by
        unfold Addr.add
        split <;> simp_all <;> omega
      rw [hadd]
      obtain ⟨x0, x1, x2, x3, x4, x5, x6, x7, x8, x9⟩ := h3
      have hb := (hS.box p hp he).1
      have hx : ∀ i, i < 10 → (XS (qq.b p))[qq.o p + t * 10 + i]? = (cellsR (T[p][t], u'))[i]? := fun i hi => by
        match i, hi with
        | 0, _ => exact x0
        | 1, _ => exact x1
        | 2, _ => exact x2
        | 3, _ => exact x3
        | 4, _ => exact x4
        | 5, _ => exact x5
        | 6, _ => exact x6
        | 7, _ => exact x7
        | 8, _ => exact x8
        | 9, _ => exact x9
      exact hb.cell _ _ ((hx i hi).trans hj)
end Go.Proofs.Ytfffddhfagibpaa

namespace Go.Proofs.Ytfffddhfagibpaa
open Go.RowKit
set_option linter.unusedVariables false

theorem put_boxes (w : World) (n : Int) (u : Value) (r : RowD) (z : Value) (T T' : TypeId) :
    let W := (w.alloc (.cells #[.int .i64 n, u] T)).alloc (.cells #[.int .i64 r.b, .int .i64 r.v, .int .i64 r.st, .int .i64 r.k, .int .i64 r.i, .int .i64 r.f, .int .i64 r.t, .int .i64 r.a, .int .i64 r.s, z] T')
    Ext w W ∧ AttrAt W w.heap.size n u ∧ RowIn W (w.heap.size + 1) 0 r z ∧ W.heap.size = w.heap.size + 2 := by
  refine ⟨(Ext.alloc1 _ _).alloc _, ⟨?_, ?_⟩, ?_, by simp⟩
  · go_simp
  · go_simp
  · have h := rowIn_alloc (w.alloc (.cells #[.int .i64 n, u] T)) T' r z
    rw [World.size_alloc] at h
    exact h
theorem PutPost.back {P : Nat → Prop} {n : Int} {g p q : Nat} {r : RowD} {T : List (List RowD)} {w wb w' : World} (h : PutPost P n g p q r T wb w') (e : Ext w wb) : PutPost P n g p q r T w w' := by
  obtain ⟨vs, US, LS, q', XS, h1, h2, h3⟩ := h
  exact ⟨vs, US, LS, q', XS, h1.more (fun b hb => by
    rcases hb with a | a
    · exact .inl a
    · exact .inr ⟨Nat.le_trans e.size a.1, a.2⟩), h2, (ChgB.of_ext e).trans h3⟩
theorem keptA {w wr : World} {g b : Nat} {s : Int} {u : Value} (h : AttrAt w b s u) (c : ChgB (fun x => x = g) w wr) (hb : b ≠ g) : AttrAt wr b s u := ⟨c.cell h.1 hb, c.cell h.2 hb⟩
theorem keptR {w wr : World} {g b : Nat} {r : RowD} {u : Value} (h : RowIn w b 0 r u) (c : ChgB (fun x => x = g) w wr) (hb : b ≠ g) : RowIn wr b 0 r u := by
  obtain ⟨h0, h1, h2, h3, h4, h5, h6, h7, h8, h9⟩ := h
  exact ⟨c.cell h0 hb, c.cell h1 hb, c.cell h2 hb, c.cell h3 hb, c.cell h4 hb, c.cell h5 hb, c.cell h6 hb, c.cell h7 hb, c.cell h8 hb, c.cell h9 hb⟩
theorem nearY {b o : Nat} {W W' : World} {x : Value} {blk : Option Nat} (t : W.grownBy W' blk) (hc : W.cell? ⟨b, o, none⟩ = some x) (hb : blk ≠ some b) : W'.cell? ⟨b, o, none⟩ = some x :=
  World.grownBy.cell t hc (fun e' => hb e'.symm)
/-- The block that an append turned was made from block number B on. -/
theorem blk_low {B b : Nat} {W : World} {v : Value} {blk : Option Nat} {L : List (RowD × Value)} (h : blk = none ∨ (blk = v.ownBlock ∧ FreshZ B W v L)) (hb : b < B) : blk ≠ some b := by
  rcases h with h | ⟨h, f⟩
  · rw [h]; exact fun e => by cases e
  · exact fun e => by have := (World.ownsRow.lt f b (h.symm.trans e)).1; omega

/-- A copied row, its cells not told one by one. -/
theorem copyRow_veilN {n : Int} (hn : isGrp n = true) (r : RowD) (u : Value) (w : World) (hv : Ints w u r.l) (hl : (r.l.length : Int) = n) :
    Calls Try.prog 101 #[.int .i64 n, .agg #[.int .i64 r.b, .int .i64 r.v, .int .i64 r.st, .int .i64 r.k, .int .i64 r.i, .int .i64 r.f, .int .i64 r.t, .int .i64 r.a, .int .i64 r.s, u]] w (fun e w' => ∃ (cs : Array Value) (z : Value), e = .returned (.agg cs) ∧ cs.toList = rowL r z ∧ cs.size = 10 ∧ Fresh w.heap.size w' z r.l ∧ Ext w w') :=
  (copyRow_any n r u w hn hv hl).mono (by
    rintro e w' ⟨z, rfl, f, x⟩
    exact ⟨_, z, rfl, rfl, rfl, f, x⟩)
set_option maxHeartbeats 8000000 in
set_option maxRecDepth 100000 in
theorem putRow_any {P : Nat → Prop} {w0 w : World} {g p q : Nat} {n : Int} {vs US : List Value} {LS : List (List Int)} {qq : WinT} {XS : Nat → List Value} {T : List (List RowD)} {z : Value} {r : RowD}
    (hN : isGrp n = true) (f : TabF P g vs US qq T) (hS : TabS w g vs US LS qq XS 0 0 T) (fu : FullT vs US T) (hp : p < T.length) (hT : T.length ≤ 5) (hl6 : T[p].length ≤ 6) (hq : q ≤ 5) (hz : Ints w0 z r.l) (hrl : (r.l.length : Int) = n) (e0 : Ext w0 w) (hPl : w0.heap.size ≤ g) (hPw : ∀ b, P b → b < w.heap.size) :
    Calls Try.prog 74 #[.agg #[.int .i64 n, .slice (some ⟨g, 0, none⟩) T.length T.length], .int .i64 p, .int .i64 ((q : Int) + 1), .agg #[.int .i64 r.b, .int .i64 r.v, .int .i64 r.st, .int .i64 r.k, .int .i64 r.i, .int .i64 r.f, .int .i64 r.t, .int .i64 r.a, .int .i64 r.s, z]] w (fun e w' => (∃ x, e = .returned x) ∧ PutPost P n g p q r T w w') := by
  obtain ⟨az, cz, rfl, _⟩ := id hz
  obtain ⟨hb1, hb2, hb3, hb4⟩ := put_boxes w n (.slice (some ⟨g, 0, none⟩) T.length T.length) r (.slice az r.l.length cz) 67 73
  obtain ⟨wb, hwb⟩ : ∃ wb, wb = (w.alloc (.cells #[.int .i64 n, .slice (some ⟨g, 0, none⟩) T.length T.length] 67)).alloc (.cells #[.int .i64 r.b, .int .i64 r.v, .int .i64 r.st, .int .i64 r.k, .int .i64 r.i, .int .i64 r.f, .int .i64 r.t, .int .i64 r.a, .int .i64 r.s, .slice az r.l.length cz] 73) := ⟨_, rfl⟩
  rw [← hwb] at hb1 hb2 hb3 hb4
  have hgw : g < w.heap.size := hPw _ f.foot.1
  have hgb : g < wb.heap.size := by omega
  have hSb := hS.ext hb1
  obtain ⟨a0, hv0, hi0⟩ := putS_init (n := n) f hSb fu hp hgb
  have HX := Lib.hid hb1
  have HT := Lib.hid hb2
  have HRW := Lib.hid hb3
  have HSZ := Lib.hid hb4
  have HSB := Lib.hid hSb
  have HF := Lib.hid f
  have HFU := Lib.hid fu
  have HWB := Lib.hid hwb
  have HN := Lib.hid hN
  have HI0 := Lib.hid hi0
  have HZ := Lib.hid (show ∀ W, ChgB (fun x => x = g) wb W → Ints W (.slice az r.l.length cz) r.l from fun W c => hz.ext (c.below (n := g) (fun b hb => Nat.le_of_eq hb.symm) (Nat.le_of_lt hgb) w0 hPl (e0.trans hb1)))
  have HPW : Hid (∀ b, P b → b < wb.heap.size) := Lib.hid fun b hb => by have := hPw b hb; omega
  have HLP := Lib.hid (lst0_ok fu hp)
  have HRL := Lib.hid hrl
  obtain ⟨L0, hL0⟩ : ∃ L0, L0 = lst0 T US p T[p] := ⟨_, rfl⟩
  rw [← hL0] at HLP HI0
  obtain ⟨len0, hlen0⟩ : ∃ l, l = T[p].length := ⟨_, rfl⟩
  rw [← hlen0] at HI0 hl6 hv0
  have HL0 := Lib.hid hlen0
  clear hb1 hb2 hb3 hb4 hS f fu hSb hz hrl hPl hPw hwb hN hi0 hL0 hlen0 hv0 e0
  go_enter Try.func74, Try.ntmps74
  go_wp2
  rw [← HWB.out]
  go_loopw [] (fun wr => ∃ (j : Nat) (Z : List Value) (v : Value), Hid (PutS wb wr g p n vs US Z LS L0 v j) ∧ Hid (∃ a c, v = .slice a (len0 + j) c) ∧ (j = 0 ∨ len0 + j ≤ q + 1)) (fun wr => q + 1 - listLen (wr.cell? ⟨g, p, none⟩))
  case atStart => exact ⟨0, [], _, HI0, Lib.hid ⟨_, _, rfl⟩, .inl rfl⟩
  case round =>
    clear HI0
    obtain ⟨j, Z, v, HS, HV, hj⟩ := hrel
    obtain ⟨av, cv, rfl⟩ := HV.out
    have HJ := Lib.hid hj
    have hvl : p < vs.length := by rw [HFU.out.vl]; exact hp
    have q0 : wr.cell? ⟨g, p, none⟩ = some (.slice av (len0 + j) cv) := HS.out.out.cell p _ (List.getElem?_set_self hvl)
    have qf : wr.frozen? ⟨g, p, none⟩ = false := HS.out.out.free p (by rw [List.length_set]; exact hvl)
    obtain ⟨t0, t1⟩ := keptA HT.out HS.out.chg (by omega)
    have HQF := Lib.hid qf
    have Q0 := Lib.hid q0
    have HVL := Lib.hid hvl
    have hq6 : (q : Int) + 1 ≤ 6 := by omega
    have b6 : len0 + j ≤ 6 := by omega
    have lo7 : wb.heap.size ≤ wr.heap.size := HS.out.chg.size
    have HLL : Hid ((L0 ++ Z.map (fun u => (emptyR n, u))).length = len0 + j) := Lib.hid (by
      have h := lstP_len (n := n) HLP.out HS.out.zl
      rw [← HL0.out] at h
      exact h)
    by_cases hlt : len0 + j < q + 1
    · have HLT := Lib.hid hlt
      go_wp2
      have hsz := HSZ.out
      have L73 : Hid (g < wr.heap.size) := Lib.hid (by omega)
      have L75 : Hid (w.heap.size < wr.heap.size) := Lib.hid (by omega)
      have HE : Hid (∀ W, Ext wr W → (FreshZ wb.heap.size W (.slice av (len0 + j) cv) (L0 ++ Z.map (fun u => (emptyR n, u))) ∨ FullL W (.slice av (len0 + j) cv) (L0 ++ Z.map (fun u => (emptyR n, u))))) := Lib.hid fun W e => by
        rcases HS.out.either with a | a
        · exact .inl (FreshZ.ext a e)
        · exact .inr (a.ext e)
      go_region_law (first | (refine step_pushRowX rfl (.tmp 23) (.tmp 27) rfl wb.heap.size (.slice av (len0 + j) cv) (L0 ++ Z.map (fun u => (emptyR n, u))) (emptyR n) a9 (noneL n).length c9 rfl (HE.out _ (Ext.alloc x8 _)) w8.heap.size 1 rfl (rowIn_alloc w8 _ (emptyR n) _) (len0 + j) HLL.out (by omega) (by have := x8.size; rw [World.size_alloc]; omega) ?_; intro ao' c' W' blk hf' hg' hloc'; have m0 := nearY hg' ((Ext.alloc x8 _).cell t0) (blk_low hloc' (by omega)); have m1 := nearY hg' ((Ext.alloc x8 _).cell t1) (blk_low hloc' (by omega)); have m2 := nearY hg' ((Ext.alloc x8 _).cell q0) (blk_low hloc' (by omega)); have m3 : W'.frozen? ⟨g, p, none⟩ = false := (World.grownBy.frozen_far hg' ⟨g, p, none⟩ (Nat.lt_of_lt_of_le L73.out (Ext.alloc x8 _).size) (fun e' => blk_low hloc' (by omega) e'.symm)).trans ((Ext.alloc x8 _).frozen L73.out HQF.out)) | (go_simp; go_at_call 102; refine (emptyRow_any n _ HN.out).mono ?_; rintro e w8 ⟨y9, rfl, f9, x8'⟩; obtain ⟨a9, c9, rfl⟩ := f9.form; have x8 : Ext wr w8 := (Ext.drew (Ext.refl _)).trans x8'; have b0 := x8.cell t0; have b1 := x8.cell t1; have b2 := x8.cell q0; have l3 : g < w8.heap.size := Nat.lt_of_lt_of_le L73.out x8.size; have l5 : g ≠ w8.heap.size := Nat.ne_of_lt l3; have l7 : w.heap.size < w8.heap.size := Nat.lt_of_lt_of_le L75.out x8.size; have l8 : w.heap.size ≠ w8.heap.size := Nat.ne_of_lt l7))
      all_goals
        have F9 : Fresh wr.heap.size (w8.alloc (.cells #[.int .i64 0, .int .i64 0, .int .i64 0, .int .i64 0, .int .i64 0, .int .i64 0, .int .i64 0, .int .i64 0, .int .i64 0, .slice a9 (noneL n).length c9] 73)) (.slice a9 (noneL n).length c9) (noneL n) := (f9.more (by simp)).ext (Ext.alloc1 _ _)
        have hN := Lib.hid (HS.out.grow (z := .slice a9 (noneL n).length c9) HVL.out (Ext.alloc x8 _) F9 hf' hg' hloc')
        have hcN : Hid ((W'.setCell ⟨g, p, none⟩ (.slice ao' (len0 + j + 1) c')).cell? ⟨g, p, none⟩ = some (.slice ao' (len0 + j + 1) c')) := Lib.hid (hN.out.out.cell p _ (List.getElem?_set_self HVL.out))
        clear F9 f9 x8 x8' hg' hf' hloc' m0 m1 m2 m3 b0 b1 b2 l3 l5 l7 l8 t0 t1 q0 qf
        go_wp2
        go_roundw
        case rel => exact ⟨j + 1, _, _, hN, Lib.hid ⟨_, _, rfl⟩, .inr (by have := HLT.out; omega)⟩
        case measure =>
          rw [hcN.out, Q0.out]
          have := HLT.out
          simp only [listLen]
          omega
    · have hj1 : j = q + 1 - T[p].length := by have := HJ.out; have := HL0.out; omega
      have hj2 : q < len0 + j := by omega
      have hj3 : (q : Int) < (len0 : Int) + (j : Int) := by omega
      have hq0 : (q : Int) ≤ 5 := by omega
      have hwq : IntKind.i64.wrap (q : Int) = (q : Int) := IntWalk.i64_in _ (by omega)
      have hsz := HSZ.out
      obtain ⟨p0, p1, p2, p3, p4, p5, p6, p7, p8, p9⟩ := keptR HRW.out HS.out.chg (by omega)
      have CR := Lib.hid (fun W (x : Ext wr W) => copyRow_veilN HN.out r (.slice az r.l.length cz) W ((HZ.out wr HS.out.chg).ext x) HRL.out)
      have HS2 := HS.out
      rw [HL0.out] at HS2
      have HSW := Lib.hid HS2
      have HJ1 := Lib.hid hj1
      have hj4 : q < T[p].length + j := by rw [← HL0.out]; exact hj2
      have HJ4 := Lib.hid hj4
      have hlst := HS.out.lst
      clear hlt hj1 hj4 HS2
      rcases hlst with fz | ⟨rfl, hfull, hvp⟩
      · have hqL : q < (L0 ++ Z.map (fun u => (emptyR n, u))).length := by rw [HLL.out]; exact hj2
        obtain ⟨b, rfl⟩ : ∃ b, av = some ⟨b, 0, none⟩ := by
          rcases fz.2 with ⟨h, _⟩ | ⟨g', cap, cur, h, _⟩
          · simp only [Value.slice.injEq] at h; omega
          · simp only [Value.slice.injEq] at h; exact ⟨g', h.1⟩
        have HQ := Lib.hid hqL
        have fz2 := fz
        rw [HL0.out] at fz2
        have FZ := Lib.hid fz
        have FZ2 := Lib.hid fz2
        clear fz fz2 hqL
        go_wp2
        go_region_law (go_simp; go_at_call 101; refine (CR.out _ (Ext.drew (Ext.refl _))).mono ?_; rintro e w8 ⟨cs, zz, rfl, hcs, hc10, fz8, x8'⟩; have x8 : Ext wr w8 := (Ext.drew (Ext.refl _)).trans x8'; have b0 := x8.cell t0; have b1 := x8.cell t1; have b2 := x8.cell q0; have hst := FreshZ.store (d := r) (FZ.out.ext x8) HQ.out fz8)
        all_goals
          have HE := Lib.hid (put_own (q := q) (z := zz) HF.out HSB.out HFU.out HLP.out HSW.out FZ2.out x8 (fz8.more (by simp)) HPW.out HJ1.out HJ4.out)
          clear hst b0 b1 b2 t0 t1 q0 qf p0 p1 p2 p3 p4 p5 p6 p7 p8 p9 x8 x8' fz8 hcs hc10
          go_wp2
          exact bodyPost_end (results_none rfl _ _ _) rfl ⟨⟨_, rfl⟩, HE.out.back HX.out⟩
      · have hqT : q < T[p].length := by have := HJ4.out; omega
        have hne : T[p] ≠ [] := fun e' => by rw [e'] at hqT; simp at hqT
        have hval : vs[p]? = some (.slice (some ⟨qq.b p, qq.o p, none⟩) T[p].length (qq.c p)) ∧ T[p].length ≤ qq.c p ∧ qq.c p ≤ maxLen := by
          rcases HF.out.val p hp with ⟨e', _⟩ | ⟨_, h⟩
          · exact absurd e' hne
          · exact h
        rw [hvp] at hval
        obtain ⟨hv1, hv2, hv3⟩ := hval
        simp only [Option.some.injEq, Value.slice.injEq] at hv1
        obtain ⟨rfl, _, rfl⟩ := hv1
        obtain ⟨hb1, hb2⟩ := HSB.out.box p hp hne
        have hb3 : BoxV wr (qq.b p) (XS (qq.b p)) := hb1.same (HS.out.chg.block _ hb1.lt (fun e' => HF.out.outer p hp hne e')) HS.out.chg.size
        have HB3 := Lib.hid hb3
        have HO : Hid (qq.o p + q * 10 + 10 ≤ (XS (qq.b p)).length) := Lib.hid (by omega)
        have HV2 := Lib.hid (And.intro hv2 hv3)
        have HQT := Lib.hid hqT
        clear hvp hb1 hb2 hb3 hfull hv2 hv3 hne
        go_wp2
        go_region_law (go_simp; go_at_call 101; refine (CR.out _ (Ext.drew (Ext.refl _))).mono ?_; rintro e w8 ⟨cs, zz, rfl, hcs, hc10, fz8, x8'⟩; have x8 : Ext wr w8 := (Ext.drew (Ext.refl _)).trans x8'; have b0 := x8.cell t0; have b1 := x8.cell t1; have b2 := x8.cell q0; have hst := storeRow_run (d := r) (HB3.out.ext x8) HO.out fz8)
        all_goals
          have HE := Lib.hid (put_old (q := q) (z := zz) HF.out HSB.out HFU.out hp HSW.out rfl HV2.out.1 HV2.out.2 x8 (fz8.more (by simp)) HPW.out HQT.out)
          clear hst b0 b1 b2 t0 t1 q0 qf p0 p1 p2 p3 p4 p5 p6 p7 p8 p9 x8 x8' fz8 hcs hc10
          go_wp2
          exact bodyPost_end (results_none rfl _ _ _) rfl ⟨⟨_, rfl⟩, HE.out.back HX.out⟩
end Go.Proofs.Ytfffddhfagibpaa

namespace Go.Proofs.Ytfffddhfagibpaa
open Go.RowKit
set_option linter.unusedVariables false

/-- A table that reads so, behind two stores into blocks below n0, too. -/
def FarT (n0 : Nat) (w : World) (u : Value) (T : List (List RowD)) : Prop := Rowzz w u T ∧ ∀ (b o b' o' : Nat) (x x' : Value), b < n0 → b' < n0 → Rowzz ((w.setCell ⟨b, o, none⟩ x).setCell ⟨b', o', none⟩ x') u T
theorem FarT.none (n0 : Nat) (w : World) : FarT n0 w (.slice .none 0 0) [] := ⟨(FreshT.nil 0 w).rows, fun b o b' o' x x' _ _ => (FreshT.nil 0 _).rows⟩
def noTab : Value := .agg #[.int .i64 0, .slice none 0 0]
def okSet (n : Int) (T : List (List RowD)) (rep no : Int) (r : RowD) : Bool := okAt n T rep no && goodRow n r
set_option maxHeartbeats 4000000 in
set_option maxRecDepth 100000 in
theorem specSetRow_no (n : Int) (u z : Value) (T : List (List RowD)) (rep no : Int) (r : RowD) (w : World) (hu : Rowzz w u T) (hz : Ints w z r.l) (hk : okSet n T rep no r = false) :
    Calls Try.prog 37 #[.agg #[.int .i64 n, u], .int .i64 rep, .int .i64 no, .agg #[.int .i64 r.b, .int .i64 r.v, .int .i64 r.st, .int .i64 r.k, .int .i64 r.i, .int .i64 r.f, .int .i64 r.t, .int .i64 r.a, .int .i64 r.s, z]] w (fun e w' => e = .returned (.tuple #[noTab, .bool false]) ∧ Ext w w') := by
  obtain ⟨au, cu, rfl, _⟩ := id hu
  obtain ⟨az, cz, rfl, _⟩ := id hz
  obtain ⟨hb1, hb2, hb3, hb4, hb5⟩ := set_boxes w n (.slice au T.length cu) r (.slice az r.l.length cz) 67 73 67
  obtain ⟨wb, hwb⟩ : ∃ wb, wb = ((w.alloc (.cells #[.int .i64 n, .slice au T.length cu] 67)).alloc (.cells #[.int .i64 r.b, .int .i64 r.v, .int .i64 r.st, .int .i64 r.k, .int .i64 r.i, .int .i64 r.f, .int .i64 r.t, .int .i64 r.a, .int .i64 r.s, .slice az r.l.length cz] 73)).alloc (.cells #[.int .i64 0, .slice none 0 0] 67) := ⟨_, rfl⟩
  rw [← hwb] at hb1 hb2 hb3 hb4 hb5
  obtain ⟨c0, c1⟩ := id hb2
  have HX := Lib.hid hb1
  have HT := Lib.hid hb2
  have HRW := Lib.hid hb3
  have HRS := Lib.hid hb4
  have HU := Lib.hid (hu.ext hb1)
  have HZ := Lib.hid (hz.ext hb1)
  have HWB := Lib.hid hwb
  rw [hwb] at c0 c1
  clear hb1 hb2 hb3 hb4 hb5 hu hz hwb
  cases ha : okAt n T rep no with
  | false =>
    have HK : Hid ((goodTab n T && instB n rep no) = false) := Lib.hid ha
    clear ha hk
    go_enter Try.func37, Try.ntmps37
    go_wp2_with fail
    rw [← HWB.out]
    refine (l4Asked_any _ _ T _ _ _ HU.out).mono ?_
    rintro e w1 ⟨rfl, x1⟩
    rw [HK.out]
    have hx := HX.out.trans x1
    obtain ⟨⟨z0, z1⟩, f0, f1⟩ := HRS.out.ext x1
    clear x1 c0 c1
    go_wp2
    refine bodyPost_ret (v := .tuple #[noTab, .bool false]) (by simp [results, Try.results37, go_sem, z0, z1, noTab]) rfl ⟨rfl, ?_⟩
    exact (hx.setc (by dsimp only; omega)).setc (by dsimp only; omega)
  | true =>
    have hgr : goodRow n r = false := by unfold okSet at hk; rw [ha] at hk; simpa using hk
    have HK : Hid ((goodTab n T && instB n rep no) = true) := Lib.hid ha
    have HGR : Hid (goodRow n r = false) := Lib.hid hgr
    have HN : Hid (isGrp n = true) := Lib.hid (goodTab_of (okAt_of ha).1).1
    clear ha hk hgr
    go_enter Try.func37, Try.ntmps37
    go_wp2_with fail
    rw [← HWB.out]
    refine (l4Asked_any _ _ T _ _ _ HU.out).mono ?_
    rintro e w1 ⟨rfl, x1⟩
    rw [HK.out]
    clear c0 c1
    obtain ⟨c0, c1⟩ := HT.out.ext x1
    obtain ⟨p0, p1, p2, p3, p4, p5, p6, p7, p8, p9⟩ := HRW.out.ext x1
    go_wp2_with fail
    refine (l4Row_any n r _ _ (HZ.out.ext x1) HN.out).mono ?_
    rintro e w2 ⟨rfl, x2⟩
    rw [HGR.out]
    have hx := (HX.out.trans x1).trans x2
    obtain ⟨⟨z0, z1⟩, f0, f1⟩ := HRS.out.ext (x1.trans x2)
    clear x1 x2 c0 c1 p0 p1 p2 p3 p4 p5 p6 p7 p8 p9
    go_wp2
    refine bodyPost_ret (v := .tuple #[noTab, .bool false]) (by simp [results, Try.results37, go_sem, z0, z1, noTab]) rfl ⟨rfl, ?_⟩
    exact (hx.setc (by dsimp only; omega)).setc (by dsimp only; omega)
set_option maxHeartbeats 4000000 in
set_option maxRecDepth 100000 in
theorem specSetRow_yes (n : Int) (u z : Value) (T : List (List RowD)) (p q : Nat) (r : RowD) (w : World) (hu : Rowzz w u T) (hz : Ints w z r.l) (hp : p < T.length) (hq : q ≤ 5) (hrl : r.l.length ≤ 1048576) (hk : okSet n T p ((q : Int) + 1) r = true) :
    Calls Try.prog 37 #[.agg #[.int .i64 n, u], .int .i64 p, .int .i64 ((q : Int) + 1), .agg #[.int .i64 r.b, .int .i64 r.v, .int .i64 r.st, .int .i64 r.k, .int .i64 r.i, .int .i64 r.f, .int .i64 r.t, .int .i64 r.a, .int .i64 r.s, z]] w (fun e w' => ∃ u, e = .returned (.tuple #[.agg #[.int .i64 n, u], .bool true]) ∧ FarT w.heap.size w' u (setT n T p q r) ∧ Ext w w') := by
  have hka : okAt n T p ((q : Int) + 1) = true := by unfold okSet at hk; rw [Bool.and_eq_true] at hk; exact hk.1
  have hkr : goodRow n r = true := by unfold okSet at hk; rw [Bool.and_eq_true] at hk; exact hk.2
  obtain ⟨hg, hi⟩ := okAt_of hka
  obtain ⟨au, cu, rfl, _⟩ := id hu
  obtain ⟨az, cz, rfl, _⟩ := id hz
  obtain ⟨hb1, hb2, hb3, hb4, hb5⟩ := set_boxes w n (.slice au T.length cu) r (.slice az r.l.length cz) 67 73 67
  obtain ⟨wb, hwb⟩ : ∃ wb, wb = ((w.alloc (.cells #[.int .i64 n, .slice au T.length cu] 67)).alloc (.cells #[.int .i64 r.b, .int .i64 r.v, .int .i64 r.st, .int .i64 r.k, .int .i64 r.i, .int .i64 r.f, .int .i64 r.t, .int .i64 r.a, .int .i64 r.s, .slice az r.l.length cz] 73)).alloc (.cells #[.int .i64 0, .slice none 0 0] 67) := ⟨_, rfl⟩
  rw [← hwb] at hb1 hb2 hb3 hb4 hb5
  obtain ⟨c0, c1⟩ := id hb2
  have HX := Lib.hid hb1
  have HT := Lib.hid hb2
  have HRW := Lib.hid hb3
  have HRS := Lib.hid hb4
  have HSZ := Lib.hid hb5
  have HU := Lib.hid (hu.ext hb1)
  have HZ := Lib.hid (hz.ext hb1)
  have HWB := Lib.hid hwb
  have HK : Hid ((goodTab n T && instB n p ((q : Int) + 1)) = true) := Lib.hid hka
  have HGR : Hid (goodRow n r = true) := Lib.hid hkr
  have HG := Lib.hid hg
  have HN : Hid (isGrp n = true) := Lib.hid (goodTab_of hg).1
  rw [hwb] at c0 c1
  clear hb1 hb2 hb3 hb4 hb5 hu hz hwb hka hkr hk hg hi
  go_enter Try.func37, Try.ntmps37
  go_wp2_with fail
  rw [← HWB.out]
  refine (l4Asked_any _ _ T _ _ _ HU.out).mono ?_
  rintro e w1 ⟨rfl, x1⟩
  rw [HK.out]
  clear c0 c1
  obtain ⟨c0, c1⟩ := HT.out.ext x1
  obtain ⟨p0, p1, p2, p3, p4, p5, p6, p7, p8, p9⟩ := HRW.out.ext x1
  go_wp2_with fail
  refine (l4Row_any n r _ _ (HZ.out.ext x1) HN.out).mono ?_
  rintro e w2 ⟨rfl, x2⟩
  rw [HGR.out]
  have x12 := x1.trans x2
  clear c0 c1 p0 p1 p2 p3 p4 p5 p6 p7 p8 p9
  obtain ⟨c0, c1⟩ := HT.out.ext x12
  obtain ⟨p0, p1, p2, p3, p4, p5, p6, p7, p8, p9⟩ := HRW.out.ext x12
  go_wp2_with fail
  refine (l4Set_any n _ _ T p q r _ (HU.out.ext x12) (HZ.out.ext x12) HG.out hp hq hrl).mono ?_
  rintro e w3 ⟨g, vs, P, rfl, ht, hP, hgl, x3⟩
  have hx := (HX.out.trans x12).trans x3
  obtain ⟨⟨z0, z1⟩, f0, f1⟩ := HRS.out.ext (x12.trans x3)
  have hsz : w.heap.size + 3 ≤ g := by have := HSZ.out; have := x12.size; omega
  rw [setT_len] at ht
  have HF := Lib.hid (((ht.set (b := w.heap.size + 1 + 1) (o := 0) (.int .i64 n) (by omega) (by omega)).set (b := w.heap.size + 1 + 1) (o := 1) (.slice (some ⟨g, 0, none⟩) T.length T.length) (by omega) (by omega)))
  have HP := Lib.hid hP
  have HXX := Lib.hid ((hx.setc (a := ⟨w.heap.size + 1 + 1, 0, none⟩) (v := .int .i64 n) (by dsimp only; omega)).setc (a := ⟨w.heap.size + 1 + 1, 1, none⟩) (v := .slice (some ⟨g, 0, none⟩) T.length T.length) (by dsimp only; omega))
  clear x1 x2 x12 x3 hx ht hP c0 c1 p0 p1 p2 p3 p4 p5 p6 p7 p8 p9
  rw [setT_len]
  go_wp2
  refine bodyPost_ret (v := .tuple #[.agg #[.int .i64 n, .slice (some ⟨g, 0, none⟩) T.length T.length], .bool true]) (by simp [results, Try.results37, go_sem, z0, z1]) rfl ⟨_, rfl, ?_, HXX.out⟩
  refine ⟨?_, fun b o b' o' x x' hb hb' => ?_⟩
  · have h := HF.out.rows
    rw [HP.out] at h
    exact h
  · have h := ((HF.out.set (b := b) (o := o) x (by omega) (by omega)).set (b := b') (o := o') x' (by omega) (by omega)).rows
    rw [HP.out] at h
    exact h
end Go.Proofs.Ytfffddhfagibpaa

namespace Go.Proofs.Ytfffddhfagibpaa
open Go.RowKit
set_option linter.unusedVariables false

theorem TabS.ins {P : Nat → Prop} {lo hi : Nat} {w w' : World} {g i : Nat} {vs US : List Value} {LS : List (List Int)} {q : WinT} {XS : Nat → List Value} {k : Int} {T : List (List RowD)} (h : TabS w g vs US LS q XS k i T) (f : TabF P g vs US q T) (I : Ins lo hi w w') (hp : ∀ b, P b → b < lo ∨ hi ≤ b) : TabS w' g vs US LS q XS k i T :=
  ⟨h.out.ins' I (hp _ f.foot.1), ⟨h.row.len, fun a z l hz hl => I.row (h.row.row a z l hz hl) (fun b e => hp _ (f.foot.2.2 a z b hz e)), h.row.apart⟩, fun j hj hne => ⟨(h.box j hj hne).1.ins' I (hp _ (f.foot.2.1 j hj hne)), (h.box j hj hne).2⟩, h.new, h.old⟩

/-- A table in windows in new memory, or none. -/
def AnsW (lo hi : Nat) (w : World) (u : Value) (T : List (List RowD)) : Prop := (T = [] ∧ u = .slice none 0 0) ∨ ∃ g vs US LS q XS, u = .slice (some ⟨g, 0, none⟩) T.length T.length ∧ T.length ≤ maxLen ∧ TabF (fun b => lo ≤ b ∧ b < hi) g vs US q T ∧ (∀ k, TabS w g vs US LS q XS k 0 T)
/-- Its marks stand. -/
def AnsM (w : World) (u : Value) (T : List (List RowD)) : Prop := (T = [] ∧ u = .slice none 0 0) ∨ ∃ g q, u = .slice (some ⟨g, 0, none⟩) T.length T.length ∧ HeldT w g q 1 T
theorem AnsW.ext {lo hi : Nat} {w w' : World} {u : Value} {T : List (List RowD)} (h : AnsW lo hi w u T) (e : Ext w w') : AnsW lo hi w' u T := by
  rcases h with h | ⟨g, vs, US, LS, q, XS, h1, h2, h3, h4⟩
  · exact .inl h
  · exact .inr ⟨g, vs, US, LS, q, XS, h1, h2, h3, fun k => (h4 k).ext e⟩
theorem AnsW.ins {lo hi a b : Nat} {w w' : World} {u : Value} {T : List (List RowD)} (h : AnsW lo hi w u T) (I : Ins a b w w') (hp : b ≤ lo) : AnsW lo hi w' u T := by
  rcases h with h | ⟨g, vs, US, LS, q, XS, h1, h2, h3, h4⟩
  · exact .inl h
  · exact .inr ⟨g, vs, US, LS, q, XS, h1, h2, h3, fun k => (h4 k).ins h3 I (fun b hb => .inr (Nat.le_trans hp hb.1))⟩
theorem AnsW.reads {lo hi : Nat} {w : World} {u : Value} {T : List (List RowD)} (h : AnsW lo hi w u T) : Rowzz w u T := by
  rcases h with ⟨rfl, rfl⟩ | ⟨g, vs, US, LS, q, XS, rfl, h2, h3, h4⟩
  · exact (FreshT.nil 0 w).rows
  · exact tabS_rows h3 (h4 0) (Nat.le_refl _) h2
theorem AnsM.ext {w w' : World} {u : Value} {T : List (List RowD)} (h : AnsM w u T) (e : Ext w w') : AnsM w' u T := by
  rcases h with h | ⟨g, q, h1, h2⟩
  · exact .inl h
  · exact .inr ⟨g, q, h1, h2.ext e⟩
theorem AnsW.form {lo hi : Nat} {w : World} {u : Value} {T : List (List RowD)} (h : AnsW lo hi w u T) : ∃ a, u = .slice a T.length T.length := by
  rcases h with ⟨rfl, rfl⟩ | ⟨g, vs, US, LS, q, XS, rfl, _⟩
  · exact ⟨none, rfl⟩
  · exact ⟨_, rfl⟩
end Go.Proofs.Ytfffddhfagibpaa

namespace Go.Proofs.Ytfffddhfagibpaa
open Go.RowKit
set_option linter.unusedVariables false

set_option maxHeartbeats 4000000 in
set_option maxRecDepth 100000 in
theorem implSetRow_no (n : Int) (u z : Value) (T : List (List RowD)) (rep no : Int) (r : RowD) (w : World) (hu : Rowzz w u T) (hz : Ints w z r.l) (hs : bulkT T ≤ 1099511627776) (hrl : r.l.length ≤ 1048576) (hk : okSet n T rep no r = false) :
    Calls Try.prog 40 #[.agg #[.int .i64 n, u], .int .i64 rep, .int .i64 no, .agg #[.int .i64 r.b, .int .i64 r.v, .int .i64 r.st, .int .i64 r.k, .int .i64 r.i, .int .i64 r.f, .int .i64 r.t, .int .i64 r.a, .int .i64 r.s, z]] w (fun e w' => e = .returned (.tuple #[noTab, .bool false]) ∧ Ext w w') := by
  obtain ⟨au, cu, rfl, _⟩ := id hu
  obtain ⟨az, cz, rfl, _⟩ := id hz
  obtain ⟨hb1, hb2, hb3, hb4, hb5⟩ := set_boxes w n (.slice au T.length cu) r (.slice az r.l.length cz) 67 73 67
  obtain ⟨wb, hwb⟩ : ∃ wb, wb = ((w.alloc (.cells #[.int .i64 n, .slice au T.length cu] 67)).alloc (.cells #[.int .i64 r.b, .int .i64 r.v, .int .i64 r.st, .int .i64 r.k, .int .i64 r.i, .int .i64 r.f, .int .i64 r.t, .int .i64 r.a, .int .i64 r.s, .slice az r.l.length cz] 73)).alloc (.cells #[.int .i64 0, .slice none 0 0] 67) := ⟨_, rfl⟩
  rw [← hwb] at hb1 hb2 hb3 hb4 hb5
  obtain ⟨c0, c1⟩ := id hb2
  have HX := Lib.hid hb1
  have HT := Lib.hid hb2
  have HRW := Lib.hid hb3
  have HRS := Lib.hid hb4
  have HU := Lib.hid (hu.ext hb1)
  have HZ := Lib.hid (hz.ext hb1)
  have HWB := Lib.hid hwb
  have HS := Lib.hid hs
  rw [hwb] at c0 c1
  clear hb1 hb2 hb3 hb4 hb5 hu hz hwb hs
  cases hg : goodTab n T with
  | false =>
    have HG := Lib.hid hg
    clear hg hk
    go_enter Try.func40, Try.ntmps40
    go_wp2_with fail
    rw [← HWB.out]
    refine (implGoodTable_any _ _ T _ HU.out HS.out).mono ?_
    rintro e w1 ⟨rfl, x1⟩
    rw [HG.out]
    have hx := HX.out.trans x1
    obtain ⟨⟨z0, z1⟩, f0, f1⟩ := HRS.out.ext x1
    clear x1 c0 c1
    go_wp2
    refine bodyPost_ret (v := .tuple #[noTab, .bool false]) (by simp [results, Try.results40, go_sem, z0, z1, noTab]) rfl ⟨rfl, ?_⟩
    exact (hx.setc (by dsimp only; omega)).setc (by dsimp only; omega)
  | true =>
    have HG := Lib.hid hg
    have HN : Hid (isGrp n = true) := Lib.hid (goodTab_of hg).1
    cases hi : instB n rep no with
    | false =>
      have HI := Lib.hid hi
      clear hg hi hk
      go_enter Try.func40, Try.ntmps40
      go_wp2_with fail
      rw [← HWB.out]
      refine (implGoodTable_any _ _ T _ HU.out HS.out).mono ?_
      rintro e w1 ⟨rfl, x1⟩
      rw [HG.out]
      clear c0 c1
      obtain ⟨c0, c1⟩ := HT.out.ext x1
      go_wp2_with fail
      refine (isInstance_any _ _ _ _ HN.out).mono ?_
      rintro e w2 ⟨rfl, rfl⟩
      rw [HI.out]
      have hx := HX.out.trans x1
      obtain ⟨⟨z0, z1⟩, f0, f1⟩ := HRS.out.ext x1
      clear x1 c0 c1
      go_wp2
      refine bodyPost_ret (v := .tuple #[noTab, .bool false]) (by simp [results, Try.results40, go_sem, z0, z1, noTab]) rfl ⟨rfl, ?_⟩
      exact (hx.setc (by dsimp only; omega)).setc (by dsimp only; omega)
    | true =>
      have hgr : goodRow n r = false := by unfold okSet okAt at hk; rw [hg, hi] at hk; simpa using hk
      have HI := Lib.hid hi
      have HGR := Lib.hid hgr
      clear hg hi hk hgr
      go_enter Try.func40, Try.ntmps40
      go_wp2_with fail
      rw [← HWB.out]
      refine (implGoodTable_any _ _ T _ HU.out HS.out).mono ?_
      rintro e w1 ⟨rfl, x1⟩
      rw [HG.out]
      clear c0 c1
      obtain ⟨c0, c1⟩ := HT.out.ext x1
      obtain ⟨p0, p1, p2, p3, p4, p5, p6, p7, p8, p9⟩ := HRW.out.ext x1
      go_wp2_with fail
      refine (isInstance_any _ _ _ _ HN.out).mono ?_
      rintro e w2 ⟨rfl, rfl⟩
      rw [HI.out]
      go_wp2_with fail
      refine (isGoodRow_any n r _ _ (HZ.out.ext x1) (by omega) HN.out).mono ?_
      rintro e w2 ⟨rfl, x2⟩
      rw [HGR.out]
      have hx := (HX.out.trans x1).trans x2
      obtain ⟨⟨z0, z1⟩, f0, f1⟩ := HRS.out.ext (x1.trans x2)
      clear x1 x2 c0 c1 p0 p1 p2 p3 p4 p5 p6 p7 p8 p9
      go_wp2
      refine bodyPost_ret (v := .tuple #[noTab, .bool false]) (by simp [results, Try.results40, go_sem, z0, z1, noTab]) rfl ⟨rfl, ?_⟩
      exact (hx.setc (by dsimp only; omega)).setc (by dsimp only; omega)
theorem set_off {a b c : Nat} (h1 : a + 3 ≤ b) (h : b ≤ a + 1 + 1 ∨ (c ≤ a + 1 + 1 ∧ b ≤ c)) : False := by omega
set_option maxHeartbeats 4000000 in
set_option maxRecDepth 100000 in
theorem implSetRow_yes (n : Int) (u z : Value) (T : List (List RowD)) (p q : Nat) (r : RowD) (w : World) (hu : Rowzz w u T) (hz : Ints w z r.l) (hs : bulkT T ≤ 1099511627776) (hrl : r.l.length ≤ 1048576) (hp : p < T.length) (hq : q ≤ 5) (hk : okSet n T p ((q : Int) + 1) r = true) :
    Calls Try.prog 40 #[.agg #[.int .i64 n, u], .int .i64 p, .int .i64 ((q : Int) + 1), .agg #[.int .i64 r.b, .int .i64 r.v, .int .i64 r.st, .int .i64 r.k, .int .i64 r.i, .int .i64 r.f, .int .i64 r.t, .int .i64 r.a, .int .i64 r.s, z]] w (fun e w' => ∃ u, e = .returned (.tuple #[.agg #[.int .i64 n, u], .bool true]) ∧ AnsW w.heap.size w'.heap.size w' u (setT n T p q r) ∧ Ext w w') := by
  have hka : okAt n T p ((q : Int) + 1) = true := by unfold okSet at hk; rw [Bool.and_eq_true] at hk; exact hk.1
  have hkr : goodRow n r = true := by unfold okSet at hk; rw [Bool.and_eq_true] at hk; exact hk.2
  obtain ⟨hg, hi⟩ := okAt_of hka
  have hN := (goodTab_of hg).1
  have hT5 : T.length ≤ 5 := by have h1 := (goodTab_of hg).2.1; rcases isGrp_of hN with h | h <;> omega
  have hl6 : T[p].length ≤ 6 := ((goodTab_of hg).2.2 _ (List.getElem_mem hp)).1
  have hrn := goodRow_len hN hkr
  obtain ⟨au, cu, rfl, _⟩ := id hu
  obtain ⟨az, cz, rfl, _⟩ := id hz
  obtain ⟨hb1, hb2, hb3, hb4, hb5⟩ := set_boxes w n (.slice au T.length cu) r (.slice az r.l.length cz) 67 73 67
  obtain ⟨wb, hwb⟩ : ∃ wb, wb = ((w.alloc (.cells #[.int .i64 n, .slice au T.length cu] 67)).alloc (.cells #[.int .i64 r.b, .int .i64 r.v, .int .i64 r.st, .int .i64 r.k, .int .i64 r.i, .int .i64 r.f, .int .i64 r.t, .int .i64 r.a, .int .i64 r.s, .slice az r.l.length cz] 73)).alloc (.cells #[.int .i64 0, .slice none 0 0] 67) := ⟨_, rfl⟩
  rw [← hwb] at hb1 hb2 hb3 hb4 hb5
  obtain ⟨c0, c1⟩ := id hb2
  have HX := Lib.hid hb1
  have HT := Lib.hid hb2
  have HRW := Lib.hid hb3
  have HRS := Lib.hid hb4
  have HSZ := Lib.hid hb5
  have HU := Lib.hid (hu.ext hb1)
  have HZ := Lib.hid (hz.ext hb1)
  have HWB := Lib.hid hwb
  have HS := Lib.hid hs
  have HI := Lib.hid hi
  have HGR := Lib.hid hkr
  have HG := Lib.hid hg
  have HN := Lib.hid hN
  have HRN := Lib.hid hrn
  rw [hwb] at c0 c1
  clear hb1 hb2 hb3 hb4 hb5 hu hz hwb hka hkr hk hg hi hs hN hrn
  go_enter Try.func40, Try.ntmps40
  go_wp2_with fail
  rw [← HWB.out]
  refine (implGoodTable_any _ _ T _ HU.out HS.out).mono ?_
  rintro e w1 ⟨rfl, x1⟩
  rw [HG.out]
  clear c0 c1
  obtain ⟨c0, c1⟩ := HT.out.ext x1
  obtain ⟨p0, p1, p2, p3, p4, p5, p6, p7, p8, p9⟩ := HRW.out.ext x1
  go_wp2_with fail
  refine (isInstance_any _ _ _ _ HN.out).mono ?_
  rintro e w2 ⟨rfl, rfl⟩
  rw [HI.out]
  go_wp2_with fail
  refine (isGoodRow_any n r _ _ (HZ.out.ext x1) (by omega) HN.out).mono ?_
  rintro e w2 ⟨rfl, x2⟩
  rw [HGR.out]
  have x12 := x1.trans x2
  clear c0 c1 p0 p1 p2 p3 p4 p5 p6 p7 p8 p9
  obtain ⟨c0, c1⟩ := HT.out.ext x12
  go_wp2_with fail
  refine (copyTable_any n _ T _ (HU.out.ext x12) HG.out).mono ?_
  rintro e w3 ⟨g, vs, US, LS, qq, XS, rfl, hf, hts, x3, hfu⟩
  have x34 := Ext.alloc1 w3 (.cells #[.int .i64 n, .slice (some ⟨g, 0, none⟩) T.length T.length] 67)
  have BX := Lib.hid (attrAt_new w3 67 n (.slice (some ⟨g, 0, none⟩) T.length T.length))
  have hgl := hf.foot.1
  have HF := Lib.hid hf
  have HTS := Lib.hid ((hts 0).ext x34)
  have HFU := Lib.hid hfu
  have X3 := Lib.hid (x3.trans x34)
  have X12 := Lib.hid x12
  have Z3 : Hid (w3.heap.size ≤ (w3.alloc (.cells #[.int .i64 n, .slice (some ⟨g, 0, none⟩) T.length T.length] 67)).heap.size ∧ w3.heap.size < (w3.alloc (.cells #[.int .i64 n, .slice (some ⟨g, 0, none⟩) T.length T.length] 67)).heap.size) := Lib.hid ⟨x34.size, by rw [World.size_alloc]; omega⟩
  have S2 : Hid (w.heap.size + 3 ≤ w2.heap.size) := Lib.hid (by have := HSZ.out; have := x12.size; omega)
  clear hf hts hfu c0 c1
  obtain ⟨p0, p1, p2, p3, p4, p5, p6, p7, p8, p9⟩ := HRW.out.ext (x12.trans (x3.trans x34))
  have HZ2 := Lib.hid (HZ.out.ext x12)
  clear x1 x2 x12 x3 x34
  go_wp2_with fail
  refine (putRow_any (q := q) HN.out HF.out HTS.out HFU.out hp hT5 hl6 hq HZ2.out HRN.out X3.out hgl.1 (fun b hb => Nat.lt_of_lt_of_le hb.2 Z3.out.1)).mono ?_
  rintro e w4 ⟨⟨x, rfl⟩, vs', US', LS', q', XS', k1, k2, k3⟩
  have B4 := Lib.hid (BX.out.1 |> fun h => And.intro (k3.cell h (fun e' => by have := e'.2; dsimp only at this; omega)) (k3.cell BX.out.2 (fun e' => by have := e'.2; dsimp only at this; omega)))
  have X4 := Lib.hid (k3.below (n := w2.heap.size) (fun b hb => hb.1) (X3.out.size) w2 (Nat.le_refl _) X3.out)
  obtain ⟨⟨z0, z1⟩, f0, f1⟩ := HRS.out.ext (X12.out.trans X4.out)
  obtain ⟨t0, t1⟩ := B4.out
  have hoff : ¬ NewP (fun b => w2.heap.size ≤ b ∧ b < w3.heap.size) (w3.alloc (.cells #[.int .i64 n, .slice (some ⟨g, 0, none⟩) T.length T.length] 67)) w4 (w.heap.size + 1 + 1) := fun h => by
    have h1 := S2.out
    have h2 := X3.out.size
    rcases h with h | h
    · have := h.1; omega
    · have := h.1; omega
  have S4 : Hid (w3.heap.size ≤ w4.heap.size) := Lib.hid (Nat.le_trans Z3.out.1 k3.size)
  have K1 := Lib.hid k1
  have K2 := Lib.hid (fun k => ((k2 k).set k1 0 (.int .i64 n) hoff).set k1 1 (.slice (some ⟨g, 0, none⟩) T.length T.length) hoff)
  have XX := Lib.hid (HX.out.trans (X12.out.trans X4.out))
  clear p0 p1 p2 p3 p4 p5 p6 p7 p8 p9 k1 k2 k3 hoff hgl
  go_wp2
  refine bodyPost_ret (v := .tuple #[.agg #[.int .i64 n, .slice (some ⟨g, 0, none⟩) T.length T.length], .bool true]) (by simp [results, Try.results40, go_sem, z0, z1]) rfl ⟨_, rfl, .inr ⟨g, vs', US', LS', q', XS', by rw [setT_len], by rw [setT_len]; unfold maxLen; omega, K1.out.more (fun b hb => ?_), K2.out⟩, (XX.out.setc (by dsimp only; omega)).setc (by dsimp only; omega)⟩
  have h1 := S2.out
  have h2 := X3.out.size
  have h3 := X4.out.size
  simp only [World.size_setCell]
  rcases hb with hb | hb
  · have := S4.out
    omega
  · omega
end Go.Proofs.Ytfffddhfagibpaa

namespace Go.Proofs.Ytfffddhfagibpaa
open Go.RowKit
set_option linter.unusedVariables false

structure SetD where
  n : Int
  T : List (List RowD)
  b : Bool
def setD (n : Int) (T : List (List RowD)) (rep no : Int) (r : RowD) : SetD := match okSet n T rep no r with
  | true => ⟨n, setT n T rep.toNat (no - 1).toNat r, true⟩
  | false => ⟨0, [], false⟩
def SetSpec (d : SetD) (w : World) (e : Ending) (w' : World) : Prop := ∃ u, e = .returned (.tuple #[.agg #[.int .i64 d.n, u], .bool d.b]) ∧ FarT w.heap.size w' u d.T ∧ Ext w w'
def SetImpl (d : SetD) (w : World) (e : Ending) (w' : World) : Prop := ∃ u, e = .returned (.tuple #[.agg #[.int .i64 d.n, u], .bool d.b]) ∧ AnsW w.heap.size w'.heap.size w' u d.T ∧ Ext w w'
theorem okSet_at {n : Int} {T : List (List RowD)} {rep no : Int} {r : RowD} (h : okSet n T rep no r = true) : okAt n T rep no = true := by unfold okSet at h; rw [Bool.and_eq_true] at h; exact h.1
theorem setD_yes {n : Int} {T : List (List RowD)} {p q : Nat} {r : RowD} (h : okSet n T p ((q : Int) + 1) r = true) : setD n T p ((q : Int) + 1) r = ⟨n, setT n T p q r, true⟩ := by
  unfold setD
  rw [h]
  have e : ((q : Int) + 1 - 1).toNat = q := by omega
  rw [e]
  rfl
theorem setD_no {n : Int} {T : List (List RowD)} {rep no : Int} {r : RowD} (h : okSet n T rep no r = false) : setD n T rep no r = ⟨0, [], false⟩ := by
  unfold setD
  rw [h]
theorem specSetRow_any (n : Int) (u z : Value) (T : List (List RowD)) (rep no : Int) (r : RowD) (w : World) (hu : Rowzz w u T) (hz : Ints w z r.l) (hrl : r.l.length ≤ 1048576) :
    Calls Try.prog 37 #[.agg #[.int .i64 n, u], .int .i64 rep, .int .i64 no, .agg #[.int .i64 r.b, .int .i64 r.v, .int .i64 r.st, .int .i64 r.k, .int .i64 r.i, .int .i64 r.f, .int .i64 r.t, .int .i64 r.a, .int .i64 r.s, z]] w (SetSpec (setD n T rep no r) w) := by
  cases hk : okSet n T rep no r with
  | true =>
    obtain ⟨hg, hi⟩ := okAt_of (okSet_at hk)
    obtain ⟨p, q, rfl, rfl, hp, hq⟩ := inst_nat hg hi
    rw [setD_yes hk]
    refine (specSetRow_yes n u z T p q r w hu hz hp hq hrl hk).mono ?_
    rintro e w' ⟨y, rfl, h1, h2⟩
    exact ⟨y, rfl, h1, h2⟩
  | false =>
    rw [setD_no hk]
    refine (specSetRow_no n u z T rep no r w hu hz hk).mono ?_
    rintro e w' ⟨rfl, h2⟩
    exact ⟨_, rfl, FarT.none _ w', h2⟩
theorem implSetRow_any (n : Int) (u z : Value) (T : List (List RowD)) (rep no : Int) (r : RowD) (w : World) (hu : Rowzz w u T) (hz : Ints w z r.l) (hs : bulkT T ≤ 1099511627776) (hrl : r.l.length ≤ 1048576) :
    Calls Try.prog 40 #[.agg #[.int .i64 n, u], .int .i64 rep, .int .i64 no, .agg #[.int .i64 r.b, .int .i64 r.v, .int .i64 r.st, .int .i64 r.k, .int .i64 r.i, .int .i64 r.f, .int .i64 r.t, .int .i64 r.a, .int .i64 r.s, z]] w (SetImpl (setD n T rep no r) w) := by
  cases hk : okSet n T rep no r with
  | true =>
    obtain ⟨hg, hi⟩ := okAt_of (okSet_at hk)
    obtain ⟨p, q, rfl, rfl, hp, hq⟩ := inst_nat hg hi
    rw [setD_yes hk]
    refine (implSetRow_yes n u z T p q r w hu hz hs hrl hp hq hk).mono ?_
    rintro e w' ⟨y, rfl, h1, h2⟩
    exact ⟨y, rfl, h1, h2⟩
  | false =>
    rw [setD_no hk]
    refine (implSetRow_no n u z T rep no r w hu hz hs hrl hk).mono ?_
    rintro e w' ⟨rfl, h2⟩
    exact ⟨_, rfl, .inl ⟨rfl, rfl⟩, h2⟩
end Go.Proofs.Ytfffddhfagibpaa

namespace Go.Proofs.Ytfffddhfagibpaa
open Go.RowKit
set_option linter.unusedVariables false

theorem sum_set_le : ∀ (L : List Nat) (p x : Nat), (L.set p x).sum ≤ L.sum + x
  | [], p, x => by simp
  | a :: L, 0, x => by simp only [List.set_cons_zero, List.sum_cons]; omega
  | a :: L, p + 1, x => by simp only [List.set_cons_succ, List.sum_cons]; have := sum_set_le L p x; omega
theorem bulkT_set (T : List (List RowD)) (p : Nat) (R : List RowD) : bulkT (T.set p R) ≤ bulkT T + bulkR R := by
  unfold bulkT
  rw [List.length_set, List.map_set]
  have := sum_set_le (T.map bulkR) p (bulkR R)
  omega
theorem bulkR_set (L : List RowD) (q : Nat) (r : RowD) : bulkR (L.set q r) ≤ bulkR L + r.l.length := by
  unfold bulkR
  rw [List.length_set, List.map_set]
  have := sum_set_le (L.map fun r => r.l.length) q r.l.length
  omega
theorem bulkR_app (A B : List RowD) : bulkR (A ++ B) = bulkR A + bulkR B := by
  unfold bulkR
  rw [List.length_append, List.map_append, List.sum_append]
  omega
theorem bulkR_rep (k : Nat) (e : RowD) : bulkR (List.replicate k e) = k * (1 + e.l.length) := by
  unfold bulkR
  rw [List.length_replicate, List.map_replicate, Nat.mul_add, Nat.mul_one]
  have : ∀ (k x : Nat), (List.replicate k x).sum = k * x := by
    intro k x
    induction k with
    | zero => simp
    | succ k ih => rw [List.replicate_succ, List.sum_cons, ih, Nat.succ_mul]; omega
  rw [this]
theorem bulkR_at (T : List (List RowD)) (p : Nat) : bulkR ((T[p]?).getD []) ≤ bulkT T := by
  by_cases h : p < T.length
  · rw [List.getElem?_eq_getElem h]
    exact bulkT_row h
  · rw [List.getElem?_eq_none (by omega)]
    exact Nat.zero_le _
theorem noneL_le5 (n : Int) : (noneL n).length ≤ 5 := by
  unfold noneL
  cases h : isGrp n with
  | false => simp
  | true =>
    rcases isGrp_of h with rfl | rfl <;> simp
theorem bulk_setT (n : Int) (T : List (List RowD)) (p q : Nat) (r : RowD) (hq : q ≤ 1000) : bulkT (setT n T p q r) ≤ 2 * bulkT T + r.l.length + 6006 := by
  unfold setT
  have h1 := bulkT_set T p ((((T[p]?).getD []) ++ List.replicate (q + 1 - ((T[p]?).getD []).length) (emptyR n)).set q r)
  have h2 := bulkR_set (((T[p]?).getD []) ++ List.replicate (q + 1 - ((T[p]?).getD []).length) (emptyR n)) q r
  rw [bulkR_app, bulkR_rep] at h2
  have h3 := bulkR_at T p
  have h4 : (emptyR n).l.length ≤ 5 := noneL_le5 n
  have h5 : (q + 1 - ((T[p]?).getD []).length) * (1 + (emptyR n).l.length) ≤ 1001 * 6 := Nat.mul_le_mul (by omega) (by omega)
  omega
theorem bulk_setD (n : Int) (T : List (List RowD)) (rep no : Int) (r : RowD) : bulkT (setD n T rep no r).T ≤ 2 * bulkT T + r.l.length + 6006 := by
  cases h : okSet n T rep no r with
  | false =>
    rw [setD_no h]
    exact Nat.zero_le _
  | true =>
    have h1 := okSet_at h
    obtain ⟨hg, hi⟩ := okAt_of h1
    obtain ⟨p, q, rfl, rfl, _, hq⟩ := inst_nat hg hi
    rw [setD_yes h]
    exact bulk_setT n T p q r (by omega)

end Go.Proofs.Ytfffddhfagibpaa

namespace Go.Proofs.Ytfffddhfagibpaa
open Go.RowKit
set_option linter.unusedVariables false

theorem AnsW.set {lo hi b o : Nat} {w : World} {u : Value} {T : List (List RowD)} (h : AnsW lo hi w u T) (x : Value) (hb : b < lo) : AnsW lo hi (w.setCell ⟨b, o, none⟩ x) u T := by
  rcases h with h | ⟨g, vs, US, LS, q, XS, h1, h2, h3, h4⟩
  · exact .inl h
  · exact .inr ⟨g, vs, US, LS, q, XS, h1, h2, h3, fun k => (h4 k).set h3 o x (fun hp => by omega)⟩
theorem ansT_mark {lo hi : Nat} {n : Int} {u : Value} {T : List (List RowD)} {w : World} (h : AnsW lo hi w u T) (hh : hi ≤ w.heap.size) (h1 : bulkT T ≤ 10995116277) :
    Calls Try.prog 43 #[.agg #[.int .i64 n, u], .int .i64 1] w (fun e w' => e = .returned (.int .i64 (1 + (weighs T).sum)) ∧ AnsM w' u T ∧ Ins lo hi w w') := by
  rcases h with ⟨rfl, rfl⟩ | ⟨g, vs, US, LS, q, XS, rfl, h2, h3, h4⟩
  · refine (markTable_any 0 0 n _ [] 1 w (FreshT.nil 0 w) (Nat.zero_le _) (by omega) (by omega) h1).mono ?_
    rintro e w' ⟨rfl, i⟩
    exact ⟨rfl, .inl ⟨rfl, rfl⟩, ⟨i.os, i.tape, i.output, i.size, fun b hb _ => i.block b hb (.inr (Nat.zero_le _))⟩⟩
  · refine (markTableW_any _ g T.length n vs US LS q XS T 1 w h3 (h4 1) (by omega) (by omega) h1).mono ?_
    rintro e w' ⟨rfl, ⟨LT, XT, t⟩, c⟩
    exact ⟨rfl, .inr ⟨g, q, rfl, heldT_of h3 t⟩, ⟨c.os, c.tape, c.output, c.size, fun b hb hc => c.block b hb (fun hp => by omega)⟩⟩
set_option maxRecDepth 100000 in
theorem heldRowSS_none (k : Int) (w : World) : Calls Try.prog 79 #[.slice none 0 0, .int .i64 k] w (fun e w' => e = .returned (.int .i64 k) ∧ w' = w) := by
  go_enter Try.func79, Try.ntmps79
  go_wp2
  refine wp_loop_rounds 1 ?_; rw [rounds_succ]
  go_wp2
  go_ret
  exact ⟨rfl, rfl⟩
set_option maxRecDepth 100000 in
theorem heldTab_none (n : Int) (w : World) : Calls Try.prog 45 #[.agg #[.int .i64 n, .slice none 0 0], .int .i64 1] w (IntExt 1 w) := by
  have HX := Lib.hid (Ext.alloc1 w (.cells #[.int .i64 n, .slice none 0 0] 67))
  go_enter Try.func45, Try.ntmps45
  go_wp2_with fail
  refine (heldRowSS_none _ _).mono ?_
  rintro e w1 ⟨rfl, rfl⟩
  go_wp2
  go_ret
  exact ⟨rfl, HX.out⟩
theorem ansT_held {n : Int} {u : Value} {T : List (List RowD)} {w : World} (h : AnsM w u T) (h1 : bulkT T ≤ 10995116277) :
    Calls Try.prog 45 #[.agg #[.int .i64 n, u], .int .i64 1] w (IntExt (1 + (weighs T).sum) w) := by
  rcases h with ⟨rfl, rfl⟩ | ⟨g, q, rfl, h2⟩
  · exact heldTab_none n w
  · exact heldTableW_yes g T.length n q T 1 w h2 (by omega) (by omega) h1
end Go.Proofs.Ytfffddhfagibpaa

namespace Go.Proofs.Ytfffddhfagibpaa
open Go.RowKit
set_option linter.unusedVariables false

theorem end_alloc {W K : World} {N : Int} {u : Value} {D : List (List RowD)} {T : TypeId} (h1 : Ext W K) (h2 : Rowzz K u D) :
    AttrAt (K.alloc (.cells #[.int .i64 N, u] T)) K.heap.size N u ∧ Rowzz (K.alloc (.cells #[.int .i64 N, u] T)) u D ∧ Ext W (K.alloc (.cells #[.int .i64 N, u] T)) ∧ W.heap.size ≤ K.heap.size :=
  ⟨attrAt_new _ _ _ _, h2.ext (Ext.alloc (Ext.refl _) _), h1.alloc _, h1.size⟩
theorem open_back {w : World} {b : Nat} {s : Int} {u : Value} (h : OpenAt w b s u) (t : Int) (v : Value) : AttrAt ((w.setCell ⟨b, 0, none⟩ (.int .i64 t)).setCell ⟨b, 1, none⟩ v) b t v := by
  obtain ⟨⟨h0, h1⟩, _, _⟩ := h
  refine ⟨?_, ?_⟩ <;> go_simp
theorem end_set {W K : World} {g n0 : Nat} {N s0 : Int} {u u0 : Value} {D : List (List RowD)} (hp : OpenAt K g s0 u0) (h1 : Ext W K) (h2 : FarT n0 K u D) (h3 : W.heap.size ≤ g) (h4 : g < n0) :
    AttrAt ((K.setCell ⟨g, 0, none⟩ (.int .i64 N)).setCell ⟨g, 1, none⟩ u) g N u ∧ Rowzz ((K.setCell ⟨g, 0, none⟩ (.int .i64 N)).setCell ⟨g, 1, none⟩ u) u D ∧ Ext W ((K.setCell ⟨g, 0, none⟩ (.int .i64 N)).setCell ⟨g, 1, none⟩ u) ∧ W.heap.size ≤ g :=
  ⟨open_back hp _ _, h2.2 _ _ _ _ _ _ h4 h4, (h1.setc h3).setc h3, h3⟩
theorem end_setW {W K : World} {g lo hi : Nat} {N s0 : Int} {u u0 : Value} {D : List (List RowD)} (hp : OpenAt K g s0 u0) (h1 : Ext W K) (h2 : AnsW lo hi K u D) (h3 : W.heap.size ≤ g) (h4 : g < lo) :
    AttrAt ((K.setCell ⟨g, 0, none⟩ (.int .i64 N)).setCell ⟨g, 1, none⟩ u) g N u ∧ Rowzz ((K.setCell ⟨g, 0, none⟩ (.int .i64 N)).setCell ⟨g, 1, none⟩ u) u D ∧ Ext W ((K.setCell ⟨g, 0, none⟩ (.int .i64 N)).setCell ⟨g, 1, none⟩ u) ∧ W.heap.size ≤ g :=
  ⟨open_back hp _ _, ((h2.set _ h4).set _ h4).reads, (h1.setc h3).setc h3, h3⟩

end Go.Proofs.Ytfffddhfagibpaa

namespace Go.Proofs.Ytfffddhfagibpaa
open Go.RowKit
set_option linter.unusedVariables false

set_option maxHeartbeats 1000000 in
theorem markRow_any (B : Nat) (r : RowD) (u : Value) (k : Int) (w : World) (hv : Fresh B w u r.l) (h0 : 0 ≤ k) (h1 : k + r.l.length ≤ 4611686018427387904) :
    Calls Try.prog 44 #[.agg #[.int .i64 r.b, .int .i64 r.v, .int .i64 r.st, .int .i64 r.k, .int .i64 r.i, .int .i64 r.f, .int .i64 r.t, .int .i64 r.a, .int .i64 r.s, u], .int .i64 k] w (MarkedA B k u r.l w) := by
  have H1 := Lib.hid h1
  clear h1
  go_enter Try.func44, Try.ntmps44
  go_wp2_with fail
  refine (markAttr_any B _ _ r.l _ _ (hv.ext (Ext.alloc (Ext.refl _) _)) h0 H1.out).mono ?_
  rintro e w1 ⟨rfl, f1, t1⟩
  have T := Lib.hid t1
  have F := Lib.hid f1
  clear t1 f1 hv
  go_wp2
  go_ret
  exact ⟨rfl, F.out, (World.grownBy_alloc _ _ _).trans T.out⟩

theorem RowAt.ins {lo hi b : Nat} {w w' : World} {r : RowD} {u : Value} (h : RowAt w b r u) (k : Ins lo hi w w') (hb : b < lo ∨ hi ≤ b) : RowAt w' b r u := by
  obtain ⟨h0, h1, h2, h3, h4, h5, h6, h7, h8, h9⟩ := h
  exact ⟨k.cell h0 hb, k.cell h1 hb, k.cell h2 hb, k.cell h3 hb, k.cell h4 hb, k.cell h5 hb, k.cell h6 hb, k.cell h7 hb, k.cell h8 hb, k.cell h9 hb⟩
theorem AttrAt.ins {lo hi b : Nat} {w w' : World} {s : Int} {u : Value} (h : AttrAt w b s u) (k : Ins lo hi w w') (hb : b < lo ∨ hi ≤ b) : AttrAt w' b s u := ⟨k.cell h.1 hb, k.cell h.2 hb⟩
theorem Rowzz.ins {lo hi : Nat} {w0 w w' : World} {v : Value} {T : List (List RowD)} (h0 : Rowzz w0 v T) (x : Ext w0 w) (k : Ins lo hi w w') (hb : w0.heap.size ≤ lo) : Rowzz w' v T := h0.ext (k.ext x hb)

end Go.Proofs.Ytfffddhfagibpaa
