/- Texts of this proof, part g: words, plain facts, contracts. -/
import Derived.Test.YtfffddhfagibpaaMSetRowf
import Derived.Test.YtfffddhfagibpaaShelf
import Derived.Test.YtfffddhfagibpaaMSetRowe
import Derived.Test.YtfffddhfagibpaaMSetRowd
import Derived.Test.YtfffddhfagibpaaMSetRowa
import Derived.Test.YtfffddhfagibpaaMSetRowb

namespace Go.Proofs.Ytfffddhfagibpaa
open Go.RowKit Go.Shelf
set_option linter.unusedVariables false

/-- A slice of n rows in a block that was made from block number B on. -/
def OwnR (B : Nat) (w : World) (v : Value) (n : Nat) : Prop := ∃ xs, w.ownsRow B 73 10 v n xs
theorem OwnR.ext {B n : Nat} {w w' : World} {v : Value} (h : OwnR B w v n) (e : Ext w w') : OwnR B w' v n := by
  obtain ⟨xs, h⟩ := h
  exact ⟨xs, e.ownsRow h⟩
theorem OwnR.more {B B' n : Nat} {w : World} {v : Value} (h : OwnR B w v n) (hb : B' ≤ B) : OwnR B' w v n := by
  obtain ⟨xs, h⟩ := h
  exact ⟨xs, ownsRow_more h hb⟩
theorem OwnR.nil (B : Nat) (w : World) : OwnR B w (.slice none 0 0) 0 := ⟨[], rfl, .inl ⟨rfl, rfl⟩⟩
def NewOwnR (n : Nat) (w : World) (e : Ending) (w' : World) : Prop := ∃ v, e = .returned v ∧ OwnR w.heap.size w' v n ∧ Ext w w'
def zeroRow : Value := .agg #[.int .i64 0, .int .i64 0, .int .i64 0, .int .i64 0, .int .i64 0, .int .i64 0, .int .i64 0, .int .i64 0, .int .i64 0, .slice none 0 0]
theorem zeroCellsR_size (n : Nat) : (Builtin.zeroCells zeroRow.cells n).size = n * 10 := by
  have h : zeroRow.cells.size = 10 := rfl
  unfold Builtin.zeroCells
  simp [h]
theorem growR_none (n : Nat) (w : World) (hn : n ≤ 1048576) :
    Calls Try.prog 117 #[.slice none 0 0, .int .i64 n] w (NewOwnR 0 w) := by
  by_cases h0 : n = 0
  · subst h0
    refine (Any8.slices_Grow_room Try.growR none 0 0 0 w (by omega) (by omega) (by omega) (by omega)).mono ?_
    rintro e w' ⟨rfl, rfl⟩
    exact ⟨_, rfl, OwnR.nil _ _, Ext.refl _⟩
  · obtain ⟨i0, hi, hz0, hz1, hz2⟩ := info_parts Try.infoRowP
    have h := Any8.slices_Grow_grow Try.growR i0 zeroRow hi hz0 (by omega) none 0 0 n [] w (by omega) (by omega) (by rw [hz2]; omega) (by omega) (by simp) (fun _ => rfl) (fun a ha => by cases ha)
    refine h.mono ?_
    rintro e w' ⟨rfl, rfl⟩
    have hge := grownCap_ge w (0 + n) 0 73
    have hle := grownCap_le_maxLen w (0 + n) 0 73 (by unfold maxLen; omega)
    refine ⟨_, rfl, ⟨[], ?_⟩, (Ext.refl w).drew.alloc _⟩
    refine ⟨by simp, .inr ⟨w.heap.size, grownCap w (0 + n) 0 73, _, rfl, Nat.le_refl _, heap_alloc_new w.drew _, by simp, hle, ?_, by simp⟩⟩
    rw [Array.size_append, Array.size_append, zeroCellsR_size, zeroCellsR_size]
    have : (0 + n) - 0 = n := by omega
    simp
    have h2 := grownCap_ge w n 0 (Try.growR_ren.t 25)
    have h3 : grownCap w n 0 (Try.growR_ren.t 25) = grownCap w n 0 73 := rfl
    omega
theorem rowz_cell {w : World} {b off : Nat} {R : List RowD} (h : ∀ j (h : j < R.length), ∃ u, RowIn w b (off + j * 10) R[j] u ∧ Ints w u R[j].l) (t : Nat) (ht : t < R.length * 10) : ∃ z, w.cell? ⟨b, off + t, none⟩ = some z ∧ z.oneCell' = true := by
  obtain ⟨u, ⟨h0, h1, h2, h3, h4, h5, h6, h7, h8, h9⟩, hi⟩ := h (t / 10) (by omega)
  obtain ⟨au, cu, rfl, _⟩ := hi
  have hm : t % 10 < 10 := Nat.mod_lt _ (by omega)
  have et : t = t / 10 * 10 + t % 10 := by omega
  obtain ⟨m, hmm⟩ : ∃ m, m = t % 10 := ⟨_, rfl⟩
  obtain ⟨d, hd⟩ : ∃ d, d = t / 10 * 10 := ⟨_, rfl⟩
  rw [← hmm] at hm et
  rw [← hd] at et h0 h1 h2 h3 h4 h5 h6 h7 h8 h9
  rw [et, ← Nat.add_assoc]
  match m, hm with
  | 0, _ => exact ⟨_, h0, rfl⟩
  | 1, _ => exact ⟨_, h1, rfl⟩
  | 2, _ => exact ⟨_, h2, rfl⟩
  | 3, _ => exact ⟨_, h3, rfl⟩
  | 4, _ => exact ⟨_, h4, rfl⟩
  | 5, _ => exact ⟨_, h5, rfl⟩
  | 6, _ => exact ⟨_, h6, rfl⟩
  | 7, _ => exact ⟨_, h7, rfl⟩
  | 8, _ => exact ⟨_, h8, rfl⟩
  | 9, _ => exact ⟨_, h9, rfl⟩
theorem wpList_joinR {ops : Array Oper} {rest : List Oper} {o : Oper} {a : Act} {Q : Exit → Act → World → Prop} {w : World} (hgd : o.guard = none) (s x : Operand)
    (ho : o.op = .call { callee := .builtin .append, args := #[s, x], argTypes := #[127, 127] })
    (B : Nat) (v u : Value) (n : Nat) (R : List RowD) (hs : a.eval s = v) (hf : OwnR B w v n) (hx : a.eval x = u) (hu : Rowz w u R) (hl : n + R.length ≤ 1048576) (hB : B ≤ w.heap.size)
    (h : ∀ v' w', OwnR B w' v' (n + R.length) → w.grownBy w' v.ownBlock → Kept B w w' → wpList Try.prog ops Q rest (a.put o.dst v') w') : wpList Try.prog ops Q (o :: rest) a w := by
  obtain ⟨i0, hi, hz0, hz1, hz2⟩ := info_parts Try.infoRowP
  obtain ⟨xs, hf⟩ := hf
  obtain ⟨au, cu, rfl, hlu, hcap, hcu⟩ := hu
  cases au with
  | none =>
    have hr : R.length = 0 := by have := hcap.1; have := hcap.2.2 rfl; omega
    have hc0 : cu = 0 := hcap.2.2 rfl
    subst hc0
    rw [hr] at hx h
    exact wpList_append_own_none hgd s x 127 ho B 73 i0 10 Try.underlying127 hi v n _ hs hf hx (h v w ⟨xs, hf⟩ ⟨rfl, rfl, rfl, Nat.le_refl _, fun _ _ _ => rfl⟩ (fun w0 hx0 _ => hx0))
  | some ad =>
    have hcell : ∀ t, t < R.length * 10 → ∃ z, w.cell? (ad.add t) = some z ∧ z.oneCell' = true := fun t ht => by
      obtain ⟨b, off, e, dv⟩ := hcu (by omega)
      cases e
      have ea : (⟨b, off, none⟩ : Addr).add t = ⟨b, off + t, none⟩ := by by_cases h0 : t = 0 <;> simp [Addr.add, h0]
      rw [ea]
      exact rowz_cell dv t ht
    refine wpList_append_own _ hgd s x 127 ho B 73 i0 zeroRow 10 96 Try.underlying127 hi hz0 hz1 hz2 rfl (by decide) v n _ hs hf ad R.length cu ((List.range (R.length * 10)).map fun t => (w.cell? (ad.add t)).getD (.int .i64 0)) hx (by simp) ?_ ?_ ?_ ?_ hB ?_
    · intro t z hz
      have ht : t < R.length * 10 := by have := (List.getElem?_eq_some_iff.1 hz).1; simpa using this
      obtain ⟨y, hy, _⟩ := hcell t ht
      simp [ht, hy] at hz
      rw [← hz]; exact hy
    · intro z hz
      obtain ⟨t, ht, rfl⟩ := List.mem_map.1 hz
      obtain ⟨y, hy, h1⟩ := hcell t (List.mem_range.1 ht)
      rw [hy]; exact h1
    · unfold maxLen; omega
    · omega
    · intro v' w' ho' hg _
      exact h v' w' ⟨_, ho'⟩ hg (fun w0 hx0 hB0 => Below.grown hx0 hg hx0.size (fun q hq => Nat.le_trans hB0 (World.ownsRow.lt hf q hq).1))
def lensC (T : List (List RowD)) : List Nat := T.map List.length
theorem lensC_len (T : List (List RowD)) : (lensC T).length = T.length := by simp [lensC]
theorem lensC_succ {T : List (List RowD)} {i : Nat} (hi : i < T.length) : sumN (lensC T) (i + 1) = sumN (lensC T) i + T[i].length := by
  have h1 := sumN_succ (g := lensC T) (k := i) (by rw [lensC_len]; exact hi)
  have h2 : (lensC T)[i]'(by rw [lensC_len]; exact hi) = T[i].length := by simp [lensC]
  omega

set_option maxHeartbeats 4000000 in
theorem concatR_any (v : Value) (L : List (List RowD)) (w : World) (hv : Rowzz w v L) (hb : (lensC L).sum ≤ 1048576) :
    Calls Try.prog 100 #[v] w (NewOwnR (lensC L).sum w) := by
  have HV := Lib.hid hv
  obtain ⟨av, cv, rfl, hlv, _, dv⟩ := hv
  unfold maxLen at hlv
  have DV := Lib.hid dv
  have HB := Lib.hid hb
  clear dv hb
  go_enter Try.func100, Try.ntmps100
  go_wp2
  go_loopw [3, 5, 11] (fun s _ i wr => ∃ t : Nat, t ≤ L.length ∧ i = .int .i64 t ∧ s = .int .i64 (sumN (lensC L) t) ∧ Ext w wr) (fun _ _ i _ => L.length - (intOf i).toNat)
  case atStart => exact ⟨0, Nat.zero_le _, rfl, by rw [sumN_zero]; rfl, Ext.refl _⟩
  case round =>
    obtain ⟨t, ht, rfl, rfl, hx⟩ := hrel
    obtain ⟨w1, hw1⟩ : ∃ x : World, x = wr := ⟨_, rfl⟩
    subst hw1
    by_cases hlt : t < L.length
    · obtain ⟨bv, ov, rfl, ev⟩ := DV.out (by omega)
      obtain ⟨z, hz, iz⟩ := ev t hlt
      have z1 := hx.cell hz
      have hss := lensC_succ hlt
      have hm := sumN_mono (g := lensC L) (k := t + 1) (by rw [lensC_len]; omega)
      have hbb := HB.out
      obtain ⟨az, cz, rfl, hlz, _, _⟩ := iz
      unfold maxLen at hlz
      obtain ⟨m, hmm⟩ : ∃ m, m = (L[t]).length := ⟨_, rfl⟩
      rw [← hmm] at z1 hss hlz
      obtain ⟨s, hs⟩ : ∃ s, s = sumN (lensC L) t := ⟨_, rfl⟩
      rw [← hs] at hss ⊢
      have hsm : s + m ≤ 1048576 := by omega
      have HSS := Lib.hid hss
      have j0 : ¬ ((s : Int) + (m : Int) < 0) := by omega
      clear ev hz hss hm hbb hmm hs
      go_wp2
      go_roundw
      case rel => exact ⟨t + 1, by omega, by go_num, by rw [HSS.out]; go_num, hx⟩
      case measure => simp [intOf]; omega
    · obtain rfl : t = L.length := by omega
      have hsn : sumN (lensC L) L.length ≤ 1048576 := by rw [← lensC_len L, sumN_all]; exact HB.out
      obtain ⟨s, hs⟩ : ∃ s, s = sumN (lensC L) L.length := ⟨_, rfl⟩
      rw [← hs] at hsn ⊢
      have HX := Lib.hid hx
      clear hs hx
      go_wp2_with fail
      refine (growR_none s _ hsn).mono ?_
      rintro e w2 ⟨v2, rfl, f2, x2⟩
      have F2 := Lib.hid f2
      have X2 := Lib.hid (HX.out.trans x2)
      have S2 := Lib.hid x2.size
      clear f2 x2
      go_wp2
      go_loopw [6, 8, 27] (fun vo _ i wr => ∃ t : Nat, t ≤ L.length ∧ i = .int .i64 t ∧ OwnR w.heap.size wr vo (sumN (lensC L) t) ∧ Ext w wr) (fun _ _ i _ => L.length - (intOf i).toNat)
      case atStart => exact ⟨0, Nat.zero_le _, rfl, by rw [sumN_zero]; exact F2.out.more HX.out.size, X2.out⟩
      case round =>
        obtain ⟨t, ht, rfl, hf, hx⟩ := hrel
        by_cases hlt2 : t < L.length
        · obtain ⟨bv, ov, rfl, ev⟩ := DV.out (by omega)
          obtain ⟨z, hz, iz⟩ := ev t hlt2
          have z1 := hx.cell hz
          have hst := lensC_succ hlt2
          have hbd : sumN (lensC L) t + (L[t]).length ≤ 1048576 := by
            have h3 := sumN_mono (g := lensC L) (k := t + 1) (by rw [lensC_len]; omega)
            have := HB.out
            omega
          obtain ⟨G, hG⟩ : ∃ G, G = L[t] := ⟨_, rfl⟩
          rw [← hG] at iz hst hbd
          have IZ := Lib.hid (iz.ext hx)
          have HST := Lib.hid hst
          have HBD := Lib.hid hbd
          have HF := Lib.hid hf
          have HXX := Lib.hid hx
          clear ev hz iz hst hbd hG hf hx
          go_wp2_with (at_builtin; refine wpList_joinR rfl _ _ rfl w.heap.size _ _ (sumN (lensC L) t) G rfl HF.out rfl IZ.out HBD.out HXX.out.size ?_)
          intro v4 w4 f4 g4 k4
          have e4 : Ext w w4 := k4 w HXX.out (Nat.le_refl _)
          rw [← HST.out] at f4
          have F4 := Lib.hid f4
          have E4 := Lib.hid e4
          clear f4 g4 k4 e4
          go_wp2
          go_roundw
          case rel => exact ⟨t + 1, by omega, by go_num, F4.out, E4.out⟩
          case measure => simp [intOf]; omega
        · obtain rfl : t = L.length := by omega
          have e0 : sumN (lensC L) L.length = (lensC L).sum := by rw [← lensC_len L, sumN_all]
          rw [e0] at hf
          have HF := Lib.hid hf
          clear hf
          go_wp2
          go_ret
          exact ⟨_, rfl, HF.out, hx⟩

end Go.Proofs.Ytfffddhfagibpaa

namespace Go.Proofs.Ytfffddhfagibpaa
open Go.RowKit
set_option linter.unusedVariables false

/-- Where list i lies. -/
def ValAt (B : Nat) (T : List (List RowD)) (vs : List Value) (i : Nat) : Prop := ∀ (h : i < T.length), (T[i] = [] ∧ ∃ a, vs[i]? = some (.slice a 0 0)) ∨ (T[i] ≠ [] ∧ vs[i]? = some (.slice (some ⟨B, mAt T i * 10, none⟩) T[i].length T[i].length))
/-- The first K lists have their places, the first J rows of all are written. -/
structure CopS (lo : Nat) (wr : World) (g B : Nat) (T : List (List RowD)) (vs US : List Value) (LS : List (List Int)) (xs : List Value) (K J : Nat) : Prop where
  out : wr.ownsRow 0 127 1 (.slice (some ⟨g, 0, none⟩) T.length T.length) T.length vs
  vl : vs.length = T.length
  big : 0 < mAt T T.length → BoxV wr B xs ∧ mAt T T.length * 10 ≤ xs.length ∧ B < lo ∧ B ≠ g
  glo : g < lo
  row : Rows_ lo wr US LS
  ul : US.length = J
  ll : ∀ i (h : i < T.length) i' (h' : i' < T[i].length), mAt T i + i' < J → LS[mAt T i + i']? = some T[i][i'].l ∧ ∃ u, US[mAt T i + i']? = some u ∧ XRow xs ((mAt T i + i') * 10) T[i][i'] u
  val : ∀ i, i < K → ValAt B T vs i
theorem CopS.on {lo g B K J : Nat} {wr w' : World} {T : List (List RowD)} {vs US : List Value} {LS : List (List Int)} {xs : List Value} (h : CopS lo wr g B T vs US LS xs K J) (e : Ext wr w') : CopS lo w' g B T vs US LS xs K J :=
  ⟨e.ownsRow h.out, h.vl, fun hp => ⟨(h.big hp).1.ext e, (h.big hp).2⟩, h.glo, h.row.ext e, h.ul, h.ll, h.val⟩
theorem mAt_le {T : List (List RowD)} {i : Nat} (h : i ≤ T.length) : mAt T i ≤ mAt T T.length := sumN_le h
theorem mAt_succ {T : List (List RowD)} {i : Nat} (hi : i < T.length) : mAt T (i + 1) = mAt T i + T[i].length := by
  have h1 := sumN_succ (g := lensT T) (k := i) (by rw [lensT_len]; exact hi)
  have h2 : (lensT T)[i]'(by rw [lensT_len]; exact hi) = T[i].length := by simp [lensT]
  unfold mAt
  omega
theorem mAt_all (T : List (List RowD)) : mAt T T.length = (lensC T).sum := by
  unfold mAt lensT lensC sumN
  rw [List.take_of_length_le (by simp)]
theorem grown_stood {lo g : Nat} {w w' : World} (t : w.grownBy w' (some g)) (hg : g < lo) : ∀ u : Value, ∀ e sz n xs, w.ownsRow lo e sz u n xs → w'.ownsRow lo e sz u n xs := fun u e sz n xs h => World.ownsRow.kept h t (by
  cases hu : u.ownBlock with
  | none => exact .inl rfl
  | some b => exact .inr (fun e => by have := (World.ownsRow.lt h b hu).1; have := Option.some.inj e; omega))
theorem Rows_.store {lo g : Nat} {w w' : World} {US : List Value} {LS : List (List Int)} (h : Rows_ lo w US LS) (t : w.grownBy w' (some g)) (hg : g < lo) : Rows_ lo w' US LS :=
  h.touch t (h.low hg)
/-- List K gets its place. -/
theorem CopS.place {lo g B K J : Nat} {wr : World} {T : List (List RowD)} {vs US : List Value} {LS : List (List Int)} {xs : List Value} (h : CopS lo wr g B T vs US LS xs K J) (hK : K < T.length) (v : Value)
    (hv : ValAt B T (vs.set K v) K) : CopS lo (wr.setCell ⟨g, K, none⟩ v) g B T (vs.set K v) US LS xs (K + 1) J := by
  have hst := h.out.stored K v
  refine ⟨hst.1, by rw [List.length_set]; exact h.vl, fun hp => ?_, h.glo, h.row.store hst.2 h.glo, h.ul, h.ll, fun i hi => ?_⟩
  · obtain ⟨b1, b2, b3, b4⟩ := h.big hp
    exact ⟨b1.other _ _ (fun e => b4 e.symm), b2, b3, b4⟩
  · by_cases e : i = K
    · rw [e]; exact hv
    · intro hT
      rw [List.getElem?_set_ne (fun h => e h.symm)]
      exact h.val i (by omega) hT
/-- One more row is written. -/
theorem CopS.write {lo g B K J k j : Nat} {wr w8 : World} {T : List (List RowD)} {vs US : List Value} {LS : List (List Int)} {xs : List Value} {z : Value} (h : CopS lo wr g B T vs US LS xs K J) (e : Ext wr w8) (hl : lo ≤ wr.heap.size) (hk : k < T.length) (hj : j < T[k].length) (hJ : J = mAt T k + j)
    (f : Fresh wr.heap.size w8 z T[k][j].l) : CopS lo (w8.setCells B (J * 10) (rowL T[k][j] z)) g B T vs (US ++ [z]) (LS ++ [T[k][j].l]) (putL xs (J * 10) (rowL T[k][j] z)) K (J + 1) := by
  have hm : mAt T k + T[k].length ≤ mAt T T.length := by rw [← mAt_succ hk]; exact mAt_le (by omega)
  have hp : 0 < mAt T T.length := by omega
  obtain ⟨b1, b2, b3, b4⟩ := h.big hp
  have hg := setCells_grown (g := B) (rowL T[k][j] z) (J * 10) w8
  have hbig : BoxV (w8.setCells B (J * 10) (rowL T[k][j] z)) B (putL xs (J * 10) (rowL T[k][j] z)) := boxV_puts (rowL T[k][j] z) (J * 10) _ _ (b1.ext e) (by
    have : (rowL T[k][j] z).length = 10 := rfl
    omega)
  have hLl : LS.length = J := by rw [← h.row.len]; exact h.ul
  refine ⟨World.ownsRow.kept (e.ownsRow h.out) hg (.inr (fun e' => b4 (Option.some.inj e').symm)), h.vl, fun _ => ⟨hbig, by rw [putL_len]; exact b2, b3, b4⟩, h.glo, (h.row.snoc e f hl).store hg b3, by rw [List.length_append, h.ul]; rfl, fun i hi i' hi' hlt => ?_, h.val⟩
  by_cases e' : mAt T i + i' = J
  · have hik : i = k ∧ i' = j := by
      rcases Nat.lt_trichotomy i k with c | c | c
      · have := mAt_lt (T := T) (j := k) hi c; omega
      · subst c; exact ⟨rfl, by omega⟩
      · have := mAt_lt (T := T) (j := i) hk c; omega
    obtain ⟨rfl, rfl⟩ := hik
    rw [e']
    refine ⟨by rw [List.getElem?_append_right (by omega), hLl, Nat.sub_self]; rfl, z, by rw [List.getElem?_append_right (by rw [h.ul]; omega), h.ul, Nat.sub_self]; rfl, ?_⟩
    exact XRow.put (by omega)
  · obtain ⟨h1, u, h2, h3⟩ := h.ll i hi i' hi' (by omega)
    have hlt1 : mAt T i + i' < LS.length := by omega
    refine ⟨by rw [List.getElem?_append_left hlt1]; exact h1, u, by rw [List.getElem?_append_left (by rw [h.ul]; omega)]; exact h2, ?_⟩
    exact h3.put_other (by omega)
theorem mAt_zero (T : List (List RowD)) : mAt T 0 = 0 := by unfold mAt; exact sumN_zero _
theorem mAt_pos {T : List (List RowD)} {i : Nat} (hi : i < T.length) (hne : T[i] ≠ []) : 0 < mAt T T.length := by
  have h1 := mAt_succ hi
  have h2 := mAt_le (T := T) (show i + 1 ≤ T.length by omega)
  have h3 : 0 < T[i].length := List.length_pos_iff.2 hne
  omega
def winT (B : Nat) (T : List (List RowD)) : WinT := ⟨fun _ => B, fun i => mAt T i * 10, fun i => (T[i]?.getD []).length⟩
/-- All rows are written. -/
theorem CopS.done {lo n0 g B : Nat} {wr : World} {T : List (List RowD)} {vs US : List Value} {LS : List (List Int)} {xs : List Value} (h : CopS lo wr g B T vs US LS xs T.length (mAt T T.length)) (hs : ∀ R ∈ T, R.length ≤ 6) (hg : n0 ≤ g) (hB : 0 < mAt T T.length → n0 ≤ B) (hlo : n0 ≤ lo) :
    TabF (fun b => n0 ≤ b ∧ b < wr.heap.size) g vs US (winT B T) T ∧ ∀ k, TabS wr g vs US LS (winT B T) (fun _ => xs) k 0 T := by
  have hgw : g < wr.heap.size := (World.ownsRow.lt h.out g rfl).2
  have hfr : ∀ (i : Nat) (u : Value) (b : Nat), US[i]? = some u → u.ownBlock = some b → lo ≤ b ∧ b < wr.heap.size := fun i u b hu hb => by
    have hi : i < US.length := (List.getElem?_eq_some_iff.1 hu).1
    have hf := h.row.row i u _ hu (List.getElem?_eq_getElem (by rw [← h.row.len]; exact hi))
    exact World.ownsRow.lt hf b hb
  have hout : BoxV wr g vs := ⟨fun j v hj => (h.out.cellAt j (by have := (List.getElem?_eq_some_iff.1 hj).1; have := h.vl; omega)).trans hj, fun j _ => h.out.frozenAt j, hgw⟩
  refine ⟨⟨fun i hi => ?_, fun i j hi hj h1 h2 hij => .inr ?_, fun i u hu => ⟨fun j hj hne => ?_, ?_⟩, fun i hi hne => ?_, ⟨⟨hg, hgw⟩, fun i hi hne => ?_, fun i u b hu hb => ?_⟩⟩, fun k => ⟨hout, h.row.more (Nat.zero_le _), fun j hj hne => ?_, fun j hj hj0 => by omega, fun j hj _ j' hj' => ?_⟩⟩
  · rcases h.val i hi hi with ⟨e, a, ha⟩ | ⟨e, ha⟩
    · exact .inl ⟨e, a, 0, ha, Nat.zero_le _, fun _ => rfl⟩
    · have h6 := hs _ (List.getElem_mem hi)
      have ec : (winT B T).c i = T[i].length := by unfold winT; simp [List.getElem?_eq_getElem hi]
      refine .inr ⟨e, ?_, by rw [ec]; exact Nat.le_refl _, by rw [ec]; unfold maxLen; omega⟩
      rw [ec]
      exact ha
  · show mAt T i * 10 + T[i].length * 10 ≤ mAt T j * 10 ∨ mAt T j * 10 + T[j].length * 10 ≤ mAt T i * 10
    rcases Nat.lt_or_gt_of_ne hij with e | e
    · have := mAt_lt (T := T) (j := j) hi e; omega
    · have := mAt_lt (T := T) (j := i) hj e; omega
  · have hb := h.big (mAt_pos hj hne)
    cases hu' : u.ownBlock with
    | none => exact .inl rfl
    | some b => exact .inr (fun e => by have := (hfr i u b hu hu').1; have e2 : b = B := Option.some.inj e; omega)
  · have := h.glo
    cases hu' : u.ownBlock with
    | none => exact .inl rfl
    | some b => exact .inr (fun e => by have := (hfr i u b hu hu').1; have e2 : b = g := Option.some.inj e; omega)
  · exact (h.big (mAt_pos hi hne)).2.2.2
  · exact ⟨hB (mAt_pos hi hne), (h.big (mAt_pos hi hne)).1.lt⟩
  · have := hfr i u b hu hb; omega
  · obtain ⟨b1, b2, _⟩ := h.big (mAt_pos hj hne)
    refine ⟨b1, ?_⟩
    have h1 := mAt_succ hj
    have h2 := mAt_le (T := T) (show j + 1 ≤ T.length by omega)
    show mAt T j * 10 + T[j].length * 10 ≤ xs.length
    omega
  · have h1 := mAt_succ hj
    have h2 := mAt_le (T := T) (show j + 1 ≤ T.length by omega)
    obtain ⟨e1, u, e2, e3⟩ := h.ll j hj j' hj' (by omega)
    refine ⟨u, e2, e1, ?_⟩
    have e : (mAt T j + j') * 10 = mAt T j * 10 + j' * 10 := by omega
    rw [e] at e3
    exact e3
theorem boxV_ten {w : World} {b o : Nat} {xs : List Value} (h : BoxV w b xs) (ho : o + 10 ≤ xs.length) : ∃ v0 v1 v2 v3 v4 v5 v6 v7 v8 v9 : Value, w.cell? ⟨b, o, none⟩ = some v0 ∧ w.cell? ⟨b, o + 1, none⟩ = some v1 ∧ w.cell? ⟨b, o + 2, none⟩ = some v2 ∧ w.cell? ⟨b, o + 3, none⟩ = some v3 ∧ w.cell? ⟨b, o + 4, none⟩ = some v4 ∧ w.cell? ⟨b, o + 5, none⟩ = some v5 ∧ w.cell? ⟨b, o + 6, none⟩ = some v6 ∧ w.cell? ⟨b, o + 7, none⟩ = some v7 ∧ w.cell? ⟨b, o + 8, none⟩ = some v8 ∧ w.cell? ⟨b, o + 9, none⟩ = some v9 := by
  have f : ∀ q (hq : q < 10), w.cell? ⟨b, o + q, none⟩ = some (xs[o + q]'(by omega)) := fun q hq => h.cell _ _ (List.getElem?_eq_getElem (by omega))
  exact ⟨_, _, _, _, _, _, _, _, _, _, f 0 (by omega), f 1 (by omega), f 2 (by omega), f 3 (by omega), f 4 (by omega), f 5 (by omega), f 6 (by omega), f 7 (by omega), f 8 (by omega), f 9 (by omega)⟩
end Go.Proofs.Ytfffddhfagibpaa

namespace Go.Proofs.Ytfffddhfagibpaa
open Go.RowKit
set_option linter.unusedVariables false

set_option maxHeartbeats 1000000 in
theorem isGood_early (n : Int) (r : RowD) (u : Value) (w : World) (h : r.v < 0 ∨ r.b < r.v ∨ 9999 < r.b) :
    Calls Try.prog 72 #[.int .i64 n, .agg #[.int .i64 r.b, .int .i64 r.v, .int .i64 r.st, .int .i64 r.k, .int .i64 r.i, .int .i64 r.f, .int .i64 r.t, .int .i64 r.a, .int .i64 r.s, u]] w (BoolExt false w) := by
  by_cases h0 : r.v < 0
  · clear h
    go_enter Try.func72, Try.ntmps72
    go_wp2
    go_ret
    exact ⟨rfl, Ext.alloc1 _ _⟩
  · have g0 : 0 ≤ r.v := by omega
    by_cases h1 : r.b < r.v
    · clear h h0
      go_enter Try.func72, Try.ntmps72
      go_wp2
      go_ret
      exact ⟨rfl, Ext.alloc1 _ _⟩
    · have g1 : r.v ≤ r.b := by omega
      have g2 : 9999 < r.b := by omega
      clear h h0 h1
      go_enter Try.func72, Try.ntmps72
      go_wp2
      go_ret
      exact ⟨rfl, Ext.alloc1 _ _⟩

set_option maxHeartbeats 1000000 in
theorem isGood_else (n : Int) (r : RowD) (u : Value) (w : World) (g0 : 0 ≤ r.v) (g1 : r.v ≤ r.b) (g2 : r.b ≤ 9999) (e0 : (r.st == 0) = false) (e1 : (r.st == 1) = false) (e2 : (r.st == 2) = false) (e3 : (r.st == 3) = false) :
    Calls Try.prog 72 #[.int .i64 n, .agg #[.int .i64 r.b, .int .i64 r.v, .int .i64 r.st, .int .i64 r.k, .int .i64 r.i, .int .i64 r.f, .int .i64 r.t, .int .i64 r.a, .int .i64 r.s, u]] w (BoolExt false w) := by
  go_enter Try.func72, Try.ntmps72
  go_wp2
  go_ret
  exact ⟨rfl, Ext.alloc1 _ _⟩

set_option maxHeartbeats 2000000 in
theorem isGood_1 (n : Int) (r : RowD) (u : Value) (w : World) (hv : Ints w u r.l) (hn : isGrp n = true) (g0 : 0 ≤ r.v) (g1 : r.v ≤ r.b) (g2 : r.b ≤ 9999) (e0 : (r.st == 0) = false) (e1 : (r.st == 1) = true) :
    Calls Try.prog 72 #[.int .i64 n, .agg #[.int .i64 r.b, .int .i64 r.v, .int .i64 r.st, .int .i64 r.k, .int .i64 r.i, .int .i64 r.f, .int .i64 r.t, .int .i64 r.a, .int .i64 r.s, u]] w (BoolExt (fullB n r) w) := by
  have HE : Hid (goodD n r.s r.l = goodA n r.s r.l) := Lib.hid (by unfold goodA; rw [hn]; rfl)
  unfold fullB
  rw [HE.out]
  have HB := Lib.hid (rowAt_new w 73 r u)
  clear hn
  cases hg : goodB r.k r.i r.f r.t r.a with
  | false =>
    have HG := Lib.hid hg
    clear hg
    go_enter Try.func72, Try.ntmps72
    go_wp2_with fail
    refine (implGood_any _ _ _ _ _ _).mono ?_
    rintro e w1 ⟨rfl, x1⟩
    have hx := (Ext.alloc1 w _).trans x1
    clear x1 HB
    rw [HG.out]
    go_wp2
    go_ret
    exact ⟨rfl, hx⟩
  | true =>
    have HG := Lib.hid hg
    clear hg
    rw [Bool.true_and]
    go_enter Try.func72, Try.ntmps72
    go_wp2_with fail
    refine (implGood_any _ _ _ _ _ _).mono ?_
    rintro e w1 ⟨rfl, x1⟩
    have hx := (Ext.alloc1 w _).trans x1
    obtain ⟨q0, q1, q2, q3, q4, q5, q6, q7, q8, q9⟩ := HB.out.ext x1
    clear x1
    rw [HG.out]
    go_wp2_with fail
    refine (implGoodAttr_any _ _ _ r.l _ (hv.ext hx)).mono ?_
    rintro e w2 ⟨rfl, x2⟩
    have hy := hx.trans x2
    clear q0 q1 q2 q3 q4 q5 q6 q7 q8 q9 x2 hx g0 g1 g2
    cases hA : goodA n r.s r.l
    all_goals
      have HA := Lib.hid hA
      clear hA
      go_wp2
      go_ret
      exact ⟨by rw [HA.out]; rfl, hy⟩

set_option maxHeartbeats 2000000 in
theorem isGood_2 (n : Int) (r : RowD) (u : Value) (w : World) (hv : Ints w u r.l) (hn : isGrp n = true) (g0 : 0 ≤ r.v) (g1 : r.v ≤ r.b) (g2 : r.b ≤ 9999) (e0 : (r.st == 0) = false) (e1 : (r.st == 1) = false) (e2 : (r.st == 2) = true) :
    Calls Try.prog 72 #[.int .i64 n, .agg #[.int .i64 r.b, .int .i64 r.v, .int .i64 r.st, .int .i64 r.k, .int .i64 r.i, .int .i64 r.f, .int .i64 r.t, .int .i64 r.a, .int .i64 r.s, u]] w (BoolExt (fullB n r) w) := by
  have HE : Hid (goodD n r.s r.l = goodA n r.s r.l) := Lib.hid (by unfold goodA; rw [hn]; rfl)
  unfold fullB
  rw [HE.out]
  have HB := Lib.hid (rowAt_new w 73 r u)
  clear hn
  cases hg : goodB r.k r.i r.f r.t r.a with
  | false =>
    have HG := Lib.hid hg
    clear hg
    go_enter Try.func72, Try.ntmps72
    go_wp2_with fail
    refine (implGood_any _ _ _ _ _ _).mono ?_
    rintro e w1 ⟨rfl, x1⟩
    have hx := (Ext.alloc1 w _).trans x1
    clear x1 HB
    rw [HG.out]
    go_wp2
    go_ret
    exact ⟨rfl, hx⟩
  | true =>
    have HG := Lib.hid hg
    clear hg
    rw [Bool.true_and]
    go_enter Try.func72, Try.ntmps72
    go_wp2_with fail
    refine (implGood_any _ _ _ _ _ _).mono ?_
    rintro e w1 ⟨rfl, x1⟩
    have hx := (Ext.alloc1 w _).trans x1
    obtain ⟨q0, q1, q2, q3, q4, q5, q6, q7, q8, q9⟩ := HB.out.ext x1
    clear x1
    rw [HG.out]
    go_wp2_with fail
    refine (implGoodAttr_any _ _ _ r.l _ (hv.ext hx)).mono ?_
    rintro e w2 ⟨rfl, x2⟩
    have hy := hx.trans x2
    clear q0 q1 q2 q3 q4 q5 q6 q7 q8 q9 x2 hx g0 g1 g2
    cases hA : goodA n r.s r.l
    all_goals
      have HA := Lib.hid hA
      clear hA
      go_wp2
      go_ret
      exact ⟨by rw [HA.out]; rfl, hy⟩

set_option maxHeartbeats 2000000 in
theorem isGood_3 (n : Int) (r : RowD) (u : Value) (w : World) (hv : Ints w u r.l) (hn : isGrp n = true) (g0 : 0 ≤ r.v) (g1 : r.v ≤ r.b) (g2 : r.b ≤ 9999) (e0 : (r.st == 0) = false) (e1 : (r.st == 1) = false) (e2 : (r.st == 2) = false) (e3 : (r.st == 3) = true) :
    Calls Try.prog 72 #[.int .i64 n, .agg #[.int .i64 r.b, .int .i64 r.v, .int .i64 r.st, .int .i64 r.k, .int .i64 r.i, .int .i64 r.f, .int .i64 r.t, .int .i64 r.a, .int .i64 r.s, u]] w (BoolExt (fullB n r) w) := by
  have HE : Hid (goodD n r.s r.l = goodA n r.s r.l) := Lib.hid (by unfold goodA; rw [hn]; rfl)
  unfold fullB
  rw [HE.out]
  have HB := Lib.hid (rowAt_new w 73 r u)
  clear hn
  cases hg : goodB r.k r.i r.f r.t r.a with
  | false =>
    have HG := Lib.hid hg
    clear hg
    go_enter Try.func72, Try.ntmps72
    go_wp2_with fail
    refine (implGood_any _ _ _ _ _ _).mono ?_
    rintro e w1 ⟨rfl, x1⟩
    have hx := (Ext.alloc1 w _).trans x1
    clear x1 HB
    rw [HG.out]
    go_wp2
    go_ret
    exact ⟨rfl, hx⟩
  | true =>
    have HG := Lib.hid hg
    clear hg
    rw [Bool.true_and]
    go_enter Try.func72, Try.ntmps72
    go_wp2_with fail
    refine (implGood_any _ _ _ _ _ _).mono ?_
    rintro e w1 ⟨rfl, x1⟩
    have hx := (Ext.alloc1 w _).trans x1
    obtain ⟨q0, q1, q2, q3, q4, q5, q6, q7, q8, q9⟩ := HB.out.ext x1
    clear x1
    rw [HG.out]
    go_wp2_with fail
    refine (implGoodAttr_any _ _ _ r.l _ (hv.ext hx)).mono ?_
    rintro e w2 ⟨rfl, x2⟩
    have hy := hx.trans x2
    clear q0 q1 q2 q3 q4 q5 q6 q7 q8 q9 x2 hx g0 g1 g2
    cases hA : goodA n r.s r.l
    all_goals
      have HA := Lib.hid hA
      clear hA
      go_wp2
      go_ret
      exact ⟨by rw [HA.out]; rfl, hy⟩

set_option maxHeartbeats 2000000 in
theorem isGood_0 (n : Int) (r : RowD) (u : Value) (w : World) (hv : Ints w u r.l) (hsz : r.l.length ≤ 1099511627776) (hn : isGrp n = true) (g0 : 0 ≤ r.v) (g1 : r.v ≤ r.b) (g2 : r.b ≤ 9999) (h0 : (r.st == 0) = true) :
    Calls Try.prog 72 #[.int .i64 n, .agg #[.int .i64 r.b, .int .i64 r.v, .int .i64 r.st, .int .i64 r.k, .int .i64 r.i, .int .i64 r.f, .int .i64 r.t, .int .i64 r.a, .int .i64 r.s, u]] w (BoolExt (emptyB n r) w) := by
  unfold emptyB
  have HSZ := Lib.hid hsz
  clear hsz
  have HB := Lib.hid (rowAt_new w 73 r u)
  have HN := Lib.hid hn
  clear hn
  cases hv0 : (r.v == 0) with
  | false =>
    go_enter Try.func72, Try.ntmps72
    go_wp2_with fail
    go_quiet (fail)
    go_wp2
    go_ret
    exact ⟨rfl, by repeat (first | exact Ext.alloc1 _ _ | apply Ext.drewN)⟩
  | true =>
    have heq := fun W => eq_zero r.k r.i r.f r.t r.a W
    cases hz : zeroC r.k r.i r.f r.t r.a with
    | false =>
      rw [hz] at heq
      clear hz
      go_enter Try.func72, Try.ntmps72
      go_wp2_with fail
      go_quiet (fail)
      go_wp2
      go_ret
      exact ⟨rfl, by repeat (first | exact Ext.alloc1 _ _ | apply Ext.drewN)⟩
    | true =>
      rw [hz] at heq
      clear hz
      obtain ⟨wb, hwb⟩ : ∃ wb, wb = w.alloc (.cells #[.int .i64 r.b, .int .i64 r.v, .int .i64 r.st, .int .i64 r.k, .int .i64 r.i, .int .i64 r.f, .int .i64 r.t, .int .i64 r.a, .int .i64 r.s, u] 73) := ⟨_, rfl⟩
      have hb := HB.out
      rw [← hwb] at hb
      have xb : Ext w wb := by rw [hwb]; exact Ext.alloc1 _ _
      have HV := Lib.hid (hv.ext xb)
      have HWB := Lib.hid hwb
      have HBB := Lib.hid hb
      clear HB hwb hb hv
      go_enter Try.func72, Try.ntmps72
      go_wp2_with fail
      rw [← HWB.out]
      go_region_held3 (fun W => Ext wb W ∧ W.cell? ⟨w.heap.size, 0, none⟩ = some (.int .i64 r.b) ∧ W.cell? ⟨w.heap.size, 1, none⟩ = some (.int .i64 r.v) ∧ W.cell? ⟨w.heap.size, 2, none⟩ = some (.int .i64 r.st) ∧ W.cell? ⟨w.heap.size, 3, none⟩ = some (.int .i64 r.k) ∧ W.cell? ⟨w.heap.size, 4, none⟩ = some (.int .i64 r.i) ∧ W.cell? ⟨w.heap.size, 5, none⟩ = some (.int .i64 r.f) ∧ W.cell? ⟨w.heap.size, 6, none⟩ = some (.int .i64 r.t) ∧ W.cell? ⟨w.heap.size, 7, none⟩ = some (.int .i64 r.a) ∧ W.cell? ⟨w.heap.size, 8, none⟩ = some (.int .i64 r.s) ∧ W.cell? ⟨w.heap.size, 9, none⟩ = some u) (first | (exact stepRow (b := w.heap.size) (r := r) (u := u) (by assumption) (by assumption)) | (exact ⟨Ext.drew (Ext.refl _), HBB.out⟩)) (first | (go_at_call 98; refine (joinNone_any n _ HN.out).mono ?_; rintro e W ⟨z, rfl, f9, x9⟩; obtain ⟨az, cz, rfl⟩ := f9.form) | (go_at_call 97; refine (implSame_any _ _ _ _ r.l (noneL n) _ (HV.out.ext (And.left (by assumption))) (Fresh.ints (by assumption)) HSZ.out).mono ?_; rintro e W ⟨rfl, x8⟩))
      rename_i hH
      have hy : Ext w _ := xb.trans hH.1
      clear hH
      cases hs : sameA r.s 0 r.l (noneL n)
      all_goals
        have HS := Lib.hid hs
        clear hs
        go_wp2
        go_ret
        exact ⟨by rw [HS.out]; rfl, hy⟩

theorem isGoodRow_any (n : Int) (r : RowD) (u : Value) (w : World) (hv : Ints w u r.l) (hsz : r.l.length ≤ 1099511627776) (hn : isGrp n = true) :
    Calls Try.prog 72 #[.int .i64 n, .agg #[.int .i64 r.b, .int .i64 r.v, .int .i64 r.st, .int .i64 r.k, .int .i64 r.i, .int .i64 r.f, .int .i64 r.t, .int .i64 r.a, .int .i64 r.s, u]] w (BoolExt (goodRow n r) w) := by
  by_cases hb : r.v < 0 ∨ r.b < r.v ∨ 9999 < r.b
  · have e : headB r = false := by
      unfold headB
      rcases hb with h | h | h
      · rw [inB_no (n := r.v) (by omega), Bool.and_false, Bool.false_and]
      · rw [inB_no (n := r.v) (by omega), Bool.and_false, Bool.false_and]
      · rw [inB_no (n := r.b) (by omega), Bool.false_and, Bool.false_and]
    rw [goodRow_head e]
    exact isGood_early n r u w hb
  · have g0 : 0 ≤ r.v := by omega
    have g1 : r.v ≤ r.b := by omega
    have g2 : r.b ≤ 9999 := by omega
    have hh : headB r = inB r.st 0 3 := by unfold headB; rw [inB_yes (n := r.b) (by omega) g2, inB_yes (n := r.v) g0 g1]; rfl
    by_cases s0 : r.st = 0
    · have e0 : (r.st == 0) = true := by simp [s0]
      rw [goodRow_empty (by rw [hh]; exact inB_yes (by omega) (by omega)) e0]
      exact isGood_0 n r u w hv hsz hn g0 g1 g2 e0
    · have e0 : (r.st == 0) = false := by simp [s0]
      by_cases s1 : r.st = 1
      · rw [goodRow_full (by rw [hh]; exact inB_yes (by omega) (by omega)) e0]
        exact isGood_1 n r u w hv hn g0 g1 g2 e0 (by simp [s1])
      · by_cases s2 : r.st = 2
        · rw [goodRow_full (by rw [hh]; exact inB_yes (by omega) (by omega)) e0]
          exact isGood_2 n r u w hv hn g0 g1 g2 e0 (by simp [s1]) (by simp [s2])
        · by_cases s3 : r.st = 3
          · rw [goodRow_full (by rw [hh]; exact inB_yes (by omega) (by omega)) e0]
            exact isGood_3 n r u w hv hn g0 g1 g2 e0 (by simp [s1]) (by simp [s2]) (by simp [s3])
          · rw [goodRow_head (by rw [hh]; exact inB_no (by omega))]
            exact isGood_else n r u w g0 g1 g2 e0 (by simp [s1]) (by simp [s2]) (by simp [s3])

end Go.Proofs.Ytfffddhfagibpaa

namespace Go.Proofs.Ytfffddhfagibpaa
open Go.RowKit
set_option linter.unusedVariables false

set_option maxHeartbeats 1000000 in
theorem eqCmd_same (k i f t a : Int) (w : World) :
    Calls Try.prog 56 #[.agg #[.int .i64 k, .int .i64 i, .int .i64 f, .int .i64 t, .int .i64 a], .agg #[.int .i64 k, .int .i64 i, .int .i64 f, .int .i64 t, .int .i64 a]] w (BoolExt true w) := by
  have e0 : (k != k) = false := by simp
  have e1 : (i != i) = false := by simp
  have e2 : (f != f) = false := by simp
  have e3 : (t != t) = false := by simp
  have e4 : (a != a) = false := by simp
  go_enter Try.func56, Try.ntmps56
  go_wp2
  go_ret
  exact ⟨rfl, ((Ext.refl w).alloc _).alloc _⟩

end Go.Proofs.Ytfffddhfagibpaa

namespace Go.Proofs.Ytfffddhfagibpaa
open Go.RowKit
set_option linter.unusedVariables false

theorem two_rows (w : World) (T T' : TypeId) (r d : RowD) (u v : Value) :
    RowAt ((w.alloc (.cells #[.int .i64 r.b, .int .i64 r.v, .int .i64 r.st, .int .i64 r.k, .int .i64 r.i, .int .i64 r.f, .int .i64 r.t, .int .i64 r.a, .int .i64 r.s, u] T)).alloc (.cells #[.int .i64 d.b, .int .i64 d.v, .int .i64 d.st, .int .i64 d.k, .int .i64 d.i, .int .i64 d.f, .int .i64 d.t, .int .i64 d.a, .int .i64 d.s, v] T')) w.heap.size r u ∧
    RowAt ((w.alloc (.cells #[.int .i64 r.b, .int .i64 r.v, .int .i64 r.st, .int .i64 r.k, .int .i64 r.i, .int .i64 r.f, .int .i64 r.t, .int .i64 r.a, .int .i64 r.s, u] T)).alloc (.cells #[.int .i64 d.b, .int .i64 d.v, .int .i64 d.st, .int .i64 d.k, .int .i64 d.i, .int .i64 d.f, .int .i64 d.t, .int .i64 d.a, .int .i64 d.s, v] T')) (w.heap.size + 1) d v := by
  refine ⟨⟨?_, ?_, ?_, ?_, ?_, ?_, ?_, ?_, ?_, ?_⟩, ⟨?_, ?_, ?_, ?_, ?_, ?_, ?_, ?_, ?_, ?_⟩⟩ <;> go_simp

set_option maxHeartbeats 2000000 in
theorem eqRow_same (r : RowD) (u v : Value) (w : World) (hu : Ints w u r.l) (hv : Ints w v r.l) :
    Calls Try.prog 42 #[.agg #[.int .i64 r.b, .int .i64 r.v, .int .i64 r.st, .int .i64 r.k, .int .i64 r.i, .int .i64 r.f, .int .i64 r.t, .int .i64 r.a, .int .i64 r.s, u], .agg #[.int .i64 r.b, .int .i64 r.v, .int .i64 r.st, .int .i64 r.k, .int .i64 r.i, .int .i64 r.f, .int .i64 r.t, .int .i64 r.a, .int .i64 r.s, v]] w (BoolExt true w) := by
  have h2 := two_rows w 73 73 r r u v
  obtain ⟨wb, hwb⟩ : ∃ wb, wb = (w.alloc (.cells #[.int .i64 r.b, .int .i64 r.v, .int .i64 r.st, .int .i64 r.k, .int .i64 r.i, .int .i64 r.f, .int .i64 r.t, .int .i64 r.a, .int .i64 r.s, u] 73)).alloc (.cells #[.int .i64 r.b, .int .i64 r.v, .int .i64 r.st, .int .i64 r.k, .int .i64 r.i, .int .i64 r.f, .int .i64 r.t, .int .i64 r.a, .int .i64 r.s, v] 73) := ⟨_, rfl⟩
  have xb : Ext w wb := by rw [hwb]; exact ((Ext.refl w).alloc _).alloc _
  rw [← hwb] at h2
  have HWB := Lib.hid hwb
  have H2 := Lib.hid h2
  have e0 : (r.b != r.b) = false := by simp
  have e1 : (r.v != r.v) = false := by simp
  have e2 : (r.st != r.st) = false := by simp
  clear hwb h2
  go_enter Try.func42, Try.ntmps42
  go_wp2_with fail
  rw [← HWB.out]
  refine (eqCmd_same _ _ _ _ _ _).mono ?_
  rintro e w1 ⟨rfl, x1⟩
  obtain ⟨p0, p1, p2, p3, p4, p5, p6, p7, p8, p9⟩ := H2.out.1.ext x1
  obtain ⟨q0, q1, q2, q3, q4, q5, q6, q7, q8, q9⟩ := H2.out.2.ext x1
  go_wp2_with fail
  refine (eqAttr_same _ _ _ r.l _ (hu.ext (xb.trans x1)) (hv.ext (xb.trans x1))).mono ?_
  rintro e w2 ⟨rfl, x2⟩
  have hx := (xb.trans x1).trans x2
  clear p0 p1 p2 p3 p4 p5 p6 p7 p8 p9 q0 q1 q2 q3 q4 q5 q6 q7 q8 q9 x1 x2 xb
  go_wp2
  go_ret
  exact ⟨rfl, hx⟩

theorem stepR {wb W W' : World} {b o b' o' : Nat} {r d : RowD} {u v : Value} (x : Ext W W') (h : Ext wb W ∧ RowIn W b o r u ∧ RowIn W b' o' d v) : Ext wb W' ∧ RowIn W' b o r u ∧ RowIn W' b' o' d v :=
  ⟨h.1.trans x, h.2.1.ext x, h.2.2.ext x⟩

set_option maxHeartbeats 2000000 in
theorem eqRowS_same (u v : Value) (R : List RowD) (w : World) (hu : Rowz w u R) (hv : Rowz w v R) :
    Calls Try.prog 103 #[u, v] w (BoolExt true w) := by
  obtain ⟨au, cu, rfl, hlu, _, hcu⟩ := hu
  obtain ⟨av, cv, rfl, hlv, _, hcv⟩ := hv
  unfold maxLen at hlu hlv
  have e0 : ((R.length : Int) != (R.length : Int)) = false := by simp
  go_enter Try.func103, Try.ntmps103
  go_wp2
  go_loopw [5] (fun i wr => ∃ k : Nat, k ≤ R.length ∧ i = .int .i64 k ∧ Ext w wr) (fun i _ => R.length - (intOf i).toNat)
  case atStart => exact ⟨0, Nat.zero_le _, rfl, Ext.refl _⟩
  case round =>
    obtain ⟨k, hk, rfl, hx⟩ := hrel
    by_cases hlt : k < R.length
    · obtain ⟨bu, ou, rfl, du⟩ := hcu (by omega)
      obtain ⟨bv, ov, rfl, dv⟩ := hcv (by omega)
      obtain ⟨x, hx1, ix⟩ := du k hlt
      obtain ⟨y, hy1, iy⟩ := dv k hlt
      obtain ⟨d, hd⟩ : ∃ d, d = R[k] := ⟨_, rfl⟩
      rw [← hd] at hx1 ix hy1 iy
      have gu := hx1.ext hx
      have gv := hy1.ext hx
      have IX := Lib.hid (ix.ext hx)
      have IY := Lib.hid (iy.ext hx)
      clear hcu hcv du dv hx1 hy1 ix iy hd
      have IXY : Hid (RowIn wr bu (ou + k * 10) d x ∧ RowIn wr bv (ov + k * 10) d y) := Lib.hid ⟨gu, gv⟩
      clear gu gv
      go_wp2_with fail
      go_region_held3 (fun W => Ext wr W ∧ (W.cell? ⟨bu, ou + k * 10, none⟩ = some (.int .i64 d.b) ∧ W.cell? ⟨bu, ou + k * 10 + 1, none⟩ = some (.int .i64 d.v) ∧ W.cell? ⟨bu, ou + k * 10 + 2, none⟩ = some (.int .i64 d.st) ∧ W.cell? ⟨bu, ou + k * 10 + 3, none⟩ = some (.int .i64 d.k) ∧ W.cell? ⟨bu, ou + k * 10 + 4, none⟩ = some (.int .i64 d.i) ∧ W.cell? ⟨bu, ou + k * 10 + 5, none⟩ = some (.int .i64 d.f) ∧ W.cell? ⟨bu, ou + k * 10 + 6, none⟩ = some (.int .i64 d.t) ∧ W.cell? ⟨bu, ou + k * 10 + 7, none⟩ = some (.int .i64 d.a) ∧ W.cell? ⟨bu, ou + k * 10 + 8, none⟩ = some (.int .i64 d.s) ∧ W.cell? ⟨bu, ou + k * 10 + 9, none⟩ = some x) ∧ (W.cell? ⟨bv, ov + k * 10, none⟩ = some (.int .i64 d.b) ∧ W.cell? ⟨bv, ov + k * 10 + 1, none⟩ = some (.int .i64 d.v) ∧ W.cell? ⟨bv, ov + k * 10 + 2, none⟩ = some (.int .i64 d.st) ∧ W.cell? ⟨bv, ov + k * 10 + 3, none⟩ = some (.int .i64 d.k) ∧ W.cell? ⟨bv, ov + k * 10 + 4, none⟩ = some (.int .i64 d.i) ∧ W.cell? ⟨bv, ov + k * 10 + 5, none⟩ = some (.int .i64 d.f) ∧ W.cell? ⟨bv, ov + k * 10 + 6, none⟩ = some (.int .i64 d.t) ∧ W.cell? ⟨bv, ov + k * 10 + 7, none⟩ = some (.int .i64 d.a) ∧ W.cell? ⟨bv, ov + k * 10 + 8, none⟩ = some (.int .i64 d.s) ∧ W.cell? ⟨bv, ov + k * 10 + 9, none⟩ = some y)) (first | (exact stepR (b := bu) (o := ou + k * 10) (b' := bv) (o' := ov + k * 10) (r := d) (d := d) (u := x) (v := y) (by assumption) (by assumption)) | (exact ⟨Ext.drew (Ext.refl _), IXY.out⟩)) (first | (go_at_call 42; refine (eqRow_same d _ _ _ (IX.out.ext (Ext.drew (Ext.refl _))) (IY.out.ext (Ext.drew (Ext.refl _)))).mono ?_; rintro e W ⟨rfl, x9⟩))
      rename_i hH
      have hx2 : Ext w W := hx.trans hH.1
      clear hH x9 hx
      go_wp2
      go_roundw
      case rel => exact ⟨k + 1, by omega, by go_num, hx2⟩
      case measure => simp [intOf]; omega
    · obtain rfl : k = R.length := by omega
      go_wp2
      go_ret
      exact ⟨rfl, hx⟩

end Go.Proofs.Ytfffddhfagibpaa

namespace Go.Proofs.Ytfffddhfagibpaa
open Go.RowKit
set_option linter.unusedVariables false

set_option maxHeartbeats 2000000 in
theorem eqRowSS_same (u v : Value) (T : List (List RowD)) (w : World) (hu : Rowzz w u T) (hv : Rowzz w v T) :
    Calls Try.prog 75 #[u, v] w (BoolExt true w) := by
  obtain ⟨au, cu, rfl, hlu, _, hcu⟩ := hu
  obtain ⟨av, cv, rfl, hlv, _, hcv⟩ := hv
  unfold maxLen at hlu hlv
  have e0 : ((T.length : Int) != (T.length : Int)) = false := by simp
  go_enter Try.func75, Try.ntmps75
  go_wp2
  go_loopw [5] (fun i wr => ∃ k : Nat, k ≤ T.length ∧ i = .int .i64 k ∧ Ext w wr) (fun i _ => T.length - (intOf i).toNat)
  case atStart => exact ⟨0, Nat.zero_le _, rfl, Ext.refl _⟩
  case round =>
    obtain ⟨k, hk, rfl, hx⟩ := hrel
    by_cases hlt : k < T.length
    · obtain ⟨bu, ou, rfl, du⟩ := hcu (by omega)
      obtain ⟨bv, ov, rfl, dv⟩ := hcv (by omega)
      obtain ⟨x, hx1, ix⟩ := du k hlt
      obtain ⟨y, hy1, iy⟩ := dv k hlt
      obtain ⟨d, hd⟩ : ∃ d, d = T[k] := ⟨_, rfl⟩
      rw [← hd] at ix iy
      have gu := hx.cell hx1
      have gv := hx.cell hy1
      have IX := Lib.hid (ix.ext hx)
      have IY := Lib.hid (iy.ext hx)
      clear hcu hcv du dv hx1 hy1 ix iy hd
      go_wp2_with fail
      go_region_held3 (fun W => Ext wr W ∧ W.cell? ⟨bu, ou + k, none⟩ = some x ∧ W.cell? ⟨bv, ov + k, none⟩ = some y) (first | (exact step2 (by assumption) (by assumption)) | (exact ⟨Ext.drew (Ext.refl _), gu, gv⟩)) (first | (go_at_call 103; refine (eqRowS_same _ _ d _ (IX.out.ext (Ext.drew (Ext.refl _))) (IY.out.ext (Ext.drew (Ext.refl _)))).mono ?_; rintro e W ⟨rfl, x9⟩))
      rename_i hH
      have hx2 : Ext w W := hx.trans hH.1
      clear hH x9 gu gv hx
      go_wp2
      go_roundw
      case rel => exact ⟨k + 1, by omega, by go_num, hx2⟩
      case measure => simp [intOf]; omega
    · obtain rfl : k = T.length := by omega
      go_wp2
      go_ret
      exact ⟨rfl, hx⟩

set_option maxHeartbeats 1000000 in
theorem eqTable_same (n : Int) (u v : Value) (T : List (List RowD)) (w : World) (hu : Rowzz w u T) (hv : Rowzz w v T) :
    Calls Try.prog 41 #[.agg #[.int .i64 n, u], .agg #[.int .i64 n, v]] w (BoolExt true w) := by
  have hx : Ext w ((w.alloc (.cells #[.int .i64 n, u] 67)).alloc (.cells #[.int .i64 n, v] 67)) := ((Ext.refl w).alloc _).alloc _
  have e0 : ((n : Int) != n) = false := by simp
  go_enter Try.func41, Try.ntmps41
  go_wp2_with fail
  refine (eqRowSS_same _ _ _ _ (hu.ext hx) (hv.ext hx)).mono ?_
  rintro e w1 ⟨rfl, x1⟩
  have hy := hx.trans x1
  clear hx x1
  go_wp2
  go_ret
  exact ⟨rfl, hy⟩

end Go.Proofs.Ytfffddhfagibpaa

namespace Go.Proofs.Ytfffddhfagibpaa
open Go.RowKit
set_option linter.unusedVariables false

theorem allx_take_succ {α : Type} {l : List α} {k : Nat} (h : k < l.length) (p : α → Bool) (ht : (l.take k).all p = true) (hp : p l[k] = true) : (l.take (k + 1)).all p = true := by
  rw [List.take_add_one, List.all_append, ht, List.getElem?_eq_getElem h]
  simpa using hp
theorem allx_false_at {α : Type} {l : List α} {k : Nat} (h : k < l.length) (p : α → Bool) (hp : p l[k] = false) : l.all p = false := by
  rw [List.all_eq_false]
  exact ⟨l[k], List.getElem_mem h, by rw [hp]; simp⟩

/-- Whether a list of rows, whether all lists of a table are good. -/
def goodList (n : Int) (R : List RowD) : Bool := decide (R.length ≤ 6) && R.all (goodRow n)
def goodTab (n : Int) (T : List (List RowD)) : Bool := (isGrp n && decide ((T.length : Int) = n)) && T.all (goodList n)
theorem goodTab_grp {n : Int} {T : List (List RowD)} (h : isGrp n = false) : goodTab n T = false := by unfold goodTab; rw [h]; rfl
theorem goodTab_len {n : Int} {T : List (List RowD)} (h : (T.length : Int) ≠ n) : goodTab n T = false := by unfold goodTab; rw [decide_eq_false h, Bool.and_false]; rfl
theorem goodTab_all {n : Int} {T : List (List RowD)} (h : isGrp n = true) (hl : (T.length : Int) = n) : goodTab n T = T.all (goodList n) := by unfold goodTab; rw [h, decide_eq_true hl]; rfl
theorem goodList_long {n : Int} {R : List RowD} (h : 6 < R.length) : goodList n R = false := by unfold goodList; rw [decide_eq_false (by omega)]; rfl
theorem goodList_all {n : Int} {R : List RowD} (h : R.length ≤ 6) : goodList n R = R.all (goodRow n) := by unfold goodList; rw [decide_eq_true h]; rfl
theorem goodList_row {n : Int} {R : List RowD} (h : R.all (goodRow n) = false) : goodList n R = false := by unfold goodList; rw [h, Bool.and_false]

set_option maxHeartbeats 4000000 in
theorem specGoodTable_any (n : Int) (u : Value) (T : List (List RowD)) (w : World) (hu : Rowzz w u T) :
    Calls Try.prog 86 #[.agg #[.int .i64 n, u]] w (BoolExt (goodTab n T) w) := by
  obtain ⟨au, cu, rfl, hlu, _, hcu⟩ := hu
  unfold maxLen at hlu
  cases hg : isGrp n with
  | false =>
    rw [goodTab_grp hg]
    have HG := Lib.hid hg
    clear hg hcu
    go_enter Try.func86, Try.ntmps86
    go_wp2_with fail
    refine (specIsGroup_any _ _).mono ?_
    rintro e w' ⟨rfl, rfl⟩
    rw [HG.out]
    go_wp2
    go_ret
    exact ⟨rfl, Ext.alloc1 _ _⟩
  | true =>
    have HG := Lib.hid hg
    by_cases hl : (T.length : Int) = n
    · rw [goodTab_all hg hl]
      have e0 : ((T.length : Int) != n) = false := by simp [hl]
      have HL := Lib.hid hl
      obtain ⟨wb, hwb⟩ : ∃ wb, wb = w.alloc (.cells #[.int .i64 n, .slice au T.length cu] 67) := ⟨_, rfl⟩
      have hb := attrAt_new w 67 n (.slice au T.length cu)
      rw [← hwb] at hb
      have xb : Ext w wb := by rw [hwb]; exact Ext.alloc1 _ _
      have HWB := Lib.hid hwb
      have HBB := Lib.hid hb
      clear hg hl hwb hb
      go_enter Try.func86, Try.ntmps86
      go_wp2_with fail
      refine (specIsGroup_any _ _).mono ?_
      rintro e w' ⟨rfl, rfl⟩
      rw [HG.out]
      go_wp2
      rw [← HWB.out]
      go_loopw [22] (fun i wr => ∃ k : Nat, k ≤ T.length ∧ i = .int .i64 k ∧ Hid ((T.take k).all (goodList n) = true) ∧ Ext wb wr) (fun i _ => T.length - (intOf i).toNat)
      case atStart => exact ⟨0, Nat.zero_le _, rfl, Lib.hid (by simp), Ext.refl _⟩
      case round =>
        obtain ⟨k, hk, rfl, HT, hx⟩ := hrel
        by_cases hlt : k < T.length
        · obtain ⟨bu, ou, rfl, du⟩ := hcu (by omega)
          obtain ⟨x, hx1, ix⟩ := du k hlt
          have gu := (xb.trans hx).cell hx1
          have ixr := ix.ext (xb.trans hx)
          obtain ⟨R, hR⟩ : ∃ R, R = T[k] := ⟨_, rfl⟩
          rw [← hR] at ixr
          obtain ⟨ax, cx, rfl, hlx, _, hcx⟩ := ixr
          unfold maxLen at hlx
          have HR := Lib.hid hR
          clear hcu du hx1 ix hR
          obtain ⟨wo, hwo⟩ : ∃ wo : World, wo = wr := ⟨_, rfl⟩
          subst hwo
          go_wp2
          go_loopw [28] (fun i wr => ∃ j : Nat, j ≤ R.length ∧ i = .int .i64 j ∧ Hid ((R.take j).all (goodRow n) = true) ∧ Ext wo wr) (fun i _ => R.length - (intOf i).toNat)
          case atStart => exact ⟨0, Nat.zero_le _, rfl, Lib.hid (by simp), Ext.refl _⟩
          case round =>
            obtain ⟨j, hj, rfl, HS, hy⟩ := hrel
            by_cases hjt : j < R.length
            · obtain ⟨bx, ox, rfl, dx⟩ := hcx (by omega)
              obtain ⟨y, hy1, iy⟩ := dx j hjt
              obtain ⟨d, hd⟩ : ∃ d, d = R[j] := ⟨_, rfl⟩
              rw [← hd] at hy1 iy
              have gy := hy1.ext hy
              have iy2 := iy.ext hy
              obtain ⟨ay, cy, rfl, _⟩ := id iy2
              have IY := Lib.hid iy2
              have HD := Lib.hid hd
              obtain ⟨wp, hwp⟩ : ∃ wp : World, wp = wr := ⟨_, rfl⟩
              subst hwp
              have gn := ((hx.trans hy).trans (Ext.alloc1 wp (.cells #[.int .i64 d.b, .int .i64 d.v, .int .i64 d.st, .int .i64 d.k, .int .i64 d.i, .int .i64 d.f, .int .i64 d.t, .int .i64 d.a, .int .i64 d.s, .slice ay d.l.length cy] 73))).cell HBB.out.1
              clear hcx dx hy1 iy iy2 hd
              obtain ⟨g0, g1, g2, g3, g4, g5, g6, g7, g8, g9⟩ := gy
              go_wp2_with fail
              cases hq : goodRow n d with
              | false =>
                have HQ := Lib.hid hq
                clear hq
                refine (l4Row_any n d _ _ (IY.out.ext (Ext.alloc1 _ _)) HG.out).mono ?_
                rintro e w3 ⟨rfl, x3⟩
                have hz := (xb.trans ((hx.trans hy).trans (Ext.alloc1 _ _))).trans x3
                clear x3 gn g0 g1 g2 g3 g4 g5 g6 g7 g8 g9
                rw [HQ.out]
                go_wp2
                go_ret
                refine ⟨?_, hz⟩
                have h1 : R.all (goodRow n) = false := allx_false_at hjt _ (by rw [← HD.out]; exact HQ.out)
                have h2 : T.all (goodList n) = false := allx_false_at hlt _ (by rw [← HR.out]; exact goodList_row h1)
                rw [h2]; rfl
              | true =>
                have HQ := Lib.hid hq
                clear hq
                refine (l4Row_any n d _ _ (IY.out.ext (Ext.alloc1 _ _)) HG.out).mono ?_
                rintro e w3 ⟨rfl, x3⟩
                have hz := (hy.trans (Ext.alloc1 _ _)).trans x3
                clear x3 gn g0 g1 g2 g3 g4 g5 g6 g7 g8 g9
                rw [HQ.out]
                go_wp2
                go_roundw
                case rel => exact ⟨j + 1, by omega, by go_num, Lib.hid (allx_take_succ hjt _ HS.out (by rw [← HD.out]; exact HQ.out)), hz⟩
                case measure => simp [intOf]; omega
            · obtain rfl : j = R.length := by omega
              have hfull : R.all (goodRow n) = true := by have h := HS.out; rwa [List.take_length] at h
              have HF := Lib.hid hfull
              clear hfull
              by_cases h6 : 6 < R.length
              · go_wp2
                go_ret
                refine ⟨?_, xb.trans (hx.trans hy)⟩
                have h2 : T.all (goodList n) = false := allx_false_at hlt _ (by rw [← HR.out]; exact goodList_long h6)
                rw [h2]; rfl
              · go_wp2
                go_roundw
                case rel => exact ⟨k + 1, by omega, by go_num, Lib.hid (allx_take_succ hlt _ HT.out (by rw [← HR.out, goodList_all (by omega)]; exact HF.out)), hx.trans hy⟩
                case measure => simp [intOf]; omega
        · obtain rfl : k = T.length := by omega
          go_wp2
          go_ret
          refine ⟨?_, xb.trans hx⟩
          have h2 : T.all (goodList n) = true := by have h := HT.out; rwa [List.take_length] at h
          rw [h2]; rfl
    · rw [goodTab_len hl]
      have e0 : ((T.length : Int) != n) = true := by simp [hl]
      clear hg hcu hl
      go_enter Try.func86, Try.ntmps86
      go_wp2_with fail
      refine (specIsGroup_any _ _).mono ?_
      rintro e w' ⟨rfl, rfl⟩
      rw [HG.out]
      go_wp2
      go_ret
      exact ⟨rfl, Ext.alloc1 _ _⟩

end Go.Proofs.Ytfffddhfagibpaa
