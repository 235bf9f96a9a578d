/- Texts of this proof, part e: words, plain facts, contracts. -/
import Derived.Test.YtnmnbeklofnonaaMIsOrderd
import Derived.Test.YtnmnbeklofnonaaMIsOrderb
import Derived.Test.YtnmnbeklofnonaaMIsOrdera
import Derived.Deep.LoopGhost
import Derived.Laws.Rows
import Derived.Deep.WholeRow
import Derived.StillTailTactics

namespace Go.Proofs.Ytnmnbeklofnonaa
open Go.RowKit
set_option linter.unusedVariables false

def unlikeB (l : List Int) (many e : Int) : Bool := decide ((l.length : Int) = many) && (allIn l 0 (e - 1) && decide l.Nodup)
theorem ints_upto {w : World} {ao : Option Addr} {cap : Nat} {l : List Int} (h : Ints w (.slice ao l.length cap) l) (k : Nat) (hk : k ≤ l.length) : Ints w (.slice ao k cap) (l.take k) := by
  obtain ⟨a, c, hv, hm, hc, hd⟩ := h
  simp only [Value.slice.injEq, true_and] at hv
  obtain ⟨rfl, rfl⟩ := hv
  have e : (l.take k).length = k := by rw [List.length_take]; omega
  refine ⟨ao, cap, by rw [e], by rw [e]; omega, ⟨by rw [e]; omega, hc.2⟩, fun hp => ?_⟩
  rw [e] at hp
  obtain ⟨b, off, hab, hcc⟩ := hd (by omega)
  refine ⟨b, off, hab, fun j hj => ?_⟩
  rw [e] at hj
  rw [hcc j (by omega), List.getElem?_take_of_lt hj]

set_option maxHeartbeats 4000000 in
theorem areUnlike_any (v : Value) (l : List Int) (many e : Int) (w : World) (hv : Ints w v l) :
    Calls Try.prog 79 #[v, .int .i64 many, .int .i64 e] w (BoolExt (unlikeB l many e) w) := by
  have HV := Lib.hid hv
  obtain ⟨av, cv, rfl, hlv, hcap, dv⟩ := hv
  unfold maxLen at hlv
  have hcap1 := hcap.1
  have hcap2 := hcap.2.1
  unfold maxLen at hcap2
  have DV := Lib.hid dv
  clear dv hcap
  by_cases hm : (l.length : Int) = many
  · subst hm
    have hU : unlikeB l l.length e = (allIn l 0 (e - 1) && decide l.Nodup) := by simp [unlikeB]
    rw [hU]
    clear hU
    have e0 : ((l.length : Int) != (l.length : Int)) = false := by simp
    go_enter Try.func79, Try.ntmps79
    go_wp2
    go_loopw [7, 8, 15] (fun _ _ i wr => ∃ k : Nat, k ≤ l.length ∧ i = .int .i64 k ∧ Hid ((l.take k).all (fun x => inB x 0 (e - 1)) = true ∧ (l.take k).Nodup) ∧ Ext w wr) (fun _ _ i _ => l.length - (intOf i).toNat)
    case atStart => exact ⟨0, Nat.zero_le _, rfl, Lib.hid ⟨by simp, by simp⟩, Ext.refl _⟩
    case round =>
      obtain ⟨k, hk, rfl, hA, hx⟩ := hrel
      by_cases hlt : k < l.length
      · obtain ⟨bv, ov, rfl, ev⟩ := DV.out (by omega)
        have z1 := hx.cell (ev k hlt)
        rw [List.getElem?_eq_getElem hlt, Option.getD_some] at z1
        have hout : inB l[k] 0 (e - 1) = false → allIn l 0 (e - 1) = false := fun h => all_false_at hlt (fun x => inB x 0 (e - 1)) (by rw [List.getElem?_eq_getElem hlt, Option.getD_some]; exact h)
        have hnext : inB l[k] 0 (e - 1) = true → (l.take (k + 1)).all (fun x => inB x 0 (e - 1)) = true := fun h => all_take_succ hlt (fun x => inB x 0 (e - 1)) hA.out.1 (by rw [List.getElem?_eq_getElem hlt, Option.getD_some]; exact h)
        have hdup : l[k] ∈ l.take k → ¬ l.Nodup := nodup_not hlt
        have hnd : l[k] ∉ l.take k → (l.take (k + 1)).Nodup := fun h => nodup_succ hlt hA.out.2 h
        obtain ⟨n, hn⟩ : ∃ n, n = l[k] := ⟨_, rfl⟩
        rw [← hn] at z1 hout hnext hdup hnd
        have HOUT := Lib.hid hout
        have HNEXT := Lib.hid hnext
        have HDUP := Lib.hid hdup
        have HND := Lib.hid hnd
        have HX := Lib.hid hx
        have j1 : (0 : Int) ≤ (k : Int) ∧ (k : Int) ≤ (cv : Int) := by omega
        clear hout hnext hdup hnd hn hx ev
        by_cases h1 : n < 0
        · have HF : Hid ((allIn l 0 (e - 1) && decide l.Nodup) = false) := Lib.hid (by rw [HOUT.out (inB_no (by omega))]; rfl)
          go_wp2
          go_ret
          exact ⟨by rw [HF.out]; rfl, HX.out⟩
        · by_cases h2 : e ≤ n
          · have HF : Hid ((allIn l 0 (e - 1) && decide l.Nodup) = false) := Lib.hid (by rw [HOUT.out (inB_no (by omega))]; rfl)
            have h1' : ¬ n < 0 := h1
            go_wp2
            go_ret
            exact ⟨by rw [HF.out]; rfl, HX.out⟩
          · go_wp2_with fail
            refine (contains_any _ (l.take k) n _ (ints_upto (HV.out.ext HX.out) k (by omega))).mono ?_
            rintro e w2 ⟨rfl, x2⟩
            have HX2 := Lib.hid (HX.out.trans x2)
            obtain ⟨hh, hhh⟩ : ∃ hh, hh = hasI (l.take k) n := ⟨_, rfl⟩
            rw [← hhh]
            have HH := Lib.hid hhh
            clear hhh x2
            cases hh with
            | true =>
              have HF : Hid ((allIn l 0 (e - 1) && decide l.Nodup) = false) := Lib.hid (by
                have h3 : n ∈ l.take k := by have := HH.out; simpa [hasI] using this.symm
                rw [decide_eq_false (HDUP.out h3), Bool.and_false])
              go_wp2
              go_ret
              exact ⟨by rw [HF.out]; rfl, HX2.out⟩
            | false =>
              have HN : Hid ((l.take (k + 1)).all (fun x => inB x 0 (e - 1)) = true ∧ (l.take (k + 1)).Nodup) := Lib.hid ⟨HNEXT.out (inB_yes (by omega) (by omega)), HND.out (fun h3 => by
                have h4 : hasI (l.take k) n = true := by simpa [hasI] using h3
                rw [← HH.out] at h4; cases h4)⟩
              go_wp2
              go_roundw
              case rel => exact ⟨k + 1, by omega, by go_num, HN, HX2.out⟩
              case measure => simp [intOf]; omega
      · obtain rfl : k = l.length := by omega
        have HF : Hid ((allIn l 0 (e - 1) && decide l.Nodup) = true) := Lib.hid (by
          have h := hA.out
          rw [List.take_length] at h
          unfold allIn
          rw [h.1, decide_eq_true h.2]; rfl)
        go_wp2
        go_ret
        exact ⟨by rw [HF.out]; rfl, hx⟩
  · have hU : unlikeB l many e = false := by simp [unlikeB, hm]
    have e0 : ((l.length : Int) != many) = true := by simp [hm]
    rw [hU]
    clear hU hm
    go_enter Try.func79, Try.ntmps79
    go_wp2
    go_ret
    exact ⟨rfl, Ext.refl _⟩

set_option maxHeartbeats 1000000 in
theorem arePointKeys_any (v : Value) (l : List Int) (many : Int) (w : World) (hv : Ints w v l) :
    Calls Try.prog 72 #[v, .int .i64 many] w (BoolExt (unlikeB l many 1000000) w) := by
  have HV := Lib.hid hv
  obtain ⟨av, cv, rfl, _, _, _⟩ := hv
  go_enter Try.func72, Try.ntmps72
  go_wp2_with fail
  refine (areUnlike_any _ l many 1000000 _ HV.out).mono ?_
  rintro e w1 ⟨rfl, x1⟩
  obtain ⟨b, hb⟩ : ∃ b, b = unlikeB l many 1000000 := ⟨_, rfl⟩
  have HBB := Lib.hid hb
  rw [← hb]
  clear hb
  go_wp2
  go_ret
  exact ⟨by rw [← HBB.out]; rfl, x1⟩
theorem keysB_eq (g : List (List Int)) (key : List Int) : keysB g key = (goodG g && unlikeB key g.length 1000000) := by
  unfold keysB unlikeB
  have : decide ((key.length : Int) = (g.length : Int)) = decide (key.length = g.length) := by rw [decide_eq_decide]; omega
  rw [this]
  rfl

end Go.Proofs.Ytnmnbeklofnonaa

namespace Go.Proofs.Ytnmnbeklofnonaa
open Go.RowKit
set_option linter.unusedVariables false

/-! ### Lists of unlike numbers -/
theorem perm_of_covers : ∀ (R l : List Int), R.Nodup → (∀ x ∈ R, x ∈ l) → R.length ≤ l.length ∧ (R.length = l.length → l.Perm R)
  | [], l, _, _ => ⟨Nat.zero_le _, fun e => by
      have : l = [] := List.eq_nil_of_length_eq_zero (by simpa using e.symm)
      rw [this]⟩
  | a :: R, l, hn, h => by
    obtain ⟨h1, h2⟩ := List.nodup_cons.1 hn
    have ha := h a (by simp)
    obtain ⟨i1, i2⟩ := perm_of_covers R (l.erase a) h2 (fun x hx => by
      have hne : x ≠ a := fun e => h1 (by rw [← e]; exact hx)
      exact (List.mem_erase_of_ne hne).2 (h x (List.mem_cons_of_mem _ hx)))
    have hp := List.perm_cons_erase ha
    have hl := hp.length_eq
    rw [List.length_cons] at hl
    refine ⟨by rw [List.length_cons]; omega, fun e => ?_⟩
    rw [List.length_cons] at e
    exact hp.trans ((i2 (by omega)).cons a)
def rangeI (n : Nat) : List Int := (List.range n).map fun (i : Nat) => (i : Int)
theorem rangeI_mem (n : Nat) (x : Int) : x ∈ rangeI n ↔ 0 ≤ x ∧ x < n := by
  unfold rangeI
  rw [List.mem_map]
  constructor
  · rintro ⟨i, hi, rfl⟩
    have := List.mem_range.1 hi
    omega
  · rintro ⟨h1, h2⟩
    exact ⟨x.toNat, List.mem_range.2 (by omega), by omega⟩
theorem rangeI_nodup (n : Nat) : (rangeI n).Nodup := (range_rises n).imp (fun h => by omega)
theorem rangeI_len (n : Nat) : (rangeI n).length = n := by simp [rangeI]
/-- As many numbers as points, each met: they are unlike, and points; and the other way round. -/
theorem unlike_iff (l : List Int) (n : Nat) : unlikeB l n n = true ↔ l.length = n ∧ ∀ k : Nat, k < n → (k : Int) ∈ l := by
  have hu : unlikeB l n n = true ↔ l.length = n ∧ (∀ x ∈ l, 0 ≤ x ∧ x < (n : Int)) ∧ l.Nodup := by
    unfold unlikeB allIn
    rw [Bool.and_eq_true, Bool.and_eq_true, decide_eq_true_iff, decide_eq_true_iff, List.all_eq_true]
    constructor
    · rintro ⟨h1, h2, h3⟩
      refine ⟨by omega, fun x hx => ?_, h3⟩
      have := h2 x hx
      unfold inB at this
      simp at this
      omega
    · rintro ⟨h1, h2, h3⟩
      exact ⟨by omega, fun x hx => inB_yes (h2 x hx).1 (by have := (h2 x hx).2; omega), h3⟩
  rw [hu]
  constructor
  · rintro ⟨h1, h2, h3⟩
    refine ⟨h1, fun k hk => ?_⟩
    have hp := (perm_of_covers l (rangeI n) h3 (fun x hx => (rangeI_mem n x).2 (h2 x hx))).2 (by rw [rangeI_len]; exact h1)
    exact hp.mem_iff.1 ((rangeI_mem n k).2 (by omega))
  · rintro ⟨h1, h2⟩
    have hp := (perm_of_covers (rangeI n) l (rangeI_nodup n) (fun x hx => by
      have := (rangeI_mem n x).1 hx
      have := h2 x.toNat (by omega)
      rwa [Int.toNat_of_nonneg (by omega)] at this)).2 (by rw [rangeI_len]; exact h1.symm)
    exact ⟨h1, fun x hx => (rangeI_mem n x).1 (hp.mem_iff.1 hx), hp.nodup_iff.2 (rangeI_nodup n)⟩

/-! ### Where a point stands -/
theorem placeFrom_spec : ∀ (l : List Int) (p : Int) (k : Nat), (p ∉ l ∧ placeFrom l p k = -1) ∨ ∃ j : Nat, l[j]? = some p ∧ placeFrom l p k = (k : Int) + j ∧ ∀ i : Nat, i < j → l[i]? ≠ some p
  | [], p, k => .inl ⟨by simp, rfl⟩
  | a :: l, p, k => by
    unfold placeFrom
    by_cases e : a = p
    · right
      refine ⟨0, by simp [e], by rw [if_pos e]; simp, fun i hi => by omega⟩
    · rw [if_neg e]
      rcases placeFrom_spec l p (k + 1) with ⟨h1, h2⟩ | ⟨j, h1, h2, h3⟩
      · left
        exact ⟨by simp [h1]; omega, h2⟩
      · right
        refine ⟨j + 1, by simpa using h1, by rw [h2]; omega, fun i hi => ?_⟩
        cases i with
        | zero => simp [e]
        | succ i => simpa using h3 i (by omega)
theorem placeI_none {l : List Int} {p : Int} : placeI l p < 0 ↔ p ∉ l := by
  unfold placeI
  rcases placeFrom_spec l p 0 with ⟨h1, h2⟩ | ⟨j, h1, h2, _⟩
  · rw [h2]; simp [h1]
  · have := List.mem_of_getElem? h1
    constructor
    · intro h; omega
    · intro h; exact absurd this h
theorem placeI_at {l : List Int} (hn : l.Nodup) {j : Nat} {p : Int} (h : l[j]? = some p) : placeI l p = (j : Int) := by
  unfold placeI
  rcases placeFrom_spec l p 0 with ⟨h1, h2⟩ | ⟨i, h1, h2, _⟩
  · exact absurd (List.mem_of_getElem? h) h1
  · rw [h2]
    obtain ⟨a1, e1⟩ := List.getElem?_eq_some_iff.1 h
    obtain ⟨a2, e2⟩ := List.getElem?_eq_some_iff.1 h1
    have := (List.getElem_inj (h₀ := a1) (h₁ := a2) hn).1 (by rw [e1, e2])
    omega
theorem placeI_inj {l : List Int} {p q : Int} (hp : p ∈ l) (h : placeI l p = placeI l q) : p = q := by
  unfold placeI at h
  rcases placeFrom_spec l p 0 with ⟨h1, _⟩ | ⟨i, h1, h2, _⟩
  · exact absurd hp h1
  · rcases placeFrom_spec l q 0 with ⟨_, k2⟩ | ⟨j, k1, k2, _⟩
    · rw [h2, k2] at h; omega
    · rw [h2, k2] at h
      have : i = j := by omega
      rw [this, k1] at h1
      exact (Option.some.inj h1).symm

/-! ### The two ways to say it -/
/-- The points of G stand side by side, as G has them. -/
def sideB (P : Int → Int) (G : List Int) : Bool := (List.range G.length).all fun k => decide (P (G[k]?.getD 0) = P (G[0]?.getD 0) + k)
/-- What leads to nothing of its own group stands ahead. -/
noncomputable def edgeB (g : List (List Int)) (P : Int → Int) (p : Int) : Bool := (rowG g p).all fun n => hasI (reachL g n) p || decide (¬ P n > P p)
noncomputable def ordM (g : List (List Int)) (key l : List Int) : Bool :=
  ((rangeI g.length).all (edgeB g (placeI l))) && (groupsL g).all fun G => sideB (placeI l) (byKeyL (keyAt key) G)
/-- Nothing that a point of the group leads to stands behind its last. -/
def lastI (G : List Int) : Int := G[G.length - 1]?.getD 0
def behindB (g : List (List Int)) (P : Int → Int) (p last : Int) : Bool := (rowG g p).any fun n => decide (P n > P last)
def stepB (g : List (List Int)) (P : Int → Int) (G : List Int) (k : Nat) : Bool := decide (P (G[k]?.getD 0) = P (G[0]?.getD 0) + k) && !behindB g P (G[k]?.getD 0) (lastI G)
def blockB (g : List (List Int)) (P : Int → Int) (G : List Int) : Bool := (List.range G.length).all (stepB g P G)
noncomputable def ordP (g : List (List Int)) (key l : List Int) : Bool := ((compsL g).map (byKeyL (keyAt key))).all (blockB g (placeI l))

theorem compsC_all {g : List (List Int)} (hg : rowsB g = true) : ∀ (f : Nat) (left : List (List Int)), Left g left → left.length ≤ f → ∀ G ∈ left, G ∈ compsC g f left
  | 0, left, _, hf, G, hG => by
    have : left = [] := List.eq_nil_of_length_eq_zero (by omega)
    rw [this] at hG; simp at hG
  | f + 1, left, hl, hf, G, hG => by
    obtain ⟨k, hp, hk⟩ := pickC_some hg hl (fun e => by rw [e] at hG; simp at hG)
    unfold compsC
    rw [hp]
    simp only
    have hkk : left[k]? = some left[k] := List.getElem?_eq_getElem hk
    rcases mem_erase_or hkk hG with e | e
    · rw [hkk, e]; simp
    · refine List.mem_cons_of_mem _ (compsC_all hg f _ (hl.erase k) ?_ G e)
      rw [List.length_eraseIdx]
      simp [hk]; omega
theorem compsL_iff {g : List (List Int)} (hg : rowsB g = true) (G : List Int) : G ∈ compsL g ↔ G ∈ groupsL g :=
  ⟨compsC_mem g _ _ G, compsC_all hg _ _ (left_groups hg) (Nat.le_refl _) G⟩

theorem row_getD {G : List Int} {k : Nat} (h : k < G.length) : G[k]?.getD 0 = G[k] := by rw [List.getElem?_eq_getElem h]; rfl
theorem ord_same {g : List (List Int)} {key l : List Int} (hg : rowsB g = true) (hl : unlikeB l g.length g.length = true) : ordP g key l = ordM g key l := by
  obtain ⟨hlen, hall⟩ := (unlike_iff l g.length).1 hl
  have hin : ∀ x : Int, 0 ≤ x ∧ x < (g.length : Int) → x ∈ l := fun x hx => by
    have := hall x.toNat (by omega)
    rwa [Int.toNat_of_nonneg hx.1] at this
  obtain ⟨P, hP⟩ : ∃ P, P = placeI l := ⟨_, rfl⟩
  have inj : ∀ p q, 0 ≤ p ∧ p < (g.length : Int) → P p = P q → p = q := fun p q hp h => by rw [hP] at h; exact placeI_inj (hin p hp) h
  obtain ⟨F, hF⟩ : ∃ F, F = byKeyL (keyAt key) := ⟨_, rfl⟩
  have hperm : ∀ G, (F G).Perm G := fun G => by rw [hF]; exact byKeyL_perm _ G
  unfold ordP ordM
  rw [← hP, ← hF]
  rw [Bool.eq_iff_iff, Bool.and_eq_true, List.all_eq_true, List.all_eq_true, List.all_eq_true]
  constructor
  · intro h
    have hb : ∀ G, G ∈ groupsL g → ∀ k, k < (F G).length → P ((F G)[k]?.getD 0) = P ((F G)[0]?.getD 0) + k ∧ ∀ n ∈ rowG g ((F G)[k]?.getD 0), ¬ P n > P (lastI (F G)) := fun G hG k hk => by
      have h1 := h (F G) (List.mem_map.2 ⟨G, (compsL_iff hg G).2 hG, rfl⟩)
      unfold blockB at h1
      have h2 := List.all_eq_true.1 h1 k (List.mem_range.2 hk)
      unfold stepB at h2
      rw [Bool.and_eq_true, decide_eq_true_iff, Bool.not_eq_true'] at h2
      refine ⟨h2.1, fun n hn hgt => ?_⟩
      have h3 := h2.2
      unfold behindB at h3
      rw [List.any_eq_false] at h3
      exact h3 n hn (by simpa using hgt)
    refine ⟨fun p hp => ?_, fun G hG => ?_⟩
    · have hpr := (rangeI_mem g.length p).1 hp
      unfold edgeB
      rw [List.all_eq_true]
      intro n hn
      rw [Bool.or_eq_true]
      by_cases hr : hasI (reachL g n) p = true
      · exact .inl hr
      · right
        rw [decide_eq_true_iff]
        intro hgt
        have hnr := row_in hg hn
        have hG : groupL g p ∈ groupsL g := (groupsL_mem hg _).2 ⟨p.toNat, by omega, by congr 1; omega⟩
        have hpG : p ∈ F (groupL g p) := (hperm _).mem_iff.2 (groupL_self hg hpr)
        obtain ⟨k, hk, hkp⟩ := List.getElem_of_mem hpG
        obtain ⟨h1, h2⟩ := hb _ hG k hk
        rw [row_getD hk, hkp] at h1 h2
        have h3 := h2 n hn
        have hm : 0 < (F (groupL g p)).length := by omega
        have h4 := (hb _ hG ((F (groupL g p)).length - 1) (by omega)).1
        unfold lastI at h3
        have hj : ∃ j : Nat, j < (F (groupL g p)).length ∧ P n = P ((F (groupL g p))[0]?.getD 0) + j := ⟨(P n - P ((F (groupL g p))[0]?.getD 0)).toNat, by omega, by omega⟩
        obtain ⟨j, hj1, hj2⟩ := hj
        rw [← (hb _ hG j hj1).1, row_getD hj1] at hj2
        have he := inj n _ hnr hj2
        have hnG : n ∈ groupL g p := (hperm _).mem_iff.1 (by rw [he]; exact List.getElem_mem hj1)
        have hr2 := ((groupL_mem hg hpr n).1 hnG).2
        exact hr ((hasI_mem _ _).2 ((reachL_mem hg hnr p).2 hr2))
    · unfold sideB
      rw [List.all_eq_true]
      intro k hk
      rw [decide_eq_true_iff]
      exact (hb G hG k (List.mem_range.1 hk)).1
  · rintro ⟨h1, h2⟩ D hD
    obtain ⟨G, hG, rfl⟩ := List.mem_map.1 hD
    have hG := (compsL_iff hg G).1 hG
    have hs : ∀ k, k < (F G).length → P ((F G)[k]?.getD 0) = P ((F G)[0]?.getD 0) + k := fun k hk => by
      have h3 := h2 G hG
      unfold sideB at h3
      exact of_decide_eq_true (List.all_eq_true.1 h3 k (List.mem_range.2 hk))
    unfold blockB
    rw [List.all_eq_true]
    intro k hk
    have hk := List.mem_range.1 hk
    unfold stepB
    rw [Bool.and_eq_true, decide_eq_true_iff, Bool.not_eq_true']
    refine ⟨hs k hk, ?_⟩
    unfold behindB
    rw [List.any_eq_false]
    intro n hn hgt
    have hgt : P n > P (lastI (F G)) := by simpa using hgt
    rw [row_getD hk] at hn
    obtain ⟨q, hq, hGq⟩ := (groupsL_mem hg G).1 hG
    have hp : (F G)[k] ∈ G := (hperm G).mem_iff.1 (List.getElem_mem hk)
    have hgq : ∀ x ∈ G, x ∈ groupL g (q : Int) := fun x hx => by rw [← hGq]; exact hx
    have hpr : 0 ≤ (F G)[k] ∧ (F G)[k] < (g.length : Int) := groupL_in hg (by omega) (hgq _ hp)
    have hnr := row_in hg hn
    have hlast : P (lastI (F G)) = P ((F G)[0]?.getD 0) + ((F G).length - 1 : Nat) := by unfold lastI; exact hs _ (by omega)
    have hkk := hs k hk
    rw [row_getD hk] at hkk
    have h3 := h1 (F G)[k] ((rangeI_mem _ _).2 hpr)
    unfold edgeB at h3
    have h4 := List.all_eq_true.1 h3 n hn
    rw [Bool.or_eq_true, decide_eq_true_iff] at h4
    rcases h4 with h4 | h4
    · have hr := (reachL_mem hg hnr _).1 ((hasI_mem _ _).1 h4)
      have hpe : Reach g (F G)[k] n := Reach.self.step hn
      have hsame : groupL g (F G)[k] = G := (groupL_same hg (by omega) (hgq _ hp)).trans hGq.symm
      have hnG : n ∈ G := by rw [← hsame]; exact (groupL_mem hg hpr n).2 ⟨hpe, hr⟩
      obtain ⟨j, hj, hjn⟩ := List.getElem_of_mem ((hperm G).mem_iff.2 hnG)
      have := hs j hj
      rw [row_getD hj, hjn] at this
      omega
    · omega

end Go.Proofs.Ytnmnbeklofnonaa

namespace Go.Proofs.Ytnmnbeklofnonaa
open Go.RowKit
set_option linter.unusedVariables false

/-- The first k numbers rise below e, and r is one more than the last of them, or 0. -/
structure Up (l : List Int) (k : Nat) (r e : Int) : Prop where
  rises : Rises (l.take k)
  low : ∀ x ∈ l.take k, 0 ≤ x ∧ x < r
  last : r = 0 ∨ r - 1 ∈ l.take k
  zero : 0 ≤ r
  below : r ≤ e
theorem up_start (l : List Int) (e : Int) (h : 0 ≤ e) : Up l 0 0 e := ⟨by simp [Rises], by simp, .inl rfl, Int.le_refl _, h⟩
theorem up_next {l : List Int} {k : Nat} {r e : Int} (h : Up l k r e) (hk : k < l.length) (h1 : r ≤ l[k]) (h2 : l[k] < e) : Up l (k + 1) (l[k] + 1) e := by
  have ht : l.take (k + 1) = l.take k ++ [l[k]] := by rw [List.take_add_one, List.getElem?_eq_getElem hk]; rfl
  refine ⟨?_, fun x hx => ?_, .inr ?_, by have := h.zero; omega, by omega⟩
  · rw [ht]
    unfold Rises
    rw [List.pairwise_append]
    refine ⟨h.rises, by simp, fun a ha b hb => ?_⟩
    obtain rfl : b = l[k] := by simpa using hb
    have := (h.low a ha).2
    omega
  · rw [ht] at hx
    rcases List.mem_append.1 hx with hx | hx
    · have := h.low x hx; omega
    · obtain rfl : x = l[k] := by simpa using hx
      have := h.zero; omega
  · rw [show l[k] + 1 - 1 = l[k] by omega, ht]; exact List.mem_append_right _ (List.mem_singleton.2 rfl)
theorem up_low {l : List Int} {k : Nat} {r e : Int} (h : Up l k r e) (hk : k < l.length) (h1 : l[k] < r) : riseB l 0 (e - 1) = false := by
  cases hb : riseB l 0 (e - 1) with
  | false => rfl
  | true =>
    obtain ⟨h2, h3⟩ := riseB_of hb
    rcases h.last with h0 | h0
    · have := (h3 _ (List.getElem_mem hk)).1; omega
    · obtain ⟨i, hi, he⟩ := List.getElem_of_mem h0
      rw [List.length_take] at hi
      rw [List.getElem_take] at he
      have := List.pairwise_iff_getElem.1 h2 i k (by omega) hk (by omega)
      omega
theorem up_high {l : List Int} {k : Nat} {e : Int} (hk : k < l.length) (h1 : e ≤ l[k]) : riseB l 0 (e - 1) = false := by
  cases hb : riseB l 0 (e - 1) with
  | false => rfl
  | true => have := ((riseB_of hb).2 _ (List.getElem_mem hk)).2; omega
theorem up_end {l : List Int} {r e : Int} (h : Up l l.length r e) : riseB l 0 (e - 1) = true := by
  have h1 := h.rises
  have h2 := h.low
  rw [List.take_length] at h1 h2
  have h3 := h.below
  exact riseB_yes h1 (fun x hx => by have := h2 x hx; omega)

set_option maxHeartbeats 800000 in
theorem isRisingBelow_any (v : Value) (l : List Int) (e : Nat) (w : World) (hv : Ints w v l) (he : e ≤ 9223372036854775807) :
    Calls Try.prog 64 #[v, .int .i64 e] w (BoolExt (riseB l 0 ((e : Int) - 1)) w) := by
  obtain ⟨av, cv, rfl, hlv, _, hcv⟩ := hv
  unfold maxLen at hlv
  go_enter Try.func64, Try.ntmps64
  go_wp2
  go_loopw [5, 7, 10] (fun m _ i wr => ∃ (k : Nat) (r : Int), k ≤ l.length ∧ i = .int .i64 k ∧ m = .int .i64 r ∧ Hid (Up l k r e) ∧ Ext w wr) (fun _ _ i _ => l.length - (intOf i).toNat)
  case atStart => exact ⟨0, 0, Nat.zero_le _, rfl, rfl, Lib.hid (up_start l e (by omega)), Ext.refl _⟩
  case round =>
    obtain ⟨k, r, hk, rfl, rfl, hu, hx⟩ := hrel
    by_cases hlt : k < l.length
    · obtain ⟨bv, ov, rfl, dv⟩ := hcv (by omega)
      have gv := hx.cell (dv k hlt)
      rw [List.getElem?_eq_getElem hlt, Option.getD_some] at gv
      obtain ⟨n, hn⟩ : ∃ n, n = l[k] := ⟨_, rfl⟩
      rw [← hn] at gv
      have HN := Lib.hid hn
      clear hcv dv hn
      by_cases h1 : n < r
      · have HP := Lib.hid (up_low hu.out hlt (by rw [← HN.out]; exact h1))
        go_wp2
        go_ret
        exact ⟨by rw [HP.out]; rfl, hx⟩
      · have h1' : r ≤ n := by omega
        by_cases h2 : n < (e : Int)
        · have HP := Lib.hid (up_next hu.out hlt (by rw [← HN.out]; exact h1') (by rw [← HN.out]; exact h2))
          have h0 := hu.out.zero
          go_wp2
          go_roundw
          case rel => exact ⟨k + 1, n + 1, by omega, by go_num, by go_num, by rw [HN.out]; exact HP, hx⟩
          case measure => simp [intOf]; omega
        · have h2' : (e : Int) ≤ n := by omega
          have HP := Lib.hid (up_high (e := (e : Int)) hlt (by rw [← HN.out]; exact h2'))
          clear h1 h2
          go_wp2
          go_ret
          exact ⟨by rw [HP.out]; rfl, hx⟩
    · obtain rfl : k = l.length := by omega
      have HP := Lib.hid (up_end hu.out)
      go_wp2
      go_ret
      exact ⟨by rw [HP.out]; rfl, hx⟩

set_option maxHeartbeats 800000 in
theorem implGoodGraph_any (v : Value) (g : List (List Int)) (w : World) (hv : Intss w v g) :
    Calls Try.prog 24 #[v] w (BoolExt (goodG g) w) := by
  obtain ⟨av, cv, rfl, hlv, _, hcv⟩ := hv
  unfold maxLen at hlv
  by_cases h4 : g.length ≤ 40
  · have h4' : ¬ ((40 : Int) < (g.length : Int)) := by omega
    go_enter Try.func24, Try.ntmps24
    go_wp2
    go_loopw [4, 10] (fun _ i wr => ∃ k : Nat, k ≤ g.length ∧ i = .int .i64 k ∧ (g.take k).all (fun l => riseB l 0 ((g.length : Int) - 1)) = true ∧ Ext w wr) (fun _ i _ => g.length - (intOf i).toNat)
    case atStart => exact ⟨0, Nat.zero_le _, rfl, by simp, Ext.refl _⟩
    case round =>
      obtain ⟨k, hk, rfl, ht, hx⟩ := hrel
      have HT := Lib.hid ht
      clear ht
      by_cases hlt : k < g.length
      · obtain ⟨bu, ou, rfl, du⟩ := hcv (by omega)
        obtain ⟨x, hx1, ix⟩ := du k hlt
        rw [List.getElem?_eq_getElem hlt, Option.getD_some] at ix
        have gu := hx.cell hx1
        have IX := Lib.hid (ix.ext hx)
        have HX := Lib.hid hx
        clear hcv du hx1 ix hx
        go_wp2_with fail
        refine (isRisingBelow_any _ _ g.length _ IX.out (by omega)).mono ?_
        rintro e w1 ⟨rfl, x1⟩
        have hx2 := HX.out.trans x1
        clear x1 gu
        cases hp : riseB g[k] 0 ((g.length : Int) - 1) with
        | true =>
          have HP := Lib.hid hp
          go_wp2
          go_roundw
          case rel => exact ⟨k + 1, by omega, by go_num, allT_succ hlt _ HT.out HP.out, hx2⟩
          case measure => simp [intOf]; omega
        | false =>
          have HG := Lib.hid (goodG_not hlt hp)
          go_wp2
          go_ret
          exact ⟨by rw [HG.out]; rfl, hx2⟩
      · obtain rfl : k = g.length := by omega
        have HG := Lib.hid (goodG_all HT.out)
        have e4 : decide (g.length ≤ 40) = true := decide_eq_true h4
        rw [e4] at HG
        go_wp2
        go_ret
        exact ⟨by rw [HG.out]; rfl, hx⟩
  · have HG : Hid (goodG g = false) := Lib.hid (by unfold goodG; rw [decide_eq_false h4, Bool.and_false])
    have h4' : (40 : Int) < (g.length : Int) := by omega
    clear h4
    go_enter Try.func24, Try.ntmps24
    go_wp2
    go_ret
    exact ⟨by rw [HG.out]; rfl, Ext.refl _⟩

end Go.Proofs.Ytnmnbeklofnonaa

namespace Go.Proofs.Ytnmnbeklofnonaa
open Go.RowKit
set_option linter.unusedVariables false

/-- The point is marked. -/
def onB (bs : List Bool) (x : Int) : Prop := ∃ n : Nat, x = (n : Int) ∧ bs[n]? = some true
theorem onB_set {bs : List Bool} {m : Nat} (hm : m < bs.length) (x : Int) : onB (bs.set m true) x ↔ onB bs x ∨ x = (m : Int) := by
  unfold onB
  constructor
  · rintro ⟨n, rfl, h⟩
    rw [List.getElem?_set] at h
    by_cases e : m = n
    · exact .inr (by omega)
    · rw [if_neg e] at h
      exact .inl ⟨n, rfl, h⟩
  · rintro (⟨n, rfl, h⟩ | rfl)
    · refine ⟨n, rfl, ?_⟩
      rw [List.getElem?_set]
      by_cases e : m = n
      · rw [if_pos e, if_pos hm]
      · rw [if_neg e]; exact h
    · exact ⟨m, rfl, by rw [List.getElem?_set, if_pos rfl, if_pos hm]⟩

/-- bs marks points that k leads to; what is marked and stands not in left has all that it leads to at once marked. -/
structure Led (g : List (List Int)) (k : Int) (bs : List Bool) (left : List Int) : Prop where
  len : bs.length = 40
  first : onB bs k
  reach : ∀ x, onB bs x → Reach g k x
  stack : ∀ x ∈ left, onB bs x
  shut : ∀ x, onB bs x → x ∉ left → ∀ c ∈ rowG g x, onB bs c
/-- The same where the point p is looked at, the first j that it leads to being marked. -/
structure LedAt (g : List (List Int)) (k p : Int) (j : Nat) (bs : List Bool) (left : List Int) : Prop where
  len : bs.length = 40
  first : onB bs k
  reach : ∀ x, onB bs x → Reach g k x
  stack : ∀ x ∈ left, onB bs x
  here : onB bs p
  shut : ∀ x, onB bs x → x ≠ p → x ∉ left → ∀ c ∈ rowG g x, onB bs c
  row : ∀ c ∈ (rowG g p).take j, onB bs c

def noneB : List Bool := List.replicate 40 false
theorem noneB_no (x : Int) : ¬ onB noneB x := by
  rintro ⟨n, rfl, h⟩
  unfold noneB at h
  rw [List.getElem?_replicate] at h
  split at h <;> simp at h
theorem Led.start (g : List (List Int)) (k : Nat) (hk : k < 40) : Led g k (noneB.set k true) [(k : Int)] := by
  have hl : k < noneB.length := by simp [noneB]; exact hk
  have hs := onB_set hl
  refine ⟨by simp [noneB], (hs _).2 (.inr rfl), fun x hx => ?_, fun x hx => ?_, fun x hx hn => ?_⟩
  · rcases (hs x).1 hx with h | rfl
    · exact absurd h (noneB_no x)
    · exact .self
  · obtain rfl : x = k := by simpa using hx
    exact (hs _).2 (.inr rfl)
  · rcases (hs x).1 hx with h | rfl
    · exact absurd h (noneB_no x)
    · exact absurd (by simp) hn
theorem Led.pop {g : List (List Int)} {k p : Int} {bs : List Bool} {left : List Int} (h : Led g k bs (left ++ [p])) : LedAt g k p 0 bs left :=
  ⟨h.len, h.first, h.reach, fun x hx => h.stack x (by simp [hx]), h.stack p (by simp), fun x hx hp hn => h.shut x hx (by simp [hp, hn]), by simp⟩
theorem LedAt.known {g : List (List Int)} {k p : Int} {j : Nat} {bs : List Bool} {left : List Int} (h : LedAt g k p j bs left) (hj : j < (rowG g p).length) (hm : onB bs (rowG g p)[j]) : LedAt g k p (j + 1) bs left := by
  refine ⟨h.len, h.first, h.reach, h.stack, h.here, h.shut, fun c hc => ?_⟩
  rw [List.take_add_one, List.getElem?_eq_getElem hj] at hc
  rcases List.mem_append.1 hc with hc | hc
  · exact h.row c hc
  · obtain rfl : c = (rowG g p)[j] := by simpa using hc
    exact hm
theorem LedAt.add {g : List (List Int)} {k p : Int} {j m : Nat} {bs : List Bool} {left : List Int} (h : LedAt g k p j bs left) (hj : j < (rowG g p).length) (hn : (rowG g p)[j] = (m : Int)) (hm : m < 40) : LedAt g k p (j + 1) (bs.set m true) (left ++ [(m : Int)]) := by
  have hs := onB_set (bs := bs) (m := m) (by rw [h.len]; exact hm)
  refine ⟨by simp [h.len], (hs _).2 (.inl h.first), fun x hx => ?_, fun x hx => ?_, (hs _).2 (.inl h.here), fun x hx hp hno => ?_, fun c hc => ?_⟩
  · rcases (hs x).1 hx with e | rfl
    · exact h.reach x e
    · exact (h.reach p h.here).step (by rw [← hn]; exact List.getElem_mem hj)
  · rcases List.mem_append.1 hx with e | e
    · exact (hs x).2 (.inl (h.stack x e))
    · exact (hs x).2 (.inr (by simpa using e))
  · rcases (hs x).1 hx with e | rfl
    · exact fun c hc => (hs c).2 (.inl (h.shut x e hp (fun q => hno (List.mem_append_left _ q)) c hc))
    · exact absurd (by simp) hno
  · rw [List.take_add_one, List.getElem?_eq_getElem hj] at hc
    rcases List.mem_append.1 hc with hc | hc
    · exact (hs c).2 (.inl (h.row c hc))
    · obtain rfl : c = (rowG g p)[j] := by simpa using hc
      exact (hs _).2 (.inr hn)
theorem LedAt.next {g : List (List Int)} {k p : Int} {j : Nat} {bs : List Bool} {left : List Int} (h : LedAt g k p j bs left) (hj : (rowG g p).length ≤ j) : Led g k bs left := by
  refine ⟨h.len, h.first, h.reach, h.stack, fun x hx hn c hc => ?_⟩
  by_cases e : x = p
  · subst e
    exact h.row c (by rw [List.take_of_length_le hj]; exact hc)
  · exact h.shut x hx e hn c hc
theorem Led.done {g : List (List Int)} {k : Int} {bs : List Bool} (h : Led g k bs []) (x : Int) : onB bs x ↔ Reach g k x := by
  refine ⟨h.reach x, fun r => ?_⟩
  induction r with
  | self => exact h.first
  | step _ hc ih => exact h.shut _ ih (by simp) _ hc

/-- How many steps the search can still take. -/
def roomB (bs : List Bool) (left : List Int) : Nat := bs.count false + left.length
theorem roomB_start (k : Nat) (hk : k < 40) : roomB (noneB.set k true) [(k : Int)] = 40 := by
  have hl : k < noneB.length := by simp [noneB]; exact hk
  have e : noneB[k] = false := by
    unfold noneB
    exact List.getElem_replicate _
  have c : noneB.count false = 40 := by decide
  unfold roomB
  rw [List.count_set hl, e, c]
  simp
theorem roomB_pop (bs : List Bool) (left : List Int) (p : Int) : roomB bs (left ++ [p]) = roomB bs left + 1 := by
  unfold roomB
  simp
  omega
theorem roomB_add {bs : List Bool} {left : List Int} {m : Nat} (n : Int) (h : bs[m]? = some false) : roomB (bs.set m true) (left ++ [n]) = roomB bs left := by
  obtain ⟨hm, he⟩ := List.getElem?_eq_some_iff.1 h
  unfold roomB
  rw [List.count_set hm, he]
  have : 0 < bs.count false := List.count_pos_iff.2 (by rw [← he]; exact List.getElem_mem hm)
  simp
  omega

open Classical in
/-- The marks of all points that k leads to. -/
noncomputable def ledL (g : List (List Int)) (k : Int) : List Bool := (List.range 40).map fun (i : Nat) => decide (Reach g k (i : Int))
open Classical in
theorem Led.all {g : List (List Int)} {k : Int} {bs : List Bool} (h : Led g k bs []) : bs = ledL g k := by
  apply List.ext_getElem?
  intro i
  unfold ledL
  by_cases hi : i < 40
  · have hb : i < bs.length := by rw [h.len]; exact hi
    rw [List.getElem?_eq_getElem hb]
    have e : ((List.range 40).map fun (i : Nat) => decide (Reach g k (i : Int)))[i]? = some (decide (Reach g k (i : Int))) := by simp [hi]
    rw [e]
    cases hc : bs[i] with
    | true => rw [decide_eq_true ((h.done _).1 ⟨i, rfl, by rw [List.getElem?_eq_getElem hb, hc]⟩)]
    | false =>
      rw [decide_eq_false (fun r => ?_)]
      obtain ⟨n, hn, hx⟩ := (h.done _).2 r
      obtain rfl : i = n := by omega
      rw [List.getElem?_eq_getElem hb, hc] at hx
      cases hx
  · rw [List.getElem?_eq_none (by rw [h.len]; omega), List.getElem?_eq_none (by simp; omega)]
theorem ledL_len (g : List (List Int)) (k : Int) : (ledL g k).length = 40 := by simp [ledL]
open Classical in
theorem ledL_get (g : List (List Int)) (k : Int) {i : Nat} (hi : i < 40) : (ledL g k)[i]? = some (decide (Reach g k (i : Int))) := by simp [ledL, hi]

open Classical in
/-- Of the first i points those that k leads to. -/
noncomputable def toldL (g : List (List Int)) (k : Int) (i : Nat) : List Int := ((List.range i).map fun (i : Nat) => (i : Int)).filter fun x => decide (Reach g k x)
open Classical in
theorem toldL_hit {g : List (List Int)} {k : Int} {i : Nat} (h : Reach g k (i : Int)) : toldL g k (i + 1) = toldL g k i ++ [(i : Int)] := by
  simp [toldL, List.range_succ, List.filter_append, h]
open Classical in
theorem toldL_miss {g : List (List Int)} {k : Int} {i : Nat} (h : ¬ Reach g k (i : Int)) : toldL g k (i + 1) = toldL g k i := by
  simp [toldL, List.range_succ, List.filter_append, h]
open Classical in
theorem toldL_len (g : List (List Int)) (k : Int) (i : Nat) : (toldL g k i).length ≤ i := by
  unfold toldL
  exact Nat.le_trans (List.length_filter_le _ _) (by simp)
open Classical in
theorem toldL_all {g : List (List Int)} (hg : rowsB g = true) (hl : g.length ≤ 40) {k : Int} (hk : 0 ≤ k ∧ k < g.length) : toldL g k 40 = reachL g k := by
  refine reachL_unique hg hk (List.Pairwise.filter _ (range_rises _)) (fun x => ?_)
  unfold toldL
  rw [List.mem_filter]
  constructor
  · rintro ⟨_, h⟩; exact of_decide_eq_true h
  · intro h
    have hx := reach_in hg hk h
    exact ⟨List.mem_map.2 ⟨x.toNat, by simp; omega, by omega⟩, decide_eq_true h⟩

end Go.Proofs.Ytnmnbeklofnonaa

namespace Go.Proofs.Ytnmnbeklofnonaa
open Go.RowKit
set_option linter.unusedVariables false

def marksB (bs : List Bool) : Array Value := (bs.map Value.bool).toArray
theorem marksB_size (bs : List Bool) : (marksB bs).size = bs.length := by simp [marksB]
theorem marksB_get (bs : List Bool) (j : Nat) : (marksB bs)[j]? = bs[j]?.map Value.bool := by simp [marksB]
theorem marksB_set (bs : List Bool) (j : Nat) (b : Bool) : (marksB bs).setIfInBounds j (.bool b) = marksB (bs.set j b) := by
  simp [marksB, List.map_set]
theorem Try.infoFourty : (Try.prog.info? 90).map (·.size) = some 40 := by kernel_rfl
theorem marksB_all (bs : List Bool) : (marksB bs).all (·.oneCell') = true := by
  rw [Array.all_eq_true]
  intro i hi
  have : (marksB bs)[i]? = some (marksB bs)[i] := Array.getElem?_eq_getElem hi
  rw [marksB_get] at this
  cases hb : bs[i]? with
  | none => rw [hb] at this; cases this
  | some b => rw [hb] at this; simp at this; rw [← this]; rfl

theorem Fresh.less {B : Nat} {w : World} {ao : Option Addr} {cap : Nat} {l : List Int} (h : Fresh B w (.slice ao l.length cap) l) (k : Nat) (hk : k ≤ l.length) : Fresh B w (.slice ao k cap) (l.take k) := by
  have e : (l.take k).length = k := by simp; omega
  unfold Fresh
  rw [e]
  refine ⟨by simp; omega, ?_⟩
  rcases h.2 with ⟨hv, hn⟩ | ⟨g, cap', cur, hv, hb, hg, hnc, hcm, hcs, ht⟩
  · left
    simp only [Value.slice.injEq] at hv
    obtain ⟨rfl, _, rfl⟩ := hv
    have : k = 0 := by omega
    subst this
    exact ⟨rfl, rfl⟩
  · right
    simp only [Value.slice.injEq] at hv
    obtain ⟨rfl, _, rfl⟩ := hv
    refine ⟨g, cap, cur, rfl, hb, hg, by omega, hcm, hcs, ?_⟩
    rw [List.map_take, ← ht, List.take_take]
    congr 1
    omega

theorem grownBy_cell (w : World) (b i : Nat) (v : Value) : w.grownBy (w.setCell ⟨b, i, none⟩ v) (some b) :=
  ⟨rfl, rfl, rfl, by simp, fun k _ hk => heap_setCell_other _ _ _ _ (by intro e; subst e; exact hk rfl)⟩

/-- The two arrays of the search (the answer's is untouched), and the list of points that are left. -/
structure AtB (w wr : World) (bs : List Bool) (vl : Value) (left : List Int) : Prop where
  out : wr.heap[w.heap.size]? = some (.cells (marksB noneB) 90 (0, 0))
  led : wr.heap[w.heap.size + 1]? = some (.cells (marksB bs) 90 (0, 0))
  left : Fresh (w.heap.size + 2) wr vl left
  size : w.heap.size + 2 ≤ wr.heap.size
  ext : Ext w wr
theorem AtB.less {w wr : World} {bs : List Bool} {ao : Option Addr} {cap t : Nat} {left : List Int} {p : Int} (ht : left.length = t) (h : AtB w wr bs (.slice ao (t + 1) cap) (left ++ [p])) : AtB w wr bs (.slice ao t cap) left := by
  subst ht
  have hl : (left ++ [p]).length = left.length + 1 := by simp
  have := Fresh.less (k := left.length) (l := left ++ [p]) (by rw [hl]; exact h.left) (by omega)
  rw [List.take_left] at this
  exact ⟨h.out, h.led, this, h.size, h.ext⟩
theorem AtB.mark {w wr : World} {bs : List Bool} {vl : Value} {left : List Int} (h : AtB w wr bs vl left) (m : Nat) : AtB w (wr.setCell ⟨w.heap.size + 1, m, none⟩ (.bool true)) (bs.set m true) vl left := by
  refine ⟨?_, ?_, ?_, ?_, Below.setCell h.ext (Nat.le_succ _) _⟩
  · rw [heap_setCell_other _ _ _ _ (by show w.heap.size ≠ w.heap.size + 1; omega)]; exact h.out
  · have := heap_setCell_same wr (w.heap.size + 1) m _ _ (.bool true) h.led
    rw [marksB_set] at this
    exact this
  · refine World.ownsRow.kept h.left (grownBy_cell wr (w.heap.size + 1) m (.bool true)) ?_
    cases hv : vl.ownBlock with
    | none => exact .inl rfl
    | some q =>
      refine .inr fun e => ?_
      cases e
      have := (World.ownsRow.lt h.left _ hv).1
      omega
  · have := h.size
    simpa using this
theorem AtB.cell {w wr : World} {bs : List Bool} {vl : Value} {left : List Int} (h : AtB w wr bs vl left) {m : Nat} {b : Bool} (hb : bs[m]? = some b) : wr.cell? ⟨w.heap.size + 1, m, none⟩ = some (.bool b) := by
  rw [cell_of_row wr _ _ _ _ _ h.led, marksB_get, hb]
  rfl
theorem AtB.free {w wr : World} {bs : List Bool} {vl : Value} {left : List Int} (h : AtB w wr bs vl left) (m : Nat) : wr.frozen? ⟨w.heap.size + 1, m, none⟩ = false := frozen_of_row wr _ m _ _ h.led
theorem AtB.push {w wr w1 : World} {bs : List Bool} {vl v1 : Value} {left l1 : List Int} (h : AtB w wr bs vl left) {o : Obj} (f : Fresh (w.heap.size + 2) w1 v1 l1) (g : (wr.alloc o).grownBy w1 vl.ownBlock) (k : Kept (w.heap.size + 2) (wr.alloc o) w1) : AtB w w1 bs v1 l1 := by
  have hsz := h.size
  have hal : (wr.alloc o).heap.size = wr.heap.size + 1 := by simp
  have hne : ∀ q : Nat, q < w.heap.size + 2 → some q ≠ vl.ownBlock := fun q hq e => by
    have := (World.ownsRow.lt h.left q e.symm).1
    omega
  refine ⟨?_, ?_, f, by have := g.size; omega, ?_⟩
  · rw [g.block _ (by omega) (hne _ (by omega)), heap_alloc_old _ _ (by omega)]; exact h.out
  · rw [g.block _ (by omega) (hne _ (by omega)), heap_alloc_old _ _ (by omega)]; exact h.led
  · exact k w (h.ext.alloc _) (by omega)

theorem atB_start (w : World) (k : Nat) (hk : k < 40) : AtB w (((w.alloc (.cells #[.bool false, .bool false, .bool false, .bool false, .bool false, .bool false, .bool false, .bool false, .bool false, .bool false, .bool false, .bool false, .bool false, .bool false, .bool false, .bool false, .bool false, .bool false, .bool false, .bool false, .bool false, .bool false, .bool false, .bool false, .bool false, .bool false, .bool false, .bool false, .bool false, .bool false, .bool false, .bool false, .bool false, .bool false, .bool false, .bool false, .bool false, .bool false, .bool false, .bool false] 90)).alloc (.cells ([.bool false, .bool false, .bool false, .bool false, .bool false, .bool false, .bool false, .bool false, .bool false, .bool false, .bool false, .bool false, .bool false, .bool false, .bool false, .bool false, .bool false, .bool false, .bool false, .bool false, .bool false, .bool false, .bool false, .bool false, .bool false, .bool false, .bool false, .bool false, .bool false, .bool false, .bool false, .bool false, .bool false, .bool false, .bool false, .bool false, .bool false, .bool false, .bool false, .bool false].set k (.bool true)).toArray 90)).alloc (.cells #[.int .i64 k] 3)) (noneB.set k true) (.slice (some ⟨w.heap.size + 1 + 1, 0, none⟩) 1 1) [(k : Int)] := by
  have e0 : (#[.bool false, .bool false, .bool false, .bool false, .bool false, .bool false, .bool false, .bool false, .bool false, .bool false, .bool false, .bool false, .bool false, .bool false, .bool false, .bool false, .bool false, .bool false, .bool false, .bool false, .bool false, .bool false, .bool false, .bool false, .bool false, .bool false, .bool false, .bool false, .bool false, .bool false, .bool false, .bool false, .bool false, .bool false, .bool false, .bool false, .bool false, .bool false, .bool false, .bool false] : Array Value) = marksB noneB := by rfl
  have e1 : ([.bool false, .bool false, .bool false, .bool false, .bool false, .bool false, .bool false, .bool false, .bool false, .bool false, .bool false, .bool false, .bool false, .bool false, .bool false, .bool false, .bool false, .bool false, .bool false, .bool false, .bool false, .bool false, .bool false, .bool false, .bool false, .bool false, .bool false, .bool false, .bool false, .bool false, .bool false, .bool false, .bool false, .bool false, .bool false, .bool false, .bool false, .bool false, .bool false, .bool false].set k (.bool true)).toArray = marksB (noneB.set k true) := by
    rw [← marksB_set, ← e0]
    simp
  rw [e0, e1]
  have s1 : (w.alloc (.cells (marksB noneB) 90)).heap.size = w.heap.size + 1 := by simp
  have s2 : ((w.alloc (.cells (marksB noneB) 90)).alloc (.cells (marksB (noneB.set k true)) 90)).heap.size = w.heap.size + 2 := by simp
  refine ⟨?_, ?_, ?_, by simp, ((Ext.alloc (Ext.refl _) _).alloc _).alloc _⟩
  · rw [heap_alloc_old _ _ (by omega), heap_alloc_old _ _ (by omega)]; exact heap_alloc_new _ _
  · rw [heap_alloc_old _ _ (by omega)]
    have := heap_alloc_new (w.alloc (.cells (marksB noneB) 90)) (.cells (marksB (noneB.set k true)) 90)
    rw [s1] at this
    exact this
  · have := fresh_lit ((w.alloc (.cells (marksB noneB) 90)).alloc (.cells (marksB (noneB.set k true)) 90)) [(k : Int)] #[.int .i64 k] (w.heap.size + 2) rfl (by omega) (by simp)
    rw [s2] at this
    exact this

end Go.Proofs.Ytnmnbeklofnonaa

namespace Go.Proofs.Ytnmnbeklofnonaa
open Go.RowKit
set_option linter.unusedVariables false

def numsA (fs : List Int) : Array Value := (fs.map (Value.int .i64)).toArray
theorem numsA_size (fs : List Int) : (numsA fs).size = fs.length := by simp [numsA]
theorem numsA_get (fs : List Int) (j : Nat) : (numsA fs)[j]? = fs[j]?.map (Value.int .i64) := by simp [numsA]
theorem numsA_set (fs : List Int) (j : Nat) (n : Int) : (numsA fs).setIfInBounds j (.int .i64 n) = numsA (fs.set j n) := by simp [numsA, List.map_set]
def atN (fs : List Int) (q : Nat) : Int := fs[q]?.getD 0
theorem Try.infoNums : (Try.prog.info? 96).map (·.size) = some 40 := by kernel_rfl
theorem nums_cell {w : World} {b : Nat} {fs : List Int} (h : w.heap[b]? = some (.cells (numsA fs) 96 (0, 0))) (hl : fs.length = 40) {q : Nat} (hq : q < 40) : w.cell? ⟨b, q, none⟩ = some (.int .i64 (atN fs q)) := by
  rw [cell_of_row w _ _ _ _ _ h, numsA_get, List.getElem?_eq_getElem (by rw [hl]; exact hq)]
  unfold atN
  rw [List.getElem?_eq_getElem (by rw [hl]; exact hq)]
  rfl

/-- A load of a whole array in a region whose operations but the last only read. -/
theorem wpStill_load_row {P : Program} {ops : Array Oper} {rest : List Oper} {o : Oper} {a : Act} {w : World} {Q : Act → Prop} (hgd : o.guard = none) (ty : TypeId) (x : Operand) (ho : o.op = .load ty x)
    (g : Nat) (hx : a.eval x = .pointer (some ⟨g, 0, none⟩)) (t : TypeId) (cs : Array Value) (fr : Nat × Nat) (d : TypeDesc) (hg : w.heap[g]? = some (.cells cs t fr))
    (hu : P.underlying ty = some d) (hd : (match d with | .struct _ | .array _ _ => true | _ => false) = true) (hi : (P.info? ty).map (·.size) = some cs.size)
    (h : wpStill P ops w Q rest (a.put o.dst (.agg cs))) : wpStill P ops w Q (o :: rest) a := by
  unfold wpStill
  rw [if_pos (by simp [Region.wanted, hgd])]
  unfold Oper.still execOp
  simp only [ho, hx, Instr.loadAt, Instr.sureAddr, Sem.run_bind, Sem.run_pure, Result.andThen_ok, run_loadVar_row w g t ty cs fr d hg hu hd hi]
  exact ⟨rfl, h⟩

set_option maxHeartbeats 4000000 in
theorem standsBehind_any (v : Value) (R fs : List Int) (last : Nat) (w : World) (hv : Ints w v R) (hl : fs.length = 40) (hlast : last < 40) (hR : ∀ x ∈ R, 0 ≤ x ∧ x < 40) :
    Calls Try.prog 80 #[v, .agg (numsA fs), .int .i64 last] w (BoolExt (R.any fun n => decide (atN fs n.toNat > atN fs last)) w) := by
  obtain ⟨av, cv, rfl, hlv, _, dv⟩ := hv
  unfold maxLen at hlv
  have DV := Lib.hid dv
  have HL := Lib.hid hl
  have HR := Lib.hid hR
  obtain ⟨p, hp⟩ : ∃ p : Int → Bool, p = fun n => decide (atN fs n.toNat > atN fs last) := ⟨_, rfl⟩
  rw [← hp]
  have HP := Lib.hid hp
  clear dv hl hR hp
  obtain ⟨wb, hwb⟩ : ∃ x : World, x = w.alloc (.cells (numsA fs) 96) := ⟨_, rfl⟩
  have hxb : Ext w wb := by rw [hwb]; exact Ext.alloc (Ext.refl _) _
  have hbk : wb.heap[w.heap.size]? = some (.cells (numsA fs) 96 (0, 0)) := by rw [hwb]; exact heap_alloc_last w _
  have HXB := Lib.hid hxb
  have HBK := Lib.hid hbk
  have HWB := Lib.hid hwb
  clear hxb hbk hwb
  go_enter Try.func80, Try.ntmps80
  go_wp2
  rw [← HWB.out]
  go_loopw [8, 11] (fun _ i wr => ∃ k : Nat, k ≤ R.length ∧ i = .int .i64 k ∧ Hid ((R.take k).any p = false) ∧ Hid (Ext wb wr)) (fun _ i _ => R.length - (intOf i).toNat)
  case atStart => exact ⟨0, Nat.zero_le _, rfl, Lib.hid (by simp), Lib.hid (Ext.refl _)⟩
  case round =>
    obtain ⟨k, hk, rfl, hA, hX⟩ := hrel
    obtain ⟨w1, hw1⟩ : ∃ x : World, x = wr := ⟨_, rfl⟩
    subst hw1
    by_cases hlt : k < R.length
    · obtain ⟨bv, ov, rfl, ev⟩ := DV.out (by omega)
      have z1 := (HXB.out.trans hX.out).cell (ev k hlt)
      rw [List.getElem?_eq_getElem hlt, Option.getD_some] at z1
      have hob := HR.out _ (List.getElem_mem hlt)
      obtain ⟨o, ho⟩ : ∃ o : Nat, R[k] = (o : Int) := ⟨R[k].toNat, by omega⟩
      have ho40 : o < 40 := by omega
      have hpo : p (o : Int) = decide (atN fs o > atN fs last) := by rw [HP.out]; simp
      have HS : Hid (p (o : Int) = false → (R.take (k + 1)).any p = false) := Lib.hid (fun h => any_take_succ hlt p hA.out (by rw [List.getElem?_eq_getElem hlt, Option.getD_some, ho]; exact h))
      have HT : Hid (p (o : Int) = true → R.any p = true) := Lib.hid (fun h => any_true_at hlt p (by rw [List.getElem?_eq_getElem hlt, Option.getD_some, ho]; exact h))
      rw [ho] at z1
      have z2 := hX.out.cell (nums_cell HBK.out HL.out ho40)
      have z3 := hX.out.cell (nums_cell HBK.out HL.out hlast)
      obtain ⟨a, ha⟩ : ∃ a, a = atN fs o := ⟨_, rfl⟩
      obtain ⟨b, hb⟩ : ∃ b, b = atN fs last := ⟨_, rfl⟩
      rw [← ha] at z2 hpo
      rw [← hb] at z3 hpo
      have HPO := Lib.hid hpo
      have i0 : (0 : Int) ≤ (o : Int) := by omega
      have i1 : (o : Int) < 40 := by omega
      have i2 : (0 : Int) ≤ (last : Int) := by omega
      have i3 : (last : Int) < 40 := by omega
      clear ev hob ho hpo ha hb
      go_wp2
      go_quiet (fail)
      have HXQ : Hid (Ext wb (w1.drewN nq)) := Lib.hid (hX.out.drewN nq)
      by_cases hgt : a > b
      · have HTT := Lib.hid (HT.out (by rw [HPO.out]; simp; omega))
        go_wp2
        go_ret
        exact ⟨by rw [HTT.out]; rfl, HXB.out.trans HXQ.out⟩
      · have HSS := Lib.hid (HS.out (by rw [HPO.out]; simp; omega))
        have hgt' : ¬ b < a := hgt
        go_wp2
        go_roundw
        case rel => exact ⟨k + 1, by omega, by go_num, HSS, HXQ⟩
        case measure => simp [intOf]; omega
    · obtain rfl : k = R.length := by omega
      have HF : Hid (R.any p = false) := Lib.hid (by have := hA.out; rwa [List.take_length] at this)
      go_wp2
      go_ret
      exact ⟨by rw [HF.out]; rfl, HXB.out.trans hX.out⟩

end Go.Proofs.Ytnmnbeklofnonaa
