/- Texts of this proof, part d: words, plain facts, contracts. -/
import Derived.Test.YtbffkidkfannhaaMGoodReplicab
import Derived.Test.YtbffkidkfannhaaMGoodReplicaa
import Derived.Test.YtbffkidkfannhaaMGoodReplicac

namespace Go.Proofs.Ytbffkidkfannhaa
open Go.RowKit
set_option linter.unusedVariables false

theorem lead_cells {w : World} {b : Nat} {d : LeadD} {u1 u2 u3 u4 : Value} (h : BoxV w b (leadVs d u1 u2 u3 u4)) :
    w.cell? ⟨b, 0, none⟩ = some (.int .i64 d.rp) ∧ w.cell? ⟨b, 1, none⟩ = some (.int .i64 d.no) ∧ w.cell? ⟨b, 2, none⟩ = some (.int .i64 d.bl) ∧ w.cell? ⟨b, 3, none⟩ = some (.int .i64 d.ph) ∧ w.cell? ⟨b, 4, none⟩ = some (.int .i64 d.k) ∧ w.cell? ⟨b, 5, none⟩ = some (.int .i64 d.i) ∧ w.cell? ⟨b, 6, none⟩ = some (.int .i64 d.f) ∧ w.cell? ⟨b, 7, none⟩ = some (.int .i64 d.t) ∧ w.cell? ⟨b, 8, none⟩ = some (.int .i64 d.a) ∧ w.cell? ⟨b, 9, none⟩ = some (.int .i64 d.s1) ∧ w.cell? ⟨b, 10, none⟩ = some u1 ∧ w.cell? ⟨b, 11, none⟩ = some (.int .i64 d.s2) ∧ w.cell? ⟨b, 12, none⟩ = some u2 ∧ w.cell? ⟨b, 13, none⟩ = some (.bool d.sm) ∧ w.cell? ⟨b, 14, none⟩ = some u3 ∧ w.cell? ⟨b, 15, none⟩ = some u4 :=
  ⟨h.cell 0 _ rfl, h.cell 1 _ rfl, h.cell 2 _ rfl, h.cell 3 _ rfl, h.cell 4 _ rfl, h.cell 5 _ rfl, h.cell 6 _ rfl, h.cell 7 _ rfl, h.cell 8 _ rfl, h.cell 9 _ rfl, h.cell 10 _ rfl, h.cell 11 _ rfl, h.cell 12 _ rfl, h.cell 13 _ rfl, h.cell 14 _ rfl, h.cell 15 _ rfl⟩
theorem leadIn_cells {w : World} {b o : Nat} {d : LeadD} {u1 u2 u3 u4 : Value} (h : LeadIn w b o d u1 u2 u3 u4) :
    w.cell? ⟨b, o, none⟩ = some (.int .i64 d.rp) ∧ w.cell? ⟨b, o + 1, none⟩ = some (.int .i64 d.no) ∧ w.cell? ⟨b, o + 2, none⟩ = some (.int .i64 d.bl) ∧ w.cell? ⟨b, o + 3, none⟩ = some (.int .i64 d.ph) ∧ w.cell? ⟨b, o + 4, none⟩ = some (.int .i64 d.k) ∧ w.cell? ⟨b, o + 5, none⟩ = some (.int .i64 d.i) ∧ w.cell? ⟨b, o + 6, none⟩ = some (.int .i64 d.f) ∧ w.cell? ⟨b, o + 7, none⟩ = some (.int .i64 d.t) ∧ w.cell? ⟨b, o + 8, none⟩ = some (.int .i64 d.a) ∧ w.cell? ⟨b, o + 9, none⟩ = some (.int .i64 d.s1) ∧ w.cell? ⟨b, o + 10, none⟩ = some u1 ∧ w.cell? ⟨b, o + 11, none⟩ = some (.int .i64 d.s2) ∧ w.cell? ⟨b, o + 12, none⟩ = some u2 ∧ w.cell? ⟨b, o + 13, none⟩ = some (.bool d.sm) ∧ w.cell? ⟨b, o + 14, none⟩ = some u3 ∧ w.cell? ⟨b, o + 15, none⟩ = some u4 :=
  ⟨h 0 _ rfl, h 1 _ rfl, h 2 _ rfl, h 3 _ rfl, h 4 _ rfl, h 5 _ rfl, h 6 _ rfl, h 7 _ rfl, h 8 _ rfl, h 9 _ rfl, h 10 _ rfl, h 11 _ rfl, h 12 _ rfl, h 13 _ rfl, h 14 _ rfl, h 15 _ rfl⟩
theorem szLead_step {left x y : Int} {a b : Nat} (h : lessened left a = x) (h0 : ¬ left < a) (hy : lessened (left - a) b = y) : lessened left (a + b) = y := by
  rw [← hy]
  unfold lessened
  split <;> split <;> omega
set_option maxHeartbeats 2000000 in
set_option maxRecDepth 100000 in
theorem szLead_any (d : LeadD) (u1 u2 u3 u4 : Value) (left : Int) (w : World) (hl : LeadL w d u1 u2 u3 u4) (h0 : 0 ≤ left) (h1 : left ≤ 1099511627776) :
    Calls Try.prog 57 #[.agg #[.int .i64 d.rp, .int .i64 d.no, .int .i64 d.bl, .int .i64 d.ph, .int .i64 d.k, .int .i64 d.i, .int .i64 d.f, .int .i64 d.t, .int .i64 d.a, .int .i64 d.s1, u1, .int .i64 d.s2, u2, .bool d.sm, u3, u4], .int .i64 left] w (IntExt (lessened left (bulkD d)) w) := by
  have xb := Ext.alloc1 w (.cells #[.int .i64 d.rp, .int .i64 d.no, .int .i64 d.bl, .int .i64 d.ph, .int .i64 d.k, .int .i64 d.i, .int .i64 d.f, .int .i64 d.t, .int .i64 d.a, .int .i64 d.s1, u1, .int .i64 d.s2, u2, .bool d.sm, u3, u4] 96)
  have hb := lead_box w 96 d u1 u2 u3 u4
  have HL := Lib.hid (hl.ext xb)
  have HB := Lib.hid hb
  have HX := Lib.hid xb
  clear hl xb
  obtain ⟨p0, p1, p2, p3, p4, p5, p6, p7, p8, p9, p10, p11, p12, p13, p14, p15⟩ := lead_cells hb
  clear hb
  have hbd : bulkD d = d.l1.length + (d.l2.length + (d.who.length + bulkR d.seen)) := by unfold bulkD; omega
  rw [hbd]
  clear hbd
  go_enter Try.func57, Try.ntmps57
  go_wp2_with fail
  refine (szAttr_any _ _ d.l1 _ _ HL.out.i1 h0 h1).mono ?_
  rintro e w1 ⟨rfl, x1⟩
  have X1 := Lib.hid x1
  clear x1 p0 p1 p2 p3 p4 p5 p6 p7 p8 p9 p10 p11 p12 p13 p14 p15
  by_cases g1 : left < d.l1.length
  · have HE : Hid (lessened left (d.l1.length + (d.l2.length + (d.who.length + bulkR d.seen))) = -1) := Lib.hid (lessened_no (by omega))
    rw [lessened_no g1]
    go_wp2
    go_ret
    exact ⟨by rw [HE.out]; first | done | rfl, HX.out.trans X1.out⟩
  rw [lessened_yes (by omega)]
  have hx1 : lessened left (d.l1.length + (d.l2.length + (d.who.length + bulkR d.seen))) = lessened (left - d.l1.length) (d.l2.length + (d.who.length + bulkR d.seen)) := by unfold lessened; split <;> split <;> omega
  obtain ⟨r1, hr1⟩ : ∃ r1, r1 = left - (d.l1.length : Int) := ⟨_, rfl⟩
  rw [← hr1] at hx1 ⊢
  have r10 : 0 ≤ r1 := by omega
  have r11 : r1 ≤ 1099511627776 := by omega
  have HX1 := Lib.hid hx1
  clear hx1 hr1 g1
  obtain ⟨p0, p1, p2, p3, p4, p5, p6, p7, p8, p9, p10, p11, p12, p13, p14, p15⟩ := lead_cells (HB.out.ext X1.out)
  go_wp2_with fail
  refine (szAttr_any _ _ d.l2 _ _ (HL.out.i2.ext X1.out) r10 r11).mono ?_
  rintro e w2 ⟨rfl, x2⟩
  have X2 := Lib.hid (X1.out.trans x2)
  clear x2 X1 p0 p1 p2 p3 p4 p5 p6 p7 p8 p9 p10 p11 p12 p13 p14 p15
  by_cases g1 : r1 < d.l2.length
  · have HE : Hid (lessened r1 (d.l2.length + (d.who.length + bulkR d.seen)) = -1) := Lib.hid (lessened_no (by omega))
    rw [lessened_no g1]
    go_wp2
    go_ret
    exact ⟨by rw [HX1.out, HE.out]; first | done | rfl, HX.out.trans X2.out⟩
  rw [lessened_yes (by omega)]
  have hx1 : lessened r1 (d.l2.length + (d.who.length + bulkR d.seen)) = lessened (r1 - d.l2.length) (d.who.length + bulkR d.seen) := by unfold lessened; split <;> split <;> omega
  obtain ⟨r2, hr2⟩ : ∃ r2, r2 = r1 - (d.l2.length : Int) := ⟨_, rfl⟩
  rw [← hr2] at hx1 ⊢
  have r20 : 0 ≤ r2 := by omega
  have r21 : r2 ≤ 1099511627776 := by omega
  have HX2 := Lib.hid (HX1.out.trans hx1)
  clear hx1 hr2 g1 HX1
  obtain ⟨p0, p1, p2, p3, p4, p5, p6, p7, p8, p9, p10, p11, p12, p13, p14, p15⟩ := lead_cells (HB.out.ext X2.out)
  go_wp2_with fail
  refine (szIntS_any _ d.who _ _ (HL.out.i3.ext X2.out) r20 r21).mono ?_
  rintro e w' ⟨rfl, rfl⟩
  clear p0 p1 p2 p3 p4 p5 p6 p7 p8 p9 p10 p11 p12 p13 p14 p15
  by_cases g1 : r2 < d.who.length
  · have HE : Hid (lessened r2 (d.who.length + bulkR d.seen) = -1) := Lib.hid (lessened_no (by omega))
    rw [lessened_no g1]
    go_wp2
    go_ret
    exact ⟨by rw [HX2.out, HE.out]; first | done | rfl, HX.out.trans X2.out⟩
  rw [lessened_yes (by omega)]
  have hx1 : lessened r2 (d.who.length + bulkR d.seen) = lessened (r2 - d.who.length) (bulkR d.seen) := by unfold lessened; split <;> split <;> omega
  obtain ⟨r3, hr3⟩ : ∃ r3, r3 = r2 - (d.who.length : Int) := ⟨_, rfl⟩
  rw [← hr3] at hx1 ⊢
  have r30 : 0 ≤ r3 := by omega
  have r31 : r3 ≤ 1099511627776 := by omega
  have HX3 := Lib.hid (HX2.out.trans hx1)
  clear hx1 hr3 g1 HX2
  obtain ⟨p0, p1, p2, p3, p4, p5, p6, p7, p8, p9, p10, p11, p12, p13, p14, p15⟩ := lead_cells (HB.out.ext X2.out)
  go_wp2_with fail
  refine (szRowS_any _ d.seen _ _ (HL.out.i4.ext X2.out) r30 r31).mono ?_
  rintro e w3 ⟨rfl, x3⟩
  have hx := HX.out.trans (X2.out.trans x3)
  clear x3 p0 p1 p2 p3 p4 p5 p6 p7 p8 p9 p10 p11 p12 p13 p14 p15
  by_cases g1 : r3 < bulkR d.seen
  · have e4 := lessened_no g1
    rw [e4]
    have HE := Lib.hid (HX3.out.trans e4)
    clear e4 g1 HX3
    go_wp2
    go_ret
    exact ⟨by rw [HE.out]; first | done | rfl, hx⟩
  · have e4 := lessened_yes (left := r3) (n := bulkR d.seen) (by omega)
    have r40 : 0 ≤ r3 - (bulkR d.seen : Int) := by omega
    obtain ⟨r4, hr4⟩ : ∃ r4, r4 = r3 - (bulkR d.seen : Int) := ⟨_, rfl⟩
    rw [← hr4] at e4 r40
    rw [e4]
    have HE := Lib.hid (HX3.out.trans e4)
    clear hr4 e4 g1 HX3
    go_wp2
    go_ret
    exact ⟨by rw [HE.out]; first | done | rfl, hx⟩
end Go.Proofs.Ytbffkidkfannhaa

namespace Go.Proofs.Ytbffkidkfannhaa
open Go.RowKit

/-- How many from the front are less. -/
def ahead (l : List Int) (n : Int) : Nat := (l.takeWhile fun x => decide (x < n)).length
def putI (l : List Int) (n : Int) : List Int := if l[ahead l n]? = some n then l else l.take (ahead l n) ++ [n] ++ l.drop (ahead l n)
theorem ahead_stop {l : List Int} {n : Int} {k : Nat} (hk : k < l.length) (ha : ∀ x ∈ l.take k, x < n) (hs : ¬ l[k] < n) : ahead l n = k := by
  induction l generalizing k with
  | nil => simp at hk
  | cons y l ih =>
    cases k with
    | zero => simp at hs; simp [ahead, List.takeWhile_cons]; omega
    | succ k =>
      have hy : y < n := ha y (by simp)
      have := ih (k := k) (by simpa using hk) (fun x hx => ha x (by simp [hx])) (by simpa using hs)
      unfold ahead at this ⊢
      rw [List.takeWhile_cons, if_pos (by simpa using hy), List.length_cons, this]
theorem ahead_all {l : List Int} {n : Int} (ha : ∀ x ∈ l, x < n) : ahead l n = l.length := by
  unfold ahead
  induction l with
  | nil => rfl
  | cons y l ih => rw [List.takeWhile_cons, if_pos (by simpa using ha y (by simp)), List.length_cons, ih (fun x hx => ha x (by simp [hx])), List.length_cons]

def PutR (v : Value) (l : List Int) (n : Int) (w : World) (e : Ending) (w' : World) : Prop :=
  ∃ v', e = .returned v' ∧ Ext w w' ∧ ((v' = v ∧ putI l n = l) ∨ Fresh w.heap.size w' v' (putI l n))

theorem Ints.behind {w : World} {cap : Nat} {l : List Int} {b off : Nat} (h : Ints w (.slice (some ⟨b, off, none⟩) l.length cap) l) (k : Nat) (hk : k ≤ l.length) : Ints w (.slice (some ⟨b, off + k, none⟩) (l.length - k) (cap - k)) (l.drop k) := by
  obtain ⟨ao', cap', he, hm, hcap, hc⟩ := h
  simp only [Value.slice.injEq] at he
  obtain ⟨rfl, _, rfl⟩ := he
  have e : (l.drop k).length = l.length - k := by simp
  refine ⟨some ⟨b, off + k, none⟩, cap - k, by rw [e], by omega, ⟨by have := hcap.1; omega, by have := hcap.2.1; omega, fun h => by cases h⟩, fun hp => ?_⟩
  obtain ⟨b', off', ha, hj⟩ := hc (by omega)
  cases ha
  refine ⟨b, off + k, rfl, fun j hjl => ?_⟩
  rw [Nat.add_assoc, hj (k + j) (by omega), List.getElem?_drop]
theorem Ints.none_of {w : World} {ao : Option Addr} {cap : Nat} (hc : cap ≤ maxLen) (h : ao = none → cap = 0) : Ints w (.slice ao 0 cap) [] :=
  ⟨ao, cap, rfl, by simp, ⟨by simp, hc, h⟩, fun h => by simp at h⟩

/-- The two ends of a cut. -/
theorem Ints.upto {w : World} {ao : Option Addr} {cap : Nat} {l : List Int} (h : Ints w (.slice ao l.length cap) l) (k : Nat) (hk : k ≤ l.length) : Ints w (.slice ao k cap) (l.take k) := by
  obtain ⟨ao', cap', he, hm, hcap, hc⟩ := h
  simp only [Value.slice.injEq] at he
  obtain ⟨rfl, _, rfl⟩ := he
  have e : (l.take k).length = k := by first | omega | (simp; omega)
  refine ⟨ao, cap, by rw [e], by omega, ⟨by omega, hcap.2⟩, fun hp => ?_⟩
  obtain ⟨b, off, ha, hj⟩ := hc (by omega)
  refine ⟨b, off, ha, fun j hjl => ?_⟩
  rw [hj j (by omega), List.getElem?_take, if_pos (by omega)]

end Go.Proofs.Ytbffkidkfannhaa

namespace Go.Proofs.Ytbffkidkfannhaa
open Go.RowKit
set_option linter.unusedVariables false

/-! ### Rising lists -/
/-- Strictly rising. -/
def Rises (l : List Int) : Prop := l.Pairwise (· < ·)
instance (l : List Int) : Decidable (Rises l) := inferInstanceAs (Decidable (List.Pairwise _ _))
/-- Whether numbers are rising, within bounds. -/
def riseB (l : List Int) (lo hi : Int) : Bool := decide (Rises l) && allIn l lo hi
theorem riseB_of {l : List Int} {lo hi : Int} (h : riseB l lo hi = true) : Rises l ∧ ∀ x ∈ l, lo ≤ x ∧ x ≤ hi := by
  unfold riseB allIn inB at h
  simpa using h
theorem riseB_yes {l : List Int} {lo hi : Int} (h : Rises l) (k : ∀ x ∈ l, lo ≤ x ∧ x ≤ hi) : riseB l lo hi = true := by
  unfold riseB allIn inB
  simpa using ⟨h, k⟩

theorem take_while (p : Int → Bool) : ∀ l : List Int, l.take (l.takeWhile p).length = l.takeWhile p
  | [] => rfl
  | x :: l => by
    cases h : p x
    · simp [h]
    · simp [h, take_while p l]
theorem mem_while (p : Int → Bool) : ∀ (l : List Int) (x : Int), x ∈ l.takeWhile p → p x = true
  | [], x, h => by simp at h
  | y :: l, x, h => by
    cases hy : p y
    · simp [hy] at h
    · rw [List.takeWhile_cons, if_pos hy] at h
      rcases List.mem_cons.1 h with rfl | h
      · exact hy
      · exact mem_while p l x h
theorem mem_ahead {l : List Int} {n x : Int} (h : x ∈ l.take (ahead l n)) : x < n := by
  unfold ahead at h
  rw [take_while] at h
  have := mem_while _ _ _ h
  simpa using this
theorem ahead_le (l : List Int) (n : Int) : ahead l n ≤ l.length := (List.takeWhile_sublist _).length_le
theorem at_ahead : ∀ (l : List Int) (n x : Int), l[ahead l n]? = some x → n ≤ x
  | [], n, x, h => by simp [ahead] at h
  | y :: l, n, x, h => by
    by_cases hy : y < n
    · have e : ahead (y :: l) n = ahead l n + 1 := by simp [ahead, hy]
      rw [e, List.getElem?_cons_succ] at h
      exact at_ahead l n x h
    · have e : ahead (y :: l) n = 0 := by simp [ahead, hy]
      rw [e] at h
      simp at h
      omega

theorem putI_mem (l : List Int) (n x : Int) : x ∈ putI l n ↔ x ∈ l ∨ x = n := by
  unfold putI
  by_cases h : l[ahead l n]? = some n
  · rw [if_pos h]
    constructor
    · exact Or.inl
    · rintro (h' | rfl)
      · exact h'
      · exact List.mem_of_getElem? h
  · rw [if_neg h]
    have e := List.take_append_drop (ahead l n) l
    constructor
    · intro hx
      rcases List.mem_append.1 hx with hx | hx
      · rcases List.mem_append.1 hx with hx | hx
        · exact .inl (List.mem_of_mem_take hx)
        · exact .inr (by simpa using hx)
      · exact .inl (List.mem_of_mem_drop hx)
    · rintro (hx | rfl)
      · rw [← e] at hx
        rcases List.mem_append.1 hx with hx | hx
        · exact List.mem_append_left _ (List.mem_append_left _ hx)
        · exact List.mem_append_right _ hx
      · simp
theorem putI_len {l : List Int} {n : Int} (h : n ∉ l) : (putI l n).length = l.length + 1 := by
  unfold putI
  rw [if_neg (fun e => h (List.mem_of_getElem? e))]
  have := ahead_le l n
  simp
  omega
theorem behind_ahead {l : List Int} {n x : Int} (hl : Rises l) (h : l[ahead l n]? ≠ some n) (hx : x ∈ l.drop (ahead l n)) : n < x := by
  obtain ⟨j, hj, rfl⟩ := List.getElem_of_mem hx
  have hjl : ahead l n + j < l.length := by simp at hj; omega
  rw [List.getElem_drop]
  have h0 : ahead l n < l.length := by omega
  have h1 : n ≤ l[ahead l n] := at_ahead l n _ (List.getElem?_eq_getElem h0)
  have h2 : n ≠ l[ahead l n] := fun e => h (by rw [List.getElem?_eq_getElem h0, ← e])
  rcases Nat.eq_zero_or_pos j with rfl | hp
  · show n < l[ahead l n + 0]
    simp only [Nat.add_zero]
    omega
  · have h3 : l[ahead l n] < l[ahead l n + j] := List.pairwise_iff_getElem.1 hl _ _ h0 hjl (by omega)
    omega
theorem putI_rises {l : List Int} (n : Int) (hl : Rises l) : Rises (putI l n) := by
  unfold putI
  by_cases h : l[ahead l n]? = some n
  · rw [if_pos h]; exact hl
  · rw [if_neg h]
    unfold Rises
    rw [List.pairwise_append, List.pairwise_append]
    refine ⟨⟨List.Pairwise.sublist (List.take_sublist _ _) hl, by simp, ?_⟩, List.Pairwise.sublist (List.drop_sublist _ _) hl, ?_⟩
    · intro a ha b hb
      obtain rfl : b = n := by simpa using hb
      exact mem_ahead ha
    · intro a ha b hb
      have hb' := behind_ahead hl h hb
      rcases List.mem_append.1 ha with ha | ha
      · have := mem_ahead ha; omega
      · obtain rfl : a = n := by simpa using ha
        exact hb'

theorem rises_ext : ∀ {a b : List Int}, Rises a → Rises b → (∀ x, x ∈ a ↔ x ∈ b) → a = b
  | [], [], _, _, _ => rfl
  | [], y :: b, _, _, h => by have := (h y).2 (by simp); simp at this
  | x :: a, [], _, _, h => by have := (h x).1 (by simp); simp at this
  | x :: a, y :: b, ha, hb, h => by
    have ha' := List.pairwise_cons.1 ha
    have hb' := List.pairwise_cons.1 hb
    have hxy : x = y := by
      have h1 := (h x).1 (by simp)
      have h2 := (h y).2 (by simp)
      rcases List.mem_cons.1 h1 with e | h1
      · exact e
      · rcases List.mem_cons.1 h2 with e | h2
        · exact e.symm
        · have := hb'.1 x h1; have := ha'.1 y h2; omega
    subst hxy
    have ht : a = b := rises_ext ha'.2 hb'.2 (fun z => by
      constructor
      · intro hz
        rcases List.mem_cons.1 ((h z).1 (List.mem_cons_of_mem _ hz)) with e | k
        · have := ha'.1 z hz; omega
        · exact k
      · intro hz
        rcases List.mem_cons.1 ((h z).2 (List.mem_cons_of_mem _ hz)) with e | k
        · have := hb'.1 z hz; omega
        · exact k)
    rw [ht]
theorem rises_len : ∀ {l : List Int} (lo hi : Int), Rises l → (∀ x ∈ l, lo ≤ x ∧ x < hi) → lo ≤ hi → (l.length : Int) ≤ hi - lo
  | [], lo, hi, _, _, h => by simp; omega
  | x :: l, lo, hi, hl, hb, h => by
    have hl' := List.pairwise_cons.1 hl
    have hx := hb x (by simp)
    have := rises_len (x + 1) hi hl'.2 (fun y hy => ⟨by have := hl'.1 y hy; omega, (hb y (List.mem_cons_of_mem _ hy)).2⟩) (by omega)
    simp only [List.length_cons]
    omega

/-! ### Graphs -/
/-- The points that a point leads to at once. -/
def rowG (g : List (List Int)) (p : Int) : List Int := if 0 ≤ p then g[p.toNat]?.getD [] else []
/-- Each list rising, of points of the graph. -/
def rowsB (g : List (List Int)) : Bool := g.all fun l => riseB l 0 ((g.length : Int) - 1)
def goodG (g : List (List Int)) : Bool := rowsB g && decide (g.length ≤ 40)

inductive Reach (g : List (List Int)) (a : Int) : Int → Prop
  | self : Reach g a a
  | step {b c : Int} : Reach g a b → c ∈ rowG g b → Reach g a c

theorem Reach.trans {g : List (List Int)} {a b c : Int} (h : Reach g a b) (k : Reach g b c) : Reach g a c := by
  induction k with
  | self => exact h
  | step _ hc ih => exact ih.step hc

theorem rowG_at {g : List (List Int)} {k : Nat} (h : k < g.length) : rowG g (k : Int) = g[k] := by
  unfold rowG
  rw [if_pos (by omega), Int.toNat_natCast, List.getElem?_eq_getElem h]
  rfl
theorem row_in {g : List (List Int)} (hg : rowsB g = true) {p c : Int} (h : c ∈ rowG g p) : 0 ≤ c ∧ c < g.length := by
  unfold rowG at h
  by_cases hp : 0 ≤ p
  · rw [if_pos hp] at h
    cases e : g[p.toNat]? with
    | none => rw [e] at h; simp at h
    | some l =>
      rw [e] at h
      have hl : riseB l 0 ((g.length : Int) - 1) = true := List.all_eq_true.1 hg l (List.mem_of_getElem? e)
      have := (riseB_of hl).2 c h
      omega
  · rw [if_neg hp] at h; simp at h
theorem reach_in {g : List (List Int)} (hg : rowsB g = true) {k x : Int} (hk : 0 ≤ k ∧ k < g.length) (h : Reach g k x) : 0 ≤ x ∧ x < g.length := by
  induction h with
  | self => exact hk
  | step _ hc _ => exact row_in hg hc

open Classical in
/-- All points that a point leads to, rising. -/
noncomputable def reachL (g : List (List Int)) (k : Int) : List Int := ((List.range g.length).map fun (i : Nat) => (i : Int)).filter fun x => decide (Reach g k x)

theorem range_rises (n : Nat) : Rises ((List.range n).map fun (i : Nat) => (i : Int)) := by
  unfold Rises
  rw [List.pairwise_map]
  exact List.pairwise_lt_range.imp (fun h => by omega)
theorem reachL_rises (g : List (List Int)) (k : Int) : Rises (reachL g k) := List.Pairwise.filter _ (range_rises _)
open Classical in
theorem reachL_mem {g : List (List Int)} (hg : rowsB g = true) {k : Int} (hk : 0 ≤ k ∧ k < g.length) (x : Int) : x ∈ reachL g k ↔ Reach g k x := by
  unfold reachL
  rw [List.mem_filter]
  constructor
  · rintro ⟨_, h⟩; exact of_decide_eq_true h
  · intro h
    have hx := reach_in hg hk h
    exact ⟨List.mem_map.2 ⟨x.toNat, by simp; omega, by omega⟩, decide_eq_true h⟩
theorem reachL_unique {g : List (List Int)} (hg : rowsB g = true) {k : Int} (hk : 0 ≤ k ∧ k < g.length) {l : List Int} (hl : Rises l) (h : ∀ x, x ∈ l ↔ Reach g k x) : l = reachL g k :=
  rises_ext hl (reachL_rises g k) (fun x => (h x).trans (reachL_mem hg hk x).symm)
theorem reachL_len (g : List (List Int)) (k : Int) : (reachL g k).length ≤ g.length := by
  have := List.length_filter_le (fun x => @decide (Reach g k x) (Classical.propDecidable _)) ((List.range g.length).map fun (i : Nat) => (i : Int))
  simpa [reachL] using this

/-! ### A search in breadth -/
/-- met are the points met, all that the first i of them lead to at once among them; out are the same, rising. -/
structure Srch (g : List (List Int)) (k : Int) (i : Nat) (met out : List Int) : Prop where
  first : k ∈ met
  reach : ∀ x ∈ met, Reach g k x
  shut : ∀ (j : Nat) (p : Int), j < i → met[j]? = some p → ∀ c ∈ rowG g p, c ∈ met
  rises : Rises out
  same : ∀ x, x ∈ out ↔ x ∈ met
  len : met.length = out.length

theorem Srch.start (g : List (List Int)) (k : Int) : Srch g k 0 [k] [k] :=
  ⟨by simp, fun x hx => by obtain rfl : x = k := by simpa using hx
                           exact .self, fun j p hj => by omega, by simp [Rises], fun x => Iff.rfl, rfl⟩
/-- Of the point that is looked at, the first j that it leads to are met. -/
def SrchAt (g : List (List Int)) (k : Int) (i j : Nat) (p : Int) (met out : List Int) : Prop :=
  Srch g k i met out ∧ met[i]? = some p ∧ ∀ c ∈ (rowG g p).take j, c ∈ met
theorem Srch.look {g : List (List Int)} {k : Int} {i : Nat} {met out : List Int} (h : Srch g k i met out) (hi : i < met.length) : SrchAt g k i 0 met[i] met out :=
  ⟨h, List.getElem?_eq_getElem hi, by simp⟩
theorem SrchAt.known {g : List (List Int)} {k p : Int} {i j : Nat} {met out : List Int} (h : SrchAt g k i j p met out) (hj : j < (rowG g p).length) (hm : (rowG g p)[j] ∈ met) : SrchAt g k i (j + 1) p met out := by
  refine ⟨h.1, h.2.1, fun c hc => ?_⟩
  rw [List.take_add_one, List.getElem?_eq_getElem hj] at hc
  rcases List.mem_append.1 hc with hc | hc
  · exact h.2.2 c hc
  · obtain rfl : c = (rowG g p)[j] := by simpa using hc
    exact hm
theorem SrchAt.add {g : List (List Int)} {k p : Int} {i j : Nat} {met out : List Int} (h : SrchAt g k i j p met out) (hj : j < (rowG g p).length) (hm : (rowG g p)[j] ∉ met) : SrchAt g k i (j + 1) p (met ++ [(rowG g p)[j]]) (putI out (rowG g p)[j]) := by
  obtain ⟨h, hp, hs⟩ := h
  have hi : i < met.length := (List.getElem?_eq_some_iff.1 hp).1
  refine ⟨⟨List.mem_append_left _ h.first, ?_, ?_, putI_rises _ h.rises, ?_, ?_⟩, ?_, ?_⟩
  · intro x hx
    rcases List.mem_append.1 hx with hx | hx
    · exact h.reach x hx
    · obtain rfl : x = (rowG g p)[j] := by simpa using hx
      exact (h.reach p (List.mem_of_getElem? hp)).step (List.getElem_mem hj)
  · intro j' q hj' hq c hc
    rw [List.getElem?_append_left (by omega)] at hq
    exact List.mem_append_left _ (h.shut j' q hj' hq c hc)
  · intro x
    rw [putI_mem, List.mem_append, h.same x]
    simp
  · rw [List.length_append, putI_len (fun e => hm ((h.same _).1 e)), h.len]
    rfl
  · rw [List.getElem?_append_left hi]; exact hp
  · intro c hc
    rw [List.take_add_one, List.getElem?_eq_getElem hj] at hc
    rcases List.mem_append.1 hc with hc | hc
    · exact List.mem_append_left _ (hs c hc)
    · exact List.mem_append_right _ (by simpa using hc)
theorem SrchAt.next {g : List (List Int)} {k p : Int} {i j : Nat} {met out : List Int} (h : SrchAt g k i j p met out) (hj : (rowG g p).length ≤ j) : Srch g k (i + 1) met out := by
  obtain ⟨h, hp, hs⟩ := h
  refine ⟨h.first, h.reach, fun j' q hj' hq c hc => ?_, h.rises, h.same, h.len⟩
  by_cases e : j' = i
  · subst e
    rw [hp] at hq
    cases hq
    exact hs c (by rw [List.take_of_length_le hj]; exact hc)
  · exact h.shut j' q (by omega) hq c hc
theorem Srch.small {g : List (List Int)} {k : Int} {i : Nat} {met out : List Int} (hg : rowsB g = true) (hk : 0 ≤ k ∧ k < g.length) (h : Srch g k i met out) : met.length ≤ g.length := by
  have := rises_len 0 g.length h.rises (fun x hx => by have := reach_in hg hk (h.reach x ((h.same x).1 hx)); omega) (by omega)
  have := h.len
  omega
theorem Srch.done {g : List (List Int)} {k : Int} {i : Nat} {met out : List Int} (hg : rowsB g = true) (hk : 0 ≤ k ∧ k < g.length) (h : Srch g k i met out) (hi : met.length ≤ i) : out = reachL g k := by
  refine reachL_unique hg hk h.rises (fun x => ⟨fun hx => h.reach x ((h.same x).1 hx), fun hx => (h.same x).2 ?_⟩)
  induction hx with
  | self => exact h.first
  | step _ hc ih =>
    obtain ⟨j, hj, e⟩ := List.getElem_of_mem ih
    exact h.shut j _ (by omega) (by rw [List.getElem?_eq_getElem hj, e]) _ hc

end Go.Proofs.Ytbffkidkfannhaa

namespace Go.Proofs.Ytbffkidkfannhaa
open Go.RowKit
set_option linter.unusedVariables false

theorem rises_take_succ {l : List Int} {k : Nat} (hk : k < l.length) (h : Rises (l.take k)) (hp : ∀ (h0 : 0 < k), l[k - 1] < l[k]) : Rises (l.take (k + 1)) := by
  unfold Rises
  rw [List.pairwise_iff_getElem]
  intro i j hi hj hij
  simp only [List.length_take] at hi hj
  rw [List.getElem_take, List.getElem_take]
  by_cases e : j = k
  · subst e
    have h0 := hp (by omega)
    by_cases e' : i = j - 1
    · subst e'; exact h0
    · have h1 := (List.pairwise_iff_getElem.1 h) i (j - 1) (by simp; omega) (by simp; omega) (by omega)
      rw [List.getElem_take, List.getElem_take] at h1
      omega
  · have h1 := (List.pairwise_iff_getElem.1 h) i j (by simp; omega) (by simp; omega) hij
    rwa [List.getElem_take, List.getElem_take] at h1
theorem riseB_out {l : List Int} {lo hi : Int} {k : Nat} (hk : k < l.length) (h : inB l[k] lo hi = false) : riseB l lo hi = false := by
  cases e : riseB l lo hi with
  | false => rfl
  | true =>
    have := (riseB_of e).2 _ (List.getElem_mem hk)
    rw [inB_yes this.1 this.2] at h
    cases h
theorem riseB_not {l : List Int} {lo hi : Int} {k : Nat} (hk : k + 1 < l.length) (h : ¬ l[k] < l[k + 1]) : riseB l lo hi = false := by
  cases e : riseB l lo hi with
  | false => rfl
  | true => exact absurd (List.pairwise_iff_getElem.1 (riseB_of e).1 k (k + 1) (by omega) hk (by omega)) h
theorem riseB_all {l : List Int} {lo hi : Int} (h : Rises (l.take l.length)) (k : (l.take l.length).all (fun x => inB x lo hi) = true) : riseB l lo hi = true := by
  rw [List.take_length] at h k
  unfold riseB allIn
  rw [k, decide_eq_true h]; rfl

set_option maxHeartbeats 800000 in
theorem l1Rising_any (v : Value) (l : List Int) (lo hi : Int) (w : World) (hv : Ints w v l) :
    Calls Try.prog 60 #[v, .int .i64 lo, .int .i64 hi] w (BoolExt (riseB l lo hi) w) := by
  obtain ⟨av, cv, rfl, hlv, _, hcv⟩ := hv
  unfold maxLen at hlv
  go_enter Try.func60, Try.ntmps60
  go_wp2
  go_loopw [7, 8, 11] (fun _ _ i wr => ∃ k : Nat, k ≤ l.length ∧ i = .int .i64 k ∧ (Rises (l.take k) ∧ (l.take k).all (fun x => inB x lo hi) = true) ∧ Ext w wr) (fun _ _ i _ => l.length - (intOf i).toNat)
  case atStart => exact ⟨0, Nat.zero_le _, rfl, ⟨by simp [Rises], by simp⟩, Ext.refl _⟩
  case round =>
    obtain ⟨k, hk, rfl, ht, hx⟩ := hrel
    have HT := Lib.hid ht
    clear ht
    by_cases hlt : k < l.length
    · obtain ⟨bv, ov, rfl, dv⟩ := hcv (by omega)
      have gv := hx.cell (dv k hlt)
      cases hp : inB l[k] lo hi with
      | false =>
        have HP := Lib.hid (riseB_out hlt hp)
        clear hcv dv
        go_wp2_with (go_at_call 28; refine (l1In_any _ _ _ _).mono ?_; rintro e w' ⟨rfl, rfl⟩)
        go_ret
        exact ⟨by rw [HP.out]; rfl, hx⟩
      | true =>
        rcases Nat.eq_zero_or_pos k with h0 | h0
        · have e0 : ¬ ((0 : Int) < (k : Int)) := by omega
          have H0 := Lib.hid h0
          clear hcv dv h0
          go_wp2_with (go_at_call 28; refine (l1In_any _ _ _ _).mono ?_; rintro e w' ⟨rfl, rfl⟩)
          go_roundw
          case rel => exact ⟨k + 1, by omega, by go_num, ⟨rises_take_succ hlt HT.out.1 (fun h => by have := H0.out; omega), all_take_succ hlt _ HT.out.2 (by simpa [hlt] using hp)⟩, hx⟩
          case measure => simp [intOf]; omega
        · obtain ⟨j, hj⟩ : ∃ j, j = k - 1 := ⟨_, rfl⟩
          have hjl : j < l.length := by omega
          have gp := hx.cell (dv j hjl)
          rw [List.getElem?_eq_getElem hjl] at gp
          have e1 : (k : Int) - 1 = (j : Int) := by omega
          have e0 : (0 : Int) < (k : Int) := by omega
          have HJ := Lib.hid hj
          clear hcv dv hj h0
          by_cases hr : l[j] < l[k]
          · have e2 : ¬ (l[k] ≤ l[j]) := by omega
            go_wp2_with (go_at_call 28; refine (l1In_any _ _ _ _).mono ?_; rintro e w' ⟨rfl, rfl⟩)
            go_roundw
            case rel => exact ⟨k + 1, by omega, by go_num, ⟨rises_take_succ hlt HT.out.1 (fun _ => by have := HJ.out; subst this; exact hr), all_take_succ hlt _ HT.out.2 (by simpa [hlt] using hp)⟩, hx⟩
            case measure => simp [intOf]; omega
          · have e2 : l[k] ≤ l[j] := by omega
            have hP : riseB l lo hi = false := by
              have hjk : k = j + 1 := by omega
              subst hjk
              exact riseB_not hlt hr
            have HP := Lib.hid hP
            clear hP
            go_wp2_with (go_at_call 28; refine (l1In_any _ _ _ _).mono ?_; rintro e w' ⟨rfl, rfl⟩)
            go_ret
            exact ⟨by rw [HP.out]; rfl, hx⟩
    · obtain rfl : k = l.length := by omega
      have HP := Lib.hid (riseB_all HT.out.1 HT.out.2)
      go_wp2
      go_ret
      exact ⟨by rw [HP.out]; rfl, hx⟩

end Go.Proofs.Ytbffkidkfannhaa

namespace Go.Proofs.Ytbffkidkfannhaa
open Go.RowKit

set_option maxHeartbeats 400000 in
theorem l1Has_any (v : Value) (l : List Int) (n : Int) (w : World) (hv : Ints w v l) :
    Calls Try.prog 61 #[v, .int .i64 n] w (BoolExt (hasI l n) w) := by
  obtain ⟨av, cv, rfl, hlv, _, hcv⟩ := hv
  unfold maxLen at hlv
  go_enter Try.func61, Try.ntmps61
  go_wp2
  go_loopw [6, 9] (fun _ i wr => ∃ k : Nat, k ≤ l.length ∧ i = .int .i64 k ∧ (l.take k).any (fun x => x == n) = false ∧ Ext w wr) (fun _ i _ => l.length - (intOf i).toNat)
  case atStart => exact ⟨0, Nat.zero_le _, rfl, by simp, Ext.refl _⟩
  case round =>
    obtain ⟨k, hk, rfl, ht, hx⟩ := hrel
    have HT := Lib.hid ht
    clear ht
    by_cases hlt : k < l.length
    · obtain ⟨bv, ov, rfl, dv⟩ := hcv (by omega)
      have gv := hx.cell (dv k hlt)
      clear hcv dv
      cases hp : (l[k] == n) with
      | true =>
        go_wp2
        go_ret
        refine ⟨?_, hx⟩
        have hf : hasI l n = true := any_true_at hlt _ (by rw [List.getElem?_eq_getElem hlt]; exact hp)
        rw [hf]; rfl
      | false =>
        go_wp2
        go_roundw
        case rel => exact ⟨k + 1, by omega, by go_num, any_take_succ hlt _ HT.out (by rw [List.getElem?_eq_getElem hlt]; exact hp), hx⟩
        case measure => simp [intOf]; omega
    · obtain rfl : k = l.length := by omega
      go_wp2
      go_ret
      refine ⟨?_, hx⟩
      have hf : hasI l n = false := by have h := HT.out; rwa [List.take_length] at h
      rw [hf]; rfl

end Go.Proofs.Ytbffkidkfannhaa

namespace Go.Proofs.Ytbffkidkfannhaa
open Go.RowKit
set_option linter.unusedVariables false

/-- Whether it is an instance of a group of n. -/
def instB (n rep no : Int) : Bool := inB rep 0 (n - 1) && inB no 1 6
theorem isGrp_bd {n : Int} (h : isGrp n = true) : 3 ≤ n ∧ n ≤ 5 := by rcases isGrp_of h with rfl | rfl <;> omega

set_option maxHeartbeats 400000 in
theorem l3Inst_any (n rep no : Int) (w : World) (h3 : 3 ≤ n) (h5 : n ≤ 5) :
    Calls Try.prog 59 #[.int .i64 n, .int .i64 rep, .int .i64 no] w fun e w' => e = .returned (.bool (instB n rep no)) ∧ w = w' := by
  unfold instB
  cases h1 : inB rep 0 (n - 1)
  · have H1 := Lib.hid h1
    clear h1
    go_enter Try.func59, Try.ntmps59
    go_wp2_with fail
    refine (l1In_any _ _ _ _).mono ?_
    rintro e w' ⟨rfl, rfl⟩
    rw [H1.out]
    go_wp2
    go_ret
    exact ⟨rfl, rfl⟩
  · have H1 := Lib.hid h1
    clear h1
    cases h2 : inB no 1 6
    all_goals
      have H2 := Lib.hid h2
      clear h2
      go_enter Try.func59, Try.ntmps59
      go_wp2_with fail
      refine (l1In_any _ _ _ _).mono ?_
      rintro e w' ⟨rfl, rfl⟩
      rw [H1.out]
      go_wp2_with fail
      refine (l1In_any _ _ _ _).mono ?_
      rintro e w' ⟨rfl, rfl⟩
      rw [H2.out]
      go_wp2
      go_ret
      exact ⟨rfl, rfl⟩

def repB (n k : Int) : Bool := isGrp n && inB k 0 (n - 1)
set_option maxHeartbeats 1000000 in
theorem isReplica_any (n k : Int) (w : World) :
    Calls Try.prog 32 #[.int .i64 n, .int .i64 k] w fun e w' => e = .returned (.bool (repB n k)) ∧ w = w' := by
  unfold repB
  cases hg : isGrp n with
  | false =>
    have HG := Lib.hid hg
    clear hg
    go_enter Try.func32, Try.ntmps32
    go_wp2_with fail
    refine (implIsGroup_any _ _).mono ?_
    rintro e w' ⟨rfl, rfl⟩
    rw [HG.out]
    go_wp2
    go_ret
    exact ⟨rfl, rfl⟩
  | true =>
    have HG := Lib.hid hg
    clear hg
    by_cases h1 : k < 0
    · have hr : inB k 0 (n - 1) = false := inB_no (by omega)
      rw [hr]
      clear hr
      go_enter Try.func32, Try.ntmps32
      go_wp2_with fail
      refine (implIsGroup_any _ _).mono ?_
      rintro e w' ⟨rfl, rfl⟩
      rw [HG.out]
      go_wp2
      go_ret
      exact ⟨rfl, rfl⟩
    · by_cases h2 : k < n
      · have h3 : 0 ≤ k := by omega
        have hr : inB k 0 (n - 1) = true := inB_yes h3 (by omega)
        rw [hr]
        clear hr h1
        go_enter Try.func32, Try.ntmps32
        go_wp2_with fail
        refine (implIsGroup_any _ _).mono ?_
        rintro e w' ⟨rfl, rfl⟩
        rw [HG.out]
        go_wp2
        go_ret
        exact ⟨rfl, rfl⟩
      · have h3 : 0 ≤ k := by omega
        have h4 : n ≤ k := by omega
        have hr : inB k 0 (n - 1) = false := inB_no (by omega)
        have nk : decide (k < n) = false := decide_eq_false h2
        rw [hr]
        clear hr h1 h2 h4
        go_enter Try.func32, Try.ntmps32
        go_wp2_with fail
        refine (implIsGroup_any _ _).mono ?_
        rintro e w' ⟨rfl, rfl⟩
        rw [HG.out]
        go_wp2
        go_ret
        exact ⟨rfl, rfl⟩

set_option maxHeartbeats 1000000 in
/-- Whether it is an instance, of a group or of none. -/
theorem isInstance_all (n rep no : Int) (w : World) :
    Calls Try.prog 48 #[.int .i64 n, .int .i64 rep, .int .i64 no] w fun e w' => e = .returned (.bool (repB n rep && inB no 1 6)) ∧ w = w' := by
  cases hg : repB n rep with
  | false =>
    have HG := Lib.hid hg
    clear hg
    go_enter Try.func48, Try.ntmps48
    go_wp2_with fail
    refine (isReplica_any _ _ _).mono ?_
    rintro e w' ⟨rfl, rfl⟩
    rw [HG.out]
    go_wp2
    go_ret
    exact ⟨rfl, rfl⟩
  | true =>
    have HG := Lib.hid hg
    clear hg
    by_cases h1 : no < 1
    · have hr : inB no 1 6 = false := inB_no (by omega)
      rw [hr]
      clear hr
      go_enter Try.func48, Try.ntmps48
      go_wp2_with fail
      refine (isReplica_any _ _ _).mono ?_
      rintro e w' ⟨rfl, rfl⟩
      rw [HG.out]
      go_wp2
      go_ret
      exact ⟨rfl, rfl⟩
    · by_cases h2 : 6 < no
      · have h3 : 1 ≤ no := by omega
        have hr : inB no 1 6 = false := inB_no (by omega)
        have nk : decide (no ≤ 6) = false := decide_eq_false (by omega)
        rw [hr]
        clear hr h1 h2
        go_enter Try.func48, Try.ntmps48
        go_wp2_with fail
        refine (isReplica_any _ _ _).mono ?_
        rintro e w' ⟨rfl, rfl⟩
        rw [HG.out]
        go_wp2
        go_ret
        exact ⟨rfl, rfl⟩
      · have h3 : 1 ≤ no := by omega
        have h4 : no ≤ 6 := by omega
        have hr : inB no 1 6 = true := inB_yes h3 h4
        rw [hr]
        clear hr h1 h2
        go_enter Try.func48, Try.ntmps48
        go_wp2_with fail
        refine (isReplica_any _ _ _).mono ?_
        rintro e w' ⟨rfl, rfl⟩
        rw [HG.out]
        go_wp2
        go_ret
        exact ⟨rfl, rfl⟩
theorem isInstance_any (n rep no : Int) (w : World) (hg : isGrp n = true) :
    Calls Try.prog 48 #[.int .i64 n, .int .i64 rep, .int .i64 no] w fun e w' => e = .returned (.bool (instB n rep no)) ∧ w = w' := by
  have h := isInstance_all n rep no w
  unfold repB at h
  rw [hg, Bool.true_and] at h
  exact h

/-- Does it hang on the instance? -/
def hangsB (n s : Int) (l : List Int) (rep no : Int) : Bool := goodA n s l && instB n rep no && decide (no ≤ l[rep.toNat]?.getD 0)
def hangsOk (n s : Int) (l : List Int) (rep no : Int) : Bool := goodA n s l && instB n rep no
end Go.Proofs.Ytbffkidkfannhaa
