/- Tarjan's search: the way turns back, with a group or without. No program text is named here. -/
import Derived.Test.YtnmnbeklofnonaaTarj2
namespace Go.Proofs.Ytnmnbeklofnonaa
open Go.RowKit
set_option linter.unusedVariables false

/-- A point that is looked through and has seen one met before it stays open: the way turns back. -/
theorem Inv.back {g : List (List Int)} {S : TS} {way : List Nat} {a p : Nat} (h : Inv g S (way ++ [a] ++ [p])) (hl : S.lk p = (rowN g p).length) (hb : S.bk p < S.N p) :
    Inv g (minS S a (S.bk p)) (way ++ [a]) := by
  have hop := h.wop p (by simp)
  have hoa := h.wop a (by simp)
  have hap : S.N a < S.N p := h.last_most a (by simp)
  have hnp : a ≠ p := fun e => by rw [e] at hap; omega
  have hpw : p ∉ way ++ [a] := fun e => by have := h.last_most p e; omega
  have hra : Reach g (a : Int) (p : Int) := h.reach a (by simp) p hop (by omega)
  have b1 : ∀ q, q ≠ a → (minS S a (S.bk p)).bk q = S.bk q := fun q e => upd_other _ _ e
  have b2 : (minS S a (S.bk p)).bk a = min (S.bk a) (S.bk p) := upd_same _ _ _
  have ble : ∀ q, (minS S a (S.bk p)).bk q ≤ S.bk q := fun q => by
    by_cases e : q = a
    · rw [e, b2]; exact Nat.min_le_left _ _
    · rw [b1 q e]; exact Nat.le_refl _
  refine ⟨h.small, h.le, h.inj, h.opmet, h.opn, h.sort, fun q hq => h.wop q (List.mem_append_left _ hq), (List.pairwise_append.1 h.wsort).1, fun q hq => ?_, fun x hx q hq hN => h.reach x (List.mem_append_left _ hx) q hq hN, fun q hq => Nat.le_trans (ble q) (h.low1 q hq), fun q hq => ?_, h.lk0, h.lkle, fun q hq r hr => ?_, fun q hq hqw => ?_, fun x hx q hq hqw hN hbt => ?_, h.closed, h.grp, h.cov, h.apart⟩
  · obtain ⟨x, hx, hle⟩ := h.root q hq
    rcases List.mem_append.1 hx with hx | hx
    · exact ⟨x, hx, hle⟩
    · have e : x = p := by simpa using hx
      rw [e] at hle
      exact ⟨a, by simp, by show S.N a ≤ S.N q; omega⟩
  · by_cases e : q = a
    · rw [e, b2]
      rcases Nat.le_total (S.bk a) (S.bk p) with hm | hm
      · rw [Nat.min_eq_left hm]; exact h.low2 a hoa
      · rw [Nat.min_eq_right hm]
        obtain ⟨r, h1, h2, h3⟩ := h.low2 p hop
        exact ⟨r, h1, h2, hra.trans h3⟩
    · rw [b1 q e]; exact h.low2 q hq
  · obtain ⟨h1, h2⟩ := h.look q hq r hr
    exact ⟨h1, fun ho => Nat.le_trans (ble q) (h2 ho)⟩
  · have ea : q ≠ a := fun e => hqw (by simp [e])
    rw [b1 q ea]
    by_cases ep : q = p
    · rw [ep]; exact ⟨hl, hb⟩
    · refine h.fin q hq (fun e => ?_)
      rcases List.mem_append.1 e with e | e
      · exact hqw e
      · exact ep (by simpa using e)
  · have ea : q ≠ a := fun e => hqw (by simp [e])
    rw [b1 q ea]
    have hNxq : S.N x < S.N q := hN
    have hbt' : ∀ p' ∈ way ++ [a], S.N p' ≤ S.N x ∨ S.N q < S.N p' := hbt
    by_cases ex : x = a
    · rw [ex, b2]
      rw [ex] at hNxq
      by_cases ep : q = p
      · rw [ep]; exact Nat.min_le_right _ _
      · have hqw' : q ∉ way ++ [a] ++ [p] := fun e => by
          rcases List.mem_append.1 e with e | e
          · exact hqw e
          · exact ep (by simpa using e)
        have hne : S.N q ≠ S.N p := fun e => ep (h.inj q p e (h.opmet q hq))
        by_cases hlt : S.N q < S.N p
        · refine Nat.le_trans (Nat.min_le_left _ _) (h.par a (by simp) q hq hqw' hNxq (fun p' hp' => ?_))
          rcases List.mem_append.1 hp' with hp' | hp'
          · have := hbt' p' hp'; rw [ex] at this; exact this
          · have : p' = p := by simpa using hp'
            rw [this]; exact .inr hlt
        · refine Nat.le_trans (Nat.min_le_right _ _) (h.par p (by simp) q hq hqw' (by omega) (fun p' hp' => .inl (h.last_le p' hp')))
    · rw [b1 x ex]
      have hxa : S.N x < S.N a := by
        rcases List.mem_append.1 hx with hx | hx
        · exact (List.pairwise_append.1 (List.pairwise_append.1 h.wsort).1).2.2 x hx a (by simp)
        · exact absurd (by simpa using hx) ex
      have hqa : S.N q < S.N a := by
        rcases hbt' a (by simp) with e | e
        · omega
        · exact e
      have ep : q ≠ p := fun e => by rw [e] at hqa; omega
      refine h.par x (List.mem_append_left _ hx) q hq (fun e => ?_) hNxq (fun p' hp' => ?_)
      · rcases List.mem_append.1 e with e | e
        · exact hqw e
        · exact ep (by simpa using e)
      · rcases List.mem_append.1 hp' with hp' | hp'
        · exact hbt' p' hp'
        · have : p' = p := by simpa using hp'
          rw [this]; exact .inr (by omega)

/-- The points that are open from p on. -/
def regI (S : TS) (p q : Nat) : Prop := S.op q = true ∧ S.N p ≤ S.N q

theorem Inv.reg_out {g : List (List Int)} {S : TS} {way : List Nat} {p : Nat} (h : Inv g S (way ++ [p])) {q : Nat} (hq : regI S p q) (e : q ≠ p) : q ∉ way ++ [p] := by
  intro hw
  have hne : S.N q ≠ S.N p := fun e' => e (h.inj q p e' (h.opmet q hq.1))
  have := h.last_le q hw
  have := hq.2
  omega
theorem Inv.reg_low {g : List (List Int)} {S : TS} {way : List Nat} {p : Nat} (h : Inv g S (way ++ [p])) (hb : S.bk p = S.N p) {q : Nat} (hq : regI S p q) : S.N p ≤ S.bk q := by
  by_cases e : q = p
  · rw [e, hb]; exact Nat.le_refl _
  · have hne : S.N q ≠ S.N p := fun e' => e (h.inj q p e' (h.opmet q hq.1))
    have := h.par p (by simp) q hq.1 (h.reg_out hq e) (by have := hq.2; omega) (fun p' hp' => .inl (h.last_le p' hp'))
    rwa [hb] at this
/-- All of them lead to p. -/
theorem Inv.reg_to {g : List (List Int)} {S : TS} {way : List Nat} {p : Nat} (h : Inv g S (way ++ [p])) (hb : S.bk p = S.N p) : ∀ (n q : Nat), S.N q ≤ n → regI S p q → Reach g (q : Int) (p : Int) := by
  intro n
  induction n with
  | zero =>
    intro q hn hq
    exact absurd (Nat.le_zero.1 hn) (h.opmet q hq.1)
  | succ n ih =>
    intro q hn hq
    by_cases e : q = p
    · rw [e]; exact .self
    · obtain ⟨_, hlt⟩ := h.fin q hq.1 (h.reg_out hq e)
      obtain ⟨r, hr, hN, hR⟩ := h.low2 q hq.1
      have hl := h.reg_low hb hq
      exact hR.trans (ih r (by omega) ⟨hr, by omega⟩)
/-- What p leads to lies there, or is told. -/
theorem Inv.reg_from {g : List (List Int)} (hg : rowsB g = true) {S : TS} {way : List Nat} {p : Nat} (h : Inv g S (way ++ [p])) (hl : S.lk p = (rowN g p).length) (hb : S.bk p = S.N p) {x : Int} (hx : Reach g (p : Int) x) :
    ∃ q : Nat, x = (q : Int) ∧ (regI S p q ∨ (S.N q ≠ 0 ∧ S.op q = false)) := by
  induction hx with
  | self => exact ⟨p, rfl, .inl ⟨h.wop p (by simp), Nat.le_refl _⟩⟩
  | step _ hc ih =>
    obtain ⟨b, rfl, hb'⟩ := ih
    obtain ⟨r, rfl, _⟩ := mem_row hg hc
    refine ⟨r, rfl, ?_⟩
    rcases hb' with hb' | hb'
    · have hlen : S.lk b = (rowN g b).length := by
        by_cases e : b = p
        · rw [e]; exact hl
        · exact (h.fin b hb'.1 (h.reg_out hb' e)).1
      obtain ⟨h1, h2⟩ := h.look b hb'.1 r (by rw [hlen, List.take_length]; exact hc)
      cases ho : S.op r with
      | false => exact .inr ⟨h1, rfl⟩
      | true =>
        have := h.reg_low hb hb'
        have := h2 ho
        exact .inl ⟨ho, by omega⟩
    · exact .inr (h.closed b hb'.1 hb'.2 r hc)
theorem Inv.told_out {g : List (List Int)} (hg : rowsB g = true) {S : TS} {way : List Nat} (h : Inv g S way) {q : Nat} (hq : S.N q ≠ 0 ∧ S.op q = false) {x : Int} (hx : Reach g (q : Int) x) : ∃ r : Nat, x = (r : Int) ∧ S.N r ≠ 0 ∧ S.op r = false := by
  induction hx with
  | self => exact ⟨q, rfl, hq⟩
  | step _ hc ih =>
    obtain ⟨b, rfl, hb⟩ := ih
    obtain ⟨r, rfl, _⟩ := mem_row hg hc
    exact ⟨r, rfl, h.closed b hb.1 hb.2 r hc⟩
/-- So they are the group of p. -/
theorem Inv.reg_group {g : List (List Int)} (hg : rowsB g = true) {S : TS} {way : List Nat} {p : Nat} (h : Inv g S (way ++ [p])) (hl : S.lk p = (rowN g p).length) (hb : S.bk p = S.N p) (x : Int) :
    x ∈ groupL g (p : Int) ↔ ∃ q : Nat, x = (q : Int) ∧ regI S p q := by
  have hop := h.wop p (by simp)
  have hpg := h.small p (h.opmet p hop)
  rw [groupL_mem hg (by omega)]
  constructor
  · rintro ⟨h1, h2⟩
    obtain ⟨q, rfl, hq | hq⟩ := h.reg_from hg hl hb h1
    · exact ⟨q, rfl, hq⟩
    · obtain ⟨r, hr, _, hno⟩ := h.told_out hg hq h2
      have : r = p := by omega
      rw [this, hop] at hno; cases hno
  · rintro ⟨q, rfl, hq⟩
    exact ⟨h.reach p (by simp) q hq.1 hq.2, h.reg_to hb _ q (Nat.le_refl _) hq⟩

/-- The open points from p on are told. -/
noncomputable def closeS (g : List (List Int)) (S : TS) (A B : List Nat) (p : Nat) : TS := { S with op := fun q => S.op q && !decide (q ∈ p :: B), opn := A, grp := S.grp ++ [groupL g (p : Int)] }

theorem Inv.reg_mem {g : List (List Int)} {S : TS} {way A B : List Nat} {p : Nat} (h : Inv g S way) (e : S.opn = A ++ p :: B) (q : Nat) : q ∈ p :: B ↔ regI S p q := by
  have hs := h.sort
  rw [e] at hs
  obtain ⟨s1, s2, s3⟩ := List.pairwise_append.1 hs
  obtain ⟨s4, _⟩ := List.pairwise_cons.1 s2
  constructor
  · intro hq
    refine ⟨(h.opn q).1 (by rw [e]; exact List.mem_append_right _ hq), ?_⟩
    rcases List.mem_cons.1 hq with rfl | hq
    · exact Nat.le_refl _
    · exact Nat.le_of_lt (s4 q hq)
  · rintro ⟨h1, h2⟩
    have hq := (h.opn q).2 h1
    rw [e] at hq
    rcases List.mem_append.1 hq with hq | hq
    · have := s3 q hq p (by simp); omega
    · exact hq

/-- A point that is looked through and has seen none met before it: its group is told, and the way turns back. -/
theorem Inv.tell {g : List (List Int)} (hg : rowsB g = true) {S : TS} {way A B : List Nat} {p : Nat} (h : Inv g S (way ++ [p])) (hl : S.lk p = (rowN g p).length) (hb : S.bk p = S.N p) (e : S.opn = A ++ p :: B) :
    Inv g (closeS g S A B p) way := by
  have hop := h.wop p (by simp)
  have hpg := h.small p (h.opmet p hop)
  have hm := h.reg_mem e
  have o1 : ∀ q, (closeS g S A B p).op q = true ↔ S.op q = true ∧ S.N q < S.N p := fun q => by
    show (S.op q && !decide (q ∈ p :: B)) = true ↔ _
    rw [Bool.and_eq_true, Bool.not_eq_true', decide_eq_false_iff_not, hm]
    constructor
    · rintro ⟨h1, h2⟩
      refine ⟨h1, ?_⟩
      rcases Nat.lt_or_ge (S.N q) (S.N p) with h3 | h3
      · exact h3
      · exact absurd ⟨h1, h3⟩ h2
    · rintro ⟨h1, h2⟩
      exact ⟨h1, fun h3 => by have := h3.2; omega⟩
  have o0 : ∀ q, S.N q ≠ 0 → (closeS g S A B p).op q = false → S.op q = false ∨ regI S p q := fun q hq ho => by
    cases e1 : S.op q with
    | false => exact .inl rfl
    | true =>
      rcases Nat.lt_or_ge (S.N q) (S.N p) with h3 | h3
      · rw [(o1 q).2 ⟨e1, h3⟩] at ho; cases ho
      · exact .inr ⟨e1, h3⟩
  have of : ∀ q, regI S p q → (closeS g S A B p).op q = false := fun q hq => by
    cases e1 : (closeS g S A B p).op q with
    | false => rfl
    | true => have := ((o1 q).1 e1).2; have := hq.2; omega
  have of' : ∀ q, S.op q = false → (closeS g S A B p).op q = false := fun q hq => by
    cases e1 : (closeS g S A B p).op q with
    | false => rfl
    | true => have := ((o1 q).1 e1).1; rw [hq] at this; cases this
  have hs := h.sort
  rw [e] at hs
  obtain ⟨s1, s2, s3⟩ := List.pairwise_append.1 hs
  have hway : ∀ q ∈ way, S.N q < S.N p := h.last_most
  have hrg := h.reg_group hg hl hb
  refine ⟨h.small, h.le, h.inj, fun q hq => h.opmet q ((o1 q).1 hq).1, fun q => ?_, s1, fun q hq => (o1 q).2 ⟨h.wop q (List.mem_append_left _ hq), hway q hq⟩, (List.pairwise_append.1 h.wsort).1, fun q hq => ?_, fun x hx q hq hN => h.reach x (List.mem_append_left _ hx) q ((o1 q).1 hq).1 hN, fun q hq => h.low1 q ((o1 q).1 hq).1, fun q hq => ?_, h.lk0, h.lkle, fun q hq r hr => ?_, fun q hq hqw => ?_, fun x hx q hq hqw hN hbt => ?_, fun q hq hqo r hr => ?_, fun G hG => ?_, fun q hq hqo => ?_, ?_⟩
  · rw [o1]
    show q ∈ A ↔ _
    constructor
    · intro hq
      exact ⟨(h.opn q).1 (by rw [e]; exact List.mem_append_left _ hq), s3 q hq p (by simp)⟩
    · rintro ⟨h1, h2⟩
      have hq := (h.opn q).2 h1
      rw [e] at hq
      rcases List.mem_append.1 hq with hq | hq
      · exact hq
      · have := ((hm q).1 hq).2; omega
  · obtain ⟨h1, h2⟩ := (o1 q).1 hq
    obtain ⟨x, hx, hle⟩ := h.root q h1
    rcases List.mem_append.1 hx with hx | hx
    · exact ⟨x, hx, hle⟩
    · have : x = p := by simpa using hx
      rw [this] at hle; omega
  · obtain ⟨h1, h2⟩ := (o1 q).1 hq
    obtain ⟨r, h3, h4, h5⟩ := h.low2 q h1
    have := h.low1 q h1
    exact ⟨r, (o1 r).2 ⟨h3, by omega⟩, h4, h5⟩
  · obtain ⟨h1, h2⟩ := (o1 q).1 hq
    obtain ⟨h3, h4⟩ := h.look q h1 r hr
    exact ⟨h3, fun ho => h4 ((o1 r).1 ho).1⟩
  · obtain ⟨h1, h2⟩ := (o1 q).1 hq
    refine h.fin q h1 (fun e' => ?_)
    rcases List.mem_append.1 e' with e' | e'
    · exact hqw e'
    · have : q = p := by simpa using e'
      rw [this] at h2; omega
  · obtain ⟨h1, h2⟩ := (o1 q).1 hq
    refine h.par x (List.mem_append_left _ hx) q h1 (fun e' => ?_) hN (fun p' hp' => ?_)
    · rcases List.mem_append.1 e' with e' | e'
      · exact hqw e'
      · have : q = p := by simpa using e'
        rw [this] at h2; omega
    · rcases List.mem_append.1 hp' with hp' | hp'
      · exact hbt p' hp'
      · have : p' = p := by simpa using hp'
        rw [this]; exact .inr h2
  · rcases o0 q hq hqo with h1 | h1
    · obtain ⟨h2, h3⟩ := h.closed q hq h1 r hr
      exact ⟨h2, of' r h3⟩
    · have hR : Reach g (p : Int) (r : Int) := (h.reach p (by simp) q h1.1 h1.2).step hr
      obtain ⟨r', hr', h2⟩ := h.reg_from hg hl hb hR
      have : r' = r := by omega
      rw [this] at h2
      rcases h2 with h2 | h2
      · exact ⟨h.opmet r h2.1, of r h2⟩
      · exact ⟨h2.1, of' r h2.2⟩
  · rcases List.mem_append.1 hG with hG | hG
    · obtain ⟨k, hk, e1, h1⟩ := h.grp G hG
      exact ⟨k, hk, e1, fun x hx => ⟨(h1 x hx).1, of' x (h1 x hx).2⟩⟩
    · have e1 : G = groupL g (p : Int) := by simpa using hG
      refine ⟨p, hpg, e1, fun x hx => ?_⟩
      rw [e1] at hx
      obtain ⟨q, hq, h1⟩ := (hrg x).1 hx
      have : q = x := by omega
      rw [this] at h1
      exact ⟨h.opmet x h1.1, of x h1⟩
  · rcases o0 q hq hqo with h1 | h1
    · obtain ⟨G, hG, h2⟩ := h.cov q hq h1
      exact ⟨G, List.mem_append_left _ hG, h2⟩
    · exact ⟨groupL g (p : Int), List.mem_append_right _ (by simp), (hrg q).2 ⟨q, rfl, h1⟩⟩
  · show (S.grp ++ [groupL g (p : Int)]).Pairwise _
    rw [List.pairwise_append]
    refine ⟨h.apart, by simp, fun G hG H hH x hxG hxH => ?_⟩
    have e1 : H = groupL g (p : Int) := by simpa using hH
    rw [e1] at hxH
    obtain ⟨q, rfl, h1⟩ := (hrg x).1 hxH
    obtain ⟨k, hk, e2, h2⟩ := h.grp G hG
    have := (h2 q hxG).2
    rw [h1.1] at this; cases this

theorem Inv.min_none {g : List (List Int)} {S : TS} {way : List Nat} {a : Nat} (h : Inv g S way) (ha : S.op a = true) {v : Nat} (hv : S.N a ≤ v) : minS S a v = S := by
  have := h.low1 a ha
  unfold minS
  rw [Nat.min_eq_left (by omega), upd_id]

end Go.Proofs.Ytnmnbeklofnonaa
