/- Decimal digits: the number of a text, and the text of a number. No program text is named here. -/
import Derived.Test.YtfadmcgaojnghaaDoorRead
import Derived.Lib.ItoaNum
import Derived.Lib.Atoi
namespace Go.Proofs.YtfadmcgaojnghaaDoor

def nval (l : List UInt8) : Nat := l.foldl (fun a b => a * 10 + (b.toNat - 48)) 0
theorem nval_snoc (l : List UInt8) (b : UInt8) : nval (l ++ [b]) = nval l * 10 + (b.toNat - 48) := by simp [nval, List.foldl_append]
theorem isDig_iff (b : UInt8) : isDig b = true ↔ 48 ≤ b.toNat ∧ b.toNat ≤ 57 := by simp [isDig]
theorem dig_digit {d : Nat} (h : d < 10) : isDig (UInt8.ofNat (48 + d)) = true ∧ (UInt8.ofNat (48 + d)).toNat = 48 + d := by
  have e : (UInt8.ofNat (48 + d)).toNat = 48 + d := by rw [UInt8.toNat_ofNat']; omega
  exact ⟨(isDig_iff _).2 (by omega), e⟩
theorem digit_of {b : UInt8} (h : isDig b = true) : UInt8.ofNat (48 + (b.toNat - 48)) = b := by
  have := (isDig_iff b).1 h
  apply UInt8.toNat_inj.1
  rw [UInt8.toNat_ofNat']; omega
theorem valTo_nval (l : List UInt8) : ∀ k, k ≤ l.length → (l.take k).all isDig = true → valTo l k = nval (l.take k)
  | 0, _, _ => by simp [valTo, nval]
  | k + 1, hk, h => by
    have hlt : k < l.length := by omega
    have e : l.take (k + 1) = l.take k ++ [l[k]] := by rw [List.take_add_one, List.getElem?_eq_getElem hlt]; rfl
    rw [e, List.all_append, Bool.and_eq_true] at h
    have ih := valTo_nval l k (by omega) h.1
    have hd := (isDig_iff l[k]).1 (by simpa using h.2)
    rw [e, nval_snoc]
    unfold valTo
    rw [ih, List.getElem?_eq_getElem hlt, Option.getD_some]
    omega
theorem nval_pos : ∀ (r : List UInt8) (a : Nat), 1 ≤ a → 1 ≤ r.foldl (fun a b => a * 10 + (b.toNat - 48)) a
  | [], a, h => h
  | b :: r, a, h => nval_pos r (a * 10 + (b.toNat - 48)) (by omega)
theorem nval_first {l : List UInt8} {c : UInt8} (h : l[0]? = some c) (hd : isDig c = true) (hc : c ≠ 48) : 1 ≤ nval l := by
  cases l with
  | nil => cases h
  | cons x r =>
    simp at h
    subst h
    have := (isDig_iff x).1 hd
    have hne : x.toNat ≠ 48 := fun e => hc (UInt8.toNat_inj.1 (by rw [e]; rfl))
    unfold nval
    rw [List.foldl_cons]
    exact nval_pos r _ (by omega)

/-- A text of digits in their one form is the text of its number. -/
theorem dec_of_form : ∀ (n : Nat) (l : List UInt8), l.length = n + 1 → l.all isDig = true → (n = 0 ∨ l[0]? ≠ some 48) → Lib.decDigits (nval l) = l := by
  intro n
  induction n with
  | zero =>
    intro l hl ha _
    match l, hl with
    | [b], _ =>
      have hb : isDig b = true := by simpa using ha
      have := (isDig_iff b).1 hb
      have e : nval [b] = b.toNat - 48 := by simp [nval]
      rw [e, Lib.decDigits_one (by omega), digit_of hb]
  | succ n ih =>
    intro l hl ha hf
    have hlt : n + 1 < l.length := by omega
    have e : l = l.take (n + 1) ++ [l[n + 1]] := by
      have h1 : l.take (n + 1 + 1) = l := List.take_of_length_le (by omega)
      have h2 : l.take (n + 1 + 1) = l.take (n + 1) ++ [l[n + 1]] := by rw [List.take_add_one, List.getElem?_eq_getElem hlt]; rfl
      exact h1.symm.trans h2
    have ha' : (l.take (n + 1)).all isDig = true ∧ isDig l[n + 1] = true := by
      rw [e, List.all_append, Bool.and_eq_true] at ha
      exact ⟨ha.1, by simpa using ha.2⟩
    have hf0 : l[0]? ≠ some 48 := by rcases hf with h | h; cases h; exact h
    have h0 : (l.take (n + 1))[0]? = l[0]? := by rw [List.getElem?_take, if_pos (by omega)]
    have hin := ih (l.take (n + 1)) (by simp; omega) ha'.1 (.inr (by rw [h0]; exact hf0))
    have hpos : 1 ≤ nval (l.take (n + 1)) := by
      have hl0 : (l.take (n + 1))[0]? = some l[0] := by rw [h0, List.getElem?_eq_getElem (by omega)]
      refine nval_first hl0 ?_ ?_
      · have hm : l[0] ∈ l := List.getElem_mem (by omega)
        exact (List.all_eq_true.1 ha) _ hm
      · intro ee
        apply hf0
        rw [List.getElem?_eq_getElem (by omega), ee]
    have hd := (isDig_iff l[n + 1]).1 ha'.2
    have hv : nval l = nval (l.take (n + 1)) * 10 + (l[n + 1].toNat - 48) := by
      conv => lhs; rw [e]
      rw [nval_snoc]
    rw [hv, Lib.decDigits, dif_neg (by omega)]
    have e1 : (nval (l.take (n + 1)) * 10 + (l[n + 1].toNat - 48)) / 10 = nval (l.take (n + 1)) := by omega
    have e2 : (nval (l.take (n + 1)) * 10 + (l[n + 1].toNat - 48)) % 10 = l[n + 1].toNat - 48 := by omega
    rw [e1, e2, hin, digit_of ha'.2]
    exact e.symm

theorem dec_props (n : Nat) : (Lib.decDigits n).all isDig = true ∧ nval (Lib.decDigits n) = n ∧ Lib.decDigits n ≠ [] ∧ (n = 0 ∨ (Lib.decDigits n)[0]? ≠ some 48) := by
  induction n using Nat.strongRecOn with
  | _ n ih =>
    by_cases h : n < 10
    · obtain ⟨d1, d2⟩ := dig_digit h
      rw [Lib.decDigits_one h]
      refine ⟨by simpa using d1, by unfold nval; rw [List.foldl_cons, List.foldl_nil, d2]; omega, by simp, ?_⟩
      by_cases h0 : n = 0
      · exact .inl h0
      · refine .inr ?_
        intro e
        simp only [List.getElem?_cons_zero, Option.some.injEq] at e
        rw [e] at d2
        have : (48 : UInt8).toNat = 48 := rfl
        omega
    · have hd : n % 10 < 10 := by omega
      obtain ⟨d1, d2⟩ := dig_digit hd
      obtain ⟨a1, a2, a3, a4⟩ := ih (n / 10) (by omega)
      have e : Lib.decDigits n = Lib.decDigits (n / 10) ++ [UInt8.ofNat (48 + n % 10)] := by rw [Lib.decDigits, dif_neg h]
      rw [e]
      refine ⟨by rw [List.all_append, a1]; simpa using d1, by rw [nval_snoc, a2, d2]; omega, by simp, .inr ?_⟩
      have hl : 0 < (Lib.decDigits (n / 10)).length := List.length_pos_iff.2 a3
      rw [List.getElem?_append_left hl]
      rcases a4 with h' | h'
      · omega
      · exact h'

theorem readL_form {l : List UInt8} (h : 0 ≤ readL l) : 1 ≤ l.length ∧ l.length ≤ 6 ∧ l.all isDig = true ∧ (l.length = 1 ∨ l[0]? ≠ some 48) ∧ readL l = nval l := by
  unfold readL at h ⊢
  split at h
  · rename_i hc
    rw [if_pos hc]
    simp only [Bool.and_eq_true, decide_eq_true_eq, Bool.not_eq_true', Bool.and_eq_false_iff] at hc
    obtain ⟨⟨⟨h1, h6⟩, hz⟩, ha⟩ := hc
    refine ⟨h1, h6, ha, ?_, ?_⟩
    · rcases hz with hz | hz
      · right
        intro e
        rw [e] at hz
        simp at hz
      · left
        simp at hz
        omega
    · have := valTo_nval l l.length (Nat.le_refl _) (by rw [List.take_length]; exact ha)
      rw [this, List.take_length]
  · omega
/-- A text that is read is the text of its number. -/
theorem readL_dec {l : List UInt8} (h : 0 ≤ readL l) : Lib.decDigits (readL l).toNat = l := by
  obtain ⟨h1, h6, ha, hf, hv⟩ := readL_form h
  rw [hv, Int.toNat_natCast]
  refine dec_of_form (l.length - 1) l (by omega) ha ?_
  rcases hf with h' | h'
  · left; omega
  · exact .inr h'
/-- The text of a number is read back. -/
theorem dec_readL (n : Nat) (h : (Lib.decDigits n).length ≤ 6) : readL (Lib.decDigits n) = n := by
  obtain ⟨a1, a2, a3, a4⟩ := dec_props n
  have hl : 1 ≤ (Lib.decDigits n).length := List.length_pos_iff.2 a3
  have hz : ((Lib.decDigits n)[0]?.getD 0 == 48 && decide (1 < (Lib.decDigits n).length)) = false := by
    rcases a4 with h0 | h0
    · subst h0
      rw [Lib.decDigits_one (by omega)]
      rfl
    · rw [List.getElem?_eq_getElem (by omega)] at h0 ⊢
      rw [Option.getD_some]
      have : ((Lib.decDigits n)[0] == 48) = false := by
        rw [beq_eq_false_iff_ne]
        intro e
        exact h0 (by rw [e])
      rw [this]; rfl
  unfold readL
  rw [hz, if_pos (by simp [h, a1]; omega)]
  rw [valTo_nval _ _ (Nat.le_refl _) (by rw [List.take_length]; exact a1), List.take_length, a2]

theorem decFrom_digits : ∀ (l : List UInt8) (a : Nat), l.all isDig = true → Lib.decFrom a l = some (l.foldl (fun a b => a * 10 + (b.toNat - 48)) a)
  | [], a, _ => rfl
  | b :: l, a, h => by
    rw [List.all_cons, Bool.and_eq_true] at h
    have hd := (isDig_iff b).1 h.1
    have e : Lib.digitVal b = some (b.toNat - 48) := by unfold Lib.digitVal; rw [if_pos hd]
    unfold Lib.decFrom
    rw [e]
    exact decFrom_digits l _ h.2
theorem atoi_dec (n : Nat) : Lib.atoi (Lib.decDigits n) = some (n : Int) := by
  obtain ⟨a1, a2, a3, _⟩ := dec_props n
  cases hl : Lib.decDigits n with
  | nil => exact absurd hl a3
  | cons b r =>
    rw [hl] at a1 a2
    have hd := (isDig_iff b).1 (by rw [List.all_cons, Bool.and_eq_true] at a1; exact a1.1)
    have h45 : (b == 45) = false := by
      rw [beq_eq_false_iff_ne]; intro e; rw [e] at hd; exact absurd hd (by decide)
    have h43 : (b == 43) = false := by
      rw [beq_eq_false_iff_ne]; intro e; rw [e] at hd; exact absurd hd (by decide)
    unfold Lib.atoi
    simp only [h45, h43, Bool.false_eq_true, if_false]
    have : Lib.decNat (b :: r) = some n := by
      unfold Lib.decNat
      have := decFrom_digits (b :: r) 0 a1
      rw [show ((b :: r).isEmpty) = false from rfl]
      rw [← a2]
      exact this
    rw [this]; rfl

end Go.Proofs.YtfadmcgaojnghaaDoor
