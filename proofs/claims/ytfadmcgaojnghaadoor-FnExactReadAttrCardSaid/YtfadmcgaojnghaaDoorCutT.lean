/- Plain facts: the pieces of a text cut at each of a byte, as the library's Split and Cut give them; numbers of too many digits. -/
import Derived.Test.YtfadmcgaojnghaaDoorCuts
import Derived.Test.YtfadmcgaojnghaaDoorReadNumT
import Derived.Test.YtfadmcgaojnghaaDoorGoodAttr
import Derived.Lib.IndexMore
namespace Go.Proofs.YtfadmcgaojnghaaDoor
open Go.RowKit
set_option linter.unusedVariables false

theorem index_byte (l : List UInt8) (b : UInt8) : Lib.index l [b] = Lib.indexByte l b := Lib.index_one l b
/-- Cut as often as it occurs is cut as often as one likes. -/
theorem sp_count (b : UInt8) : ∀ (fuel k : Nat) (l : List UInt8), l.length < fuel → Lib.countFrom [b] fuel l ≤ k → sp b k l = sp b (Lib.countFrom [b] fuel l) l
  | 0, k, l, h, _ => by omega
  | fuel + 1, k, l, h, hk => by
    rcases sp_cases b l with hm | ⟨i, h1, h2⟩
    · rw [sp_miss _ hm, sp_miss _ hm]
    · have hi : Lib.index l [b] = (i : Int) := by rw [index_byte]; exact indexByte_first l b i h1 h2
      have hil : i < l.length := (List.getElem?_eq_some_iff.1 h1).1
      have e : Lib.countFrom [b] (fuel + 1) l = 1 + Lib.countFrom [b] fuel (l.drop (i + 1)) := by
        rw [Lib.countFrom, hi]
        have : ((i : Int) == -1) = false := by rw [beq_eq_false_iff_ne]; omega
        rw [this]
        simp
      rw [e] at hk ⊢
      obtain ⟨k', rfl⟩ : ∃ k', k = k' + 1 := ⟨k - 1, by omega⟩
      rw [Nat.add_comm 1, sp_hit k' i h1 h2, sp_hit _ i h1 h2, sp_count b fuel k' _ (by simp; omega) (by omega)]
/-- A byte that is not cut at is in some piece. -/
theorem sp_mem {b c : UInt8} (hbc : c ≠ b) : ∀ (k : Nat) (l : List UInt8), c ∈ l → ∃ x ∈ sp b k l, c ∈ x
  | 0, l, h => ⟨l, by simp [sp_zero], h⟩
  | k + 1, l, h => by
    rcases sp_cases b l with hm | ⟨i, h1, h2⟩
    · exact ⟨l, by rw [sp_miss _ hm]; simp, h⟩
    · rw [sp_hit k i h1 h2]
      have hil : i < l.length := (List.getElem?_eq_some_iff.1 h1).1
      have hlb : l[i] = b := by rw [List.getElem?_eq_getElem hil] at h1; exact Option.some.inj h1
      have hsplit : l = l.take i ++ (b :: l.drop (i + 1)) := by
        rw [← hlb, ← List.drop_eq_getElem_cons hil, List.take_append_drop]
      rw [hsplit] at h
      rcases List.mem_append.1 h with h | h
      · exact ⟨_, List.mem_cons_self, h⟩
      · rcases List.mem_cons.1 h with h | h
        · exact absurd h hbc
        · obtain ⟨x, hx, hc⟩ := sp_mem hbc k _ h
          exact ⟨x, List.mem_cons_of_mem _ hx, hc⟩
theorem sp_has {b : UInt8} {k : Nat} {l : List UInt8} (h : 2 ≤ (sp b k l).length) : b ∈ l := by
  cases k with
  | zero => simp [sp_zero] at h
  | succ k =>
    rcases sp_cases b l with hm | ⟨i, h1, _⟩
    · rw [sp_miss _ hm] at h; simp at h
    · exact List.mem_of_getElem? h1

theorem decLen (n : Nat) (h : n ≤ 999) : (Lib.decDigits n).length ≤ 3 := by
  by_cases h1 : n < 10
  · rw [Lib.decDigits_one h1]; simp
  · rw [decDigits_more h1]
    by_cases h2 : n / 10 < 10
    · rw [Lib.decDigits_one h2]; simp
    · rw [decDigits_more h2, Lib.decDigits_one (by omega)]; simp
/-- What is no number of three digits is none that may stand in an attribute. -/
theorem notNumT_big {l : List UInt8} (h : isNumT l = false) : readL l < 0 ∨ 999 < readL l := by
  by_cases h0 : readL l < 0
  · exact .inl h0
  · right
    have hd := readL_dec (l := l) (by omega)
    by_cases hb : 999 < readL l
    · exact hb
    · have := decLen (readL l).toNat (by omega)
      rw [hd] at this
      have : isNumT l = true := by simp [isNumT, this]; omega
      rw [this] at h
      cases h
theorem isNumT_dig {l : List UInt8} (h : isNumT l = true) : ∀ c ∈ l, isDig c = true := by
  have h0 := (isNumT_yes h).2
  have := (readL_form h0).2.2.1
  rw [List.all_eq_true] at this
  exact this
theorem numsWT_read : ∀ {ws : List ByteArray}, allNumT ws = true → numsWT ws = ws.map fun s => readL s.data.toList
  | [], _ => rfl
  | x :: ws, h => by
    unfold allNumT at h
    simp only [List.all_cons, Bool.and_eq_true] at h
    have ih := numsWT_read (ws := ws) h.2
    unfold numsWT at ih ⊢
    simp only [List.map_cons]
    rw [ih]
    unfold numValT
    rw [h.1]; rfl
theorem goodA_seq {n s : Int} {l : List Int} (h : s < 0 ∨ 999 < s) : goodA n s l = false := goodA_d (goodD_s (inB_no (by omega)))
theorem goodA_dep {n s : Int} {l : List Int} {x : Int} (hx : x ∈ l) (h : x < 0 ∨ 999 < x) : goodA n s l = false := by
  refine goodA_d ?_
  cases hg : goodD n s l with
  | false => rfl
  | true =>
    have h3 := (goodD_of hg).2.2
    unfold allIn at h3
    rw [List.all_eq_true] at h3
    have h4 := h3 x hx
    unfold inB at h4
    simp at h4
    omega
/-- Where some word is no number of three digits, the attribute is not good. -/
theorem bad_words {n s : Int} {ws : List ByteArray} (h : allNumT ws = false) : goodA n s (ws.map fun x => readL x.data.toList) = false := by
  unfold allNumT at h
  rw [List.all_eq_false] at h
  obtain ⟨x, hx, hn⟩ := h
  exact goodA_dep (List.mem_map.2 ⟨x, hx, rfl⟩) (notNumT_big (by simpa using hn))

end Go.Proofs.YtfadmcgaojnghaaDoor
