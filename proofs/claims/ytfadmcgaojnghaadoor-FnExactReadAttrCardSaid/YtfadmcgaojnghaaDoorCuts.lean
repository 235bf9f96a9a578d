/- The pieces of a text cut at each blank, and cut at so many of them at most. No program text is named here. -/
import Derived.Test.YtfadmcgaojnghaaDoorSplit
import Derived.Lib.Split
import Derived.Lib.Strings
namespace Go.Proofs.YtfadmcgaojnghaaDoor

theorem indexByte_first : ∀ (l : List UInt8) (c : UInt8) (i : Nat), l[i]? = some c → (∀ j, j < i → l[j]? ≠ some c) → Lib.indexByte l c = i
  | [], c, i, h, _ => by simp at h
  | b :: l, c, 0, h, _ => by
    simp at h
    subst h
    simp [Lib.indexByte]
  | b :: l, c, i + 1, h, hn => by
    have hb : (b == c) = false := by
      rw [beq_eq_false_iff_ne]
      intro e
      exact hn 0 (by omega) (by simp [e])
    have ih := indexByte_first l c i (by simpa using h) (fun j hj => by simpa using hn (j + 1) (by omega))
    unfold Lib.indexByte
    rw [hb, ih]
    have : ((i : Int) == -1) = false := by rw [beq_eq_false_iff_ne]; omega
    simp [this]
theorem indexByte_miss : ∀ (l : List UInt8) (c : UInt8), (∀ j : Nat, l[j]? ≠ some c) → Lib.indexByte l c = -1
  | [], c, _ => rfl
  | b :: l, c, hn => by
    have hb : (b == c) = false := by
      rw [beq_eq_false_iff_ne]
      intro e
      exact hn 0 (by simp [e])
    have ih := indexByte_miss l c (fun j => by simpa using hn (j + 1))
    unfold Lib.indexByte
    rw [hb, ih]
    rfl

/-- Cut at k instances of b at most. -/
def sp (b : UInt8) (k : Nat) (l : List UInt8) : List (List UInt8) := Lib.splitK [b] 0 k l
theorem sp_zero (b : UInt8) (l : List UInt8) : sp b 0 l = [l] := rfl
theorem sp_miss {b : UInt8} {l : List UInt8} (k : Nat) (h : ∀ j : Nat, l[j]? ≠ some b) : sp b k l = [l] := by
  cases k with
  | zero => rfl
  | succ k =>
    unfold sp Lib.splitK
    rw [Lib.index_one, indexByte_miss l b h]
    rfl
theorem sp_hit {b : UInt8} {l : List UInt8} (k i : Nat) (h : l[i]? = some b) (hn : ∀ j, j < i → l[j]? ≠ some b) : sp b (k + 1) l = l.take i :: sp b k (l.drop (i + 1)) := by
  unfold sp
  rw [Lib.splitK, Lib.index_one, indexByte_first l b i h hn]
  have : ((i : Int) == -1) = false := by rw [beq_eq_false_iff_ne]; omega
  rw [this]
  simp
theorem sp_cases (b : UInt8) (l : List UInt8) : (∀ j : Nat, l[j]? ≠ some b) ∨ ∃ i : Nat, l[i]? = some b ∧ ∀ j, j < i → l[j]? ≠ some b := by
  by_cases h : Lib.indexByte l b = -1
  · exact .inl (fun j => Lib.indexByte_none h j)
  · have hg := Lib.indexByte_ge l b
    obtain ⟨h1, h2⟩ := Lib.indexByte_some (l := l) (c := b) (o := (Lib.indexByte l b).toNat) (by omega)
    exact .inr ⟨_, h1, h2⟩
theorem sp_len (b : UInt8) : ∀ (k : Nat) (l : List UInt8), 1 ≤ (sp b k l).length ∧ (sp b k l).length ≤ k + 1
  | 0, l => ⟨by simp [sp_zero], by simp [sp_zero]⟩
  | k + 1, l => by
    rcases sp_cases b l with h | ⟨i, h1, h2⟩
    · rw [sp_miss _ h]; simp
    · rw [sp_hit k i h1 h2]
      have := sp_len b k (l.drop (i + 1))
      simp; omega
/-- Where it is not cut as often as it may be, more cuts are none. -/
theorem sp_more (b : UInt8) : ∀ (m k : Nat) (l : List UInt8), m ≤ k → (sp b m l).length ≤ m → sp b k l = sp b m l
  | 0, k, l, _, h => by have := (sp_len b 0 l).1; omega
  | m + 1, k, l, hk, h => by
    rcases sp_cases b l with hc | ⟨i, h1, h2⟩
    · rw [sp_miss _ hc, sp_miss _ hc]
    · obtain ⟨k', rfl⟩ : ∃ k', k = k' + 1 := ⟨k - 1, by omega⟩
      rw [sp_hit m i h1 h2] at h
      rw [sp_hit m i h1 h2, sp_hit k' i h1 h2, sp_more b m k' _ (by omega) (by simpa using h)]
theorem sp_mono (b : UInt8) : ∀ (m k : Nat) (l : List UInt8), m ≤ k → (sp b m l).length ≤ (sp b k l).length
  | 0, k, l, _ => by have := (sp_len b k l).1; simp [sp_zero]; omega
  | m + 1, k, l, hk => by
    rcases sp_cases b l with hc | ⟨i, h1, h2⟩
    · rw [sp_miss _ hc, sp_miss _ hc]; exact Nat.le_refl _
    · obtain ⟨k', rfl⟩ : ∃ k', k = k' + 1 := ⟨k - 1, by omega⟩
      rw [sp_hit m i h1 h2, sp_hit k' i h1 h2]
      have := sp_mono b m k' (l.drop (i + 1)) (by omega)
      simp; omega
theorem sp_head (b : UInt8) (m k : Nat) (l : List UInt8) (hm : 1 ≤ m) (hk : 1 ≤ k) : (sp b m l)[0]? = (sp b k l)[0]? := by
  obtain ⟨m', rfl⟩ : ∃ m', m = m' + 1 := ⟨m - 1, by omega⟩
  obtain ⟨k', rfl⟩ : ∃ k', k = k' + 1 := ⟨k - 1, by omega⟩
  rcases sp_cases b l with hc | ⟨i, h1, h2⟩
  · rw [sp_miss _ hc, sp_miss _ hc]
  · rw [sp_hit m' i h1 h2, sp_hit k' i h1 h2]; rfl

/-- What the model's scan has cut off so far. -/
theorem scan (s : ByteArray) (b : UInt8) : ∀ p, p ≤ s.size →
    (∀ m, sp b ((cutTo s b p).1.length + m) s.data.toList = (cutTo s b p).1.map (·.data.toList) ++ sp b m (s.data.toList.drop (cutTo s b p).2)) ∧
    ∀ j, (cutTo s b p).2 ≤ j → j < p → s.data.toList[j]? ≠ some b
  | 0, _ => ⟨fun m => by simp [cutTo], fun j _ h => by omega⟩
  | p + 1, hp => by
    obtain ⟨h1, h2⟩ := scan s b p (by omega)
    have hle := (cutTo_le s b p).1
    have hlp : s.data.toList[p]? = s.data[p]? := by simp
    by_cases hb : s.data[p]? = some b
    · have e : cutTo s b (p + 1) = ((cutTo s b p).1 ++ [s.extract (cutTo s b p).2 p], p + 1) := by rw [cutTo, if_pos hb]
      rw [e]
      refine ⟨fun m => ?_, fun j hj hj' => by simp at hj; omega⟩
      have h3 := h1 (m + 1)
      have hi : (s.data.toList.drop (cutTo s b p).2)[p - (cutTo s b p).2]? = some b := by
        rw [List.getElem?_drop, show (cutTo s b p).2 + (p - (cutTo s b p).2) = p by omega, hlp, hb]
      have hn : ∀ j, j < p - (cutTo s b p).2 → (s.data.toList.drop (cutTo s b p).2)[j]? ≠ some b := by
        intro j hj
        rw [List.getElem?_drop]
        exact h2 _ (by omega) (by omega)
      rw [sp_hit m _ hi hn, List.drop_drop, show (cutTo s b p).2 + (p - (cutTo s b p).2 + 1) = p + 1 by omega] at h3
      simp only [List.length_append, List.length_cons, List.length_nil, List.map_append, List.map_cons, List.map_nil, List.append_assoc, List.cons_append, List.nil_append]
      rw [show (cutTo s b p).1.length + (0 + 1) + m = (cutTo s b p).1.length + (m + 1) by omega, h3, Lib.extract_data]
    · have e : cutTo s b (p + 1) = cutTo s b p := by rw [cutTo, if_neg hb]
      rw [e]
      refine ⟨h1, fun j hj hj' => ?_⟩
      by_cases hjp : j = p
      · subst hjp; rw [hlp]; exact hb
      · exact h2 j hj (by omega)
/-- The model's pieces are the text cut at each instance. -/
theorem pieces_sp (s : ByteArray) (b : UInt8) : (pieces s b).map (·.data.toList) = sp b s.size s.data.toList := by
  obtain ⟨h1, h2⟩ := scan s b s.size (Nat.le_refl _)
  obtain ⟨c1, c2⟩ := cutTo_le s b s.size
  have h3 := h1 (s.size - (cutTo s b s.size).1.length)
  rw [show (cutTo s b s.size).1.length + (s.size - (cutTo s b s.size).1.length) = s.size by omega] at h3
  have hlen : s.data.toList.length = s.size := Array.length_toList
  have hm : ∀ j : Nat, (s.data.toList.drop (cutTo s b s.size).2)[j]? ≠ some b := by
    intro j
    rw [List.getElem?_drop]
    by_cases hj : (cutTo s b s.size).2 + j < s.size
    · exact h2 _ (by omega) hj
    · rw [List.getElem?_eq_none (by omega)]; simp
  rw [sp_miss _ hm] at h3
  rw [h3]
  unfold pieces
  rw [List.map_append]
  congr 1
  simp only [List.map_cons, List.map_nil]
  rw [Lib.extract_data, List.take_of_length_le (by simp)]

/-- The program's words: they are the model's, or there are six of them and no fewer there, and the first is the same. -/
theorem six_words (s : ByteArray) : (Lib.splitB ⟨#[32]⟩ 0 (min 6 (s.size + 1) - 1) s).map (·.data.toList) = (pieces s 32).map (·.data.toList) ∨
    ((Lib.splitB ⟨#[32]⟩ 0 (min 6 (s.size + 1) - 1) s).length = 6 ∧ 6 ≤ (pieces s 32).length ∧
      ((Lib.splitB ⟨#[32]⟩ 0 (min 6 (s.size + 1) - 1) s).map (·.data.toList))[0]? = ((pieces s 32).map (·.data.toList))[0]?) := by
  have hd : (Lib.splitB ⟨#[32]⟩ 0 (min 6 (s.size + 1) - 1) s).map (·.data.toList) = sp 32 (min 6 (s.size + 1) - 1) s.data.toList := Lib.splitB_data ⟨#[32]⟩ 0 _ s
  have hl : (Lib.splitB ⟨#[32]⟩ 0 (min 6 (s.size + 1) - 1) s).length = (sp 32 (min 6 (s.size + 1) - 1) s.data.toList).length := by rw [← hd]; simp
  have hl2 : (pieces s 32).length = (sp 32 s.size s.data.toList).length := by rw [← pieces_sp]; simp
  rw [hd, hl, hl2, pieces_sp]
  by_cases h5 : s.size ≤ 5
  · left
    rw [show min 6 (s.size + 1) - 1 = s.size by omega]
  · rw [show min 6 (s.size + 1) - 1 = 5 by omega]
    have h6 := (sp_len 32 5 s.data.toList).2
    by_cases hle : (sp 32 5 s.data.toList).length ≤ 5
    · left
      exact (sp_more 32 5 s.size _ (by omega) hle).symm
    · right
      have := sp_mono 32 5 s.size s.data.toList (by omega)
      exact ⟨by omega, by omega, sp_head 32 5 s.size _ (by omega) (by omega)⟩

end Go.Proofs.YtfadmcgaojnghaaDoor
