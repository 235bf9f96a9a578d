/- At every text both functions ReadCmd, the program's and the model's, tell the same. -/
import Derived.Test.YtfadmcgaojnghaaDoorImplRead3A
import Derived.Test.YtfadmcgaojnghaaDoorImplRead3B
import Derived.Test.YtfadmcgaojnghaaDoorImplRead3C
import Derived.Test.YtfadmcgaojnghaaDoorImplRead3D
import Derived.Test.YtfadmcgaojnghaaDoorImplRead3E
import Derived.Test.YtfadmcgaojnghaaDoorImplRead3F
import Derived.Test.YtfadmcgaojnghaaDoorImplRead0
namespace Go.Proofs.YtfadmcgaojnghaaDoor
open Go.RowKit
set_option linter.unusedVariables false

theorem bytes_inj {x y : ByteArray} (h : x.data.toList = y.data.toList) : x = y := by
  obtain ⟨⟨a⟩⟩ := x
  obtain ⟨⟨b⟩⟩ := y
  simp at h
  rw [h]
theorem map_data_inj : ∀ (a b : List ByteArray), a.map (·.data.toList) = b.map (·.data.toList) → a = b
  | [], [], _ => rfl
  | [], _ :: _, h => by simp at h
  | _ :: _, [], h => by simp at h
  | x :: a, y :: b, h => by
    simp only [List.map_cons, List.cons.injEq] at h
    rw [bytes_inj h.1, map_data_inj a b h.2]
theorem extract_le (s : ByteArray) (a b : Nat) : (s.extract a b).size ≤ s.size := by
  rw [ByteArray.size_extract]; omega
theorem cutTo_size (s : ByteArray) (b : UInt8) : ∀ p, ∀ x ∈ (cutTo s b p).1, x.size ≤ s.size
  | 0, x, hx => by simp [cutTo] at hx
  | p + 1, x, hx => by
    unfold cutTo at hx
    split at hx
    · rcases List.mem_append.1 hx with h | h
      · exact cutTo_size s b p x h
      · simp at h
        subst h
        exact extract_le _ _ _
    · exact cutTo_size s b p x hx
theorem pieces_size (s : ByteArray) (b : UInt8) : ∀ x ∈ pieces s b, x.size ≤ s.size := by
  intro x hx
  unfold pieces at hx
  rcases List.mem_append.1 hx with h | h
  · exact cutTo_size s b _ x h
  · simp at h
    subst h
    exact extract_le _ _ _
theorem isKind_cases {l : List UInt8} (h : isKind l = true) : l = [45] ∨ l = [109, 111, 118, 101] ∨ l = [114, 101, 97, 100] := by
  unfold isKind at h
  simp only [Bool.or_eq_true, beq_iff_eq] at h
  exact h
theorem numsW_read : ∀ {ws : List ByteArray}, allNum ws = true → numsW ws = ws.map fun s => readL s.data.toList
  | [], _ => rfl
  | x :: ws, h => by
    unfold allNum at h
    simp only [List.all_cons, Bool.and_eq_true] at h
    have ih := numsW_read (ws := ws) h.2
    unfold numsW at ih ⊢
    simp only [List.map_cons]
    rw [ih]
    unfold numVal
    rw [h.1]; rfl
theorem nums4 {ws : List ByteArray} (h : allNum ws = true) (hl : ws.length = 4) : ∃ a b c d, numsW ws = [a, b, c, d] ∧ fillN ws ws.length = [a, b, c, d] := by
  have hn := numsW_read h
  match ws, hl with
  | [x, y, z, u], _ => exact ⟨_, _, _, _, hn, by simp [fillN]⟩
theorem nums2 {ws : List ByteArray} (h : allNum ws = true) (hl : ws.length = 2) : ∃ a b, numsW ws = [a, b] ∧ fillN ws ws.length = [a, b, 0, 0] := by
  have hn := numsW_read h
  match ws, hl with
  | [x, y], _ => exact ⟨_, _, hn, by simp [fillN, List.replicate]⟩
theorem sp_single {b : UInt8} {k : Nat} {l x : List UInt8} (hk : 1 ≤ k) (h : sp b k l = [x]) : l = x := by
  rcases sp_cases b l with hm | ⟨i, h1, h2⟩
  · rw [sp_miss _ hm] at h
    simpa using h
  · obtain ⟨k', rfl⟩ : ∃ k', k = k' + 1 := ⟨k - 1, by omega⟩
    rw [sp_hit k' i h1 h2] at h
    have := (sp_len b k' (l.drop (i + 1))).1
    simp only [List.cons.injEq] at h
    rw [h.2] at this
    simp at this

/-- What both tell of a text. -/
def Same (s : ByteArray) : Prop := ∃ (k i f t a code : Int) (ok : Bool), (∀ w, Calls Tryd.prog 19 #[.string s] w (CmdRes k i f t a code ok w)) ∧
  (∀ w, Pow w → ErrAt w → Forms w → MaxAt w → Calls Tryd.prog 13 #[.string s] w (CmdRes k i f t a code ok w))

theorem same_equal (s : ByteArray) (hs : s.size ≤ 1048576) (s0 : ByteArray) (rest : List ByteArray) (hp : pieces s 32 = s0 :: rest) (hw : words6 s = s0 :: rest) : Same s := by
  have hsz : ∀ x ∈ rest, x.size ≤ 1048576 := fun x hx => Nat.le_trans (pieces_size s 32 x (by rw [hp]; exact List.mem_cons_of_mem _ hx)) hs
  cases hk : isKind s0.data.toList with
  | false => exact ⟨0, 0, 0, 0, 0, 1, false, fun w => specRead_1 s w hs s0 rest hp hk, fun w h1 h2 h3 h4 => implRead_1 s w hs h1 h2 h3 h4 s0 rest hw hk⟩
  | true =>
    rcases isKind_cases hk with hk | hk | hk
    · by_cases hl : rest.length = 0
      · have hrest : rest = [] := List.eq_nil_of_length_eq_zero hl
        have hs1 : s = ⟨#[45]⟩ := by
          refine bytes_inj ?_
          have h := pieces_sp s 32
          rw [hp, hrest, List.map_cons, List.map_nil, hk] at h
          by_cases h0 : 1 ≤ s.size
          · exact sp_single h0 h.symm
          · have hz : s.size = 0 := by omega
            rw [hz, sp_zero] at h
            simpa using h.symm
        refine ⟨0, 0, 0, 0, 0, 0, true, fun w => specRead_0 s w hs s0 rest hp hk hl, fun w h1 h2 h3 h4 => ?_⟩
        subst hs1
        exact implRead_0 w h1 h2 h3 h4
      · exact ⟨0, 0, 0, 0, 0, 2, false, fun w => specRead_2_0 s w hs s0 rest hp hk (by omega), fun w h1 h2 h3 h4 => implRead_2_0 s w hs h1 h2 h3 h4 s0 rest hw hk (by omega)⟩
    · by_cases hl : rest.length = 4
      · cases hb : allNum rest with
        | false => exact ⟨0, 0, 0, 0, 0, 3, false, fun w => specRead_1_bad s w hs s0 rest hp hk hl hsz hb, fun w h1 h2 h3 h4 => implRead_1_bad s w hs h1 h2 h3 h4 s0 rest hw hk hl hsz hb⟩
        | true =>
          obtain ⟨a, b, c, d, hn, hf⟩ := nums4 hb hl
          rcases codeM_sign a b c d with hc | hc
          · exact ⟨1, a, b, c, d, 0, true, fun w => specRead_1_ok s w hs s0 rest hp hk hl hsz hb a b c d hf hc, fun w h1 h2 h3 h4 => implRead_1_ok s w hs h1 h2 h3 h4 s0 rest hw hk hl hsz hb a b c d hn hc⟩
          · exact ⟨0, 0, 0, 0, 0, codeM a b c d, false, fun w => specRead_1_code s w hs s0 rest hp hk hl hsz hb a b c d hf _ rfl hc, fun w h1 h2 h3 h4 => implRead_1_code s w hs h1 h2 h3 h4 s0 rest hw hk hl hsz hb a b c d hn _ rfl hc⟩
      · exact ⟨0, 0, 0, 0, 0, 2, false, fun w => specRead_2_1 s w hs s0 rest hp hk (by omega), fun w h1 h2 h3 h4 => implRead_2_1 s w hs h1 h2 h3 h4 s0 rest hw hk (by omega)⟩
    · by_cases hl : rest.length = 2
      · cases hb : allNum rest with
        | false => exact ⟨0, 0, 0, 0, 0, 3, false, fun w => specRead_2_bad s w hs s0 rest hp hk hl hsz hb, fun w h1 h2 h3 h4 => implRead_2_bad s w hs h1 h2 h3 h4 s0 rest hw hk hl hsz hb⟩
        | true =>
          obtain ⟨a, b, hn, hf⟩ := nums2 hb hl
          rcases codeR_sign a b with hc | hc
          · exact ⟨2, a, b, 0, 0, 0, true, fun w => specRead_2_ok s w hs s0 rest hp hk hl hsz hb a b 0 0 hf hc, fun w h1 h2 h3 h4 => implRead_2_ok s w hs h1 h2 h3 h4 s0 rest hw hk hl hsz hb a b hn hc⟩
          · exact ⟨0, 0, 0, 0, 0, codeR a b, false, fun w => specRead_2_code s w hs s0 rest hp hk hl hsz hb a b 0 0 hf _ rfl hc, fun w h1 h2 h3 h4 => implRead_2_code s w hs h1 h2 h3 h4 s0 rest hw hk hl hsz hb a b hn _ rfl hc⟩
      · exact ⟨0, 0, 0, 0, 0, 2, false, fun w => specRead_2_2 s w hs s0 rest hp hk (by omega), fun w h1 h2 h3 h4 => implRead_2_2 s w hs h1 h2 h3 h4 s0 rest hw hk (by omega)⟩

theorem same_six (s : ByteArray) (hs : s.size ≤ 1048576) (s0 : ByteArray) (rest rest' : List ByteArray) (hp : pieces s 32 = s0 :: rest) (hw : words6 s = s0 :: rest') (h1 : 5 ≤ rest.length) (h2 : rest'.length = 5) : Same s := by
  cases hk : isKind s0.data.toList with
  | false => exact ⟨0, 0, 0, 0, 0, 1, false, fun w => specRead_1 s w hs s0 rest hp hk, fun w g1 g2 g3 g4 => implRead_1 s w hs g1 g2 g3 g4 s0 rest' hw hk⟩
  | true =>
    rcases isKind_cases hk with hk | hk | hk
    · exact ⟨0, 0, 0, 0, 0, 2, false, fun w => specRead_2_0 s w hs s0 rest hp hk (by omega), fun w g1 g2 g3 g4 => implRead_2_0 s w hs g1 g2 g3 g4 s0 rest' hw hk (by omega)⟩
    · exact ⟨0, 0, 0, 0, 0, 2, false, fun w => specRead_2_1 s w hs s0 rest hp hk (by omega), fun w g1 g2 g3 g4 => implRead_2_1 s w hs g1 g2 g3 g4 s0 rest' hw hk (by omega)⟩
    · exact ⟨0, 0, 0, 0, 0, 2, false, fun w => specRead_2_2 s w hs s0 rest hp hk (by omega), fun w g1 g2 g3 g4 => implRead_2_2 s w hs g1 g2 g3 g4 s0 rest' hw hk (by omega)⟩

theorem read_same (s : ByteArray) (hs : s.size ≤ 1048576) : Same s := by
  have hpl : 1 ≤ (pieces s 32).length := by unfold pieces; simp
  obtain ⟨hwl, _⟩ := words6_len s
  obtain ⟨s0, rest, hp⟩ : ∃ s0 rest, pieces s 32 = s0 :: rest := by
    match h : pieces s 32, hpl with
    | a :: l, _ => exact ⟨a, l, rfl⟩
  obtain ⟨u0, rest', hw⟩ : ∃ u0 rest', words6 s = u0 :: rest' := by
    match h : words6 s, hwl with
    | a :: l, _ => exact ⟨a, l, rfl⟩
  rcases (six_words s : (words6 s).map (·.data.toList) = (pieces s 32).map (·.data.toList) ∨ ((words6 s).length = 6 ∧ 6 ≤ (pieces s 32).length ∧ ((words6 s).map (·.data.toList))[0]? = ((pieces s 32).map (·.data.toList))[0]?)) with h | ⟨h1, h2, h3⟩
  · have e := map_data_inj _ _ h
    rw [hp] at e
    exact same_equal s hs s0 rest hp e
  · have h1 : (words6 s).length = 6 := h1
    have h3 : ((words6 s).map (·.data.toList))[0]? = ((pieces s 32).map (·.data.toList))[0]? := h3
    rw [hw] at h1 h3
    rw [hp] at h2 h3
    simp only [List.length_cons, List.map_cons, List.getElem?_cons_zero, Option.some.injEq] at h1 h2 h3
    have e := bytes_inj h3
    subst e
    exact same_six s hs _ rest rest' hp hw (by omega) (by omega)

end Go.Proofs.YtfadmcgaojnghaaDoor
