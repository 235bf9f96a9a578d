/- At every text both functions ReadAttr, the program's and the model's, tell the same. -/
import Derived.Test.YtfadmcgaojnghaaDoorImplReadA
import Derived.Test.YtfadmcgaojnghaaDoorSpecReadA2
namespace Go.Proofs.YtfadmcgaojnghaaDoor
open Go.RowKit
set_option linter.unusedVariables false

theorem cut_miss {l : List UInt8} (h : ∀ j : Nat, l[j]? ≠ some 58) : (Lib.cut l [58]).2.2 = false := by
  have hi : Lib.index l [58] = -1 := by rw [index_byte]; exact indexByte_miss l 58 h
  unfold Lib.cut
  rw [hi]; rfl
theorem cut_hit {l : List UInt8} {i : Nat} (h : l[i]? = some 58) (hn : ∀ j, j < i → l[j]? ≠ some 58) : Lib.cut l [58] = (l.take i, l.drop (i + 1), true) := by
  have hi : Lib.index l [58] = (i : Int) := by rw [index_byte]; exact indexByte_first l 58 i h hn
  unfold Lib.cut
  rw [hi, if_pos (by omega)]
  simp
theorem sp_only {b : UInt8} {k : Nat} {l x : List UInt8} (h : sp b k l = [x]) : l = x := by
  rcases sp_cases b l with hm | ⟨i, h1, h2⟩
  · rw [sp_miss _ hm] at h
    simpa using h
  · cases k with
    | zero => rw [sp_zero] at h; simpa using h
    | succ k' =>
      rw [sp_hit k' i h1 h2] at h
      have := (sp_len b k' (l.drop (i + 1))).1
      simp only [List.cons.injEq] at h
      rw [h.2] at this
      simp at this
theorem not58 {l : List UInt8} (h : (58 : UInt8) ∈ l) : isNumT l = false := by
  cases hn : isNumT l with
  | false => rfl
  | true =>
    have := isNumT_dig hn 58 h
    simp [isDig] at this
theorem bad58 {y : ByteArray} (h : (58 : UInt8) ∈ y.data.toList) : allNumT (commas y) = false := by
  obtain ⟨p, hp, hc⟩ := sp_mem (b := 44) (c := 58) (by decide) y.size y.data.toList h
  rw [← commas_data] at hp
  obtain ⟨u, hu, rfl⟩ := List.mem_map.1 hp
  unfold allNumT
  rw [List.all_eq_false]
  exact ⟨u, hu, by rw [not58 hc]; simp⟩
theorem okP_is (n : Int) (x y : ByteArray) : okP n x (commas y) = goodA n (readL x.data.toList) ((pieces y 44).map fun u => readL u.data.toList) := by
  rw [← commas_pieces]
  unfold okP
  cases hx : isNumT x.data.toList with
  | false => rw [goodA_seq (notNumT_big hx)]; rfl
  | true =>
    cases hy : allNumT (commas y) with
    | false => rw [bad_words hy]; rfl
    | true =>
      have e : numValT x.data.toList = readL x.data.toList := by unfold numValT; rw [hx]; rfl
      rw [e, if_pos rfl, numsWT_read hy]; rfl
theorem okP_yes {n : Int} {x : ByteArray} {ws : List ByteArray} (h : okP n x ws = true) : isNumT x.data.toList = true ∧ allNumT ws = true := by
  unfold okP at h
  simp only [Bool.and_eq_true] at h
  exact ⟨h.1, h.2.1⟩

/-- What both tell of a text. -/
def SameA (n : Int) (s : ByteArray) : Prop := ∃ (S : Int) (A : List Int) (b : Bool), A.length ≤ 5 ∧ (∀ w, Calls Tryd.prog 29 #[.int .i64 n, .string s] w (TwoAttr S A b w)) ∧
  (∀ w, Pow w → ErrAt w → LongAt w → Calls Tryd.prog 30 #[.int .i64 n, .string s] w (TwoAttr S A b w))

theorem goodA_len {n s : Int} {l : List Int} (h : goodA n s l = true) : l.length ≤ 5 := by
  obtain ⟨h1, h2⟩ := goodA_of h
  have h3 := (goodD_of h2).2.1
  rcases isGrp_of h1 with h | h <;> omega

theorem readA_same (n : Int) (s : ByteArray) (hs : s.size ≤ 1048576) : SameA n s := by
  by_cases h40 : 40 < s.size
  · exact ⟨0, [], false, by simp, fun w => specReadA_no n s w hs (.inl h40), fun w _ _ _ => implReadA_long n s w hs h40⟩
  · have hs40 : s.size ≤ 40 := by omega
    have hlen : s.data.toList.length = s.size := Array.length_toList
    have hpl : (pieces s 58).length = (sp 58 s.size s.data.toList).length := by rw [← pieces_sp]; simp
    rcases sp_cases 58 s.data.toList with hm | ⟨i, h1, h2⟩
    · have hp : (pieces s 58).length ≠ 2 := by rw [hpl, sp_miss _ hm]; simp
      exact ⟨0, [], false, by simp, fun w => specReadA_no n s w hs (.inr hp), fun w _ _ hL => implReadA_cut n s w hs40 hL _ _ ⟨rfl, rfl, cut_miss hm⟩⟩
    · have hil : i < s.data.toList.length := (List.getElem?_eq_some_iff.1 h1).1
      have hcut := cut_hit h1 h2
      obtain ⟨x, hx⟩ : ∃ x : ByteArray, x = ⟨(s.data.toList.take i).toArray⟩ := ⟨_, rfl⟩
      obtain ⟨y, hy⟩ : ∃ y : ByteArray, y = ⟨(s.data.toList.drop (i + 1)).toArray⟩ := ⟨_, rfl⟩
      have hxd : x.data.toList = s.data.toList.take i := by rw [hx]
      have hyd : y.data.toList = s.data.toList.drop (i + 1) := by rw [hy]
      have hx40 : x.size ≤ 40 := by
        have : x.size = x.data.toList.length := Array.length_toList.symm
        rw [this, hxd, List.length_take]; omega
      have hy40 : y.size ≤ 40 := by
        have : y.size = y.data.toList.length := Array.length_toList.symm
        rw [this, hyd, List.length_drop]; omega
      have hcl : (commas y).length ≤ 41 := by
        rw [commas_pieces]
        have := (pieces_len y 44).2
        omega
      have hcs : ∀ u ∈ commas y, u.size ≤ 1048576 := fun u hu => by
        rw [commas_pieces] at hu
        have := pieces_size' y 44 u hu
        omega
      have hc3 : (⟨(Lib.cut s.data.toList [58]).1.toArray⟩ : ByteArray) = x ∧ (⟨(Lib.cut s.data.toList [58]).2.1.toArray⟩ : ByteArray) = y ∧ (Lib.cut s.data.toList [58]).2.2 = true := by
        rw [hcut, hx, hy]; exact ⟨rfl, rfl, rfl⟩
      have hsp : (pieces s 58).map (·.data.toList) = s.data.toList.take i :: sp 58 (s.size - 1) (s.data.toList.drop (i + 1)) := by
        rw [pieces_sp, show s.size = s.size - 1 + 1 by omega, sp_hit (s.size - 1) i h1 h2]; simp
      by_cases hp : (pieces s 58).length = 2
      · obtain ⟨s0, s1, hq⟩ : ∃ s0 s1, pieces s 58 = [s0, s1] := by
          match h : pieces s 58, hp with
          | [a, b], _ => exact ⟨a, b, rfl⟩
        rw [hq] at hsp
        simp only [List.map_cons, List.map_nil, List.cons.injEq] at hsp
        have e0 : s0 = x := bytes_inj' (by rw [hsp.1, hxd])
        have e1 : s1 = y := bytes_inj' (by rw [hyd]; exact (sp_only hsp.2.symm).symm)
        subst e0
        subst e1
        have hspec := fun w => specReadA_two n s w hs40 s0 s1 hq hx40 hy40 _ rfl
        have himp := fun w h1 h2 h3 => implReadA_two n s w hs40 h3 h1 h2 s0 s1 hx40 hy40 hcl hcs hc3 _ rfl
        have hok := okP_is n s0 s1
        rw [← hok] at hspec
        cases hb : okP n s0 (commas s1) with
        | false =>
          rw [hb] at hspec himp
          exact ⟨0, [], false, by simp, hspec, himp⟩
        | true =>
          rw [hb] at hspec himp hok
          obtain ⟨k1, k2⟩ := okP_yes hb
          have e : numValT s0.data.toList = readL s0.data.toList := by unfold numValT; rw [k1]; rfl
          rw [e, k2, if_pos rfl, numsWT_read k2, commas_pieces] at himp
          exact ⟨_, _, true, goodA_len hok.symm, hspec, himp⟩
      · have h58 : (58 : UInt8) ∈ y.data.toList := by
          rw [hyd]
          refine sp_has (k := s.size - 1) ?_
          have hl := congrArg List.length hsp
          simp only [List.length_map, List.length_cons] at hl
          have := (sp_len 58 (s.size - 1) (s.data.toList.drop (i + 1))).1
          omega
        have hb : okP n x (commas y) = false := by
          unfold okP
          rw [bad58 h58]; simp
        have himp := fun w h1 h2 h3 => implReadA_two n s w hs40 h3 h1 h2 x y hx40 hy40 hcl hcs hc3 _ rfl
        rw [hb] at himp
        exact ⟨0, [], false, by simp, fun w => specReadA_no n s w hs (.inr hp), himp⟩

end Go.Proofs.YtfadmcgaojnghaaDoor
