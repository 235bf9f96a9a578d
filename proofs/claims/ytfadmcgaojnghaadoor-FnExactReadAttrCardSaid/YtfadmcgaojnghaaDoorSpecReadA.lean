/- Contract of the model's ReadAttr. -/
import Derived.Test.YtfadmcgaojnghaaDoorStepPush
import Derived.Test.YtfadmcgaojnghaaDoorSplit
import Derived.Test.YtfadmcgaojnghaaDoorRead
import Derived.Test.YtfadmcgaojnghaaDoorGoodAttr
namespace Go.Proofs.YtfadmcgaojnghaaDoor
open Go.RowKit
set_option linter.unusedVariables false

theorem pieces_len (s : ByteArray) (b : UInt8) : 1 ≤ (pieces s b).length ∧ (pieces s b).length ≤ s.size + 1 := by
  have h := (cutTo_le s b s.size).2
  have e : (pieces s b).length = (cutTo s b s.size).1.length + 1 := by simp [pieces]
  omega
theorem extract_le' (s : ByteArray) (a b : Nat) : (s.extract a b).size ≤ s.size := by
  rw [ByteArray.size_extract]; omega
theorem cutTo_size' (s : ByteArray) (b : UInt8) : ∀ p, ∀ x ∈ (cutTo s b p).1, x.size ≤ s.size
  | 0, x, hx => by simp [cutTo] at hx
  | p + 1, x, hx => by
    unfold cutTo at hx
    split at hx
    · rcases List.mem_append.1 hx with h | h
      · exact cutTo_size' s b p x h
      · simp at h
        subst h
        exact extract_le' _ _ _
    · exact cutTo_size' s b p x hx
theorem pieces_size' (s : ByteArray) (b : UInt8) : ∀ x ∈ pieces s b, x.size ≤ s.size := by
  intro x hx
  unfold pieces at hx
  rcases List.mem_append.1 hx with h | h
  · exact cutTo_size' s b _ x h
  · simp at h
    subst h
    exact extract_le' _ _ _

set_option maxRecDepth 100000 in
set_option maxHeartbeats 4000000 in
theorem specReadA_no (n : Int) (s : ByteArray) (w : World) (hs : s.size ≤ 1048576) (h : 40 < s.size ∨ (pieces s 58).length ≠ 2) :
    Calls Tryd.prog 29 #[.int .i64 n, .string s] w (TwoAttr 0 [] false w) := by
  have hrl := (pieces_len s 58).2
  obtain ⟨m, hm⟩ : ∃ m, m = (pieces s 58).length := ⟨_, rfl⟩
  have HM := Lib.hid hm
  have HO := Lib.hid (openAt_new w 47 0 (.slice none 0 0))
  rw [← hm] at h hrl
  clear hm
  rcases Nat.lt_or_ge 40 s.size with h40 | h40
  · have i0 : (40 : Int) < (s.size : Int) := by omega
    clear h
    go_enter Tryd.func29, Tryd.ntmps29
    go_wp2_with fail
    refine (l1Split_any s 58 _ hs).mono ?_
    rintro e w1 ⟨v, rfl, f1, x1⟩
    obtain ⟨av, cv, rfl, _, hcap, hcv⟩ := f1.strs
    rw [← HM.out]
    obtain ⟨⟨c0, c1⟩, z0, z1⟩ := HO.out.ext x1
    have hx : Ext w w1 := (Ext.alloc (Ext.refl _) _).trans x1
    clear f1 hcap hcv x1
    go_wp2
    refine bodyPost_ret (v := .tuple #[.agg #[.int .i64 0, .slice none 0 0], .bool false]) ?_ rfl ⟨_, rfl, fresh_nil _ _, Ext.setc (Ext.setc hx (Nat.le_refl _)) (Nat.le_refl _)⟩
    simp [results, Tryd.results29, go_sem, c0, c1]
  · have i0 : ¬ (40 : Int) < (s.size : Int) := by omega
    have i1 : ((m : Int) != 2) = true := by rw [bne_iff_ne]; omega
    clear h
    go_enter Tryd.func29, Tryd.ntmps29
    go_wp2_with fail
    refine (l1Split_any s 58 _ hs).mono ?_
    rintro e w1 ⟨v, rfl, f1, x1⟩
    obtain ⟨av, cv, rfl, _, hcap, hcv⟩ := f1.strs
    rw [← HM.out]
    obtain ⟨⟨c0, c1⟩, z0, z1⟩ := HO.out.ext x1
    have hx : Ext w w1 := (Ext.alloc (Ext.refl _) _).trans x1
    clear f1 hcap hcv x1
    go_wp2
    refine bodyPost_ret (v := .tuple #[.agg #[.int .i64 0, .slice none 0 0], .bool false]) ?_ rfl ⟨_, rfl, fresh_nil _ _, Ext.setc (Ext.setc hx (Nat.le_refl _)) (Nat.le_refl _)⟩
    simp [results, Tryd.results29, go_sem, c0, c1]

end Go.Proofs.YtfadmcgaojnghaaDoor
