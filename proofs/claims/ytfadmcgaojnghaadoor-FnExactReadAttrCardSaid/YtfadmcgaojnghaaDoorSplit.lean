/- Contract of the model's l1Split: a text cut at each of a byte. -/
import Derived.Test.YtfadmcgaojnghaaDoorPush1
import Derived.WalkSpells
namespace Go.Proofs.YtfadmcgaojnghaaDoor
open Go.RowKit

/-- The pieces that end among the first k bytes, and where the next one begins. -/
def cutTo (s : ByteArray) (b : UInt8) : Nat → List ByteArray × Nat
  | 0 => ([], 0)
  | k + 1 => if s.data[k]? = some b then ((cutTo s b k).1 ++ [s.extract (cutTo s b k).2 k], k + 1) else cutTo s b k
theorem cutTo_le (s : ByteArray) (b : UInt8) : ∀ k, (cutTo s b k).2 ≤ k ∧ (cutTo s b k).1.length ≤ k
  | 0 => ⟨Nat.le_refl _, Nat.le_refl _⟩
  | k + 1 => by
    have h := cutTo_le s b k
    unfold cutTo
    split
    · simp; omega
    · omega
def pieces (s : ByteArray) (b : UInt8) : List ByteArray := (cutTo s b s.size).1 ++ [s.extract (cutTo s b s.size).2 s.size]

set_option maxRecDepth 100000 in
set_option maxHeartbeats 1000000 in
theorem l1Split_any (s : ByteArray) (b : UInt8) (w : World) (hs : s.size ≤ 1048576) :
    Calls Tryd.prog 49 #[.string s, .int .u8 b.toNat] w (NewStrs (pieces s b) w) := by
  go_enter Tryd.func49, Tryd.ntmps49
  go_wp2
  go_loopw [5, 6, 7] (fun v f i wr => ∃ (k : Nat), k ≤ s.size ∧ i = .int .i64 k ∧ f = .int .i64 (cutTo s b k).2 ∧ FreshS w.heap.size wr v (cutTo s b k).1 ∧ Ext w wr) (fun _ _ i _ => s.size - (intOf i).toNat)
  case atStart => exact ⟨0, Nat.zero_le _, rfl, rfl, freshS_nil _ _, Ext.refl _⟩
  case round =>
    obtain ⟨k, hk, rfl, rfl, hf, hx⟩ := hrel
    obtain ⟨c1, c2⟩ := cutTo_le s b k
    by_cases hlt : k < s.size
    · by_cases hb : s[k] = b
      · have hn : cutTo s b (k + 1) = ((cutTo s b k).1 ++ [s.extract (cutTo s b k).2 k], k + 1) := by
          rw [cutTo, if_pos]
          rw [Array.getElem?_eq_getElem hlt]
          exact congrArg some hb
        have HN := Lib.hid hn
        clear hn
        have hbnd : ((cutTo s b k).1.map Value.string).length ≤ 1099511627776 := by simp; omega
        have hf' : wr.ownsRow w.heap.size 9 1 u5 ((cutTo s b k).1.map Value.string).length ((cutTo s b k).1.map Value.string) := by rw [List.length_map]; exact hf
        have HB := Lib.hid hbnd
        clear hbnd hf
        go_wp2_with (at_builtin; refine wpList_push1 rfl _ _ 62 9 (.string ⟨#[]⟩) 16 Tryd.underlying62 Tryd.infoStr rfl (by decide) rfl w.heap.size _ _ (.string (s.extract (cutTo s b k).2 k)) rfl rfl (World.ownsRow.alloc hf' _) ⟨wr.heap.size, 0, none⟩ 1 rfl (cell_alloc_one _ _ _) HB.out (size_alloc_le hx.size) ?_)
        intro v2 w2 f2 g2 k2
        have hx2 : Ext w w2 := k2 w (hx.alloc _) (Nat.le_refl _)
        have f3 : FreshS w.heap.size w2 v2 (cutTo s b (k + 1)).1 := by
          rw [HN.out]
          unfold FreshS
          simp only [List.map_append, List.map_cons, List.map_nil, List.length_append, List.length_cons, List.length_nil] at f2 ⊢
          exact f2
        have e2 : (cutTo s b (k + 1)).2 = k + 1 := by rw [HN.out]
        have E2 := Lib.hid e2
        clear f2 g2 k2 hf' hx e2
        go_wp2
        go_roundw
        case rel => exact ⟨k + 1, by omega, by go_num, by rw [E2.out]; go_num, f3, hx2⟩
        case measure => simp [intOf]; omega
      · have hn : cutTo s b (k + 1) = cutTo s b k := by
          rw [cutTo, if_neg]
          rw [Array.getElem?_eq_getElem hlt]
          exact fun h => hb (Option.some.inj h)
        have HN := Lib.hid hn
        have hne : ((s[k].toNat : Int) == (b.toNat : Int)) = false := by
          rw [beq_eq_false_iff_ne]
          intro h
          exact hb (UInt8.toNat_inj.1 (by omega))
        have HNB := Lib.hid hb
        clear hn hb
        go_wp2
        go_roundw
        case rel => exact ⟨k + 1, by omega, by go_num, by rw [HN.out], by rw [HN.out]; exact hf, hx⟩
        case measure => simp [intOf]; omega
    · obtain rfl : k = s.size := by omega
      have hbnd : ((cutTo s b s.size).1.map Value.string).length ≤ 1099511627776 := by simp; omega
      have hf' : wr.ownsRow w.heap.size 9 1 u5 ((cutTo s b s.size).1.map Value.string).length ((cutTo s b s.size).1.map Value.string) := by rw [List.length_map]; exact hf
      have HB := Lib.hid hbnd
      clear hbnd hf
      go_wp2_with (at_builtin; refine wpList_push1 rfl _ _ 62 9 (.string ⟨#[]⟩) 16 Tryd.underlying62 Tryd.infoStr rfl (by decide) rfl w.heap.size _ _ (.string (s.extract (cutTo s b s.size).2 s.size)) rfl rfl (World.ownsRow.alloc hf' _) ⟨wr.heap.size, 0, none⟩ 1 rfl (cell_alloc_one _ _ _) HB.out (size_alloc_le hx.size) ?_)
      intro v2 w2 f2 g2 k2
      have hx2 : Ext w w2 := k2 w (hx.alloc _) (Nat.le_refl _)
      have f3 : FreshS w.heap.size w2 v2 (pieces s b) := by
        unfold FreshS pieces
        simp only [List.map_append, List.map_cons, List.map_nil, List.length_append, List.length_cons, List.length_nil] at f2 ⊢
        exact f2
      clear f2 g2 k2 hf' hx
      go_wp2
      go_ret
      exact ⟨_, rfl, f3, hx2⟩

end Go.Proofs.YtfadmcgaojnghaaDoor
