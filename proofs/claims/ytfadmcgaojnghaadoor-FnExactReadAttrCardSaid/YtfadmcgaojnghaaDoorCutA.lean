/- Contracts of strings.Cut and strings.Split as the program's ReadAttr calls them. -/
import Derived.Test.YtfadmcgaojnghaaDoorCutT
import Derived.Lib.SplitLaws
namespace Go.Proofs.YtfadmcgaojnghaaDoor
open Go.RowKit
set_option linter.unusedVariables false

theorem bytes_inj' {x y : ByteArray} (h : x.data.toList = y.data.toList) : x = y := by
  obtain ⟨⟨a⟩⟩ := x
  obtain ⟨⟨b⟩⟩ := y
  simp at h
  rw [h]
theorem map_data_inj' : ∀ (a b : List ByteArray), a.map (·.data.toList) = b.map (·.data.toList) → a = b
  | [], [], _ => rfl
  | [], _ :: _, h => by simp at h
  | _ :: _, [], h => by simp at h
  | x :: a, y :: b, h => by
    simp only [List.map_cons, List.cons.injEq] at h
    rw [bytes_inj' h.1, map_data_inj' a b h.2]
/-- The library's greatest length lies there. -/
def LongAt (w : World) : Prop := ∃ m : Int, w.cell? ⟨1, 0, none⟩ = some (.int .i64 m)
theorem LongAt.ext {w w' : World} (h : LongAt w) (e : Ext w w') : LongAt w' := by obtain ⟨m, h⟩ := h; exact ⟨m, e.cell h⟩
def CutBack (b a : ByteArray) (f : Bool) (w : World) (e : Ending) (w' : World) : Prop := e = .returned (.tuple #[.string b, .string a, .bool f]) ∧ Ext w w'
theorem cut_at (s : ByteArray) (hs : s.size ≤ 1048576) (w : World) (hm : LongAt w) :
    Calls Tryd.prog 59 #[.string s, .string ⟨#[58]⟩] w (CutBack ⟨(Lib.cut s.data.toList [58]).1.toArray⟩ ⟨(Lib.cut s.data.toList [58]).2.1.toArray⟩ (Lib.cut s.data.toList [58]).2.2 w) := by
  obtain ⟨m, hm⟩ := hm
  refine (Tryd.strings_Cut s ⟨#[58]⟩ m w (by omega) hm).mono ?_
  rintro e w' ⟨rfl, n, rfl⟩
  exact ⟨rfl, by repeat (first | exact Ext.refl _ | apply Ext.drewN)⟩
/-- The program's words between commas. -/
def commas (s : ByteArray) : List ByteArray := Lib.splitB ⟨#[44]⟩ 0 (Lib.countB s ⟨#[44]⟩) s
theorem commas_data (s : ByteArray) : (commas s).map (·.data.toList) = sp 44 s.size s.data.toList := by
  have hd : (commas s).map (·.data.toList) = sp 44 (Lib.countB s ⟨#[44]⟩) s.data.toList := Lib.splitB_data ⟨#[44]⟩ 0 _ s
  rw [hd]
  have hc : Lib.countB s ⟨#[44]⟩ = Lib.countFrom [44] (s.data.toList.length + 1) s.data.toList := rfl
  have hle := Lib.countB_le ⟨#[44]⟩ (by decide) s.size s (Nat.le_refl _)
  rw [hc] at hle ⊢
  exact (sp_count 44 _ s.size s.data.toList (by omega) hle).symm
theorem commas_pieces (s : ByteArray) : commas s = pieces s 44 := map_data_inj' _ _ (by rw [commas_data, pieces_sp])
theorem commas_len (s : ByteArray) : (commas s).length = Lib.countB s ⟨#[44]⟩ + 1 := Lib.splitB_all ⟨#[44]⟩ (by decide) 0 _ s rfl

end Go.Proofs.YtfadmcgaojnghaaDoor
