/- Contract of the model's l1Num: the decimal digits of a number from 0 on. -/
import Derived.Test.YtfadmcgaojnghaaDoorWords
import Derived.Lib.ItoaNum
import Derived.Lib.ItoaLen
import Derived.Laws.Concat
import Derived.Laws.IdiomStrings
import Derived.WalkSpells
import Derived.Deep.RegionWith
import Derived.IntWalk
namespace Go.Proofs.YtfadmcgaojnghaaDoor
open Go.RowKit

/-- A text comes back. -/
def StrExt (l : List UInt8) (w : World) (e : Ending) (w' : World) : Prop := e = .returned (.string ⟨l.toArray⟩) ∧ Ext w w'

theorem one_byte (d : Nat) (hd : d < 10) (b : Nat) (W : World) (hc : W.cell? ⟨b, 0, none⟩ = some (.int .u8 (48 + (d : Int)))) :
    (convert 22 9 (.slice (some ⟨b, 0, none⟩) 1 1)).run Tryd.prog W = .ok (.string ⟨#[UInt8.ofNat (48 + d)]⟩) W := by
  have h := run_convert_bytes_back (P := Tryd.prog) W 22 9 5 ⟨b, 0, none⟩ 1 [UInt8.ofNat (48 + d)] Tryd.underlying22 Tryd.underlying5 Tryd.underlying9 (fun j hj => by
    have : j = 0 := by simpa using hj
    subst this
    have e : ((UInt8.ofNat (48 + d)).toNat : Int) = 48 + (d : Int) := by
      rw [UInt8.toNat_ofNat']; omega
    simp only [List.getElem_cons_zero]
    rw [e]
    simpa [Addr.add] using hc)
  exact h

set_option maxRecDepth 100000 in
set_option maxHeartbeats 1000000 in
theorem l1Num_small (n : Nat) (w : World) (h : n < 10) : Calls Tryd.prog 65 #[.int .i64 n] w (StrExt (Lib.decDigits n) w) := by
  have hcv := one_byte n h
  have HD := Lib.hid (Lib.decDigits_one h)
  go_enter Tryd.func65, Tryd.ntmps65
  go_wp2
  go_ret
  exact ⟨by rw [HD.out]; simp, Ext.alloc (Ext.refl _) _⟩

theorem decDigits_more {n : Nat} (h : ¬ n < 10) : Lib.decDigits n = Lib.decDigits (n / 10) ++ [UInt8.ofNat (48 + n % 10)] := by
  rw [Lib.decDigits, dif_neg h]

set_option maxRecDepth 100000 in
set_option maxHeartbeats 1000000 in
theorem l1Num_any (k : Nat) : ∀ (n : Nat) (w : World), n ≤ k → n ≤ 999999999999 → Calls Tryd.prog 65 #[.int .i64 n] w (StrExt (Lib.decDigits n) w) := by
  induction k with
  | zero => intro n w h _; exact l1Num_small n w (by omega)
  | succ k ih =>
    intro n w h hb
    by_cases h10 : n < 10
    · exact l1Num_small n w h10
    · have ih' : ∀ W, Calls Tryd.prog 65 #[.int .i64 ((n : Int) / 10)] W (StrExt (Lib.decDigits (n / 10)) W) := fun W => by
        have hq : ((n : Int) / 10) = ((n / 10 : Nat) : Int) := by omega
        rw [hq]; exact ih (n / 10) W (by omega) (by omega)
      have hcv : ∀ (b : Nat) (W : World), W.cell? ⟨b, 0, none⟩ = some (.int .u8 (48 + (n : Int) % 10)) → (convert 22 9 (.slice (some ⟨b, 0, none⟩) 1 1)).run Tryd.prog W = .ok (.string ⟨#[UInt8.ofNat (48 + n % 10)]⟩) W := fun b W hc => one_byte (n % 10) (by omega) b W (by rw [hc]; congr 2)
      obtain ⟨c, hc⟩ : ∃ c : UInt8, c = UInt8.ofNat (48 + n % 10) := ⟨_, rfl⟩
      rw [← hc] at hcv
      have hdd := decDigits_more h10
      rw [← hc] at hdd
      obtain ⟨l, hl⟩ : ∃ l, l = Lib.decDigits (n / 10) := ⟨_, rfl⟩
      rw [← hl] at hdd ih'
      have hlen : l.length ≤ 20 := by rw [hl, Lib.decDigits_length]; exact Lib.nDigits_le20 _ (by omega)
      have hadd : ∀ W : World, (Op.stringOp .add ⟨l.toArray⟩ ⟨#[c]⟩).run Tryd.prog W = .ok (.string ⟨(l ++ [c]).toArray⟩) W := fun W => by
        have h := run_string_add_sum (P := Tryd.prog) (w := W) ⟨l.toArray⟩ ⟨#[c]⟩ (by
          have e1 : (⟨l.toArray⟩ : ByteArray).size = l.length := by simp [ByteArray.size]
          have e2 : (⟨#[c]⟩ : ByteArray).size = 1 := rfl
          rw [e1, e2]; omega)
        rw [h]
        congr 2
      have IH := Lib.hid ih'
      have HD := Lib.hid hdd
      have x0 : Ext w w := Ext.refl w
      have hk0 : ((w.alloc (.cells #[.int .u8 (48 + (n : Int) % 10)] 5)).drew).cell? ⟨w.heap.size, 0, none⟩ = some (.int .u8 (48 + (n : Int) % 10)) := by go_simp
      have HK0 := Lib.hid hk0
      clear ih ih' h hdd hc hl hk0
      go_enter Tryd.func65, Tryd.ntmps65
      go_wp2
      have q1 : Int.tdiv (n : Int) 10 = (n : Int) / 10 := Int.tdiv_eq_ediv_of_nonneg (by omega)
      have q2 : Int.tmod (n : Int) 10 = (n : Int) % 10 := Int.tmod_eq_emod_of_nonneg (by omega)
      have q3 : IntKind.i64.wrap ((n : Int) / 10) = (n : Int) / 10 := IntWalk.i64_in _ (by omega)
      have q4 : IntKind.i64.wrap (48 + (n : Int) % 10) = 48 + (n : Int) % 10 := IntWalk.i64_in _ (by omega)
      have q5 : IntKind.u8.wrap (48 + (n : Int) % 10) = 48 + (n : Int) % 10 := by
        show (48 + (n : Int) % 10) % 256 = _
        omega
      go_region_with (go_at_call 65; refine (IH.out _).mono ?_; rintro e W ⟨rfl, x⟩; (try with_reducible have hk := Ext.cell x HK0.out))
      all_goals
        have hx : Ext w W := Ext.trans (by repeat (first | exact Ext.refl _ | apply Ext.drew | apply Ext.alloc)) x
        clear q1 q2 q3 q4 q5 x hcv
        go_wp2
        go_ret
        exact ⟨by rw [HD.out]; rfl, by repeat (first | exact hx | apply Ext.drew | apply Ext.alloc)⟩

end Go.Proofs.YtfadmcgaojnghaaDoor
