/- Contracts of cmp.Compare of integers and of slices.Compare of lists of them. -/
import Derived.Test.YtnmnbeklofnonaaPush
namespace Go.Proofs.Ytnmnbeklofnonaa
open Go.RowKit
set_option linter.unusedVariables false

def cmpI (a b : Int) : Int := if a < b then -1 else if b < a then 1 else 0
def cmpL : List Int → List Int → Int
  | [], [] => 0
  | [], _ :: _ => -1
  | _ :: _, [] => 1
  | a :: s, b :: t => if cmpI a b = 0 then cmpL s t else cmpI a b

/-- A number comes back, and the world is as it was. -/
def IntSame (n : Int) (w : World) (e : Ending) (w' : World) : Prop := e = .returned (.int .i64 n) ∧ w' = w

set_option maxHeartbeats 1000000 in
theorem compareInt_any (a b : Int) (w : World) : Calls Try.prog 128 #[.int .i64 a, .int .i64 b] w (IntSame (cmpI a b) w) := by
  have hnan : ∀ (n : Int) (W : World), Calls Try.prog 147 #[.int .i64 n] W (fun e W' => e = .returned (.bool false) ∧ W' = W) := fun n W => by
    go_enter Try.func147, Try.ntmps147
    go_wp2
    go_ret
    exact ⟨rfl, rfl⟩
  go_enter Try.func128, Try.ntmps128
  by_cases h1 : a < b
  · have e : cmpI a b = -1 := by unfold cmpI; rw [if_pos h1]
    rw [e]
    clear e
    go_wp2_with fail
    refine (hnan a _).mono ?_
    rintro e w1 ⟨rfl, rfl⟩
    go_wp2_with fail
    refine (hnan b _).mono ?_
    rintro e w1 ⟨rfl, rfl⟩
    go_wp2
    go_ret
    exact ⟨rfl, rfl⟩
  · by_cases h2 : b < a
    · have e : cmpI a b = 1 := by unfold cmpI; rw [if_neg h1, if_pos h2]
      rw [e]
      clear e
      go_wp2_with fail
      refine (hnan a _).mono ?_
      rintro e w1 ⟨rfl, rfl⟩
      go_wp2_with fail
      refine (hnan b _).mono ?_
      rintro e w1 ⟨rfl, rfl⟩
      go_wp2
      go_ret
      exact ⟨rfl, rfl⟩
    · have e : cmpI a b = 0 := by unfold cmpI; rw [if_neg h1, if_neg h2]
      rw [e]
      clear e
      go_wp2_with fail
      refine (hnan a _).mono ?_
      rintro e w1 ⟨rfl, rfl⟩
      go_wp2_with fail
      refine (hnan b _).mono ?_
      rintro e w1 ⟨rfl, rfl⟩
      go_wp2
      go_ret
      exact ⟨rfl, rfl⟩

theorem cmpL_step : ∀ (l r : List Int) (k : Nat) (hk : k < l.length) (hr : k < r.length) (h : cmpL l r = cmpL (l.drop k) (r.drop k)), (cmpI l[k] r[k] = 0 → cmpL l r = cmpL (l.drop (k + 1)) (r.drop (k + 1))) ∧ (cmpI l[k] r[k] ≠ 0 → cmpL l r = cmpI l[k] r[k]) := by
  intro l r k hk hr h
  rw [List.drop_eq_getElem_cons hk, List.drop_eq_getElem_cons hr] at h
  have e4 : cmpL (l[k] :: l.drop (k + 1)) (r[k] :: r.drop (k + 1)) = if cmpI l[k] r[k] = 0 then cmpL (l.drop (k + 1)) (r.drop (k + 1)) else cmpI l[k] r[k] := by simp only [cmpL]
  rw [e4] at h
  constructor
  · intro e; rw [h, if_pos e]
  · intro e; rw [h, if_neg e]

set_option maxHeartbeats 2000000 in
theorem compare_any (u v : Value) (l r : List Int) (w : World) (hu : Ints w u l) (hv : Ints w v r) : Calls Try.prog 104 #[u, v] w (IntSame (cmpL l r) w) := by
  obtain ⟨au, cu, rfl, hlu, _, du⟩ := hu
  obtain ⟨av, cv, rfl, hlv, _, dv⟩ := hv
  unfold maxLen at hlu hlv
  have DU := Lib.hid du
  have DV := Lib.hid dv
  clear du dv
  go_enter Try.func104, Try.ntmps104
  go_wp2
  go_loopw [5, 6, 7, 8, 11] (fun _ _ _ _ i wr => ∃ k : Nat, k ≤ l.length ∧ k ≤ r.length ∧ i = .int .i64 k ∧ Hid (cmpL l r = cmpL (l.drop k) (r.drop k)) ∧ wr = w) (fun _ _ _ _ i _ => l.length - (intOf i).toNat)
  case atStart => exact ⟨0, Nat.zero_le _, Nat.zero_le _, rfl, Lib.hid rfl, rfl⟩
  case round =>
    obtain ⟨k, hk, hk2, rfl, hC, rfl⟩ := hrel
    by_cases hlt : k < l.length
    · obtain ⟨bu, ou, rfl, eu⟩ := DU.out (by omega)
      have z1 := eu k hlt
      rw [List.getElem?_eq_getElem hlt, Option.getD_some] at z1
      by_cases hlr : k < r.length
      · obtain ⟨bv, ov, rfl, ev⟩ := DV.out (by omega)
        have z2 := ev k hlr
        rw [List.getElem?_eq_getElem hlr, Option.getD_some] at z2
        obtain ⟨h1, h2⟩ := cmpL_step l r k hlt hlr hC.out
        obtain ⟨x, hx⟩ : ∃ x, x = l[k] := ⟨_, rfl⟩
        obtain ⟨y, hy⟩ : ∃ y, y = r[k] := ⟨_, rfl⟩
        rw [← hx] at z1 h1 h2
        rw [← hy] at z2 h1 h2
        have H1 := Lib.hid h1
        have H2 := Lib.hid h2
        clear hx hy h1 h2 eu ev
        go_wp2_with fail
        refine (compareInt_any x y _).mono ?_
        rintro e w1 ⟨rfl, rfl⟩
        by_cases hc : cmpI x y = 0
        · have HC := Lib.hid (H1.out hc)
          rw [hc]
          clear hc
          go_wp2
          go_roundw
          case rel => exact ⟨k + 1, by omega, by omega, by go_num, HC, by first | exact rfl | trivial⟩
          case measure => simp [intOf]; omega
        · have HC := Lib.hid (H2.out hc)
          obtain ⟨n, hn⟩ : ∃ n, n = cmpI x y := ⟨_, rfl⟩
          rw [← hn] at hc HC ⊢
          have hb : (n != 0) = true := by simp [hc]
          clear hn
          go_wp2
          go_ret
          exact ⟨by rw [HC.out]; rfl, rfl⟩
      · obtain rfl : k = r.length := by omega
        have HC : Hid (cmpL l r = 1) := Lib.hid (by
          have := hC.out
          rw [List.drop_length, List.drop_eq_getElem_cons hlt] at this
          exact this)
        go_wp2
        go_ret
        exact ⟨by rw [HC.out]; rfl, rfl⟩
    · obtain rfl : k = l.length := by omega
      by_cases hlr : l.length < r.length
      · have HC : Hid (cmpL l r = -1) := Lib.hid (by
          have := hC.out
          rw [List.drop_length, List.drop_eq_getElem_cons hlr] at this
          exact this)
        go_wp2
        go_ret
        exact ⟨by rw [HC.out]; rfl, rfl⟩
      · have HC : Hid (cmpL l r = 0) := Lib.hid (by
          have := hC.out
          have e : l.length = r.length := by omega
          rw [List.drop_length, e, List.drop_length] at this
          exact this)
        go_wp2
        go_ret
        exact ⟨by rw [HC.out]; rfl, rfl⟩

end Go.Proofs.Ytnmnbeklofnonaa
