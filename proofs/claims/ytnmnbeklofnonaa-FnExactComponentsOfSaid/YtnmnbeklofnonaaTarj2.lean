/- Tarjan's search: a point that is looked at leads to one not met, to an open one, to one that is told. No program text is named here. -/
import Derived.Test.YtnmnbeklofnonaaTarj
namespace Go.Proofs.Ytnmnbeklofnonaa
open Go.RowKit
set_option linter.unusedVariables false

theorem take_look {l : List Int} {n : Nat} (h : n < l.length) {x : Int} (hx : x ∈ l.take (n + 1)) : x ∈ l.take n ∨ x = l[n] := by
  rw [List.take_add_one, List.getElem?_eq_getElem h] at hx
  rcases List.mem_append.1 hx with hx | hx
  · exact .inl hx
  · exact .inr (by simpa using hx)

/-- The next point is not met: it is met, and the way goes on to it. -/
theorem Inv.down {g : List (List Int)} (hg : rowsB g = true) {S : TS} {way : List Nat} {p c : Nat} (h : Inv g S (way ++ [p])) (hl : S.lk p < (rowN g p).length) (he : (rowN g p)[S.lk p] = (c : Int)) (hn : S.N c = 0) :
    Inv g (meetS (lookS S p) c) (way ++ [p] ++ [c]) := by
  have hop := h.wop p (by simp)
  have hcl : c < g.length := by
    have := row_in hg (List.getElem_mem hl)
    rw [he] at this; omega
  have hpc : p ≠ c := fun e => h.opmet p hop (by rw [e]; exact hn)
  have hedge : Reach g (p : Int) (c : Int) := Reach.self.step (by rw [← he]; exact List.getElem_mem hl)
  have hco : S.op c = false := by
    cases e : S.op c with
    | false => rfl
    | true => exact absurd hn (h.opmet c e)
  have hopn : c ∉ S.opn := fun e => by rw [h.opn, hco] at e; cases e
  have hwc : c ∉ way ++ [p] := fun e => by have := h.wop c e; rw [hco] at this; cases this
  obtain ⟨S', hS'⟩ : ∃ S', S' = meetS (lookS S p) c := ⟨_, rfl⟩
  have N1 : ∀ q, q ≠ c → S'.N q = S.N q := fun q e => by rw [hS']; exact upd_other _ _ e
  have N2 : S'.N c = S.met + 1 := by rw [hS']; exact upd_same _ _ _
  have b1 : ∀ q, q ≠ c → S'.bk q = S.bk q := fun q e => by rw [hS']; exact upd_other _ _ e
  have b2 : S'.bk c = S.met + 1 := by rw [hS']; exact upd_same _ _ _
  have l1 : ∀ q, q ≠ p → S'.lk q = S.lk q := fun q e => by rw [hS']; exact upd_other _ _ e
  have l2 : S'.lk p = S.lk p + 1 := by rw [hS']; exact upd_same _ _ _
  have o1 : ∀ q, q ≠ c → S'.op q = S.op q := fun q e => by rw [hS']; exact upd_other _ _ e
  have o2 : S'.op c = true := by rw [hS']; exact upd_same _ _ _
  have m1 : S'.met = S.met + 1 := by rw [hS']; rfl
  have p1 : S'.opn = S.opn ++ [c] := by rw [hS']; rfl
  have g1 : S'.grp = S.grp := by rw [hS']; rfl
  rw [← hS']
  clear hS'
  have hle := h.le
  have ne_of : ∀ q, S.op q = true → q ≠ c := fun q hq e => by rw [e, hco] at hq; cases hq
  have ne_met : ∀ q, S.N q ≠ 0 → q ≠ c := fun q hq e => hq (by rw [e]; exact hn)
  have hlt : ∀ q, q ≠ c → S'.N q < S'.N c := fun q e => by rw [N1 q e, N2]; have := hle q; omega
  constructor
  · intro q hq
    by_cases e : q = c
    · rw [e]; exact hcl
    · exact h.small q (by rwa [N1 q e] at hq)
  · intro q
    rw [m1]
    by_cases e : q = c
    · rw [e, N2]; exact Nat.le_refl _
    · rw [N1 q e]; have := hle q; omega
  · intro q r e hq
    by_cases e1 : q = c
    · by_cases e2 : r = c
      · rw [e1, e2]
      · have := hlt r e2; rw [e1] at e; omega
    · by_cases e2 : r = c
      · have := hlt q e1; rw [e2] at e; omega
      · rw [N1 q e1] at e hq; rw [N1 r e2] at e
        exact h.inj q r e hq
  · intro q hq
    by_cases e : q = c
    · rw [e, N2]; omega
    · rw [N1 q e]; rw [o1 q e] at hq; exact h.opmet q hq
  · intro q
    rw [p1, List.mem_append]
    by_cases e : q = c
    · rw [e]; simp [o2]
    · rw [o1 q e, ← h.opn]; simp [e]
  · rw [p1, List.pairwise_append]
    refine ⟨h.sort.imp_of_mem ?_, by simp, ?_⟩
    · intro a b ha hb hab
      have ea : a ≠ c := fun e => hopn (by rw [← e]; exact ha)
      have eb : b ≠ c := fun e => hopn (by rw [← e]; exact hb)
      rw [N1 a ea, N1 b eb]; exact hab
    · intro a ha b hb
      have ea : a ≠ c := fun e => hopn (by rw [← e]; exact ha)
      have eb : b = c := by simpa using hb
      rw [eb]; exact hlt a ea
  · intro q hq
    rcases List.mem_append.1 hq with hq | hq
    · have e : q ≠ c := fun e => hwc (by rw [← e]; exact hq)
      rw [o1 q e]; exact h.wop q hq
    · have e : q = c := by simpa using hq
      rw [e]; exact o2
  · rw [List.pairwise_append]
    refine ⟨h.wsort.imp_of_mem ?_, by simp, ?_⟩
    · intro a b ha hb hab
      have ea : a ≠ c := fun e => hwc (by rw [← e]; exact ha)
      have eb : b ≠ c := fun e => hwc (by rw [← e]; exact hb)
      rw [N1 a ea, N1 b eb]; exact hab
    · intro a ha b hb
      have ea : a ≠ c := fun e => hwc (by rw [← e]; exact ha)
      have eb : b = c := by simpa using hb
      rw [eb]; exact hlt a ea
  · intro q hq
    by_cases e : q = c
    · exact ⟨c, by simp, by rw [e]; exact Nat.le_refl _⟩
    · obtain ⟨a, ha, hle'⟩ := h.root q (by rwa [o1 q e] at hq)
      have ea : a ≠ c := fun e => hwc (by rw [← e]; exact ha)
      exact ⟨a, List.mem_append_left _ ha, by rw [N1 a ea, N1 q e]; exact hle'⟩
  · intro a ha q hq hN
    rcases List.mem_append.1 ha with ha | ha
    · have ea : a ≠ c := fun e => hwc (by rw [← e]; exact ha)
      by_cases e : q = c
      · rw [e]
        have : Reach g (a : Int) (p : Int) := h.reach a ha p hop (h.last_le a ha)
        exact this.trans hedge
      · rw [N1 a ea, N1 q e] at hN
        exact h.reach a ha q (by rwa [o1 q e] at hq) hN
    · have ea : a = c := by simpa using ha
      rw [ea] at hN ⊢
      by_cases e : q = c
      · rw [e]; exact .self
      · have := hlt q e; omega
  · intro q hq
    by_cases e : q = c
    · rw [e, N2, b2]; exact Nat.le_refl _
    · rw [N1 q e, b1 q e]; exact h.low1 q (by rwa [o1 q e] at hq)
  · intro q hq
    by_cases e : q = c
    · rw [e]; exact ⟨c, o2, by rw [N2, b2], .self⟩
    · obtain ⟨r, hr, hN, hR⟩ := h.low2 q (by rwa [o1 q e] at hq)
      have er := ne_of r hr
      exact ⟨r, by rw [o1 r er]; exact hr, by rw [N1 r er, b1 q e]; exact hN, hR⟩
  · intro q hq
    by_cases e : q = c
    · rw [e, N2] at hq; omega
    · rw [N1 q e] at hq
      have ep : q ≠ p := fun e' => h.opmet p hop (by rw [← e']; exact hq)
      rw [l1 q ep]; exact h.lk0 q hq
  · intro q
    by_cases e : q = p
    · rw [e, l2]; omega
    · rw [l1 q e]; exact h.lkle q
  · intro q hq r hr
    by_cases e : q = c
    · rw [e, l1 c (Ne.symm hpc), h.lk0 c hn] at hr
      simp at hr
    · have hq' : S.op q = true := by rwa [o1 q e] at hq
      by_cases er : r = c
      · rw [er]
        refine ⟨by rw [N2]; omega, fun _ => ?_⟩
        rw [b1 q e, N2]
        have := h.low1 q hq'
        have := hle q
        omega
      · have hr' : (r : Int) ∈ (rowN g q).take (S.lk q) := by
          by_cases ep : q = p
          · rw [ep, l2] at hr
            rcases take_look hl hr with h1 | h1
            · rw [ep]; exact h1
            · rw [he] at h1; omega
          · rwa [l1 q ep] at hr
        obtain ⟨h1, h2⟩ := h.look q hq' r hr'
        rw [N1 r er, o1 r er, b1 q e]
        exact ⟨h1, h2⟩
  · intro q hq hqw
    have e : q ≠ c := fun e => hqw (by simp [e])
    have ew : q ∉ way ++ [p] := fun e' => hqw (List.mem_append_left _ e')
    have ep : q ≠ p := fun e' => ew (by simp [e'])
    rw [l1 q ep, b1 q e, N1 q e]
    exact h.fin q (by rwa [o1 q e] at hq) ew
  · intro a ha q hq hqw hN hb
    have e : q ≠ c := fun e => hqw (by simp [e])
    have ew : q ∉ way ++ [p] := fun e' => hqw (List.mem_append_left _ e')
    rcases List.mem_append.1 ha with ha | ha
    · have ea : a ≠ c := fun e => hwc (by rw [← e]; exact ha)
      rw [N1 a ea, N1 q e] at hN
      rw [b1 a ea, b1 q e]
      refine h.par a ha q (by rwa [o1 q e] at hq) ew hN (fun p' hp' => ?_)
      have e' : p' ≠ c := fun e => hwc (by rw [← e]; exact hp')
      have := hb p' (List.mem_append_left _ hp')
      rwa [N1 p' e', N1 a ea, N1 q e] at this
    · have ea : a = c := by simpa using ha
      have := hlt q e
      rw [ea] at hN; omega
  · intro q hq hqo r hr
    have e : q ≠ c := fun e => by rw [e, o2] at hqo; cases hqo
    rw [N1 q e] at hq
    rw [o1 q e] at hqo
    obtain ⟨h1, h2⟩ := h.closed q hq hqo r hr
    have er := ne_met r h1
    rw [N1 r er, o1 r er]
    exact ⟨h1, h2⟩
  · intro G hG
    rw [g1] at hG
    obtain ⟨k, hk, e, hx⟩ := h.grp G hG
    refine ⟨k, hk, e, fun x hxG => ?_⟩
    obtain ⟨h1, h2⟩ := hx x hxG
    have er := ne_met x h1
    rw [N1 x er, o1 x er]
    exact ⟨h1, h2⟩
  · intro q hq hqo
    have e : q ≠ c := fun e => by rw [e, o2] at hqo; cases hqo
    rw [g1]
    exact h.cov q (by rwa [N1 q e] at hq) (by rwa [o1 q e] at hqo)
  · rw [g1]; exact h.apart

/-- The next point is told already. -/
theorem Inv.past {g : List (List Int)} {S : TS} {way : List Nat} {p c : Nat} (h : Inv g S (way ++ [p])) (hl : S.lk p < (rowN g p).length) (he : (rowN g p)[S.lk p] = (c : Int)) (hn : S.N c ≠ 0) (hc : S.op c = true → S.bk p ≤ S.N c) :
    Inv g (lookS S p) (way ++ [p]) := by
  have hop := h.wop p (by simp)
  have l1 : ∀ q, q ≠ p → (lookS S p).lk q = S.lk q := fun q e => upd_other _ _ e
  have l2 : (lookS S p).lk p = S.lk p + 1 := upd_same _ _ _
  refine ⟨h.small, h.le, h.inj, h.opmet, h.opn, h.sort, h.wop, h.wsort, h.root, h.reach, h.low1, h.low2, fun q hq => ?_, fun q => ?_, fun q hq r hr => ?_, fun q hq hqw => ?_, h.par, h.closed, h.grp, h.cov, h.apart⟩
  · have ep : q ≠ p := fun e' => h.opmet p hop (by rw [← e']; exact hq)
    rw [l1 q ep]; exact h.lk0 q hq
  · by_cases e : q = p
    · rw [e, l2]; omega
    · rw [l1 q e]; exact h.lkle q
  · by_cases e : q = p
    · rw [e, l2] at hr
      rcases take_look hl hr with h1 | h1
      · rw [e]; exact h.look p hop r h1
      · rw [he] at h1
        have : r = c := by omega
        rw [this, e]; exact ⟨hn, hc⟩
    · rw [l1 q e] at hr
      exact h.look q hq r hr
  · have ep : q ≠ p := fun e' => hqw (by simp [e'])
    rw [l1 q ep]
    exact h.fin q hq hqw

/-- A point of the way sees one that it leads to and that is open. -/
theorem Inv.sees {g : List (List Int)} {S : TS} {way : List Nat} {p r : Nat} (h : Inv g S (way ++ [p])) (hr : S.op r = true) (hR : Reach g (p : Int) (r : Int)) (v : Nat) (hv : S.N r = v) : Inv g (minS S p v) (way ++ [p]) := by
  have hop := h.wop p (by simp)
  have b1 : ∀ q, q ≠ p → (minS S p v).bk q = S.bk q := fun q e => upd_other _ _ e
  have b2 : (minS S p v).bk p = min (S.bk p) v := upd_same _ _ _
  have ble : ∀ q, (minS S p v).bk q ≤ S.bk q := fun q => by
    by_cases e : q = p
    · rw [e, b2]; exact Nat.min_le_left _ _
    · rw [b1 q e]; exact Nat.le_refl _
  refine ⟨h.small, h.le, h.inj, h.opmet, h.opn, h.sort, h.wop, h.wsort, h.root, h.reach, fun q hq => Nat.le_trans (ble q) (h.low1 q hq), fun q hq => ?_, h.lk0, h.lkle, fun q hq r hr => ?_, fun q hq hqw => ?_, fun a ha q hq hqw hN hb => ?_, h.closed, h.grp, h.cov, h.apart⟩
  · by_cases e : q = p
    · rw [e, b2]
      rcases Nat.le_total (S.bk p) v with hm | hm
      · rw [Nat.min_eq_left hm]; exact h.low2 p hop
      · rw [Nat.min_eq_right hm]; exact ⟨r, hr, hv, hR⟩
    · rw [b1 q e]; exact h.low2 q hq
  · obtain ⟨h1, h2⟩ := h.look q hq r hr
    exact ⟨h1, fun ho => Nat.le_trans (ble q) (h2 ho)⟩
  · have ep : q ≠ p := fun e' => hqw (by simp [e'])
    rw [b1 q ep]
    exact h.fin q hq hqw
  · have ep : q ≠ p := fun e' => hqw (by simp [e'])
    rw [b1 q ep]
    exact Nat.le_trans (ble a) (h.par a ha q hq hqw hN hb)

end Go.Proofs.Ytnmnbeklofnonaa
