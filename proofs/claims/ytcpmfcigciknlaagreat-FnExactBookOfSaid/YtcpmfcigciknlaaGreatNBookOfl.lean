/- Texts of this proof, part l: words, plain facts, contracts. -/
import Derived.Test.YtcpmfcigciknlaaGreatNBookOfk
import Derived.Test.YtcpmfcigciknlaaGreatNBookOfa
import Derived.Test.YtcpmfcigciknlaaGreatNBookOfc
import Derived.Laws.Rows
import Derived.Deep.AppendLies
import Derived.StillTailTactics
import Derived.WalkSpells
import Derived.Test.YtcpmfcigciknlaaGreatNBookOfg
set_option linter.unusedVariables false
set_option linter.unusedSimpArgs false

namespace Go.Proofs.YtcpmfcigciknlaaGreat
open Go.RowKit
set_option linter.unusedVariables false
theorem take_look {l : List Int} {n : Nat} (h : n < l.length) {x : Int} (hx : x ∈ l.take (n + 1)) : x ∈ l.take n ∨ x = l[n] := by
  rw [List.take_add_one, List.getElem?_eq_getElem h] at hx
  rcases List.mem_append.1 hx with hx | hx
  · exact .inl hx
  · exact .inr (by simpa using hx)
theorem Inv.down {g : List (List Int)} (hg : rowsB g = true) {S : TS} {way : List Nat} {p c : Nat} (h : Inv g S (way ++ [p])) (hl : S.lk p < (rowN g p).length) (he : (rowN g p)[S.lk p] = (c : Int)) (hn : S.N c = 0) :
    Inv g (meetS (lookS S p) c) (way ++ [p] ++ [c]) := by
  have hop := h.wop p (by simp)
  have hcl : c < g.length := by
    have := row_in hg (List.getElem_mem hl)
    rw [he] at this; omega
  have hpc : p ≠ c := fun e => h.opmet p hop (by rw [e]; exact hn)
  have hedge : Reach g (p : Int) (c : Int) := Reach.self.step (by rw [← he]; exact List.getElem_mem hl)
  have hco : S.op c = false := by
    cases e : S.op c with
    | false => rfl
    | true => exact absurd hn (h.opmet c e)
  have hopn : c ∉ S.opn := fun e => by rw [h.opn, hco] at e; cases e
  have hwc : c ∉ way ++ [p] := fun e => by have := h.wop c e; rw [hco] at this; cases this
  obtain ⟨S', hS'⟩ : ∃ S', S' = meetS (lookS S p) c := ⟨_, rfl⟩
  have N1 : ∀ q, q ≠ c → S'.N q = S.N q := fun q e => by rw [hS']; exact upd_other _ _ e
  have N2 : S'.N c = S.met + 1 := by rw [hS']; exact upd_same _ _ _
  have b1 : ∀ q, q ≠ c → S'.bk q = S.bk q := fun q e => by rw [hS']; exact upd_other _ _ e
  have b2 : S'.bk c = S.met + 1 := by rw [hS']; exact upd_same _ _ _
  have l1 : ∀ q, q ≠ p → S'.lk q = S.lk q := fun q e => by rw [hS']; exact upd_other _ _ e
  have l2 : S'.lk p = S.lk p + 1 := by rw [hS']; exact upd_same _ _ _
  have o1 : ∀ q, q ≠ c → S'.op q = S.op q := fun q e => by rw [hS']; exact upd_other _ _ e
  have o2 : S'.op c = true := by rw [hS']; exact upd_same _ _ _
  have m1 : S'.met = S.met + 1 := by rw [hS']; rfl
  have p1 : S'.opn = S.opn ++ [c] := by rw [hS']; rfl
  have g1 : S'.grp = S.grp := by rw [hS']; rfl
  rw [← hS']
  clear hS'
  have hle := h.le
  have ne_of : ∀ q, S.op q = true → q ≠ c := fun q hq e => by rw [e, hco] at hq; cases hq
  have ne_met : ∀ q, S.N q ≠ 0 → q ≠ c := fun q hq e => hq (by rw [e]; exact hn)
  have hlt : ∀ q, q ≠ c → S'.N q < S'.N c := fun q e => by rw [N1 q e, N2]; have := hle q; omega
  constructor
  · intro q hq
    by_cases e : q = c
    · rw [e]; exact hcl
    · exact h.small q (by rwa [N1 q e] at hq)
  · intro q
    rw [m1]
    by_cases e : q = c
    · rw [e, N2]; exact Nat.le_refl _
    · rw [N1 q e]; have := hle q; omega
  · intro q r e hq
    by_cases e1 : q = c
    · by_cases e2 : r = c
      · rw [e1, e2]
      · have := hlt r e2; rw [e1] at e; omega
    · by_cases e2 : r = c
      · have := hlt q e1; rw [e2] at e; omega
      · rw [N1 q e1] at e hq; rw [N1 r e2] at e
        exact h.inj q r e hq
  · intro q hq
    by_cases e : q = c
    · rw [e, N2]; omega
    · rw [N1 q e]; rw [o1 q e] at hq; exact h.opmet q hq
  · intro q
    rw [p1, List.mem_append]
    by_cases e : q = c
    · rw [e]; simp [o2]
    · rw [o1 q e, ← h.opn]; simp [e]
  · rw [p1, List.pairwise_append]
    refine ⟨h.sort.imp_of_mem ?_, by simp, ?_⟩
    · intro a b ha hb hab
      have ea : a ≠ c := fun e => hopn (by rw [← e]; exact ha)
      have eb : b ≠ c := fun e => hopn (by rw [← e]; exact hb)
      rw [N1 a ea, N1 b eb]; exact hab
    · intro a ha b hb
      have ea : a ≠ c := fun e => hopn (by rw [← e]; exact ha)
      have eb : b = c := by simpa using hb
      rw [eb]; exact hlt a ea
  · intro q hq
    rcases List.mem_append.1 hq with hq | hq
    · have e : q ≠ c := fun e => hwc (by rw [← e]; exact hq)
      rw [o1 q e]; exact h.wop q hq
    · have e : q = c := by simpa using hq
      rw [e]; exact o2
  · rw [List.pairwise_append]
    refine ⟨h.wsort.imp_of_mem ?_, by simp, ?_⟩
    · intro a b ha hb hab
      have ea : a ≠ c := fun e => hwc (by rw [← e]; exact ha)
      have eb : b ≠ c := fun e => hwc (by rw [← e]; exact hb)
      rw [N1 a ea, N1 b eb]; exact hab
    · intro a ha b hb
      have ea : a ≠ c := fun e => hwc (by rw [← e]; exact ha)
      have eb : b = c := by simpa using hb
      rw [eb]; exact hlt a ea
  · intro q hq
    by_cases e : q = c
    · exact ⟨c, by simp, by rw [e]; exact Nat.le_refl _⟩
    · obtain ⟨a, ha, hle'⟩ := h.root q (by rwa [o1 q e] at hq)
      have ea : a ≠ c := fun e => hwc (by rw [← e]; exact ha)
      exact ⟨a, List.mem_append_left _ ha, by rw [N1 a ea, N1 q e]; exact hle'⟩
  · intro a ha q hq hN
    rcases List.mem_append.1 ha with ha | ha
    · have ea : a ≠ c := fun e => hwc (by rw [← e]; exact ha)
      by_cases e : q = c
      · rw [e]
        have : Reach g (a : Int) (p : Int) := h.reach a ha p hop (h.last_le a ha)
        exact this.trans hedge
      · rw [N1 a ea, N1 q e] at hN
        exact h.reach a ha q (by rwa [o1 q e] at hq) hN
    · have ea : a = c := by simpa using ha
      rw [ea] at hN ⊢
      by_cases e : q = c
      · rw [e]; exact .self
      · have := hlt q e; omega
  · intro q hq
    by_cases e : q = c
    · rw [e, N2, b2]; exact Nat.le_refl _
    · rw [N1 q e, b1 q e]; exact h.low1 q (by rwa [o1 q e] at hq)
  · intro q hq
    by_cases e : q = c
    · rw [e]; exact ⟨c, o2, by rw [N2, b2], .self⟩
    · obtain ⟨r, hr, hN, hR⟩ := h.low2 q (by rwa [o1 q e] at hq)
      have er := ne_of r hr
      exact ⟨r, by rw [o1 r er]; exact hr, by rw [N1 r er, b1 q e]; exact hN, hR⟩
  · intro q hq
    by_cases e : q = c
    · rw [e, N2] at hq; omega
    · rw [N1 q e] at hq
      have ep : q ≠ p := fun e' => h.opmet p hop (by rw [← e']; exact hq)
      rw [l1 q ep]; exact h.lk0 q hq
  · intro q
    by_cases e : q = p
    · rw [e, l2]; omega
    · rw [l1 q e]; exact h.lkle q
  · intro q hq r hr
    by_cases e : q = c
    · rw [e, l1 c (Ne.symm hpc), h.lk0 c hn] at hr
      simp at hr
    · have hq' : S.op q = true := by rwa [o1 q e] at hq
      by_cases er : r = c
      · rw [er]
        refine ⟨by rw [N2]; omega, fun _ => ?_⟩
        rw [b1 q e, N2]
        have := h.low1 q hq'
        have := hle q
        omega
      · have hr' : (r : Int) ∈ (rowN g q).take (S.lk q) := by
          by_cases ep : q = p
          · rw [ep, l2] at hr
            rcases take_look hl hr with h1 | h1
            · rw [ep]; exact h1
            · rw [he] at h1; omega
          · rwa [l1 q ep] at hr
        obtain ⟨h1, h2⟩ := h.look q hq' r hr'
        rw [N1 r er, o1 r er, b1 q e]
        exact ⟨h1, h2⟩
  · intro q hq hqw
    have e : q ≠ c := fun e => hqw (by simp [e])
    have ew : q ∉ way ++ [p] := fun e' => hqw (List.mem_append_left _ e')
    have ep : q ≠ p := fun e' => ew (by simp [e'])
    rw [l1 q ep, b1 q e, N1 q e]
    exact h.fin q (by rwa [o1 q e] at hq) ew
  · intro a ha q hq hqw hN hb
    have e : q ≠ c := fun e => hqw (by simp [e])
    have ew : q ∉ way ++ [p] := fun e' => hqw (List.mem_append_left _ e')
    rcases List.mem_append.1 ha with ha | ha
    · have ea : a ≠ c := fun e => hwc (by rw [← e]; exact ha)
      rw [N1 a ea, N1 q e] at hN
      rw [b1 a ea, b1 q e]
      refine h.par a ha q (by rwa [o1 q e] at hq) ew hN (fun p' hp' => ?_)
      have e' : p' ≠ c := fun e => hwc (by rw [← e]; exact hp')
      have := hb p' (List.mem_append_left _ hp')
      rwa [N1 p' e', N1 a ea, N1 q e] at this
    · have ea : a = c := by simpa using ha
      have := hlt q e
      rw [ea] at hN; omega
  · intro q hq hqo r hr
    have e : q ≠ c := fun e => by rw [e, o2] at hqo; cases hqo
    rw [N1 q e] at hq
    rw [o1 q e] at hqo
    obtain ⟨h1, h2⟩ := h.closed q hq hqo r hr
    have er := ne_met r h1
    rw [N1 r er, o1 r er]
    exact ⟨h1, h2⟩
  · intro G hG
    rw [g1] at hG
    obtain ⟨k, hk, e, hx⟩ := h.grp G hG
    refine ⟨k, hk, e, fun x hxG => ?_⟩
    obtain ⟨h1, h2⟩ := hx x hxG
    have er := ne_met x h1
    rw [N1 x er, o1 x er]
    exact ⟨h1, h2⟩
  · intro q hq hqo
    have e : q ≠ c := fun e => by rw [e, o2] at hqo; cases hqo
    rw [g1]
    exact h.cov q (by rwa [N1 q e] at hq) (by rwa [o1 q e] at hqo)
  · rw [g1]; exact h.apart
theorem Inv.past {g : List (List Int)} {S : TS} {way : List Nat} {p c : Nat} (h : Inv g S (way ++ [p])) (hl : S.lk p < (rowN g p).length) (he : (rowN g p)[S.lk p] = (c : Int)) (hn : S.N c ≠ 0) (hc : S.op c = true → S.bk p ≤ S.N c) :
    Inv g (lookS S p) (way ++ [p]) := by
  have hop := h.wop p (by simp)
  have l1 : ∀ q, q ≠ p → (lookS S p).lk q = S.lk q := fun q e => upd_other _ _ e
  have l2 : (lookS S p).lk p = S.lk p + 1 := upd_same _ _ _
  refine ⟨h.small, h.le, h.inj, h.opmet, h.opn, h.sort, h.wop, h.wsort, h.root, h.reach, h.low1, h.low2, fun q hq => ?_, fun q => ?_, fun q hq r hr => ?_, fun q hq hqw => ?_, h.par, h.closed, h.grp, h.cov, h.apart⟩
  · have ep : q ≠ p := fun e' => h.opmet p hop (by rw [← e']; exact hq)
    rw [l1 q ep]; exact h.lk0 q hq
  · by_cases e : q = p
    · rw [e, l2]; omega
    · rw [l1 q e]; exact h.lkle q
  · by_cases e : q = p
    · rw [e, l2] at hr
      rcases take_look hl hr with h1 | h1
      · rw [e]; exact h.look p hop r h1
      · rw [he] at h1
        have : r = c := by omega
        rw [this, e]; exact ⟨hn, hc⟩
    · rw [l1 q e] at hr
      exact h.look q hq r hr
  · have ep : q ≠ p := fun e' => hqw (by simp [e'])
    rw [l1 q ep]
    exact h.fin q hq hqw
theorem Inv.sees {g : List (List Int)} {S : TS} {way : List Nat} {p r : Nat} (h : Inv g S (way ++ [p])) (hr : S.op r = true) (hR : Reach g (p : Int) (r : Int)) (v : Nat) (hv : S.N r = v) : Inv g (minS S p v) (way ++ [p]) := by
  have hop := h.wop p (by simp)
  have b1 : ∀ q, q ≠ p → (minS S p v).bk q = S.bk q := fun q e => upd_other _ _ e
  have b2 : (minS S p v).bk p = min (S.bk p) v := upd_same _ _ _
  have ble : ∀ q, (minS S p v).bk q ≤ S.bk q := fun q => by
    by_cases e : q = p
    · rw [e, b2]; exact Nat.min_le_left _ _
    · rw [b1 q e]; exact Nat.le_refl _
  refine ⟨h.small, h.le, h.inj, h.opmet, h.opn, h.sort, h.wop, h.wsort, h.root, h.reach, fun q hq => Nat.le_trans (ble q) (h.low1 q hq), fun q hq => ?_, h.lk0, h.lkle, fun q hq r hr => ?_, fun q hq hqw => ?_, fun a ha q hq hqw hN hb => ?_, h.closed, h.grp, h.cov, h.apart⟩
  · by_cases e : q = p
    · rw [e, b2]
      rcases Nat.le_total (S.bk p) v with hm | hm
      · rw [Nat.min_eq_left hm]; exact h.low2 p hop
      · rw [Nat.min_eq_right hm]; exact ⟨r, hr, hv, hR⟩
    · rw [b1 q e]; exact h.low2 q hq
  · obtain ⟨h1, h2⟩ := h.look q hq r hr
    exact ⟨h1, fun ho => Nat.le_trans (ble q) (h2 ho)⟩
  · have ep : q ≠ p := fun e' => hqw (by simp [e'])
    rw [b1 q ep]
    exact h.fin q hq hqw
  · have ep : q ≠ p := fun e' => hqw (by simp [e'])
    rw [b1 q ep]
    exact Nat.le_trans (ble a) (h.par a ha q hq hqw hN hb)
end Go.Proofs.YtcpmfcigciknlaaGreat

namespace Go.Proofs.YtcpmfcigciknlaaGreat
open Go.RowKit
set_option linter.unusedVariables false
theorem Inv.back {g : List (List Int)} {S : TS} {way : List Nat} {a p : Nat} (h : Inv g S (way ++ [a] ++ [p])) (hl : S.lk p = (rowN g p).length) (hb : S.bk p < S.N p) :
    Inv g (minS S a (S.bk p)) (way ++ [a]) := by
  have hop := h.wop p (by simp)
  have hoa := h.wop a (by simp)
  have hap : S.N a < S.N p := h.last_most a (by simp)
  have hnp : a ≠ p := fun e => by rw [e] at hap; omega
  have hpw : p ∉ way ++ [a] := fun e => by have := h.last_most p e; omega
  have hra : Reach g (a : Int) (p : Int) := h.reach a (by simp) p hop (by omega)
  have b1 : ∀ q, q ≠ a → (minS S a (S.bk p)).bk q = S.bk q := fun q e => upd_other _ _ e
  have b2 : (minS S a (S.bk p)).bk a = min (S.bk a) (S.bk p) := upd_same _ _ _
  have ble : ∀ q, (minS S a (S.bk p)).bk q ≤ S.bk q := fun q => by
    by_cases e : q = a
    · rw [e, b2]; exact Nat.min_le_left _ _
    · rw [b1 q e]; exact Nat.le_refl _
  refine ⟨h.small, h.le, h.inj, h.opmet, h.opn, h.sort, fun q hq => h.wop q (List.mem_append_left _ hq), (List.pairwise_append.1 h.wsort).1, fun q hq => ?_, fun x hx q hq hN => h.reach x (List.mem_append_left _ hx) q hq hN, fun q hq => Nat.le_trans (ble q) (h.low1 q hq), fun q hq => ?_, h.lk0, h.lkle, fun q hq r hr => ?_, fun q hq hqw => ?_, fun x hx q hq hqw hN hbt => ?_, h.closed, h.grp, h.cov, h.apart⟩
  · obtain ⟨x, hx, hle⟩ := h.root q hq
    rcases List.mem_append.1 hx with hx | hx
    · exact ⟨x, hx, hle⟩
    · have e : x = p := by simpa using hx
      rw [e] at hle
      exact ⟨a, by simp, by show S.N a ≤ S.N q; omega⟩
  · by_cases e : q = a
    · rw [e, b2]
      rcases Nat.le_total (S.bk a) (S.bk p) with hm | hm
      · rw [Nat.min_eq_left hm]; exact h.low2 a hoa
      · rw [Nat.min_eq_right hm]
        obtain ⟨r, h1, h2, h3⟩ := h.low2 p hop
        exact ⟨r, h1, h2, hra.trans h3⟩
    · rw [b1 q e]; exact h.low2 q hq
  · obtain ⟨h1, h2⟩ := h.look q hq r hr
    exact ⟨h1, fun ho => Nat.le_trans (ble q) (h2 ho)⟩
  · have ea : q ≠ a := fun e => hqw (by simp [e])
    rw [b1 q ea]
    by_cases ep : q = p
    · rw [ep]; exact ⟨hl, hb⟩
    · refine h.fin q hq (fun e => ?_)
      rcases List.mem_append.1 e with e | e
      · exact hqw e
      · exact ep (by simpa using e)
  · have ea : q ≠ a := fun e => hqw (by simp [e])
    rw [b1 q ea]
    have hNxq : S.N x < S.N q := hN
    have hbt' : ∀ p' ∈ way ++ [a], S.N p' ≤ S.N x ∨ S.N q < S.N p' := hbt
    by_cases ex : x = a
    · rw [ex, b2]
      rw [ex] at hNxq
      by_cases ep : q = p
      · rw [ep]; exact Nat.min_le_right _ _
      · have hqw' : q ∉ way ++ [a] ++ [p] := fun e => by
          rcases List.mem_append.1 e with e | e
          · exact hqw e
          · exact ep (by simpa using e)
        have hne : S.N q ≠ S.N p := fun e => ep (h.inj q p e (h.opmet q hq))
        by_cases hlt : S.N q < S.N p
        · refine Nat.le_trans (Nat.min_le_left _ _) (h.par a (by simp) q hq hqw' hNxq (fun p' hp' => ?_))
          rcases List.mem_append.1 hp' with hp' | hp'
          · have := hbt' p' hp'; rw [ex] at this; exact this
          · have : p' = p := by simpa using hp'
            rw [this]; exact .inr hlt
        · refine Nat.le_trans (Nat.min_le_right _ _) (h.par p (by simp) q hq hqw' (by omega) (fun p' hp' => .inl (h.last_le p' hp')))
    · rw [b1 x ex]
      have hxa : S.N x < S.N a := by
        rcases List.mem_append.1 hx with hx | hx
        · exact (List.pairwise_append.1 (List.pairwise_append.1 h.wsort).1).2.2 x hx a (by simp)
        · exact absurd (by simpa using hx) ex
      have hqa : S.N q < S.N a := by
        rcases hbt' a (by simp) with e | e
        · omega
        · exact e
      have ep : q ≠ p := fun e => by rw [e] at hqa; omega
      refine h.par x (List.mem_append_left _ hx) q hq (fun e => ?_) hNxq (fun p' hp' => ?_)
      · rcases List.mem_append.1 e with e | e
        · exact hqw e
        · exact ep (by simpa using e)
      · rcases List.mem_append.1 hp' with hp' | hp'
        · exact hbt' p' hp'
        · have : p' = p := by simpa using hp'
          rw [this]; exact .inr (by omega)
def regI (S : TS) (p q : Nat) : Prop := S.op q = true ∧ S.N p ≤ S.N q
theorem Inv.reg_out {g : List (List Int)} {S : TS} {way : List Nat} {p : Nat} (h : Inv g S (way ++ [p])) {q : Nat} (hq : regI S p q) (e : q ≠ p) : q ∉ way ++ [p] := by
  intro hw
  have hne : S.N q ≠ S.N p := fun e' => e (h.inj q p e' (h.opmet q hq.1))
  have := h.last_le q hw
  have := hq.2
  omega
theorem Inv.reg_low {g : List (List Int)} {S : TS} {way : List Nat} {p : Nat} (h : Inv g S (way ++ [p])) (hb : S.bk p = S.N p) {q : Nat} (hq : regI S p q) : S.N p ≤ S.bk q := by
  by_cases e : q = p
  · rw [e, hb]; exact Nat.le_refl _
  · have hne : S.N q ≠ S.N p := fun e' => e (h.inj q p e' (h.opmet q hq.1))
    have := h.par p (by simp) q hq.1 (h.reg_out hq e) (by have := hq.2; omega) (fun p' hp' => .inl (h.last_le p' hp'))
    rwa [hb] at this
theorem Inv.reg_to {g : List (List Int)} {S : TS} {way : List Nat} {p : Nat} (h : Inv g S (way ++ [p])) (hb : S.bk p = S.N p) : ∀ (n q : Nat), S.N q ≤ n → regI S p q → Reach g (q : Int) (p : Int) := by
  intro n
  induction n with
  | zero =>
    intro q hn hq
    exact absurd (Nat.le_zero.1 hn) (h.opmet q hq.1)
  | succ n ih =>
    intro q hn hq
    by_cases e : q = p
    · rw [e]; exact .self
    · obtain ⟨_, hlt⟩ := h.fin q hq.1 (h.reg_out hq e)
      obtain ⟨r, hr, hN, hR⟩ := h.low2 q hq.1
      have hl := h.reg_low hb hq
      exact hR.trans (ih r (by omega) ⟨hr, by omega⟩)
theorem Inv.reg_from {g : List (List Int)} (hg : rowsB g = true) {S : TS} {way : List Nat} {p : Nat} (h : Inv g S (way ++ [p])) (hl : S.lk p = (rowN g p).length) (hb : S.bk p = S.N p) {x : Int} (hx : Reach g (p : Int) x) :
    ∃ q : Nat, x = (q : Int) ∧ (regI S p q ∨ (S.N q ≠ 0 ∧ S.op q = false)) := by
  induction hx with
  | self => exact ⟨p, rfl, .inl ⟨h.wop p (by simp), Nat.le_refl _⟩⟩
  | step _ hc ih =>
    obtain ⟨b, rfl, hb'⟩ := ih
    obtain ⟨r, rfl, _⟩ := mem_row hg hc
    refine ⟨r, rfl, ?_⟩
    rcases hb' with hb' | hb'
    · have hlen : S.lk b = (rowN g b).length := by
        by_cases e : b = p
        · rw [e]; exact hl
        · exact (h.fin b hb'.1 (h.reg_out hb' e)).1
      obtain ⟨h1, h2⟩ := h.look b hb'.1 r (by rw [hlen, List.take_length]; exact hc)
      cases ho : S.op r with
      | false => exact .inr ⟨h1, rfl⟩
      | true =>
        have := h.reg_low hb hb'
        have := h2 ho
        exact .inl ⟨ho, by omega⟩
    · exact .inr (h.closed b hb'.1 hb'.2 r hc)
theorem Inv.told_out {g : List (List Int)} (hg : rowsB g = true) {S : TS} {way : List Nat} (h : Inv g S way) {q : Nat} (hq : S.N q ≠ 0 ∧ S.op q = false) {x : Int} (hx : Reach g (q : Int) x) : ∃ r : Nat, x = (r : Int) ∧ S.N r ≠ 0 ∧ S.op r = false := by
  induction hx with
  | self => exact ⟨q, rfl, hq⟩
  | step _ hc ih =>
    obtain ⟨b, rfl, hb⟩ := ih
    obtain ⟨r, rfl, _⟩ := mem_row hg hc
    exact ⟨r, rfl, h.closed b hb.1 hb.2 r hc⟩
theorem Inv.reg_group {g : List (List Int)} (hg : rowsB g = true) {S : TS} {way : List Nat} {p : Nat} (h : Inv g S (way ++ [p])) (hl : S.lk p = (rowN g p).length) (hb : S.bk p = S.N p) (x : Int) :
    x ∈ groupL g (p : Int) ↔ ∃ q : Nat, x = (q : Int) ∧ regI S p q := by
  have hop := h.wop p (by simp)
  have hpg := h.small p (h.opmet p hop)
  rw [groupL_mem hg (by omega)]
  constructor
  · rintro ⟨h1, h2⟩
    obtain ⟨q, rfl, hq | hq⟩ := h.reg_from hg hl hb h1
    · exact ⟨q, rfl, hq⟩
    · obtain ⟨r, hr, _, hno⟩ := h.told_out hg hq h2
      have : r = p := by omega
      rw [this, hop] at hno; cases hno
  · rintro ⟨q, rfl, hq⟩
    exact ⟨h.reach p (by simp) q hq.1 hq.2, h.reg_to hb _ q (Nat.le_refl _) hq⟩
noncomputable def closeS (g : List (List Int)) (S : TS) (A B : List Nat) (p : Nat) : TS := { S with op := fun q => S.op q && !decide (q ∈ p :: B), opn := A, grp := S.grp ++ [groupL g (p : Int)] }
theorem Inv.reg_mem {g : List (List Int)} {S : TS} {way A B : List Nat} {p : Nat} (h : Inv g S way) (e : S.opn = A ++ p :: B) (q : Nat) : q ∈ p :: B ↔ regI S p q := by
  have hs := h.sort
  rw [e] at hs
  obtain ⟨s1, s2, s3⟩ := List.pairwise_append.1 hs
  obtain ⟨s4, _⟩ := List.pairwise_cons.1 s2
  constructor
  · intro hq
    refine ⟨(h.opn q).1 (by rw [e]; exact List.mem_append_right _ hq), ?_⟩
    rcases List.mem_cons.1 hq with rfl | hq
    · exact Nat.le_refl _
    · exact Nat.le_of_lt (s4 q hq)
  · rintro ⟨h1, h2⟩
    have hq := (h.opn q).2 h1
    rw [e] at hq
    rcases List.mem_append.1 hq with hq | hq
    · have := s3 q hq p (by simp); omega
    · exact hq
theorem Inv.tell {g : List (List Int)} (hg : rowsB g = true) {S : TS} {way A B : List Nat} {p : Nat} (h : Inv g S (way ++ [p])) (hl : S.lk p = (rowN g p).length) (hb : S.bk p = S.N p) (e : S.opn = A ++ p :: B) :
    Inv g (closeS g S A B p) way := by
  have hop := h.wop p (by simp)
  have hpg := h.small p (h.opmet p hop)
  have hm := h.reg_mem e
  have o1 : ∀ q, (closeS g S A B p).op q = true ↔ S.op q = true ∧ S.N q < S.N p := fun q => by
    show (S.op q && !decide (q ∈ p :: B)) = true ↔ _
    rw [Bool.and_eq_true, Bool.not_eq_true', decide_eq_false_iff_not, hm]
    constructor
    · rintro ⟨h1, h2⟩
      refine ⟨h1, ?_⟩
      rcases Nat.lt_or_ge (S.N q) (S.N p) with h3 | h3
      · exact h3
      · exact absurd ⟨h1, h3⟩ h2
    · rintro ⟨h1, h2⟩
      exact ⟨h1, fun h3 => by have := h3.2; omega⟩
  have o0 : ∀ q, S.N q ≠ 0 → (closeS g S A B p).op q = false → S.op q = false ∨ regI S p q := fun q hq ho => by
    cases e1 : S.op q with
    | false => exact .inl rfl
    | true =>
      rcases Nat.lt_or_ge (S.N q) (S.N p) with h3 | h3
      · rw [(o1 q).2 ⟨e1, h3⟩] at ho; cases ho
      · exact .inr ⟨e1, h3⟩
  have of : ∀ q, regI S p q → (closeS g S A B p).op q = false := fun q hq => by
    cases e1 : (closeS g S A B p).op q with
    | false => rfl
    | true => have := ((o1 q).1 e1).2; have := hq.2; omega
  have of' : ∀ q, S.op q = false → (closeS g S A B p).op q = false := fun q hq => by
    cases e1 : (closeS g S A B p).op q with
    | false => rfl
    | true => have := ((o1 q).1 e1).1; rw [hq] at this; cases this
  have hs := h.sort
  rw [e] at hs
  obtain ⟨s1, s2, s3⟩ := List.pairwise_append.1 hs
  have hway : ∀ q ∈ way, S.N q < S.N p := h.last_most
  have hrg := h.reg_group hg hl hb
  refine ⟨h.small, h.le, h.inj, fun q hq => h.opmet q ((o1 q).1 hq).1, fun q => ?_, s1, fun q hq => (o1 q).2 ⟨h.wop q (List.mem_append_left _ hq), hway q hq⟩, (List.pairwise_append.1 h.wsort).1, fun q hq => ?_, fun x hx q hq hN => h.reach x (List.mem_append_left _ hx) q ((o1 q).1 hq).1 hN, fun q hq => h.low1 q ((o1 q).1 hq).1, fun q hq => ?_, h.lk0, h.lkle, fun q hq r hr => ?_, fun q hq hqw => ?_, fun x hx q hq hqw hN hbt => ?_, fun q hq hqo r hr => ?_, fun G hG => ?_, fun q hq hqo => ?_, ?_⟩
  · rw [o1]
    show q ∈ A ↔ _
    constructor
    · intro hq
      exact ⟨(h.opn q).1 (by rw [e]; exact List.mem_append_left _ hq), s3 q hq p (by simp)⟩
    · rintro ⟨h1, h2⟩
      have hq := (h.opn q).2 h1
      rw [e] at hq
      rcases List.mem_append.1 hq with hq | hq
      · exact hq
      · have := ((hm q).1 hq).2; omega
  · obtain ⟨h1, h2⟩ := (o1 q).1 hq
    obtain ⟨x, hx, hle⟩ := h.root q h1
    rcases List.mem_append.1 hx with hx | hx
    · exact ⟨x, hx, hle⟩
    · have : x = p := by simpa using hx
      rw [this] at hle; omega
  · obtain ⟨h1, h2⟩ := (o1 q).1 hq
    obtain ⟨r, h3, h4, h5⟩ := h.low2 q h1
    have := h.low1 q h1
    exact ⟨r, (o1 r).2 ⟨h3, by omega⟩, h4, h5⟩
  · obtain ⟨h1, h2⟩ := (o1 q).1 hq
    obtain ⟨h3, h4⟩ := h.look q h1 r hr
    exact ⟨h3, fun ho => h4 ((o1 r).1 ho).1⟩
  · obtain ⟨h1, h2⟩ := (o1 q).1 hq
    refine h.fin q h1 (fun e' => ?_)
    rcases List.mem_append.1 e' with e' | e'
    · exact hqw e'
    · have : q = p := by simpa using e'
      rw [this] at h2; omega
  · obtain ⟨h1, h2⟩ := (o1 q).1 hq
    refine h.par x (List.mem_append_left _ hx) q h1 (fun e' => ?_) hN (fun p' hp' => ?_)
    · rcases List.mem_append.1 e' with e' | e'
      · exact hqw e'
      · have : q = p := by simpa using e'
        rw [this] at h2; omega
    · rcases List.mem_append.1 hp' with hp' | hp'
      · exact hbt p' hp'
      · have : p' = p := by simpa using hp'
        rw [this]; exact .inr h2
  · rcases o0 q hq hqo with h1 | h1
    · obtain ⟨h2, h3⟩ := h.closed q hq h1 r hr
      exact ⟨h2, of' r h3⟩
    · have hR : Reach g (p : Int) (r : Int) := (h.reach p (by simp) q h1.1 h1.2).step hr
      obtain ⟨r', hr', h2⟩ := h.reg_from hg hl hb hR
      have : r' = r := by omega
      rw [this] at h2
      rcases h2 with h2 | h2
      · exact ⟨h.opmet r h2.1, of r h2⟩
      · exact ⟨h2.1, of' r h2.2⟩
  · rcases List.mem_append.1 hG with hG | hG
    · obtain ⟨k, hk, e1, h1⟩ := h.grp G hG
      exact ⟨k, hk, e1, fun x hx => ⟨(h1 x hx).1, of' x (h1 x hx).2⟩⟩
    · have e1 : G = groupL g (p : Int) := by simpa using hG
      refine ⟨p, hpg, e1, fun x hx => ?_⟩
      rw [e1] at hx
      obtain ⟨q, hq, h1⟩ := (hrg x).1 hx
      have : q = x := by omega
      rw [this] at h1
      exact ⟨h.opmet x h1.1, of x h1⟩
  · rcases o0 q hq hqo with h1 | h1
    · obtain ⟨G, hG, h2⟩ := h.cov q hq h1
      exact ⟨G, List.mem_append_left _ hG, h2⟩
    · exact ⟨groupL g (p : Int), List.mem_append_right _ (by simp), (hrg q).2 ⟨q, rfl, h1⟩⟩
  · show (S.grp ++ [groupL g (p : Int)]).Pairwise _
    rw [List.pairwise_append]
    refine ⟨h.apart, by simp, fun G hG H hH x hxG hxH => ?_⟩
    have e1 : H = groupL g (p : Int) := by simpa using hH
    rw [e1] at hxH
    obtain ⟨q, rfl, h1⟩ := (hrg x).1 hxH
    obtain ⟨k, hk, e2, h2⟩ := h.grp G hG
    have := (h2 q hxG).2
    rw [h1.1] at this; cases this
theorem Inv.min_none {g : List (List Int)} {S : TS} {way : List Nat} {a : Nat} (h : Inv g S way) (ha : S.op a = true) {v : Nat} (hv : S.N a ≤ v) : minS S a v = S := by
  have := h.low1 a ha
  unfold minS
  rw [Nat.min_eq_left (by omega), upd_id]
end Go.Proofs.YtcpmfcigciknlaaGreat

namespace Go.Proofs.YtcpmfcigciknlaaGreat
open Go.RowKit
set_option linter.unusedVariables false
def tsCell (gv grv ov : Value) (S : TS) (i : Nat) : Value :=
  if i < 3 then (if i = 0 then gv else if i = 1 then grv else ov)
  else if i < 43 then .bool (S.op (i - 3))
  else if i < 44 then .int .i64 (S.met : Int)
  else if i < 84 then .int .i64 (S.N (i - 44) : Int)
  else if i < 124 then .int .i64 (S.bk (i - 84) : Int)
  else .int .i64 (S.lk (i - 124) : Int)
def tsCells (gv grv ov : Value) (S : TS) : List Value := (List.range 164).map (tsCell gv grv ov S)
theorem tsCells_len (gv grv ov : Value) (S : TS) : (tsCells gv grv ov S).length = 164 := by simp [tsCells]
theorem tsCells_get (gv grv ov : Value) (S : TS) {i : Nat} (h : i < 164) : (tsCells gv grv ov S)[i]? = some (tsCell gv grv ov S i) := by simp [tsCells, h]
theorem tsCells_set {gv grv ov gv' grv' ov' : Value} {S S' : TS} {i : Nat} {v : Value} (h : ∀ j, j < 164 → tsCell gv' grv' ov' S' j = if j = i then v else tsCell gv grv ov S j) : (tsCells gv grv ov S).set i v = tsCells gv' grv' ov' S' := by
  apply List.ext_getElem?
  intro j
  by_cases hj : j < 164
  · rw [List.getElem?_set, tsCells_len, tsCells_get _ _ _ _ hj, tsCells_get _ _ _ _ hj, h j hj]
    by_cases e : i = j
    · subst e; simp [hj]
    · rw [if_neg e, if_neg (fun e' => e e'.symm)]
  · rw [List.getElem?_eq_none (by rw [List.length_set, tsCells_len]; omega), List.getElem?_eq_none (by rw [tsCells_len]; omega)]
def TsAt (w : World) (X : Nat) (gv grv ov : Value) (S : TS) : Prop := w.heap[X]? = some (.cells (tsCells gv grv ov S).toArray 284 (0, 0))
theorem TsAt.cell {w : World} {X : Nat} {gv grv ov : Value} {S : TS} (h : TsAt w X gv grv ov S) {i : Nat} (hi : i < 164) : w.cell? ⟨X, i, none⟩ = some (tsCell gv grv ov S i) := by
  rw [cell_of_row w _ _ _ _ _ h]
  simpa using tsCells_get gv grv ov S hi
theorem TsAt.free {w : World} {X : Nat} {gv grv ov : Value} {S : TS} (h : TsAt w X gv grv ov S) (i : Nat) : w.frozen? ⟨X, i, none⟩ = false := frozen_of_row w X i _ _ h
theorem TsAt.graph {w : World} {X : Nat} {gv grv ov : Value} {S : TS} (h : TsAt w X gv grv ov S) : w.cell? ⟨X, 0, none⟩ = some gv := h.cell (by omega)
theorem TsAt.groups {w : World} {X : Nat} {gv grv ov : Value} {S : TS} (h : TsAt w X gv grv ov S) : w.cell? ⟨X, 1, none⟩ = some grv := h.cell (by omega)
theorem TsAt.opens {w : World} {X : Nat} {gv grv ov : Value} {S : TS} (h : TsAt w X gv grv ov S) : w.cell? ⟨X, 2, none⟩ = some ov := h.cell (by omega)
theorem TsAt.isOpen {w : World} {X : Nat} {gv grv ov : Value} {S : TS} (h : TsAt w X gv grv ov S) {p : Nat} (hp : p < 40) : w.cell? ⟨X, 3 + p, none⟩ = some (.bool (S.op p)) := by
  rw [h.cell (by omega)]
  simp [tsCell, show ¬ (3 + p < 3) by omega, show 3 + p < 43 by omega]
theorem TsAt.met {w : World} {X : Nat} {gv grv ov : Value} {S : TS} (h : TsAt w X gv grv ov S) : w.cell? ⟨X, 43, none⟩ = some (.int .i64 (S.met : Int)) := h.cell (by omega)
theorem TsAt.metAs {w : World} {X : Nat} {gv grv ov : Value} {S : TS} (h : TsAt w X gv grv ov S) {p : Nat} (hp : p < 40) : w.cell? ⟨X, 44 + p, none⟩ = some (.int .i64 (S.N p : Int)) := by
  rw [h.cell (by omega)]
  simp [tsCell, show ¬ (44 + p < 3) by omega, show ¬ (44 + p < 43) by omega, show ¬ (44 + p < 44) by omega, show 44 + p < 84 by omega]
theorem TsAt.back {w : World} {X : Nat} {gv grv ov : Value} {S : TS} (h : TsAt w X gv grv ov S) {p : Nat} (hp : p < 40) : w.cell? ⟨X, 84 + p, none⟩ = some (.int .i64 (S.bk p : Int)) := by
  rw [h.cell (by omega)]
  simp [tsCell, show ¬ (84 + p < 3) by omega, show ¬ (84 + p < 43) by omega, show ¬ (84 + p < 44) by omega, show ¬ (84 + p < 84) by omega, show 84 + p < 124 by omega]
theorem TsAt.looked {w : World} {X : Nat} {gv grv ov : Value} {S : TS} (h : TsAt w X gv grv ov S) {p : Nat} (hp : p < 40) : w.cell? ⟨X, 124 + p, none⟩ = some (.int .i64 (S.lk p : Int)) := by
  rw [h.cell (by omega)]
  simp [tsCell, show ¬ (124 + p < 3) by omega, show ¬ (124 + p < 43) by omega, show ¬ (124 + p < 44) by omega, show ¬ (124 + p < 84) by omega, show ¬ (124 + p < 124) by omega]
theorem TsAt.store {w : World} {X : Nat} {gv grv ov gv' grv' ov' : Value} {S S' : TS} (h : TsAt w X gv grv ov S) (i : Nat) (v : Value) (hs : ∀ j, j < 164 → tsCell gv' grv' ov' S' j = if j = i then v else tsCell gv grv ov S j) : TsAt (w.setCell ⟨X, i, none⟩ v) X gv' grv' ov' S' := by
  have := heap_setCell_same w X i _ _ v h
  rw [List.setIfInBounds_toArray, tsCells_set hs] at this
  exact this
theorem TsAt.setOpen {w : World} {X : Nat} {gv grv ov : Value} {S : TS} (h : TsAt w X gv grv ov S) {p : Nat} (hp : p < 40) (b : Bool) : TsAt (w.setCell ⟨X, 3 + p, none⟩ (.bool b)) X gv grv ov { S with op := upd S.op p b } := by
  refine h.store _ _ (fun j hj => ?_)
  by_cases e : j = 3 + p
  · subst e
    simp [tsCell, upd, show ¬ (3 + p < 3) by omega, show 3 + p < 43 by omega]
  · rw [if_neg e]
    unfold tsCell
    split
    · rfl
    · split
      · dsimp only
        rw [show upd S.op p b (j - 3) = S.op (j - 3) from upd_other _ _ (by omega)]
      · rfl
theorem TsAt.setMet {w : World} {X : Nat} {gv grv ov : Value} {S : TS} (h : TsAt w X gv grv ov S) (m : Nat) : TsAt (w.setCell ⟨X, 43, none⟩ (.int .i64 (m : Int))) X gv grv ov { S with met := m } := by
  refine h.store _ _ (fun j hj => ?_)
  by_cases e : j = 43
  · subst e; simp [tsCell]
  · rw [if_neg e]
    unfold tsCell
    split
    · rfl
    · split
      · rfl
      · rw [if_neg (show ¬ j < 44 by omega), if_neg (show ¬ j < 44 by omega)]
theorem TsAt.setAs {w : World} {X : Nat} {gv grv ov : Value} {S : TS} (h : TsAt w X gv grv ov S) {p : Nat} (hp : p < 40) (m : Nat) : TsAt (w.setCell ⟨X, 44 + p, none⟩ (.int .i64 (m : Int))) X gv grv ov { S with N := upd S.N p m } := by
  refine h.store _ _ (fun j hj => ?_)
  by_cases e : j = 44 + p
  · subst e
    simp [tsCell, upd, show ¬ (44 + p < 3) by omega, show ¬ (44 + p < 43) by omega, show ¬ (44 + p < 44) by omega, show 44 + p < 84 by omega]
  · rw [if_neg e]
    unfold tsCell
    split
    · rfl
    · split
      · rfl
      · split
        · rfl
        · split
          · dsimp only
            rw [show upd S.N p m (j - 44) = S.N (j - 44) from upd_other _ _ (by omega)]
          · rfl
theorem TsAt.setBack {w : World} {X : Nat} {gv grv ov : Value} {S : TS} (h : TsAt w X gv grv ov S) {p : Nat} (hp : p < 40) (m : Nat) : TsAt (w.setCell ⟨X, 84 + p, none⟩ (.int .i64 (m : Int))) X gv grv ov { S with bk := upd S.bk p m } := by
  refine h.store _ _ (fun j hj => ?_)
  by_cases e : j = 84 + p
  · subst e
    simp [tsCell, upd, show ¬ (84 + p < 3) by omega, show ¬ (84 + p < 43) by omega, show ¬ (84 + p < 44) by omega, show ¬ (84 + p < 84) by omega, show 84 + p < 124 by omega]
  · rw [if_neg e]
    unfold tsCell
    split
    · rfl
    · split
      · rfl
      · split
        · rfl
        · split
          · rfl
          · split
            · dsimp only
              rw [show upd S.bk p m (j - 84) = S.bk (j - 84) from upd_other _ _ (by omega)]
            · rfl
theorem TsAt.setLooked {w : World} {X : Nat} {gv grv ov : Value} {S : TS} (h : TsAt w X gv grv ov S) {p : Nat} (hp : p < 40) (m : Nat) : TsAt (w.setCell ⟨X, 124 + p, none⟩ (.int .i64 (m : Int))) X gv grv ov { S with lk := upd S.lk p m } := by
  refine h.store _ _ (fun j hj => ?_)
  by_cases e : j = 124 + p
  · subst e
    simp [tsCell, upd, show ¬ (124 + p < 3) by omega, show ¬ (124 + p < 43) by omega, show ¬ (124 + p < 44) by omega, show ¬ (124 + p < 84) by omega, show ¬ (124 + p < 124) by omega]
  · rw [if_neg e]
    unfold tsCell
    split
    · rfl
    · split
      · rfl
      · split
        · rfl
        · split
          · rfl
          · split
            · rfl
            · dsimp only
              rw [show upd S.lk p m (j - 124) = S.lk (j - 124) from upd_other _ _ (by omega)]
theorem TsAt.setOpens {w : World} {X : Nat} {gv grv ov : Value} {S : TS} (h : TsAt w X gv grv ov S) (u : Value) (l : List Nat) : TsAt (w.setCell ⟨X, 2, none⟩ u) X gv grv u { S with opn := l } := by
  refine h.store _ _ (fun j hj => ?_)
  by_cases e : j = 2
  · subst e; simp [tsCell]
  · rw [if_neg e]
    unfold tsCell
    split
    · split
      · rfl
      · split
        · rfl
        · omega
    · rfl
theorem TsAt.setGroups {w : World} {X : Nat} {gv grv ov : Value} {S : TS} (h : TsAt w X gv grv ov S) (u : Value) (l : List (List Int)) : TsAt (w.setCell ⟨X, 1, none⟩ u) X gv u ov { S with grp := l } := by
  refine h.store _ _ (fun j hj => ?_)
  by_cases e : j = 1
  · subst e; simp [tsCell]
  · rw [if_neg e]
    unfold tsCell
    split
    · split
      · rfl
      · rfl
    · rfl
theorem TsAt.as {w : World} {X : Nat} {gv grv ov : Value} {S S' : TS} (h : TsAt w X gv grv ov S) (e : S'.N = S.N ∧ S'.bk = S.bk ∧ S'.lk = S.lk ∧ S'.op = S.op ∧ S'.met = S.met) : TsAt w X gv grv ov S' := by
  obtain ⟨e1, e2, e3, e4, e5⟩ := e
  have : tsCells gv grv ov S' = tsCells gv grv ov S := by
    unfold tsCells
    congr 1
    funext i
    unfold tsCell
    rw [e1, e2, e3, e4, e5]
  unfold TsAt
  rw [this]; exact h
structure But (X : Nat) (v : Value) (w w' : World) : Prop where
  os : w'.os = w.os
  tape : w'.tape = w.tape
  output : w'.output = w.output
  size : w.heap.size ≤ w'.heap.size
  block : ∀ b, b < w.heap.size → b ≠ X → v.ownBlock ≠ some b → w'.heap[b]? = w.heap[b]?
theorem But.refl (X : Nat) (v : Value) (w : World) : But X v w w := ⟨rfl, rfl, rfl, Nat.le_refl _, fun _ _ _ _ => rfl⟩
theorem But.row {X B e sz n : Nat} {v u : Value} {w w' : World} {xs : List Value} (h : But X v w w') (f : w.ownsRow B e sz u n xs) (hX : u.ownBlock ≠ some X) (hv : u.ownBlock = none ∨ u.ownBlock ≠ v.ownBlock) : w'.ownsRow B e sz u n xs := by
  refine ⟨f.1, ?_⟩
  rcases f.2 with hn | ⟨q, cap, cur, rfl, hbg, hgg, rest⟩
  · exact .inl hn
  · refine .inr ⟨q, cap, cur, rfl, hbg, ?_, rest⟩
    rw [h.block q (Array.getElem?_eq_some_iff.1 hgg).1 (fun e => hX (by rw [← e]; rfl)) (fun e => by
      rcases hv with hv | hv
      · cases hv
      · exact hv (by rw [e]; rfl))]
    exact hgg
theorem But.ext {X : Nat} {v : Value} {w0 w w' : World} (h : But X v w w') (e : Ext w0 w) (hX : w0.heap.size ≤ X) (hv : ∀ b, v.ownBlock = some b → w0.heap.size ≤ b) : Ext w0 w' :=
  ⟨h.os.trans e.os, h.tape.trans e.tape, h.output.trans e.output, Nat.le_trans e.size h.size, fun k hk => (h.block k (Nat.lt_of_lt_of_le hk e.size) (by omega) (fun e' => by have := hv k e'; omega)).trans (Below.block e k hk)⟩
theorem wpList_push_lies {ops : Array Oper} {rest : List Oper} {o : Oper} {a : Act} {Q : Exit → Act → World → Prop} {w : World} (hgd : o.guard = none) (s x : Operand)
    (ho : o.op = .call { callee := .builtin .append, args := #[s, x], argTypes := #[26, 26] })
    (B : Nat) (v : Value) (l : List Int) (n : Int) (hs : a.eval s = v) (hf : Fresh B w v l) (ad : Addr) (c : Nat) (hx : a.eval x = .slice (some ad) 1 c)
    (hc : w.cell? ad = some (.int .i64 n)) (hl : l.length ≤ 1099511627776) (hB : B ≤ w.heap.size) (H : Nat) (hH : w.heap.size = H)
    (h : ∀ g cap w', Fresh B w' (.slice (some ⟨g, 0, none⟩) (l.length + 1) cap) (l ++ [n]) → w.grownBy w' v.ownBlock → (v.ownBlock = some g ∨ g = H) → wpList Tryz.prog ops Q rest (a.put o.dst (.slice (some ⟨g, 0, none⟩) (l.length + 1) cap)) w') : wpList Tryz.prog ops Q (o :: rest) a w := by
  obtain ⟨i0, hi, hz0, hz1, hz2⟩ := info_parts Tryz.infoInt
  refine wpList_append_lies w hgd s x 26 ho B 3 i0 (.int .i64 0) 1 8 Tryz.underlying26 hi hz0 hz1 hz2 rfl (by decide) v l.length _ hs hf ad 1 c [.int .i64 n] hx rfl ?_ ?_ (by decide) ?_ ?_ hB H hH ?_
  · intro j u hj
    match j, hj with
    | 0, hj => simp at hj; subst hj; simpa [Addr.add] using hc
  · intro u hu; simp at hu; subst hu; rfl
  · unfold maxLen; omega
  · omega
  · intro g cap w' ho' hg hat _
    refine h g cap w' ?_ hg hat
    unfold Fresh
    rw [List.map_append, List.length_append]; exact ho'
end Go.Proofs.YtcpmfcigciknlaaGreat

namespace Go.Proofs.YtcpmfcigciknlaaGreat
open Go.RowKit
set_option linter.unusedVariables false
def natsI (l : List Nat) : List Int := l.map fun (n : Nat) => (n : Int)
theorem Fresh.setOut {B X : Nat} {w : World} {v : Value} {l : List Int} (h : Fresh B w v l) (hX : X < B) (i : Nat) (u : Value) : Fresh B (w.setCell ⟨X, i, none⟩ u) v l := by
  refine World.ownsRow.kept h (⟨rfl, rfl, rfl, by simp, fun k _ hk => heap_setCell_other _ _ _ _ (by intro e; subst e; exact hk rfl)⟩ : w.grownBy (w.setCell ⟨X, i, none⟩ u) (some X)) ?_
  cases hv : v.ownBlock with
  | none => exact .inl rfl
  | some q =>
    refine .inr fun e => ?_
    have h1 := (World.ownsRow.lt h q hv).1
    have h2 := Option.some.inj e
    omega
theorem But.setX {X : Nat} {v : Value} {w w' : World} (h : But X v w w') (i : Nat) (u : Value) : But X v w (w'.setCell ⟨X, i, none⟩ u) :=
  ⟨h.os, h.tape, h.output, by have := h.size; simpa using this, fun b hb hX hv => (heap_setCell_other _ _ _ _ hX).trans (h.block b hb hX hv)⟩
theorem But.drew {X : Nat} {v : Value} {w w' : World} (h : But X v w w') : But X v w w'.drew := ⟨h.os, h.tape, h.output, h.size, h.block⟩
theorem But.alloc {X : Nat} {v : Value} {w w' : World} (h : But X v w w') (o : Obj) : But X v w (w'.alloc o) :=
  ⟨h.os, h.tape, h.output, by have := h.size; simp; omega, fun b hb hX hv => (heap_alloc_old _ _ (Nat.lt_of_lt_of_le hb h.size)).trans (h.block b hb hX hv)⟩
theorem But.grown {X : Nat} {v : Value} {w w' w2 : World} (h : But X v w w') (g : w'.grownBy w2 v.ownBlock) : But X v w w2 :=
  ⟨g.os.trans h.os, g.tape.trans h.tape, g.output.trans h.output, Nat.le_trans h.size g.size, fun b hb hX hv => (g.block b (Nat.lt_of_lt_of_le hb h.size) (fun e => hv e.symm)).trans (h.block b hb hX hv)⟩
set_option maxHeartbeats 2000000 in
set_option maxRecDepth 100000 in
theorem tsMeet_any (X c B : Nat) (gv grv ov : Value) (S : TS) (w : World) (hT : TsAt w X gv grv ov S) (hO : Fresh B w ov (natsI S.opn)) (hXB : X < B) (hB : B ≤ w.heap.size) (hc : c < 40) (hm : S.met ≤ 40) (hl : S.opn.length ≤ 40) :
    Calls Tryz.prog 230 #[.pointer (some ⟨X, 0, none⟩), .int .i64 c] w (fun e w' => (∃ r, e = .returned r) ∧ ∃ g cap, TsAt w' X gv grv (.slice (some ⟨g, 0, none⟩) (S.opn.length + 1) cap) (meetS S c) ∧ Fresh B w' (.slice (some ⟨g, 0, none⟩) (S.opn.length + 1) cap) (natsI (S.opn ++ [c])) ∧ But X ov w w' ∧ (ov.ownBlock = some g ∨ w.heap.size ≤ g)) := by
  have c0 := hT.met
  have f0 := hT.free 43
  have T1 := Lib.hid (hT.setMet (S.met + 1))
  have HT := Lib.hid hT
  have HO := Lib.hid hO
  clear hT hO
  go_enter Tryz.func230, Tryz.ntmps230
  go_wp2
  obtain ⟨W1, hW1⟩ : ∃ W1, W1 = w.setCell ⟨X, 43, none⟩ (.int .i64 ((S.met : Int) + 1)) := ⟨_, rfl⟩
  rw [← hW1]
  have t1 : TsAt W1 X gv grv ov { S with met := S.met + 1 } := by rw [hW1]; exact T1.out
  have c1 : W1.cell? ⟨X, 43, none⟩ = some (.int .i64 ((S.met : Int) + 1)) := t1.met
  have c2 := t1.metAs hc
  have f1 := t1.free (44 + c)
  have b1 : But X ov w W1 := by rw [hW1]; exact (But.refl X ov w).setX 43 _
  have HB1 := Lib.hid b1
  have HO1 : Hid (Fresh B W1 ov (natsI S.opn)) := Lib.hid (by rw [hW1]; exact HO.out.setOut hXB 43 _)
  have T2 := Lib.hid (TsAt.setAs (w := W1.drew) t1 hc (S.met + 1))
  have HT1 := Lib.hid t1
  clear hW1 t1 T1 c0 f0 b1
  have i1 : (0 : Int) ≤ (c : Int) := by omega
  have i2 : (c : Int) < 40 := by omega
  go_still_tail 9, (by kernel_rfl)
  change wpList _ _ _ _ _ W1.drew
  obtain ⟨W2, hW2⟩ : ∃ W2, W2 = W1.drew := ⟨_, rfl⟩
  rw [← hW2]
  have HW2 := Lib.hid hW2
  have t2 := TsAt.metAs (w := W2) (by rw [hW2]; exact HT1.out) hc
  have f2 := TsAt.free (w := W2) (by rw [hW2]; exact HT1.out) (44 + c)
  clear hW2 c1 c2 f1
  go_wp2
  obtain ⟨W3, hW3⟩ : ∃ W3, W3 = W2.setCell ⟨X, 44 + c, none⟩ (.int .i64 ((S.met : Int) + 1)) := ⟨_, rfl⟩
  rw [← hW3]
  have t3 : TsAt W3 X gv grv ov { S with met := S.met + 1, N := upd S.N c (S.met + 1) } := by rw [hW3, HW2.out]; exact T2.out
  have b3 : But X ov w W3 := by rw [hW3, HW2.out]; exact HB1.out.drew.setX (44 + c) _
  have c1 : W3.cell? ⟨X, 43, none⟩ = some (.int .i64 ((S.met : Int) + 1)) := t3.met
  have HB3 := Lib.hid b3
  have HO3 : Hid (Fresh B W3 ov (natsI S.opn)) := Lib.hid (by rw [hW3, HW2.out]; exact HO1.out.setOut hXB (44 + c) _)
  have HT3 := Lib.hid t3
  clear hW3 t2 f2 T2 HT1 HB1 t3 b3 HW2
  go_still_tail 9, (by kernel_rfl)
  change wpList _ _ _ _ _ W3.drew
  obtain ⟨W4, hW4⟩ : ∃ W4, W4 = W3.drew := ⟨_, rfl⟩
  rw [← hW4]
  have t4 : TsAt W4 X gv grv ov { S with met := S.met + 1, N := upd S.N c (S.met + 1) } := by rw [hW4]; exact HT3.out
  have b4 : But X ov w W4 := by rw [hW4]; exact HB3.out.drew
  have HO4 : Fresh B W4 ov (natsI S.opn) := by rw [hW4]; exact HO3.out
  have c2 := t4.back hc
  have f2 := t4.free (84 + c)
  obtain ⟨E, hE⟩ : ∃ E, E = W4.setCell ⟨X, 84 + c, none⟩ (.int .i64 ((S.met : Int) + 1)) := ⟨_, rfl⟩
  have t5 : TsAt E X gv grv ov { S with met := S.met + 1, N := upd S.N c (S.met + 1), bk := upd S.bk c (S.met + 1) } := by rw [hE]; exact t4.setBack hc (S.met + 1)
  have b5 : But X ov w E := by rw [hE]; exact b4.setX _ _
  have hne : ov.ownBlock ≠ some X := fun e => by have := (World.ownsRow.lt HO.out X e).1; omega
  have c3 := t5.opens
  have fo : Fresh B (E.alloc (.cells #[.int .i64 (c : Int)] 3)) ov (natsI S.opn) := by
    refine Fresh.ext ?_ (Ext.alloc (Ext.refl _) _)
    rw [hE]
    exact ((HO4 : Fresh B W4 ov (natsI S.opn)).setOut (by omega : X < B) (84 + c) _)
  have hcl := cell_alloc_one E (.int .i64 (c : Int)) 3
  have hEs : E.heap.size = W4.heap.size := by rw [hE]; simp
  rw [hEs] at hcl
  have hsz : (E.alloc (.cells #[.int .i64 (c : Int)] 3)).heap.size = E.heap.size + 1 := by simp
  have hBE : B ≤ (E.alloc (.cells #[.int .i64 (c : Int)] 3)).heap.size := by have := b5.size; omega
  have hl' : (natsI S.opn).length ≤ 1099511627776 := by unfold natsI; simp; omega
  rw [hE] at c3
  have HE := Lib.hid hE
  have HT5 := Lib.hid t5
  have HB5 := Lib.hid b5
  have FO := Lib.hid fo
  have HCL := Lib.hid hcl
  have HSZ := Lib.hid hsz
  have HBE := Lib.hid hBE
  have HNE := Lib.hid hne
  clear hW4 t4 b4 HT3 HB3 c1 hE t5 b5 fo hcl hsz hBE hne
  go_wp2_with (at_builtin; rw [← HE.out]; refine wpList_push_lies rfl _ _ rfl B ov (natsI S.opn) (c : Int) rfl FO.out ⟨W4.heap.size, 0, none⟩ 1 rfl HCL.out hl' HBE.out _ rfl ?_)
  intro g cap W6 f6 g6 h6
  have hlen : (natsI S.opn).length = S.opn.length := by simp [natsI]
  rw [hlen] at f6 ⊢
  have hXE : X < E.heap.size := by have := (Array.getElem?_eq_some_iff.1 HT5.out).1; exact this
  have t6 : TsAt W6 X gv grv ov { S with met := S.met + 1, N := upd S.N c (S.met + 1), bk := upd S.bk c (S.met + 1) } := by
    unfold TsAt
    rw [g6.block X (by rw [HSZ.out]; omega) (fun e => HNE.out e.symm), heap_alloc_old _ _ hXE]
    exact HT5.out
  have b6 := (HB5.out.alloc (.cells #[.int .i64 (c : Int)] 3)).grown g6
  have t7 := t6.setOpens (.slice (some ⟨g, 0, none⟩) (S.opn.length + 1) cap) (S.opn ++ [c])
  have hg : ov.ownBlock = some g ∨ w.heap.size ≤ g := by
    rcases h6 with h6 | h6
    · exact .inl h6
    · right; have := HB5.out.size; rw [hEs] at this; omega
  have e6 : natsI S.opn ++ [(c : Int)] = natsI (S.opn ++ [c]) := by simp [natsI]
  rw [e6] at f6
  have c6 := t6.opens
  have z6 := t6.free 2
  have c7 := t7.isOpen hc
  have z7 := t7.free (3 + c)
  have T8 := Lib.hid (t7.setOpen hc true)
  have F8 := Lib.hid ((f6.setOut hXB 2 (.slice (some ⟨g, 0, none⟩) (S.opn.length + 1) cap)).setOut hXB (3 + c) (.bool true))
  have B8 := Lib.hid ((b6.setX 2 (.slice (some ⟨g, 0, none⟩) (S.opn.length + 1) cap)).setX (3 + c) (.bool true))
  have HG := Lib.hid hg
  clear hXE t6 b6 t7 hg f6 g6 h6 c2 f2 c3 HT5 HB5 FO HCL HSZ HBE HNE e6
  go_wp2
  go_end0
  exact ⟨⟨_, rfl⟩, g, cap, T8.out, F8.out, B8.out, HG.out⟩
end Go.Proofs.YtcpmfcigciknlaaGreat

namespace Go.Proofs.YtcpmfcigciknlaaGreat
open Go.RowKit
set_option linter.unusedVariables false
set_option maxHeartbeats 800000 in
theorem index_found (v : Value) (A B : List Int) (x : Int) (w : World) (hv : Ints w v (A ++ x :: B)) (hx : x ∉ A) :
    Calls Tryz.prog 213 #[v, .int .i64 x] w (IntExt (A.length : Int) w) := by
  obtain ⟨av, cv, rfl, hlv, _, hcv⟩ := hv
  unfold maxLen at hlv
  have hlen : (A ++ x :: B).length = A.length + 1 + B.length := by simp; omega
  rw [hlen] at hcv hlv ⊢
  have HX := Lib.hid hx
  clear hx
  go_enter Tryz.func213, Tryz.ntmps213
  go_wp2
  go_loopw [5, 8] (fun _ i wr => ∃ k : Nat, k ≤ A.length ∧ i = .int .i64 k ∧ Ext w wr) (fun _ i _ => A.length - (intOf i).toNat)
  case atStart => exact ⟨0, Nat.zero_le _, rfl, Ext.refl _⟩
  case round =>
    obtain ⟨k, hk, rfl, hx⟩ := hrel
    obtain ⟨bv, ov, rfl, dv⟩ := hcv (by omega)
    have gv := hx.cell (dv k (by omega))
    clear hcv dv
    by_cases hlt : k < A.length
    · rw [List.getElem?_append_left hlt, List.getElem?_eq_getElem hlt, Option.getD_some] at gv
      have hne : x ≠ A[k] := fun e => HX.out (by rw [e]; exact List.getElem_mem hlt)
      obtain ⟨n, hn⟩ : ∃ n, n = A[k] := ⟨_, rfl⟩
      rw [← hn] at gv hne
      have e1 : (x == n) = false := by simp [hne]
      clear hn hne
      go_wp2
      go_roundw
      case rel => exact ⟨k + 1, by omega, by go_num, hx⟩
      case measure => simp [intOf]; omega
    · obtain rfl : k = A.length := by omega
      have hat : (A ++ x :: B)[A.length]?.getD 0 = x := by simp
      rw [hat] at gv
      go_wp2
      go_ret
      exact ⟨rfl, hx⟩
set_option maxHeartbeats 800000 in
theorem cloneI_any (b off n cap : Nat) (l : List Int) (w : World) (hv : Ints w (.slice (some ⟨b, off, none⟩) n cap) l) (hl : l.length ≤ 1048576) :
    Calls Tryz.prog 160 #[.slice (some ⟨b, off, none⟩) n cap] w (NewInts l w) := by
  have hb1 : ([] : List Int).length + l.length ≤ 1099511627776 := by simp; omega
  have HB := Lib.hid hb1
  have HU := Lib.hid hv
  clear hb1 hv hl
  have hq := fun W => Lib.run_eql_slice_nil (P := Tryz.prog) (w := W)
  go_enter Tryz.func160, Tryz.ntmps160
  go_wp2_with (at_builtin; refine wpList_join rfl _ _ rfl w.heap.size _ _ [] l rfl (fresh_lit w [] #[] _ rfl (Nat.le_refl _) (Nat.zero_le _)) rfl (HU.out.ext (Ext.alloc (Ext.refl _) _)) HB.out (size_alloc_le (Nat.le_refl _)) ?_)
  intro v1 w1 f1 g1 k1
  have e1' : Ext w w1 := k1 w (Ext.alloc (Ext.refl _) _) (Nat.le_refl _)
  clear g1 k1
  go_wp2
  go_ret
  exact ⟨_, rfl, by simpa using f1, e1'⟩
end Go.Proofs.YtcpmfcigciknlaaGreat

namespace Go.Proofs.YtcpmfcigciknlaaGreat
open Go.RowKit
set_option linter.unusedVariables false
structure Up (l : List Int) (k : Nat) (r e : Int) : Prop where
  rises : Rises (l.take k)
  low : ∀ x ∈ l.take k, 0 ≤ x ∧ x < r
  last : r = 0 ∨ r - 1 ∈ l.take k
  zero : 0 ≤ r
  below : r ≤ e
theorem up_start (l : List Int) (e : Int) (h : 0 ≤ e) : Up l 0 0 e := ⟨by simp [Rises], by simp, .inl rfl, Int.le_refl _, h⟩
theorem up_next {l : List Int} {k : Nat} {r e : Int} (h : Up l k r e) (hk : k < l.length) (h1 : r ≤ l[k]) (h2 : l[k] < e) : Up l (k + 1) (l[k] + 1) e := by
  have ht : l.take (k + 1) = l.take k ++ [l[k]] := by rw [List.take_add_one, List.getElem?_eq_getElem hk]; rfl
  refine ⟨?_, fun x hx => ?_, .inr ?_, by have := h.zero; omega, by omega⟩
  · rw [ht]
    unfold Rises
    rw [List.pairwise_append]
    refine ⟨h.rises, by simp, fun a ha b hb => ?_⟩
    obtain rfl : b = l[k] := by simpa using hb
    have := (h.low a ha).2
    omega
  · rw [ht] at hx
    rcases List.mem_append.1 hx with hx | hx
    · have := h.low x hx; omega
    · obtain rfl : x = l[k] := by simpa using hx
      have := h.zero; omega
  · rw [show l[k] + 1 - 1 = l[k] by omega, ht]; exact List.mem_append_right _ (List.mem_singleton.2 rfl)
theorem up_low {l : List Int} {k : Nat} {r e : Int} (h : Up l k r e) (hk : k < l.length) (h1 : l[k] < r) : riseB l 0 (e - 1) = false := by
  cases hb : riseB l 0 (e - 1) with
  | false => rfl
  | true =>
    obtain ⟨h2, h3⟩ := riseB_of hb
    rcases h.last with h0 | h0
    · have := (h3 _ (List.getElem_mem hk)).1; omega
    · obtain ⟨i, hi, he⟩ := List.getElem_of_mem h0
      rw [List.length_take] at hi
      rw [List.getElem_take] at he
      have := List.pairwise_iff_getElem.1 h2 i k (by omega) hk (by omega)
      omega
theorem up_high {l : List Int} {k : Nat} {e : Int} (hk : k < l.length) (h1 : e ≤ l[k]) : riseB l 0 (e - 1) = false := by
  cases hb : riseB l 0 (e - 1) with
  | false => rfl
  | true => have := ((riseB_of hb).2 _ (List.getElem_mem hk)).2; omega
theorem up_end {l : List Int} {r e : Int} (h : Up l l.length r e) : riseB l 0 (e - 1) = true := by
  have h1 := h.rises
  have h2 := h.low
  rw [List.take_length] at h1 h2
  have h3 := h.below
  exact riseB_yes h1 (fun x hx => by have := h2 x hx; omega)
set_option maxHeartbeats 800000 in
theorem isRisingBelow_any (v : Value) (l : List Int) (e : Nat) (w : World) (hv : Ints w v l) (he : e ≤ 9223372036854775807) :
    Calls Tryz.prog 147 #[v, .int .i64 e] w (BoolExt (riseB l 0 ((e : Int) - 1)) w) := by
  obtain ⟨av, cv, rfl, hlv, _, hcv⟩ := hv
  unfold maxLen at hlv
  go_enter Tryz.func147, Tryz.ntmps147
  go_wp2
  go_loopw [5, 7, 10] (fun m _ i wr => ∃ (k : Nat) (r : Int), k ≤ l.length ∧ i = .int .i64 k ∧ m = .int .i64 r ∧ Hid (Up l k r e) ∧ Ext w wr) (fun _ _ i _ => l.length - (intOf i).toNat)
  case atStart => exact ⟨0, 0, Nat.zero_le _, rfl, rfl, Lib.hid (up_start l e (by omega)), Ext.refl _⟩
  case round =>
    obtain ⟨k, r, hk, rfl, rfl, hu, hx⟩ := hrel
    by_cases hlt : k < l.length
    · obtain ⟨bv, ov, rfl, dv⟩ := hcv (by omega)
      have gv := hx.cell (dv k hlt)
      rw [List.getElem?_eq_getElem hlt, Option.getD_some] at gv
      obtain ⟨n, hn⟩ : ∃ n, n = l[k] := ⟨_, rfl⟩
      rw [← hn] at gv
      have HN := Lib.hid hn
      clear hcv dv hn
      by_cases h1 : n < r
      · have HP := Lib.hid (up_low hu.out hlt (by rw [← HN.out]; exact h1))
        go_wp2
        go_ret
        exact ⟨by rw [HP.out]; rfl, hx⟩
      · have h1' : r ≤ n := by omega
        by_cases h2 : n < (e : Int)
        · have HP := Lib.hid (up_next hu.out hlt (by rw [← HN.out]; exact h1') (by rw [← HN.out]; exact h2))
          have h0 := hu.out.zero
          go_wp2
          go_roundw
          case rel => exact ⟨k + 1, n + 1, by omega, by go_num, by go_num, by rw [HN.out]; exact HP, hx⟩
          case measure => simp [intOf]; omega
        · have h2' : (e : Int) ≤ n := by omega
          have HP := Lib.hid (up_high (e := (e : Int)) hlt (by rw [← HN.out]; exact h2'))
          clear h1 h2
          go_wp2
          go_ret
          exact ⟨by rw [HP.out]; rfl, hx⟩
    · obtain rfl : k = l.length := by omega
      have HP := Lib.hid (up_end hu.out)
      go_wp2
      go_ret
      exact ⟨by rw [HP.out]; rfl, hx⟩
set_option maxHeartbeats 800000 in
theorem implGoodGraph_any (v : Value) (g : List (List Int)) (w : World) (hv : Intss w v g) :
    Calls Tryz.prog 104 #[v] w (BoolExt (goodG g) w) := by
  obtain ⟨av, cv, rfl, hlv, _, hcv⟩ := hv
  unfold maxLen at hlv
  by_cases h4 : g.length ≤ 40
  · have h4' : ¬ ((40 : Int) < (g.length : Int)) := by omega
    go_enter Tryz.func104, Tryz.ntmps104
    go_wp2
    go_loopw [4, 10] (fun _ i wr => ∃ k : Nat, k ≤ g.length ∧ i = .int .i64 k ∧ (g.take k).all (fun l => riseB l 0 ((g.length : Int) - 1)) = true ∧ Ext w wr) (fun _ i _ => g.length - (intOf i).toNat)
    case atStart => exact ⟨0, Nat.zero_le _, rfl, by simp, Ext.refl _⟩
    case round =>
      obtain ⟨k, hk, rfl, ht, hx⟩ := hrel
      have HT := Lib.hid ht
      clear ht
      by_cases hlt : k < g.length
      · obtain ⟨bu, ou, rfl, du⟩ := hcv (by omega)
        obtain ⟨x, hx1, ix⟩ := du k hlt
        rw [List.getElem?_eq_getElem hlt, Option.getD_some] at ix
        have gu := hx.cell hx1
        have IX := Lib.hid (ix.ext hx)
        have HX := Lib.hid hx
        clear hcv du hx1 ix hx
        go_wp2_with fail
        refine (isRisingBelow_any _ _ g.length _ IX.out (by omega)).mono ?_
        rintro e w1 ⟨rfl, x1⟩
        have hx2 := HX.out.trans x1
        clear x1 gu
        cases hp : riseB g[k] 0 ((g.length : Int) - 1) with
        | true =>
          have HP := Lib.hid hp
          go_wp2
          go_roundw
          case rel => exact ⟨k + 1, by omega, by go_num, allT_succ hlt _ HT.out HP.out, hx2⟩
          case measure => simp [intOf]; omega
        | false =>
          have HG := Lib.hid (goodG_not hlt hp)
          go_wp2
          go_ret
          exact ⟨by rw [HG.out]; rfl, hx2⟩
      · obtain rfl : k = g.length := by omega
        have HG := Lib.hid (goodG_all HT.out)
        have e4 : decide (g.length ≤ 40) = true := decide_eq_true h4
        rw [e4] at HG
        go_wp2
        go_ret
        exact ⟨by rw [HG.out]; rfl, hx⟩
  · have HG : Hid (goodG g = false) := Lib.hid (by unfold goodG; rw [decide_eq_false h4, Bool.and_false])
    have h4' : (40 : Int) < (g.length : Int) := by omega
    clear h4
    go_enter Tryz.func104, Tryz.ntmps104
    go_wp2
    go_ret
    exact ⟨by rw [HG.out]; rfl, Ext.refl _⟩
end Go.Proofs.YtcpmfcigciknlaaGreat
