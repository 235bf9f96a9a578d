/- What of a list of entries touches an account; whether one list begins another. -/
import Derived.Test.YtcpmfcigciknlaaEnP
import Derived.Test.YtcpmfcigciknlaaTouchOf
namespace Go.Proofs.Ytcpmfcigciknlaa
open Go.RowKit
set_option linter.unusedVariables false

def goodEn (d : EnD) : Bool := goodB d.k d.i d.f d.t d.a
def touchE (x : Int) (d : EnD) : Bool := hasI (touchesL d.k d.f d.t) x
def acctOk (L : List EnD) (x : Int) : Bool := (decide (L.length ≤ 60) && acctB x) && L.all goodEn
def acctL (L : List EnD) (x : Int) : List EnD := if acctOk L x then L.filter (touchE x) else []
theorem acctL_len (L : List EnD) (x : Int) : (acctL L x).length ≤ L.length := by
  unfold acctL
  split
  · exact List.length_filter_le _ _
  · simp
theorem acctL_no {L : List EnD} {x : Int} (h : acctOk L x = false) : acctL L x = [] := by unfold acctL; rw [h]; rfl
theorem acctL_yes {L : List EnD} {x : Int} (h : acctOk L x = true) : acctL L x = L.filter (touchE x) := by unfold acctL; rw [h]; rfl
theorem acctOk_bad {L : List EnD} {x : Int} {j : Nat} (hj : j < L.length) (h : goodEn L[j] = false) : acctOk L x = false := by
  have : L.all goodEn = false := by
    rw [List.all_eq_false]
    exact ⟨L[j], List.getElem_mem hj, by rw [h]; simp⟩
  unfold acctOk
  rw [this, Bool.and_false]
theorem acctOk_all {L : List EnD} {x : Int} (h6 : L.length ≤ 60) (hx : acctB x = true) (h : ∀ j (hj : j < L.length), goodEn L[j] = true) : acctOk L x = true := by
  have : L.all goodEn = true := by
    rw [List.all_eq_true]
    intro y hy
    obtain ⟨j, hj, rfl⟩ := List.mem_iff_getElem.1 hy
    exact h j hj
  unfold acctOk
  rw [this, hx]
  simp [h6]
theorem acctOk_long {L : List EnD} {x : Int} (h : ¬ L.length ≤ 60) : acctOk L x = false := by unfold acctOk; simp [h]
theorem acctOk_acct {L : List EnD} {x : Int} (h : acctB x = false) : acctOk L x = false := by unfold acctOk; simp [h]
/-- What of the first k is taken. -/
def takenE (L : List EnD) (x : Int) (k : Nat) : List EnD := (L.take k).filter (touchE x)
theorem takenE_len (L : List EnD) (x : Int) (k : Nat) : (takenE L x k).length ≤ k := by
  unfold takenE
  have h1 := List.length_filter_le (touchE x) (L.take k)
  rw [List.length_take] at h1
  omega
theorem takenE_yes {L : List EnD} {x : Int} {k : Nat} (hk : k < L.length) (h : touchE x L[k] = true) : takenE L x (k + 1) = takenE L x k ++ [L[k]] := by
  unfold takenE
  rw [List.take_succ_eq_append_getElem hk, List.filter_append]
  simp [h]
theorem takenE_no {L : List EnD} {x : Int} {k : Nat} (hk : k < L.length) (h : touchE x L[k] = false) : takenE L x (k + 1) = takenE L x k := by
  unfold takenE
  rw [List.take_succ_eq_append_getElem hk, List.filter_append]
  simp [h]
theorem takenE_all (L : List EnD) (x : Int) : takenE L x L.length = L.filter (touchE x) := by unfold takenE; rw [List.take_length]
/-- Entries in new memory and a Bool come back. -/
def AcctI (D : List EnD) (b : Bool) (w : World) (e : Ending) (w' : World) : Prop :=
  ∃ v, e = .returned (.tuple #[v, .bool b]) ∧ AnsEn w.heap.size w'.heap.size w' v D ∧ Ext w w'

def eqE (x d : EnD) : Bool := x.r == d.r && (x.n == d.n && (x.k == d.k && (x.i == d.i && (x.f == d.f && (x.t == d.t && (x.a == d.a && (x.c == d.c && x.s == d.s)))))))
theorem eqE_iff {x d : EnD} : eqE x d = true ↔ x = d := by
  obtain ⟨a, b, c, e, f, g, h, i, j⟩ := x
  obtain ⟨a', b', c', e', f', g', h', i', j'⟩ := d
  simp [eqE]
/-- Whether A begins B. -/
def prefE : List EnD → List EnD → Bool
  | [], _ => true
  | _ :: _, [] => false
  | x :: a, y :: b => eqE x y && prefE a b
theorem prefE_yes : ∀ {A B : List EnD}, A.length ≤ B.length → (∀ j (h : j < A.length) (h' : j < B.length), eqE A[j] B[j] = true) → prefE A B = true
  | [], _, _, _ => rfl
  | _ :: _, [], h, _ => by simp at h
  | x :: a, y :: b, hl, h => by
    unfold prefE
    rw [show eqE x y = true from h 0 (by simp) (by simp), Bool.true_and]
    exact prefE_yes (by simpa using hl) (fun j h1 h2 => h (j + 1) (by simpa using h1) (by simpa using h2))
theorem prefE_no : ∀ {A B : List EnD} {j : Nat} (h : j < A.length) (h' : j < B.length), eqE A[j] B[j] = false → prefE A B = false
  | x :: a, y :: b, 0, _, _, h => by
    unfold prefE
    rw [show eqE x y = false from h, Bool.false_and]
  | x :: a, y :: b, j + 1, h1, h2, h => by
    unfold prefE
    rw [prefE_no (j := j) (by simpa using h1) (by simpa using h2) h, Bool.and_false]
theorem prefE_short : ∀ {A B : List EnD}, B.length < A.length → prefE A B = false
  | [], _, h => by simp at h
  | _ :: _, [], _ => rfl
  | x :: a, y :: b, h => by
    unfold prefE
    rw [prefE_short (by simpa using h), Bool.and_false]
def prefOk (A B : List EnD) : Bool := decide (A.length ≤ 60) && decide (B.length ≤ 60)
theorem prefOk_yes {A B : List EnD} (h1 : A.length ≤ 60) (h2 : B.length ≤ 60) : prefOk A B = true := by simp [prefOk, h1, h2]
theorem prefOk_a {A B : List EnD} (h1 : ¬ A.length ≤ 60) : prefOk A B = false := by simp [prefOk, h1]
theorem prefOk_b {A B : List EnD} (h1 : ¬ B.length ≤ 60) : prefOk A B = false := by simp [prefOk, h1]
/-- Whether two lists are one, of the same length. -/
theorem enz_take {w : World} {ao : Option Addr} {cap k : Nat} {L : List EnD} (h : Enz w (.slice ao L.length cap) L) (hk : k ≤ L.length) : Enz w (.slice ao k cap) (L.take k) := by
  obtain ⟨ao', cap', hv, hm, ⟨h1, h2, h3⟩, hc⟩ := h
  simp only [Value.slice.injEq, true_and] at hv
  obtain ⟨rfl, rfl⟩ := hv
  have e : (L.take k).length = k := by rw [List.length_take]; omega
  refine ⟨ao, cap, by rw [e], by omega, ⟨by omega, h2, h3⟩, fun hp => ?_⟩
  obtain ⟨b, off, ha, hd⟩ := hc (by omega)
  refine ⟨b, off, ha, fun j hj => ?_⟩
  have e2 : (L.take k)[j] = L[j]'(by omega) := by simp
  rw [e2]
  exact hd j (by omega)
end Go.Proofs.Ytcpmfcigciknlaa
