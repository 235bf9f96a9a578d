/- Entries, appended to a slice of the call's own; what comes back of them. -/
import Derived.Test.YtcpmfcigciknlaaLEnW
import Derived.Test.YtcpmfcigciknlaaPush
import Derived.OwnWalk
namespace Go.Proofs.Ytcpmfcigciknlaa
open Go.RowKit
set_option linter.unusedVariables false

def flatEn (L : List EnD) : List Value := L.flatMap enVs
theorem flatEn_len (L : List EnD) : (flatEn L).length = L.length * 9 := by
  unfold flatEn
  induction L with
  | nil => rfl
  | cons x t ih => rw [List.flatMap_cons, List.length_append, ih, enVs_len, List.length_cons]; omega
theorem flatEn_at {L : List EnD} {j q : Nat} {v : Value} (h : j < L.length) (hq : (enVs L[j])[q]? = some v) : (flatEn L)[j * 9 + q]? = some v := by
  induction L generalizing j with
  | nil => simp at h
  | cons x t ih =>
    unfold flatEn
    rw [List.flatMap_cons]
    have hq9 : q < 9 := en_lt hq
    cases j with
    | zero =>
      rw [Nat.zero_mul, Nat.zero_add, List.getElem?_append_left (by rw [enVs_len]; exact hq9)]
      exact hq
    | succ j =>
      have h' : j < t.length := by simpa using h
      have i1 := ih h' hq
      unfold flatEn at i1
      rw [List.getElem?_append_right (by rw [enVs_len]; omega), enVs_len, show (j + 1) * 9 + q - 9 = j * 9 + q by omega]
      exact i1

/-- v is a slice of entries of a block that was made from block number B on. -/
def FreshEn (B : Nat) (w : World) (v : Value) (L : List EnD) : Prop := w.ownsRow B 40 9 v L.length (flatEn L)
theorem FreshEn.nil (B : Nat) (w : World) : FreshEn B w (.slice none 0 0) [] := ⟨rfl, .inl ⟨rfl, rfl⟩⟩
theorem FreshEn.ext {B : Nat} {w w' : World} {v : Value} {L : List EnD} (h : FreshEn B w v L) (e : Ext w w') : FreshEn B w' v L := e.ownsRow h
theorem FreshEn.at {B : Nat} {w : World} {v : Value} {L : List EnD} (h : FreshEn B w v L) : Enz w v L := by
  rcases h.2 with ⟨rfl, hn⟩ | ⟨g, cap, cur, rfl, hb, hg, hnc, hcm, hcs, htake⟩
  · obtain rfl : L = [] := List.eq_nil_of_length_eq_zero hn
    exact Enz.nil w
  · refine ⟨some ⟨g, 0, none⟩, cap, rfl, by omega, ⟨by omega, by omega, fun h => by cases h⟩, fun _ => ⟨g, 0, rfl, fun j hj => ?_⟩⟩
    rw [Nat.zero_add]
    intro q x hq
    have h9 := en_lt hq
    rw [World.ownsRow.cellAt h (j * 9 + q) (by omega)]
    exact flatEn_at hj hq

theorem Try.infoEntry : (Try.prog.info? 40).map (fun i => (i.zero, i.size, i.bytes)) = some (some (.agg #[.int .i64 0, .int .i64 0, .int .i64 0, .int .i64 0, .int .i64 0, .int .i64 0, .int .i64 0, .int .i64 0, .int .i64 0]), 9, 72) := by kernel_rfl

/-- append(s, x), s of the call's own. -/
theorem wpList_pushEn {ops : Array Oper} {rest : List Oper} {o : Oper} {a : Act} {Q : Exit → Act → World → Prop} {w : World} (hgd : o.guard = none) (s x : Operand)
    (ho : o.op = .call { callee := .builtin .append, args := #[s, x], argTypes := #[24, 24] })
    (B : Nat) (v : Value) (L : List EnD) (y : EnD) (hs : a.eval s = v) (hf : FreshEn B w v L) (g : Nat) (c : Nat) (hx : a.eval x = .slice (some ⟨g, 0, none⟩) 1 c)
    (hc : BoxV w g (enVs y)) (hl : L.length ≤ 1048576) (hB : B ≤ w.heap.size)
    (h : ∀ v' w', FreshEn B w' v' (L ++ [y]) → w.grownBy w' v.ownBlock → Kept B w w' → wpList Try.prog ops Q rest (a.put o.dst v') w') : wpList Try.prog ops Q (o :: rest) a w := by
  obtain ⟨i0, hi, hz0, hz1, hz2⟩ := info_parts Try.infoEntry
  refine wpList_append_own _ hgd s x 24 ho B 40 i0 (.agg #[.int .i64 0, .int .i64 0, .int .i64 0, .int .i64 0, .int .i64 0, .int .i64 0, .int .i64 0, .int .i64 0, .int .i64 0]) 9 72 Try.underlying24 hi hz0 hz1 hz2 rfl (by decide) v L.length _ hs hf ⟨g, 0, none⟩ 1 c (enVs y) hx rfl ?_ ?_ ?_ ?_ hB ?_
  · intro j u hj
    have := hc.cell j u hj
    by_cases h0 : j = 0
    · subst h0; simpa [Addr.add] using this
    · simpa [Addr.add, h0] using this
  · intro u hu
    simp [enVs] at hu
    rcases hu with rfl | rfl | rfl | rfl | rfl | rfl | rfl | rfl | rfl <;> rfl
  · unfold maxLen; omega
  · omega
  · intro v' w' ho' hg _
    refine h v' w' ?_ hg (fun w0 hx0 hB0 => Below.grown hx0 hg hx0.size (fun q hq => Nat.le_trans hB0 (World.ownsRow.lt hf q hq).1))
    unfold FreshEn
    have e : flatEn (L ++ [y]) = flatEn L ++ enVs y := by simp [flatEn]
    rw [e, List.length_append]
    exact ho'

/-- v is a slice of entries at the head of a block from lo on, below hi, that may be written; or nothing. -/
def EnW (lo hi : Nat) (w : World) (v : Value) (L : List EnD) : Prop :=
  ∃ g xs cap, lo ≤ g ∧ g < hi ∧ v = .slice (some ⟨g, 0, none⟩) L.length cap ∧ L.length ≤ cap ∧ cap ≤ maxLen ∧ BoxV w g xs ∧ L.length * 9 ≤ xs.length ∧ EnsTo xs L L.length
def AnsEn (lo hi : Nat) (w : World) (v : Value) (L : List EnD) : Prop := (L = [] ∧ v = .slice none 0 0) ∨ EnW lo hi w v L
theorem EnW.reads {lo hi : Nat} {w : World} {v : Value} {L : List EnD} (h : EnW lo hi w v L) : Enz w v L := by
  obtain ⟨g, xs, cap, _, _, rfl, hc, hm, hb, _, hT⟩ := h
  refine ⟨some ⟨g, 0, none⟩, _, rfl, Nat.le_trans hc hm, ⟨hc, hm, fun h => by cases h⟩, fun _ => ⟨g, 0, rfl, fun j hj => ?_⟩⟩
  rw [Nat.zero_add]; exact XEn.isIn hb (hT j hj hj)
theorem EnW.kept {lo hi : Nat} {w w' : World} {v : Value} {L : List EnD} (h : EnW lo hi w v L) (s : Stood lo hi w w') : EnW lo hi w' v L := by
  obtain ⟨g, xs, cap, hg, hh, hv, hc, hm, hb, hl, hT⟩ := h
  exact ⟨g, xs, cap, hg, hh, hv, hc, hm, hb.kept s hg hh, hl, hT⟩
theorem EnW.lt {g : Nat} {u : Value} {w : World} {L : List EnD} (h : EnW g (g + 1) w u L) : g < w.heap.size := by
  obtain ⟨g', xs, _, h1, h2, _, _, _, hb, _⟩ := h
  have := hb.lt
  omega
theorem EnzM.win {lo hi : Nat} {w : World} {v : Value} {L : List EnD} (h : EnzM lo hi w v L) : EnW lo hi w v L := by
  obtain ⟨g, xs, hg, hh, hv, hm, hb, hl, hT⟩ := h
  exact ⟨g, xs, _, hg, hh, hv, Nat.le_refl _, hm, hb, Nat.le_of_eq hl.symm, hT⟩
theorem FreshEn.ans {B : Nat} {w : World} {v : Value} {L : List EnD} (h : FreshEn B w v L) : AnsEn B w.heap.size w v L := by
  rcases h.2 with ⟨rfl, hn⟩ | ⟨g, cap, cur, rfl, hb, hg, hnc, hcm, hcs, htake⟩
  · obtain rfl : L = [] := List.eq_nil_of_length_eq_zero hn
    exact .inl ⟨rfl, rfl⟩
  · have hlt := (World.ownsRow.lt h g rfl).2
    refine .inr ⟨g, flatEn L, cap, hb, hlt, rfl, hnc, by omega, ⟨fun j v hj => ?_, fun j hj => h.frozenAt j, hlt⟩, Nat.le_of_eq (flatEn_len L).symm, fun j hj _ q v hq => flatEn_at hj hq⟩
    rw [World.ownsRow.cellAt h j (by have := (List.getElem?_eq_some_iff.1 hj).1; rw [flatEn_len] at this; omega)]
    exact hj
theorem AnsEn.reads {lo hi : Nat} {w : World} {v : Value} {L : List EnD} (h : AnsEn lo hi w v L) : Enz w v L := by
  rcases h with ⟨rfl, rfl⟩ | h
  · exact Enz.nil w
  · exact h.reads
theorem AnsEn.kept {lo hi : Nat} {w w' : World} {v : Value} {L : List EnD} (h : AnsEn lo hi w v L) (s : Stood lo hi w w') : AnsEn lo hi w' v L := by
  rcases h with h | h
  · exact .inl h
  · exact .inr (h.kept s)
end Go.Proofs.Ytcpmfcigciknlaa
