/- A set of integers kept as a map to Bools that the call made: made with a size, stored into, asked by index. -/
import Derived.Test.YtnmnbeklofnonaaWords
import Derived.Maps.Own
import Derived.Maps.OwnOps
import Derived.Maps.Views
namespace Go.Proofs.Ytnmnbeklofnonaa
open Go.RowKit Go.Maps
set_option linter.unusedVariables false

theorem plainElem_bool_inv {H : Type} {P : Program} {e : TypeId} (he : P.underlying e = some .bool) {v : Value} {z : DataW H × List MemPlace} (h : plainElem P e v = some z) : ∃ x, v = .bool x ∧ z = (.lit (.bool x), []) := by
  unfold plainElem at h
  rw [he] at h
  cases v <;> simp at h
  subst h
  exact ⟨_, rfl, rfl⟩
theorem lookup_bool {H : Type} {P : Program} {w : World} {k t e : TypeId} {b n : Nat} {D : DataW H} (h : w.ownsMap P k (plainElem P e) b n D) (K : Keyed P k) (ht : P.underlying t = some (.map k e)) (he : P.underlying e = some .bool) (hz : (zeroValue e).run P w = .ok (.bool false) w)
    {key : Value} {kl : Lit} (hkey : keyOf P k key = some kl) : ∃ c, (Instr.lookup t (.map (some b)) key false).run P w = .ok (.bool c) w ∧ D.atKey kl (.lit (.bool false)) = .lit (.bool c) := by
  obtain ⟨v, ps, hrun, hv⟩ := h.lookup K ht hz (plainElem_bool he false) hkey
  obtain ⟨c, rfl, hc⟩ := plainElem_bool_inv he hv
  simp only [Prod.mk.injEq] at hc
  exact ⟨c, hrun, hc.1⟩

/-- The set of the first numbers, as a datum. -/
def setI (l : List Int) : DataW Unit := l.foldl (fun m x => m.put (.int .i64 x) (.lit (.bool true))) (.map [])
theorem setI_snoc (l : List Int) (x : Int) : setI (l ++ [x]) = (setI l).put (.int .i64 x) (.lit (.bool true)) := by simp [setI]
theorem setI_map (l : List Int) : IsMap (setI l) := by
  unfold setI
  suffices h : ∀ (l : List Int) (m : DataW Unit), IsMap m → IsMap (l.foldl (fun m x => m.put (.int .i64 x) (.lit (.bool true))) m) from h l _ isMap_empty
  intro l
  induction l with
  | nil => intro m h; exact h
  | cons x l ih => intro m h; exact ih _ (h.put _ _)
theorem fold_at (x : Int) : ∀ (l : List Int) (m : DataW Unit), IsMap m → (l.foldl (fun m x => m.put (.int .i64 x) (.lit (.bool true))) m).atKey (.int .i64 x) (.lit (.bool false)) = if hasI l x then .lit (.bool true) else m.atKey (.int .i64 x) (.lit (.bool false)) := by
  intro l
  induction l with
  | nil => intro m _; simp [hasI]
  | cons y l ih =>
    intro m hm
    rw [List.foldl_cons, ih _ (hm.put _ _)]
    by_cases h : y = x
    · subst h
      rw [atKey_put_same hm (by trivial)]
      have e : hasI (y :: l) y = true := by simp [hasI]
      rw [e]
      split <;> rfl
    · rw [atKey_put_other (by simp; exact fun e => h e.symm)]
      have e : hasI (y :: l) x = hasI l x := by simp [hasI, h]
      rw [e]
theorem setI_at (l : List Int) (x : Int) : (setI l).atKey (.int .i64 x) (.lit (.bool false)) = .lit (.bool (hasI l x)) := by
  unfold setI
  rw [fold_at x l _ isMap_empty]
  cases hasI l x <;> rfl

/-- The block b is a map that holds the set of l. -/
def SetAt (b n : Nat) (w : World) (l : List Int) : Prop := w.ownsMap Try.prog 3 (plainElem Try.prog 4) b n (setI l)
theorem Try.keyedInt : Keyed Try.prog 3 := int_keyed Try.underlying3
theorem Try.zeroBool (w : World) : (zeroValue 4).run Try.prog w = .ok (.bool false) w := by kernel_rfl
theorem SetAt.ask {b n : Nat} {w : World} {l : List Int} (h : SetAt b n w l) (x : Int) (hx : wf64 x) : (Instr.lookup 98 (.map (some b)) (.int .i64 x) false).run Try.prog w = .ok (.bool (hasI l x)) w := by
  obtain ⟨c, hrun, hat⟩ := lookup_bool h Try.keyedInt Try.underlying98 Try.underlying4 (Try.zeroBool w) (keyOf_int_mk Try.underlying3 hx)
  rw [setI_at] at hat
  cases hat
  exact hrun
theorem SetAt.ext {b n : Nat} {w w' : World} {l : List Int} (h : SetAt b n w l) (e : Ext w w') : SetAt b n w' l := by
  obtain ⟨es, clock, hb, rest⟩ := h
  exact ⟨es, clock, e.block hb, rest⟩
theorem SetAt.made (w : World) : SetAt w.heap.size 0 (w.alloc (.map #[] 0)) [] := World.ownsMap_made _ _ _ _
theorem run_makeMap_sized (n : Nat) (w : World) : (Instr.makeMap 98 (some (.int .i64 (n : Int)))).run Try.prog w = .ok (.map (some w.heap.size)) (w.alloc (.map #[] 0)) := by
  unfold Instr.makeMap
  simp [asInt, asIntOf]

end Go.Proofs.Ytnmnbeklofnonaa
