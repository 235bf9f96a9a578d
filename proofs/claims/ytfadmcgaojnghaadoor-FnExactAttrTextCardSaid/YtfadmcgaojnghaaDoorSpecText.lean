/- Contract of the model's AttrText. -/
import Derived.Test.YtfadmcgaojnghaaDoorDec
import Derived.Test.YtfadmcgaojnghaaDoorGoodAttr
import Derived.Lib.Join
namespace Go.Proofs.YtfadmcgaojnghaaDoor
open Go.RowKit
set_option linter.unusedVariables false

/-- Numbers with commas between. -/
def listT (l : List Int) : List UInt8 := Lib.join (l.map decI) [44]
theorem inter_snoc (s x y : List UInt8) : ∀ xs : List (List UInt8), s.intercalate (y :: xs ++ [x]) = s.intercalate (y :: xs) ++ s ++ x
  | [] => by simp [List.intercalate, List.intersperse]
  | z :: xs => by
    have ih := inter_snoc s x z xs
    simp only [List.intercalate, List.cons_append, List.intersperse, List.flatten_cons] at ih ⊢
    rw [ih]
    simp
theorem listT_nil : listT [] = [] := rfl
theorem listT_one (n : Int) : listT [n] = decI n := by simp [listT, Lib.join, List.intercalate]
theorem listT_snoc (l : List Int) (n : Int) (h : l ≠ []) : listT (l ++ [n]) = listT l ++ [44] ++ decI n := by
  match l, h with
  | a :: l, _ =>
    unfold listT Lib.join
    rw [List.map_append]
    exact inter_snoc [44] (decI n) (decI a) (l.map decI)
theorem listT_succ (l : List Int) (k : Nat) (h : k < l.length) (hk : 0 < k) : listT (l.take (k + 1)) = listT (l.take k) ++ [44] ++ decI l[k] := by
  rw [List.take_add_one, List.getElem?_eq_getElem h]
  refine listT_snoc _ _ ?_
  intro e
  have h2 := congrArg List.length e
  rw [List.length_take] at h2
  simp only [List.length_nil] at h2
  omega
theorem listT_first (l : List Int) (h : 0 < l.length) : listT (l.take 1) = decI l[0] := by
  match l, h with
  | a :: l, _ => exact listT_one a
theorem listT_len : ∀ l : List Int, (∀ n ∈ l, n ≤ 99999) → (listT l).length ≤ 21 * l.length := by
  intro l
  induction l with
  | nil => intro _; simp [listT_nil]
  | cons a l ih =>
    intro h
    have h1 := decI_len (h a (by simp))
    have h2 := ih (fun n hn => h n (by simp [hn]))
    match l with
    | [] => rw [listT_one]; simp; omega
    | b :: l =>
      have e : listT (a :: b :: l) = decI a ++ [44] ++ listT (b :: l) := by
        unfold listT Lib.join
        simp [List.intercalate]
      rw [e]
      simp at h2 ⊢
      omega

theorem dec_take {l : List Int} {k : Nat} (h : ∀ n ∈ l, 0 ≤ n ∧ n ≤ 99999) : ∀ n ∈ l.take k, n ≤ 99999 := fun n hn => (h n (List.mem_of_mem_take hn)).2

set_option maxRecDepth 100000 in
set_option maxHeartbeats 1000000 in
theorem l3List_any (u : Value) (l : List Int) (w : World) (hv : Ints w u l) (hb : ∀ n ∈ l, 0 ≤ n ∧ n ≤ 99999) (hl : l.length ≤ 5) :
    Calls Tryd.prog 79 #[u] w (StrExt (listT l) w) := by
  obtain ⟨au, cu, rfl, hlu, hcap, hcu⟩ := hv
  have HN := Lib.hid hb
  clear hlu hcap hb
  go_enter Tryd.func79, Tryd.ntmps79
  go_wp2
  go_loopw [3, 8] (fun s i wr => ∃ k : Nat, k ≤ l.length ∧ i = .int .i64 k ∧ s = .string ⟨(listT (l.take k)).toArray⟩ ∧ Ext w wr) (fun _ i _ => l.length - (intOf i).toNat)
  case atStart => exact ⟨0, Nat.zero_le _, rfl, rfl, Ext.refl _⟩
  case round =>
    obtain ⟨k, hk, rfl, rfl, hx⟩ := hrel
    by_cases hlt : k < l.length
    · obtain ⟨bv, ov, rfl, dv⟩ := hcu (by omega)
      have gv := hx.cell (dv k hlt)
      rw [List.getElem?_eq_getElem hlt, Option.getD_some] at gv
      have hbd := HN.out l[k] (List.getElem_mem hlt)
      have hci := fun W => num_at l[k] hbd.1 hbd.2 W
      have hln := decI_len hbd.2
      have hwl := listT_len (l.take k) (dec_take HN.out)
      have htl : (l.take k).length ≤ 5 := by simp; omega
      have hsu : 0 < k → listT (l.take (k + 1)) = listT (l.take k) ++ [44] ++ decI l[k] := fun h => listT_succ l k hlt h
      have hs0 : k = 0 → listT (l.take (k + 1)) = decI l[k] := fun h => by subst h; exact listT_first l hlt
      have hz0 : k = 0 → listT (l.take k) = [] := fun h => by subst h; rfl
      obtain ⟨q, hq⟩ : ∃ q, q = decI l[k] := ⟨_, rfl⟩
      obtain ⟨t, ht⟩ : ∃ t, t = listT (l.take k) := ⟨_, rfl⟩
      rw [← hq] at hci hln hsu hs0
      rw [← ht] at hwl hsu hz0
      rw [← ht]
      have b1 : ∀ W : World, (Op.stringOp .add ⟨t.toArray⟩ ⟨#[44]⟩).run Tryd.prog W = .ok (.string ⟨(t ++ [44]).toArray⟩) W := fun W => cat_run W t [44] (by simp; omega)
      have b2 : ∀ W : World, (Op.stringOp .add ⟨(t ++ [44]).toArray⟩ ⟨q.toArray⟩).run Tryd.prog W = .ok (.string ⟨(t ++ [44] ++ q).toArray⟩) W := fun W => cat_run W (t ++ [44]) q (by simp; omega)
      have b3 : ∀ W : World, (Op.stringOp .add ⟨t.toArray⟩ ⟨q.toArray⟩).run Tryd.prog W = .ok (.string ⟨(t ++ q).toArray⟩) W := fun W => cat_run W t q (by omega)
      obtain ⟨t1, ht1⟩ : ∃ t1, t1 = t ++ [44] := ⟨_, rfl⟩
      obtain ⟨t2, ht2⟩ : ∃ t2, t2 = t1 ++ q := ⟨_, rfl⟩
      obtain ⟨t3, ht3⟩ : ∃ t3, t3 = t ++ q := ⟨_, rfl⟩
      rw [← ht1, ← ht2] at b2 hsu
      rw [← ht1] at b1
      rw [← ht3] at b3
      have HCI := Lib.hid hci
      have HSU := Lib.hid hsu
      have HS0 : Hid (k = 0 → listT (l.take (k + 1)) = t3) := Lib.hid (fun h => by rw [hs0 h, ht3, hz0 h]; rfl)
      clear hcu dv hsu hs0 hz0 hci hq ht ht1 ht2 ht3 hbd hwl htl hln
      by_cases hk0 : 0 < k
      · go_wp2_with fail
        refine (HCI.out _).mono ?_
        rintro e w3 ⟨rfl, x3⟩
        go_wp2
        go_roundw
        case rel => exact ⟨k + 1, by omega, by go_num, by rw [HSU.out hk0], hx.trans x3⟩
        case measure => simp [intOf]; omega
      · obtain rfl : k = 0 := by omega
        rw [Nat.add_zero] at gv
        go_wp2_with fail
        refine (HCI.out _).mono ?_
        rintro e w3 ⟨rfl, x3⟩
        go_wp2
        go_roundw
        case rel => exact ⟨1, by omega, by go_num, by rw [← (HS0.out (by trivial) : listT (List.take 1 l) = t3)], hx.trans x3⟩
        case measure => simp [intOf]; omega
    · obtain rfl : k = l.length := by omega
      have ht : l.take l.length = l := List.take_length
      rw [ht]
      clear ht
      go_wp2
      go_ret
      exact ⟨rfl, hx⟩

/-- The text of an attribute. -/
def attrT (s : Int) (l : List Int) : List UInt8 := decI s ++ [58] ++ listT l
def attrText (n s : Int) (l : List Int) : List UInt8 := if goodA n s l then attrT s l else []

set_option maxRecDepth 100000 in
set_option maxHeartbeats 1000000 in
theorem l3Text_any (s : Int) (u : Value) (l : List Int) (w : World) (hv : Ints w u l) (hs : 0 ≤ s ∧ s ≤ 99999) (hb : ∀ n ∈ l, 0 ≤ n ∧ n ≤ 99999) (hl : l.length ≤ 5) :
    Calls Tryd.prog 54 #[.agg #[.int .i64 s, u]] w (StrExt (attrT s l) w) := by
  have hci := fun W => num_at s hs.1 hs.2 W
  have hli := fun W h => l3List_any u l W h hb hl
  have hln := decI_len hs.2
  have hwl := listT_len l (fun n hn => (hb n hn).2)
  unfold attrT
  obtain ⟨q, hq⟩ : ∃ q, q = decI s := ⟨_, rfl⟩
  obtain ⟨t, ht⟩ : ∃ t, t = listT l := ⟨_, rfl⟩
  rw [← hq] at hci hln
  rw [← ht] at hli hwl
  rw [← hq, ← ht]
  have b1 : ∀ W : World, (Op.stringOp .add ⟨q.toArray⟩ ⟨#[58]⟩).run Tryd.prog W = .ok (.string ⟨(q ++ [58]).toArray⟩) W := fun W => cat_run W q [58] (by simp; omega)
  have b2 : ∀ W : World, (Op.stringOp .add ⟨(q ++ [58]).toArray⟩ ⟨t.toArray⟩).run Tryd.prog W = .ok (.string ⟨(q ++ [58] ++ t).toArray⟩) W := fun W => cat_run W (q ++ [58]) t (by simp; omega)
  obtain ⟨t1, ht1⟩ : ∃ t1, t1 = q ++ [58] := ⟨_, rfl⟩
  obtain ⟨t2, ht2⟩ : ∃ t2, t2 = t1 ++ t := ⟨_, rfl⟩
  rw [← ht1, ← ht2] at b2 ⊢
  rw [← ht1] at b1
  have HCI := Lib.hid hci
  have HLI := Lib.hid hli
  have b0 := attrAt_new w 47 s u
  have x0 : Ext w (w.alloc (.cells #[.int .i64 s, u] 47)) := Ext.alloc (Ext.refl _) _
  obtain ⟨wb, hwb⟩ : ∃ wb, wb = w.alloc (.cells #[.int .i64 s, u] 47) := ⟨_, rfl⟩
  rw [← hwb] at b0 x0
  obtain ⟨c0, c1⟩ := b0
  have HW := Lib.hid hwb
  have HV := Lib.hid (hv.ext x0)
  clear hci hli hq ht ht1 ht2 hwl hln hwb hb hs hl hv
  go_enter Tryd.func54, Tryd.ntmps54
  go_wp2
  rw [← HW.out]
  go_region_held3 (fun W => Ext wb W ∧ W.cell? ⟨w.heap.size, 0, none⟩ = some (.int .i64 s) ∧ W.cell? ⟨w.heap.size, 1, none⟩ = some u) (first | (exact keep2 (by assumption) (by assumption)) | (exact ⟨Ext.drew (Ext.refl _), c0, c1⟩)) (first | (go_at_call 65; refine (HCI.out _).mono ?_; rintro e W ⟨rfl, x⟩) | (go_at_call 79; refine (HLI.out _ (HV.out.ext (And.left (by assumption)))).mono ?_; rintro e W ⟨rfl, x⟩))
  rename_i hH
  have hx : Ext w W := x0.trans hH.1
  clear hH x b1 b2 c0 c1 x0
  go_wp2
  go_ret
  exact ⟨rfl, hx⟩

theorem inB_of2 {n lo hi : Int} (h : inB n lo hi = true) : lo ≤ n ∧ n ≤ hi := by unfold inB at h; simpa using h
theorem good_bounds {n s : Int} {l : List Int} (h : goodA n s l = true) : (0 ≤ s ∧ s ≤ 99999) ∧ (∀ x ∈ l, 0 ≤ x ∧ x ≤ 99999) ∧ l.length ≤ 5 := by
  obtain ⟨hg, hd⟩ := goodA_of h
  obtain ⟨h1, h2, h3⟩ := goodD_of hd
  have h1 := inB_of2 h1
  refine ⟨by omega, fun x hx => ?_, by rcases isGrp_of hg with h | h <;> omega⟩
  unfold allIn at h3
  rw [List.all_eq_true] at h3
  have := inB_of2 (h3 x hx)
  omega
theorem attrText_good {n s : Int} {l : List Int} (h : goodA n s l = true) : attrText n s l = attrT s l := by unfold attrText; rw [h]; rfl
theorem attrText_bad {n s : Int} {l : List Int} (h : goodA n s l = false) : attrText n s l = [] := by unfold attrText; rw [h]; rfl

set_option maxHeartbeats 1000000 in
theorem specAttrText_any (n s : Int) (u : Value) (l : List Int) (w : World) (hv : Ints w u l) :
    Calls Tryd.prog 25 #[.int .i64 n, .agg #[.int .i64 s, u]] w (TwoStr (attrText n s l) (goodA n s l) w) := by
  have hb := attrAt_new w 47 s u
  cases hg : goodA n s l with
  | false =>
    rw [attrText_bad hg]
    have HG := Lib.hid hg
    clear hg
    go_enter Tryd.func25, Tryd.ntmps25
    go_wp2_with fail
    refine (specGoodAttr_any _ _ _ l _ (hv.ext (Ext.alloc (Ext.refl _) _))).mono ?_
    rintro e w1 ⟨rfl, x1⟩
    rw [HG.out]
    have hx := (Ext.alloc (Ext.refl _) _).trans x1
    clear hb hv x1
    go_wp2
    go_ret2
    exact ⟨rfl, hx⟩
  | true =>
    rw [attrText_good hg]
    obtain ⟨g1, g2, g3⟩ := good_bounds hg
    have HG := Lib.hid hg
    have HC := Lib.hid (fun W h => l3Text_any s u l W h g1 g2 g3)
    clear hg g1 g2 g3
    go_enter Tryd.func25, Tryd.ntmps25
    go_wp2_with fail
    refine (specGoodAttr_any _ _ _ l _ (hv.ext (Ext.alloc (Ext.refl _) _))).mono ?_
    rintro e w1 ⟨rfl, x1⟩
    rw [HG.out]
    have hx := (Ext.alloc (Ext.refl _) _).trans x1
    obtain ⟨c0, c1⟩ := hb.ext x1
    have HV := Lib.hid (hv.ext hx)
    clear hv x1 hb
    go_wp2_with fail
    refine (HC.out _ HV.out).mono ?_
    rintro e w2 ⟨rfl, x2⟩
    have hy := hx.trans x2
    clear hx x2 c0 c1
    go_wp2
    go_ret2
    exact ⟨rfl, hy⟩

end Go.Proofs.YtfadmcgaojnghaaDoor
