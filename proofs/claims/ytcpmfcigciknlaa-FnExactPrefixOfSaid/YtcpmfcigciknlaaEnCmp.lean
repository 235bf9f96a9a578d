/- Entries compared as structs. -/
import Derived.Test.YtcpmfcigciknlaaAcctP
import Derived.Test.YtcpmfcigciknlaaBoxV
import Derived.Deep.DeepCutAuto
namespace Go.Proofs.Ytcpmfcigciknlaa
open Go.RowKit
set_option linter.unusedVariables false

set_option maxRecDepth 100000 in
theorem equalCdN (a b c d e a' b' c' d' e' : Int) (w : World) : (Op.equalIn 9999 36 (.agg #[.int .i64 a, .int .i64 b, .int .i64 c, .int .i64 d, .int .i64 e]) (.agg #[.int .i64 a', .int .i64 b', .int .i64 c', .int .i64 d', .int .i64 e'])).run Try.prog w = .ok (a == a' && (b == b' && (c == c' && (d == d' && e == e')))) w := by
  have u3 := Try.underlying3
  have hS : Try.prog.underlying 36 = some (.struct (Try.prog.fieldsOf 36)) := by kernel_rfl
  have hp : Try.prog.stoodInHeld 36 = false := by kernel_rfl
  rw [show (9999 : Nat) = 9998 + 1 from rfl, run_equalIn_agg w 9998 36 _ _ hS hp]
  simp only [Program.fieldsOf, Try.underlying36]
  go_simp
  by_cases h1 : a = a' <;> by_cases h2 : b = b' <;> by_cases h3 : c = c' <;> by_cases h4 : d = d' <;> by_cases h5 : e = e' <;> simp [h1, h2, h3, h4, h5]
set_option maxRecDepth 100000 in
theorem equalTdN (a b a' b' : Int) (w : World) : (Op.equalIn 9999 38 (.agg #[.int .i64 a, .int .i64 b]) (.agg #[.int .i64 a', .int .i64 b'])).run Try.prog w = .ok (a == a' && b == b') w := by
  have u3 := Try.underlying3
  have hS : Try.prog.underlying 38 = some (.struct (Try.prog.fieldsOf 38)) := by kernel_rfl
  have hp : Try.prog.stoodInHeld 38 = false := by kernel_rfl
  rw [show (9999 : Nat) = 9998 + 1 from rfl, run_equalIn_agg w 9998 38 _ _ hS hp]
  simp only [Program.fieldsOf, Try.underlying38]
  go_simp
  by_cases h1 : a = a' <;> by_cases h2 : b = b' <;> simp [h1, h2]
def enV (d : EnD) : Value := .agg #[.int .i64 d.r, .int .i64 d.n, .int .i64 d.k, .int .i64 d.i, .int .i64 d.f, .int .i64 d.t, .int .i64 d.a, .int .i64 d.c, .int .i64 d.s]
set_option maxRecDepth 100000 in
theorem equalEn (x d : EnD) (w : World) : (Op.equalIn 10000 40 (enV x) (enV d)).run Try.prog w = .ok (eqE x d) w := by
  have u3 := Try.underlying3
  have hS : Try.prog.underlying 40 = some (.struct (Try.prog.fieldsOf 40)) := by kernel_rfl
  have hp : Try.prog.stoodInHeld 40 = false := by kernel_rfl
  have hC := fun W => equalCdN x.k x.i x.f x.t x.a d.k d.i d.f d.t d.a W
  have hT := fun W => equalTdN x.c x.s d.c d.s W
  unfold enV
  rw [show (10000 : Nat) = 9999 + 1 from rfl, run_equalIn_agg w 9999 40 _ _ hS hp]
  simp only [Program.fieldsOf, Try.underlying40]
  go_simp
  unfold eqE
  by_cases h1 : x.r = d.r
  · by_cases h2 : x.n = d.n
    · by_cases h3 : x.k = d.k
      · by_cases h4 : x.i = d.i
        · by_cases h5 : x.f = d.f
          · by_cases h6 : x.t = d.t
            · by_cases h7 : x.a = d.a
              · by_cases h8 : x.c = d.c
                · by_cases h9 : x.s = d.s
                  · simp [h1, h2, h3, h4, h5, h6, h7, h8, h9]
                  · simp [h1, h2, h3, h4, h5, h6, h7, h8, h9]
                · simp [h1, h2, h3, h4, h5, h6, h7, h8]
              · simp [h1, h2, h3, h4, h5, h6, h7]
            · simp [h1, h2, h3, h4, h5, h6]
          · simp [h1, h2, h3, h4, h5]
        · simp [h1, h2, h3, h4]
      · simp [h1, h2, h3]
    · simp [h1, h2]
  · simp [h1]
theorem neqEn (x d : EnD) (w : World) : (binOp .neq 40 (enV x) (enV d)).run Try.prog w = .ok (.bool (!(eqE x d))) w := by
  have h := equalEn x d w
  unfold enV at h ⊢
  rw [run_neq_struct, h]
  rfl
end Go.Proofs.Ytcpmfcigciknlaa
