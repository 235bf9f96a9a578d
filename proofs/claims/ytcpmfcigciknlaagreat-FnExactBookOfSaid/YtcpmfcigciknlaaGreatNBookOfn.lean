/- Texts of this proof, part n: words, plain facts, contracts. -/
import Derived.Test.YtcpmfcigciknlaaGreatNBookOfm
import Derived.StillTailTactics
import Derived.WalkMore
import Derived.Deep.LoopGhost
import Derived.Test.YtcpmfcigciknlaaGreatNBookOfg
import Derived.Deep.WholeRow
import Derived.Test.YtcpmfcigciknlaaGreatNBookOfa
import Derived.Test.YtcpmfcigciknlaaGreatNBookOfi
import Derived.Test.YtcpmfcigciknlaaGreatNBookOfh
set_option linter.unusedVariables false
set_option linter.unusedSimpArgs false

namespace Go.Proofs.YtcpmfcigciknlaaGreat
open Go.RowKit
set_option linter.unusedVariables false
def Pre (g : List (List Int)) (S : TS) (way : List Nat) (c : Nat) : Prop :=
  (way = [] ∧ Inv g S [] ∧ c < g.length ∧ S.N c = 0) ∨
  ∃ (S0 : TS) (w0 : List Nat) (p : Nat) (hl : S0.lk p < (rowN g p).length), way = w0 ++ [p] ∧ S = lookS S0 p ∧ Inv g S0 (w0 ++ [p]) ∧ (rowN g p)[S0.lk p] = (c : Int) ∧ S0.N c = 0
theorem Pre.meet {g : List (List Int)} (hg : rowsB g = true) {S : TS} {way : List Nat} {c : Nat} (h : Pre g S way c) : Inv g (meetS S c) (way ++ [c]) := by
  rcases h with ⟨rfl, h, hc, hn⟩ | ⟨S0, w0, p, hl, rfl, rfl, h, he, hn⟩
  · exact h.first hg hc hn
  · exact h.down hg hl he hn
theorem Pre.point {g : List (List Int)} (hg : rowsB g = true) {S : TS} {way : List Nat} {c : Nat} (h : Pre g S way c) : c < g.length ∧ S.N c = 0 := by
  rcases h with ⟨rfl, h, hc, hn⟩ | ⟨S0, w0, p, hl, rfl, rfl, h, he, hn⟩
  · exact ⟨hc, hn⟩
  · refine ⟨?_, hn⟩
    have := row_in hg (List.getElem_mem hl)
    rw [he] at this; omega
structure Far (g : List (List Int)) (S0 : TS) (S : TS) : Prop where
  cnt : Cnt g S
  mon : ∀ q, S0.N q ≠ 0 → S.N q ≠ 0
structure EnterS (g : List (List Int)) (S0 : TS) (c0 B X : Nat) (wb : World) (gv : Value) (n : Nat) (c : Nat) (way : List Nat) (S : TS) (wv : Value) (w : World) : Prop where
  num : n = 4 * unmet S.N g.length + 2 * way.length
  pre : Pre g S way c
  far : Far g S0 S
  one : S.N c0 ≠ 0 ∨ c = c0
  mem : GoS B X wb gv w S way wv
structure LookS (g : List (List Int)) (S0 : TS) (c0 B X : Nat) (wb : World) (gv : Value) (n : Nat) (p : Nat) (way : List Nat) (S : TS) (wv : Value) (w : World) : Prop where
  num : n = 4 * unmet S.N g.length + 2 * (way.length + 1) + 1
  inv : Inv g S (way ++ [p])
  far : Far g S0 S
  one : S.N c0 ≠ 0
  mem : GoS B X wb gv w S (way ++ [p]) wv
def atEnter (g : List (List Int)) (S0 : TS) (c0 B X : Nat) (wb : World) (gv : Value) (n : Nat) (a : Act) (w : World) : Prop :=
  ∃ (x : Nat → Value) (c : Nat) (way : List Nat) (S : TS) (wv : Value), a = { tmps := #[.pointer (some ⟨X, 0, none⟩), .int .i64 c, x 2, x 3, wv, x 5, x 6, x 7, x 8, x 9, x 10, x 11, x 12, x 13, x 14, x 15, x 16, x 17, x 18, x 19, x 20, x 21, x 22, x 23, x 24, x 25, x 26, x 27, x 28, x 29, x 30, x 31, x 32, x 33, x 34, x 35, x 36, x 37, x 38, x 39, x 40, x 41, x 42, x 43, x 44, x 45, x 46, x 47, x 48, x 49, x 50, x 51, x 52, x 53, x 54, x 55, x 56, x 57, x 58, x 59, x 60, x 61, x 62, x 63, x 64, x 65, x 66, x 67, x 68, x 69, x 70, x 71, x 72, x 73, x 74, x 75, x 76, x 77, x 78, x 79, x 80, x 81, x 82, x 83, x 84, x 85, x 86, x 87, x 88, x 89, x 90, x 91, x 92, x 93, x 94, x 95, x 96, x 97, x 98, x 99, x 100, x 101, x 102, x 103, x 104, x 105, x 106, x 107, x 108, x 109, x 110, x 111, x 112, x 113, x 114, x 115, x 116, x 117, x 118, x 119, x 120, x 121, x 122, x 123, x 124, x 125, x 126, x 127, x 128, x 129, x 130, x 131, x 132, x 133, x 134], defers := [] } ∧ EnterS g S0 c0 B X wb gv n c way S wv w
def atLook (g : List (List Int)) (S0 : TS) (c0 B X : Nat) (wb : World) (gv : Value) (n : Nat) (a : Act) (w : World) : Prop :=
  ∃ (x : Nat → Value) (p : Nat) (way : List Nat) (S : TS) (wv : Value), a = { tmps := #[.pointer (some ⟨X, 0, none⟩), .int .i64 p, x 2, x 3, wv, x 5, x 6, x 7, x 8, x 9, x 10, x 11, x 12, x 13, x 14, x 15, x 16, x 17, x 18, x 19, x 20, x 21, x 22, x 23, x 24, x 25, x 26, x 27, x 28, x 29, x 30, x 31, x 32, x 33, x 34, x 35, x 36, x 37, x 38, x 39, x 40, x 41, x 42, x 43, x 44, x 45, x 46, x 47, x 48, x 49, x 50, x 51, x 52, x 53, x 54, x 55, x 56, x 57, x 58, x 59, x 60, x 61, x 62, x 63, x 64, x 65, x 66, x 67, x 68, x 69, x 70, x 71, x 72, x 73, x 74, x 75, x 76, x 77, x 78, x 79, x 80, x 81, x 82, x 83, x 84, x 85, x 86, x 87, x 88, x 89, x 90, x 91, x 92, x 93, x 94, x 95, x 96, x 97, x 98, x 99, x 100, x 101, x 102, x 103, x 104, x 105, x 106, x 107, x 108, x 109, x 110, x 111, x 112, x 113, x 114, x 115, x 116, x 117, x 118, x 119, x 120, x 121, x 122, x 123, x 124, x 125, x 126, x 127, x 128, x 129, x 130, x 131, x 132, x 133, x 134], defers := [] } ∧ LookS g S0 c0 B X wb gv n p way S wv w
structure RoundS (g : List (List Int)) (S0 : TS) (c0 B X : Nat) (wb : World) (gv : Value) (u : Nat) (n : Nat) (p : Nat) (way : List Nat) (S : TS) (wv : Value) (w : World) : Prop where
  num : n + S.lk p = (rowN g p).length
  un : unmet S.N g.length = u
  inv : Inv g S (way ++ [p])
  far : Far g S0 S
  one : S.N c0 ≠ 0
  mem : GoS B X wb gv w S (way ++ [p]) wv
def atRound (g : List (List Int)) (S0 : TS) (c0 B X : Nat) (wb : World) (gv : Value) (u : Nat) (p : Nat) (way : List Nat) (wv : Value) (n : Nat) (a : Act) (w : World) : Prop :=
  ∃ (x : Nat → Value) (S : TS), a = { tmps := #[.pointer (some ⟨X, 0, none⟩), .int .i64 p, x 2, x 3, wv, x 5, x 6, x 7, x 8, x 9, x 10, x 11, x 12, x 13, x 14, x 15, x 16, x 17, x 18, x 19, x 20, x 21, x 22, x 23, x 24, x 25, x 26, x 27, x 28, x 29, x 30, x 31, x 32, x 33, x 34, x 35, x 36, x 37, x 38, x 39, x 40, x 41, x 42, x 43, x 44, x 45, x 46, x 47, x 48, x 49, x 50, x 51, x 52, x 53, x 54, x 55, x 56, x 57, x 58, x 59, x 60, x 61, x 62, x 63, x 64, x 65, x 66, x 67, x 68, x 69, x 70, x 71, x 72, x 73, x 74, x 75, x 76, x 77, x 78, x 79, x 80, x 81, x 82, x 83, x 84, x 85, x 86, x 87, x 88, x 89, x 90, x 91, x 92, x 93, x 94, x 95, x 96, x 97, x 98, x 99, x 100, x 101, x 102, x 103, x 104, x 105, x 106, x 107, x 108, x 109, x 110, x 111, x 112, x 113, x 114, x 115, x 116, x 117, x 118, x 119, x 120, x 121, x 122, x 123, x 124, x 125, x 126, x 127, x 128, x 129, x 130, x 131, x 132, x 133, x 134], defers := [] } ∧ RoundS g S0 c0 B X wb gv u n p way S wv w
theorem EnterS.at {g : List (List Int)} {S0 : TS} {c0 B X : Nat} {wb : World} {gv : Value} {n : Nat} {c : Nat} {way : List Nat} {S : TS} {wv : Value} {w : World} (h : EnterS g S0 c0 B X wb gv n c way S wv w) {tm : Array Value} (e : tm = #[.pointer (some ⟨X, 0, none⟩), .int .i64 c, tm.getD 2 undef, tm.getD 3 undef, wv, tm.getD 5 undef, tm.getD 6 undef, tm.getD 7 undef, tm.getD 8 undef, tm.getD 9 undef, tm.getD 10 undef, tm.getD 11 undef, tm.getD 12 undef, tm.getD 13 undef, tm.getD 14 undef, tm.getD 15 undef, tm.getD 16 undef, tm.getD 17 undef, tm.getD 18 undef, tm.getD 19 undef, tm.getD 20 undef, tm.getD 21 undef, tm.getD 22 undef, tm.getD 23 undef, tm.getD 24 undef, tm.getD 25 undef, tm.getD 26 undef, tm.getD 27 undef, tm.getD 28 undef, tm.getD 29 undef, tm.getD 30 undef, tm.getD 31 undef, tm.getD 32 undef, tm.getD 33 undef, tm.getD 34 undef, tm.getD 35 undef, tm.getD 36 undef, tm.getD 37 undef, tm.getD 38 undef, tm.getD 39 undef, tm.getD 40 undef, tm.getD 41 undef, tm.getD 42 undef, tm.getD 43 undef, tm.getD 44 undef, tm.getD 45 undef, tm.getD 46 undef, tm.getD 47 undef, tm.getD 48 undef, tm.getD 49 undef, tm.getD 50 undef, tm.getD 51 undef, tm.getD 52 undef, tm.getD 53 undef, tm.getD 54 undef, tm.getD 55 undef, tm.getD 56 undef, tm.getD 57 undef, tm.getD 58 undef, tm.getD 59 undef, tm.getD 60 undef, tm.getD 61 undef, tm.getD 62 undef, tm.getD 63 undef, tm.getD 64 undef, tm.getD 65 undef, tm.getD 66 undef, tm.getD 67 undef, tm.getD 68 undef, tm.getD 69 undef, tm.getD 70 undef, tm.getD 71 undef, tm.getD 72 undef, tm.getD 73 undef, tm.getD 74 undef, tm.getD 75 undef, tm.getD 76 undef, tm.getD 77 undef, tm.getD 78 undef, tm.getD 79 undef, tm.getD 80 undef, tm.getD 81 undef, tm.getD 82 undef, tm.getD 83 undef, tm.getD 84 undef, tm.getD 85 undef, tm.getD 86 undef, tm.getD 87 undef, tm.getD 88 undef, tm.getD 89 undef, tm.getD 90 undef, tm.getD 91 undef, tm.getD 92 undef, tm.getD 93 undef, tm.getD 94 undef, tm.getD 95 undef, tm.getD 96 undef, tm.getD 97 undef, tm.getD 98 undef, tm.getD 99 undef, tm.getD 100 undef, tm.getD 101 undef, tm.getD 102 undef, tm.getD 103 undef, tm.getD 104 undef, tm.getD 105 undef, tm.getD 106 undef, tm.getD 107 undef, tm.getD 108 undef, tm.getD 109 undef, tm.getD 110 undef, tm.getD 111 undef, tm.getD 112 undef, tm.getD 113 undef, tm.getD 114 undef, tm.getD 115 undef, tm.getD 116 undef, tm.getD 117 undef, tm.getD 118 undef, tm.getD 119 undef, tm.getD 120 undef, tm.getD 121 undef, tm.getD 122 undef, tm.getD 123 undef, tm.getD 124 undef, tm.getD 125 undef, tm.getD 126 undef, tm.getD 127 undef, tm.getD 128 undef, tm.getD 129 undef, tm.getD 130 undef, tm.getD 131 undef, tm.getD 132 undef, tm.getD 133 undef, tm.getD 134 undef]) : atEnter g S0 c0 B X wb gv n { tmps := tm, defers := [] } w :=
  ⟨fun i => tm.getD i undef, c, way, S, wv, congrArg (fun t => ({ tmps := t, defers := [] } : Act)) e, h⟩
theorem LookS.at {g : List (List Int)} {S0 : TS} {c0 B X : Nat} {wb : World} {gv : Value} {n : Nat} {p : Nat} {way : List Nat} {S : TS} {wv : Value} {w : World} (h : LookS g S0 c0 B X wb gv n p way S wv w) {tm : Array Value} (e : tm = #[.pointer (some ⟨X, 0, none⟩), .int .i64 p, tm.getD 2 undef, tm.getD 3 undef, wv, tm.getD 5 undef, tm.getD 6 undef, tm.getD 7 undef, tm.getD 8 undef, tm.getD 9 undef, tm.getD 10 undef, tm.getD 11 undef, tm.getD 12 undef, tm.getD 13 undef, tm.getD 14 undef, tm.getD 15 undef, tm.getD 16 undef, tm.getD 17 undef, tm.getD 18 undef, tm.getD 19 undef, tm.getD 20 undef, tm.getD 21 undef, tm.getD 22 undef, tm.getD 23 undef, tm.getD 24 undef, tm.getD 25 undef, tm.getD 26 undef, tm.getD 27 undef, tm.getD 28 undef, tm.getD 29 undef, tm.getD 30 undef, tm.getD 31 undef, tm.getD 32 undef, tm.getD 33 undef, tm.getD 34 undef, tm.getD 35 undef, tm.getD 36 undef, tm.getD 37 undef, tm.getD 38 undef, tm.getD 39 undef, tm.getD 40 undef, tm.getD 41 undef, tm.getD 42 undef, tm.getD 43 undef, tm.getD 44 undef, tm.getD 45 undef, tm.getD 46 undef, tm.getD 47 undef, tm.getD 48 undef, tm.getD 49 undef, tm.getD 50 undef, tm.getD 51 undef, tm.getD 52 undef, tm.getD 53 undef, tm.getD 54 undef, tm.getD 55 undef, tm.getD 56 undef, tm.getD 57 undef, tm.getD 58 undef, tm.getD 59 undef, tm.getD 60 undef, tm.getD 61 undef, tm.getD 62 undef, tm.getD 63 undef, tm.getD 64 undef, tm.getD 65 undef, tm.getD 66 undef, tm.getD 67 undef, tm.getD 68 undef, tm.getD 69 undef, tm.getD 70 undef, tm.getD 71 undef, tm.getD 72 undef, tm.getD 73 undef, tm.getD 74 undef, tm.getD 75 undef, tm.getD 76 undef, tm.getD 77 undef, tm.getD 78 undef, tm.getD 79 undef, tm.getD 80 undef, tm.getD 81 undef, tm.getD 82 undef, tm.getD 83 undef, tm.getD 84 undef, tm.getD 85 undef, tm.getD 86 undef, tm.getD 87 undef, tm.getD 88 undef, tm.getD 89 undef, tm.getD 90 undef, tm.getD 91 undef, tm.getD 92 undef, tm.getD 93 undef, tm.getD 94 undef, tm.getD 95 undef, tm.getD 96 undef, tm.getD 97 undef, tm.getD 98 undef, tm.getD 99 undef, tm.getD 100 undef, tm.getD 101 undef, tm.getD 102 undef, tm.getD 103 undef, tm.getD 104 undef, tm.getD 105 undef, tm.getD 106 undef, tm.getD 107 undef, tm.getD 108 undef, tm.getD 109 undef, tm.getD 110 undef, tm.getD 111 undef, tm.getD 112 undef, tm.getD 113 undef, tm.getD 114 undef, tm.getD 115 undef, tm.getD 116 undef, tm.getD 117 undef, tm.getD 118 undef, tm.getD 119 undef, tm.getD 120 undef, tm.getD 121 undef, tm.getD 122 undef, tm.getD 123 undef, tm.getD 124 undef, tm.getD 125 undef, tm.getD 126 undef, tm.getD 127 undef, tm.getD 128 undef, tm.getD 129 undef, tm.getD 130 undef, tm.getD 131 undef, tm.getD 132 undef, tm.getD 133 undef, tm.getD 134 undef]) : atLook g S0 c0 B X wb gv n { tmps := tm, defers := [] } w :=
  ⟨fun i => tm.getD i undef, p, way, S, wv, congrArg (fun t => ({ tmps := t, defers := [] } : Act)) e, h⟩
theorem RoundS.at {g : List (List Int)} {S0 : TS} {c0 B X : Nat} {wb : World} {gv : Value} {u n : Nat} {p : Nat} {way : List Nat} {S : TS} {wv : Value} {w : World} (h : RoundS g S0 c0 B X wb gv u n p way S wv w) {tm : Array Value} (e : tm = #[.pointer (some ⟨X, 0, none⟩), .int .i64 p, tm.getD 2 undef, tm.getD 3 undef, wv, tm.getD 5 undef, tm.getD 6 undef, tm.getD 7 undef, tm.getD 8 undef, tm.getD 9 undef, tm.getD 10 undef, tm.getD 11 undef, tm.getD 12 undef, tm.getD 13 undef, tm.getD 14 undef, tm.getD 15 undef, tm.getD 16 undef, tm.getD 17 undef, tm.getD 18 undef, tm.getD 19 undef, tm.getD 20 undef, tm.getD 21 undef, tm.getD 22 undef, tm.getD 23 undef, tm.getD 24 undef, tm.getD 25 undef, tm.getD 26 undef, tm.getD 27 undef, tm.getD 28 undef, tm.getD 29 undef, tm.getD 30 undef, tm.getD 31 undef, tm.getD 32 undef, tm.getD 33 undef, tm.getD 34 undef, tm.getD 35 undef, tm.getD 36 undef, tm.getD 37 undef, tm.getD 38 undef, tm.getD 39 undef, tm.getD 40 undef, tm.getD 41 undef, tm.getD 42 undef, tm.getD 43 undef, tm.getD 44 undef, tm.getD 45 undef, tm.getD 46 undef, tm.getD 47 undef, tm.getD 48 undef, tm.getD 49 undef, tm.getD 50 undef, tm.getD 51 undef, tm.getD 52 undef, tm.getD 53 undef, tm.getD 54 undef, tm.getD 55 undef, tm.getD 56 undef, tm.getD 57 undef, tm.getD 58 undef, tm.getD 59 undef, tm.getD 60 undef, tm.getD 61 undef, tm.getD 62 undef, tm.getD 63 undef, tm.getD 64 undef, tm.getD 65 undef, tm.getD 66 undef, tm.getD 67 undef, tm.getD 68 undef, tm.getD 69 undef, tm.getD 70 undef, tm.getD 71 undef, tm.getD 72 undef, tm.getD 73 undef, tm.getD 74 undef, tm.getD 75 undef, tm.getD 76 undef, tm.getD 77 undef, tm.getD 78 undef, tm.getD 79 undef, tm.getD 80 undef, tm.getD 81 undef, tm.getD 82 undef, tm.getD 83 undef, tm.getD 84 undef, tm.getD 85 undef, tm.getD 86 undef, tm.getD 87 undef, tm.getD 88 undef, tm.getD 89 undef, tm.getD 90 undef, tm.getD 91 undef, tm.getD 92 undef, tm.getD 93 undef, tm.getD 94 undef, tm.getD 95 undef, tm.getD 96 undef, tm.getD 97 undef, tm.getD 98 undef, tm.getD 99 undef, tm.getD 100 undef, tm.getD 101 undef, tm.getD 102 undef, tm.getD 103 undef, tm.getD 104 undef, tm.getD 105 undef, tm.getD 106 undef, tm.getD 107 undef, tm.getD 108 undef, tm.getD 109 undef, tm.getD 110 undef, tm.getD 111 undef, tm.getD 112 undef, tm.getD 113 undef, tm.getD 114 undef, tm.getD 115 undef, tm.getD 116 undef, tm.getD 117 undef, tm.getD 118 undef, tm.getD 119 undef, tm.getD 120 undef, tm.getD 121 undef, tm.getD 122 undef, tm.getD 123 undef, tm.getD 124 undef, tm.getD 125 undef, tm.getD 126 undef, tm.getD 127 undef, tm.getD 128 undef, tm.getD 129 undef, tm.getD 130 undef, tm.getD 131 undef, tm.getD 132 undef, tm.getD 133 undef, tm.getD 134 undef]) : atRound g S0 c0 B X wb gv u p way wv n { tmps := tm, defers := [] } w :=
  ⟨fun i => tm.getD i undef, S, congrArg (fun t => ({ tmps := t, defers := [] } : Act)) e, h⟩
def Gone (g : List (List Int)) (S0 : TS) (c0 B X : Nat) (wb : World) (gv : Value) (e : Ending) (w' : World) : Prop :=
  (∃ r, e = .returned r) ∧ ∃ S wv, Inv g S [] ∧ Far g S0 S ∧ S.N c0 ≠ 0 ∧ GoS B X wb gv w' S [] wv
end Go.Proofs.YtcpmfcigciknlaaGreat

namespace Go.Proofs.YtcpmfcigciknlaaGreat
open Go.RowKit
set_option linter.unusedVariables false
def mn (x y : Int) : Int := if y < x then y else x
theorem mn_nat (a b : Nat) : mn (a : Int) (b : Int) = ((min a b : Nat) : Int) := by
  unfold mn
  split <;> omega
theorem last_nat (l : List Nat) (h : l ≠ []) : ∃ r q, l = r ++ [q] := by
  rcases List.eq_nil_or_concat l with e | ⟨r, q, e⟩
  · exact absurd e h
  · exact ⟨r, q, by rw [e, List.concat_eq_append]⟩
theorem Inv.root_low {g : List (List Int)} {S : TS} {way : List Nat} {p : Nat} (h : Inv g S (way ++ [p])) (hb : S.bk p ≠ S.N p) : way ≠ [] := by
  rintro rfl
  obtain ⟨r, hr, hN, _⟩ := h.low2 p (h.wop p (by simp))
  obtain ⟨a, ha, hle⟩ := h.root r hr
  have : a = p := by simpa using ha
  subst this
  have := h.low1 a (h.wop a (by simp))
  omega
theorem sortI_perm (l : List Int) : (sortI l).Perm l := List.mergeSort_perm _ _
theorem sortI_rises {l : List Int} (h : l.Nodup) : Rises (sortI l) := by
  have hs : (sortI l).Pairwise (fun x y => decide (x ≤ y) = true) := List.pairwise_mergeSort (fun a b c h1 h2 => by simp at h1 h2 ⊢; omega) (fun a b => by simp; omega) l
  have hn : (sortI l).Nodup := (sortI_perm l).nodup_iff.2 h
  unfold Rises
  refine (hs.and hn).imp ?_
  rintro a b ⟨h1, h2⟩
  have h1 : a ≤ b := by simpa using h1
  have h2 : a ≠ b := h2
  omega
theorem sort_group {g : List (List Int)} (hg : rowsB g = true) {S : TS} {way A C : List Nat} {p : Nat} (h : Inv g S (way ++ [p])) (hl : S.lk p = (rowN g p).length) (hb : S.bk p = S.N p) (e : S.opn = A ++ p :: C) : sortI (natsI (p :: C)) = groupL g (p : Int) := by
  have hs := h.sort
  rw [e] at hs
  have hpc := (List.pairwise_append.1 hs).2.1
  have hn : (natsI (p :: C)).Nodup := by
    unfold natsI List.Nodup
    rw [List.pairwise_map]
    exact hpc.imp (fun {a b} hab e => by have : a = b := by omega
                                         subst this; omega)
  refine rises_ext (sortI_rises hn) (groupL_rises g _) (fun x => ?_)
  rw [(sortI_perm _).mem_iff, h.reg_group hg hl hb]
  unfold natsI
  rw [List.mem_map]
  constructor
  · rintro ⟨q, hq, rfl⟩
    exact ⟨q, rfl, (h.reg_mem e q).1 hq⟩
  · rintro ⟨q, rfl, hq⟩
    exact ⟨q, (h.reg_mem e q).2 hq, rfl⟩
theorem Code.wp_mono2 {P : Program} {c : Code} {Q Q' : Exit → Act → World → Prop} {a : Act} {w : World} (h : c.wp P Q a w) (k : ∀ e a w, Q e a w → Q' e a w) : c.wp P Q' a w := by
  intro b ks cs
  obtain ⟨e, a1, w1, hq, harr⟩ := h b ks cs
  exact ⟨e, a1, w1, k _ _ _ hq, harr⟩
set_option maxRecDepth 100000 in
set_option maxHeartbeats 16000000 in
theorem goFrom_any (hsort : SortOk) (g : List (List Int)) (hg : rowsB g = true) (hl : g.length ≤ 40) (S0 : TS) (c0 B X : Nat) (wb : World) (gv wv0 : Value) (hgv : Intss wb gv g) (hXB : X < B) (hwb : wb.heap.size ≤ X) (w : World)
    (hI : Inv g S0 []) (hC : Cnt g S0) (hc0 : c0 < g.length) (hn0 : S0.N c0 = 0) (hG : GoS B X wb gv w S0 [] wv0) :
    Calls Tryz.prog 214 #[.pointer (some ⟨X, 0, none⟩), .int .i64 c0] w (Gone g S0 c0 B X wb gv) := by
  have HGV := Lib.hid hgv
  obtain ⟨av, cv, rfl, hlv, hcap, hcv⟩ := hgv
  unfold maxLen at hlv
  have HCV := Lib.hid hcv
  clear hcap hcv
  go_enter Tryz.func214, Tryz.ntmps214
  go_wp2
  refine scope_two' (atEnter g S0 c0 B X wb (.slice av g.length cv)) (atLook g S0 c0 B X wb (.slice av g.length cv)) rfl rfl ?look ?enter ?first
  case look =>
    rintro n a w ⟨x, p, way, S, wv, rfl, hS⟩
    obtain ⟨gw, cw, t, hwv, hlt', htm, htc⟩ : ∃ gw cw t, wv = .slice (some ⟨gw, 0, none⟩) (t + 1) cw ∧ way.length = t ∧ t + 1 ≤ 2 ^ 63 - 1 ∧ t + 1 ≤ cw := by
      obtain ⟨_, _, _, _, hw, _⟩ := hS.mem
      have hm := hw.ints
      obtain ⟨_, cm, hve, hml, hcm, _⟩ := hm
      unfold maxLen at hml
      rw [natsI_len, List.length_append] at hml hcm
      obtain ⟨gw, cw, hwv, _⟩ := World.ownsRow.form hw (by rw [natsI_len]; simp)
      rw [natsI_len, List.length_append] at hwv
      rw [hwv] at hve
      simp only [Value.slice.injEq] at hve
      have hc1 := hcm.1
      rw [← hve.2.2] at hc1
      exact ⟨gw, cw, way.length, hwv, rfl, by simpa using hml, by simpa using hc1⟩
    subst hwv
    have HS := Lib.hid hS
    clear hS
    go_wp2
    refine wp_loop_ghost_k (atRound g S0 c0 B X wb (.slice av g.length cv) (unmet S.N g.length) p way (.slice (some ⟨gw, 0, none⟩) (t + 1) cw)) ((rowN g p).length - S.lk p) (RoundS.at (S := S) ⟨by have := HS.out.inv.lkle p; omega, rfl, HS.out.inv, HS.out.far, HS.out.one, HS.out.mem⟩ rfl) ?_
    rintro k a w ⟨x, S, rfl, hR⟩ J K hJ hK
    have hop := hR.inv.wop p (by simp)
    have hp := hR.inv.small p (hR.inv.opmet p hop)
    have hp40 : p < 40 := by omega
    obtain ⟨grv, ov, vs, hm, hw, a1, a2, a3, a4⟩ := id hR.mem
    obtain ⟨bg, og, rfl, dg⟩ := HCV.out (by omega)
    obtain ⟨u, hu, iu⟩ := dg p hp
    have hrow : rowN g p = g[p] := rowG_at hp
    rw [List.getElem?_eq_getElem hp, Option.getD_some, ← hrow] at iu
    obtain ⟨ax, cx, rfl, hlx, _, dx⟩ := iu
    unfold maxLen at hlx
    have z0 := hm.ts.graph
    have z1 := hm.ts.looked hp40
    have z2 := a3.cell hu
    have i0 : (0 : Int) ≤ (p : Int) := by omega
    have i1 : (p : Int) < 40 := by omega
    have i2 : (p : Int) < (g.length : Int) := by omega
    have HR := Lib.hid hR
    have HM := Lib.hid hm
    have A3 := Lib.hid a3
    have DX := Lib.hid dx
    clear hR hop hm hw a1 a2 a3 a4 dg hu hrow dx
    by_cases hlt : S.lk p < (rowN g p).length
    · obtain ⟨bx, ox, rfl, ex⟩ := DX.out (by omega)
      have z3 := A3.out.cell (ex _ hlt)
      rw [List.getElem?_eq_getElem hlt, Option.getD_some] at z3
      obtain ⟨c, hc, hcg⟩ := mem_row hg (List.getElem_mem hlt)
      rw [hc] at z3
      have hc40 : c < 40 := by omega
      have i3 : (0 : Int) ≤ (S.lk p : Int) := by omega
      have i4 : (S.lk p : Int) < ((rowN g p).length : Int) := by omega
      have HC2 := Lib.hid hc
      clear ex hc
      have HSL : Hid ((S.lk p : Int) + 1 = ((S.lk p + 1 : Nat) : Int)) := Lib.hid (by omega)
      go_wp2
      go_quiet (fail)
      obtain ⟨W1, hW1⟩ : ∃ W1, W1 = w.drewN nq := ⟨_, rfl⟩
      have x1 : Ext w W1 := by rw [hW1]; exact (Ext.refl w).drewN nq
      rw [← hW1]
      replace z0 := x1.cell z0
      replace z1 := x1.cell z1
      replace z2 := x1.cell z2
      replace z3 := x1.cell z3
      have X1 := Lib.hid x1
      clear hW1 x1
      go_wp2
      go_quiet (fail)
      obtain ⟨W3, hW3⟩ : ∃ W3, W3 = W1.drewN nq := ⟨_, rfl⟩
      have x3 : Ext w W3 := by rw [hW3]; exact X1.out.drewN nq
      rw [← hW3]
      have M3 := HM.out.ext x3
      have X3 := Lib.hid x3
      clear hW3 z0 z1 z2 z3 X1 x3
      have z1 := M3.ts.looked hp40
      clear M3
      go_wp2
      go_still_tail 10, (by kernel_rfl)
      change wpList _ _ _ _ _ W3.drew
      obtain ⟨W5, hW5⟩ : ∃ W5, W5 = W3.drew := ⟨_, rfl⟩
      rw [← hW5]
      have x5 : Ext w W5 := by rw [hW5]; exact X3.out.drew
      have M3 := HM.out.ext x5
      have G3 := HR.out.mem.ext x5
      clear hW5 z1 X3 x5
      have z1 := M3.ts.looked hp40
      have f1 := M3.ts.free (124 + p)
      have T4 : ∀ grv ov, TsAt W5 X (.slice (some ⟨bg, og, none⟩) g.length cv) grv ov S → TsAt (W5.setCell ⟨X, 124 + p, none⟩ (.int .i64 ((S.lk p : Int) + 1))) X (.slice (some ⟨bg, og, none⟩) g.length cv) grv ov (lookS S p) := fun grv ov h => by rw [HSL.out]; exact h.setLooked hp40 (S.lk p + 1)
      have T4' := T4 _ _ M3.ts
      have i5 : (0 : Int) ≤ (c : Int) := by omega
      have i6 : (c : Int) < 40 := by omega
      have z4 : (W5.setCell ⟨X, 124 + p, none⟩ (.int .i64 ((S.lk p : Int) + 1))).cell? ⟨X, 44 + c, none⟩ = some (.int .i64 (S.N c : Int)) := T4'.metAs hc40
      have z5 : (W5.setCell ⟨X, 124 + p, none⟩ (.int .i64 ((S.lk p : Int) + 1))).cell? ⟨X, 3 + c, none⟩ = some (.bool (S.op c)) := T4'.isOpen hc40
      have G4 := Lib.hid (G3.set hXB hwb (124 + p) (.int .i64 ((S.lk p : Int) + 1)) T4 rfl rfl)
      have F4 : Hid (Far g S0 (lookS S p)) := Lib.hid ⟨⟨HR.out.far.cnt.some, HR.out.far.cnt.all⟩, HR.out.far.mon⟩
      have HN := Lib.hid HS.out.num
      have HU := Lib.hid HR.out.un
      have HKN := Lib.hid HR.out.num
      have HLT := Lib.hid hlt
      clear G3 M3 T4 T4'
      by_cases hN : S.N c = 0
      · have e1 : ((S.N c : Int) == 0) = true := by rw [hN]; rfl
        have HN0 := Lib.hid hN
        clear hN z5
        go_wp2
        go_step3
        simp only [Exit.inBlock, Exit.then]
        refine .inl ⟨rfl, 4 * unmet S.N g.length + 2 * (way.length + 1), by have := HN.out; have := HU.out; omega, EnterS.at (S := lookS S p) (way := way ++ [p]) ⟨by simp [lookS], .inr ⟨S, way, p, HLT.out, rfl, rfl, HR.out.inv, HC2.out, HN0.out⟩, F4.out, .inl HR.out.one, G4.out⟩ rfl⟩
      · have e1 : ((S.N c : Int) == 0) = false := by simp [hN]
        have HN0 := Lib.hid hN
        clear hN
        cases ho : S.op c with
        | false =>
          rw [ho] at z5
          have hi := HR.out.inv.past HLT.out HC2.out HN0.out (fun h => by rw [ho] at h; cases h)
          have HI2 := Lib.hid hi
          clear ho hi
          go_wp2
          refine Handed.intro (k - 1) (by have := HKN.out; have := HLT.out; omega) (hJ _ _ _ (RoundS.at (S := lookS S p) ⟨?_, HU.out, HI2.out, F4.out, HR.out.one, G4.out⟩ rfl))
          have h1 := HKN.out
          have h2 := HLT.out
          show k - 1 + upd S.lk p (S.lk p + 1) p = _
          rw [upd_same]; omega
        | true =>
          rw [ho] at z5
          have hs := HR.out.inv.sees ho (Reach.self.step (by rw [← HC2.out]; exact List.getElem_mem HLT.out)) (S.N c) rfl
          have hi := Inv.past hs HLT.out HC2.out HN0.out (fun _ => by show upd S.bk p (min (S.bk p) (S.N c)) p ≤ _; rw [upd_same]; exact Nat.min_le_right _ _)
          have HI2 := Lib.hid hi
          have hmin : ∀ (ts : Array TypeId) (T : TypeId) (W : World) (x y : Int), (Builtin.min_ ts T #[.int .i64 x, .int .i64 y]).run Tryz.prog W = .ok (.int .i64 (mn x y)) W := fun ts T W x y => by simp only [run_min_int2]; rfl
          clear ho hs hi
          go_wp2
          obtain ⟨W6, hW6⟩ : ∃ W6, W6 = W5.setCell ⟨X, 124 + p, none⟩ (.int .i64 ((S.lk p : Int) + 1)) := ⟨_, rfl⟩
          rw [← hW6]
          have g6 : GoS B X wb (.slice (some ⟨bg, og, none⟩) g.length cv) W6 (lookS S p) (way ++ [p]) (.slice (some ⟨gw, 0, none⟩) (t + 1) cw) := by rw [hW6]; exact G4.out
          clear hW6 z1 f1 z4 z5 G4
          obtain ⟨grv6, ov6, vs6, m6, _⟩ := id g6
          have z6 : W6.cell? ⟨X, 84 + p, none⟩ = some (.int .i64 (S.bk p : Int)) := m6.ts.back hp40
          have z7 : W6.cell? ⟨X, 44 + c, none⟩ = some (.int .i64 (S.N c : Int)) := m6.ts.metAs hc40
          have G6 := Lib.hid g6
          clear g6 m6
          go_still_tail 18, (by kernel_rfl)
          change wpList _ _ _ _ _ W6.drew
          obtain ⟨W7, hW7⟩ : ∃ W7, W7 = W6.drew := ⟨_, rfl⟩
          rw [← hW7]
          have g7 := G6.out.ext (show Ext W6 W7 by rw [hW7]; exact (Ext.refl _).drew)
          clear hW7 z6 z7 hmin
          obtain ⟨grv7, ov7, vs7, m7, _⟩ := id g7
          have z8 := m7.ts.back hp40
          have f8 := m7.ts.free (84 + p)
          have G8 := Lib.hid (g7.set (S' := minS (lookS S p) p (S.N c)) hXB hwb (84 + p) (.int .i64 (mn (S.bk p : Int) (S.N c : Int))) (fun grv ov h => by rw [mn_nat]; exact h.setBack hp40 (min (S.bk p) (S.N c))) rfl rfl)
          clear g7 m7
          go_wp2
          refine Handed.intro (k - 1) (by have := HKN.out; have := HLT.out; omega) (hJ _ _ _ (RoundS.at (S := minS (lookS S p) p (S.N c)) ⟨?_, HU.out, HI2.out, ⟨⟨F4.out.cnt.some, F4.out.cnt.all⟩, F4.out.mon⟩, HR.out.one, G8.out⟩ rfl))
          have h1 := HKN.out
          have h2 := HLT.out
          show k - 1 + upd S.lk p (S.lk p + 1) p = _
          rw [upd_same]; omega
    · have hle := HR.out.inv.lkle p
      have hll : S.lk p = (rowN g p).length := by omega
      have HLL := Lib.hid hll
      have HN := Lib.hid HS.out.num
      have HU := Lib.hid HR.out.un
      have i4 : ¬ ((S.lk p : Int) < ((rowN g p).length : Int)) := by omega
      have HT := Lib.hid hlt'
      clear hle hll
      go_wp2
      go_quiet (fail)
      obtain ⟨W1, hW1⟩ : ∃ W1, W1 = w.drewN nq := ⟨_, rfl⟩
      have x1 : Ext w W1 := by rw [hW1]; exact (Ext.refl w).drewN nq
      rw [← hW1]
      have M1 := HM.out.ext x1
      have z5 := M1.ts.back hp40
      have z6 := M1.ts.metAs hp40
      have X1 := Lib.hid x1
      clear hW1 z0 z1 z2 x1 M1
      go_wp2
      go_quiet (fail)
      obtain ⟨W3, hW3⟩ : ∃ W3, W3 = W1.drewN nq := ⟨_, rfl⟩
      have x3 : Ext w W3 := by rw [hW3]; exact X1.out.drewN nq
      rw [← hW3]
      have G3 := HR.out.mem.ext x3
      clear hW3 z5 z6 X1 x3
      by_cases hb : S.bk p = S.N p
      · have e1 : ((S.bk p : Int) == (S.N p : Int)) = true := by rw [hb]; simp
        have hopn : p ∈ S.opn := (HR.out.inv.opn p).2 (HR.out.inv.wop p (by simp))
        obtain ⟨A, C, hAC⟩ := List.append_of_mem hopn
        have hpA : p ∉ A := fun e => by
          have := HR.out.inv.sort
          rw [hAC] at this
          have := (List.pairwise_append.1 this).2.2 p e p (by simp)
          omega
        obtain ⟨grv3, ov3, vs3, m3, w3, a1, a2, a3, a4⟩ := G3
        have hol : S.opn.length ≤ 40 := by have := HR.out.far.cnt.some; have := HR.out.far.cnt.all; omega
        have hgl : S.grp.length ≤ 40 := by have := HR.out.far.cnt.some; have := HR.out.far.cnt.all; omega
        have ho40 : ∀ q ∈ S.opn, q < 40 := fun q hq => by
          have := HR.out.inv.small q (HR.out.inv.opmet q ((HR.out.inv.opn q).1 hq))
          omega
        have heq : tellS S A C p = closeS g S A C p := by
          unfold tellS closeS
          rw [sort_group hg HR.out.inv HLL.out hb hAC]
        have hit := HR.out.inv.tell hg HLL.out hb hAC
        have HIT := Lib.hid hit
        have HEQ := Lib.hid heq
        have HAC := Lib.hid hAC
        have HB := Lib.hid hb
        have KK := Lib.hid (And.intro m3 (And.intro w3 (And.intro a1 (And.intro a2 a3))))
        clear hb hopn hit heq m3 w3 a1 a2 a3
        go_wp2_with fail
        refine (tsTell_any hsort X p B _ grv3 ov3 vs3 S A C _ KK.out.1 hXB a4 hAC hpA hol ho40 hgl).mono ?_
        rintro e W4 ⟨⟨r, rfl⟩, grv4, ov4, vs4, m4, k4, o4, v4⟩
        have G4 : Hid (GoS B X wb (.slice (some ⟨bg, og, none⟩) g.length cv) W4 (closeS g S A C p) (way ++ [p]) (.slice (some ⟨gw, 0, none⟩) (t + 1) cw)) := Lib.hid (by
          rw [← HEQ.out]
          exact GoS.tell KK.out.1 KK.out.2.1 KK.out.2.2.1 KK.out.2.2.2.1 KK.out.2.2.2.2 a4 hXB hwb m4 k4 o4 v4)
        have F9 : Hid (Far g S0 (closeS g S A C p)) := Lib.hid (by
          rw [← HEQ.out]
          exact ⟨HR.out.far.cnt.tell HAC.out, HR.out.far.mon⟩)
        have O9 : Hid ((closeS g S A C p).N c0 ≠ 0) := Lib.hid HR.out.one
        clear m4 k4 o4 v4 KK hAC hpA hol hgl ho40 a4 e1
        by_cases ht0 : t = 0
        · subst ht0
          have hway : way = [] := List.eq_nil_of_length_eq_zero HT.out
          subst hway
          have G9 := Lib.hid (G4.out.pop rfl)
          have HI9 := Lib.hid HIT.out
          skip
          go_wp2
          simp only [twoWays]
          go_end0
          exact ⟨⟨_, rfl⟩, (closeS g S A C p), _, HI9.out, F9.out, O9.out, G9.out⟩
        · obtain ⟨t1, rfl⟩ : ∃ t1, t = t1 + 1 := ⟨t - 1, by omega⟩
          obtain ⟨w1, q, rfl⟩ := last_nat way (fun e => by have := HT.out; rw [e] at this; simp at this)
          have HT1 : Hid (w1.length = t1) := Lib.hid (by have := HT.out; simp at this; omega)
          have hwq := (show Inv g (minS (closeS g S A C p) q (S.bk p)) (w1 ++ [q]) by rw [HIT.out.min_none (HIT.out.wop q (by simp)) (by rw [HB.out]; exact Nat.le_of_lt (HR.out.inv.last_most q (by simp)))]; exact HIT.out)
          have hq40 : q < 40 := by have := HR.out.inv.small q (HR.out.inv.opmet q (HR.out.inv.wop q (by simp))); omega
          obtain ⟨grv8, ov8, vs8, m8, hw8, _⟩ := id G4.out
          have hq : W4.cell? ⟨gw, t1, none⟩ = some (.int .i64 (q : Int)) := by
            unfold Fresh at hw8
            rw [natsI_len, show (w1 ++ [q] ++ [p]).length = t1 + 1 + 1 by have := HT1.out; simp; omega] at hw8
            have := World.ownsRow.cellAt hw8 t1 (by omega)
            rw [this, List.getElem?_map]
            unfold natsI
            rw [List.getElem?_map, List.getElem?_append_left (by have := HT1.out; simp; omega), List.getElem?_append_right (by have := HT1.out; omega), HT1.out]
            simp
          have z6 : W4.cell? ⟨X, 84 + q, none⟩ = some (.int .i64 (S.bk q : Int)) := m8.ts.back hq40
          have z7 : W4.cell? ⟨X, 84 + p, none⟩ = some (.int .i64 (S.bk p : Int)) := m8.ts.back hp40
          have hmin : ∀ (ts : Array TypeId) (T : TypeId) (W : World) (x y : Int), (Builtin.min_ ts T #[.int .i64 x, .int .i64 y]).run Tryz.prog W = .ok (.int .i64 (mn x y)) W := fun ts T W x y => by simp only [run_min_int2]; rfl
          have i5 : (0 : Int) ≤ (q : Int) := by omega
          have i6 : (q : Int) < 40 := by omega
          have HWQ := Lib.hid hwq
          have ic : (0 : Int) ≤ (t1 : Int) + 1 ∧ (t1 : Int) + 1 ≤ (cw : Int) := by omega
          clear hwq m8 hw8
          go_wp2
          go_still_tail 18, (by kernel_rfl)
          change wpList _ _ _ _ _ W4.drew
          obtain ⟨W7, hW7⟩ : ∃ W7, W7 = W4.drew := ⟨_, rfl⟩
          rw [← hW7]
          have g7 := G4.out.ext (show Ext W4 W7 by rw [hW7]; exact (Ext.refl _).drew)
          clear hW7 z6 z7 hmin hq
          obtain ⟨grv7, ov7, vs7, m7, _⟩ := id g7
          have z8 := m7.ts.back hq40
          have f8 := m7.ts.free (84 + q)
          have G8 := Lib.hid ((g7.pop HT.out).set (S' := minS (closeS g S A C p) q (S.bk p)) hXB hwb (84 + q) (.int .i64 (mn (S.bk q : Int) (S.bk p : Int))) (fun grv ov h => by rw [mn_nat]; exact h.setBack hq40 (min (S.bk q) (S.bk p))) rfl rfl)
          clear g7 m7
          go_wp2
          go_step3
          refine Or.inr ⟨rfl, 4 * unmet S.N g.length + 2 * (w1.length + 1) + 1, by have := HN.out; have := HU.out; have := HT.out; have := HT1.out; omega, LookS.at (S := minS (closeS g S A C p) q (S.bk p)) (way := w1) ⟨rfl, HWQ.out, ⟨⟨F9.out.cnt.some, F9.out.cnt.all⟩, F9.out.mon⟩, O9.out, G8.out⟩ rfl⟩
      · have e1 : ((S.bk p : Int) == (S.N p : Int)) = false := by
          have : (S.bk p : Int) ≠ (S.N p : Int) := by omega
          simp [this]
        have hbl : S.bk p < S.N p := by
          have := HR.out.inv.low1 p (HR.out.inv.wop p (by simp))
          omega
        have HBL := Lib.hid hbl
        obtain ⟨W4, hW4⟩ : ∃ W4, W4 = W3 := ⟨_, rfl⟩
        subst hW4
        have G4 := Lib.hid G3
        have F9 := Lib.hid HR.out.far
        have O9 := Lib.hid HR.out.one
        clear G3 hb hbl
        by_cases ht0 : t = 0
        · subst ht0
          have hway : way = [] := List.eq_nil_of_length_eq_zero HT.out
          subst hway
          have G9 := Lib.hid (G4.out.pop rfl)
          have HI9 := Lib.hid (show Inv g S [] from absurd (HR.out.inv.root_low (by have := HBL.out; omega)) (by simp))
          skip
          go_wp2
          simp only [twoWays]
          go_end0
          exact ⟨⟨_, rfl⟩, S, _, HI9.out, F9.out, O9.out, G9.out⟩
        · obtain ⟨t1, rfl⟩ : ∃ t1, t = t1 + 1 := ⟨t - 1, by omega⟩
          obtain ⟨w1, q, rfl⟩ := last_nat way (fun e => by have := HT.out; rw [e] at this; simp at this)
          have HT1 : Hid (w1.length = t1) := Lib.hid (by have := HT.out; simp at this; omega)
          have hwq := HR.out.inv.back HLL.out HBL.out
          have hq40 : q < 40 := by have := HR.out.inv.small q (HR.out.inv.opmet q (HR.out.inv.wop q (by simp))); omega
          obtain ⟨grv8, ov8, vs8, m8, hw8, _⟩ := id G4.out
          have hq : W4.cell? ⟨gw, t1, none⟩ = some (.int .i64 (q : Int)) := by
            unfold Fresh at hw8
            rw [natsI_len, show (w1 ++ [q] ++ [p]).length = t1 + 1 + 1 by have := HT1.out; simp; omega] at hw8
            have := World.ownsRow.cellAt hw8 t1 (by omega)
            rw [this, List.getElem?_map]
            unfold natsI
            rw [List.getElem?_map, List.getElem?_append_left (by have := HT1.out; simp; omega), List.getElem?_append_right (by have := HT1.out; omega), HT1.out]
            simp
          have z6 : W4.cell? ⟨X, 84 + q, none⟩ = some (.int .i64 (S.bk q : Int)) := m8.ts.back hq40
          have z7 : W4.cell? ⟨X, 84 + p, none⟩ = some (.int .i64 (S.bk p : Int)) := m8.ts.back hp40
          have hmin : ∀ (ts : Array TypeId) (T : TypeId) (W : World) (x y : Int), (Builtin.min_ ts T #[.int .i64 x, .int .i64 y]).run Tryz.prog W = .ok (.int .i64 (mn x y)) W := fun ts T W x y => by simp only [run_min_int2]; rfl
          have i5 : (0 : Int) ≤ (q : Int) := by omega
          have i6 : (q : Int) < 40 := by omega
          have HWQ := Lib.hid hwq
          have ic : (0 : Int) ≤ (t1 : Int) + 1 ∧ (t1 : Int) + 1 ≤ (cw : Int) := by omega
          clear hwq m8 hw8
          go_wp2
          go_still_tail 18, (by kernel_rfl)
          change wpList _ _ _ _ _ W4.drew
          obtain ⟨W7, hW7⟩ : ∃ W7, W7 = W4.drew := ⟨_, rfl⟩
          rw [← hW7]
          have g7 := G4.out.ext (show Ext W4 W7 by rw [hW7]; exact (Ext.refl _).drew)
          clear hW7 z6 z7 hmin hq
          obtain ⟨grv7, ov7, vs7, m7, _⟩ := id g7
          have z8 := m7.ts.back hq40
          have f8 := m7.ts.free (84 + q)
          have G8 := Lib.hid ((g7.pop HT.out).set (S' := minS S q (S.bk p)) hXB hwb (84 + q) (.int .i64 (mn (S.bk q : Int) (S.bk p : Int))) (fun grv ov h => by rw [mn_nat]; exact h.setBack hq40 (min (S.bk q) (S.bk p))) rfl rfl)
          clear g7 m7
          go_wp2
          go_step3
          refine Or.inr ⟨rfl, 4 * unmet S.N g.length + 2 * (w1.length + 1) + 1, by have := HN.out; have := HU.out; have := HT.out; have := HT1.out; omega, LookS.at (S := minS S q (S.bk p)) (way := w1) ⟨rfl, HWQ.out, ⟨⟨F9.out.cnt.some, F9.out.cnt.all⟩, F9.out.mon⟩, O9.out, G8.out⟩ rfl⟩
  case enter =>
    clear hG hI hC
    rintro look n a w ⟨x, c, way, S, wv, rfl, hS⟩
    obtain ⟨hcg, hcn⟩ := hS.pre.point hg
    have hc40 : c < 40 := by omega
    have hinv := hS.pre.meet hg
    obtain ⟨grv, ov, vs, hm, hw, a1, a2, a3, a4⟩ := id hS.mem
    have hmet : S.met ≤ 40 := by have := hS.far.cnt.some; have := hS.far.cnt.all; omega
    have hol : S.opn.length ≤ 40 := by have := hS.far.cnt.some; have := hS.far.cnt.all; omega
    have LK := Lib.hid look
    have HS := Lib.hid hS
    have HI := Lib.hid hinv
    have KK := Lib.hid (And.intro hm (And.intro hw (And.intro a1 (And.intro a2 a3))))
    clear look hS hinv hm hw a1 a2 a3
    go_wp2_with fail
    refine (tsMeet_any X c B _ grv ov S w KK.out.1.ts KK.out.1.opn hXB a4 hc40 hmet hol).mono ?_
    rintro e W1 ⟨⟨r, rfl⟩, g1, cap1, t1, f1, k1, o1⟩
    have G1 := Lib.hid (GoS.meet KK.out.1 KK.out.2.1 KK.out.2.2.1 KK.out.2.2.2.1 KK.out.2.2.2.2 a4 hXB hwb t1 f1 k1 o1)
    clear t1 f1 k1 o1 KK a4
    obtain ⟨grv1, ov1, vs1, m1, w1, b1, b2, b3, b4⟩ := id G1.out
    have KK := Lib.hid (And.intro m1 (And.intro w1 (And.intro b1 (And.intro b2 b3))))
    clear m1 w1 b1 b2 b3
    have hwl : (natsI way).length ≤ 1099511627776 := by
      have h1 := HI.out.way_len
      rw [List.length_append] at h1
      have h2 : (meetS S c).met = S.met + 1 := rfl
      rw [natsI_len]; omega
    have hcl := cell_alloc_one W1 (.int .i64 (c : Int)) 3
    have HCL := Lib.hid hcl
    have HWA : Hid (Fresh B (W1.alloc (.cells #[.int .i64 (c : Int)] 3)) wv (natsI way)) := Lib.hid (Fresh.ext KK.out.2.1 (Ext.alloc (Ext.refl _) _))
    have hBE : B ≤ (W1.alloc (.cells #[.int .i64 (c : Int)] 3)).heap.size := size_alloc_le b4
    have HBE := Lib.hid hBE
    clear hcl hBE
    go_wp2_with (at_builtin; refine wpList_push_lies rfl _ _ rfl B wv (natsI way) (c : Int) rfl HWA.out ⟨W1.heap.size, 0, none⟩ 1 rfl HCL.out hwl HBE.out _ rfl ?_)
    intro g2 cap2 W2 f2 k2 o2
    have hlen : (natsI way).length = way.length := natsI_len way
    rw [hlen] at f2 ⊢
    have e2 : natsI way ++ [(c : Int)] = natsI (way ++ [c]) := by simp [natsI]
    rw [e2] at f2
    have G2 := Lib.hid (G1.out.push hXB hwb f2 k2 (o2.imp id (fun h => by rw [h]; simp)))
    clear f2 k2 o2 e2 hlen HWA HCL HBE KK
    go_wp2_with fail
    rename_i K1 hK1
    go_step3
    refine hK1 _ _ ?_
    have hun := HS.out.far.cnt.left hcg hcn
    refine Code.wp_mono2 (LK.out (4 * unmet (meetS S c).N g.length + 2 * (way.length + 1) + 1) _ _ (LookS.at (S := meetS S c) (way := way) (p := c) ⟨rfl, HI.out, ⟨HS.out.far.cnt.meet hcg hcn, fun q hq => ?_⟩, ?_, G2.out⟩ rfl)) ?_
    · have h1 := HS.out.far.mon q hq
      show upd S.N c (S.met + 1) q ≠ 0
      unfold upd
      split
      · omega
      · exact h1
    · show upd S.N c (S.met + 1) c0 ≠ 0
      unfold upd
      split
      · omega
      · rename_i hne
        rcases HS.out.one with h1 | h1
        · exact h1
        · exact absurd h1.symm hne
    · have hnum := HS.out.num
      rintro (_ | _ | l | _ | _ | _) a w h
      · exact h
      · exact h
      · rcases h with ⟨rfl, m, hm, hJ⟩ | ⟨rfl, m, hm, hJ⟩
        · exact Or.inl ⟨rfl, m, by omega, hJ⟩
        · exact Or.inr ⟨rfl, m, by omega, hJ⟩
      · exact h
      · exact h
      · exact h
  case first =>
    intro enter
    have LK := Lib.hid enter
    have GG := Lib.hid hG
    have IC := Lib.hid (And.intro hI hC)
    clear enter hG hI hC
    go_wp2_with fail
    rename_i K1 hK1
    go_step3
    refine hK1 _ _ ?_
    refine Code.wp_mono2 (LK.out (4 * unmet S0.N g.length + 2 * 0) _ _ (EnterS.at (S := S0) (way := []) (c := c0) ⟨rfl, .inl ⟨rfl, IC.out.1, hc0, hn0⟩, ⟨IC.out.2, fun q hq => hq⟩, .inr rfl, ?_⟩ rfl)) ?_
    · obtain ⟨grv, ov, vs, hm, hw, a1, a2, a3, a4⟩ := GG.out
      exact ⟨grv, ov, vs, hm, fresh_nil _ _, .inl rfl, fun j u hu => by cases hz : u.ownBlock with
        | none => exact .inl rfl
        | some b => exact .inr (by simp [Value.ownBlock]), a3, a4⟩
    · rintro (_ | _ | l | _ | _ | _) a w h
      · exact h
      · exact h
      · rcases h with ⟨rfl, m, hm, hJ⟩ | ⟨rfl, m, hm, hJ⟩
        · exact Or.inl ⟨rfl, m, hJ⟩
        · exact Or.inr ⟨rfl, m, hJ⟩
      · exact h
      · exact h
      · exact h
end Go.Proofs.YtcpmfcigciknlaaGreat

namespace Go.Proofs.YtcpmfcigciknlaaGreat
open Go.RowKit
set_option linter.unusedVariables false
def GroupsOf (g : List (List Int)) (w : World) (e : Ending) (w' : World) : Prop := ∃ v vs L, e = .returned v ∧ FreshV w.heap.size w' v vs ∧ Rows_ w.heap.size w' vs L ∧ Ext w w' ∧ Told g L
set_option maxRecDepth 100000 in
theorem tsStart_cells (gv : Value) : Tryz.zeroCells284.toList.set 0 gv = tsCells gv (.slice none 0 0) (.slice none 0 0) tsStart := by
  unfold Tryz.zeroCells284 tsCells
  rfl
theorem info_ts : (Tryz.prog.info? 284).map (·.size) = some 164 := by kernel_rfl
theorem store_start (w : World) (gv : Value) (h1 : gv.oneCell' = true) :
    Sem.run Tryz.prog (storeCells ⟨w.heap.size, 0, none⟩ (Tryz.zeroCells284.toList.set 0 gv)) (w.alloc (.cells Tryz.zeroCells284 284)) = .ok () (w.alloc (.cells (tsCells gv (.slice none 0 0) (.slice none 0 0) tsStart).toArray 284)) := by
  rw [tsStart_cells]
  have hz : Tryz.zeroCells284.size = (tsCells gv (.slice none 0 0) (.slice none 0 0) tsStart).toArray.size := by
    rw [show (tsCells gv (.slice none 0 0) (.slice none 0 0) tsStart).toArray.size = 164 by rw [List.size_toArray, tsCells_len]]; rfl
  refine run_storeCells_new (P := Tryz.prog) w 284 Tryz.zeroCells284 (tsCells gv (.slice none 0 0) (.slice none 0 0) tsStart).toArray ?_ hz ?_
  · rw [List.size_toArray, tsCells_len]; exact info_ts
  · rw [Array.all_eq_true]
    intro i hi
    rw [List.size_toArray, tsCells_len] at hi
    have : (tsCells gv (.slice none 0 0) (.slice none 0 0) tsStart).toArray[i]? = some (tsCell gv (.slice none 0 0) (.slice none 0 0) tsStart i) := by
      rw [List.getElem?_toArray]; exact tsCells_get _ _ _ _ hi
    rw [Array.getElem?_eq_getElem (by rw [List.size_toArray, tsCells_len]; exact hi)] at this
    rw [Option.some.inj this]
    unfold tsCell
    split
    · split
      · exact h1
      · split <;> rfl
    · split
      · rfl
      · split
        · rfl
        · split
          · rfl
          · split <;> rfl
theorem Inv.told {g : List (List Int)} {S : TS} (h : Inv g S []) (hc : Cnt g S) (ha : ∀ q : Nat, q < g.length → S.N q ≠ 0) : Told g S.grp := by
  have hno : ∀ q, S.op q = false := fun q => by
    cases e : S.op q with
    | false => rfl
    | true => obtain ⟨p, hp, _⟩ := h.root q e; simp at hp
  refine ⟨fun G hG => ?_, fun q hq => h.cov q (ha q hq) (hno q), h.apart, ?_⟩
  · obtain ⟨k, hk, e, _⟩ := h.grp G hG
    exact ⟨k, hk, e⟩
  · have := hc.some; have := hc.all; omega
theorem GoS.start {X : Nat} {w : World} {gv : Value} (hX : w.heap.size = X) : GoS (X + 1) X w gv (w.alloc (.cells (tsCells gv (.slice none 0 0) (.slice none 0 0) tsStart).toArray 284)) tsStart [] (.slice none 0 0) := by
  subst hX
  refine ⟨.slice none 0 0, .slice none 0 0, [], ⟨?_, fresh_nil _ _, FreshV.nil _ _, Rows_.nil _ _, fun j u hu => by simp at hu⟩, fresh_nil _ _, .inl rfl, fun j u hu => by simp at hu, Ext.alloc (Ext.refl _) _, by simp⟩
  unfold TsAt
  exact heap_alloc_last w _
set_option maxRecDepth 100000 in
set_option maxHeartbeats 4000000 in
theorem groupsOf_any (hsort : SortOk) (g : List (List Int)) (hg : rowsB g = true) (hl : g.length ≤ 40) (gv : Value) (w : World) (hgv : Intss w gv g) :
    Calls Tryz.prog 192 #[gv] w (GroupsOf g w) := by
  have HGV := Lib.hid hgv
  obtain ⟨av, cv, rfl, hlv, _, _⟩ := hgv
  unfold maxLen at hlv
  go_enter Tryz.func192, Tryz.ntmps192
  have hst := fun W : World => store_start W (.slice av g.length cv) rfl
  obtain ⟨X, hX⟩ : ∃ X, w.heap.size = X := ⟨_, rfl⟩
  have hG0 := Lib.hid (GoS.start (gv := .slice av g.length cv) hX)
  have HX := Lib.hid hX
  clear hX
  go_wp2_with fail
  clear hst
  rw [HX.out]
  have hX := HX.out
  obtain ⟨W0, hW0⟩ : ∃ W0, W0 = w.alloc (.cells (tsCells (.slice av g.length cv) (.slice none 0 0) (.slice none 0 0) tsStart).toArray 284) := ⟨_, rfl⟩
  rw [← hW0]
  have hG : Hid (GoS (X + 1) X w (.slice av g.length cv) W0 tsStart [] (.slice none 0 0)) := Lib.hid (by rw [hW0]; exact hG0.out)
  clear hW0 hG0
  go_loopw [4, 9] (fun _ i wr => ∃ (k : Nat) (S : TS) (wv : Value), k ≤ g.length ∧ i = .int .i64 k ∧ Hid (Inv g S [] ∧ Cnt g S ∧ ∀ q : Nat, q < k → S.N q ≠ 0) ∧ Hid (GoS (X + 1) X w (.slice av g.length cv) wr S [] wv)) (fun _ i _ => g.length - (intOf i).toNat)
  case atStart => exact ⟨0, tsStart, _, Nat.zero_le _, rfl, Lib.hid ⟨Inv.start g, ⟨by simp [tsStart], by simp [tsStart, unmet_start]⟩, fun q hq => by omega⟩, hG⟩
  case round =>
    clear hG
    obtain ⟨k, S, wv, hk, rfl, hI, hG⟩ := hrel
    obtain ⟨grv, ov, vs, hm, _, _, _, hx, _⟩ := id hG.out
    by_cases hlt : k < g.length
    · have hk40 : k < 40 := by omega
      have z1 := hm.ts.metAs hk40
      have i0 : (0 : Int) ≤ (k : Int) := by omega
      have i1 : (k : Int) < 40 := by omega
      clear hm hx
      by_cases hN : S.N k = 0
      · have e1 : ((S.N k : Int) == 0) = true := by rw [hN]; rfl
        go_wp2_with fail
        refine (goFrom_any hsort g hg hl S k (X + 1) X w _ wv HGV.out (Nat.lt_succ_self X) (by omega) wr hI.out.1 hI.out.2.1 hlt hN hG.out).mono ?_
        rintro e W1 ⟨⟨r, rfl⟩, S1, wv1, i2, f1, n1, g1⟩
        go_wp2
        go_roundw
        case rel => exact ⟨k + 1, S1, wv1, by omega, by go_num, Lib.hid ⟨i2, f1.cnt, fun q hq => by
            by_cases e : q = k
            · subst e; exact n1
            · exact f1.mon q (hI.out.2.2 q (by omega))⟩, Lib.hid g1⟩
        case measure => simp [intOf]; omega
      · have e1 : ((S.N k : Int) == 0) = false := by simp [hN]
        go_wp2
        go_roundw
        case rel => exact ⟨k + 1, S, wv, by omega, by go_num, Lib.hid ⟨hI.out.1, hI.out.2.1, fun q hq => by
            by_cases e : q = k
            · subst e; exact hN
            · exact hI.out.2.2 q (by omega)⟩, hG⟩
        case measure => simp [intOf]; omega
    · obtain rfl : k = g.length := by omega
      have z1 := hm.ts.groups
      have hgr := hm.grp
      have hro := hm.rows
      clear hm
      go_wp2
      go_ret
      exact ⟨grv, vs, S.grp, rfl, hgr.more (by omega), hro.more (by omega), hx, hI.out.1.told hI.out.2.1 hI.out.2.2⟩
end Go.Proofs.YtcpmfcigciknlaaGreat

namespace Go.Proofs.YtcpmfcigciknlaaGreat
open Go.RowKit
set_option linter.unusedVariables false
def tbOf (bs : List Bool) (q : Nat) : Bool := bs[q]?.getD false
set_option maxRecDepth 100000 in
set_option maxHeartbeats 4000000 in
theorem isFree_any (gv Gv : Value) (g : List (List Int)) (G : List Int) (bs : List Bool) (hbs : bs.length = 40) (w : World) (hgv : Intss w gv g) (hGv : Ints w Gv G) (hg : rowsB g = true) (hl : g.length ≤ 40) (hG : ∀ p ∈ G, 0 ≤ p ∧ p < (g.length : Int)) :
    Calls Tryz.prog 197 #[gv, Gv, .agg (marksB bs)] w (BoolExt (isFreeB g G (tbOf bs)) w) := by
  have HGV := Lib.hid hgv
  have HG := Lib.hid hGv
  obtain ⟨av, cv, rfl, hlv, _, dv⟩ := hgv
  obtain ⟨aG, cG, rfl, hlG, _, dG⟩ := hGv
  unfold maxLen at hlv hlG
  have DV := Lib.hid dv
  have DG := Lib.hid dG
  have HGI := Lib.hid hG
  have HRW := Lib.hid hg
  have HBS := Lib.hid hbs
  clear dv dG hG hg hbs
  go_enter Tryz.func197, Tryz.ntmps197
  go_wp2
  obtain ⟨wb, hwb⟩ : ∃ x : World, x = w.alloc (.cells (marksB bs) 255) := ⟨_, rfl⟩
  have hxb : Ext w wb := by rw [hwb]; exact Ext.alloc (Ext.refl _) _
  have hbk : wb.heap[w.heap.size]? = some (.cells (marksB bs) 255 (0, 0)) := by rw [hwb]; exact heap_alloc_last w _
  have hmk : ∀ q : Nat, q < 40 → wb.cell? ⟨w.heap.size, q, none⟩ = some (.bool (tbOf bs q)) := fun q hq => by
    have hlt : q < bs.length := by rw [HBS.out]; exact hq
    rw [cell_of_row wb _ _ _ _ _ hbk, marksB_get, List.getElem?_eq_getElem hlt]
    simp [tbOf, hlt]
  have HXB := Lib.hid hxb
  have HMK := Lib.hid hmk
  rw [← hwb]
  clear hwb hxb hbk hmk
  go_loopw [8, 10, 13] (fun _ _ i wr => ∃ s : Nat, s ≤ G.length ∧ i = .int .i64 s ∧ Hid (∀ p ∈ G.take s, (rowG g p).all (fun o => tbOf bs o.toNat || hasI G o) = true) ∧ Ext wb wr) (fun _ _ i _ => G.length - (intOf i).toNat)
  case atStart => exact ⟨0, Nat.zero_le _, rfl, Lib.hid (fun p hp => by simp at hp), Ext.refl _⟩
  case round =>
    obtain ⟨s, hs, rfl, hA, hx⟩ := hrel
    by_cases hlt : s < G.length
    · obtain ⟨bG, oG, rfl, eG⟩ := DG.out (by omega)
      have zp := (HXB.out.trans hx).cell (eG s hlt)
      rw [List.getElem?_eq_getElem hlt, Option.getD_some] at zp
      have hpb := HGI.out _ (List.getElem_mem hlt)
      obtain ⟨p, hp⟩ : ∃ p : Nat, G[s] = (p : Int) := ⟨G[s].toNat, by omega⟩
      have hpg : p < g.length := by omega
      have HSC : Hid ((rowG g (p : Int)).all (fun o => tbOf bs o.toNat || hasI G o) = true → ∀ q ∈ G.take (s + 1), (rowG g q).all (fun o => tbOf bs o.toNat || hasI G o) = true) := Lib.hid (fun h q hq => by
        rw [List.take_add_one, List.getElem?_eq_getElem hlt] at hq
        rcases List.mem_append.1 hq with hq | hq
        · exact hA.out q hq
        · have : q = G[s] := by simpa using hq
          rw [this, hp]; exact h)
      have HSN : Hid ((rowG g (p : Int)).all (fun o => tbOf bs o.toNat || hasI G o) = false → isFreeB g G (tbOf bs) = false) := Lib.hid (fun h => by
        unfold isFreeB
        rw [List.all_eq_false]
        exact ⟨G[s], List.getElem_mem hlt, by rw [hp, h]; simp⟩)
      rw [hp] at zp
      obtain ⟨bg, og, rfl, eg⟩ := DV.out (by omega)
      obtain ⟨ur, hur, ir⟩ := eg p hpg
      rw [List.getElem?_eq_getElem hpg, Option.getD_some, ← rowG_at hpg] at ir
      have zr := (HXB.out.trans hx).cell hur
      have HX := Lib.hid hx
      have HRI := Lib.hid (fun o ho => row_in HRW.out (p := (p : Int)) (c := o) ho)
      obtain ⟨R, hR⟩ : ∃ R, R = rowG g (p : Int) := ⟨_, rfl⟩
      rw [← hR] at ir HSC HSN HRI
      obtain ⟨ar, cr, rfl, hlr, _, dr⟩ := ir
      unfold maxLen at hlr
      have DR := Lib.hid dr
      obtain ⟨w2, hw2⟩ : ∃ x : World, x = wr := ⟨_, rfl⟩
      subst hw2
      clear eG eg hpb hp hur hR dr hx hA
      go_wp2
      go_loopw [10, 22] (fun _ i wr => ∃ t : Nat, t ≤ R.length ∧ i = .int .i64 t ∧ Hid ((R.take t).all (fun o => tbOf bs o.toNat || hasI G o) = true) ∧ Ext w2 wr) (fun _ i _ => R.length - (intOf i).toNat)
      case atStart => exact ⟨0, Nat.zero_le _, rfl, Lib.hid (by simp), Ext.refl _⟩
      case round =>
        obtain ⟨t, ht, rfl, hB, hx2⟩ := hrel
        by_cases hlt2 : t < R.length
        · obtain ⟨br, orr, rfl, er⟩ := DR.out (by omega)
          have HX3 := Lib.hid (HXB.out.trans (HX.out.trans hx2))
          have zo := HX3.out.cell (er t hlt2)
          rw [List.getElem?_eq_getElem hlt2, Option.getD_some] at zo
          have hob := HRI.out _ (List.getElem_mem hlt2)
          obtain ⟨o, ho⟩ : ∃ o : Nat, R[t] = (o : Int) := ⟨R[t].toNat, by omega⟩
          have ho40 : o < 40 := by omega
          have htk : (R.take (t + 1)).all (fun o => tbOf bs o.toNat || hasI G o) = ((R.take t).all (fun o => tbOf bs o.toNat || hasI G o) && (tbOf bs o || hasI G (o : Int))) := by
            rw [List.take_add_one, List.getElem?_eq_getElem hlt2, List.all_append, ho]
            simp
          rw [hB.out, Bool.true_and] at htk
          have hno : (tbOf bs o || hasI G (o : Int)) = false → R.all (fun o => tbOf bs o.toNat || hasI G o) = false := fun h => by
            rw [List.all_eq_false]
            exact ⟨R[t], List.getElem_mem hlt2, by rw [ho]; simpa using h⟩
          rw [ho] at zo
          have zm := (HX.out.trans hx2).cell (HMK.out o ho40)
          have i0 : (0 : Int) ≤ (o : Int) := by omega
          have i1 : (o : Int) < 40 := by omega
          have HTK := Lib.hid htk
          have HNO := Lib.hid hno
          have HX2 := Lib.hid hx2
          obtain ⟨m, hm⟩ : ∃ m, m = tbOf bs o := ⟨_, rfl⟩
          rw [← hm] at zm HTK HNO
          clear er ho hob htk hno hx2 hB hm
          cases m with
          | true =>
            go_wp2
            go_roundw
            case rel => exact ⟨t + 1, by omega, by go_num, Lib.hid (by rw [HTK.out]; rfl), HX2.out⟩
            case measure => simp [intOf]; omega
          | false =>
            go_wp2_with fail
            refine (contains_any _ G _ _ (HG.out.ext HX3.out)).mono ?_
            rintro e w5 ⟨rfl, x5⟩
            rw [Bool.false_or] at HTK HNO
            obtain ⟨hh, hhh⟩ : ∃ hh, hh = hasI G (o : Int) := ⟨_, rfl⟩
            rw [← hhh] at HTK HNO ⊢
            have HX5 := Lib.hid (HX2.out.trans x5)
            clear hhh x5 zo zm
            cases hh with
            | true =>
              go_wp2
              go_roundw
              case rel => exact ⟨t + 1, by omega, by go_num, Lib.hid HTK.out, HX5.out⟩
              case measure => simp [intOf]; omega
            | false =>
              go_wp2
              go_ret
              exact ⟨by rw [HSN.out (HNO.out (by first | rfl | trivial))]; rfl, HXB.out.trans (HX.out.trans HX5.out)⟩
        · obtain rfl : t = R.length := by omega
          have HSC2 := Lib.hid (HSC.out (by have := hB.out; rwa [List.take_length] at this))
          go_wp2
          go_roundw
          case rel => exact ⟨s + 1, by omega, by go_num, HSC2, HX.out.trans hx2⟩
          case measure => simp [intOf]; omega
    · obtain rfl : s = G.length := by omega
      have HT : Hid (isFreeB g G (tbOf bs) = true) := Lib.hid (by
        have := hA.out
        rw [List.take_length] at this
        unfold isFreeB
        rw [List.all_eq_true]
        exact this)
      go_wp2
      go_ret
      exact ⟨by rw [HT.out]; rfl, HXB.out.trans hx⟩
end Go.Proofs.YtcpmfcigciknlaaGreat

namespace Go.Proofs.YtcpmfcigciknlaaGreat
open Go.RowKit
set_option linter.unusedVariables false
set_option maxRecDepth 100000 in
set_option maxHeartbeats 4000000 in
theorem freeClosure_any (gv Gv : Value) (g : List (List Int)) (G : List Int) (bs : List Bool) (hbs : bs.length = 40) (w : World) (b1 b2 : Nat) (h1 : w.cell? ⟨b1, 0, none⟩ = some gv) (h2 : w.heap[b2]? = some (.cells (marksB bs) 255 (0, 0))) (hgv : Intss w gv g) (hGv : Ints w Gv G) (hg : rowsB g = true) (hl : g.length ≤ 40) (hG : ∀ p ∈ G, 0 ≤ p ∧ p < (g.length : Int)) :
    Calls Tryz.prog 196 #[Gv, .pointer (some ⟨b1, 0, none⟩), .pointer (some ⟨b2, 0, none⟩)] w (BoolExt (isFreeB g G (tbOf bs)) w) := by
  have HC := Lib.hid (isFree_any gv Gv g G bs hbs w hgv hGv hg hl hG)
  have H2 := Lib.hid h2
  clear hgv hGv hg hG h2
  go_enter Tryz.func196, Tryz.ntmps196
  have HZ : Hid ((marksB bs).size = 40) := Lib.hid (by rw [marksB_size, hbs])
  go_wp2_with (refine wpList_load_row rfl 255 _ rfl b2 rfl _ _ _ _ H2.out Tryz.underlying255 rfl (by rw [HZ.out]; exact Tryz.infoFourty) ?_)
  refine HC.out.mono ?_
  rintro e w1 ⟨rfl, x1⟩
  go_wp2
  go_ret
  exact ⟨rfl, x1⟩
set_option maxRecDepth 100000 in
set_option maxHeartbeats 4000000 in
theorem indexFree_any (lv p1 p2 : Value) (vs : List Value) (n : Nat) (w : World) (hn : vs.length = n) (hv : FreshV 0 w lv vs) (F : Nat → Bool)
    (hc : ∀ (j : Nat) (u : Value), vs[j]? = some u → ∀ W, Ext w W → Calls Tryz.prog 196 #[u, p1, p2] W (BoolExt (F j) W))
    (k : Nat) (hk : k < n) (hy : F k = true) (hno : ∀ j, j < k → F j = false) (hn2 : n ≤ 1048576) :
    Calls Tryz.prog 195 #[lv, .func (.func 196) #[] #[p1, p2]] w (IntExt (k : Int) w) := by
  obtain ⟨g, cap, rfl, h1, h2⟩ := hv.form (n := n) hn (by omega)
  unfold maxLen at h2
  have HV := Lib.hid hv
  have HC := Lib.hid hc
  have HN := Lib.hid hn
  have HY := Lib.hid hy
  have HNO := Lib.hid hno
  clear hv hc hn hy hno
  go_enter Tryz.func195, Tryz.ntmps195
  go_wp2
  go_loopw [5, 8] (fun _ i wr => ∃ j : Nat, j ≤ k ∧ i = .int .i64 j ∧ Ext w wr) (fun _ i _ => n - (intOf i).toNat)
  case atStart => exact ⟨0, Nat.zero_le _, rfl, Ext.refl _⟩
  case round =>
    obtain ⟨j, hj, rfl, hx⟩ := hrel
    have hjn : j < n := by omega
    obtain ⟨u, hu⟩ : ∃ u, vs[j]? = some u := ⟨_, List.getElem?_eq_getElem (by rw [HN.out]; exact hjn)⟩
    have zu := hx.cell (HV.out.at HN.out hu)
    have HU := Lib.hid hu
    have HX := Lib.hid hx
    clear hu hx
    go_wp2_with fail
    refine (HC.out j u HU.out _ HX.out).mono ?_
    rintro e w1 ⟨rfl, x1⟩
    have X1 := Lib.hid (HX.out.trans x1)
    clear x1 zu
    by_cases hjk : j = k
    · subst hjk
      rw [HY.out]
      go_wp2
      go_ret
      exact ⟨rfl, X1.out⟩
    · rw [HNO.out j (by omega)]
      go_wp2
      go_roundw
      case rel => exact ⟨j + 1, by omega, by go_num, X1.out⟩
      case measure => simp [intOf]; omega
end Go.Proofs.YtcpmfcigciknlaaGreat
