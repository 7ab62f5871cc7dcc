/- The statements' examples: lines that are read, and that are not; deep and wide trees. Plain Lean. -/
import Derived.Test.YtplcmcealeeppaaGreatDoorExf
set_option linter.unusedVariables false
set_option linter.unusedSimpArgs false
set_option linter.unusedVariables false
set_option linter.unusedSimpArgs false
namespace Go.Proofs.YtplcmcealeeppaaGreatDoor.L10
open Go L8

set_option maxRecDepth 100000
theorem x1 : ∃ L, L.length ≤ 100 ∧ tokens [120, 32, 58, 61] = (L, 0, 0) ∧ frontX L = (.mk 4 0 0 0 [120] [], 1, 0) := ⟨(tokens [120, 32, 58, 61]).1, by decide +kernel, by decide +kernel, by decide +kernel⟩
theorem x2 : ∃ L, L.length ≤ 100 ∧ tokens [45, 32, 49] = (L, 0, 0) ∧ frontX L = (.mk 6 23 0 0 [] [.mk 1 0 0 1 [] []], 2, 0) := ⟨(tokens [45, 32, 49]).1, by decide +kernel, by decide +kernel, by decide +kernel⟩
theorem x3 : ∃ L, L.length ≤ 100 ∧ tokens [78, 79, 84, 32, 97, 32, 65, 78, 68, 32, 98] = (L, 0, 0) ∧ frontX L = (.mk 6 26 0 0 [] [.mk 4 0 0 0 [97] []], 2, 0) := ⟨(tokens [78, 79, 84, 32, 97, 32, 65, 78, 68, 32, 98]).1, by decide +kernel, by decide +kernel, by decide +kernel⟩
theorem x4 : ∃ L, L.length ≤ 100 ∧ tokens [66, 89, 84, 69, 32, 40, 120, 32, 43, 32, 49, 41] = (L, 0, 0) ∧ frontX L = (.mk 8 0 2 0 [] [.mk 7 1 0 0 [] [.mk 4 0 0 0 [120] [], .mk 1 0 0 1 [] []]], 6, 0) := ⟨(tokens [66, 89, 84, 69, 32, 40, 120, 32, 43, 32, 49, 41]).1, by decide +kernel, by decide +kernel, by decide +kernel⟩
theorem x5 : ∃ L, L.length ≤ 100 ∧ tokens [83, 73, 90, 69, 32, 118, 91, 49, 93] = (L, 0, 0) ∧ frontX L = (.mk 9 0 0 0 [118] [], 2, 0) := ⟨(tokens [83, 73, 90, 69, 32, 118, 91, 49, 93]).1, by decide +kernel, by decide +kernel, by decide +kernel⟩
theorem x6 : ∃ L, L.length ≤ 100 ∧ tokens [84, 82, 85, 69, 32, 79, 82, 32, 70, 65, 76, 83, 69] = (L, 0, 0) ∧ frontX L = (.mk 7 21 0 0 [] [.mk 3 0 0 1 [] [], .mk 3 0 0 0 [] []], 3, 0) := ⟨(tokens [84, 82, 85, 69, 32, 79, 82, 32, 70, 65, 76, 83, 69]).1, by decide +kernel, by decide +kernel, by decide +kernel⟩
theorem x7 : ∃ L, L.length ≤ 100 ∧ tokens [39, 97, 39, 32, 60, 62, 32, 39, 98, 39] = (L, 0, 0) ∧ frontX L = (.mk 7 15 0 0 [] [.mk 2 0 0 97 [] [], .mk 2 0 0 98 [] []], 3, 0) := ⟨(tokens [39, 97, 39, 32, 60, 62, 32, 39, 98, 39]).1, by decide +kernel, by decide +kernel, by decide +kernel⟩
theorem xa : ∃ L, L.length ≤ 100 ∧ tokens [97, 32, 45, 32, 98, 32, 45, 32, 99] = (L, 0, 0) ∧ frontX L = (.mk 7 2 0 0 [] [.mk 4 0 0 0 [97] [], .mk 4 0 0 0 [98] []], 3, 0) := ⟨(tokens [97, 32, 45, 32, 98, 32, 45, 32, 99]).1, by decide +kernel, by decide +kernel, by decide +kernel⟩
theorem xb : ∃ L, L.length ≤ 100 ∧ tokens [40, 40, 97, 41, 41] = (L, 0, 0) ∧ frontX L = (.mk 4 0 0 0 [97] [], 5, 0) := ⟨(tokens [40, 40, 97, 41, 41]).1, by decide +kernel, by decide +kernel, by decide +kernel⟩
theorem y0 : ∃ L, L.length ≤ 100 ∧ tokens [97, 32, 43, 32, 41] = (L, 0, 0) ∧ frontX L = (e0, 0, 100) := ⟨(tokens [97, 32, 43, 32, 41]).1, by decide +kernel, by decide +kernel, by decide +kernel⟩
theorem y1 : ∃ L, L.length ≤ 100 ∧ tokens [45] = (L, 0, 0) ∧ frontX L = (e0, 0, 100) := ⟨(tokens [45]).1, by decide +kernel, by decide +kernel, by decide +kernel⟩
theorem y2 : ∃ L, L.length ≤ 100 ∧ tokens [118, 91, 32, 105] = (L, 0, 0) ∧ frontX L = (e0, 0, 100) := ⟨(tokens [118, 91, 32, 105]).1, by decide +kernel, by decide +kernel, by decide +kernel⟩
theorem y3 : ∃ L, L.length ≤ 100 ∧ tokens [83, 73, 90, 69, 32, 51] = (L, 0, 0) ∧ frontX L = (e0, 0, 100) := ⟨(tokens [83, 73, 90, 69, 32, 51]).1, by decide +kernel, by decide +kernel, by decide +kernel⟩
theorem y4 : ∃ L, L.length ≤ 100 ∧ tokens [] = (L, 0, 0) ∧ frontX L = (e0, 0, 100) := ⟨(tokens []).1, by decide +kernel, by decide +kernel, by decide +kernel⟩
theorem y5 : ∃ L, L.length ≤ 100 ∧ tokens [40, 97, 32, 43, 32, 98, 32, 99, 41] = (L, 0, 0) ∧ frontX L = (e0, 0, 100) := ⟨(tokens [40, 97, 32, 43, 32, 98, 32, 99, 41]).1, by decide +kernel, by decide +kernel, by decide +kernel⟩
theorem y6 : ∃ L, L.length ≤ 100 ∧ tokens [73, 78, 84] = (L, 0, 0) ∧ frontX L = (e0, 0, 100) := ⟨(tokens [73, 78, 84]).1, by decide +kernel, by decide +kernel, by decide +kernel⟩
theorem y7 : ∃ L, L.length ≤ 100 ∧ tokens [83, 75, 73, 80] = (L, 0, 0) ∧ frontX L = (e0, 0, 100) := ⟨(tokens [83, 75, 73, 80]).1, by decide +kernel, by decide +kernel, by decide +kernel⟩
def opn (n : Nat) : Bs := List.replicate n 40
def sht (n : Nat) : Bs := List.replicate n 41
theorem z1 : ∃ L, L.length ≤ 100 ∧ tokens (opn 32 ++ [97] ++ sht 32) = (L, 0, 0) ∧ frontX L = (.mk 4 0 0 0 [97] [], 65, 0) := ⟨(tokens (opn 32 ++ [97] ++ sht 32)).1, by decide +kernel, by decide +kernel, by decide +kernel⟩
theorem z2 : ∃ L, L.length ≤ 100 ∧ tokens (opn 32 ++ [40]) = (L, 0, 0) ∧ frontX L = (e0, 0, 3) := ⟨(tokens (opn 32 ++ [40])).1, by decide +kernel, by decide +kernel, by decide +kernel⟩
theorem z3 : ∃ L, L.length ≤ 100 ∧ tokens (opn 32 ++ [40, 97, 41] ++ sht 32) = (L, 0, 0) ∧ frontX L = (e0, 0, 3) := ⟨(tokens (opn 32 ++ [40, 97, 41] ++ sht 32)).1, by decide +kernel, by decide +kernel, by decide +kernel⟩
theorem z4 : ∃ L, L.length ≤ 100 ∧ tokens (opn 32 ++ [118, 91, 97, 93] ++ sht 32) = (L, 0, 0) ∧ frontX L = (e0, 0, 3) := ⟨(tokens (opn 32 ++ [118, 91, 97, 93] ++ sht 32)).1, by decide +kernel, by decide +kernel, by decide +kernel⟩
/-- n operators in front of a name. -/
def deepE : Nat → Ex
  | 0 => .mk 4 0 0 0 [97] []
  | n + 1 => .mk 6 25 0 0 [] [deepE n]
def wideE : Nat → Ex
  | 0 => .mk 1 0 0 1 [] []
  | n + 1 => .mk 7 6 0 0 [] [wideE n, wideE n]
def fullE : Ex := .mk 7 6 0 0 [] [wideE 7, .mk 6 23 0 0 [] [.mk 1 0 0 1 [] []]]
theorem deep_may : mayE (deepE 31) = true ∧ mayE (deepE 32) = false ∧ szE (deepE 32) = 33 := by decide +kernel
theorem wide_may : mayE (wideE 7) = true ∧ szE (wideE 7) = 255 ∧ mayE fullE = false ∧ szE fullE = 258 := by decide +kernel
def badL : List Ex := [e0, .mk 4 0 0 0 [] [], .mk 4 0 0 0 [83, 69, 81] [], .mk 2 0 0 256 [] [], .mk 3 0 0 2 [] [], .mk 1 0 0 0 [97] [], .mk 5 0 0 0 [118] [], .mk 6 2 0 0 [] [wideE 0], .mk 7 26 0 0 [] [wideE 0, wideE 0], .mk 8 0 4 0 [] [wideE 0], .mk 9 0 0 0 [118] [wideE 0], .mk 99 0 0 0 [] []]
theorem bad_may : ∀ x ∈ badL, mayE x = false := by decide +kernel
def prodE : Ex := .mk 7 3 0 0 [] [.mk 7 1 0 0 [] [.mk 4 0 0 0 [97] [], .mk 1 0 0 1 [] []], .mk 5 0 0 0 [118] [.mk 4 0 0 0 [105] []]]
theorem prod_may : mayE prodE = true ∧ szE prodE = 6 ∧ (tkE prodE).length = 10 ∧ text (tkE prodE) = ([40, 97, 32, 43, 32, 49, 41, 32, 42, 32, 118, 91, 105, 93], 0) := by decide +kernel
theorem nm_known : nmE (.mk 7 1 0 0 [] [.mk 5 0 0 0 [118] [.mk 4 0 0 0 [105] []], .mk 9 0 0 0 [119] []]) = [[118], [105], [119]] := by decide +kernel
end Go.Proofs.YtplcmcealeeppaaGreatDoor.L10
