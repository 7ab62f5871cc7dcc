/- The chapter's examples. Plain Lean. -/
import Derived.Test.YtplcmcealeeppaaGreatDoorLxe
set_option linter.unusedVariables false
set_option linter.unusedSimpArgs false
set_option linter.unusedVariables false
set_option linter.unusedSimpArgs false
namespace Go.Proofs.YtplcmcealeeppaaGreatDoor.L8
open Go

theorem ex1 : tokens [97, 32, 58, 61, 32, 98, 62, 60, 32, 35, 70, 70] = ([⟨1, 0, [97], 0⟩, ⟨5, 2, [58, 61], 0⟩, ⟨1, 5, [98], 0⟩, ⟨5, 6, [62, 60], 0⟩, ⟨3, 9, [], 255⟩], 0, 0) := by decide +kernel
theorem ex2 : tokens [39, 42, 110, 39, 32, 39, 42, 35, 48, 65, 39, 32, 39, 42, 39, 39] = ([⟨4, 0, [], 10⟩, ⟨4, 5, [], 10⟩, ⟨4, 12, [], 39⟩], 0, 0) := by decide +kernel
theorem ex3 : tokens [99, 32, 33, 32, 45, 49] = ([⟨1, 0, [99], 0⟩, ⟨5, 2, [33], 0⟩, ⟨5, 4, [45], 0⟩, ⟨3, 5, [], 1⟩], 0, 0) := by decide +kernel
theorem ex4 : tokens [73, 78, 84, 46, 120, 32, 73, 78, 84] = ([⟨1, 0, [73, 78, 84, 46, 120], 0⟩, ⟨2, 6, [73, 78, 84], 0⟩], 0, 0) := by decide +kernel
theorem ex5 : tokens [] = ([], 0, 0) := by decide +kernel
theorem ex6 : tokens [120, 32, 32, 36] = ([], 3, 80) := by decide +kernel
theorem ex7 : tokens [35, 49, 50, 51, 52, 53, 54, 55, 56, 65] = ([], 0, 80) := by decide +kernel
theorem ex8 : tokens [97, 32, 50, 49, 52, 55, 52, 56, 51, 54, 52, 56] = ([], 2, 80) := by decide +kernel
theorem ex9 : tokens [39, 97, 98, 39] = ([], 0, 80) := by decide +kernel
theorem exA : tokens [120, 32, 58, 61, 32, 49, 50, 97, 98] = ([], 5, 80) := by decide +kernel
theorem exT1 : textT [⟨3, 0, [], -1⟩, ⟨5, 0, [43], 0⟩, ⟨4, 0, [], 0⟩] = [35, 70, 70, 70, 70, 70, 70, 70, 70, 32, 43, 32, 39, 42, 35, 48, 48, 39] := by decide +kernel
theorem exT2 : textT [⟨1, 0, [102], 0⟩, ⟨5, 0, [40], 0⟩, ⟨1, 0, [97], 0⟩, ⟨5, 0, [44], 0⟩, ⟨1, 0, [98], 0⟩, ⟨5, 0, [91], 0⟩, ⟨3, 0, [], 1⟩, ⟨5, 0, [93], 0⟩, ⟨5, 0, [41], 0⟩] = [102, 40, 97, 44, 32, 98, 91, 49, 93, 41] := by decide +kernel
theorem exN1 : isName [102, 114, 111, 109, 46, 104, 111, 115, 116] = true := by decide +kernel
theorem exN2 : isName [83, 69, 81] = false := by decide +kernel
theorem exK : isKey [83, 101, 113] = false := by decide +kernel
theorem exM : may ⟨4, 0, [], 256⟩ = false := by decide +kernel
end Go.Proofs.YtplcmcealeeppaaGreatDoor.L8
