/- The row's walk, as the card calls it. -/
import Derived.Test.YtimbiobonigdmaaDoorGot
import Derived.Test.YtimbiobonigdmaaDoorFga
set_option linter.unusedVariables false
set_option linter.unusedSimpArgs false
namespace Go.Proofs.YtimbiobonigdmaaDoor
open Go Go.RowKit L8 L10 L14

theorem rowFoldAgain (a0 : Ex) (A : Option Addr) (c : Nat) (ok : OKe a0) (a1 : Option Addr) (len1 cap1 : Nat) (z1 : List Sx) (w : World) (R : TrR w A c a0.l) (w1 : z1.length = len1 ∧ SxR w a1 cap1 z1) (h : T10 w) : Calls Tryd.prog 5 #[.agg (itC ⟨a0, A, c⟩).toArray, .slice a1 len1 cap1] w fun e w' => e = .returned (.bool true) ∧ Below w.heap.size w w' :=
  walkFoldAgain a0 A a0.l.length c rfl ok a1 len1 cap1 (z1.map Sx.x) (by rw [List.length_map]; exact w1.1) w R w1.2.sp h
end Go.Proofs.YtimbiobonigdmaaDoor
