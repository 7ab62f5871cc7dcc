/- The laws, in the form in which the rows' frames call them. -/
import Derived.Test.YtbkbhlbfkfnljaaDoorGod
import Derived.Test.YtbkbhlbfkfnljaaDoorLyd
import Derived.Test.YtbkbhlbfkfnljaaDoorLye
import Derived.Test.YtbkbhlbfkfnljaaDoorLyf
set_option linter.unusedVariables false
set_option linter.unusedSimpArgs false
namespace Go.Proofs.YtbkbhlbfkfnljaaDoor
open Go Go.RowKit L8 L9

theorem rowTypesValues (a0 : Int) (w0 : (Lit.int .u8 a0).wf = true) (a1 : Int) (w1 : (Lit.int .i32 a1).wf = true) (w : World) (ht : T9 w) :
    Calls Tryd.prog 6 #[.int .u8 a0, .int .i32 a1] w fun e w' => e = .returned (.bool true) ∧ Below w.heap.size w w' := walkTypesValues a0 w0 a1 w1 w ht
theorem rowTypesTokens (a0 : Ty) (w0 : OKt a0) (w : World) (ht : T9 w) :
    Calls Tryd.prog 4 #[.agg (tyC a0)] w fun e w' => e = .returned (.bool true) ∧ Below w.heap.size w w' := walkTypesTokens a0 w0 w ht
theorem rowTypesFront (a0 : Option Addr) (len0 cap0 : Nat) (w : World) (w0 : IsTk w a0 len0 cap0) (ht : T9 w) :
    Calls Tryd.prog 5 #[.slice a0 len0 cap0] w fun e w' => e = .returned (.bool true) ∧ Below w.heap.size w w' := walkTypesFront a0 len0 cap0 w w0 ht
theorem rowTypesBack (a0 : Ty) (okt0 : OKt a0) (a1 : Option Addr) (len1 cap1 : Nat) (w : World) (w1 : IsTk w a1 len1 cap1) (ht : T9 w) :
    Calls Tryd.prog 8 #[.agg (tyC a0), .slice a1 len1 cap1] w fun e w' => e = .returned (.bool true) ∧ Below w.heap.size w w' := walkTypesBack a0 okt0 a1 len1 cap1 w w1 ht
theorem rowTypesMay (a0 : Ty) (w0 : OKt a0) (a1 : Ty) (w1 : OKt a1) (c : Bool) (A : Option Addr) (n d : Nat) (w : World) (h : IsVn w A n d) (ht : T9 w) :
    Calls Tryd.prog 3 #[.agg (tyC a0), .agg (tyC a1), .agg #[.bool c, .slice A n d]] w fun e w' => e = .returned (.bool true) ∧ Below w.heap.size w w' := by
  obtain ⟨vs, hn, R⟩ := h
  exact walkTypesMay a0 a1 w0 w1 c A n d vs w R hn ht
theorem rowTypesFind (c : Bool) (A : Option Addr) (n d : Nat) (a1 : ByteArray) (w1 : a1.size ≤ maxLen) (w : World) (h : IsVn w A n d) (ht : T9 w) :
    Calls Tryd.prog 7 #[.agg #[.bool c, .slice A n d], .string a1] w fun e w' => e = .returned (.bool true) ∧ Below w.heap.size w w' := by
  obtain ⟨vs, hn, R⟩ := h
  exact walkTypesFind c A n d vs a1 w1 w R hn ht
theorem rowTypesVariants (c : Bool) (A : Option Addr) (n d : Nat) (w : World) (h : IsVn w A n d) (ht : T9 w) :
    Calls Tryd.prog 9 #[.agg #[.bool c, .slice A n d]] w fun e w' => e = .returned (.bool true) ∧ Below w.heap.size w w' := by
  obtain ⟨vs, hn, R⟩ := h
  exact walkTypesVariants c A n d vs w R hn ht
end Go.Proofs.YtbkbhlbfkfnljaaDoor
