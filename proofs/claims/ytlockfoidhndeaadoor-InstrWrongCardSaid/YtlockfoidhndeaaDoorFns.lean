/- What May, Name, Effect and hasOperand return. -/
import Derived.Test.YtlockfoidhndeaaDoorRow
import Derived.Deep.QuietTactic
import Derived.BigQuiet
namespace Go.Proofs.YtlockfoidhndeaaDoor
open Go Go.RowKit

/-- rowOf, called at any world that has grown from w. -/
theorem row_at {f a : Int} (hf : 0 ≤ f) (ha : isW a) {w : World} (hv : Vars w) (W : World) (b : Below w.heap.size w W) :
    Calls Tryd.prog 30 #[.agg #[.int .u8 f, .int .i32 a]] W (RowIs f a W) := rowOf_any f a hf ha W (hv.below b)
theorem bcell {W w1 : World} {n : Nat} (hb : Below n W w1) : (∀ b o, b < n → w1.cell? ⟨b, o, none⟩ = W.cell? ⟨b, o, none⟩) ∧ (∀ b o, b < n → w1.frozen? ⟨b, o, none⟩ = W.frozen? ⟨b, o, none⟩) :=
  ⟨fun b o h => hb.cell (p := ⟨b, o, none⟩) h, fun b o h => hb.frozen (p := ⟨b, o, none⟩) h⟩
theorem bdrew {n : Nat} {w w1 : World} (h : Below n w w1) (k : Nat) : Below n w (w1.drewN k) := h.trans ⟨rfl, rfl, rfl, Nat.le_refl _, fun _ _ => rfl⟩
theorem blw {w w1 w2 : World} (h1 : Below w.heap.size w w1) (h2 : Below w1.heap.size w1 w2) : Below w.heap.size w w2 := h1.trans (h2.mono h1.size)
/-- A new block behind what has grown. -/
theorem bal {w w1 : World} (h : Below w.heap.size w w1) (o : Obj) : Below w.heap.size w (w1.alloc o) := h.alloc h.size o
theorem b0 (w : World) : Below w.heap.size w w := Below.refl _ _
/-- The box of a struct of two cells, behind a call. -/
theorem box2 {w w1 : World} {a b : Value} {t : TypeId} (g : Below (w.alloc (.cells #[a, b] t)).heap.size (w.alloc (.cells #[a, b] t)) w1) : w1.cell? ⟨w.heap.size, 0, none⟩ = some a ∧ w1.cell? ⟨w.heap.size, 1, none⟩ = some b ∧ w.heap.size < w1.heap.size := by
  have h0 : (w.alloc (.cells #[a, b] t)).heap[w.heap.size]? = some (.cells #[a, b] t (0, 0)) := by
    show (w.heap.push _)[w.heap.size]? = _
    simp
  have h1 : w1.heap[w.heap.size]? = some (.cells #[a, b] t (0, 0)) := (g.block w.heap.size (by simp)).trans h0
  refine ⟨?_, ?_, (Array.getElem?_eq_some_iff.1 h1).1⟩
  · simp [World.cell?, h1]
  · simp [World.cell?, h1]
theorem hasOp_any (f a : Int) (w : World) :
    Calls Tryd.prog 31 #[.agg #[.int .u8 f, .int .i32 a]] w fun e w' => e = .returned (.bool (f != 15)) ∧ Below w.heap.size w w' := by
  go_enter Tryd.func31, Tryd.ntmps31
  go_wp2
  go_ret
  exact ⟨rfl, (Below.refl _ _).alloc (Nat.le_refl _) _⟩
theorem May_any (f a : Int) (hf : 0 ≤ f) (ha : isW a) (w : World) (hv : Vars w) :
    Calls Tryd.prog 16 #[.agg #[.int .u8 f, .int .i32 a]] w fun e w' => e = .returned (.bool (ex f a)) ∧ Below w.heap.size w w' := by
  have C := Lib.hid (row_at hf ha hv)
  clear hv
  go_enter Tryd.func16, Tryd.ntmps16
  go_wp2_with (go_at_call 30; refine (C.out _ ((Below.refl _ _).alloc (Nat.le_refl _) _)).mono ?_; rintro e w1 ⟨rfl, b1⟩; have B1 := Lib.hid b1; clear b1)
  go_ret
  exact ⟨rfl, bal (blw (bal (b0 _) _) B1.out) _⟩
theorem Name_any (f a : Int) (hf : 0 ≤ f) (ha : isW a) (w : World) (hv : Vars w) :
    Calls Tryd.prog 12 #[.agg #[.int .u8 f, .int .i32 a]] w fun e w' => e = .returned (.tuple #[.string (strOf (nm f a)), .bool (ex f a)]) ∧ Below w.heap.size w w' := by
  have C := Lib.hid (row_at hf ha hv)
  clear hv
  go_enter Tryd.func12, Tryd.ntmps12
  go_wp2_with (go_at_call 30; refine (C.out _ ((Below.refl _ _).alloc (Nat.le_refl _) _)).mono ?_; rintro e w1 ⟨rfl, b1⟩; have B1 := Lib.hid b1; clear b1)
  go_ret2
  exact ⟨rfl, bal (blw (bal (b0 _) _) B1.out) _⟩
theorem Effect_any (f a : Int) (hf : 0 ≤ f) (ha : isW a) (w : World) (hv : Vars w) :
    Calls Tryd.prog 13 #[.agg #[.int .u8 f, .int .i32 a]] w fun e w' => e = .returned (.tuple #[.int .i64 (tk f a), .int .i64 (lv f a), .bool (ex f a)]) ∧ Below w.heap.size w w' := by
  have C := Lib.hid (row_at hf ha hv)
  clear hv
  go_enter Tryd.func13, Tryd.ntmps13
  go_wp2_with (go_at_call 30; refine (C.out _ ((Below.refl _ _).alloc (Nat.le_refl _) _)).mono ?_; rintro e w1 ⟨rfl, b1⟩; have B1 := Lib.hid b1; clear b1)
  go_quiet (fail)
  go_wp2
  go_ret3
  exact ⟨rfl, bdrew (bal (blw (bal (b0 _) _) B1.out) _) _⟩
end Go.Proofs.YtlockfoidhndeaaDoor
