/- The chapter's examples come out as it says: 'works' returns true. -/
import Derived.Test.YtjeicjlaoakgfaaDoorText
namespace Go.Proofs.YtjeicjlaoakgfaaDoor
open Go Go.RowKit

theorem at_ib {P : Program} {f : FuncId} {args : Array Value} {w : World} {k : IntKind} {a : Int} {p : Bool} (h : Calls P f args w fun e w' => e = .returned (.tuple #[.int k a, .bool p]) ∧ w = w') {b : Int} {q : Bool} (h1 : a = b) (h2 : p = q) :
    Calls P f args w fun e w' => e = .returned (.tuple #[.int k b, .bool q]) ∧ w = w' := by
  subst h1; subst h2; exact h
theorem at_i {P : Program} {f : FuncId} {args : Array Value} {w : World} {k : IntKind} {a : Int} (h : Calls P f args w fun e w' => e = .returned (.int k a) ∧ w = w') {b : Int} (h1 : a = b) :
    Calls P f args w fun e w' => e = .returned (.int k b) ∧ w = w' := by
  subst h1; exact h
theorem at_b {P : Program} {f : FuncId} {args : Array Value} {w : World} {p : Bool} (h : Calls P f args w fun e w' => e = .returned (.bool p) ∧ w = w') {q : Bool} (h1 : p = q) :
    Calls P f args w fun e w' => e = .returned (.bool q) ∧ w = w' := by
  subst h1; exact h
theorem at_rd {w : World} {s : ByteArray} {l : List UInt8} (ht : Tab w) (hl : s.data.toList = l) {a b : Int} (h1 : readC l = (a, b)) :
    Calls Tryd.prog 41 #[.string s] w fun e w' => e = .returned (.tuple #[.int .i32 a, .int .i64 b]) ∧ Below w.heap.size w w' := by
  have h := Read_any s w ht
  rw [hl, h1] at h
  exact h
theorem at_tx {w : World} {v : Int} {hex : Bool} (ht : Tab w) (hv : isW v) {s : ByteArray} (h1 : strOf (textL v hex) = s) :
    Calls Tryd.prog 43 #[.int .i32 v, .bool hex] w fun e w' => e = .returned (.string s) ∧ Below w.heap.size w w' := by
  have h := Text_any v hex hv w ht
  rw [h1] at h
  exact h
theorem strOf_eq {l m : List UInt8} (h : l = m) : strOf l = ⟨m.toArray⟩ := by rw [h]; rfl
theorem is_same (r : Int) (p : Bool) (w : World) : Calls Tryd.prog 46 #[.int .i32 r, .bool p, .int .i32 r, .bool p] w fun e w' => e = .returned (.bool true) ∧ w = w' := by
  cases p
  all_goals
    go_enter Tryd.func46, Tryd.ntmps46
    go_wp2
    go_ret
    exact ⟨rfl, rfl⟩
set_option maxRecDepth 100000 in
set_option maxHeartbeats 1000000 in
theorem works_any (w : World) (ht : Tab w) : Calls Tryd.prog 21 #[] w fun e w' => e = .returned (.bool true) ∧ Below w.heap.size w w' := by
  have W : ∀ a : Int, decide (-2147483648 ≤ a) && decide (a ≤ 2147483647) = true → isW a := fun a h => by simp at h; exact h
  have c1 := Lib.hid fun w => at_ib (Add_any 2147483647 1 (W _ (by decide)) (W _ (by decide)) w) (b := -2147483648) (q := true) (by decide +kernel) (by decide +kernel)
  have c2 := Lib.hid fun w => at_ib (Mul_any 65536 65536 (W _ (by decide)) (W _ (by decide)) w) (b := 0) (q := true) (by decide +kernel) (by decide +kernel)
  have c3 := Lib.hid fun w => at_ib (Div_any (-7) 2 (W _ (by decide)) w) (b := -3) (q := false) (by decide +kernel) (by decide +kernel)
  have c4 := Lib.hid fun w => at_ib (Rem_any (-7) 2 (W _ (by decide)) (W _ (by decide)) w) (b := -1) (q := false) (by decide +kernel) (by decide +kernel)
  have c5 := Lib.hid fun w => at_ib (Cword_any 128 128 (W _ (by decide)) w) (b := 128) (q := true) rfl (by decide +kernel)
  have c6 := Lib.hid fun w ht => at_rd (w := w) (s := ⟨#[35, 70, 70, 70, 70, 70, 70, 70, 54]⟩) ht rfl (a := -10) (b := 0) (by decide +kernel)
  have c7 := Lib.hid fun w => at_i (Shl_any 3 31 w) (b := -2147483648) (by decide +kernel)
  have c8 := Lib.hid fun w => at_i (Shr_any (-1) 28 w) (b := 15) (by decide +kernel)
  have c9 := Lib.hid fun w => at_i (Xword_any 255 128 (W _ (by decide)) (W _ (by decide)) w) (b := -1) (by decide +kernel)
  have c10 := Lib.hid fun w => at_b (After_any (-2147483648) 2147483647 (W _ (by decide)) (W _ (by decide)) w) (q := true) (by decide +kernel)
  have c11 := Lib.hid fun w ht => at_tx (w := w) (v := -10) (hex := true) ht (W _ (by decide)) (s := ⟨#[35, 70, 70, 70, 70, 70, 70, 70, 54]⟩) (strOf_eq (by decide +kernel))
  clear W
  go_enter Tryd.func21, Tryd.ntmps21
  go_wp2_with (first
    | (go_at_call 13; refine (c1.out _).mono ?_; rintro e w' ⟨rfl, rfl⟩)
    | (go_at_call 22; refine (c2.out _).mono ?_; rintro e w' ⟨rfl, rfl⟩)
    | (go_at_call 24; refine (c3.out _).mono ?_; rintro e w' ⟨rfl, rfl⟩)
    | (go_at_call 26; refine (c4.out _).mono ?_; rintro e w' ⟨rfl, rfl⟩)
    | (go_at_call 33; refine (c5.out _).mono ?_; rintro e w' ⟨rfl, rfl⟩))
  refine (c6.out _ ht).mono ?_
  rintro e w1 ⟨rfl, hb1⟩
  have ht1 := ht.below hb1
  go_wp2_with (first
    | (go_at_call 46; refine (is_same _ _ _).mono ?_; rintro e w' ⟨rfl, rfl⟩)
    | (go_at_call 29; refine (c7.out _).mono ?_; rintro e w' ⟨rfl, rfl⟩)
    | (go_at_call 31; refine (c8.out _).mono ?_; rintro e w' ⟨rfl, rfl⟩)
    | (go_at_call 39; refine (c9.out _).mono ?_; rintro e w' ⟨rfl, rfl⟩)
    | (go_at_call 19; refine (c10.out _).mono ?_; rintro e w' ⟨rfl, rfl⟩)
    | (go_at_call 43; refine (c11.out _ ht1).mono ?_; rintro e w2 ⟨rfl, hb2⟩))
  go_ret
  exact ⟨rfl, hb1.trans (hb2.mono hb1.size)⟩
end Go.Proofs.YtjeicjlaoakgfaaDoor
