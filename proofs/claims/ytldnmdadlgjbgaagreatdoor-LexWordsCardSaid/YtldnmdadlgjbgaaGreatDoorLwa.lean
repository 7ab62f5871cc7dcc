/- LexWords, LexMay, LexReads, LexTexts: their walks. -/
import Derived.Test.YtldnmdadlgjbgaaGreatDoorAwk
set_option linter.unusedVariables false
set_option linter.unusedSimpArgs false
namespace Go.Proofs.YtldnmdadlgjbgaaGreatDoor
open Go Go.RowKit L8

set_option maxRecDepth 100000 in
set_option maxHeartbeats 8000000 in
theorem walkLexWords (a0 : ByteArray) (w0 : a0.size ≤ maxLen) (w : World) (ht : W1.Tab w) :
    Calls Tryz.prog 3 #[.string a0] w fun e w' => e = .returned (.bool true) ∧ Below w.heap.size w w' := by
  obtain ⟨l, rfl⟩ : ∃ l : Bs, a0 = strOf l := ⟨_, str_self a0⟩
  rw [size_strOf] at w0
  have C1 := Lib.hid (fun (W : World) => Name_any l w0 W)
  have C2 := Lib.hid (fun (W : World) => RName_any l w0 W)
  have C3 := Lib.hid (fun (W : World) => Key_any l W)
  have C4 := Lib.hid (fun (W : World) => RKey_any l W)
  have CA := Lib.hid (fun (W : World) (h : W1.Tab W) => awake_any W h)
  have HB := Lib.hid (And.intro (b0 w) ht)
  clear ht w0
  generalize isName l = b1 at *
  generalize isKey l = b2 at *
  generalize strOf l = S at *
  have q1 : (b1 == b1) = true := by simp
  have q2 : (b2 == b2) = true := by simp
  go_enter Tryz.func3, Tryz.ntmps3
  go_wp2_with (first
    | (go_at_call 7; (with_reducible refine (C1.out _).mono ?_); rintro e v1 ⟨rfl, rfl⟩)
    | (go_at_call 8; (with_reducible refine (C2.out _).mono ?_); rintro e v2 ⟨rfl, b⟩; replace HB := Lib.hid (And.intro (blw HB.out.1 b) (HB.out.2.below b)); clear b)
    | (go_at_call 9; (with_reducible refine (C3.out _).mono ?_); rintro e v3 ⟨rfl, rfl⟩)
    | (go_at_call 10; (with_reducible refine (C4.out _).mono ?_); rintro e v4 ⟨rfl, b⟩; replace HB := Lib.hid (And.intro (blw HB.out.1 b) (HB.out.2.below b)); clear b)
    | (go_at_call 11; (with_reducible refine (CA.out _ HB.out.2).mono ?_); rintro e v5 ⟨rfl, b⟩; replace HB := Lib.hid (And.intro (blw HB.out.1 b) (HB.out.2.below b)); clear b))
  go_ret
  exact ⟨rfl, HB.out.1⟩
theorem held_step {w X Y : World} {q : Nat} {cs : Array Value} (h : Below w.heap.size w X ∧ W1.Tab X ∧ BoxS X q 26 cs) (b : Below X.heap.size X Y) : Below w.heap.size w Y ∧ W1.Tab Y ∧ BoxS Y q 26 cs := ⟨blw h.1 b, h.2.1.below b, h.2.2.below b⟩
set_option maxRecDepth 100000 in
set_option maxHeartbeats 8000000 in
theorem walkLexMay (t : Tk) (hx : OKx t) (w : World) (ht : W1.Tab w) :
    Calls Tryz.prog 4 #[rwV t] w fun e w' => e = .returned (.bool true) ∧ Below w.heap.size w w' := by
  have C1 := Lib.hid (fun (W : World) => May_any t hx W)
  have C2 := Lib.hid (fun (W : World) => RMay_any t hx W)
  have CA := Lib.hid (fun (W : World) (h : W1.Tab W) => awake_any W h)
  rw [rwV_eq] at C1 C2
  rw [rwV_eq]
  generalize may t = b1 at *
  obtain ⟨k, a, tx, n⟩ := t
  dsimp only at *
  generalize strOf tx = S at *
  have c := boxS_new w 26 #[.int .u8 (k : Int), .int .i64 a, .string S, .int .i32 n]
  have H : Hid (Below w.heap.size w (w.alloc (.cells #[.int .u8 (k : Int), .int .i64 a, .string S, .int .i32 n] 26)).drew ∧ W1.Tab (w.alloc (.cells #[.int .u8 (k : Int), .int .i64 a, .string S, .int .i32 n] 26)).drew ∧ BoxS (w.alloc (.cells #[.int .u8 (k : Int), .int .i64 a, .string S, .int .i32 n] 26)).drew w.heap.size 26 #[.int .u8 (k : Int), .int .i64 a, .string S, .int .i32 n]) := Lib.hid ⟨bdrew (bal (b0 w) _) 1, ht.below (bdrew (bal (b0 w) _) 1), c.below (bdrew (b0 _) 1)⟩
  obtain ⟨⟨x0, x1, x2, x3⟩, _⟩ := box4 c
  clear hx ht c
  have q1 : (b1 == b1) = true := by simp
  go_enter Tryz.func4, Tryz.ntmps4
  go_wp2_with fail
  generalize w.alloc (.cells #[.int .u8 (k : Int), .int .i64 a, .string S, .int .i32 n] 26) = V at *
  go_region_held3 (fun w' => w'.cell? ⟨w.heap.size, 0, none⟩ = some (.int .u8 (k : Int)) ∧ w'.cell? ⟨w.heap.size, 1, none⟩ = some (.int .i64 a) ∧ w'.cell? ⟨w.heap.size, 2, none⟩ = some (.string S) ∧ w'.cell? ⟨w.heap.size, 3, none⟩ = some (.int .i32 n))
    (first | (exact ⟨x0, x1, x2, x3⟩) | go_keep)
    (first
      | (go_at_call 12; (with_reducible refine (C1.out _).mono ?_); rintro e v1 ⟨rfl, b⟩; replace H := Lib.hid (held_step H.out b); clear b x0 x1 x2 x3; obtain ⟨⟨x0, x1, x2, x3⟩, _⟩ := box4 H.out.2.2)
      | (go_at_call 13; (with_reducible refine (C2.out _).mono ?_); rintro e v2 ⟨rfl, b⟩; replace H := Lib.hid (held_step H.out b); clear b x0 x1 x2 x3; obtain ⟨⟨x0, x1, x2, x3⟩, _⟩ := box4 H.out.2.2)
      | (go_at_call 11; (with_reducible refine (CA.out _ H.out.2.1).mono ?_); rintro e v3 ⟨rfl, b⟩; replace H := Lib.hid (held_step H.out b); clear b x0 x1 x2 x3; obtain ⟨⟨x0, x1, x2, x3⟩, _⟩ := box4 H.out.2.2))
  all_goals go_wp2
  all_goals (go_ret; exact ⟨rfl, H.out.1⟩)
end Go.Proofs.YtldnmdadlgjbgaaGreatDoor
