/- The laws' examples. -/
import Derived.Test.YtkhmpmjonkmbeaaDoorRow
import Derived.Test.YtkhmpmjonkmbeaaDoorPrd
import Derived.Test.YtkhmpmjonkmbeaaDoorRfb
set_option linter.unusedVariables false
set_option linter.unusedSimpArgs false
namespace Go.Proofs.YtkhmpmjonkmbeaaDoor
open Go Go.RowKit L7

theorem rr_new {w : World} {e : TypeId} {q : Nat} {rs : List Rw} (ho : OKL rs) (hl : rs.length ≤ maxLen) (hq : w.heap[q]? = some (.cells (rwCs rs).toArray e (0, 0))) : RR w (some ⟨q, 0, none⟩) rs.length rs :=
  OwnR.rr (e := e) (B := 0) (n := rs.length) ⟨rwCs_len rs, .inr ⟨q, rs.length, _, rfl, Nat.zero_le _, hq, Nat.le_refl _, hl, by simp [rwCs_len], by simp [List.take_of_length_le, rwCs_len]⟩⟩ ho
def exL : List Rw := [⟨1, 0, [83, 69, 81]⟩, ⟨2, 1, [120, 32, 58, 61, 32, 49]⟩, ⟨4, 1, [121, 32, 58, 61, 32, 120, 32, 43, 32, 50]⟩]
theorem okl_ex : OKL exL := by
  intro x hx
  simp only [exL, List.mem_cons, List.not_mem_nil, or_false] at hx
  rcases hx with rfl | rfl | rfl <;> (unfold OKx maxLen; decide)
set_option maxRecDepth 100000 in
theorem some_any (w : World) : Calls Tryd.prog 36 #[] w fun e w' => ∃ A, e = .returned (.slice A 3 3) ∧ RR w' A 3 exL ∧ Below w.heap.size w w' := by
  have HR := Lib.hid (rr_new (w := w.alloc (.cells (rwCs exL).toArray 38)) (e := 38) (q := w.heap.size) okl_ex (by unfold maxLen; decide) (boxS_new w 38 (rwCs exL).toArray))
  have HB := Lib.hid (bal (b0 w) (.cells (rwCs exL).toArray 38))
  go_enter Tryd.func36, Tryd.ntmps36
  go_wp2
  go_ret
  exact ⟨_, rfl, HR.out, HB.out⟩
/-- Rows at a text that is known. -/
theorem rows_at {s : Bs} {l : List Rw} {n e : Int} (hl : s.length ≤ maxLen) (w : World) (hm : MaxIs w) (h : rows s = (l, n, e)) : Calls Tryd.prog 10 #[.string (strOf s)] w fun en w' => ∃ A c, en = .returned (.tuple #[.slice A l.length c, .int .i64 n, .int .i64 e]) ∧ OwnR w' 38 w.heap.size A l.length c l ∧ Below w.heap.size w w' := by
  have := Rows_any s hl w hm
  unfold GivesR at this
  rw [h] at this
  exact this
set_option maxRecDepth 100000 in
set_option maxHeartbeats 4000000 in
theorem fails_any (s : Bs) (hl : s.length ≤ maxLen) (k : Int) (er : Int) (h : rows s = ([], k, er)) (w : World) (hm : MaxIs w) : Calls Tryd.prog 27 #[.string (strOf s), .int .i64 k, .int .i64 er] w fun e w' => e = .returned (.bool true) ∧ Below w.heap.size w w' := by
  have CR := Lib.hid (rows_at hl w hm h)
  have q1 : (k == k) = true := by simp
  have q2 : (er == er) = true := by simp
  clear h
  go_enter Tryd.func27, Tryd.ntmps27
  go_wp2_with (go_at_call 10; (with_reducible refine (CR.out).mono ?_); rintro e w1 ⟨A, c, rfl, h1, h2⟩; have HB := Lib.hid h2; clear h1 h2)
  go_ret
  exact ⟨rfl, HB.out⟩
def wA : Bs := [83, 69, 81, 32, 45, 45, 32, 116, 119, 111, 10, 32, 32, 120, 32, 58, 61, 32, 49, 10, 10, 32, 32, 121, 32, 58, 61, 32, 120, 32, 43, 10, 32, 32, 32, 50]
def wB : Bs := [83, 69, 81, 10, 32, 120, 32, 58, 61, 32, 49]
def wC : List Rw := [⟨7, 0, [83, 69, 81]⟩, ⟨9, 1, [83, 75, 73, 80]⟩]
theorem rows_wA : rows wA = (exL, 0, 0) := rows_all (s := wA) (by decide +kernel) (by decide +kernel) (R := .ok exL) (by kernel_rfl)
theorem rows_wB : rows wB = ([], 2, 70) := rows_all (s := wB) (by decide +kernel) (by decide +kernel) (R := .error (2, 70)) (by kernel_rfl)
theorem src_wC : source wC = ([83, 69, 81, 10, 32, 32, 83, 75, 73, 80, 10], 0) := by decide +kernel
theorem okl_wC : OKL wC := by
  intro x hx
  simp only [wC, List.mem_cons, List.not_mem_nil, or_false] at hx
  rcases hx with rfl | rfl <;> (unfold OKx maxLen; decide)
set_option maxRecDepth 100000 in
set_option maxHeartbeats 8000000 in
theorem works_any (w : World) (hm : MaxIs w) : Calls Tryd.prog 13 #[] w fun e w' => e = .returned (.bool true) ∧ Below w.heap.size w w' := by
  have CA := Lib.hid (show Calls Tryd.prog 10 #[.string ⟨#[83, 69, 81, 32, 45, 45, 32, 116, 119, 111, 10, 32, 32, 120, 32, 58, 61, 32, 49, 10, 10, 32, 32, 121, 32, 58, 61, 32, 120, 32, 43, 10, 32, 32, 32, 50]⟩] w fun en w' => ∃ A c, en = .returned (.tuple #[.slice A 3 c, .int .i64 0, .int .i64 0]) ∧ OwnR w' 38 w.heap.size A 3 c exL ∧ Below w.heap.size w w' from rows_at (by decide +kernel) w hm rows_wA)
  have CB := Lib.hid (fun (W : World) (h : MaxIs W) => show Calls Tryd.prog 27 #[.string ⟨#[83, 69, 81, 10, 32, 120, 32, 58, 61, 32, 49]⟩, .int .i64 2, .int .i64 70] W fun e w' => e = .returned (.bool true) ∧ Below W.heap.size W w' from fails_any wB (by decide +kernel) 2 70 rows_wB W h)
  have CC := Lib.hid (fun (W : World) (h : MaxIs W) (A : Option Addr) (R : RR W A 2 wC) => show Calls Tryd.prog 15 #[.slice A 2 2] W fun e w' => e = .returned (.tuple #[.string ⟨#[83, 69, 81, 10, 32, 32, 83, 75, 73, 80, 10]⟩, .int .i64 0]) ∧ Below W.heap.size W w' from (by
    have := Source_any R rfl h
    rw [src_wC] at this
    exact this))
  have CS := Lib.hid (fun (W : World) => some_any W)
  have CE := Lib.hid (fun (W : World) (A B : Option Addr) (c d : Nat) (R : RR W A c exL) (S : RR W B d exL) => show Calls Tryd.prog 12 #[.slice A 3 c, .slice B 3 d] W fun e w' => e = .returned (.bool true) ∧ Below W.heap.size W w' from (by
    have := RSame_any R S rfl rfl
    rw [decide_eq_true (Eq.refl exL)] at this
    exact this))
  have HW := Lib.hid (fun (W : World) => rr_new (w := W.alloc (.cells (rwCs wC).toArray 38)) (e := 38) (q := W.heap.size) okl_wC (by unfold maxLen; decide) (boxS_new W 38 (rwCs wC).toArray))
  go_enter Tryd.func13, Tryd.ntmps13
  go_wp2_with (first
    | (go_at_call 10; (with_reducible refine (CA.out).mono ?_); rintro e w1 ⟨A, c, rfl, h1, h2⟩; have H1 := Lib.hid (And.intro h2 (And.intro (hm.below h2) (h1.rr okl_ex))); have H2 := Lib.hid (And.intro (bal h2 (.cells (rwCs wC).toArray 38)) (And.intro (H1.out.2.1.below (bal (b0 w1) (.cells (rwCs wC).toArray 38))) (H1.out.2.2.keep (bal (b0 w1) (.cells (rwCs wC).toArray 38))))); clear h1 h2)
    | (go_at_call 15; refine (CC.out _ H2.out.2.1 _ (HW.out w1)).mono ?_; rintro e w2 ⟨rfl, b2⟩; have H3 := Lib.hid (And.intro (blw H2.out.1 b2) (And.intro (H2.out.2.1.below b2) (H2.out.2.2.keep b2))); clear b2)
    | (go_at_call 36; refine (CS.out _).mono ?_; rintro e w3 ⟨A3, rfl, r3, b3⟩; have H4 := Lib.hid (And.intro (blw H3.out.1 b3) (And.intro (H3.out.2.1.below b3) (And.intro (H3.out.2.2.keep b3) r3))); clear b3 r3)
    | (go_at_call 12; refine (CE.out _ _ _ _ _ H4.out.2.2.1 H4.out.2.2.2).mono ?_; rintro e w4 ⟨rfl, b4⟩; have H5 := Lib.hid (And.intro (blw H4.out.1 b4) (H4.out.2.1.below b4)); clear b4)
    | (go_at_call 27; refine (CB.out _ H5.out.2).mono ?_; rintro e w5 ⟨rfl, b5⟩; have H6 := Lib.hid (blw H5.out.1 b5); clear b5))
  go_ret
  exact ⟨rfl, H6.out⟩
end Go.Proofs.YtkhmpmjonkmbeaaDoor
