/- The program's texts of instructions. -/
import Derived.Test.YtlockfoidhndeaaDoorFns
import Derived.Test.YtlockfoidhndeaaDoorText
import Derived.Test.YtlockfoidhndeaaDoorNamed
import Derived.Test.YtlockfoidhndeaaDoorCut
namespace Go.Proofs.YtlockfoidhndeaaDoor
open Go Go.RowKit

/-- The tables stand as they were laid. -/
def Good (w : World) : Prop := Vars w ∧ Tab w
theorem Good.below {w w' : World} (h : Good w) (b : Below w.heap.size w w') : Good w' := ⟨h.1.below b, h.2.below b⟩
theorem ret_si {s t : ByteArray} {a b : Int} (h : s = t) (h' : a = b) : Ending.returned (.tuple #[.string s, .int .i64 a]) = .returned (.tuple #[.string t, .int .i64 b]) := by rw [h, h']
theorem tx_no {f a : Int} (h : ex f a = false) : txL f a = [] ∧ txE f a = 2 := by unfold txL txE; rw [h]; exact ⟨rfl, rfl⟩
theorem tx_op {f a : Int} (h : ex f a = true) (h15 : f = 15) : txL f a = nm f a ∧ txE f a = 0 := by unfold txL txE; rw [if_pos h, if_pos h15, if_pos h]; exact ⟨rfl, rfl⟩
theorem tx_fn {f a : Int} (h : ex f a = true) (h15 : f ≠ 15) : txL f a = nm f a ++ 32 :: textL a false ∧ txE f a = 0 := by unfold txL txE; rw [if_pos h, if_neg h15, if_pos h]; exact ⟨rfl, rfl⟩
set_option maxHeartbeats 1000000 in
theorem Text_is (f a : Int) (hf : 0 ≤ f) (ha : isW a) (w : World) (hg : Good w) :
    Calls Tryd.prog 14 #[.agg #[.int .u8 f, .int .i32 a]] w fun e w' => e = .returned (.tuple #[.string (strOf (txL f a)), .int .i64 (txE f a)]) ∧ Below w.heap.size w w' := by
  have C := Lib.hid (fun (W : World) (b : Below w.heap.size w W) => Name_any f a hf ha W (hg.1.below b))
  have D := Lib.hid (fun (W : World) (b : Below w.heap.size w W) => Text_any a false ha W (hg.2.below b))
  clear hg
  obtain ⟨a0, a1⟩ := id ha
  by_cases he : ex f a = true
  · have hle := (ex_facts hf he).2.2.2.2.1
    have htl := (text_len a false a0 a1).2
    rw [he] at C
    by_cases h15 : f = 15
    · subst h15
      have h15' : ((15 : Int) != 15) = false := rfl
      obtain ⟨e1, e2⟩ := tx_op he rfl
      rw [e1, e2]
      clear e1 e2 he hle htl ha a0 a1
      generalize nm 15 a = n at *
      go_enter Tryd.func14, Tryd.ntmps14
      go_wp2_with (first
        | (go_at_call 12; refine (C.out _ (bal (b0 _) _)).mono ?_; rintro e w1 ⟨rfl, b1⟩; obtain ⟨x0, x1, x2⟩ := box2 b1; have B1 := Lib.hid (blw (bal (b0 w) _) b1); clear b1)
        | (go_at_call 31; refine (hasOp_any 15 a _).mono ?_; rintro e w2 ⟨rfl, b2⟩; rw [h15']; have B2 := Lib.hid (blw B1.out b2); clear b2))
      go_ret2
      exact ⟨rfl, B2.out⟩
    · have h15' : (f != 15) = true := by simpa using h15
      obtain ⟨e1, e2⟩ := tx_fn he h15
      rw [e1, e2]
      have hcat := cat_str (nm f a) [32] (by simp; omega)
      have hcat2 := cat_str (nm f a ++ [32]) (textL a false) (by simp; omega)
      have HN := Lib.hid (show (nm f a ++ [32]) ++ textL a false = nm f a ++ 32 :: textL a false by simp)
      clear e1 e2 he hle htl ha a0 a1
      generalize nm f a ++ 32 :: textL a false = tx at *
      generalize hn : nm f a = n at *
      generalize n ++ [32] = ns at *
      generalize textL a false = t at *
      generalize ns ++ t = nt at *
      have hcat' : Op.stringOp .add (strOf n) ⟨#[32]⟩ = pure (.string (strOf ns)) := hcat
      clear hcat hn
      go_enter Tryd.func14, Tryd.ntmps14
      go_wp2_with (first
        | (go_at_call 12; refine (C.out _ (bal (b0 _) _)).mono ?_; rintro e w1 ⟨rfl, b1⟩; obtain ⟨x0, x1, x2⟩ := box2 b1; have B1 := Lib.hid (blw (bal (b0 w) _) b1); clear b1)
        | (go_at_call 31; refine (hasOp_any f a _).mono ?_; rintro e w2 ⟨rfl, b2⟩; rw [h15']; have c2 := bcell b2; have B2 := Lib.hid (blw B1.out b2); clear b2)
        | (go_at_call 24; refine (D.out _ B2.out).mono ?_; rintro e w3 ⟨rfl, b3⟩; have B3 := Lib.hid (blw B2.out b3); clear b3))
      go_ret2
      exact ⟨ret_si (by rw [HN.out]) rfl, B3.out⟩
  · have he' : ex f a = false := by simpa using he
    rw [he'] at C
    obtain ⟨e1, e2⟩ := tx_no he'
    rw [e1, e2]
    clear e1 e2 he he' ha a0 a1
    go_enter Tryd.func14, Tryd.ntmps14
    go_wp2_with (go_at_call 12; refine (C.out _ (bal (b0 _) _)).mono ?_; rintro e w1 ⟨rfl, b1⟩; have B1 := Lib.hid (blw (bal (b0 w) _) b1); clear b1)
    go_ret2
    exact ⟨rfl, B1.out⟩
end Go.Proofs.YtlockfoidhndeaaDoor
