/- The reference's tests of lines: existing instructions, valid lines, labels that exist, equality. -/
import Derived.Test.YtjdjkdgdbdenpaaGreatDoorM18
set_option linter.unusedVariables false
set_option linter.unusedSimpArgs false
namespace Go.Proofs.YtjdjkdgdbdenpaaGreatDoor
open Go Go.RowKit

theorem RMay_any (f a : Int) (hf : 0 ≤ f) (w : World) : Calls Tryz.prog 49 #[.agg #[.int .u8 f, .int .i32 a]] w fun e w' => e = .returned (.bool (ex f a)) ∧ Below w.heap.size w w' := by
  have C := Lib.hid (fun w => Find_any f a hf w)
  unfold FindIs at C
  clear hf
  generalize ex f a = b at *
  generalize fdF f a = f' at *
  generalize fdA f a = a' at *
  generalize strOf (nm f a) = s at *
  generalize tk f a = t at *
  generalize lv f a = l at *
  go_enter Tryz.func49, Tryz.ntmps49
  go_wp2_with (go_at_call 70; refine (C.out _).mono ?_; rintro e w1 ⟨rfl, b1⟩; have B1 := Lib.hid (blw (bal (b0 w) _) b1); clear b1)
  go_ret
  exact ⟨rfl, bal B1.out _⟩
theorem RName_any (f a : Int) (hf : 0 ≤ f) (w : World) : Calls Tryz.prog 56 #[.agg #[.int .u8 f, .int .i32 a]] w fun e w' => e = .returned (.tuple #[.string (strOf (nm f a)), .bool (ex f a)]) ∧ Below w.heap.size w w' := by
  have C := Lib.hid (fun w => Find_any f a hf w)
  unfold FindIs at C
  clear hf
  generalize ex f a = b at *
  generalize fdF f a = f' at *
  generalize fdA f a = a' at *
  generalize strOf (nm f a) = s at *
  generalize tk f a = t at *
  generalize lv f a = l at *
  go_enter Tryz.func56, Tryz.ntmps56
  go_wp2_with (go_at_call 70; refine (C.out _).mono ?_; rintro e w1 ⟨rfl, b1⟩; have B1 := Lib.hid (blw (bal (b0 w) _) b1); clear b1)
  go_ret2
  exact ⟨rfl, bal B1.out _⟩
theorem fn_tests (n : Nat) (a : Int) (h : n < 256) : (decide ((n : Int) < 15) && ((n : Int) != 2) && ((n : Int) != 6)) = (ex (n : Int) a && ((n : Int) != 15)) := by
  by_cases h15 : n < 15
  · have hq : ((n : Int) != 15) = true := by simp; omega
    rw [hq, Bool.and_true, (ex_nm (f := (n : Int)) (a := a) (b := 0) (.inl (by omega))).1]
    have : ∀ k : Fin 15, (decide ((k.val : Int) < 15) && ((k.val : Int) != 2) && ((k.val : Int) != 6)) = ex (k.val : Int) 0 := by decide
    exact this ⟨n, h15⟩
  · rw [decide_eq_false (show ¬ (n : Int) < 15 by omega), Bool.false_and, Bool.false_and]
    by_cases h2 : n = 15
    · subst h2; simp
    · have : ex (n : Int) a = false := by
        rw [Bool.eq_false_iff]
        intro he
        have := (ex_le he).1
        omega
      rw [this, Bool.false_and]
theorem vld_ref (x : Ln) (hx : x.fn < 256) {g h e t f l r z p q s : Bool} (hg : x.lab.isEmpty = g) (hh : isLab x.lab = h) (he : ex x.fn x.arg = e) (ht : x.tgt.isEmpty = t) (hf : x.fr.isEmpty = f) (hl : isLab x.tgt = l) (hr : isLab x.fr = r) (hz : (x.arg == 0) = z)
    (hp : decide ((x.fn : Int) < 15) = p) (hq : ((x.fn : Int) != 2) = q) (hs : ((x.fn : Int) != 6) = s) :
    vld x = ((g || h) && (if t = true then f && e else l && (f || r) && z && p && q && s)) := by
  have h1 := vld_as x rfl rfl rfl rfl rfl rfl rfl rfl
  rw [h1]
  have h2 := fn_tests x.fn x.arg hx
  unfold orNone
  subst hg hh he ht hf hl hr hz hp hq hs
  congr 1
  by_cases h : x.tgt.isEmpty = true
  · rw [if_pos h, if_pos h]
  · rw [if_neg h, if_neg h]
    have hb : ∀ L X Z A B P Q S : Bool, (P && Q && S) = (A && B) → (L && X && Z && A && B) = (L && X && Z && P && Q && S) := by decide
    exact hb _ _ _ _ _ _ _ _ h2
set_option maxRecDepth 100000 in
set_option maxHeartbeats 4000000 in
theorem RValid_any (x : Ln) (hx : OKx x) (w : World) : Calls Tryz.prog 27 #[lnV x] w fun e w' => e = .returned (.bool (vld x)) ∧ Below w.heap.size w w' := by
  have H1 := Lib.hid (fun w => RLabel_any x.lab w hx.lab)
  have H2 := Lib.hid (fun w => RLabel_any x.fr w hx.fr)
  have H3 := Lib.hid (fun w => RLabel_any x.tgt w hx.tgt)
  have H4 := Lib.hid (fun W => RMay_any x.fn x.arg (by omega) W)
  have k0 := strOf_empty x.lab
  have k1 := strOf_empty x.tgt
  have k2 := strOf_empty x.fr
  obtain ⟨g, hg⟩ : ∃ b, x.lab.isEmpty = b := ⟨_, rfl⟩
  obtain ⟨h, hh⟩ : ∃ b, isLab x.lab = b := ⟨_, rfl⟩
  obtain ⟨e, he⟩ : ∃ b, ex x.fn x.arg = b := ⟨_, rfl⟩
  obtain ⟨t, ht⟩ : ∃ b, x.tgt.isEmpty = b := ⟨_, rfl⟩
  obtain ⟨f, hf⟩ : ∃ b, x.fr.isEmpty = b := ⟨_, rfl⟩
  obtain ⟨l, hl⟩ : ∃ b, isLab x.tgt = b := ⟨_, rfl⟩
  obtain ⟨r, hr⟩ : ∃ b, isLab x.fr = b := ⟨_, rfl⟩
  obtain ⟨z, hz⟩ : ∃ b, (x.arg == 0) = b := ⟨_, rfl⟩
  obtain ⟨p, hp⟩ : ∃ b, decide ((x.fn : Int) < 15) = b := ⟨_, rfl⟩
  obtain ⟨q, hq⟩ : ∃ b, ((x.fn : Int) != 2) = b := ⟨_, rfl⟩
  obtain ⟨s, hs⟩ : ∃ b, ((x.fn : Int) != 6) = b := ⟨_, rfl⟩
  rw [vld_ref x hx.fn hg hh he ht hf hl hr hz hp hq hs]
  rw [hh] at H1
  rw [hr] at H2
  rw [hl] at H3
  rw [he] at H4
  rw [hg] at k0
  rw [ht] at k1
  rw [hf] at k2
  clear hg hh he ht hf hl hr hx
  obtain ⟨lab, fn, arg, tgt, fr⟩ := x
  simp only at H1 H2 H3 H4 k0 k1 k2 hz hp hq hs
  rcases (show (g = false ∧ h = false) ∨ (g = true) ∨ (g = false ∧ h = true) by cases g <;> cases h <;> simp) with ⟨rfl, rfl⟩ | rfl | ⟨rfl, rfl⟩
  · simp only [Bool.false_or, Bool.false_and]
    clear hz hp hq hs
    go_enter Tryz.func27, Tryz.ntmps27
    go_wp2_with (go_at_call 48; ((with_reducible refine (H1.out _).mono ?_); rintro e w1 ⟨rfl, rfl⟩))
    go_ret
    exact ⟨rfl, bal (b0 w) _⟩
  all_goals
    rcases (show (t = true ∧ f = false) ∨ (t = true ∧ f = true) ∨ (t = false ∧ l = false) ∨ (t = false ∧ l = true ∧ f = false ∧ r = false) ∨ (t = false ∧ l = true ∧ f = true ∧ z = false) ∨ (t = false ∧ l = true ∧ f = false ∧ r = true ∧ z = false) ∨ (t = false ∧ l = true ∧ f = true ∧ z = true ∧ p = false) ∨ (t = false ∧ l = true ∧ f = false ∧ r = true ∧ z = true ∧ p = false)
      ∨ (t = false ∧ l = true ∧ f = true ∧ z = true ∧ p = true ∧ q = false) ∨ (t = false ∧ l = true ∧ f = false ∧ r = true ∧ z = true ∧ p = true ∧ q = false) ∨ (t = false ∧ l = true ∧ f = true ∧ z = true ∧ p = true ∧ q = true) ∨ (t = false ∧ l = true ∧ f = false ∧ r = true ∧ z = true ∧ p = true ∧ q = true) by
      cases t <;> cases l <;> cases f <;> cases r <;> cases z <;> cases p <;> cases q <;> simp) with ⟨rfl, rfl⟩ | ⟨rfl, rfl⟩ | ⟨rfl, rfl⟩ | ⟨rfl, rfl, rfl, rfl⟩ | ⟨rfl, rfl, rfl, rfl⟩ | ⟨rfl, rfl, rfl, rfl, rfl⟩ | ⟨rfl, rfl, rfl, rfl, rfl⟩ | ⟨rfl, rfl, rfl, rfl, rfl, rfl⟩ | ⟨rfl, rfl, rfl, rfl, rfl, rfl⟩ | ⟨rfl, rfl, rfl, rfl, rfl, rfl, rfl⟩ | ⟨rfl, rfl, rfl, rfl, rfl, rfl⟩ | ⟨rfl, rfl, rfl, rfl, rfl, rfl, rfl⟩
    all_goals
      simp only [Bool.false_and, Bool.true_and, Bool.and_true, Bool.and_false, Bool.true_or, Bool.or_true, Bool.false_or, Bool.or_false, if_true, if_false, Bool.false_eq_true, ite_self]
      go_enter Tryz.func27, Tryz.ntmps27
      go_wp2_with (first
        | (go_at_call 48; ((with_reducible refine (H1.out _).mono ?_); rintro e w1 ⟨rfl, rfl⟩))
        | (go_at_call 48; ((with_reducible refine (H2.out _).mono ?_); rintro e w1 ⟨rfl, rfl⟩))
        | (go_at_call 48; ((with_reducible refine (H3.out _).mono ?_); rintro e w1 ⟨rfl, rfl⟩))
        | (go_at_call 49; refine (H4.out _).mono ?_; rintro e w3 ⟨rfl, b3⟩; have B3 := Lib.hid (blw (bal (b0 w) _) b3); clear b3))
      go_ret
      exact ⟨rfl, by first | exact B3.out | exact bal (b0 w) _⟩
end Go.Proofs.YtjdjkdgdbdenpaaGreatDoor
