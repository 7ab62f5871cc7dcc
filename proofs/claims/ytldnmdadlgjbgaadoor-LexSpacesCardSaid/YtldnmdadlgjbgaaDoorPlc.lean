/- The program's escapes and characters. -/
import Derived.Test.YtldnmdadlgjbgaaDoorPlb
set_option linter.unusedVariables false
set_option linter.unusedSimpArgs false
namespace Go.Proofs.YtldnmdadlgjbgaaDoor
open Go Go.RowKit L8

theorem escS_ways (s : Bs) : (s.length < 2 ∧ escS s = (0, 0)) ∨ (2 ≤ s.length ∧ Lib.indexByte escs (s.getD 1 0) = -1 ∧ escS s = (0, 0)) ∨ ∃ i : Nat, i < 7 ∧ 2 ≤ s.length ∧ Lib.indexByte escs (s.getD 1 0) = (i : Int) ∧ escS s = ((escd.getD i 0).toNat, 2) := by
  unfold escS
  by_cases h : 2 ≤ s.length
  · rw [if_pos h]
    rcases esc_idx (s.getD 1 0) with ⟨h1, h2⟩ | ⟨i, h0, h1, h2⟩
    · rw [h2]; exact .inr (.inl ⟨h, h1, rfl⟩)
    · rw [h2]; exact .inr (.inr ⟨i, h0, h, h1, rfl⟩)
  · rw [if_neg h]; exact .inl ⟨by omega, rfl⟩
theorem escH_ways (s : Bs) : (¬ s.take 2 = [42, 35] ∧ escH s = none) ∨ (s.take 2 = [42, 35] ∧ s.length < 4 ∧ escH s = none) ∨ ∃ x y, s.take 2 = [42, 35] ∧ 4 ≤ s.length ∧ (s.take 4).drop 2 = [x, y] ∧ ((∃ v : Nat, v < 256 ∧ escH s = some v ∧ hexO [x, y] = some (v : Int)) ∨ (escH s = none ∧ hexO [x, y] = none)) := by
  unfold escH
  by_cases h : s.take 2 = [42, 35]
  · by_cases h4 : 4 ≤ s.length
    · obtain ⟨x, y, e⟩ := mid_form h4
      rw [if_pos ⟨h4, h⟩, e]
      refine .inr (.inr ⟨x, y, h, h4, rfl, ?_⟩)
      cases hv : value 16 8 4294967296 [x, y] with
      | none => exact .inr ⟨rfl, by unfold hexO; rw [hv]; rfl⟩
      | some v =>
        obtain ⟨h1, h2⟩ := hexO_two hv
        exact .inl ⟨v, h2, rfl, h1⟩
    · rw [if_neg (fun k => h4 k.1)]
      exact .inr (.inl ⟨h, by omega, rfl⟩)
  · rw [if_neg (fun k => h k.2)]
    exact .inl ⟨h, rfl⟩
theorem opt_some (v : Int) : (some v).getD 0 = v ∧ (some v).isSome = true := ⟨rfl, rfl⟩
theorem opt_none : (none : Option Int).getD 0 = 0 ∧ (none : Option Int).isSome = false := ⟨rfl, rfl⟩
set_option maxRecDepth 100000 in
set_option maxHeartbeats 8000000 in
theorem escape_any (s : Bs) (hl : s.length ≤ maxLen) (w : World) (ht : W1.Tab w) : Calls Tryd.prog 81 #[.string (strOf s)] w fun e w' => e = .returned (.tuple #[.int .i32 ((escP s).1 : Int), .int .i64 ((escP s).2 : Int)]) ∧ Below w.heap.size w w' := by
  have hsz := size_strOf s
  have CX : Hid (∀ W : World, Calls Tryd.prog 35 #[.string (strOf s), .string ⟨#[42, 35]⟩] W fun e w' => e = .returned (.bool (decide (s.take 2 = [42, 35]))) ∧ W = w') := Lib.hid fun W => (cHasPrefix s [42, 35] W).mono fun e w' h => ⟨by rw [← pre_two]; exact h.1, h.2⟩
  have CI : Hid (∀ W : World, Calls Tryd.prog 67 #[.string ⟨#[99, 110, 116, 39, 42, 115, 34]⟩, .int .u8 ((s.getD 1 0).toNat : Int)] W fun e w' => e = .returned (.int .i64 (Lib.indexByte escs (s.getD 1 0))) ∧ W = w') := Lib.hid fun W => cIndexByte escs (s.getD 1 0) W
  have hT := escS_ways s
  have hH := escH_ways s
  have h1x := Lib.hid (fun (v : Nat) => escP_h (s := s) (v := v))
  have h2x := Lib.hid (@escP_s s)
  have HI := Lib.hid (fun (h : 1 < s.length) => index_l s 1 h)
  have HC := Lib.hid (fun (h : 4 ≤ s.length) => cut_mid s 2 4 (by omega) h)
  obtain ⟨n, hn⟩ : ∃ n, s.length = n := ⟨_, rfl⟩
  rw [hn] at hsz hl hT hH HI HC
  unfold maxLen at hl
  have hn0 : (0 : Int) ≤ (n : Int) := by omega
  rcases hH with ⟨hp, he⟩ | ⟨hp, h4, he⟩ | ⟨x, y, hp, h4, hm, ⟨v, hv, he, hx⟩ | ⟨he, hx⟩⟩
  · rw [h2x.out he]
    rw [decide_eq_false hp] at CX
    clear h1x h2x he hp hn HC ht
    generalize Lib.indexByte escs (s.getD 1 0) = I at *
    rcases hT with ⟨h2, hE⟩ | ⟨h2, rfl, hE⟩ | ⟨i, hi, h2, rfl, hE⟩
    · rw [hE]
      have q2 : ¬ (2 : Int) ≤ (n : Int) := by omega
      clear hE h2 HI CI
      generalize strOf s = S at *
      go_enter Tryd.func81, Tryd.ntmps81
      go_wp2_with (go_at_call 35; (with_reducible refine (CX.out _).mono ?_); rintro e w1 ⟨rfl, rfl⟩)
      go_ret2
      exact ⟨rfl, b0 _⟩
    · rw [hE]
      have q2 : (2 : Int) ≤ (n : Int) := by omega
      have hi1 : ∀ W : World, (Instr.index 9 (.string (strOf s)) (.int .i64 1)).run Tryd.prog W = .ok (.int .u8 ((s.getD 1 0).toNat : Int)) W := HI.out (by omega)
      clear hE h2 HI
      generalize (s.getD 1 0).toNat = M at *
      generalize strOf s = S at *
      go_enter Tryd.func81, Tryd.ntmps81
      go_wp2_with (first
        | (go_at_call 35; (with_reducible refine (CX.out _).mono ?_); rintro e w1 ⟨rfl, rfl⟩)
        | (go_at_call 67; (with_reducible refine (CI.out _).mono ?_); rintro e w1 ⟨rfl, rfl⟩))
      go_ret2
      exact ⟨rfl, b0 _⟩
    · rw [hE]
      have q2 : (2 : Int) ≤ (n : Int) := by omega
      have hi1 : ∀ W : World, (Instr.index 9 (.string (strOf s)) (.int .i64 1)).run Tryd.prog W = .ok (.int .u8 ((s.getD 1 0).toNat : Int)) W := HI.out (by omega)
      have hi2 : ∀ W : World, (Instr.index 9 (.string ⟨#[13, 10, 9, 39, 42, 32, 34]⟩) (.int .i64 (i : Int))).run Tryd.prog W = .ok (.int .u8 ((escd.getD i 0).toNat : Int)) W := fun W => index_l escd i hi W
      have hlt := escd_lt i
      have hi0 : (0 : Int) ≤ (i : Int) := by omega
      clear hE h2 HI
      generalize (escd.getD i 0).toNat = V at *
      have hv0 : (0 : Int) ≤ (V : Int) := by omega
      have hv1 : (V : Int) < 256 := by omega
      generalize (s.getD 1 0).toNat = M at *
      generalize strOf s = S at *
      go_enter Tryd.func81, Tryd.ntmps81
      go_wp2_with (first
        | (go_at_call 35; (with_reducible refine (CX.out _).mono ?_); rintro e w1 ⟨rfl, rfl⟩)
        | (go_at_call 67; (with_reducible refine (CI.out _).mono ?_); rintro e w1 ⟨rfl, rfl⟩))
      go_ret2
      exact ⟨rfl, b0 _⟩
  · rw [h2x.out he]
    rw [decide_eq_true hp] at CX
    have q4 : decide ((4 : Int) ≤ (n : Int)) = false := decide_eq_false (by omega)
    clear h1x h2x he hp hn HC ht
    generalize Lib.indexByte escs (s.getD 1 0) = I at *
    rcases hT with ⟨h2, hE⟩ | ⟨h2, rfl, hE⟩ | ⟨i, hi, h2, rfl, hE⟩
    · rw [hE]
      have q2 : ¬ (2 : Int) ≤ (n : Int) := by omega
      clear hE h2 HI CI h4
      generalize strOf s = S at *
      go_enter Tryd.func81, Tryd.ntmps81
      go_wp2_with (go_at_call 35; (with_reducible refine (CX.out _).mono ?_); rintro e w1 ⟨rfl, rfl⟩)
      go_ret2
      exact ⟨rfl, b0 _⟩
    · rw [hE]
      have q2 : (2 : Int) ≤ (n : Int) := by omega
      have hi1 : ∀ W : World, (Instr.index 9 (.string (strOf s)) (.int .i64 1)).run Tryd.prog W = .ok (.int .u8 ((s.getD 1 0).toNat : Int)) W := HI.out (by omega)
      clear hE h2 HI h4
      generalize (s.getD 1 0).toNat = M at *
      generalize strOf s = S at *
      go_enter Tryd.func81, Tryd.ntmps81
      go_wp2_with (first
        | (go_at_call 35; (with_reducible refine (CX.out _).mono ?_); rintro e w1 ⟨rfl, rfl⟩)
        | (go_at_call 67; (with_reducible refine (CI.out _).mono ?_); rintro e w1 ⟨rfl, rfl⟩))
      go_ret2
      exact ⟨rfl, b0 _⟩
    · rw [hE]
      have q2 : (2 : Int) ≤ (n : Int) := by omega
      have hi1 : ∀ W : World, (Instr.index 9 (.string (strOf s)) (.int .i64 1)).run Tryd.prog W = .ok (.int .u8 ((s.getD 1 0).toNat : Int)) W := HI.out (by omega)
      have hi2 : ∀ W : World, (Instr.index 9 (.string ⟨#[13, 10, 9, 39, 42, 32, 34]⟩) (.int .i64 (i : Int))).run Tryd.prog W = .ok (.int .u8 ((escd.getD i 0).toNat : Int)) W := fun W => index_l escd i hi W
      have hlt := escd_lt i
      have hi0 : (0 : Int) ≤ (i : Int) := by omega
      clear hE h2 HI h4
      generalize (escd.getD i 0).toNat = V at *
      have hv0 : (0 : Int) ≤ (V : Int) := by omega
      have hv1 : (V : Int) < 256 := by omega
      generalize (s.getD 1 0).toNat = M at *
      generalize strOf s = S at *
      go_enter Tryd.func81, Tryd.ntmps81
      go_wp2_with (first
        | (go_at_call 35; (with_reducible refine (CX.out _).mono ?_); rintro e w1 ⟨rfl, rfl⟩)
        | (go_at_call 67; (with_reducible refine (CI.out _).mono ?_); rintro e w1 ⟨rfl, rfl⟩))
      go_ret2
      exact ⟨rfl, b0 _⟩
  · rw [h1x.out v he]
    rw [decide_eq_true hp] at CX
    have q4 : decide ((4 : Int) ≤ (n : Int)) = true := decide_eq_true (by omega)
    have hcut : ∀ W : World, (Instr.slice 9 (.string (strOf s)) (some (.int .i64 2)) (some (.int .i64 4)) none).run Tryd.prog W = .ok (.string (strOf ((s.take 4).drop 2))) W := HC.out (by omega)
    have CH := Lib.hid (hexadecimal_any [x, y] (by unfold maxLen; simp) w ht)
    rw [hx, (opt_some _).1, (opt_some _).2] at CH
    rw [hm] at hcut
    clear h1x h2x he hp hn HC ht hT hm HI CI hx
    have hv0 : (0 : Int) ≤ (v : Int) := by omega
    generalize strOf [x, y] = X at *
    generalize strOf s = S at *
    go_enter Tryd.func81, Tryd.ntmps81
    go_wp2_with (first
      | (go_at_call 35; (with_reducible refine (CX.out _).mono ?_); rintro e w1 ⟨rfl, rfl⟩)
      | (go_at_call 72; (with_reducible refine (CH.out).mono ?_); rintro e w1 ⟨rfl, b1⟩; have B1 := Lib.hid b1; clear b1))
    go_ret2
    exact ⟨rfl, B1.out⟩
  · rw [h2x.out he]
    rw [decide_eq_true hp] at CX
    have q4 : decide ((4 : Int) ≤ (n : Int)) = true := decide_eq_true (by omega)
    have q2 : (2 : Int) ≤ (n : Int) := by omega
    have hcut : ∀ W : World, (Instr.slice 9 (.string (strOf s)) (some (.int .i64 2)) (some (.int .i64 4)) none).run Tryd.prog W = .ok (.string (strOf ((s.take 4).drop 2))) W := HC.out (by omega)
    have CH := Lib.hid (hexadecimal_any [x, y] (by unfold maxLen; simp) w ht)
    rw [hx, opt_none.1, opt_none.2] at CH
    rw [hm] at hcut
    have hi1 : ∀ W : World, (Instr.index 9 (.string (strOf s)) (.int .i64 1)).run Tryd.prog W = .ok (.int .u8 ((s.getD 1 0).toNat : Int)) W := HI.out (by omega)
    clear h1x h2x he hp hn HC ht hm hx HI
    generalize Lib.indexByte escs (s.getD 1 0) = I at *
    generalize strOf [x, y] = X at *
    rcases hT with ⟨h2, hE⟩ | ⟨h2, rfl, hE⟩ | ⟨i, hi, h2, rfl, hE⟩
    · exfalso; omega
    · rw [hE]
      clear hE h2 h4
      generalize (s.getD 1 0).toNat = M at *
      generalize strOf s = S at *
      go_enter Tryd.func81, Tryd.ntmps81
      go_wp2_with (first
        | (go_at_call 35; (with_reducible refine (CX.out _).mono ?_); rintro e w1 ⟨rfl, rfl⟩)
        | (go_at_call 72; (with_reducible refine (CH.out).mono ?_); rintro e w1 ⟨rfl, b1⟩; have B1 := Lib.hid b1; clear b1)
        | (go_at_call 67; (with_reducible refine (CI.out _).mono ?_); rintro e w1 ⟨rfl, rfl⟩))
      go_ret2
      exact ⟨rfl, B1.out⟩
    · rw [hE]
      have hi2 : ∀ W : World, (Instr.index 9 (.string ⟨#[13, 10, 9, 39, 42, 32, 34]⟩) (.int .i64 (i : Int))).run Tryd.prog W = .ok (.int .u8 ((escd.getD i 0).toNat : Int)) W := fun W => index_l escd i hi W
      have hlt := escd_lt i
      have hi0 : (0 : Int) ≤ (i : Int) := by omega
      clear hE h2 h4
      generalize (escd.getD i 0).toNat = V at *
      have hv0 : (0 : Int) ≤ (V : Int) := by omega
      have hv1 : (V : Int) < 256 := by omega
      generalize (s.getD 1 0).toNat = M at *
      generalize strOf s = S at *
      go_enter Tryd.func81, Tryd.ntmps81
      go_wp2_with (first
        | (go_at_call 35; (with_reducible refine (CX.out _).mono ?_); rintro e w1 ⟨rfl, rfl⟩)
        | (go_at_call 72; (with_reducible refine (CH.out).mono ?_); rintro e w1 ⟨rfl, b1⟩; have B1 := Lib.hid b1; clear b1)
        | (go_at_call 67; (with_reducible refine (CI.out _).mono ?_); rintro e w1 ⟨rfl, rfl⟩))
      go_ret2
      exact ⟨rfl, B1.out⟩
/-! ### Characters -/
theorem charP_no {c : UInt8} {r : Bs} (h : printB c = false ∨ c = 39) : charP (c :: r) = (0, 0) := by
  unfold charP
  dsimp only
  rw [if_pos]
  rcases h with h | h
  · left
    rintro ⟨h1, h2⟩
    unfold printB at h
    rw [decide_eq_true h1, decide_eq_true h2] at h
    cases h
  · exact .inr h
theorem printB_iff {c : UInt8} (h : printB c = true) : 32 ≤ c.toNat ∧ c.toNat ≤ 126 := by unfold printB at h; simpa using h
theorem charP_star {r : Bs} : charP (42 :: r) = escP (42 :: r) := by unfold charP; dsimp only; rw [if_neg (by decide), if_pos rfl]
theorem charP_self {c : UInt8} {r : Bs} (h : printB c = true) (h2 : c ≠ 39) (h3 : c ≠ 42) : charP (c :: r) = (c.toNat, 1) := by
  unfold charP; dsimp only
  rw [if_neg (fun k => k.elim (fun k => k (printB_iff h)) h2), if_neg h3]
set_option maxRecDepth 100000 in
set_option maxHeartbeats 8000000 in
theorem character_any (s : Bs) (hl : s.length ≤ maxLen) (w : World) (ht : W1.Tab w) : Calls Tryd.prog 73 #[.string (strOf s)] w fun e w' => e = .returned (.tuple #[.int .i32 ((charP s).1 : Int), .int .i64 ((charP s).2 : Int)]) ∧ Below w.heap.size w w' := by
  cases s with
  | nil =>
    have he : ((strOf []).toList == []) = true := eq_nil []
    rw [show charP [] = (0, 0) from rfl]
    generalize strOf [] = S at *
    go_enter Tryd.func73, Tryd.ntmps73
    go_wp2
    go_ret2
    exact ⟨rfl, b0 _⟩
  | cons c r =>
    have he := eq_nil (c :: r)
    rw [show (c :: r).isEmpty = false from rfl] at he
    have hi0 : ∀ W : World, (Instr.index 9 (.string (strOf (c :: r))) (.int .i64 0)).run Tryd.prog W = .ok (.int .u8 (c.toNat : Int)) W := index_l (c :: r) 0 (by simp)
    have CP := Lib.hid (fun (W : World) => isPrinting_any c W)
    have CX : Hid (∀ W : World, Calls Tryd.prog 35 #[.string (strOf (c :: r)), .string ⟨#[39]⟩] W fun e w' => e = .returned (.bool (decide (c = 39))) ∧ W = w') := Lib.hid fun W => (cHasPrefix (c :: r) [39] W).mono fun e w' h => ⟨by have := h.1; rw [pre_one] at this; rw [this]; simp, h.2⟩
    have CY : Hid (∀ W : World, Calls Tryd.prog 35 #[.string (strOf (c :: r)), .string ⟨#[42]⟩] W fun e w' => e = .returned (.bool (decide (c = 42))) ∧ W = w') := Lib.hid fun W => (cHasPrefix (c :: r) [42] W).mono fun e w' h => ⟨by have := h.1; rw [pre_one] at this; rw [this]; simp, h.2⟩
    have hsz := size_strOf (c :: r)
    have CE := Lib.hid (fun (W : World) (h : W1.Tab W) => escape_any (c :: r) hl W h)
    have hT := Lib.hid ht
    have hc0 : (0 : Int) ≤ (c.toNat : Int) := by omega
    have hc1 : (c.toNat : Int) < 256 := by have := c.toNat_lt; omega
    clear ht
    cases hp : printB c with
    | false =>
      rw [charP_no (.inl hp)]
      rw [hp] at CP
      clear hp CE CX CY hT
      generalize c.toNat = N at *
      generalize strOf (c :: r) = S at *
      go_enter Tryd.func73, Tryd.ntmps73
      go_wp2_with (go_at_call 68; (with_reducible refine (CP.out _).mono ?_); rintro e w1 ⟨rfl, rfl⟩)
      go_ret2
      exact ⟨rfl, b0 _⟩
    | true =>
      rw [hp] at CP
      by_cases h39 : c = 39
      · rw [charP_no (.inr h39)]
        rw [decide_eq_true h39] at CX
        clear hp CE CY h39 hT
        generalize c.toNat = N at *
        generalize strOf (c :: r) = S at *
        go_enter Tryd.func73, Tryd.ntmps73
        go_wp2_with (first
          | (go_at_call 68; (with_reducible refine (CP.out _).mono ?_); rintro e w1 ⟨rfl, rfl⟩)
          | (go_at_call 35; (with_reducible refine (CX.out _).mono ?_); rintro e w1 ⟨rfl, rfl⟩))
        go_ret2
        exact ⟨rfl, b0 _⟩
      · rw [decide_eq_false h39] at CX
        by_cases h42 : c = 42
        · rw [decide_eq_true h42] at CY
          have hE : charP (c :: r) = escP (c :: r) := by rw [h42, charP_star]
          rw [hE]
          clear hp h39 h42 hE
          generalize (escP (c :: r)).1 = a at *
          generalize (escP (c :: r)).2 = b at *
          generalize c.toNat = N at *
          generalize strOf (c :: r) = S at *
          go_enter Tryd.func73, Tryd.ntmps73
          go_wp2_with (first
            | (go_at_call 68; (with_reducible refine (CP.out _).mono ?_); rintro e w1 ⟨rfl, rfl⟩)
            | (go_at_call 35; (with_reducible refine (CX.out _).mono ?_); rintro e w1 ⟨rfl, rfl⟩)
            | (go_at_call 35; (with_reducible refine (CY.out _).mono ?_); rintro e w1 ⟨rfl, rfl⟩)
            | (go_at_call 81; (with_reducible refine (CE.out _ hT.out).mono ?_); rintro e w1 ⟨rfl, b1⟩; have B1 := Lib.hid b1; clear b1))
          go_ret2
          exact ⟨rfl, B1.out⟩
        · rw [decide_eq_false h42] at CY
          rw [charP_self hp h39 h42]
          clear hp h39 h42 CE hT
          generalize c.toNat = N at *
          generalize strOf (c :: r) = S at *
          go_enter Tryd.func73, Tryd.ntmps73
          go_wp2_with (first
            | (go_at_call 68; (with_reducible refine (CP.out _).mono ?_); rintro e w1 ⟨rfl, rfl⟩)
            | (go_at_call 35; (with_reducible refine (CX.out _).mono ?_); rintro e w1 ⟨rfl, rfl⟩)
            | (go_at_call 35; (with_reducible refine (CY.out _).mono ?_); rintro e w1 ⟨rfl, rfl⟩))
          go_ret2
          exact ⟨rfl, b0 _⟩
end Go.Proofs.YtldnmdadlgjbgaaDoor
