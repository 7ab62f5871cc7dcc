/- The program's bytes, words, symbols and names. -/
import Derived.Test.YtimbiobonigdmaaGreatDoorM01
import Derived.Test.YtimbiobonigdmaaGreatDoorLxh
set_option linter.unusedVariables false
set_option linter.unusedSimpArgs false
set_option linter.unusedVariables false
set_option linter.unusedSimpArgs false
namespace Go.Proofs.YtimbiobonigdmaaGreatDoor
open Go Go.RowKit L8

def printB (c : UInt8) : Bool := decide (32 ≤ c.toNat) && decide (c.toNat ≤ 126)
theorem print_int (c : UInt8) (n : Nat) (h : c.toNat = n) : printB c = (decide ((32 : Int) ≤ (n : Int)) && decide ((n : Int) ≤ 126)) := by
  subst h
  unfold printB
  rw [dle 32, dle _ 126]
  rfl
theorem isLetter_any (c : UInt8) (w : World) : Calls Tryz.prog 100 #[.int .u8 (c.toNat : Int)] w fun e w' => e = .returned (.bool (letter c)) ∧ w = w' := by
  obtain ⟨d, hd⟩ : ∃ d, c.toNat = d := ⟨_, rfl⟩
  rw [letter_int c d hd, hd]
  clear hd
  by_cases g1 : (65 : Int) ≤ (d : Int) <;> by_cases g2 : (d : Int) ≤ 90 <;> by_cases g3 : (97 : Int) ≤ (d : Int) <;> by_cases g4 : (d : Int) ≤ 122
  all_goals first
    | (exfalso; omega)
    | (simp only [g1, g2, g3, g4, decide_true, decide_false, Bool.and_true, Bool.and_false, Bool.or_true, Bool.or_false, Bool.true_and, Bool.false_and]
       go_enter Tryz.func100, Tryz.ntmps100
       go_wp2
       go_ret
       exact ⟨rfl, rfl⟩)
theorem isDigit_any (c : UInt8) (w : World) : Calls Tryz.prog 113 #[.int .u8 (c.toNat : Int)] w fun e w' => e = .returned (.bool (digit c)) ∧ w = w' := by
  obtain ⟨d, hd⟩ : ∃ d, c.toNat = d := ⟨_, rfl⟩
  rw [digit_int c d hd, hd]
  clear hd
  by_cases g1 : (48 : Int) ≤ (d : Int) <;> by_cases g2 : (d : Int) ≤ 57
  all_goals
    simp only [g1, g2, decide_true, decide_false, Bool.and_true, Bool.and_false]
    go_enter Tryz.func113, Tryz.ntmps113
    go_wp2
    go_ret
    exact ⟨rfl, rfl⟩
theorem isWordByte_any (c : UInt8) (w : World) : Calls Tryz.prog 108 #[.int .u8 (c.toNat : Int)] w fun e w' => e = .returned (.bool (wordB c)) ∧ w = w' := by
  have C1 := Lib.hid (fun W => isLetter_any c W)
  have C2 := Lib.hid (fun W => isDigit_any c W)
  have q := byte_eq c 46 (by decide) 46 rfl
  have q' : ((c.toNat : Int) == 46) = decide (c = 46) := q
  unfold wordB
  generalize decide (c = 46) = b3 at *
  generalize letter c = b1 at *
  generalize digit c = b2 at *
  generalize c.toNat = N at *
  clear q
  cases b1 <;> cases b2 <;> cases b3
  all_goals
    go_enter Tryz.func108, Tryz.ntmps108
    go_wp2_with (first
      | (go_at_call 100; (with_reducible refine (C1.out _).mono ?_); rintro e w1 ⟨rfl, rfl⟩)
      | (go_at_call 113; (with_reducible refine (C2.out _).mono ?_); rintro e w1 ⟨rfl, rfl⟩))
    go_ret
    exact ⟨rfl, rfl⟩
/-! ### Switches over words -/
theorem lit_eq (l k : Bs) : ((strOf l).toList == k) = decide (l = k) := by
  rw [toList_strOf]; by_cases h : l = k <;> simp [h]
theorem isSymbol_or (s : Bs) : isSym s = ((s == [43]) || (s == [45]) || (s == [42]) || (s == [47]) || (s == [92]) || (s == [47, 92]) || (s == [92, 47]) || (s == [62, 60]) || (s == [60, 60]) || (s == [62, 62]) || (s == [61]) || (s == [60, 62]) || (s == [60]) || (s == [62]) || (s == [60, 61]) || (s == [62, 61]) || (s == [126]) || (s == [58, 61]) || (s == [63]) || (s == [33]) || (s == [38]) || (s == [58]) || (s == [59]) || (s == [44]) || (s == [40]) || (s == [41]) || (s == [91]) || (s == [93])) := by
  unfold isSym syms
  simp only [List.contains_cons, List.contains_nil, Bool.or_false, Bool.or_assoc]
theorem Key_or (s : Bs) : isKey s = ((s == [65, 70, 84, 69, 82]) || (s == [65, 76, 84]) || (s == [65, 78, 68]) || (s == [66, 79, 79, 76]) || (s == [66, 89, 84, 69]) || (s == [67, 65, 83, 69]) || (s == [67, 72, 65, 78]) || (s == [69, 76, 83, 69]) || (s == [70, 65, 76, 83, 69]) || (s == [70, 79, 82]) || (s == [73, 70]) || (s == [73, 78, 84]) || (s == [73, 83]) || (s == [77, 73, 78, 85, 83]) || (s == [78, 79, 84]) || (s == [79, 70]) || (s == [79, 82]) || (s == [80, 65, 82]) || (s == [80, 76, 65, 67, 69, 68]) || (s == [80, 76, 85, 83]) || (s == [80, 82, 73]) || (s == [80, 82, 79, 67]) || (s == [80, 82, 79, 67, 69, 83, 83, 79, 82]) || (s == [80, 82, 79, 84, 79, 67, 79, 76]) || (s == [83, 69, 81]) || (s == [83, 73, 90, 69]) || (s == [83, 75, 73, 80]) || (s == [83, 84, 79, 80]) || (s == [84, 73, 77, 69, 82]) || (s == [84, 73, 77, 69, 83]) || (s == [84, 82, 85, 69]) || (s == [86, 65, 76]) || (s == [87, 72, 73, 76, 69])) := by
  unfold isKey keys
  simp only [List.contains_cons, List.contains_nil, Bool.or_false, Bool.or_assoc]
set_option maxRecDepth 100000 in
set_option maxHeartbeats 8000000 in
theorem Key_any (s : Bs) (w : World) : Calls Tryz.prog 102 #[.string (strOf s)] w fun e w' => e = .returned (.bool (isKey s)) ∧ w = w' := by
  rw [Key_or]
  have q1 : ((strOf s).toList == [65, 70, 84, 69, 82]) = (s == [65, 70, 84, 69, 82]) := by rw [toList_strOf]
  have q2 : ((strOf s).toList == [65, 76, 84]) = (s == [65, 76, 84]) := by rw [toList_strOf]
  have q3 : ((strOf s).toList == [65, 78, 68]) = (s == [65, 78, 68]) := by rw [toList_strOf]
  have q4 : ((strOf s).toList == [66, 79, 79, 76]) = (s == [66, 79, 79, 76]) := by rw [toList_strOf]
  have q5 : ((strOf s).toList == [66, 89, 84, 69]) = (s == [66, 89, 84, 69]) := by rw [toList_strOf]
  have q6 : ((strOf s).toList == [67, 65, 83, 69]) = (s == [67, 65, 83, 69]) := by rw [toList_strOf]
  have q7 : ((strOf s).toList == [67, 72, 65, 78]) = (s == [67, 72, 65, 78]) := by rw [toList_strOf]
  have q8 : ((strOf s).toList == [69, 76, 83, 69]) = (s == [69, 76, 83, 69]) := by rw [toList_strOf]
  have q9 : ((strOf s).toList == [70, 65, 76, 83, 69]) = (s == [70, 65, 76, 83, 69]) := by rw [toList_strOf]
  have q10 : ((strOf s).toList == [70, 79, 82]) = (s == [70, 79, 82]) := by rw [toList_strOf]
  have q11 : ((strOf s).toList == [73, 70]) = (s == [73, 70]) := by rw [toList_strOf]
  have q12 : ((strOf s).toList == [73, 78, 84]) = (s == [73, 78, 84]) := by rw [toList_strOf]
  have q13 : ((strOf s).toList == [73, 83]) = (s == [73, 83]) := by rw [toList_strOf]
  have q14 : ((strOf s).toList == [77, 73, 78, 85, 83]) = (s == [77, 73, 78, 85, 83]) := by rw [toList_strOf]
  have q15 : ((strOf s).toList == [78, 79, 84]) = (s == [78, 79, 84]) := by rw [toList_strOf]
  have q16 : ((strOf s).toList == [79, 70]) = (s == [79, 70]) := by rw [toList_strOf]
  have q17 : ((strOf s).toList == [79, 82]) = (s == [79, 82]) := by rw [toList_strOf]
  have q18 : ((strOf s).toList == [80, 65, 82]) = (s == [80, 65, 82]) := by rw [toList_strOf]
  have q19 : ((strOf s).toList == [80, 76, 65, 67, 69, 68]) = (s == [80, 76, 65, 67, 69, 68]) := by rw [toList_strOf]
  have q20 : ((strOf s).toList == [80, 76, 85, 83]) = (s == [80, 76, 85, 83]) := by rw [toList_strOf]
  have q21 : ((strOf s).toList == [80, 82, 73]) = (s == [80, 82, 73]) := by rw [toList_strOf]
  have q22 : ((strOf s).toList == [80, 82, 79, 67]) = (s == [80, 82, 79, 67]) := by rw [toList_strOf]
  have q23 : ((strOf s).toList == [80, 82, 79, 67, 69, 83, 83, 79, 82]) = (s == [80, 82, 79, 67, 69, 83, 83, 79, 82]) := by rw [toList_strOf]
  have q24 : ((strOf s).toList == [80, 82, 79, 84, 79, 67, 79, 76]) = (s == [80, 82, 79, 84, 79, 67, 79, 76]) := by rw [toList_strOf]
  have q25 : ((strOf s).toList == [83, 69, 81]) = (s == [83, 69, 81]) := by rw [toList_strOf]
  have q26 : ((strOf s).toList == [83, 73, 90, 69]) = (s == [83, 73, 90, 69]) := by rw [toList_strOf]
  have q27 : ((strOf s).toList == [83, 75, 73, 80]) = (s == [83, 75, 73, 80]) := by rw [toList_strOf]
  have q28 : ((strOf s).toList == [83, 84, 79, 80]) = (s == [83, 84, 79, 80]) := by rw [toList_strOf]
  have q29 : ((strOf s).toList == [84, 73, 77, 69, 82]) = (s == [84, 73, 77, 69, 82]) := by rw [toList_strOf]
  have q30 : ((strOf s).toList == [84, 73, 77, 69, 83]) = (s == [84, 73, 77, 69, 83]) := by rw [toList_strOf]
  have q31 : ((strOf s).toList == [84, 82, 85, 69]) = (s == [84, 82, 85, 69]) := by rw [toList_strOf]
  have q32 : ((strOf s).toList == [86, 65, 76]) = (s == [86, 65, 76]) := by rw [toList_strOf]
  have q33 : ((strOf s).toList == [87, 72, 73, 76, 69]) = (s == [87, 72, 73, 76, 69]) := by rw [toList_strOf]
  generalize (s == [65, 70, 84, 69, 82]) = b1 at *
  generalize (s == [65, 76, 84]) = b2 at *
  generalize (s == [65, 78, 68]) = b3 at *
  generalize (s == [66, 79, 79, 76]) = b4 at *
  generalize (s == [66, 89, 84, 69]) = b5 at *
  generalize (s == [67, 65, 83, 69]) = b6 at *
  generalize (s == [67, 72, 65, 78]) = b7 at *
  generalize (s == [69, 76, 83, 69]) = b8 at *
  generalize (s == [70, 65, 76, 83, 69]) = b9 at *
  generalize (s == [70, 79, 82]) = b10 at *
  generalize (s == [73, 70]) = b11 at *
  generalize (s == [73, 78, 84]) = b12 at *
  generalize (s == [73, 83]) = b13 at *
  generalize (s == [77, 73, 78, 85, 83]) = b14 at *
  generalize (s == [78, 79, 84]) = b15 at *
  generalize (s == [79, 70]) = b16 at *
  generalize (s == [79, 82]) = b17 at *
  generalize (s == [80, 65, 82]) = b18 at *
  generalize (s == [80, 76, 65, 67, 69, 68]) = b19 at *
  generalize (s == [80, 76, 85, 83]) = b20 at *
  generalize (s == [80, 82, 73]) = b21 at *
  generalize (s == [80, 82, 79, 67]) = b22 at *
  generalize (s == [80, 82, 79, 67, 69, 83, 83, 79, 82]) = b23 at *
  generalize (s == [80, 82, 79, 84, 79, 67, 79, 76]) = b24 at *
  generalize (s == [83, 69, 81]) = b25 at *
  generalize (s == [83, 73, 90, 69]) = b26 at *
  generalize (s == [83, 75, 73, 80]) = b27 at *
  generalize (s == [83, 84, 79, 80]) = b28 at *
  generalize (s == [84, 73, 77, 69, 82]) = b29 at *
  generalize (s == [84, 73, 77, 69, 83]) = b30 at *
  generalize (s == [84, 82, 85, 69]) = b31 at *
  generalize (s == [86, 65, 76]) = b32 at *
  generalize (s == [87, 72, 73, 76, 69]) = b33 at *
  generalize strOf s = S at *
  go_enter Tryz.func102, Tryz.ntmps102
  go_wp2
  all_goals (go_ret; exact ⟨ret_b (by simp_all), rfl⟩)
/-! ### Word bytes -/
theorem tw_self : ∀ {l : Bs}, l.all wordB = true → l.takeWhile wordB = l
  | [], _ => rfl
  | c :: l, h => by
    rw [List.all_cons, Bool.and_eq_true] at h
    rw [List.takeWhile_cons_of_pos h.1, tw_self h.2]
theorem tw_self' : ∀ {l : Bs}, l.takeWhile wordB = l → l.all wordB = true
  | [], _ => rfl
  | c :: l, h => by
    by_cases hc : wordB c = true
    · rw [List.takeWhile_cons_of_pos hc] at h
      injection h with _ h
      rw [List.all_cons, hc, tw_self' h]; rfl
    · rw [List.takeWhile_cons_of_neg hc] at h; cases h
theorem tw_all {l : Bs} {k : Nat} (h : (l.take k).all wordB = true) (hk : k = l.length) : l.takeWhile wordB = l := by
  rw [List.take_of_length_le (by omega)] at h
  exact tw_self h
theorem tw_cut {l : Bs} {k : Nat} (hk : k < l.length) (h : (l.take k).all wordB = true) (hc : wordB (l.getD k 0) = false) : l.takeWhile wordB = l.take k := by
  have e : l = l.take k ++ l.getD k 0 :: l.drop (k + 1) := by
    have h1 := (List.take_append_drop k l).symm
    rw [List.drop_eq_getElem_cons hk] at h1
    have : l.getD k 0 = l[k] := by simp [hk]
    rw [this]; exact h1
  conv => lhs; rw [e]
  rw [List.takeWhile_append_of_pos (by simpa using h), List.takeWhile_cons_of_neg (by rw [hc]; decide), List.append_nil]
set_option maxRecDepth 100000 in
set_option maxHeartbeats 4000000 in
theorem wordBytes_any (s : Bs) (hl : s.length ≤ maxLen) (w : World) : Calls Tryz.prog 101 #[.string (strOf s)] w fun e w' => e = .returned (.string (strOf (s.takeWhile wordB))) ∧ w = w' := by
  have hsz := size_strOf s
  obtain ⟨n, hn⟩ : ∃ n, s.length = n := ⟨_, rfl⟩
  rw [hn] at hsz hl
  unfold maxLen at hl
  have hn0 : (0 : Int) ≤ (n : Int) := by omega
  have CWd := Lib.hid (fun (k : Nat) (W : World) => isWordByte_any (s.getD k 0) W)
  have HM := Lib.hid hn
  have HI := Lib.hid (fun k (h : k < n) => index_l s k (by omega))
  have HT := Lib.hid (fun k (h : k ≤ n) => cut_to s k (by omega))
  have HA := Lib.hid (fun (k : Nat) => tw_all (l := s) (k := k))
  have HC := Lib.hid (fun (k : Nat) => tw_cut (l := s) (k := k))
  clear hn
  generalize s.takeWhile wordB = T at *
  go_enter Tryz.func101, Tryz.ntmps101
  go_wp2
  go_loopw [6] (fun i wr => ∃ k : Nat, k ≤ n ∧ i = .int .i64 k ∧ w = wr ∧ Hid ((s.take k).all wordB = true)) (fun i _ => n - (intOf i).toNat)
  case atStart => exact ⟨0, Nat.zero_le _, rfl, rfl, Lib.hid (by rw [List.take_zero]; rfl)⟩
  case round =>
    obtain ⟨k, hk, rfl, rfl, H⟩ := hrel
    have hk0 : (0 : Int) ≤ (k : Int) := by omega
    by_cases hk1 : (k : Int) < (n : Int)
    · have hi := HI.out k (by omega)
      have ht := HT.out k (by omega)
      have Cw := Lib.hid (CWd.out k)
      have HS := Lib.hid (fun h => all_snoc (l := s) (k := k) (f := wordB) (by have := HM.out; omega) H.out h)
      have HB := Lib.hid (HC.out k (by have := HM.out; omega) H.out)
      generalize s.getD k 0 = c at *
      cases hc : wordB c with
      | false =>
        rw [hc] at Cw
        have HE := Lib.hid (show strOf T = strOf (s.take k) by rw [HB.out hc])
        clear hc HS HB H
        generalize c.toNat = M at *
        generalize strOf (s.take k) = TK at *
        go_wp2_with (go_at_call 108; (with_reducible refine (Cw.out _).mono ?_); rintro e w3 ⟨rfl, rfl⟩)
        go_ret
        rw [HE.out]
        exact ⟨rfl, rfl⟩
      | true =>
        rw [hc] at Cw
        have HE := Lib.hid (HS.out hc)
        clear hc HS HB H
        generalize c.toNat = M at *
        go_wp2_with (go_at_call 108; (with_reducible refine (Cw.out _).mono ?_); rintro e w3 ⟨rfl, rfl⟩)
        go_roundw
        case rel => exact ⟨k + 1, by omega, by go_num, trivial, HE⟩
        case measure => simp [intOf]; omega
    · obtain rfl : k = n := by omega
      have HE := Lib.hid (HA.out k H.out (by have := HM.out; omega))
      clear H
      go_wp2
      go_ret
      rw [HE.out]
      exact ⟨rfl, rfl⟩
/-! ### Names -/
theorem tw_eq (s : Bs) : decide (s.takeWhile wordB = s) = s.all wordB := by
  cases h : s.all wordB with
  | true => exact decide_eq_true (tw_self h)
  | false =>
    refine decide_eq_false (fun e => ?_)
    rw [tw_self' e] at h
    cases h
theorem name_cases {s : Bs} {n : Nat} (hn : s.length = n) (h0 : s ≠ []) (h32 : n ≤ 32) : isName s = (letter (s.getD 0 0) && (s.all wordB && !isKey s)) := by
  have hh : s.headD 0 = s.getD 0 0 := by cases s with | nil => rfl | cons c r => rfl
  have := List.length_pos_iff.2 h0
  unfold isName
  rw [decide_eq_true (show 1 ≤ s.length by omega), decide_eq_true (show s.length ≤ 32 by omega), hh]
  cases letter (s.getD 0 0) <;> cases isKey s <;> cases s.all wordB <;> rfl
set_option maxRecDepth 100000 in
set_option maxHeartbeats 4000000 in
theorem Name_any (s : Bs) (hl : s.length ≤ maxLen) (w : World) : Calls Tryz.prog 90 #[.string (strOf s)] w fun e w' => e = .returned (.bool (isName s)) ∧ w = w' := by
  have hsz := size_strOf s
  have he := eq_nil s
  have he2 : ((strOf s).toList != []) = !s.isEmpty := by rw [bne, he]
  have CB := Lib.hid (fun (W : World) => wordBytes_any s hl W)
  obtain ⟨n, hn⟩ : ∃ n, s.length = n := ⟨_, rfl⟩
  rw [hn] at hsz hl
  unfold maxLen at hl
  have hn0 : (0 : Int) ≤ (n : Int) := by omega
  have CK := Lib.hid (fun (W : World) => Key_any s W)
  by_cases h0 : s = []
  · rw [name_no (.inl h0)]
    have e1 : s.isEmpty = true := by rw [h0]; rfl
    rw [e1] at he he2
    clear hn h0 e1
    generalize strOf s = S at *
    go_enter Tryz.func90, Tryz.ntmps90
    go_wp2
    go_ret
    exact ⟨rfl, rfl⟩
  · have e1 : s.isEmpty = false := by cases s with | nil => exact absurd rfl h0 | cons c r => rfl
    rw [e1] at he he2
    have hpos := List.length_pos_iff.2 h0
    by_cases h32 : (n : Int) ≤ 32
    · have q32 : decide ((n : Int) ≤ 32) = true := decide_eq_true h32
      have hi0 : ∀ W : World, (Instr.index 9 (.string (strOf s)) (.int .i64 0)).run Tryz.prog W = .ok (.int .u8 ((s.getD 0 0).toNat : Int)) W := index_l s 0 (by omega)
      have CL0 := Lib.hid (fun (W : World) => isLetter_any (s.getD 0 0) W)
      have hT := eqS (s.takeWhile wordB) s
      rw [tw_eq] at hT
      rw [name_cases hn h0 (by omega)]
      generalize letter (s.getD 0 0) = b1 at *
      generalize s.all wordB = b2 at *
      generalize isKey s = b3 at *
      clear hn h0 hpos e1
      generalize (s.getD 0 0).toNat = N at *
      generalize strOf (s.takeWhile wordB) = T at *
      generalize strOf s = S at *
      cases b1 <;> cases b2 <;> cases b3
      all_goals
        go_enter Tryz.func90, Tryz.ntmps90
        go_wp2_with (first
          | (go_at_call 100; (with_reducible refine (CL0.out _).mono ?_); rintro e w1 ⟨rfl, rfl⟩)
          | (go_at_call 101; (with_reducible refine (CB.out _).mono ?_); rintro e w1 ⟨rfl, rfl⟩)
          | (go_at_call 102; (with_reducible refine (CK.out _).mono ?_); rintro e w1 ⟨rfl, rfl⟩))
        go_ret
        exact ⟨rfl, rfl⟩
    · have q32 : decide ((n : Int) ≤ 32) = false := decide_eq_false h32
      rw [name_no (.inr (.inl (by omega)))]
      clear hn h0 hpos e1
      generalize strOf s = S at *
      go_enter Tryz.func90, Tryz.ntmps90
      go_wp2
      go_ret
      exact ⟨rfl, rfl⟩
end Go.Proofs.YtimbiobonigdmaaGreatDoor
/- The reference: the fields that a kind has. -/
set_option linter.unusedVariables false
set_option linter.unusedSimpArgs false
namespace Go.Proofs.YtimbiobonigdmaaGreatDoor
open Go Go.RowKit L8 L10

theorem RPrimX_any (k : Nat) (w : World) : Calls Tryz.prog 94 #[.int .u8 (k : Int)] w fun e w' => e = .returned (.bool (prim k)) ∧ w = w' := by
  have q1 : ((k : Int) == 1) = decide (k = 1) := nat_eq10 k 1
  have q2 : ((k : Int) == 2) = decide (k = 2) := nat_eq10 k 2
  have q3 : ((k : Int) == 3) = decide (k = 3) := nat_eq10 k 3
  unfold prim
  generalize decide (k = 1) = b1 at *
  generalize decide (k = 2) = b2 at *
  generalize decide (k = 3) = b3 at *
  cases b1 <;> cases b2 <;> cases b3
  all_goals
    go_enter Tryz.func94, Tryz.ntmps94
    go_wp2
    go_ret
    exact ⟨rfl, rfl⟩
theorem eq_nil10 (l : Bs) : ((strOf l).toList.isEmpty) = decide (l = []) := by rw [strOf_empty]; cases l <;> rfl
theorem and6 (a b c d e : Bool) : (a && (b && (c && (d && e)))) = (a && b && c && d && e) := by cases a <;> cases b <;> cases c <;> cases d <;> rfl
theorem own_is1 {e : Ex} (h : e.k = 1) : ownE e = (true && (decide (e.l.length = 0) && (decide (e.o = 0) && (decide (e.t = 0) && (decide (e.s = [])))))) := by
  unfold ownE fineE zeroE parts
  simp only [h]
  simp
theorem own_is2 {e : Ex} (h : e.k = 2) : ownE e = ((decide (0 ≤ e.n) && decide (e.n ≤ 255)) && (decide (e.l.length = 0) && (decide (e.o = 0) && (decide (e.t = 0) && (decide (e.s = [])))))) := by
  unfold ownE fineE zeroE parts
  simp only [h]
  simp [Bool.and_assoc]
theorem own_is3 {e : Ex} (h : e.k = 3) : ownE e = ((decide (e.n = 0) || decide (e.n = 1)) && (decide (e.l.length = 0) && (decide (e.o = 0) && (decide (e.t = 0) && (decide (e.s = [])))))) := by
  unfold ownE fineE zeroE parts
  simp only [h]
  simp [Bool.and_assoc]
theorem own_is4 {e : Ex} (h : e.k = 4) : ownE e = (isName e.s && (decide (e.l.length = 0) && (decide (e.o = 0) && (decide (e.t = 0) && (decide (e.n = 0)))))) := by
  unfold ownE fineE zeroE parts
  simp only [h]
  simp [Bool.and_assoc]
theorem own_is5 {e : Ex} (h : e.k = 5) : ownE e = (isName e.s && (decide (e.l.length = 1) && (decide (e.o = 0) && (decide (e.t = 0) && (decide (e.n = 0)))))) := by
  unfold ownE fineE zeroE parts
  simp only [h]
  simp [Bool.and_assoc]
theorem own_is6 {e : Ex} (h : e.k = 6) : ownE e = ((decide (23 ≤ e.o) && decide (e.o ≤ 26)) && (decide (e.l.length = 1) && (decide (e.t = 0) && (decide (e.n = 0) && (decide (e.s = [])))))) := by
  unfold ownE fineE zeroE parts
  simp only [h]
  simp [Bool.and_assoc]
theorem own_is7 {e : Ex} (h : e.k = 7) : ownE e = ((decide (1 ≤ e.o) && decide (e.o ≤ 22)) && (decide (e.l.length = 2) && (decide (e.t = 0) && (decide (e.n = 0) && (decide (e.s = [])))))) := by
  unfold ownE fineE zeroE parts
  simp only [h]
  simp [Bool.and_assoc]
theorem own_is8 {e : Ex} (h : e.k = 8) : ownE e = (prim e.t && (decide (e.l.length = 1) && (decide (e.o = 0) && (decide (e.n = 0) && (decide (e.s = [])))))) := by
  unfold ownE fineE zeroE parts
  simp only [h]
  simp [Bool.and_assoc]
theorem own_is9 {e : Ex} (h : e.k = 9) : ownE e = (isName e.s && (decide (e.l.length = 0) && (decide (e.o = 0) && (decide (e.t = 0) && (decide (e.n = 0)))))) := by
  unfold ownE fineE zeroE parts
  simp only [h]
  simp [Bool.and_assoc]
theorem own_isx {e : Ex} (h1 : e.k ≠ 1) (h2 : e.k ≠ 2) (h3 : e.k ≠ 3) (h4 : e.k ≠ 4) (h5 : e.k ≠ 5) (h6 : e.k ≠ 6) (h7 : e.k ≠ 7) (h8 : e.k ≠ 8) (h9 : e.k ≠ 9) : ownE e = false := by
  unfold ownE fineE
  simp [h1, h2, h3, h4, h5, h6, h7, h8, h9]
end Go.Proofs.YtimbiobonigdmaaGreatDoor
