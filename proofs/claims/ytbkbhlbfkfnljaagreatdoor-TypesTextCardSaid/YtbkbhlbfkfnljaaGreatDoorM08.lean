/- The program: which tokens exist, the text of a token, symbols among others. -/
import Derived.Test.YtbkbhlbfkfnljaaGreatDoorM04
import Derived.Test.YtbkbhlbfkfnljaaGreatDoorM07
set_option linter.unusedVariables false
set_option linter.unusedSimpArgs false
set_option linter.unusedVariables false
set_option linter.unusedSimpArgs false
namespace Go.Proofs.YtbkbhlbfkfnljaaGreatDoor
open Go Go.RowKit L8

set_option maxRecDepth 100000 in
set_option maxHeartbeats 8000000 in
theorem May_any (t : Tk) (hx : OKx t) (w : World) : Calls Tryz.prog 21 #[rwV t] w fun e w' => e = .returned (.bool (may t)) ∧ Below w.heap.size w w' := by
  obtain ⟨k, a, tx, n⟩ := t
  have hl := hx.1
  dsimp only at hl
  have hk256 : (k : Int) < 256 := by have := hx.2.1; dsimp only at this; omega
  have hk0 : (0 : Int) ≤ (k : Int) := by omega
  have bV := Lib.hid (bal (b0 w) (.cells #[.int .u8 (k : Int), .int .i64 a, .string (strOf tx), .int .i32 n] 39))
  have CN := Lib.hid (fun (W : World) => Name_any tx hl W)
  have CK := Lib.hid (fun (W : World) => Key_any tx W)
  have CS := Lib.hid (fun (W : World) => isSymbol_any tx W)
  have he := eq_nil tx
  have q0 := int_eq0 n
  clear hx hl
  dsimp only [rwV]
  by_cases ha : a < 0
  · rw [may_low (t := ⟨k, a, tx, n⟩) ha]
    generalize strOf tx = S at *
    go_enter Tryz.func21, Tryz.ntmps21
    go_wp2
    go_ret
    exact ⟨rfl, bV.out⟩
  have ha' : decide (a < 0) = false := decide_eq_false ha
  by_cases ha2 : 256 ≤ a
  · rw [may_high (t := ⟨k, a, tx, n⟩) (by show 255 < a; omega)]
    have ha2' : decide ((256 : Int) ≤ a) = true := decide_eq_true ha2
    generalize strOf tx = S at *
    go_enter Tryz.func21, Tryz.ntmps21
    go_wp2
    go_ret
    exact ⟨rfl, bV.out⟩
  have ha2' : decide ((256 : Int) ≤ a) = false := decide_eq_false ha2
  rcases (show k = 1 ∨ k = 2 ∨ k = 3 ∨ k = 4 ∨ k = 5 ∨ (k ≠ 1 ∧ k ≠ 2 ∧ k ≠ 3 ∧ k ≠ 4 ∧ k ≠ 5) by omega) with rfl | rfl | rfl | rfl | rfl | ⟨n1, n2, n3, n4, n5⟩
  · rw [may_1 (by omega) (by omega)]
    generalize decide (n = 0) = b0' at *
    cases hb : isName tx <;> rw [hb] at CN
    all_goals
      clear hb CK CS he
      generalize strOf tx = S at *
      cases b0'
      all_goals
        go_enter Tryz.func21, Tryz.ntmps21
        go_wp2_with (go_at_call 15; (with_reducible refine (CN.out _).mono ?_); rintro e w2 ⟨rfl, rfl⟩)
        go_ret
        exact ⟨rfl, bV.out⟩
  · rw [may_2 (by omega) (by omega)]
    generalize decide (n = 0) = b0' at *
    cases hb : isKey tx <;> rw [hb] at CK
    all_goals
      clear hb CN CS he
      generalize strOf tx = S at *
      cases b0'
      all_goals
        go_enter Tryz.func21, Tryz.ntmps21
        go_wp2_with (go_at_call 34; (with_reducible refine (CK.out _).mono ?_); rintro e w2 ⟨rfl, rfl⟩)
        go_ret
        exact ⟨rfl, bV.out⟩
  · rw [may_3 (by omega) (by omega)]
    generalize tx.isEmpty = b1 at *
    clear CN CK CS q0
    generalize strOf tx = S at *
    cases b1
    all_goals
      go_enter Tryz.func21, Tryz.ntmps21
      go_wp2
      go_ret
      exact ⟨rfl, bV.out⟩
  · rw [may_4 (by omega) (by omega)]
    generalize tx.isEmpty = b1 at *
    clear CN CK CS q0
    generalize strOf tx = S at *
    by_cases g1 : (0 : Int) ≤ n <;> by_cases g2 : n ≤ 255
    all_goals first
      | (exfalso; omega)
      | (simp only [g1, g2, decide_true, decide_false, Bool.and_true, Bool.and_false]
         cases b1
         all_goals
           go_enter Tryz.func21, Tryz.ntmps21
           go_wp2
           go_ret
           exact ⟨rfl, bV.out⟩)
  · rw [may_5 (by omega) (by omega)]
    generalize decide (n = 0) = b0' at *
    cases hb : isSym tx <;> rw [hb] at CS
    all_goals
      clear hb CN CK he
      generalize strOf tx = S at *
      cases b0'
      all_goals
        go_enter Tryz.func21, Tryz.ntmps21
        go_wp2_with (go_at_call 37; (with_reducible refine (CS.out _).mono ?_); rintro e w2 ⟨rfl, rfl⟩)
        go_ret
        exact ⟨rfl, bV.out⟩
  · have e1 : ((k : Int) == 1) = false := by simp; omega
    have e2 : ((k : Int) == 2) = false := by simp; omega
    have e3 : ((k : Int) == 3) = false := by simp; omega
    have e4 : ((k : Int) == 4) = false := by simp; omega
    have e5 : ((k : Int) == 5) = false := by simp; omega
    have hm2 := Lib.hid (may_oth (t := ⟨k, a, tx, n⟩) ⟨n1, n2, n3, n4, n5⟩)
    clear n1 n2 n3 n4 n5
    have key : ∀ (b : Bool), b = false → (Calls Tryz.prog 21 #[.agg #[.int .u8 (k : Int), .int .i64 a, .string (strOf tx), .int .i32 n]] w fun e w' => e = .returned (.bool b) ∧ Below w.heap.size w w') := by
      rintro b rfl
      generalize strOf tx = S at *
      go_enter Tryz.func21, Tryz.ntmps21
      go_wp2
      go_ret
      exact ⟨rfl, bV.out⟩
    exact key _ hm2.out
/-! ### How a byte is written -/
def wr5 : Bs := [13, 10, 9, 39, 42]
def wrOK (v : Nat) : Bool := (decide (Lib.indexByte wr5 (UInt8.ofNat v) = -1) && (decide (v ≠ 13) && decide (v ≠ 10) && decide (v ≠ 9) && decide (v ≠ 39) && decide (v ≠ 42))) || (decide (0 ≤ Lib.indexByte wr5 (UInt8.ofNat v)) && decide (Lib.indexByte wr5 (UInt8.ofNat v) < 5) && decide (shown (v : Int) = [42, escs.getD (Lib.indexByte wr5 (UInt8.ofNat v)).toNat 0]))
theorem wr_all : ∀ n : Fin 256, wrOK n.val = true := by decide +kernel
theorem wr_idx {v : Nat} (hv : v < 256) : (Lib.indexByte wr5 (UInt8.ofNat v) = -1 ∧ (v ≠ 13 ∧ v ≠ 10 ∧ v ≠ 9 ∧ v ≠ 39 ∧ v ≠ 42)) ∨ ∃ i : Nat, i < 5 ∧ Lib.indexByte wr5 (UInt8.ofNat v) = (i : Int) ∧ shown (v : Int) = [42, escs.getD i 0] := by
  have h := wr_all ⟨v, hv⟩
  unfold wrOK at h
  simp only [Bool.or_eq_true, Bool.and_eq_true, decide_eq_true_eq] at h
  rcases h with ⟨h, g⟩ | ⟨⟨h1, h2⟩, h3⟩
  · exact .inl ⟨h, g.1.1.1.1, g.1.1.1.2, g.1.1.2, g.1.2, g.2⟩
  · exact .inr ⟨_, by omega, (Int.toNat_of_nonneg h1).symm, h3⟩
theorem ofNat_toNat {v : Nat} (hv : v < 256) : ((UInt8.ofNat v).toNat : Int) = (v : Int) := by rw [UInt8.toNat_ofNat']; omega
theorem esc_cut {i : Nat} (hi : i < 5) (W : World) : (Instr.slice 9 (.string ⟨#[99, 110, 116, 39, 42, 115, 34]⟩) (some (.int .i64 (i : Int))) (some (.int .i64 ((i : Int) + 1))) none).run Tryz.prog W = .ok (.string (strOf [escs.getD i 0])) W := by
  have := cut_mid escs i (i + 1) (by omega) (by have : escs.length = 7 := rfl; omega) W
  have e : ∀ j : Fin 5, (escs.take (j.val + 1)).drop j.val = [escs.getD j.val 0] := by decide
  rw [e ⟨i, hi⟩] at this
  exact this
theorem hex_two (v : Nat) (hv : v < 256) : (textL (v : Int) true).length = 9 ∧ (textL (v : Int) true).drop 7 = [hexDg (v / 16), hexDg (v % 16)] := by
  rw [text_hex]
  exact ⟨by rw [List.length_cons, hexDigs_length], hex_last v hv⟩
set_option maxRecDepth 100000 in
set_option maxHeartbeats 8000000 in
theorem textOfCharacter_any (v : Nat) (hv : v < 256) (w : World) (ht : W1.Tab w) : Calls Tryz.prog 42 #[.int .i32 (v : Int)] w fun e w' => e = .returned (.string (strOf (shown (v : Int)))) ∧ Below w.heap.size w w' := by
  have v0 : (0 : Int) ≤ (v : Int) := by omega
  have v1 : (v : Int) < 256 := by omega
  have CI : Hid (∀ W : World, Calls Tryz.prog 56 #[.string ⟨#[13, 10, 9, 39, 42]⟩, .int .u8 (v : Int)] W fun e w' => e = .returned (.int .i64 (Lib.indexByte wr5 (UInt8.ofNat v))) ∧ W = w') := Lib.hid fun W => by
    have := cIndexByte wr5 (UInt8.ofNat v) W
    rwa [ofNat_toNat hv] at this
  have CP : Hid (∀ W : World, Calls Tryz.prog 57 #[.int .u8 (v : Int)] W fun e w' => e = .returned (.bool (decide (32 ≤ v) && decide (v ≤ 126))) ∧ W = w') := Lib.hid fun W => by
    have := isPrinting_any (UInt8.ofNat v) W
    unfold printB at this
    rw [ofNat_toNat hv, show (UInt8.ofNat v).toNat = v by have := ofNat_toNat hv; omega] at this
    exact this
  rcases wr_idx hv with ⟨h1, h2⟩ | ⟨i, hi, h1, h2⟩
  · rw [h1] at CI
    by_cases hp : 32 ≤ v ∧ v ≤ 126
    · rw [shown_self h2 hp]
      rw [decide_eq_true hp.1, decide_eq_true hp.2] at CP
      have CP2 : Hid (∀ W : World, Calls Tryz.prog 57 #[.int .u8 (v : Int)] W fun e w' => e = .returned (.bool true) ∧ W = w') := Lib.hid CP.out
      have HB := Lib.hid (bal (b0 w) (.cells #[.int .u8 (v : Int)] 5))
      have hcv := conv_one v w
      clear h1 h2 hp CP ht hv
      generalize strOf [UInt8.ofNat v] = S at *
      go_enter Tryz.func42, Tryz.ntmps42
      go_wp2_with (first
        | (go_at_call 56; (with_reducible refine (CI.out _).mono ?_); rintro e w1 ⟨rfl, rfl⟩)
        | (go_at_call 57; (with_reducible refine (CP2.out _).mono ?_); rintro e w1 ⟨rfl, rfl⟩))
      go_ret
      exact ⟨rfl, HB.out⟩
    · rw [shown_hex h2 hp]
      have CP2 : Hid (∀ W : World, Calls Tryz.prog 57 #[.int .u8 (v : Int)] W fun e w' => e = .returned (.bool false) ∧ W = w') := Lib.hid fun W => by
        have := CP.out W
        rwa [show (decide (32 ≤ v) && decide (v ≤ 126)) = false by rw [← Bool.decide_and]; exact decide_eq_false hp] at this
      have CW := Lib.hid (wText (v : Int) true (by omega) (by omega) w ht)
      obtain ⟨x1, x2⟩ := hex_two v hv
      have hsz := size_strOf (textL (v : Int) true)
      rw [x1] at hsz
      have hcut : ∀ W : World, (Instr.slice 9 (.string (strOf (textL (v : Int) true))) (some (.int .i64 7)) none none).run Tryz.prog W = .ok (.string (strOf ((textL (v : Int) true).drop 7))) W := cut_from (textL (v : Int) true) 7 (by omega)
      rw [x2] at hcut
      have c1 : Op.stringOp .add ⟨#[42, 35]⟩ (strOf [hexDg (v / 16), hexDg (v % 16)]) = pure (.string (strOf [42, 35, hexDg (v / 16), hexDg (v % 16)])) := cat_str [42, 35] [hexDg (v / 16), hexDg (v % 16)] (by simp)
      clear h1 h2 hp CP ht hv x1 x2
      generalize strOf [42, 35, hexDg (v / 16), hexDg (v % 16)] = S1 at *
      generalize strOf [hexDg (v / 16), hexDg (v % 16)] = S2 at *
      generalize strOf (textL (v : Int) true) = S3 at *
      go_enter Tryz.func42, Tryz.ntmps42
      go_wp2_with (first
        | (go_at_call 56; (with_reducible refine (CI.out _).mono ?_); rintro e w1 ⟨rfl, rfl⟩)
        | (go_at_call 57; (with_reducible refine (CP2.out _).mono ?_); rintro e w1 ⟨rfl, rfl⟩)
        | (go_at_call 41; (with_reducible refine (CW.out).mono ?_); rintro e w1 ⟨rfl, b1⟩; have B1 := Lib.hid b1; clear b1))
      go_ret
      exact ⟨rfl, B1.out⟩
  · rw [h1] at CI
    rw [h2]
    have hcut := fun W => esc_cut hi W
    have c1 : Op.stringOp .add ⟨#[42]⟩ (strOf [escs.getD i 0]) = pure (.string (strOf [42, escs.getD i 0])) := cat_str [42] [escs.getD i 0] (by simp)
    have i0 : (0 : Int) ≤ (i : Int) := by omega
    have i1 : (i : Int) < 5 := by omega
    clear h1 h2 CP ht hv hi
    generalize strOf [42, escs.getD i 0] = S1 at *
    generalize strOf [escs.getD i 0] = S2 at *
    go_enter Tryz.func42, Tryz.ntmps42
    go_wp2_with (go_at_call 56; (with_reducible refine (CI.out _).mono ?_); rintro e w1 ⟨rfl, rfl⟩)
    go_ret
    exact ⟨rfl, b0 _⟩
set_option maxRecDepth 100000 in
set_option maxHeartbeats 8000000 in
theorem textOf_any (t : Tk) (hx : OKx t) (hb : t.k = 4 → 0 ≤ t.n ∧ t.n ≤ 255) (w : World) (ht : W1.Tab w) : Calls Tryz.prog 25 #[rwV t] w fun e w' => e = .returned (.string (strOf (one t))) ∧ Below w.heap.size w w' := by
  obtain ⟨k, a, tx, n⟩ := t
  have hk256 : (k : Int) < 256 := by have := hx.2.1; dsimp only at this; omega
  have hk0 : (0 : Int) ≤ (k : Int) := by omega
  have n0 : -2147483648 ≤ n := hx.2.2.1
  have n1 : n ≤ 2147483647 := hx.2.2.2
  have bV := Lib.hid (bal (b0 w) (.cells #[.int .u8 (k : Int), .int .i64 a, .string (strOf tx), .int .i32 n] 39))
  have HT := Lib.hid (fun (o : Obj) => ht.below (bal (b0 w) o))
  clear hx ht
  dsimp only at hb
  dsimp only [rwV]
  by_cases h3 : k = 3
  · rw [one_num h3]
    subst h3
    have C := Lib.hid (fun (W : World) (h : W1.Tab W) => wText n (decide (n < 0)) n0 n1 W h)
    clear hb n0 n1
    generalize strOf tx = TX at *
    generalize strOf (textL n (decide (n < 0))) = S at *
    go_enter Tryz.func25, Tryz.ntmps25
    go_wp2_with (go_at_call 41; (with_reducible refine (C.out _ (HT.out _)).mono ?_); rintro e v1 ⟨rfl, b⟩; have B1 := Lib.hid (blw bV.out b); clear b)
    go_ret
    exact ⟨rfl, B1.out⟩
  by_cases h4 : k = 4
  · rw [one_byte h4]
    obtain ⟨g0, g1⟩ := hb h4
    subst h4
    obtain ⟨v, rfl⟩ : ∃ v : Nat, n = (v : Int) := ⟨n.toNat, by omega⟩
    have C := Lib.hid (fun (W : World) (h : W1.Tab W) => textOfCharacter_any v (by omega) W h)
    have hl := shown_len (v : Int)
    have c1 : Op.stringOp .add ⟨#[39]⟩ (strOf (shown (v : Int))) = pure (.string (strOf ([39] ++ shown (v : Int)))) := cat_str [39] (shown (v : Int)) (by simp; omega)
    have c2 : Op.stringOp .add (strOf ([39] ++ shown (v : Int))) ⟨#[39]⟩ = pure (.string (strOf (39 :: (shown (v : Int) ++ [39])))) := cat_str ([39] ++ shown (v : Int)) [39] (by simp; omega)
    clear hl n0 n1 g0 g1
    generalize strOf tx = TX at *
    generalize strOf ([39] ++ shown (v : Int)) = S1 at *
    generalize strOf (39 :: (shown (v : Int) ++ [39])) = S2 at *
    generalize strOf (shown (v : Int)) = S3 at *
    go_enter Tryz.func25, Tryz.ntmps25
    go_wp2_with (go_at_call 42; (refine (C.out _ (HT.out _)).mono ?_); rintro e v1 ⟨rfl, b⟩; have B1 := Lib.hid (blw bV.out b); clear b)
    go_ret
    exact ⟨rfl, B1.out⟩
  · rw [one_text h3 h4]
    have e3 : ((k : Int) == 3) = false := by simp; omega
    have e4 : ((k : Int) == 4) = false := by simp; omega
    clear h3 h4 hb n0 n1
    generalize strOf tx = TX at *
    go_enter Tryz.func25, Tryz.ntmps25
    go_wp2
    go_ret
    exact ⟨rfl, bV.out⟩
/-! ### Symbols among others -/
def amongB (t : Tk) (S : Bs) : Bool := decide (t.k = 5) && (decide (t.tx.length = 1) && decide (0 ≤ Lib.indexByte S (t.tx.getD 0 0)))
def opB (c : UInt8) : Bool := decide (0 ≤ Lib.indexByte [40, 91] c) == (decide (c = 40) || decide (c = 91))
def clB (c : UInt8) : Bool := decide (0 ≤ Lib.indexByte [44, 59, 58, 41, 93] c) == (decide (c = 44) || decide (c = 59) || decide (c = 58) || decide (c = 41) || decide (c = 93))
theorem opcl_all : ∀ n : Fin 256, (opB (UInt8.ofNat n.val) && clB (UInt8.ofNat n.val)) = true := by decide +kernel
theorem opcl (c : UInt8) : decide (0 ≤ Lib.indexByte [40, 91] c) = (decide (c = 40) || decide (c = 91)) ∧ decide (0 ≤ Lib.indexByte [44, 59, 58, 41, 93] c) = (decide (c = 44) || decide (c = 59) || decide (c = 58) || decide (c = 41) || decide (c = 93)) := by
  have h := opcl_all ⟨c.toNat, c.toNat_lt⟩
  rw [show UInt8.ofNat (⟨c.toNat, c.toNat_lt⟩ : Fin 256).val = c by simp] at h
  rw [Bool.and_eq_true] at h
  exact ⟨eq_of_beq h.1, eq_of_beq h.2⟩
theorem one_eq (c d : UInt8) : decide ([c] = [d]) = decide (c = d) := by by_cases h : c = d <;> simp [h]
theorem among_opens (t : Tk) : amongB t [40, 91] = opens t := by
  unfold amongB opens
  congr 1
  match t.tx with
  | [] => rfl
  | [c] =>
    rw [one_eq, one_eq, decide_eq_true (show [c].length = 1 from rfl), Bool.true_and]
    exact (opcl c).1
  | c :: d :: r => simp
theorem among_closes (t : Tk) : amongB t [44, 59, 58, 41, 93] = closes t := by
  unfold amongB closes
  congr 1
  match t.tx with
  | [] => rfl
  | [c] =>
    rw [one_eq, one_eq, one_eq, one_eq, one_eq, decide_eq_true (show [c].length = 1 from rfl), Bool.true_and]
    exact (opcl c).2
  | c :: d :: r => simp
theorem cContains1 (S : Bs) (c : UInt8) (w : World) : Calls Tryz.prog 52 #[.string (strOf S), .string (strOf [c])] w fun e w' => e = .returned (.bool (decide (0 ≤ Lib.indexByte S c))) ∧ w = w' :=
  (Tryz.strings_Contains_one (strOf S) c w).mono fun e w' h => by
    rw [data_strOf] at h
    exact ⟨h.1, h.2.symm⟩
set_option maxRecDepth 100000 in
set_option maxHeartbeats 8000000 in
theorem isAmong_any (t : Tk) (S : Bs) (hx : OKx t) (w : World) : Calls Tryz.prog 39 #[rwV t, .string (strOf S)] w fun e w' => e = .returned (.bool (amongB t S)) ∧ Below w.heap.size w w' := by
  obtain ⟨k, a, tx, n⟩ := t
  have hl := hx.1
  dsimp only at hl
  unfold maxLen at hl
  have bV := Lib.hid (bal (b0 w) (.cells #[.int .u8 (k : Int), .int .i64 a, .string (strOf tx), .int .i32 n] 39))
  have hsz := size_strOf tx
  clear hx
  dsimp only [rwV]
  unfold amongB
  dsimp only
  by_cases h5 : k = 5
  · subst h5
    rw [decide_eq_true (show (5 : Nat) = 5 from rfl), Bool.true_and]
    by_cases h1 : tx.length = 1
    · obtain ⟨c, rfl⟩ : ∃ c, tx = [c] := List.length_eq_one_iff.1 h1
      have CC := Lib.hid (fun (W : World) => cContains1 S c W)
      rw [decide_eq_true h1, Bool.true_and, show [c].getD 0 0 = c from rfl]
      rw [h1] at hsz
      generalize decide (0 ≤ Lib.indexByte S c) = b at *
      clear h1 hl
      generalize strOf [c] = TX at *
      generalize strOf S = SS at *
      go_enter Tryz.func39, Tryz.ntmps39
      go_wp2_with (go_at_call 52; (with_reducible refine (CC.out _).mono ?_); rintro e v1 ⟨rfl, rfl⟩)
      go_ret
      exact ⟨rfl, bV.out⟩
    · have q1 : ((tx.length : Int) == 1) = false := by simp; omega
      rw [decide_eq_false h1, Bool.false_and]
      generalize tx.length = N at *
      clear h1
      generalize strOf tx = TX at *
      generalize strOf S = SS at *
      go_enter Tryz.func39, Tryz.ntmps39
      go_wp2
      go_ret
      exact ⟨rfl, bV.out⟩
  · have q5 : ((k : Int) == 5) = false := by simp; omega
    rw [decide_eq_false h5, Bool.false_and]
    clear h5
    generalize strOf tx = TX at *
    generalize strOf S = SS at *
    go_enter Tryz.func39, Tryz.ntmps39
    go_wp2
    go_ret
    exact ⟨rfl, bV.out⟩
end Go.Proofs.YtbkbhlbfkfnljaaGreatDoor
