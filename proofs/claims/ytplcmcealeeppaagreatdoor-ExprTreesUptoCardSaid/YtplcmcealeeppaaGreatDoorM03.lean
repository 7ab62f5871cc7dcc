/- The program: which tokens exist, the text of a token, symbols among others. -/
import Derived.Deep.LoopGhost
import Derived.Lib.LaidTab
import Derived.Stop.LaidErr
import Derived.OpenShut
import Derived.Test.YtplcmcealeeppaaGreatDoorM02
import Derived.Test.YtplcmcealeeppaaGreatDoorM01
set_option linter.unusedVariables false
set_option linter.unusedSimpArgs false
set_option linter.unusedVariables false
set_option linter.unusedSimpArgs false
namespace Go.Proofs.YtplcmcealeeppaaGreatDoor
open Go Go.RowKit L8

set_option maxRecDepth 100000 in
set_option maxHeartbeats 8000000 in
theorem May_any (t : Tk) (hx : OKx t) (w : World) : Calls Tryz.prog 44 #[rwV t] w fun e w' => e = .returned (.bool (may t)) ∧ Below w.heap.size w w' := by
  obtain ⟨k, a, tx, n⟩ := t
  have hl := hx.1
  dsimp only at hl
  have hk256 : (k : Int) < 256 := by have := hx.2.1; dsimp only at this; omega
  have hk0 : (0 : Int) ≤ (k : Int) := by omega
  have bV := Lib.hid (bal (b0 w) (.cells #[.int .u8 (k : Int), .int .i64 a, .string (strOf tx), .int .i32 n] 47))
  have CN := Lib.hid (fun (W : World) => Name_any tx hl W)
  have CK := Lib.hid (fun (W : World) => Key_any tx W)
  have CS := Lib.hid (fun (W : World) => isSymbol_any tx W)
  have he := eq_nil tx
  have q0 := int_eq0 n
  clear hx hl
  dsimp only [rwV]
  by_cases ha : a < 0
  · rw [may_low (t := ⟨k, a, tx, n⟩) ha]
    generalize strOf tx = S at *
    go_enter Tryz.func44, Tryz.ntmps44
    go_wp2
    go_ret
    exact ⟨rfl, bV.out⟩
  have ha' : decide (a < 0) = false := decide_eq_false ha
  by_cases ha2 : 256 ≤ a
  · rw [may_high (t := ⟨k, a, tx, n⟩) (by show 255 < a; omega)]
    have ha2' : decide ((256 : Int) ≤ a) = true := decide_eq_true ha2
    generalize strOf tx = S at *
    go_enter Tryz.func44, Tryz.ntmps44
    go_wp2
    go_ret
    exact ⟨rfl, bV.out⟩
  have ha2' : decide ((256 : Int) ≤ a) = false := decide_eq_false ha2
  rcases (show k = 1 ∨ k = 2 ∨ k = 3 ∨ k = 4 ∨ k = 5 ∨ (k ≠ 1 ∧ k ≠ 2 ∧ k ≠ 3 ∧ k ≠ 4 ∧ k ≠ 5) by omega) with rfl | rfl | rfl | rfl | rfl | ⟨n1, n2, n3, n4, n5⟩
  · rw [may_1 (by omega) (by omega)]
    generalize decide (n = 0) = b0' at *
    cases hb : isName tx <;> rw [hb] at CN
    all_goals
      clear hb CK CS he
      generalize strOf tx = S at *
      cases b0'
      all_goals
        go_enter Tryz.func44, Tryz.ntmps44
        go_wp2_with (go_at_call 73; (with_reducible refine (CN.out _).mono ?_); rintro e w2 ⟨rfl, rfl⟩)
        go_ret
        exact ⟨rfl, bV.out⟩
  · rw [may_2 (by omega) (by omega)]
    generalize decide (n = 0) = b0' at *
    cases hb : isKey tx <;> rw [hb] at CK
    all_goals
      clear hb CN CS he
      generalize strOf tx = S at *
      cases b0'
      all_goals
        go_enter Tryz.func44, Tryz.ntmps44
        go_wp2_with (go_at_call 74; (with_reducible refine (CK.out _).mono ?_); rintro e w2 ⟨rfl, rfl⟩)
        go_ret
        exact ⟨rfl, bV.out⟩
  · rw [may_3 (by omega) (by omega)]
    generalize tx.isEmpty = b1 at *
    clear CN CK CS q0
    generalize strOf tx = S at *
    cases b1
    all_goals
      go_enter Tryz.func44, Tryz.ntmps44
      go_wp2
      go_ret
      exact ⟨rfl, bV.out⟩
  · rw [may_4 (by omega) (by omega)]
    generalize tx.isEmpty = b1 at *
    clear CN CK CS q0
    generalize strOf tx = S at *
    by_cases g1 : (0 : Int) ≤ n <;> by_cases g2 : n ≤ 255
    all_goals first
      | (exfalso; omega)
      | (simp only [g1, g2, decide_true, decide_false, Bool.and_true, Bool.and_false]
         cases b1
         all_goals
           go_enter Tryz.func44, Tryz.ntmps44
           go_wp2
           go_ret
           exact ⟨rfl, bV.out⟩)
  · rw [may_5 (by omega) (by omega)]
    generalize decide (n = 0) = b0' at *
    cases hb : isSym tx <;> rw [hb] at CS
    all_goals
      clear hb CN CK he
      generalize strOf tx = S at *
      cases b0'
      all_goals
        go_enter Tryz.func44, Tryz.ntmps44
        go_wp2_with (go_at_call 75; (with_reducible refine (CS.out _).mono ?_); rintro e w2 ⟨rfl, rfl⟩)
        go_ret
        exact ⟨rfl, bV.out⟩
  · have e1 : ((k : Int) == 1) = false := by simp; omega
    have e2 : ((k : Int) == 2) = false := by simp; omega
    have e3 : ((k : Int) == 3) = false := by simp; omega
    have e4 : ((k : Int) == 4) = false := by simp; omega
    have e5 : ((k : Int) == 5) = false := by simp; omega
    have hm2 := Lib.hid (may_oth (t := ⟨k, a, tx, n⟩) ⟨n1, n2, n3, n4, n5⟩)
    clear n1 n2 n3 n4 n5
    have key : ∀ (b : Bool), b = false → (Calls Tryz.prog 44 #[.agg #[.int .u8 (k : Int), .int .i64 a, .string (strOf tx), .int .i32 n]] w fun e w' => e = .returned (.bool b) ∧ Below w.heap.size w w') := by
      rintro b rfl
      generalize strOf tx = S at *
      go_enter Tryz.func44, Tryz.ntmps44
      go_wp2
      go_ret
      exact ⟨rfl, bV.out⟩
    exact key _ hm2.out
/-! ### How a byte is written -/
def wr5 : Bs := [13, 10, 9, 39, 42]
def wrOK (v : Nat) : Bool := (decide (Lib.indexByte wr5 (UInt8.ofNat v) = -1) && (decide (v ≠ 13) && decide (v ≠ 10) && decide (v ≠ 9) && decide (v ≠ 39) && decide (v ≠ 42))) || (decide (0 ≤ Lib.indexByte wr5 (UInt8.ofNat v)) && decide (Lib.indexByte wr5 (UInt8.ofNat v) < 5) && decide (shown (v : Int) = [42, escs.getD (Lib.indexByte wr5 (UInt8.ofNat v)).toNat 0]))
theorem wr_all : ∀ n : Fin 256, wrOK n.val = true := by decide +kernel
theorem wr_idx {v : Nat} (hv : v < 256) : (Lib.indexByte wr5 (UInt8.ofNat v) = -1 ∧ (v ≠ 13 ∧ v ≠ 10 ∧ v ≠ 9 ∧ v ≠ 39 ∧ v ≠ 42)) ∨ ∃ i : Nat, i < 5 ∧ Lib.indexByte wr5 (UInt8.ofNat v) = (i : Int) ∧ shown (v : Int) = [42, escs.getD i 0] := by
  have h := wr_all ⟨v, hv⟩
  unfold wrOK at h
  simp only [Bool.or_eq_true, Bool.and_eq_true, decide_eq_true_eq] at h
  rcases h with ⟨h, g⟩ | ⟨⟨h1, h2⟩, h3⟩
  · exact .inl ⟨h, g.1.1.1.1, g.1.1.1.2, g.1.1.2, g.1.2, g.2⟩
  · exact .inr ⟨_, by omega, (Int.toNat_of_nonneg h1).symm, h3⟩
theorem ofNat_toNat {v : Nat} (hv : v < 256) : ((UInt8.ofNat v).toNat : Int) = (v : Int) := by rw [UInt8.toNat_ofNat']; omega
theorem esc_cut {i : Nat} (hi : i < 5) (W : World) : (Instr.slice 9 (.string ⟨#[99, 110, 116, 39, 42, 115, 34]⟩) (some (.int .i64 (i : Int))) (some (.int .i64 ((i : Int) + 1))) none).run Tryz.prog W = .ok (.string (strOf [escs.getD i 0])) W := by
  have := cut_mid escs i (i + 1) (by omega) (by have : escs.length = 7 := rfl; omega) W
  have e : ∀ j : Fin 5, (escs.take (j.val + 1)).drop j.val = [escs.getD j.val 0] := by decide
  rw [e ⟨i, hi⟩] at this
  exact this
theorem hex_two (v : Nat) (hv : v < 256) : (textL (v : Int) true).length = 9 ∧ (textL (v : Int) true).drop 7 = [hexDg (v / 16), hexDg (v % 16)] := by
  rw [text_hex]
  exact ⟨by rw [List.length_cons, hexDigs_length], hex_last v hv⟩
set_option maxRecDepth 100000 in
set_option maxHeartbeats 8000000 in
theorem textOfCharacter_any (v : Nat) (hv : v < 256) (w : World) (ht : W1.Tab w) : Calls Tryz.prog 80 #[.int .i32 (v : Int)] w fun e w' => e = .returned (.string (strOf (shown (v : Int)))) ∧ Below w.heap.size w w' := by
  have v0 : (0 : Int) ≤ (v : Int) := by omega
  have v1 : (v : Int) < 256 := by omega
  have CI : Hid (∀ W : World, Calls Tryz.prog 103 #[.string ⟨#[13, 10, 9, 39, 42]⟩, .int .u8 (v : Int)] W fun e w' => e = .returned (.int .i64 (Lib.indexByte wr5 (UInt8.ofNat v))) ∧ W = w') := Lib.hid fun W => by
    have := cIndexByte wr5 (UInt8.ofNat v) W
    rwa [ofNat_toNat hv] at this
  have CP : Hid (∀ W : World, Calls Tryz.prog 104 #[.int .u8 (v : Int)] W fun e w' => e = .returned (.bool (decide (32 ≤ v) && decide (v ≤ 126))) ∧ W = w') := Lib.hid fun W => by
    have := isPrinting_any (UInt8.ofNat v) W
    unfold printB at this
    rw [ofNat_toNat hv, show (UInt8.ofNat v).toNat = v by have := ofNat_toNat hv; omega] at this
    exact this
  rcases wr_idx hv with ⟨h1, h2⟩ | ⟨i, hi, h1, h2⟩
  · rw [h1] at CI
    by_cases hp : 32 ≤ v ∧ v ≤ 126
    · rw [shown_self h2 hp]
      rw [decide_eq_true hp.1, decide_eq_true hp.2] at CP
      have CP2 : Hid (∀ W : World, Calls Tryz.prog 104 #[.int .u8 (v : Int)] W fun e w' => e = .returned (.bool true) ∧ W = w') := Lib.hid CP.out
      have HB := Lib.hid (bal (b0 w) (.cells #[.int .u8 (v : Int)] 5))
      have hcv := conv_one v w
      clear h1 h2 hp CP ht hv
      generalize strOf [UInt8.ofNat v] = S at *
      go_enter Tryz.func80, Tryz.ntmps80
      go_wp2_with (first
        | (go_at_call 103; (with_reducible refine (CI.out _).mono ?_); rintro e w1 ⟨rfl, rfl⟩)
        | (go_at_call 104; (with_reducible refine (CP2.out _).mono ?_); rintro e w1 ⟨rfl, rfl⟩))
      go_ret
      exact ⟨rfl, HB.out⟩
    · rw [shown_hex h2 hp]
      have CP2 : Hid (∀ W : World, Calls Tryz.prog 104 #[.int .u8 (v : Int)] W fun e w' => e = .returned (.bool false) ∧ W = w') := Lib.hid fun W => by
        have := CP.out W
        rwa [show (decide (32 ≤ v) && decide (v ≤ 126)) = false by rw [← Bool.decide_and]; exact decide_eq_false hp] at this
      have CW := Lib.hid (wText (v : Int) true (by omega) (by omega) w ht)
      obtain ⟨x1, x2⟩ := hex_two v hv
      have hsz := size_strOf (textL (v : Int) true)
      rw [x1] at hsz
      have hcut : ∀ W : World, (Instr.slice 9 (.string (strOf (textL (v : Int) true))) (some (.int .i64 7)) none none).run Tryz.prog W = .ok (.string (strOf ((textL (v : Int) true).drop 7))) W := cut_from (textL (v : Int) true) 7 (by omega)
      rw [x2] at hcut
      have c1 : Op.stringOp .add ⟨#[42, 35]⟩ (strOf [hexDg (v / 16), hexDg (v % 16)]) = pure (.string (strOf [42, 35, hexDg (v / 16), hexDg (v % 16)])) := cat_str [42, 35] [hexDg (v / 16), hexDg (v % 16)] (by simp)
      clear h1 h2 hp CP ht hv x1 x2
      generalize strOf [42, 35, hexDg (v / 16), hexDg (v % 16)] = S1 at *
      generalize strOf [hexDg (v / 16), hexDg (v % 16)] = S2 at *
      generalize strOf (textL (v : Int) true) = S3 at *
      go_enter Tryz.func80, Tryz.ntmps80
      go_wp2_with (first
        | (go_at_call 103; (with_reducible refine (CI.out _).mono ?_); rintro e w1 ⟨rfl, rfl⟩)
        | (go_at_call 104; (with_reducible refine (CP2.out _).mono ?_); rintro e w1 ⟨rfl, rfl⟩)
        | (go_at_call 79; (with_reducible refine (CW.out).mono ?_); rintro e w1 ⟨rfl, b1⟩; have B1 := Lib.hid b1; clear b1))
      go_ret
      exact ⟨rfl, B1.out⟩
  · rw [h1] at CI
    rw [h2]
    have hcut := fun W => esc_cut hi W
    have c1 : Op.stringOp .add ⟨#[42]⟩ (strOf [escs.getD i 0]) = pure (.string (strOf [42, escs.getD i 0])) := cat_str [42] [escs.getD i 0] (by simp)
    have i0 : (0 : Int) ≤ (i : Int) := by omega
    have i1 : (i : Int) < 5 := by omega
    clear h1 h2 CP ht hv hi
    generalize strOf [42, escs.getD i 0] = S1 at *
    generalize strOf [escs.getD i 0] = S2 at *
    go_enter Tryz.func80, Tryz.ntmps80
    go_wp2_with (go_at_call 103; (with_reducible refine (CI.out _).mono ?_); rintro e w1 ⟨rfl, rfl⟩)
    go_ret
    exact ⟨rfl, b0 _⟩
set_option maxRecDepth 100000 in
set_option maxHeartbeats 8000000 in
theorem textOf_any (t : Tk) (hx : OKx t) (hb : t.k = 4 → 0 ≤ t.n ∧ t.n ≤ 255) (w : World) (ht : W1.Tab w) : Calls Tryz.prog 48 #[rwV t] w fun e w' => e = .returned (.string (strOf (one t))) ∧ Below w.heap.size w w' := by
  obtain ⟨k, a, tx, n⟩ := t
  have hk256 : (k : Int) < 256 := by have := hx.2.1; dsimp only at this; omega
  have hk0 : (0 : Int) ≤ (k : Int) := by omega
  have n0 : -2147483648 ≤ n := hx.2.2.1
  have n1 : n ≤ 2147483647 := hx.2.2.2
  have bV := Lib.hid (bal (b0 w) (.cells #[.int .u8 (k : Int), .int .i64 a, .string (strOf tx), .int .i32 n] 47))
  have HT := Lib.hid (fun (o : Obj) => ht.below (bal (b0 w) o))
  clear hx ht
  dsimp only at hb
  dsimp only [rwV]
  by_cases h3 : k = 3
  · rw [one_num h3]
    subst h3
    have C := Lib.hid (fun (W : World) (h : W1.Tab W) => wText n (decide (n < 0)) n0 n1 W h)
    clear hb n0 n1
    generalize strOf tx = TX at *
    generalize strOf (textL n (decide (n < 0))) = S at *
    go_enter Tryz.func48, Tryz.ntmps48
    go_wp2_with (go_at_call 79; (with_reducible refine (C.out _ (HT.out _)).mono ?_); rintro e v1 ⟨rfl, b⟩; have B1 := Lib.hid (blw bV.out b); clear b)
    go_ret
    exact ⟨rfl, B1.out⟩
  by_cases h4 : k = 4
  · rw [one_byte h4]
    obtain ⟨g0, g1⟩ := hb h4
    subst h4
    obtain ⟨v, rfl⟩ : ∃ v : Nat, n = (v : Int) := ⟨n.toNat, by omega⟩
    have C := Lib.hid (fun (W : World) (h : W1.Tab W) => textOfCharacter_any v (by omega) W h)
    have hl := shown_len (v : Int)
    have c1 : Op.stringOp .add ⟨#[39]⟩ (strOf (shown (v : Int))) = pure (.string (strOf ([39] ++ shown (v : Int)))) := cat_str [39] (shown (v : Int)) (by simp; omega)
    have c2 : Op.stringOp .add (strOf ([39] ++ shown (v : Int))) ⟨#[39]⟩ = pure (.string (strOf (39 :: (shown (v : Int) ++ [39])))) := cat_str ([39] ++ shown (v : Int)) [39] (by simp; omega)
    clear hl n0 n1 g0 g1
    generalize strOf tx = TX at *
    generalize strOf ([39] ++ shown (v : Int)) = S1 at *
    generalize strOf (39 :: (shown (v : Int) ++ [39])) = S2 at *
    generalize strOf (shown (v : Int)) = S3 at *
    go_enter Tryz.func48, Tryz.ntmps48
    go_wp2_with (go_at_call 80; (refine (C.out _ (HT.out _)).mono ?_); rintro e v1 ⟨rfl, b⟩; have B1 := Lib.hid (blw bV.out b); clear b)
    go_ret
    exact ⟨rfl, B1.out⟩
  · rw [one_text h3 h4]
    have e3 : ((k : Int) == 3) = false := by simp; omega
    have e4 : ((k : Int) == 4) = false := by simp; omega
    clear h3 h4 hb n0 n1
    generalize strOf tx = TX at *
    go_enter Tryz.func48, Tryz.ntmps48
    go_wp2
    go_ret
    exact ⟨rfl, bV.out⟩
/-! ### Symbols among others -/
def amongB (t : Tk) (S : Bs) : Bool := decide (t.k = 5) && (decide (t.tx.length = 1) && decide (0 ≤ Lib.indexByte S (t.tx.getD 0 0)))
def opB (c : UInt8) : Bool := decide (0 ≤ Lib.indexByte [40, 91] c) == (decide (c = 40) || decide (c = 91))
def clB (c : UInt8) : Bool := decide (0 ≤ Lib.indexByte [44, 59, 58, 41, 93] c) == (decide (c = 44) || decide (c = 59) || decide (c = 58) || decide (c = 41) || decide (c = 93))
theorem opcl_all : ∀ n : Fin 256, (opB (UInt8.ofNat n.val) && clB (UInt8.ofNat n.val)) = true := by decide +kernel
theorem opcl (c : UInt8) : decide (0 ≤ Lib.indexByte [40, 91] c) = (decide (c = 40) || decide (c = 91)) ∧ decide (0 ≤ Lib.indexByte [44, 59, 58, 41, 93] c) = (decide (c = 44) || decide (c = 59) || decide (c = 58) || decide (c = 41) || decide (c = 93)) := by
  have h := opcl_all ⟨c.toNat, c.toNat_lt⟩
  rw [show UInt8.ofNat (⟨c.toNat, c.toNat_lt⟩ : Fin 256).val = c by simp] at h
  rw [Bool.and_eq_true] at h
  exact ⟨eq_of_beq h.1, eq_of_beq h.2⟩
theorem one_eq (c d : UInt8) : decide ([c] = [d]) = decide (c = d) := by by_cases h : c = d <;> simp [h]
theorem among_opens (t : Tk) : amongB t [40, 91] = opens t := by
  unfold amongB opens
  congr 1
  match t.tx with
  | [] => rfl
  | [c] =>
    rw [one_eq, one_eq, decide_eq_true (show [c].length = 1 from rfl), Bool.true_and]
    exact (opcl c).1
  | c :: d :: r => simp
theorem among_closes (t : Tk) : amongB t [44, 59, 58, 41, 93] = closes t := by
  unfold amongB closes
  congr 1
  match t.tx with
  | [] => rfl
  | [c] =>
    rw [one_eq, one_eq, one_eq, one_eq, one_eq, decide_eq_true (show [c].length = 1 from rfl), Bool.true_and]
    exact (opcl c).2
  | c :: d :: r => simp
theorem cContains1 (S : Bs) (c : UInt8) (w : World) : Calls Tryz.prog 99 #[.string (strOf S), .string (strOf [c])] w fun e w' => e = .returned (.bool (decide (0 ≤ Lib.indexByte S c))) ∧ w = w' :=
  (Tryz.strings_Contains_one (strOf S) c w).mono fun e w' h => by
    rw [data_strOf] at h
    exact ⟨h.1, h.2.symm⟩
set_option maxRecDepth 100000 in
set_option maxHeartbeats 8000000 in
theorem isAmong_any (t : Tk) (S : Bs) (hx : OKx t) (w : World) : Calls Tryz.prog 77 #[rwV t, .string (strOf S)] w fun e w' => e = .returned (.bool (amongB t S)) ∧ Below w.heap.size w w' := by
  obtain ⟨k, a, tx, n⟩ := t
  have hl := hx.1
  dsimp only at hl
  unfold maxLen at hl
  have bV := Lib.hid (bal (b0 w) (.cells #[.int .u8 (k : Int), .int .i64 a, .string (strOf tx), .int .i32 n] 47))
  have hsz := size_strOf tx
  clear hx
  dsimp only [rwV]
  unfold amongB
  dsimp only
  by_cases h5 : k = 5
  · subst h5
    rw [decide_eq_true (show (5 : Nat) = 5 from rfl), Bool.true_and]
    by_cases h1 : tx.length = 1
    · obtain ⟨c, rfl⟩ : ∃ c, tx = [c] := List.length_eq_one_iff.1 h1
      have CC := Lib.hid (fun (W : World) => cContains1 S c W)
      rw [decide_eq_true h1, Bool.true_and, show [c].getD 0 0 = c from rfl]
      rw [h1] at hsz
      generalize decide (0 ≤ Lib.indexByte S c) = b at *
      clear h1 hl
      generalize strOf [c] = TX at *
      generalize strOf S = SS at *
      go_enter Tryz.func77, Tryz.ntmps77
      go_wp2_with (go_at_call 99; (with_reducible refine (CC.out _).mono ?_); rintro e v1 ⟨rfl, rfl⟩)
      go_ret
      exact ⟨rfl, bV.out⟩
    · have q1 : ((tx.length : Int) == 1) = false := by simp; omega
      rw [decide_eq_false h1, Bool.false_and]
      generalize tx.length = N at *
      clear h1
      generalize strOf tx = TX at *
      generalize strOf S = SS at *
      go_enter Tryz.func77, Tryz.ntmps77
      go_wp2
      go_ret
      exact ⟨rfl, bV.out⟩
  · have q5 : ((k : Int) == 5) = false := by simp; omega
    rw [decide_eq_false h5, Bool.false_and]
    clear h5
    generalize strOf tx = TX at *
    generalize strOf S = SS at *
    go_enter Tryz.func77, Tryz.ntmps77
    go_wp2
    go_ret
    exact ⟨rfl, bV.out⟩
end Go.Proofs.YtplcmcealeeppaaGreatDoor
/- The program's escapes and characters. -/
set_option linter.unusedVariables false
set_option linter.unusedSimpArgs false
namespace Go.Proofs.YtplcmcealeeppaaGreatDoor
open Go Go.RowKit L8

theorem escS_ways (s : Bs) : (s.length < 2 ∧ escS s = (0, 0)) ∨ (2 ≤ s.length ∧ Lib.indexByte escs (s.getD 1 0) = -1 ∧ escS s = (0, 0)) ∨ ∃ i : Nat, i < 7 ∧ 2 ≤ s.length ∧ Lib.indexByte escs (s.getD 1 0) = (i : Int) ∧ escS s = ((escd.getD i 0).toNat, 2) := by
  unfold escS
  by_cases h : 2 ≤ s.length
  · rw [if_pos h]
    rcases esc_idx (s.getD 1 0) with ⟨h1, h2⟩ | ⟨i, h0, h1, h2⟩
    · rw [h2]; exact .inr (.inl ⟨h, h1, rfl⟩)
    · rw [h2]; exact .inr (.inr ⟨i, h0, h, h1, rfl⟩)
  · rw [if_neg h]; exact .inl ⟨by omega, rfl⟩
theorem escH_ways (s : Bs) : (¬ s.take 2 = [42, 35] ∧ escH s = none) ∨ (s.take 2 = [42, 35] ∧ s.length < 4 ∧ escH s = none) ∨ ∃ x y, s.take 2 = [42, 35] ∧ 4 ≤ s.length ∧ (s.take 4).drop 2 = [x, y] ∧ ((∃ v : Nat, v < 256 ∧ escH s = some v ∧ hexO [x, y] = some (v : Int)) ∨ (escH s = none ∧ hexO [x, y] = none)) := by
  unfold escH
  by_cases h : s.take 2 = [42, 35]
  · by_cases h4 : 4 ≤ s.length
    · obtain ⟨x, y, e⟩ := mid_form h4
      rw [if_pos ⟨h4, h⟩, e]
      refine .inr (.inr ⟨x, y, h, h4, rfl, ?_⟩)
      cases hv : value 16 8 4294967296 [x, y] with
      | none => exact .inr ⟨rfl, by unfold hexO; rw [hv]; rfl⟩
      | some v =>
        obtain ⟨h1, h2⟩ := hexO_two hv
        exact .inl ⟨v, h2, rfl, h1⟩
    · rw [if_neg (fun k => h4 k.1)]
      exact .inr (.inl ⟨h, by omega, rfl⟩)
  · rw [if_neg (fun k => h k.2)]
    exact .inl ⟨h, rfl⟩
theorem opt_some (v : Int) : (some v).getD 0 = v ∧ (some v).isSome = true := ⟨rfl, rfl⟩
theorem opt_none : (none : Option Int).getD 0 = 0 ∧ (none : Option Int).isSome = false := ⟨rfl, rfl⟩
set_option maxRecDepth 100000 in
set_option maxHeartbeats 8000000 in
theorem escape_any (s : Bs) (hl : s.length ≤ maxLen) (w : World) (ht : W1.Tab w) : Calls Tryz.prog 120 #[.string (strOf s)] w fun e w' => e = .returned (.tuple #[.int .i32 ((escP s).1 : Int), .int .i64 ((escP s).2 : Int)]) ∧ Below w.heap.size w w' := by
  have hsz := size_strOf s
  have CX : Hid (∀ W : World, Calls Tryz.prog 110 #[.string (strOf s), .string ⟨#[42, 35]⟩] W fun e w' => e = .returned (.bool (decide (s.take 2 = [42, 35]))) ∧ W = w') := Lib.hid fun W => (cHasPrefix s [42, 35] W).mono fun e w' h => ⟨by rw [← pre_two]; exact h.1, h.2⟩
  have CI : Hid (∀ W : World, Calls Tryz.prog 103 #[.string ⟨#[99, 110, 116, 39, 42, 115, 34]⟩, .int .u8 ((s.getD 1 0).toNat : Int)] W fun e w' => e = .returned (.int .i64 (Lib.indexByte escs (s.getD 1 0))) ∧ W = w') := Lib.hid fun W => cIndexByte escs (s.getD 1 0) W
  have hT := escS_ways s
  have hH := escH_ways s
  have h1x := Lib.hid (fun (v : Nat) => escP_h (s := s) (v := v))
  have h2x := Lib.hid (@escP_s s)
  have HI := Lib.hid (fun (h : 1 < s.length) => index_l s 1 h)
  have HC := Lib.hid (fun (h : 4 ≤ s.length) => cut_mid s 2 4 (by omega) h)
  obtain ⟨n, hn⟩ : ∃ n, s.length = n := ⟨_, rfl⟩
  rw [hn] at hsz hl hT hH HI HC
  unfold maxLen at hl
  have hn0 : (0 : Int) ≤ (n : Int) := by omega
  rcases hH with ⟨hp, he⟩ | ⟨hp, h4, he⟩ | ⟨x, y, hp, h4, hm, ⟨v, hv, he, hx⟩ | ⟨he, hx⟩⟩
  · rw [h2x.out he]
    rw [decide_eq_false hp] at CX
    clear h1x h2x he hp hn HC ht
    generalize Lib.indexByte escs (s.getD 1 0) = I at *
    rcases hT with ⟨h2, hE⟩ | ⟨h2, rfl, hE⟩ | ⟨i, hi, h2, rfl, hE⟩
    · rw [hE]
      have q2 : ¬ (2 : Int) ≤ (n : Int) := by omega
      clear hE h2 HI CI
      generalize strOf s = S at *
      go_enter Tryz.func120, Tryz.ntmps120
      go_wp2_with (go_at_call 110; (with_reducible refine (CX.out _).mono ?_); rintro e w1 ⟨rfl, rfl⟩)
      go_ret2
      exact ⟨rfl, b0 _⟩
    · rw [hE]
      have q2 : (2 : Int) ≤ (n : Int) := by omega
      have hi1 : ∀ W : World, (Instr.index 9 (.string (strOf s)) (.int .i64 1)).run Tryz.prog W = .ok (.int .u8 ((s.getD 1 0).toNat : Int)) W := HI.out (by omega)
      clear hE h2 HI
      generalize (s.getD 1 0).toNat = M at *
      generalize strOf s = S at *
      go_enter Tryz.func120, Tryz.ntmps120
      go_wp2_with (first
        | (go_at_call 110; (with_reducible refine (CX.out _).mono ?_); rintro e w1 ⟨rfl, rfl⟩)
        | (go_at_call 103; (with_reducible refine (CI.out _).mono ?_); rintro e w1 ⟨rfl, rfl⟩))
      go_ret2
      exact ⟨rfl, b0 _⟩
    · rw [hE]
      have q2 : (2 : Int) ≤ (n : Int) := by omega
      have hi1 : ∀ W : World, (Instr.index 9 (.string (strOf s)) (.int .i64 1)).run Tryz.prog W = .ok (.int .u8 ((s.getD 1 0).toNat : Int)) W := HI.out (by omega)
      have hi2 : ∀ W : World, (Instr.index 9 (.string ⟨#[13, 10, 9, 39, 42, 32, 34]⟩) (.int .i64 (i : Int))).run Tryz.prog W = .ok (.int .u8 ((escd.getD i 0).toNat : Int)) W := fun W => index_l escd i hi W
      have hlt := escd_lt i
      have hi0 : (0 : Int) ≤ (i : Int) := by omega
      clear hE h2 HI
      generalize (escd.getD i 0).toNat = V at *
      have hv0 : (0 : Int) ≤ (V : Int) := by omega
      have hv1 : (V : Int) < 256 := by omega
      generalize (s.getD 1 0).toNat = M at *
      generalize strOf s = S at *
      go_enter Tryz.func120, Tryz.ntmps120
      go_wp2_with (first
        | (go_at_call 110; (with_reducible refine (CX.out _).mono ?_); rintro e w1 ⟨rfl, rfl⟩)
        | (go_at_call 103; (with_reducible refine (CI.out _).mono ?_); rintro e w1 ⟨rfl, rfl⟩))
      go_ret2
      exact ⟨rfl, b0 _⟩
  · rw [h2x.out he]
    rw [decide_eq_true hp] at CX
    have q4 : decide ((4 : Int) ≤ (n : Int)) = false := decide_eq_false (by omega)
    clear h1x h2x he hp hn HC ht
    generalize Lib.indexByte escs (s.getD 1 0) = I at *
    rcases hT with ⟨h2, hE⟩ | ⟨h2, rfl, hE⟩ | ⟨i, hi, h2, rfl, hE⟩
    · rw [hE]
      have q2 : ¬ (2 : Int) ≤ (n : Int) := by omega
      clear hE h2 HI CI h4
      generalize strOf s = S at *
      go_enter Tryz.func120, Tryz.ntmps120
      go_wp2_with (go_at_call 110; (with_reducible refine (CX.out _).mono ?_); rintro e w1 ⟨rfl, rfl⟩)
      go_ret2
      exact ⟨rfl, b0 _⟩
    · rw [hE]
      have q2 : (2 : Int) ≤ (n : Int) := by omega
      have hi1 : ∀ W : World, (Instr.index 9 (.string (strOf s)) (.int .i64 1)).run Tryz.prog W = .ok (.int .u8 ((s.getD 1 0).toNat : Int)) W := HI.out (by omega)
      clear hE h2 HI h4
      generalize (s.getD 1 0).toNat = M at *
      generalize strOf s = S at *
      go_enter Tryz.func120, Tryz.ntmps120
      go_wp2_with (first
        | (go_at_call 110; (with_reducible refine (CX.out _).mono ?_); rintro e w1 ⟨rfl, rfl⟩)
        | (go_at_call 103; (with_reducible refine (CI.out _).mono ?_); rintro e w1 ⟨rfl, rfl⟩))
      go_ret2
      exact ⟨rfl, b0 _⟩
    · rw [hE]
      have q2 : (2 : Int) ≤ (n : Int) := by omega
      have hi1 : ∀ W : World, (Instr.index 9 (.string (strOf s)) (.int .i64 1)).run Tryz.prog W = .ok (.int .u8 ((s.getD 1 0).toNat : Int)) W := HI.out (by omega)
      have hi2 : ∀ W : World, (Instr.index 9 (.string ⟨#[13, 10, 9, 39, 42, 32, 34]⟩) (.int .i64 (i : Int))).run Tryz.prog W = .ok (.int .u8 ((escd.getD i 0).toNat : Int)) W := fun W => index_l escd i hi W
      have hlt := escd_lt i
      have hi0 : (0 : Int) ≤ (i : Int) := by omega
      clear hE h2 HI h4
      generalize (escd.getD i 0).toNat = V at *
      have hv0 : (0 : Int) ≤ (V : Int) := by omega
      have hv1 : (V : Int) < 256 := by omega
      generalize (s.getD 1 0).toNat = M at *
      generalize strOf s = S at *
      go_enter Tryz.func120, Tryz.ntmps120
      go_wp2_with (first
        | (go_at_call 110; (with_reducible refine (CX.out _).mono ?_); rintro e w1 ⟨rfl, rfl⟩)
        | (go_at_call 103; (with_reducible refine (CI.out _).mono ?_); rintro e w1 ⟨rfl, rfl⟩))
      go_ret2
      exact ⟨rfl, b0 _⟩
  · rw [h1x.out v he]
    rw [decide_eq_true hp] at CX
    have q4 : decide ((4 : Int) ≤ (n : Int)) = true := decide_eq_true (by omega)
    have hcut : ∀ W : World, (Instr.slice 9 (.string (strOf s)) (some (.int .i64 2)) (some (.int .i64 4)) none).run Tryz.prog W = .ok (.string (strOf ((s.take 4).drop 2))) W := HC.out (by omega)
    have CH := Lib.hid (hexadecimal_any [x, y] (by unfold maxLen; simp) w ht)
    rw [hx, (opt_some _).1, (opt_some _).2] at CH
    rw [hm] at hcut
    clear h1x h2x he hp hn HC ht hT hm HI CI hx
    have hv0 : (0 : Int) ≤ (v : Int) := by omega
    generalize strOf [x, y] = X at *
    generalize strOf s = S at *
    go_enter Tryz.func120, Tryz.ntmps120
    go_wp2_with (first
      | (go_at_call 110; (with_reducible refine (CX.out _).mono ?_); rintro e w1 ⟨rfl, rfl⟩)
      | (go_at_call 108; (with_reducible refine (CH.out).mono ?_); rintro e w1 ⟨rfl, b1⟩; have B1 := Lib.hid b1; clear b1))
    go_ret2
    exact ⟨rfl, B1.out⟩
  · rw [h2x.out he]
    rw [decide_eq_true hp] at CX
    have q4 : decide ((4 : Int) ≤ (n : Int)) = true := decide_eq_true (by omega)
    have q2 : (2 : Int) ≤ (n : Int) := by omega
    have hcut : ∀ W : World, (Instr.slice 9 (.string (strOf s)) (some (.int .i64 2)) (some (.int .i64 4)) none).run Tryz.prog W = .ok (.string (strOf ((s.take 4).drop 2))) W := HC.out (by omega)
    have CH := Lib.hid (hexadecimal_any [x, y] (by unfold maxLen; simp) w ht)
    rw [hx, opt_none.1, opt_none.2] at CH
    rw [hm] at hcut
    have hi1 : ∀ W : World, (Instr.index 9 (.string (strOf s)) (.int .i64 1)).run Tryz.prog W = .ok (.int .u8 ((s.getD 1 0).toNat : Int)) W := HI.out (by omega)
    clear h1x h2x he hp hn HC ht hm hx HI
    generalize Lib.indexByte escs (s.getD 1 0) = I at *
    generalize strOf [x, y] = X at *
    rcases hT with ⟨h2, hE⟩ | ⟨h2, rfl, hE⟩ | ⟨i, hi, h2, rfl, hE⟩
    · exfalso; omega
    · rw [hE]
      clear hE h2 h4
      generalize (s.getD 1 0).toNat = M at *
      generalize strOf s = S at *
      go_enter Tryz.func120, Tryz.ntmps120
      go_wp2_with (first
        | (go_at_call 110; (with_reducible refine (CX.out _).mono ?_); rintro e w1 ⟨rfl, rfl⟩)
        | (go_at_call 108; (with_reducible refine (CH.out).mono ?_); rintro e w1 ⟨rfl, b1⟩; have B1 := Lib.hid b1; clear b1)
        | (go_at_call 103; (with_reducible refine (CI.out _).mono ?_); rintro e w1 ⟨rfl, rfl⟩))
      go_ret2
      exact ⟨rfl, B1.out⟩
    · rw [hE]
      have hi2 : ∀ W : World, (Instr.index 9 (.string ⟨#[13, 10, 9, 39, 42, 32, 34]⟩) (.int .i64 (i : Int))).run Tryz.prog W = .ok (.int .u8 ((escd.getD i 0).toNat : Int)) W := fun W => index_l escd i hi W
      have hlt := escd_lt i
      have hi0 : (0 : Int) ≤ (i : Int) := by omega
      clear hE h2 h4
      generalize (escd.getD i 0).toNat = V at *
      have hv0 : (0 : Int) ≤ (V : Int) := by omega
      have hv1 : (V : Int) < 256 := by omega
      generalize (s.getD 1 0).toNat = M at *
      generalize strOf s = S at *
      go_enter Tryz.func120, Tryz.ntmps120
      go_wp2_with (first
        | (go_at_call 110; (with_reducible refine (CX.out _).mono ?_); rintro e w1 ⟨rfl, rfl⟩)
        | (go_at_call 108; (with_reducible refine (CH.out).mono ?_); rintro e w1 ⟨rfl, b1⟩; have B1 := Lib.hid b1; clear b1)
        | (go_at_call 103; (with_reducible refine (CI.out _).mono ?_); rintro e w1 ⟨rfl, rfl⟩))
      go_ret2
      exact ⟨rfl, B1.out⟩
/-! ### Characters -/
theorem charP_no {c : UInt8} {r : Bs} (h : printB c = false ∨ c = 39) : charP (c :: r) = (0, 0) := by
  unfold charP
  dsimp only
  rw [if_pos]
  rcases h with h | h
  · left
    rintro ⟨h1, h2⟩
    unfold printB at h
    rw [decide_eq_true h1, decide_eq_true h2] at h
    cases h
  · exact .inr h
theorem printB_iff {c : UInt8} (h : printB c = true) : 32 ≤ c.toNat ∧ c.toNat ≤ 126 := by unfold printB at h; simpa using h
theorem charP_star {r : Bs} : charP (42 :: r) = escP (42 :: r) := by unfold charP; dsimp only; rw [if_neg (by decide), if_pos rfl]
theorem charP_self {c : UInt8} {r : Bs} (h : printB c = true) (h2 : c ≠ 39) (h3 : c ≠ 42) : charP (c :: r) = (c.toNat, 1) := by
  unfold charP; dsimp only
  rw [if_neg (fun k => k.elim (fun k => k (printB_iff h)) h2), if_neg h3]
set_option maxRecDepth 100000 in
set_option maxHeartbeats 8000000 in
theorem character_any (s : Bs) (hl : s.length ≤ maxLen) (w : World) (ht : W1.Tab w) : Calls Tryz.prog 109 #[.string (strOf s)] w fun e w' => e = .returned (.tuple #[.int .i32 ((charP s).1 : Int), .int .i64 ((charP s).2 : Int)]) ∧ Below w.heap.size w w' := by
  cases s with
  | nil =>
    have he : ((strOf []).toList == []) = true := eq_nil []
    rw [show charP [] = (0, 0) from rfl]
    generalize strOf [] = S at *
    go_enter Tryz.func109, Tryz.ntmps109
    go_wp2
    go_ret2
    exact ⟨rfl, b0 _⟩
  | cons c r =>
    have he := eq_nil (c :: r)
    rw [show (c :: r).isEmpty = false from rfl] at he
    have hi0 : ∀ W : World, (Instr.index 9 (.string (strOf (c :: r))) (.int .i64 0)).run Tryz.prog W = .ok (.int .u8 (c.toNat : Int)) W := index_l (c :: r) 0 (by simp)
    have CP := Lib.hid (fun (W : World) => isPrinting_any c W)
    have CX : Hid (∀ W : World, Calls Tryz.prog 110 #[.string (strOf (c :: r)), .string ⟨#[39]⟩] W fun e w' => e = .returned (.bool (decide (c = 39))) ∧ W = w') := Lib.hid fun W => (cHasPrefix (c :: r) [39] W).mono fun e w' h => ⟨by have := h.1; rw [pre_one] at this; rw [this]; simp, h.2⟩
    have CY : Hid (∀ W : World, Calls Tryz.prog 110 #[.string (strOf (c :: r)), .string ⟨#[42]⟩] W fun e w' => e = .returned (.bool (decide (c = 42))) ∧ W = w') := Lib.hid fun W => (cHasPrefix (c :: r) [42] W).mono fun e w' h => ⟨by have := h.1; rw [pre_one] at this; rw [this]; simp, h.2⟩
    have hsz := size_strOf (c :: r)
    have CE := Lib.hid (fun (W : World) (h : W1.Tab W) => escape_any (c :: r) hl W h)
    have hT := Lib.hid ht
    have hc0 : (0 : Int) ≤ (c.toNat : Int) := by omega
    have hc1 : (c.toNat : Int) < 256 := by have := c.toNat_lt; omega
    clear ht
    cases hp : printB c with
    | false =>
      rw [charP_no (.inl hp)]
      rw [hp] at CP
      clear hp CE CX CY hT
      generalize c.toNat = N at *
      generalize strOf (c :: r) = S at *
      go_enter Tryz.func109, Tryz.ntmps109
      go_wp2_with (go_at_call 104; (with_reducible refine (CP.out _).mono ?_); rintro e w1 ⟨rfl, rfl⟩)
      go_ret2
      exact ⟨rfl, b0 _⟩
    | true =>
      rw [hp] at CP
      by_cases h39 : c = 39
      · rw [charP_no (.inr h39)]
        rw [decide_eq_true h39] at CX
        clear hp CE CY h39 hT
        generalize c.toNat = N at *
        generalize strOf (c :: r) = S at *
        go_enter Tryz.func109, Tryz.ntmps109
        go_wp2_with (first
          | (go_at_call 104; (with_reducible refine (CP.out _).mono ?_); rintro e w1 ⟨rfl, rfl⟩)
          | (go_at_call 110; (with_reducible refine (CX.out _).mono ?_); rintro e w1 ⟨rfl, rfl⟩))
        go_ret2
        exact ⟨rfl, b0 _⟩
      · rw [decide_eq_false h39] at CX
        by_cases h42 : c = 42
        · rw [decide_eq_true h42] at CY
          have hE : charP (c :: r) = escP (c :: r) := by rw [h42, charP_star]
          rw [hE]
          clear hp h39 h42 hE
          generalize (escP (c :: r)).1 = a at *
          generalize (escP (c :: r)).2 = b at *
          generalize c.toNat = N at *
          generalize strOf (c :: r) = S at *
          go_enter Tryz.func109, Tryz.ntmps109
          go_wp2_with (first
            | (go_at_call 104; (with_reducible refine (CP.out _).mono ?_); rintro e w1 ⟨rfl, rfl⟩)
            | (go_at_call 110; (with_reducible refine (CX.out _).mono ?_); rintro e w1 ⟨rfl, rfl⟩)
            | (go_at_call 110; (with_reducible refine (CY.out _).mono ?_); rintro e w1 ⟨rfl, rfl⟩)
            | (go_at_call 120; (with_reducible refine (CE.out _ hT.out).mono ?_); rintro e w1 ⟨rfl, b1⟩; have B1 := Lib.hid b1; clear b1))
          go_ret2
          exact ⟨rfl, B1.out⟩
        · rw [decide_eq_false h42] at CY
          rw [charP_self hp h39 h42]
          clear hp h39 h42 CE hT
          generalize c.toNat = N at *
          generalize strOf (c :: r) = S at *
          go_enter Tryz.func109, Tryz.ntmps109
          go_wp2_with (first
            | (go_at_call 104; (with_reducible refine (CP.out _).mono ?_); rintro e w1 ⟨rfl, rfl⟩)
            | (go_at_call 110; (with_reducible refine (CX.out _).mono ?_); rintro e w1 ⟨rfl, rfl⟩)
            | (go_at_call 110; (with_reducible refine (CY.out _).mono ?_); rintro e w1 ⟨rfl, rfl⟩))
          go_ret2
          exact ⟨rfl, b0 _⟩
end Go.Proofs.YtplcmcealeeppaaGreatDoor
/- The program's reader of a line: its box, and what passes over bytes of it. -/
set_option linter.unusedVariables false
set_option linter.unusedSimpArgs false
namespace Go.Proofs.YtplcmcealeeppaaGreatDoor
open Go Go.RowKit L8

/-! ### Frames: one block may turn -/
theorem g_any {a b : World} (h : a.grownBy b none) (r : Option Nat) : a.grownBy b r := ⟨h.os, h.tape, h.output, h.size, fun k hk _ => h.block k hk (by simp)⟩
theorem g_set (w : World) (b j : Nat) (v : Value) : w.grownBy (w.setCell ⟨b, j, none⟩ v) (some b) :=
  ⟨rfl, rfl, rfl, by show _ ≤ (w.heap.modify b _).size; rw [Array.size_modify]; exact Nat.le_refl _, fun k hk hr => Below.heap_setCell w ⟨b, j, none⟩ v k (fun e => hr (by rw [show k = b from e]))⟩
theorem g_setN {w W : World} {r : Option Nat} (h : w.grownBy W r) {B j : Nat} (hB : w.heap.size ≤ B) (v : Value) : w.grownBy (W.setCell ⟨B, j, none⟩ v) r :=
  ⟨h.os, h.tape, h.output, by show _ ≤ (W.heap.modify B _).size; rw [Array.size_modify]; exact h.size, fun k hk hr => (Below.heap_setCell W ⟨B, j, none⟩ v k (fun e => by have e2 : k = B := e; omega)).trans (h.block k hk hr)⟩
theorem g_refl (w : World) (r : Option Nat) : w.grownBy w r := g_any (g_of_below (b0 w)) r
theorem below_g {n b : Nat} {w w' : World} (h : w.grownBy w' (some b)) (hb : n ≤ b) (hn : n ≤ w.heap.size) : Below n w w' :=
  ⟨h.os, h.tape, h.output, h.size, fun k hk => h.block k (by omega) (fun e => by injection e with e; omega)⟩
/-! ### The reader -/
def Rd (w : World) (b : Nat) (L : Bs) (p : Nat) : Prop := BoxS w b 97 #[.string (strOf L), .int .i64 (p : Int)]
theorem Rd.below {X Y : World} {b p : Nat} {L : Bs} (h : Rd X b L p) (k : Below X.heap.size X Y) : Rd Y b L p := BoxS.below h k
theorem Rd.cells {w : World} {b p : Nat} {L : Bs} (h : Rd w b L p) : w.cell? ⟨b, 0, none⟩ = some (.string (strOf L)) ∧ w.cell? ⟨b, 1, none⟩ = some (.int .i64 (p : Int)) ∧ w.frozen? ⟨b, 1, none⟩ = false ∧ b < w.heap.size :=
  ⟨(BoxS.cell h 0).trans rfl, (BoxS.cell h 1).trans rfl, BoxS.frozen h 1, BoxS.lt h⟩
theorem Rd.set {w : World} {b p : Nat} {L : Bs} (h : Rd w b L p) (q : Nat) : Rd (w.setCell ⟨b, 1, none⟩ (.int .i64 (q : Int))) b L q := by
  obtain ⟨hlt, hk⟩ := Array.getElem?_eq_some_iff.1 (show w.heap[b]? = _ from h)
  show (w.heap.modify b _)[b]? = _
  rw [Array.getElem?_eq_getElem (by rw [Array.size_modify]; exact hlt), Array.getElem_modify_self, hk]
  rfl
theorem Rd.tab {w w' : World} {b p : Nat} {L : Bs} (h : Rd w b L p) (ht : W1.Tab w) (g : w.grownBy w' (some b)) : W1.Tab w' := by
  unfold W1.Tab Lib.TabIs World.var? at *
  cases hg : Tryz.prog.globalNamed "internal/strconv.uint64pow10" with
  | none => simp [hg] at ht
  | some q =>
    simp only [hg, Option.bind_some] at ht ⊢
    have hlt : q < w.heap.size := by
      rcases Nat.lt_or_ge q w.heap.size with h' | h'
      · exact h'
      · rw [Array.getElem?_eq_none h'] at ht; simp at ht
    have hne : q ≠ b := by
      rintro rfl
      have h2 : w.heap[q]? = some (.cells #[.string (strOf L), .int .i64 (p : Int)] 97 (0, 0)) := h
      rw [h2] at ht
      simp only [Option.some.injEq] at ht
      have := congrArg (fun a => a.size) ht
      simp [Lib.pow10Tab] at this
    rw [g.block q hlt (fun e => hne (by injection e))]
    exact ht
def ReadR (w w' : World) (b : Nat) (L : Bs) (q : Nat) : Prop := Rd w' b L q ∧ w.grownBy w' (some b)
set_option maxRecDepth 100000 in
set_option maxHeartbeats 4000000 in
theorem take_any {b p m : Nat} {L : Bs} {w : World} (h : Rd w b L p) (hL : L.length ≤ 256) (hm : p + m ≤ L.length) : Calls Tryz.prog 105 #[.pointer (some ⟨b, 0, none⟩), .int .i64 (m : Int)] w fun e w' => e = .returned (.string (strOf ((L.drop p).take m))) ∧ ReadR w w' b L (p + m) := by
  obtain ⟨c0, c1, f1, hb⟩ := h.cells
  have hcut : ∀ W : World, (Instr.slice 9 (.string (strOf L)) (some (.int .i64 (p : Int))) (some (.int .i64 ((p : Int) + (m : Int)))) none).run Tryz.prog W = .ok (.string (strOf ((L.drop p).take m))) W := fun W => by
    have := cut_mid L p (p + m) (by omega) hm W
    rw [List.drop_take, show p + m - p = m by omega, show ((p + m : Nat) : Int) = (p : Int) + (m : Int) by omega] at this
    exact this
  have hp0 : (0 : Int) ≤ (p : Int) := by omega
  have hm0 : (0 : Int) ≤ (m : Int) := by omega
  have hp1 : (p : Int) ≤ 256 := by omega
  have hm1 : (m : Int) ≤ 256 := by omega
  have hs0 : (0 : Int) ≤ (p : Int) + (m : Int) := by omega
  have hs1 : IntKind.i64.wrap ((p : Int) + (m : Int)) = (p : Int) + (m : Int) := IntWalk.i64_in _ (by omega)
  have HR := Lib.hid (fun n => (h.below (bdrew (b0 w) n)).set (p + m))
  have HG := Lib.hid (fun n (v : Value) => g_trans (g_any (g_of_below (bdrew (b0 w) n)) (some b)) (g_set (w.drewN n) b 1 v))
  have e1 : ((p + m : Nat) : Int) = (p : Int) + (m : Int) := by omega
  rw [e1] at HR
  clear h hm hL e1 hb
  generalize strOf ((L.drop p).take m) = T at *
  unfold ReadR
  generalize strOf L = S at *
  go_enter Tryz.func105, Tryz.ntmps105
  go_wp2
  go_quiet (fail)
  go_wp2
  go_ret
  exact ⟨rfl, HR.out _, HG.out _ _⟩
set_option maxRecDepth 100000 in
set_option maxHeartbeats 4000000 in
theorem rest_any {b p : Nat} {L : Bs} {w : World} (h : Rd w b L p) (hL : L.length ≤ 256) (hp : p ≤ L.length) : Calls Tryz.prog 106 #[.pointer (some ⟨b, 0, none⟩)] w fun e w' => e = .returned (.string (strOf (L.drop p))) ∧ Below w.heap.size w w' := by
  obtain ⟨c0, c1, f1, hb⟩ := h.cells
  have hcut := cut_from L p hp
  have hp0 : (0 : Int) ≤ (p : Int) := by omega
  have HB := Lib.hid (fun n => bdrew (b0 w) n)
  clear h hp hL hb
  generalize strOf (L.drop p) = T at *
  generalize strOf L = S at *
  go_enter Tryz.func106, Tryz.ntmps106
  go_wp2
  go_quiet (fail)
  go_wp2
  go_ret
  exact ⟨rfl, HB.out _⟩
/-! ### Spaces -/
def SkipR (w : World) (b : Nat) (L : Bs) (p : Nat) (e : Ending) (w' : World) : Prop :=
  ∃ q, p ≤ q ∧ q ≤ L.length ∧ (∀ j, p ≤ j → j < q → L.getD j 0 = 32) ∧ (q < L.length → L.getD q 0 ≠ 32) ∧ e = .returned (.bool (decide (q < L.length))) ∧ ReadR w w' b L q
set_option maxRecDepth 100000 in
set_option maxHeartbeats 8000000 in
theorem skip_any {b p : Nat} {L : Bs} {w : World} (h : Rd w b L p) (hL : L.length ≤ 256) (hp : p ≤ L.length) : Calls Tryz.prog 51 #[.pointer (some ⟨b, 0, none⟩)] w (SkipR w b L p) := by
  have hsz := size_strOf L
  obtain ⟨n, hn⟩ : ∃ n, L.length = n := ⟨_, rfl⟩
  rw [hn] at hsz hL hp
  have hn0 : (0 : Int) ≤ (n : Int) := by omega
  have hn1 : (n : Int) ≤ 256 := by omega
  have HM := Lib.hid hn
  have H0 := Lib.hid h
  clear h hn
  go_enter Tryz.func51, Tryz.ntmps51
  go_wp2
  go_loopg [] (n - p) (fun g wr => ∃ k, p ≤ k ∧ k ≤ n ∧ g = n - k ∧ Hid ((∀ j, p ≤ j → j < k → L.getD j 0 = 32) ∧ ReadR w wr b L k))
  case atStart => exact ⟨p, Nat.le_refl _, hp, rfl, Lib.hid ⟨fun j h1 h2 => absurd h1 (by omega), H0.out, g_refl w _⟩⟩
  case round =>
    obtain ⟨k, hpk, hk, rfl, H⟩ := hrel
    obtain ⟨c0, c1, f1, hb⟩ := H.out.2.1.cells
    have hk0 : (0 : Int) ≤ (k : Int) := by omega
    have hk256 : (k : Int) ≤ 256 := by omega
    by_cases hkn : k < n
    · have qd : decide ((k : Int) < (n : Int)) = true := decide_eq_true (by omega)
      have qd' : decide (k < n) = true := decide_eq_true hkn
      have hi := index_l L k (by have := HM.out; omega)
      have hx := byte_eq (L.getD k 0) 32 (by decide) 32 rfl
      have hs1 : IntKind.i64.wrap ((k : Int) + 1) = (k : Int) + 1 := IntWalk.i64_in _ (by omega)
      by_cases h32 : L.getD k 0 = 32
      · rw [decide_eq_true h32] at hx
        have hx' : (((L.getD k 0).toNat : Int) == 32) = true := hx
        have HN := Lib.hid (fun m (v : Value) => g_trans (g_trans H.out.2.2 (g_any (g_of_below (bdrew (b0 wr) m)) (some b))) (g_set (wr.drewN m) b 1 v))
        have HR := Lib.hid (fun m => (H.out.2.1.below (bdrew (b0 wr) m)).set (k + 1))
        have HJ := Lib.hid (show ∀ j, p ≤ j → j < k + 1 → L.getD j 0 = 32 from fun j h1 h2 => if h : j < k then H.out.1 j h1 h else by rw [show j = k by omega]; exact h32)
        have e1 : ((k + 1 : Nat) : Int) = (k : Int) + 1 := by omega
        rw [e1] at HR
        clear H h32 e1 hx
        generalize (L.getD k 0).toNat = M at *
        generalize strOf L = S at *
        go_wp2
        go_quiet (fail)
        go_wp2
        go_roundg (n - (k + 1))
        case rel => exact ⟨k + 1, by omega, by omega, rfl, Lib.hid ⟨HJ.out, HR.out _, HN.out _ _⟩⟩
        case measure => omega
      · rw [decide_eq_false h32] at hx
        have hx' : (((L.getD k 0).toNat : Int) == 32) = false := hx
        have HE := Lib.hid (fun m m' => show SkipR w b L p (.returned (.bool true)) ((wr.drewN m).drewN m') from ⟨k, hpk, by have := HM.out; omega, H.out.1, fun _ => h32, by rw [HM.out, qd'], (H.out.2.1.below (bdrew (b0 wr) m)).below (bdrew (b0 _) m'), g_trans (g_trans H.out.2.2 (g_any (g_of_below (bdrew (b0 wr) m)) (some b))) (g_any (g_of_below (bdrew (b0 _) m')) (some b))⟩)
        clear H h32 hx
        generalize (L.getD k 0).toNat = M at *
        generalize SkipR w b L p = P at *
        generalize strOf L = S at *
        go_wp2
        go_quiet (fail)
        go_wp2
        go_quiet (fail)
        go_wp2
        exact HE.out _ _
    · obtain rfl : k = n := by omega
      have qd : decide ((k : Int) < (k : Int)) = false := decide_eq_false (by omega)
      have qd' : decide (k < k) = false := decide_eq_false (by omega)
      have HE := Lib.hid (fun m m' => show SkipR w b L p (.returned (.bool false)) ((wr.drewN m).drewN m') from ⟨k, hpk, by have := HM.out; omega, H.out.1, fun h => absurd h (by have := HM.out; omega), by rw [HM.out, qd'], (H.out.2.1.below (bdrew (b0 wr) m)).below (bdrew (b0 _) m'), g_trans (g_trans H.out.2.2 (g_any (g_of_below (bdrew (b0 wr) m)) (some b))) (g_any (g_of_below (bdrew (b0 _) m')) (some b))⟩)
      clear H
      generalize SkipR w b L p = P at *
      generalize strOf L = S at *
      go_wp2
      go_quiet (fail)
      go_wp2
      go_quiet (fail)
      go_wp2
      exact HE.out _ _
end Go.Proofs.YtplcmcealeeppaaGreatDoor
/- The program's tables. -/
set_option linter.unusedVariables false
set_option linter.unusedSimpArgs false
namespace Go.Proofs.YtplcmcealeeppaaGreatDoor
open Go Go.RowKit L8 L10

def opsT : List Bs := [] :: ops
def wdT : List Bs := [[], wInt, wByte, wBool]
def trT : List Bs := [wFalse, wTrue]
def fmC (r : Int × Int × Nat × Nat × Nat × Nat × Bool × Nat) : List Value := [.int .i32 r.1, .int .i32 r.2.1, .int .u8 (r.2.2.1 : Int), .int .u8 (r.2.2.2.1 : Int), .int .u8 (r.2.2.2.2.1 : Int), .int .u8 (r.2.2.2.2.2.1 : Int), .bool r.2.2.2.2.2.2.1, .int .i64 (r.2.2.2.2.2.2.2 : Int)]
/-- What the rows list of the program's own tables. -/
structure T10 (w : World) : Prop where
  f : w.var? Tryz.prog "transputer/expr.forms" = some (fmT.flatMap fmC).toArray
  o : w.var? Tryz.prog "transputer/expr.operatorWords" = some (sC opsT).toArray
  t : w.var? Tryz.prog "transputer/expr.typeWords" = some (sC wdT).toArray
  b : w.var? Tryz.prog "transputer/expr.truthWords" = some (sC trT).toArray
theorem var_fr {n : String} {cs : Array Value} {w w' : World} {P : Nat → Prop} (h : w.var? Tryz.prog n = some cs) (g : Fr w w' P) (hP : ∀ k, P k → k < w.heap.size → ∃ cs' t' m', w.heap[k]? = some (.cells cs' t' m') ∧ cs'.size ≠ cs.size) : w'.var? Tryz.prog n = some cs := by
  unfold World.var? at *
  cases hg : Tryz.prog.globalNamed n with
  | none => simp [hg] at h
  | some q =>
    simp only [hg, Option.bind_some] at h ⊢
    have hlt : q < w.heap.size := by
      rcases Nat.lt_or_ge q w.heap.size with h' | h'
      · exact h'
      · rw [Array.getElem?_eq_none h'] at h; simp at h
    have hne : ¬ P q := fun hp => by
      obtain ⟨cs', t', m', e, hs⟩ := hP q hp hlt
      rw [e] at h
      simp only [Option.some.injEq] at h
      exact hs (by rw [h])
    rw [g.block q hlt hne]
    exact h
theorem T10.fr {w w' : World} {P : Nat → Prop} (h : T10 w) (g : Fr w w' P) (hP : ∀ k, P k → k < w.heap.size → ∃ cs' t' m', w.heap[k]? = some (.cells cs' t' m') ∧ (cs'.size = 1 ∨ cs'.size = 3)) : T10 w' := by
  have key : ∀ (n : String) (cs : Array Value), w.var? Tryz.prog n = some cs → (cs.size ≠ 1 ∧ cs.size ≠ 3) → w'.var? Tryz.prog n = some cs := fun n cs hv hs => var_fr hv g fun k hp hk => by
    obtain ⟨cs', t', m', e, h⟩ := hP k hp hk
    exact ⟨cs', t', m', e, by omega⟩
  exact ⟨key _ _ h.f (by decide), key _ _ h.o (by decide), key _ _ h.t (by decide), key _ _ h.b (by decide)⟩
theorem T10.below {w X : World} (h : T10 w) (b : Below w.heap.size w X) : T10 X := h.fr (Fr.of b (fun _ => False)) (fun _ h => h.elim)
theorem T10.grow {w w' : World} {b : Nat} {t : TypeId} {cs : Array Value} (h : T10 w) (g : w.grownBy w' (some b)) (hb : BoxS w b t cs) (hs : cs.size = 1 ∨ cs.size = 3) : T10 w' :=
  h.fr (Fr.ofG g (P := fun k => k = b) fun k e => by injection e with e; exact e.symm) fun k e _ => ⟨cs, t, (0, 0), by rw [show k = b from e]; exact hb, hs⟩
theorem gF : Tryz.prog.globalNamed "transputer/expr.forms" = some 3 := by kernel_rfl
theorem gO : Tryz.prog.globalNamed "transputer/expr.operatorWords" = some 0 := by kernel_rfl
theorem gT : Tryz.prog.globalNamed "transputer/expr.typeWords" = some 2 := by kernel_rfl
theorem gB : Tryz.prog.globalNamed "transputer/expr.truthWords" = some 1 := by kernel_rfl
theorem T10.op {w : World} (h : T10 w) {o : Nat} (ho : o < 27) : w.cell? ⟨0, o, none⟩ = some (.string (strOf (opW o))) := by
  rw [World.var?_cell gO h.o]
  have key : ∀ o, o < 27 → opsT[o]? = some (opW o) := by decide
  have := key o ho
  rw [List.getElem?_toArray, show (sC opsT)[o]? = (opsT[o]?).map fun l => Value.string (strOf l) from by simp [sC], this]
  rfl
theorem T10.ty {w : World} (h : T10 w) {k : Nat} (h1 : 1 ≤ k) (h3 : k ≤ 3) : w.cell? ⟨2, k, none⟩ = some (.string (strOf (wd k))) := by
  rw [World.var?_cell gT h.t]
  match k, h1, h3 with
  | 1, _, _ => rfl
  | 2, _, _ => rfl
  | 3, _, _ => rfl
theorem T10.tr {w : World} (h : T10 w) : w.cell? ⟨1, 0, none⟩ = some (.string (strOf wFalse)) ∧ w.cell? ⟨1, 1, none⟩ = some (.string (strOf wTrue)) := by
  rw [World.var?_cell gB h.b, World.var?_cell gB h.b]
  exact ⟨rfl, rfl⟩
theorem fmC_at : ∀ (l : List (Int × Int × Nat × Nat × Nat × Nat × Bool × Nat)) (k j : Nat), k < l.length → j < 8 → (l.flatMap fmC)[k * 8 + j]? = (fmC (l.getD k (0, 0, 0, 0, 0, 0, false, 0)))[j]?
  | [], k, j, h, _ => by simp at h
  | x :: l, 0, j, _, hj => by
    rw [List.flatMap_cons, Nat.zero_mul, Nat.zero_add, List.getElem?_append_left (by show j < 8; exact hj)]
    rfl
  | x :: l, k + 1, j, h, hj => by
    have ih := fmC_at l k j (by simpa using h) hj
    rw [List.flatMap_cons, show (k + 1) * 8 + j = (fmC x).length + (k * 8 + j) by show _ = 8 + _; omega, List.getElem?_append_right (by omega), List.getD_cons_succ, ← ih]
    congr 1
    omega
theorem T10.form {w : World} (h : T10 w) {k : Nat} (hk : k < 10) : ∀ j, j < 8 → w.cell? ⟨3, k * 8 + j, none⟩ = (fmC (fm k))[j]? := fun j hj => by
  rw [World.var?_cell gF h.f, List.getElem?_toArray]
  exact fmC_at fmT k j hk hj
end Go.Proofs.YtplcmcealeeppaaGreatDoor
/- The reference: equal lists of tokens. -/
set_option linter.unusedVariables false
set_option linter.unusedSimpArgs false
namespace Go.Proofs.YtplcmcealeeppaaGreatDoor
open Go Go.RowKit L8

theorem kern_get {xs : List Tk} {j : Nat} (h : j < xs.length) : (kern xs)[j]? = some ((xs.getD j r0).k, (xs.getD j r0).tx, (xs.getD j r0).n) := by simp [kern, h]
theorem kern_ext {xs ys : List Tk} (hl : xs.length = ys.length) (h : ∀ j, j < xs.length → (xs.getD j r0).k = (ys.getD j r0).k ∧ (xs.getD j r0).tx = (ys.getD j r0).tx ∧ (xs.getD j r0).n = (ys.getD j r0).n) : kern xs = kern ys := by
  apply List.ext_getElem?
  intro i
  by_cases hi : i < xs.length
  · obtain ⟨h1, h2, h3⟩ := h i hi
    rw [kern_get hi, kern_get (by omega), h1, h2, h3]
  · rw [List.getElem?_eq_none (by simp [kern]; omega), List.getElem?_eq_none (by simp [kern]; omega)]
theorem int_neq (a b : Int) : (a != b) = !decide (a = b) := by by_cases h : a = b <;> simp [h]
theorem nat_neq (a b : Nat) : ((a : Int) != (b : Int)) = !decide (a = b) := by by_cases h : a = b <;> simp [h] <;> omega
set_option maxRecDepth 100000 in
set_option maxHeartbeats 8000000 in
theorem RSame_any {A B : Option Addr} {c d m n : Nat} {xs ys : List Tk} {w : World} (R : RR w A c xs) (S : RR w B d ys) (hm : xs.length = m) (hn : ys.length = n) : Calls Tryz.prog 24 #[.slice A m c, .slice B n d] w fun e w' => e = .returned (.bool (decide (kern xs = kern ys))) ∧ Below w.heap.size w w' := by
  have HR := Lib.hid R
  have HS := Lib.hid S
  have hmx : m ≤ maxLen := by have := R.le; have := R.mx; omega
  unfold maxLen at hmx
  by_cases hl : m = n
  · subst hl
    have HM := Lib.hid hm
    have HN := Lib.hid hn
    clear R S hm hn
    go_enter Tryz.func24, Tryz.ntmps24
    go_wp2
    go_loopw [5] (fun i wr => ∃ k : Nat, k ≤ m ∧ i = .int .i64 k ∧ Hid (Below w.heap.size w wr ∧ ∀ j, j < k → (xs.getD j r0).k = (ys.getD j r0).k ∧ (xs.getD j r0).tx = (ys.getD j r0).tx ∧ (xs.getD j r0).n = (ys.getD j r0).n)) (fun i _ => m - (intOf i).toNat)
    case atStart => exact ⟨0, Nat.zero_le _, rfl, Lib.hid ⟨b0 w, fun j hj => absurd hj (by omega)⟩⟩
    case round =>
      obtain ⟨k, hk, rfl, H⟩ := hrel
      by_cases hlt : (k : Int) < (m : Int)
      · obtain ⟨ad, rfl, c0, c1, c2, c3⟩ := (HR.out.keep H.out.1).rd k (by have := HM.out; omega)
        obtain ⟨ad2, rfl, e0, e1, e2, e3⟩ := (HS.out.keep H.out.1).rd k (by have := HN.out; omega)
        have hk0 : (0 : Int) ≤ (k : Int) := by omega
        have hbad : ¬ ((xs.getD k r0).k = (ys.getD k r0).k ∧ (xs.getD k r0).tx = (ys.getD k r0).tx ∧ (xs.getD k r0).n = (ys.getD k r0).n) → decide (kern xs = kern ys) = false := fun h => decide_eq_false (fun e => h (by
          have e1 := kern_get (xs := xs) (j := k) (by have := HM.out; omega)
          rw [e, kern_get (by have := HN.out; omega)] at e1
          injection e1 with e1
          injection e1 with e1 e2
          injection e2 with e2 e3
          exact ⟨e1.symm, e2.symm, e3.symm⟩))
        have HX := Lib.hid hbad
        clear hbad
        have qd := nat_neq (xs.getD k r0).k (ys.getD k r0).k
        have qt := eqS (xs.getD k r0).tx (ys.getD k r0).tx
        have qn := int_neq (xs.getD k r0).n (ys.getD k r0).n
        by_cases hv : (xs.getD k r0).k = (ys.getD k r0).k
        · rw [decide_eq_true hv] at qd
          by_cases ht : (xs.getD k r0).tx = (ys.getD k r0).tx
          · rw [decide_eq_true ht] at qt
            by_cases hz : (xs.getD k r0).n = (ys.getD k r0).n
            · rw [decide_eq_true hz] at qn
              have HY := Lib.hid (show ∀ j, j < k + 1 → (xs.getD j r0).k = (ys.getD j r0).k ∧ (xs.getD j r0).tx = (ys.getD j r0).tx ∧ (xs.getD j r0).n = (ys.getD j r0).n from fun j hj => if h : j < k then H.out.2 j h else by rw [show j = k by omega]; exact ⟨hv, ht, hz⟩)
              clear hv ht hz HX
              generalize xs.getD k r0 = a at *
              generalize ys.getD k r0 = b at *
              obtain ⟨n1, d1, t1, z1⟩ := a
              obtain ⟨n2, d2, t2, z2⟩ := b
              dsimp only at *
              generalize strOf t1 = s1 at *
              generalize strOf t2 = s2 at *
              go_wp2
              go_quiet (fail)
              have HB := Lib.hid (And.intro (bdrew H.out.1 nq) HY.out)
              clear HY H c0 c1 c2 c3 e0 e1 e2 e3
              generalize wr.drewN nq = W at *
              go_wp2
              go_roundw
              case rel => exact ⟨k + 1, by omega, by go_num, HB⟩
              case measure => simp [intOf]; omega
            · rw [decide_eq_false hz] at qn
              have HY := Lib.hid (HX.out (fun h => hz h.2.2))
              clear hv ht hz HX
              generalize xs.getD k r0 = a at *
              generalize ys.getD k r0 = b at *
              obtain ⟨n1, d1, t1, z1⟩ := a
              obtain ⟨n2, d2, t2, z2⟩ := b
              dsimp only at *
              generalize strOf t1 = s1 at *
              generalize strOf t2 = s2 at *
              go_wp2
              go_quiet (fail)
              have HB := Lib.hid (bdrew H.out.1 nq)
              clear H c0 c1 c2 c3 e0 e1 e2 e3
              generalize wr.drewN nq = W at *
              go_wp2
              go_ret
              rw [HY.out]
              exact ⟨rfl, HB.out⟩
          · rw [decide_eq_false ht] at qt
            have HY := Lib.hid (HX.out (fun h => ht h.2.1))
            clear hv ht HX qn
            generalize xs.getD k r0 = a at *
            generalize ys.getD k r0 = b at *
            obtain ⟨n1, d1, t1, z1⟩ := a
            obtain ⟨n2, d2, t2, z2⟩ := b
            dsimp only at *
            generalize strOf t1 = s1 at *
            generalize strOf t2 = s2 at *
            go_wp2
            go_quiet (fail)
            have HB := Lib.hid (bdrew H.out.1 nq)
            clear H c0 c1 c2 c3 e0 e1 e2 e3
            generalize wr.drewN nq = W at *
            go_wp2
            go_ret
            rw [HY.out]
            exact ⟨rfl, HB.out⟩
        · rw [decide_eq_false hv] at qd
          have HY := Lib.hid (HX.out (fun h => hv h.1))
          clear hv HX qt qn
          generalize xs.getD k r0 = a at *
          generalize ys.getD k r0 = b at *
          obtain ⟨n1, d1, t1, z1⟩ := a
          obtain ⟨n2, d2, t2, z2⟩ := b
          dsimp only at *
          generalize strOf t1 = s1 at *
          generalize strOf t2 = s2 at *
          go_wp2
          go_quiet (fail)
          have HB := Lib.hid (bdrew H.out.1 nq)
          clear H c0 c1 c2 c3 e0 e1 e2 e3
          generalize wr.drewN nq = W at *
          go_wp2
          go_ret
          rw [HY.out]
          exact ⟨rfl, HB.out⟩
      · obtain rfl : k = m := by omega
        have HY := Lib.hid (show decide (kern xs = kern ys) = true from decide_eq_true (kern_ext (HM.out.trans HN.out.symm) (by rw [HM.out]; exact H.out.2)))
        go_wp2
        go_ret
        rw [HY.out]
        exact ⟨rfl, H.out.1⟩
  · have HY := Lib.hid (show decide (kern xs = kern ys) = false from decide_eq_false (fun e => hl (by rw [← hm, ← hn]; have := congrArg List.length e; simpa [kern] using this)))
    have q : ((m : Int) != (n : Int)) = true := by simp; omega
    clear hm hn hl R S
    go_enter Tryz.func24, Tryz.ntmps24
    go_wp2
    go_ret
    rw [HY.out]
    exact ⟨rfl, b0 w⟩
end Go.Proofs.YtplcmcealeeppaaGreatDoor
/- The reference: characters between quotation marks. -/
set_option linter.unusedVariables false
set_option linter.unusedSimpArgs false
namespace Go.Proofs.YtplcmcealeeppaaGreatDoor
open Go Go.RowKit L8

def shorts : List Bs := [[42, 99], [42, 110], [42, 116], [42, 115], [42, 39], [42, 34], [42, 42]]
def stands : List Nat := [13, 10, 9, 32, 39, 34, 42]
theorem sh_val : ∀ i, i < 7 → escape (shorts.getD i []) = some (stands.getD i 0) := by decide
theorem eq_lit' (l k : Bs) : ((strOf l).toList == k) = decide (l = k) := by
  rw [toList_strOf]; by_cases h : l = k <;> simp [h]
def single (s : Bs) : Prop := ∃ c, s = [c] ∧ 32 ≤ c.toNat ∧ c.toNat ≤ 126 ∧ c ≠ 39 ∧ c ≠ 42
theorem esc_1 (c : UInt8) : escape [c] = if 32 ≤ c.toNat ∧ c.toNat ≤ 126 ∧ c ≠ 39 ∧ c ≠ 42 then some c.toNat else none := rfl
theorem esc_2 (b c : UInt8) : escape [b, c] = if b = 42 then short c else none := rfl
theorem esc_4 (b g x y : UInt8) : escape [b, g, x, y] = if b = 42 ∧ g = 35 then value 16 2 256 [x, y] else none := rfl
theorem esc_single {c : UInt8} (h : 32 ≤ c.toNat ∧ c.toNat ≤ 126 ∧ c ≠ 39 ∧ c ≠ 42) : escape [c] = some c.toNat := by rw [esc_1, if_pos h]
theorem esc_rest {s : Bs} (h1 : ¬ single s) (h : ∀ i, i < 7 → shorts.getD i [] ≠ s) : escape s = if s.length = 4 ∧ s.take 2 = [42, 35] then value 16 2 256 (s.drop 2) else none := by
  match s, h1, h with
  | [], _, _ => rfl
  | [c], h1, _ =>
    rw [if_neg (by simp), esc_1, if_neg (fun h => h1 ⟨c, rfl, h⟩)]
  | [b, c], _, h =>
    rw [if_neg (by simp), esc_2]
    by_cases hb : b = 42
    · rw [if_pos hb]
      subst hb
      unfold short
      have h0 := h 0 (by decide)
      have h1 := h 1 (by decide)
      have h2 := h 2 (by decide)
      have h3 := h 3 (by decide)
      have h4 := h 4 (by decide)
      have h5 := h 5 (by decide)
      have h6 := h 6 (by decide)
      rw [if_neg (fun e => h0 (by rw [e]; rfl)), if_neg (fun e => h1 (by rw [e]; rfl)), if_neg (fun e => h2 (by rw [e]; rfl)), if_neg (fun e => h3 (by rw [e]; rfl)), if_neg (fun e => h4 (by rw [e]; rfl)), if_neg (fun e => h5 (by rw [e]; rfl)), if_neg (fun e => h6 (by rw [e]; rfl))]
    · rw [if_neg hb]
  | [_, _, _], _, _ => rw [if_neg (by simp)]; rfl
  | [b, g, x, y], _, _ =>
    rw [esc_4]
    by_cases hb : b = 42 ∧ g = 35
    · rw [if_pos hb, if_pos ⟨rfl, by rw [hb.1, hb.2]; rfl⟩]
      rfl
    · rw [if_neg hb, if_neg]
      rintro ⟨_, e⟩
      injection e with e1 e2
      injection e2 with e2
      exact hb ⟨e1, e2⟩
  | _ :: _ :: _ :: _ :: _ :: _, _, _ => rw [if_neg (by simp)]; rfl
def EVR (o : Option Nat) (e : Ending) : Prop := match o with
  | some v => e = .returned (.tuple #[.int .i32 (v : Int), .bool true])
  | none => ∃ z : Int, e = .returned (.tuple #[.int .i32 z, .bool false])
def iC (l : List Nat) : List Value := l.map fun (n : Nat) => Value.int .i32 (n : Int)
theorem iC_at {l : List Nat} {j : Nat} (h : j < l.length) : (iC l)[j]? = some (.int .i32 ((l.getD j 0 : Nat) : Int)) := by simp [iC, h]
end Go.Proofs.YtplcmcealeeppaaGreatDoor
