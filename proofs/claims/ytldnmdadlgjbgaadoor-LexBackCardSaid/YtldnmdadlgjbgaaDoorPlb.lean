/- The program's numbers and characters. -/
import Derived.Test.YtldnmdadlgjbgaaDoorPla
import Derived.Test.YtldnmdadlgjbgaaDoorWt
import Derived.Test.YtldnmdadlgjbgaaDoorShelf
import Derived.Lib.Repeat
import Derived.Lib.TrimByte
set_option linter.unusedVariables false
set_option linter.unusedSimpArgs false
namespace Go.Proofs.YtldnmdadlgjbgaaDoor
open Go Go.RowKit L8

/-! ### What is called -/
theorem wRead (l : Bs) (w : World) (ht : W1.Tab w) : Calls Tryd.prog 80 #[.string (strOf l)] w fun e w' => e = .returned (.tuple #[.int .i32 (readC l).1, .int .i64 (readC l).2]) ∧ Below w.heap.size w w' :=
  (W1.Read_any (strOf l) w ht).mono fun e w' h => by rw [data_strOf] at h; exact h
theorem wText (v : Int) (hex : Bool) (h0 : -2147483648 ≤ v) (h1 : v ≤ 2147483647) (w : World) (ht : W1.Tab w) : Calls Tryd.prog 15 #[.int .i32 v, .bool hex] w fun e w' => e = .returned (.string (strOf (textL v hex))) ∧ Below w.heap.size w w' :=
  W1.Text_any v hex ⟨h0, h1⟩ w ht
theorem cTrim0 (l : Bs) (w : World) : Calls Tryd.prog 19 #[.string (strOf l), .string ⟨#[48]⟩] w fun e w' => e = .returned (.string (strOf (cut0 l))) ∧ w = w' :=
  (Tryd.strings_TrimLeft_one (strOf l) 48 (by decide) w).mono fun e w' h => by
    rw [h.1, data_strOf, cut0_drop]
    exact ⟨rfl, h.2.symm⟩
theorem repeat_one (b : UInt8) : ∀ n, Lib.repeatL [b] n = List.replicate n b := by
  intro n
  induction n with
  | zero => rfl
  | succ n ih => rw [List.replicate_succ, ← ih]; rfl
theorem cRepeat1 (b : UInt8) (n : Nat) (hn : n ≤ 100000) (w : World) : Calls Tryd.prog 14 #[.string ⟨#[b]⟩, .int .i64 (n : Int)] w fun e w' => e = .returned (.string (strOf (List.replicate n b))) ∧ Below w.heap.size w w' :=
  (Tryd.strings_Repeat (strOf [b]) n w (by omega) (by rw [size_strOf]; simp; omega)).mono fun e w' h => by
    rw [data_strOf, repeat_one] at h
    exact h
theorem cIndexByte (l : Bs) (c : UInt8) (w : World) : Calls Tryd.prog 67 #[.string (strOf l), .int .u8 (c.toNat : Int)] w fun e w' => e = .returned (.int .i64 (Lib.indexByte l c)) ∧ w = w' :=
  (Tryd.strings_IndexByte (strOf l) (c.toNat : Int) w).mono fun e w' h => by
    have e1 : ((c.toNat : Int)).toNat.toUInt8 = c := by simp
    rw [h.1, data_strOf, e1]
    exact ⟨rfl, h.2.symm⟩
theorem cHasPrefix (l p : Bs) (w : World) : Calls Tryd.prog 35 #[.string (strOf l), .string (strOf p)] w fun e w' => e = .returned (.bool (Lib.hasPrefix l p)) ∧ w = w' :=
  (Tryd.strings_HasPrefix (strOf l) (strOf p) w).mono fun e w' h => by
    rw [data_strOf, data_strOf] at h
    exact ⟨h.1, h.2.symm⟩
theorem pre_one (l : Bs) (b : UInt8) : Lib.hasPrefix l [b] = decide (l.head? = some b) := by
  unfold Lib.hasPrefix
  cases l with
  | nil => rfl
  | cons c r =>
    by_cases h : b = c
    · subst h; simp [List.isPrefixOf]
    · simp [List.isPrefixOf, h, Ne.symm h]
theorem pre_two (l : Bs) (a b : UInt8) : Lib.hasPrefix l [a, b] = decide (l.take 2 = [a, b]) := by
  unfold Lib.hasPrefix
  match l with
  | [] => rfl
  | [c] => simp [List.isPrefixOf]
  | c :: d :: r =>
    by_cases h : a = c
    · by_cases h2 : b = d
      · subst h h2; simp [List.isPrefixOf]
      · simp [List.isPrefixOf, h, h2, Ne.symm h2]
    · simp [List.isPrefixOf, h, Ne.symm h]
/-! ### Numbers -/
def decO (l : Bs) : Option Int := (value 10 10 2147483648 l).map fun (v : Nat) => (v : Int)
def hexO (l : Bs) : Option Int := (value 16 8 4294967296 l).map fun (v : Nat) => redW (v : Int)
theorem dec_key {l : Bs} (h0 : l ≠ []) (h10 : l.length ≤ 10) (hw : l.all wordB = true) : (decO l).getD 0 = (readC (canon l)).1 ∧ (decO l).isSome = ((readC (canon l)).2 == 0) := by
  rw [dec_read h0 h10 hw]
  unfold decO
  cases value 10 10 2147483648 l <;> exact ⟨rfl, rfl⟩
theorem opt_key (o : Option Nat) (f : Nat → Int) : (o.map f).getD 0 = (match o with | some v => (f v, (0 : Int)) | none => (0, 5)).1 ∧ (o.map f).isSome = ((match o with | some v => (f v, (0 : Int)) | none => (0, 5)).2 == 0) := by
  cases o with
  | none => exact ⟨rfl, rfl⟩
  | some v => exact ⟨rfl, rfl⟩
theorem hex_key' {l : Bs} (R : Int × Int) (hR : R = match value 16 8 4294967296 l with | some v => (redW (v : Int), 0) | none => (0, 5)) : (hexO l).getD 0 = R.1 ∧ (hexO l).isSome = (R.2 == 0) := by
  rw [hR]
  exact opt_key (value 16 8 4294967296 l) (fun v => redW (v : Int))
theorem hex_key {l : Bs} (h1 : 1 ≤ l.length) (h8 : l.length ≤ 8) : (hexO l).getD 0 = (readC (35 :: (List.replicate (8 - l.length) 48 ++ l))).1 ∧ (hexO l).isSome = ((readC (35 :: (List.replicate (8 - l.length) 48 ++ l))).2 == 0) :=
  hex_key' _ (hex_pad h1 h8)
theorem ret_nb {k : IntKind} {a b : Int} {p q : Bool} (h : a = b) (h' : p = q) : Ending.returned (.tuple #[.int k a, .bool p]) = .returned (.tuple #[.int k b, .bool q]) := by rw [h, h']
set_option maxRecDepth 100000 in
set_option maxHeartbeats 4000000 in
theorem decimal_any (l : Bs) (h0 : l ≠ []) (hw : l.all wordB = true) (hl : l.length ≤ maxLen) (w : World) (ht : W1.Tab w) : Calls Tryd.prog 71 #[.string (strOf l)] w fun e w' => e = .returned (.tuple #[.int .i32 ((decO l).getD 0), .bool (decO l).isSome]) ∧ Below w.heap.size w w' := by
  have hsz := size_strOf l
  obtain ⟨n, hn⟩ : ∃ n, l.length = n := ⟨_, rfl⟩
  rw [hn] at hsz hl
  unfold maxLen at hl
  have hn0 : (0 : Int) ≤ (n : Int) := by omega
  by_cases h10 : (10 : Int) < (n : Int)
  · have e : decO l = none := by unfold decO; rw [value_far (by omega)]; rfl
    rw [e]
    clear hn e h0 hw
    generalize strOf l = S at *
    go_enter Tryd.func71, Tryd.ntmps71
    go_wp2
    go_ret2
    exact ⟨rfl, b0 _⟩
  · obtain ⟨k1, k2⟩ := dec_key h0 (by omega) hw
    rw [k1, k2]
    clear k1 k2 h0 hw hn
    have CT := Lib.hid (fun (W : World) => cTrim0 l W)
    have CR := Lib.hid (wRead (canon l) w ht)
    have he := eq_nil (cut0 l)
    generalize (readC (canon l)).1 = a at *
    generalize (readC (canon l)).2 = b at *
    by_cases hc : cut0 l = []
    · have e : canon l = [48] := by unfold canon; rw [if_pos hc]
      rw [e] at CR
      rw [show (cut0 l).isEmpty = true by rw [hc]; rfl] at he
      have CR2 : Hid (Calls Tryd.prog 80 #[.string ⟨#[48]⟩] w fun e w' => e = .returned (.tuple #[.int .i32 a, .int .i64 b]) ∧ Below w.heap.size w w') := Lib.hid CR.out
      clear e hc CR
      generalize strOf (cut0 l) = T at *
      generalize strOf l = S at *
      go_enter Tryd.func71, Tryd.ntmps71
      go_wp2_with (first
        | (go_at_call 19; (with_reducible refine (CT.out _).mono ?_); rintro e w1 ⟨rfl, rfl⟩)
        | (go_at_call 80; (with_reducible refine (CR2.out).mono ?_); rintro e w1 ⟨rfl, b1⟩; have B1 := Lib.hid b1; clear b1))
      go_ret2
      exact ⟨rfl, B1.out⟩
    · have e : canon l = cut0 l := by unfold canon; rw [if_neg hc]
      rw [e] at CR
      rw [show (cut0 l).isEmpty = false by cases h : cut0 l with | nil => exact absurd h hc | cons c r => rfl] at he
      clear e hc
      generalize strOf (cut0 l) = T at *
      generalize strOf l = S at *
      go_enter Tryd.func71, Tryd.ntmps71
      go_wp2_with (first
        | (go_at_call 19; (with_reducible refine (CT.out _).mono ?_); rintro e w1 ⟨rfl, rfl⟩)
        | (go_at_call 80; (with_reducible refine (CR.out).mono ?_); rintro e w1 ⟨rfl, b1⟩; have B1 := Lib.hid b1; clear b1))
      go_ret2
      exact ⟨rfl, B1.out⟩
set_option maxRecDepth 100000 in
set_option maxHeartbeats 4000000 in
theorem hexadecimal_any (l : Bs) (hl : l.length ≤ maxLen) (w : World) (ht : W1.Tab w) : Calls Tryd.prog 72 #[.string (strOf l)] w fun e w' => e = .returned (.tuple #[.int .i32 ((hexO l).getD 0), .bool (hexO l).isSome]) ∧ Below w.heap.size w w' := by
  have hsz := size_strOf l
  have he := eq_nil l
  by_cases h0 : l = []
  · have e : hexO l = none := by unfold hexO; rw [h0, value_none]; rfl
    rw [e]
    rw [show l.isEmpty = true by rw [h0]; rfl] at he
    clear e h0 hsz
    generalize strOf l = S at *
    go_enter Tryd.func72, Tryd.ntmps72
    go_wp2
    go_ret2
    exact ⟨rfl, b0 _⟩
  · have hpos := List.length_pos_iff.2 h0
    rw [show l.isEmpty = false by cases l with | nil => exact absurd rfl h0 | cons c r => rfl] at he
    obtain ⟨n, hn⟩ : ∃ n, l.length = n := ⟨_, rfl⟩
    rw [hn] at hsz hl hpos
    unfold maxLen at hl
    have hn0 : (0 : Int) ≤ (n : Int) := by omega
    by_cases h8 : (8 : Int) < (n : Int)
    · have e : hexO l = none := by unfold hexO; rw [value_far (by omega)]; rfl
      rw [e]
      have q8 : decide ((8 : Int) < (n : Int)) = true := decide_eq_true h8
      clear hn e h0
      generalize strOf l = S at *
      go_enter Tryd.func72, Tryd.ntmps72
      go_wp2
      go_ret2
      exact ⟨rfl, b0 _⟩
    · have q8 : decide ((8 : Int) < (n : Int)) = false := decide_eq_false h8
      obtain ⟨k1, k2⟩ := hex_key (l := l) (by omega) (by omega)
      rw [k1, k2, hn]
      have CR := Lib.hid (fun (W : World) (h : W1.Tab W) => wRead (35 :: (List.replicate (8 - n) 48 ++ l)) W h)
      have CP := Lib.hid (cRepeat1 48 (8 - n) (by omega) w)
      have e8 : ((8 - n : Nat) : Int) = 8 - (n : Int) := by omega
      rw [e8] at CP
      have t1 : Op.stringOp .add ⟨#[35]⟩ (strOf (List.replicate (8 - n) 48)) = pure (.string (strOf (35 :: List.replicate (8 - n) 48))) := cat_str [35] (List.replicate (8 - n) 48) (by rw [List.length_replicate]; simp; omega)
      have t2 : Op.stringOp .add (strOf (35 :: List.replicate (8 - n) 48)) (strOf l) = pure (.string (strOf (35 :: (List.replicate (8 - n) 48 ++ l)))) := cat_str (35 :: List.replicate (8 - n) 48) l (by rw [List.length_cons, List.length_replicate]; omega)
      have HT := Lib.hid ht
      clear k1 k2 hn e8 h0 hpos ht
      generalize (readC (35 :: (List.replicate (8 - n) 48 ++ l))).1 = a at *
      generalize (readC (35 :: (List.replicate (8 - n) 48 ++ l))).2 = b at *
      generalize strOf (35 :: (List.replicate (8 - n) 48 ++ l)) = X1 at *
      generalize strOf (35 :: List.replicate (8 - n) 48) = X2 at *
      generalize strOf (List.replicate (8 - n) 48) = X3 at *
      generalize strOf l = S at *
      go_enter Tryd.func72, Tryd.ntmps72
      go_wp2_with (first
        | (go_at_call 14; (with_reducible refine (CP.out).mono ?_); rintro e w1 ⟨rfl, b1⟩; have B1 := Lib.hid b1; clear b1)
        | (go_at_call 80; (with_reducible refine (CR.out _ (HT.out.below B1.out)).mono ?_); rintro e w2 ⟨rfl, b2⟩; have B2 := Lib.hid (blw B1.out b2); clear b2))
      go_ret2
      exact ⟨rfl, B2.out⟩
/-! ### Characters -/
def escs : Bs := [99, 110, 116, 39, 42, 115, 34]
def escd : Bs := [13, 10, 9, 39, 42, 32, 34]
def escOK (c : UInt8) : Bool := (decide (Lib.indexByte escs c = -1) && decide (short c = none)) || (decide (0 ≤ Lib.indexByte escs c) && decide (Lib.indexByte escs c < 7) && decide (short c = some (escd.getD (Lib.indexByte escs c).toNat 0).toNat))
theorem esc_all : ∀ n : Fin 256, escOK (UInt8.ofNat n.val) = true := by decide +kernel
theorem esc_idx (c : UInt8) : (Lib.indexByte escs c = -1 ∧ short c = none) ∨ ∃ i : Nat, i < 7 ∧ Lib.indexByte escs c = (i : Int) ∧ short c = some (escd.getD i 0).toNat := by
  have h := esc_all ⟨c.toNat, c.toNat_lt⟩
  rw [show UInt8.ofNat (⟨c.toNat, c.toNat_lt⟩ : Fin 256).val = c by simp] at h
  unfold escOK at h
  simp only [Bool.or_eq_true, Bool.and_eq_true, decide_eq_true_eq] at h
  rcases h with h | ⟨⟨h1, h2⟩, h3⟩
  · exact .inl h
  · exact .inr ⟨(Lib.indexByte escs c).toNat, by omega, by omega, h3⟩
theorem escd_lt (i : Nat) : (escd.getD i 0).toNat < 256 := (escd.getD i 0).toNat_lt
theorem hexO_two {x y : UInt8} {v : Nat} (h : value 16 8 4294967296 [x, y] = some v) : hexO [x, y] = some (v : Int) ∧ v < 256 := by
  have h2 : v < 256 := by
    have h3 := value_two x y
    rw [h] at h3
    exact value_lt h3
  refine ⟨?_, h2⟩
  unfold hexO
  rw [h]
  show some (redW (v : Int)) = some (v : Int)
  rw [redW_in (v : Int) (by omega) (by omega)]
theorem mid_form {s : Bs} (h : 4 ≤ s.length) : ∃ x y, (s.take 4).drop 2 = [x, y] := by
  match s, h with
  | a :: b :: c :: d :: r, _ => exact ⟨c, d, rfl⟩
/-- The first part of an escape: two hexadecimal digits. -/
def escH (s : Bs) : Option Nat := if 4 ≤ s.length ∧ s.take 2 = [42, 35] then value 16 8 4294967296 ((s.take 4).drop 2) else none
def escS (s : Bs) : Nat × Nat := if 2 ≤ s.length then (match short (s.getD 1 0) with | some v => (v, 2) | none => (0, 0)) else (0, 0)
theorem escP_h {s : Bs} {v : Nat} (h : escH s = some v) : escP s = (v, 4) := by unfold escH at h; unfold escP; rw [h]
theorem escP_s {s : Bs} (h : escH s = none) : escP s = escS s := by unfold escH at h; unfold escP escS; rw [h]; rfl
end Go.Proofs.YtldnmdadlgjbgaaDoor
