/- Numbers with zeros in front, digits too many, every byte by its escape: what LexNumbers and LexBytes say. Plain Lean. -/
import Derived.Test.YtimbiobonigdmaaGreatDoorLxd
set_option linter.unusedVariables false
set_option linter.unusedSimpArgs false
set_option linter.unusedVariables false
set_option linter.unusedSimpArgs false
namespace Go.Proofs.YtimbiobonigdmaaGreatDoor.L8
open Go

/-! ### A line that is one token, a line that begins in error -/
theorem tokens_whole {c : UInt8} {r : Bs} (hc : c ≠ 32) {k : Nat} {tx : Bs} {v : Int} (h : token (c :: r) = some (k, tx, v, (c :: r).length)) (hl : (c :: r).length ≤ 256) :
    tokens (c :: r) = ([⟨k, 0, tx, v⟩], 0, 0) := by
  unfold tokens
  rw [if_neg (by omega), toks_tok hc h 0, List.drop_length, toks_nil]
  rfl
theorem tokens_bad0 {c : UInt8} {r : Bs} (hc : c ≠ 32) (h : token (c :: r) = none) (hl : (c :: r).length ≤ 256) : tokens (c :: r) = ([], 0, 80) := by
  unfold tokens
  rw [if_neg (by omega), toks_bad hc h 0]
  rfl
/-! ### A line of word bytes -/
theorem wrun_all {l : Bs} (h : l.all wordB = true) : wrun l = l.length := by
  have := wrun_of (b := []) h (by intro c hc; cases hc)
  rw [List.append_nil] at this
  exact this
theorem token_hexs {l : Bs} (h : l.all wordB = true) : token (35 :: l) = match value 16 8 4294967296 l with | some v => some (3, [], redW (v : Int), (35 :: l).length) | none => none := by
  rw [token_hex, wrun_all h, Nat.add_comm, List.take_succ_cons, List.take_length, List.drop_succ_cons, List.drop_zero, List.length_cons]
  cases value 16 8 4294967296 l <;> rfl
theorem token_decs {c : UInt8} {l : Bs} (hd : digit c = true) (h : l.all wordB = true) : token (c :: l) = match value 10 10 2147483648 (c :: l) with | some v => some (3, [], (v : Int), (c :: l).length) | none => none := by
  rw [token_num (digit_noletter hd).1 hd, wrun_all h, Nat.add_comm, List.take_succ_cons, List.take_length, List.length_cons]
  cases value 10 10 2147483648 (c :: l) <;> rfl
/-! ### Zeros in front -/
theorem numL_zero {base : Nat} (l : Bs) : numL base (48 :: l) 0 = numL base l 0 := by
  have : dval base 48 = some 0 := by unfold dval; rw [if_pos (by decide)]; rfl
  rw [numL, this]
  simp
theorem numL_zeros {base : Nat} (l : Bs) : ∀ n, numL base (List.replicate n 48 ++ l) 0 = numL base l 0
  | 0 => rfl
  | n + 1 => by rw [List.replicate_succ, List.cons_append, numL_zero, numL_zeros l n]
def cut0 : Bs → Bs
  | [] => []
  | c :: r => if c = 48 then cut0 r else c :: r
theorem cut0_drop (l : Bs) : cut0 l = l.dropWhile (· == 48) := by
  induction l with
  | nil => rfl
  | cons c r ih =>
    unfold cut0
    by_cases h : c = 48
    · rw [if_pos h, List.dropWhile_cons_of_pos (by simp [h]), ih]
    · rw [if_neg h, List.dropWhile_cons_of_neg (by simp [h])]
theorem numL_cut0 {base : Nat} (r : Bs) : ∀ l : Bs, numL base (cut0 l ++ r) 0 = numL base (l ++ r) 0
  | [] => rfl
  | c :: l => by
    unfold cut0
    by_cases h : c = 48
    · rw [if_pos h, numL_cut0 r l, h, List.cons_append, numL_zero]
    · rw [if_neg h]
theorem cut0_len : ∀ l : Bs, (cut0 l).length ≤ l.length
  | [] => Nat.le_refl _
  | c :: l => by
    unfold cut0
    have := cut0_len l
    split <;> simp only [List.length_cons] <;> omega
theorem cut0_all {p : UInt8 → Bool} : ∀ {l : Bs}, l.all p = true → (cut0 l).all p = true
  | [], h => h
  | c :: l, h => by
    unfold cut0
    split
    · rw [List.all_cons, Bool.and_eq_true] at h
      exact cut0_all h.2
    · exact h
theorem numL_bad {base : Nat} {x : UInt8} (hx : dval base x = none) : ∀ (l : Bs) (n : Nat), numL base (l ++ [x]) n = none
  | [], n => by rw [List.nil_append, numL, hx]
  | c :: l, n => by
    rw [List.cons_append, numL]
    cases dval base c with
    | none => rfl
    | some d => exact numL_bad hx l _
theorem all_snoc {p : UInt8 → Bool} {l : Bs} {x : UInt8} (h : l.all p = true) (hx : p x = true) : (l ++ [x]).all p = true := by
  rw [List.all_append, h, List.all_cons, hx]; rfl
/-! ### A word's hexadecimal text -/
theorem hex_all (v : Int) : (hexDigs 8 (uns v)).all wordB = true := hexDigs_word _ _
theorem hex_read (v : Int) (h0 : -2147483648 ≤ v) (h1 : v ≤ 2147483647) : tokens (35 :: hexDigs 8 (uns v)) = ([⟨3, 0, [], v⟩], 0, 0) := by
  have hl := hexDigs_length 8 (uns v)
  refine tokens_whole (by decide) ?_ (by rw [List.length_cons]; omega)
  rw [token_hexs (hex_all v), value_hex]
  dsimp only
  rw [uns_red v h0 h1]
theorem hex_more (v : Int) : tokens (35 :: (hexDigs 8 (uns v) ++ [48])) = ([], 0, 80) := by
  have hl := hexDigs_length 8 (uns v)
  refine tokens_bad0 (by decide) ?_ (by rw [List.length_cons, List.length_append, List.length_cons, List.length_nil]; omega)
  rw [token_hexs (all_snoc (hex_all v) (by decide))]
  have : value 16 8 4294967296 (hexDigs 8 (uns v) ++ [48]) = none := by
    unfold value
    rw [if_pos (by rw [List.length_append, List.length_cons, List.length_nil]; omega)]
  rw [this]
theorem hex_least (v : Int) (h0 : -2147483648 ≤ v) (h1 : v ≤ 2147483647) : tokens (35 :: (cut0 ((hexDigs 8 (uns v)).take 7) ++ (hexDigs 8 (uns v)).drop 7)) = ([⟨3, 0, [], v⟩], 0, 0) := by
  have hl := hexDigs_length 8 (uns v)
  have ha := hex_all v
  have hv := value_hex v
  generalize hexDigs 8 (uns v) = H at *
  have e : H.take 7 ++ H.drop 7 = H := List.take_append_drop 7 H
  have hc := cut0_len (H.take 7)
  rw [List.length_take] at hc
  have hn : (cut0 (H.take 7) ++ H.drop 7).length ≤ 8 ∧ 1 ≤ (cut0 (H.take 7) ++ H.drop 7).length := by
    rw [List.length_append, List.length_drop]; omega
  have hw : (cut0 (H.take 7) ++ H.drop 7).all wordB = true := by
    rw [← e, List.all_append, Bool.and_eq_true] at ha
    rw [List.all_append, cut0_all ha.1, ha.2]; rfl
  refine tokens_whole (by decide) ?_ (by rw [List.length_cons]; omega)
  have hval : value 16 8 4294967296 (cut0 (H.take 7) ++ H.drop 7) = some (uns v) := by
    unfold value at hv ⊢
    rw [if_neg (by omega)] at hv ⊢
    rw [numL_cut0, e]
    exact hv
  rw [token_hexs hw, hval]
  dsimp only
  rw [uns_red v h0 h1]
/-! ### A number with zeros in front -/
def decz (z t : Nat) : Bs := List.replicate z 48 ++ Lib.decDigits t
theorem decz_digit (z t : Nat) : (decz z t).all digit = true := by
  unfold decz
  rw [List.all_append, decDigits_all, Bool.and_true, List.all_eq_true]
  intro c hc
  rw [(List.mem_replicate.1 hc).2]
  decide
theorem decz_head (z t : Nat) : ∃ c r, decz z t = c :: r ∧ digit c = true ∧ r.all digit = true := by
  have h := decz_digit z t
  have hn : decz z t ≠ [] := by
    obtain ⟨c, cs, e, _⟩ := decDigits_head t
    unfold decz
    rw [e]
    simp
  cases e : decz z t with
  | nil => exact absurd e hn
  | cons c r =>
    rw [e, List.all_cons, Bool.and_eq_true] at h
    exact ⟨c, r, rfl, h.1, h.2⟩
theorem decz_read {z t : Nat} (ht : t < 2147483648) (hl : (decz z t).length ≤ 10) : tokens (decz z t) = ([⟨3, 0, [], (t : Int)⟩], 0, 0) := by
  obtain ⟨c, r, e, h1, h2⟩ := decz_head z t
  have hval : value 10 10 2147483648 (decz z t) = some t := by
    have h3 : 1 ≤ (decz z t).length := by rw [e]; simp
    unfold value
    rw [if_neg (by omega)]
    unfold decz
    rw [numL_zeros, numL_of _ _ (natL_dec t (by omega))]
    dsimp only
    rw [if_pos ht]
  rw [e] at hval hl ⊢
  refine tokens_whole (digit_noletter h1).2 ?_ (by omega)
  rw [token_decs h1 (all_digit_word h2), hval]
theorem decz_more {z t : Nat} (hl : 10 < (decz z t).length) (h2 : (decz z t).length ≤ 256) : tokens (decz z t) = ([], 0, 80) := by
  obtain ⟨c, r, e, h1, h3⟩ := decz_head z t
  have hval : value 10 10 2147483648 (decz z t) = none := by unfold value; rw [if_pos (by omega)]
  rw [e] at hval h2 ⊢
  refine tokens_bad0 (digit_noletter h1).2 ?_ h2
  rw [token_decs h1 (all_digit_word h3), hval]
theorem decz_then {z t : Nat} {x : UInt8} (hx : wordB x = true) (hd : dval 10 x = none) (h2 : (decz z t).length ≤ 200) : tokens (decz z t ++ [x]) = ([], 0, 80) := by
  obtain ⟨c, r, e, h1, h3⟩ := decz_head z t
  have hval : value 10 10 2147483648 (decz z t ++ [x]) = none := by
    unfold value
    split
    · rfl
    · rw [numL_bad hd]
  rw [e, List.cons_append] at hval ⊢
  rw [e, List.length_cons] at h2
  refine tokens_bad0 (digit_noletter h1).2 ?_ (by rw [List.length_cons, List.length_append, List.length_cons, List.length_nil]; omega)
  rw [token_decs h1 (all_snoc (all_digit_word h3) hx), hval]
/-! ### Bytes -/
/-- The hexadecimal escape of a byte, without the closing quotation mark. -/
def esc (v : Nat) : Bs := [39, 42, 35, hexDg (v / 16), hexDg (v % 16)]
theorem hex_last (v : Nat) (h : v < 256) : (35 :: hexDigs 8 (uns (v : Int))).drop 7 = [hexDg (v / 16), hexDg (v % 16)] := by
  have : ∀ v : Fin 256, (35 :: hexDigs 8 (uns (v.val : Int))).drop 7 = [hexDg (v.val / 16), hexDg (v.val % 16)] := by decide +kernel
  exact this ⟨v, h⟩
theorem esc_closed (v : Nat) (h : v < 256) : tokens (esc v ++ [39]) = ([⟨4, 0, [], (v : Int)⟩], 0, 0) := by
  have : ∀ v : Fin 256, L8.quoted (esc v.val ++ [39]) = some (v.val, 6) := by decide +kernel
  have h2 := this ⟨v, h⟩
  have e : esc v ++ [39] = 39 :: [42, 35, hexDg (v / 16), hexDg (v % 16), 39] := rfl
  dsimp only at h2
  rw [e] at h2 ⊢
  refine tokens_whole (by decide) ?_ (by simp)
  rw [token_quo, h2]
  rfl
theorem esc_open (v : Nat) (h : v < 256) : tokens (esc v) = ([], 0, 80) := by
  have : ∀ v : Fin 256, L8.quoted (esc v.val) = none := by decide +kernel
  have h2 := this ⟨v, h⟩
  unfold esc at h2 ⊢
  refine tokens_bad0 (by decide) ?_ (by simp)
  rw [token_quo, h2]
theorem shown_len (v : Int) : 1 ≤ (shown v).length ∧ (shown v).length ≤ 4 := by
  unfold shown
  repeat' split
  all_goals simp
theorem byte_closed (v : Nat) (h : v < 256) : tokens (39 :: (shown (v : Int) ++ [39])) = ([⟨4, 0, [], (v : Int)⟩], 0, 0) := by
  have hl := shown_len (v : Int)
  refine tokens_whole (by decide) ?_ (by rw [List.length_cons, List.length_append, List.length_cons, List.length_nil]; omega)
  rw [token_quo, byte_quoted v h]
theorem byte_open (v : Nat) (h : v < 256) : tokens (39 :: shown (v : Int)) = ([], 0, 80) := by
  have hl := shown_len (v : Int)
  have : ∀ v : Fin 256, L8.quoted (39 :: shown (v.val : Int)) = none := by decide +kernel
  refine tokens_bad0 (by decide) ?_ (by rw [List.length_cons]; omega)
  rw [token_quo, this ⟨v, h⟩]
/-- The text of a byte alone. -/
theorem text_byte (v : Nat) : textT [⟨4, 0, [], (v : Int)⟩] = 39 :: (shown (v : Int) ++ [39]) := by
  simp [textT, one, behind]
end Go.Proofs.YtimbiobonigdmaaGreatDoor.L8
