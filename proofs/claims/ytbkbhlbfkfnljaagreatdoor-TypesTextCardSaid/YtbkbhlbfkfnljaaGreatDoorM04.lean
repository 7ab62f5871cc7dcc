/- word.Text returns the text of a word; word.Read reads one as 'readC' says. -/
import Derived.Lib.Repeat
import Derived.Lib.TrimByte
import Derived.Deep.LoopGhost
import Derived.Test.YtbkbhlbfkfnljaaGreatDoorM03
import Derived.Test.YtbkbhlbfkfnljaaGreatDoorM02
import Derived.Test.YtbkbhlbfkfnljaaGreatDoorShelf
import Derived.Test.YtbkbhlbfkfnljaaGreatDoorM01
set_option linter.unusedVariables false
set_option linter.unusedSimpArgs false
set_option linter.unusedVariables false
set_option linter.unusedSimpArgs false
namespace Go.Proofs.YtbkbhlbfkfnljaaGreatDoor.W1
open Go Go.RowKit Go.Sort

/-- The library's table of powers of ten stands as its initialiser lays it. -/
def Tab (w : World) : Prop := Lib.TabIs Tryz.prog w "internal/strconv.uint64pow10" .u64 Lib.pow10Tab
theorem Tab.below {w w' : World} (h : Tab w) (hb : Below w.heap.size w w') : Tab w' := by
  unfold Tab Lib.TabIs World.var? at *
  cases hg : Tryz.prog.globalNamed "internal/strconv.uint64pow10" with
  | none => simp [hg] at h
  | some g =>
    simp only [hg, Option.bind_some] at h ⊢
    have hlt : g < w.heap.size := by
      rcases Nat.lt_or_ge g w.heap.size with h' | h'
      · exact h'
      · rw [Array.getElem?_eq_none h'] at h; simp at h
    rw [hb.block g hlt]
    exact h
theorem grow_below (w : World) (k : Nat) (os : Array Obj) : Below w.heap.size w (grow (w.drewN k) os) :=
  ⟨rfl, rfl, rfl, by show w.heap.size ≤ (w.heap ++ os).size; rw [Array.size_append]; omega, fun j hj => by show (w.heap ++ os)[j]? = w.heap[j]?; exact Array.getElem?_append_left hj⟩
theorem Text_dec (v : Int) (hv : isW v) (w : World) (ht : Tab w) :
    Calls Tryz.prog 41 #[.int .i32 v, .bool false] w fun e w' => e = .returned (.string (strOf (textL v false))) ∧ Below w.heap.size w w' := by
  obtain ⟨v0, v1⟩ := hv
  have C := Lib.hid (Tryz.strconv_Itoa v (by omega) (by omega))
  go_enter Tryz.func41, Tryz.ntmps41
  go_wp2_with fail
  refine (C.out _ ht).mono ?_
  rintro e w' ⟨rfl, k, os, hw⟩
  have hb := grow_below w k os
  rw [← hw] at hb
  clear hw
  go_wp2
  go_ret
  exact ⟨rfl, hb⟩
theorem i32_and15 (a : Int) : bits .and .i32 a 15 = a % 16 := by
  show IntKind.i32.wrap ((BitVec.ofInt 32 a &&& BitVec.ofInt 32 15).toNat : Int) = _
  rw [BitVec.toNat_and, BitVec.toNat_ofInt, show (BitVec.ofInt 32 15).toNat = 2 ^ 4 - 1 by decide, Nat.and_two_pow_sub_one_eq_mod, IntKind.wrap_i32]
  simp
  omega
theorem hexDigs_at : ∀ (n t j : Nat), j < n → (hexDigs n t).getD j 0 = hexDg (t / 16 ^ (n - 1 - j) % 16)
  | 0, _, _, h => by omega
  | n + 1, t, j, h => by
    unfold hexDigs
    by_cases hj : j < n
    · have h1 := hexDigs_at n (t / 16) j hj
      rw [List.getD_eq_getElem?_getD] at h1 ⊢
      rw [List.getElem?_append_left (by rw [hexDigs_length]; exact hj), h1]
      congr 2
      rw [Nat.div_div_eq_div_mul, show n + 1 - 1 - j = (n - 1 - j) + 1 by omega, Nat.pow_succ, Nat.mul_comm]
    · obtain rfl : j = n := by omega
      rw [List.getD_eq_getElem?_getD, List.getElem?_append_right (by rw [hexDigs_length]; omega), hexDigs_length]
      simp
theorem plc_at (k : Nat) (hk : k < 8) : plc (28 - 4 * (k : Int)) = 4 * (7 - k) := by unfold plc; omega
theorem dig_at (v : Int) (k : Nat) (hk : k < 8) : shrR v (28 - 4 * (k : Int)) % 16 = ((uns v / 16 ^ (7 - k) % 16 : Nat) : Int) := by
  unfold shrR
  rw [plc_at k hk, Int.pow_mul]
  have hu : ((uns v : Nat) : Int) = v % 4294967296 := uns_cast v
  rw [← hu]
  have e : ((uns v / 16 ^ (7 - k) % 16 : Nat) : Int) = ((uns v : Nat) : Int) / (2 ^ 4) ^ (7 - k) % 16 := by
    rw [show (2 : Int) ^ 4 = 16 by decide]
    push_cast
    rfl
  rw [e]
  unfold wrap32
  omega
theorem index_dig32 (j : Nat) (h : j < 16) (W : World) : (Instr.index 9 (.string ⟨#[48, 49, 50, 51, 52, 53, 54, 55, 56, 57, 65, 66, 67, 68, 69, 70]⟩) (.int .i32 (j : Int))).run Tryz.prog W = .ok (.int .u8 ((hexDg j).toNat : Int)) W := by
  have hs : (⟨#[48, 49, 50, 51, 52, 53, 54, 55, 56, 57, 65, 66, 67, 68, 69, 70]⟩ : ByteArray).size = 16 := rfl
  rw [run_index_string W 9 _ .i32 (j : Int) Tryz.underlying9, dif_pos ⟨by omega, by rw [hs]; omega⟩]
  have := table_dig ⟨j, h⟩
  simp only [Int.toNat_natCast]
  rw [this]
/-- The digits as far as they are written. -/
def hexCell (v : Int) (k j : Nat) : Value := if j < k then .int .u8 (((hexDigs 8 (uns v))[j]?.getD 0).toNat : Int) else .int .u8 0
def hexArr (v : Int) (k : Nat) : Array Value := #[hexCell v k 0, hexCell v k 1, hexCell v k 2, hexCell v k 3, hexCell v k 4, hexCell v k 5, hexCell v k 6, hexCell v k 7]
theorem hexArr_get (v : Int) (k j : Nat) (h : j < 8) : (hexArr v k)[j]? = some (hexCell v k j) := by
  rcases (by omega : j = 0 ∨ j = 1 ∨ j = 2 ∨ j = 3 ∨ j = 4 ∨ j = 5 ∨ j = 6 ∨ j = 7) with rfl | rfl | rfl | rfl | rfl | rfl | rfl | rfl <;> rfl
theorem hexArr_size (v : Int) (k : Nat) : (hexArr v k).size = 8 := rfl
theorem hexArr_set (v : Int) (k : Nat) (h : k < 8) : (hexArr v k).setIfInBounds k (.int .u8 (((hexDigs 8 (uns v))[k]?.getD 0).toNat : Int)) = hexArr v (k + 1) := by
  apply Array.ext_getElem?
  intro j
  by_cases hj : j < 8
  · rw [hexArr_get v (k + 1) j hj, Array.getElem?_setIfInBounds]
    by_cases e : k = j
    · subst e
      simp [hexArr_size, h, hexCell]
    · rw [if_neg e, hexArr_get v k j hj]
      unfold hexCell
      by_cases h1 : j < k
      · rw [if_pos h1, if_pos (by omega)]
      · rw [if_neg h1, if_neg (by omega)]
  · rw [Array.getElem?_eq_none (by simp [hexArr_size]; omega), Array.getElem?_eq_none (by simp [hexArr_size]; omega)]
theorem hexArr_all (v : Int) : hexArr v 8 = ((hexDigs 8 (uns v)).map fun c => Value.int .u8 (c.toNat : Int)).toArray := by
  apply Array.ext_getElem?
  intro j
  have hl := hexDigs_length 8 (uns v)
  by_cases hj : j < 8
  · rw [hexArr_get v 8 j hj]
    unfold hexCell
    rw [if_pos hj, List.getElem?_toArray, List.getElem?_map, List.getElem?_eq_getElem (by omega)]
    rfl
  · rw [Array.getElem?_eq_none (by simp [hexArr_size]; omega), Array.getElem?_eq_none (by simp [hl]; omega)]
theorem conv_hex (v : Int) (w : World) : (convert 61 9 (.slice (some ⟨w.heap.size, 0, none⟩) 8 8)).run Tryz.prog (w.alloc (.cells (hexArr v 8) 94)) = .ok (.string (strOf (hexDigs 8 (uns v)))) (w.alloc (.cells (hexArr v 8) 94)) := by
  have hl := hexDigs_length 8 (uns v)
  have h := run_convert_bytes_back (P := Tryz.prog) (w.alloc (.cells (hexArr v 8) 94)) 61 9 5 ⟨w.heap.size, 0, none⟩ 8 (hexDigs 8 (uns v)) Tryz.underlying61 Tryz.underlying5 Tryz.underlying9 (fun j hj => by
    have e : (⟨w.heap.size, 0, none⟩ : Addr).add j = ⟨w.heap.size, j, none⟩ := by
      unfold Addr.add
      split
      · rename_i h0; rw [h0]
      · simp
    rw [e, World.cell?_alloc_new, hexArr_all, List.getElem?_toArray, List.getElem?_map, List.getElem?_eq_getElem hj]
    rfl)
  rw [hl] at h
  exact h
set_option maxHeartbeats 400000 in
theorem Text_hex (v : Int) (w : World) :
    Calls Tryz.prog 41 #[.int .i32 v, .bool true] w fun e w' => e = .returned (.string (strOf (textL v true))) ∧ Below w.heap.size w w' := by
  go_enter Tryz.func41, Tryz.ntmps41
  go_wp2
  go_loopw [6, 12] (fun _ i wr => ∃ k : Nat, k ≤ 8 ∧ i = .int .i64 k ∧ wr = w.alloc (.cells (hexArr v k) 94)) (fun _ i _ => 8 - (intOf i).toNat)
  case atStart => exact ⟨0, by omega, rfl, rfl⟩
  case round =>
    obtain ⟨k, hk, rfl, rfl⟩ := hrel
    by_cases hlt : k < 8
    · have hand : bits .and .i32 (shrR v (28 - 4 * (k : Int))) 15 = ((uns v / 16 ^ (7 - k) % 16 : Nat) : Int) := by rw [i32_and15, dig_at v k hlt]
      have hD : hexDg (uns v / 16 ^ (7 - k) % 16) = (hexDigs 8 (uns v)).getD k 0 := by rw [hexDigs_at 8 _ k hlt]
      have hidx := fun W => index_dig32 (uns v / 16 ^ (7 - k) % 16) (Nat.mod_lt _ (by decide)) W
      have hset := hexArr_set v k hlt
      have hc := hexArr_get v k k hlt
      rw [hD] at hidx
      generalize uns v / 16 ^ (7 - k) % 16 = d at *
      have HS := Lib.hid hset
      clear hset hD
      go_wp2_with (go_at_call 55; refine (Shr_any _ _ _).mono ?_; rintro e w' ⟨rfl, rfl⟩)
      go_roundw
      case rel => exact ⟨k + 1, by omega, by go_num, by rw [HS.out]⟩
      case measure => simp [intOf]; omega
    · obtain rfl : k = 8 := by omega
      have hconv := conv_hex v w
      have hcat := cat_cons 35 (hexDigs 8 (uns v)) (by rw [hexDigs_length]; omega)
      have Hf := Lib.hid (show textL v true = 35 :: hexDigs 8 (uns v) by unfold textL; simp)
      clear hlt hk
      generalize hexArr v 8 = arr at *
      generalize hexDigs 8 (uns v) = l at *
      go_wp2
      go_ret
      exact ⟨by rw [Hf.out]; rfl, (Below.refl _ _).alloc (Nat.le_refl _) _⟩
theorem Text_any (v : Int) (hex : Bool) (hv : isW v) (w : World) (ht : Tab w) :
    Calls Tryz.prog 41 #[.int .i32 v, .bool hex] w fun e w' => e = .returned (.string (strOf (textL v hex))) ∧ Below w.heap.size w w' := by
  cases hex
  · exact Text_dec v hv w ht
  · exact Text_hex v w
/-- How the number and the base that word.value returns lead to what is read. -/
theorem readC_value (l : List UInt8) : readC l = if (valueRes l).2.2 = true then keepT l (redW (valueRes l).1) (valueRes l).2.1 else (0, 5) := by
  by_cases h35 : l.head? = some 35
  · obtain ⟨ds, rfl⟩ : ∃ ds, l = 35 :: ds := List.head?_eq_some_iff.1 h35
    simp only [readC, guessC, valueRes, natRes]
    cases natL 16 ds 0 <;> simp
  · by_cases h45 : l.head? = some 45
    · obtain ⟨ds, rfl⟩ : ∃ ds, l = 45 :: ds := List.head?_eq_some_iff.1 h45
      simp only [readC, guessC, valueRes, natRes]
      cases natL 10 ds 0 <;> simp
    · have hg : guessC l = (natL 10 l 0).map fun (n : Nat) => ((n : Int), false) := by
        unfold guessC
        split
        · exact absurd rfl h35
        · exact absurd rfl h45
        · rfl
      rw [valueRes_other l h35 h45]
      unfold readC natRes
      rw [hg]
      cases natL 10 l 0 <;> simp
set_option maxHeartbeats 400000 in
theorem Read_any (s : ByteArray) (w : World) (ht : Tab w) :
    Calls Tryz.prog 69 #[.string s] w fun e w' => e = .returned (.tuple #[.int .i32 (readC s.data.toList).1, .int .i64 (readC s.data.toList).2]) ∧ Below w.heap.size w w' := by
  have C := Lib.hid (value_any s)
  have hr := readC_value s.data.toList
  have hb := keep_end s.data.toList s rfl (valueRes s.data.toList).1 (valueRes s.data.toList).2.1
  generalize (valueRes s.data.toList).1 = n at *
  generalize (valueRes s.data.toList).2.1 = hex at *
  generalize (valueRes s.data.toList).2.2 = ok at *
  cases ok
  · rw [if_neg (by decide)] at hr
    have HR := Lib.hid hr
    clear hr hb
    go_enter Tryz.func69, Tryz.ntmps69
    go_wp2_with (first | (go_at_call 80; refine (C.out _).mono ?_; rintro e w1 ⟨rfl, hb1⟩) | (go_at_call 81; refine (red64_any _ _).mono ?_; rintro e w' ⟨rfl, rfl⟩))
    go_ret2
    exact ⟨ret_ii (by rw [HR.out]) (by rw [HR.out]), hb1⟩
  · rw [if_pos rfl] at hr
    have HR := Lib.hid hr
    have hW := isW_wrap32 n
    clear hr
    rcases hb with ⟨he, hk⟩ | ⟨he, hk⟩
    all_goals
      have HK := Lib.hid hk
      clear hk
      go_enter Tryz.func69, Tryz.ntmps69
      go_wp2_with fail
      refine (C.out _).mono ?_
      rintro e w1 ⟨rfl, hb1⟩
      have ht1 := ht.below hb1
      go_wp2_with fail
      refine (red64_any _ _).mono ?_
      rintro e w' ⟨rfl, rfl⟩
      go_wp2_with fail
      refine (Text_any _ _ hW _ ht1).mono ?_
      rintro e w2 ⟨rfl, hb2⟩
      go_wp2
      go_ret2
      exact ⟨ret_ii (by rw [HR.out, HK.out]) (by rw [HR.out, HK.out]), hb1.trans (hb2.mono hb1.size)⟩
end Go.Proofs.YtbkbhlbfkfnljaaGreatDoor.W1
/- The program's numbers and characters. -/
set_option linter.unusedVariables false
set_option linter.unusedSimpArgs false
namespace Go.Proofs.YtbkbhlbfkfnljaaGreatDoor
open Go Go.RowKit L8

/-! ### What is called -/
theorem wRead (l : Bs) (w : World) (ht : W1.Tab w) : Calls Tryz.prog 69 #[.string (strOf l)] w fun e w' => e = .returned (.tuple #[.int .i32 (readC l).1, .int .i64 (readC l).2]) ∧ Below w.heap.size w w' :=
  (W1.Read_any (strOf l) w ht).mono fun e w' h => by rw [data_strOf] at h; exact h
theorem wText (v : Int) (hex : Bool) (h0 : -2147483648 ≤ v) (h1 : v ≤ 2147483647) (w : World) (ht : W1.Tab w) : Calls Tryz.prog 41 #[.int .i32 v, .bool hex] w fun e w' => e = .returned (.string (strOf (textL v hex))) ∧ Below w.heap.size w w' :=
  W1.Text_any v hex ⟨h0, h1⟩ w ht
theorem cTrim0 (l : Bs) (w : World) : Calls Tryz.prog 68 #[.string (strOf l), .string ⟨#[48]⟩] w fun e w' => e = .returned (.string (strOf (cut0 l))) ∧ w = w' :=
  (Tryz.strings_TrimLeft_one (strOf l) 48 (by decide) w).mono fun e w' h => by
    rw [h.1, data_strOf, cut0_drop]
    exact ⟨rfl, h.2.symm⟩
theorem repeat_one (b : UInt8) : ∀ n, Lib.repeatL [b] n = List.replicate n b := by
  intro n
  induction n with
  | zero => rfl
  | succ n ih => rw [List.replicate_succ, ← ih]; rfl
theorem cRepeat1 (b : UInt8) (n : Nat) (hn : n ≤ 100000) (w : World) : Calls Tryz.prog 70 #[.string ⟨#[b]⟩, .int .i64 (n : Int)] w fun e w' => e = .returned (.string (strOf (List.replicate n b))) ∧ Below w.heap.size w w' :=
  (Tryz.strings_Repeat (strOf [b]) n w (by omega) (by rw [size_strOf]; simp; omega)).mono fun e w' h => by
    rw [data_strOf, repeat_one] at h
    exact h
theorem cIndexByte (l : Bs) (c : UInt8) (w : World) : Calls Tryz.prog 56 #[.string (strOf l), .int .u8 (c.toNat : Int)] w fun e w' => e = .returned (.int .i64 (Lib.indexByte l c)) ∧ w = w' :=
  (Tryz.strings_IndexByte (strOf l) (c.toNat : Int) w).mono fun e w' h => by
    have e1 : ((c.toNat : Int)).toNat.toUInt8 = c := by simp
    rw [h.1, data_strOf, e1]
    exact ⟨rfl, h.2.symm⟩
theorem cHasPrefix (l p : Bs) (w : World) : Calls Tryz.prog 63 #[.string (strOf l), .string (strOf p)] w fun e w' => e = .returned (.bool (Lib.hasPrefix l p)) ∧ w = w' :=
  (Tryz.strings_HasPrefix (strOf l) (strOf p) w).mono fun e w' h => by
    rw [data_strOf, data_strOf] at h
    exact ⟨h.1, h.2.symm⟩
theorem pre_one (l : Bs) (b : UInt8) : Lib.hasPrefix l [b] = decide (l.head? = some b) := by
  unfold Lib.hasPrefix
  cases l with
  | nil => rfl
  | cons c r =>
    by_cases h : b = c
    · subst h; simp [List.isPrefixOf]
    · simp [List.isPrefixOf, h, Ne.symm h]
theorem pre_two (l : Bs) (a b : UInt8) : Lib.hasPrefix l [a, b] = decide (l.take 2 = [a, b]) := by
  unfold Lib.hasPrefix
  match l with
  | [] => rfl
  | [c] => simp [List.isPrefixOf]
  | c :: d :: r =>
    by_cases h : a = c
    · by_cases h2 : b = d
      · subst h h2; simp [List.isPrefixOf]
      · simp [List.isPrefixOf, h, h2, Ne.symm h2]
    · simp [List.isPrefixOf, h, Ne.symm h]
/-! ### Numbers -/
def decO (l : Bs) : Option Int := (value 10 10 2147483648 l).map fun (v : Nat) => (v : Int)
def hexO (l : Bs) : Option Int := (value 16 8 4294967296 l).map fun (v : Nat) => redW (v : Int)
theorem dec_key {l : Bs} (h0 : l ≠ []) (h10 : l.length ≤ 10) (hw : l.all wordB = true) : (decO l).getD 0 = (readC (canon l)).1 ∧ (decO l).isSome = ((readC (canon l)).2 == 0) := by
  rw [dec_read h0 h10 hw]
  unfold decO
  cases value 10 10 2147483648 l <;> exact ⟨rfl, rfl⟩
theorem opt_key (o : Option Nat) (f : Nat → Int) : (o.map f).getD 0 = (match o with | some v => (f v, (0 : Int)) | none => (0, 5)).1 ∧ (o.map f).isSome = ((match o with | some v => (f v, (0 : Int)) | none => (0, 5)).2 == 0) := by
  cases o with
  | none => exact ⟨rfl, rfl⟩
  | some v => exact ⟨rfl, rfl⟩
theorem hex_key' {l : Bs} (R : Int × Int) (hR : R = match value 16 8 4294967296 l with | some v => (redW (v : Int), 0) | none => (0, 5)) : (hexO l).getD 0 = R.1 ∧ (hexO l).isSome = (R.2 == 0) := by
  rw [hR]
  exact opt_key (value 16 8 4294967296 l) (fun v => redW (v : Int))
theorem hex_key {l : Bs} (h1 : 1 ≤ l.length) (h8 : l.length ≤ 8) : (hexO l).getD 0 = (readC (35 :: (List.replicate (8 - l.length) 48 ++ l))).1 ∧ (hexO l).isSome = ((readC (35 :: (List.replicate (8 - l.length) 48 ++ l))).2 == 0) :=
  hex_key' _ (hex_pad h1 h8)
theorem ret_nb {k : IntKind} {a b : Int} {p q : Bool} (h : a = b) (h' : p = q) : Ending.returned (.tuple #[.int k a, .bool p]) = .returned (.tuple #[.int k b, .bool q]) := by rw [h, h']
set_option maxRecDepth 100000 in
set_option maxHeartbeats 4000000 in
theorem decimal_any (l : Bs) (h0 : l ≠ []) (hw : l.all wordB = true) (hl : l.length ≤ maxLen) (w : World) (ht : W1.Tab w) : Calls Tryz.prog 60 #[.string (strOf l)] w fun e w' => e = .returned (.tuple #[.int .i32 ((decO l).getD 0), .bool (decO l).isSome]) ∧ Below w.heap.size w w' := by
  have hsz := size_strOf l
  obtain ⟨n, hn⟩ : ∃ n, l.length = n := ⟨_, rfl⟩
  rw [hn] at hsz hl
  unfold maxLen at hl
  have hn0 : (0 : Int) ≤ (n : Int) := by omega
  by_cases h10 : (10 : Int) < (n : Int)
  · have e : decO l = none := by unfold decO; rw [value_far (by omega)]; rfl
    rw [e]
    clear hn e h0 hw
    generalize strOf l = S at *
    go_enter Tryz.func60, Tryz.ntmps60
    go_wp2
    go_ret2
    exact ⟨rfl, b0 _⟩
  · obtain ⟨k1, k2⟩ := dec_key h0 (by omega) hw
    rw [k1, k2]
    clear k1 k2 h0 hw hn
    have CT := Lib.hid (fun (W : World) => cTrim0 l W)
    have CR := Lib.hid (wRead (canon l) w ht)
    have he := eq_nil (cut0 l)
    generalize (readC (canon l)).1 = a at *
    generalize (readC (canon l)).2 = b at *
    by_cases hc : cut0 l = []
    · have e : canon l = [48] := by unfold canon; rw [if_pos hc]
      rw [e] at CR
      rw [show (cut0 l).isEmpty = true by rw [hc]; rfl] at he
      have CR2 : Hid (Calls Tryz.prog 69 #[.string ⟨#[48]⟩] w fun e w' => e = .returned (.tuple #[.int .i32 a, .int .i64 b]) ∧ Below w.heap.size w w') := Lib.hid CR.out
      clear e hc CR
      generalize strOf (cut0 l) = T at *
      generalize strOf l = S at *
      go_enter Tryz.func60, Tryz.ntmps60
      go_wp2_with (first
        | (go_at_call 68; (with_reducible refine (CT.out _).mono ?_); rintro e w1 ⟨rfl, rfl⟩)
        | (go_at_call 69; (with_reducible refine (CR2.out).mono ?_); rintro e w1 ⟨rfl, b1⟩; have B1 := Lib.hid b1; clear b1))
      go_ret2
      exact ⟨rfl, B1.out⟩
    · have e : canon l = cut0 l := by unfold canon; rw [if_neg hc]
      rw [e] at CR
      rw [show (cut0 l).isEmpty = false by cases h : cut0 l with | nil => exact absurd h hc | cons c r => rfl] at he
      clear e hc
      generalize strOf (cut0 l) = T at *
      generalize strOf l = S at *
      go_enter Tryz.func60, Tryz.ntmps60
      go_wp2_with (first
        | (go_at_call 68; (with_reducible refine (CT.out _).mono ?_); rintro e w1 ⟨rfl, rfl⟩)
        | (go_at_call 69; (with_reducible refine (CR.out).mono ?_); rintro e w1 ⟨rfl, b1⟩; have B1 := Lib.hid b1; clear b1))
      go_ret2
      exact ⟨rfl, B1.out⟩
set_option maxRecDepth 100000 in
set_option maxHeartbeats 4000000 in
theorem hexadecimal_any (l : Bs) (hl : l.length ≤ maxLen) (w : World) (ht : W1.Tab w) : Calls Tryz.prog 61 #[.string (strOf l)] w fun e w' => e = .returned (.tuple #[.int .i32 ((hexO l).getD 0), .bool (hexO l).isSome]) ∧ Below w.heap.size w w' := by
  have hsz := size_strOf l
  have he := eq_nil l
  by_cases h0 : l = []
  · have e : hexO l = none := by unfold hexO; rw [h0, value_none]; rfl
    rw [e]
    rw [show l.isEmpty = true by rw [h0]; rfl] at he
    clear e h0 hsz
    generalize strOf l = S at *
    go_enter Tryz.func61, Tryz.ntmps61
    go_wp2
    go_ret2
    exact ⟨rfl, b0 _⟩
  · have hpos := List.length_pos_iff.2 h0
    rw [show l.isEmpty = false by cases l with | nil => exact absurd rfl h0 | cons c r => rfl] at he
    obtain ⟨n, hn⟩ : ∃ n, l.length = n := ⟨_, rfl⟩
    rw [hn] at hsz hl hpos
    unfold maxLen at hl
    have hn0 : (0 : Int) ≤ (n : Int) := by omega
    by_cases h8 : (8 : Int) < (n : Int)
    · have e : hexO l = none := by unfold hexO; rw [value_far (by omega)]; rfl
      rw [e]
      have q8 : decide ((8 : Int) < (n : Int)) = true := decide_eq_true h8
      clear hn e h0
      generalize strOf l = S at *
      go_enter Tryz.func61, Tryz.ntmps61
      go_wp2
      go_ret2
      exact ⟨rfl, b0 _⟩
    · have q8 : decide ((8 : Int) < (n : Int)) = false := decide_eq_false h8
      obtain ⟨k1, k2⟩ := hex_key (l := l) (by omega) (by omega)
      rw [k1, k2, hn]
      have CR := Lib.hid (fun (W : World) (h : W1.Tab W) => wRead (35 :: (List.replicate (8 - n) 48 ++ l)) W h)
      have CP := Lib.hid (cRepeat1 48 (8 - n) (by omega) w)
      have e8 : ((8 - n : Nat) : Int) = 8 - (n : Int) := by omega
      rw [e8] at CP
      have t1 : Op.stringOp .add ⟨#[35]⟩ (strOf (List.replicate (8 - n) 48)) = pure (.string (strOf (35 :: List.replicate (8 - n) 48))) := cat_str [35] (List.replicate (8 - n) 48) (by rw [List.length_replicate]; simp; omega)
      have t2 : Op.stringOp .add (strOf (35 :: List.replicate (8 - n) 48)) (strOf l) = pure (.string (strOf (35 :: (List.replicate (8 - n) 48 ++ l)))) := cat_str (35 :: List.replicate (8 - n) 48) l (by rw [List.length_cons, List.length_replicate]; omega)
      have HT := Lib.hid ht
      clear k1 k2 hn e8 h0 hpos ht
      generalize (readC (35 :: (List.replicate (8 - n) 48 ++ l))).1 = a at *
      generalize (readC (35 :: (List.replicate (8 - n) 48 ++ l))).2 = b at *
      generalize strOf (35 :: (List.replicate (8 - n) 48 ++ l)) = X1 at *
      generalize strOf (35 :: List.replicate (8 - n) 48) = X2 at *
      generalize strOf (List.replicate (8 - n) 48) = X3 at *
      generalize strOf l = S at *
      go_enter Tryz.func61, Tryz.ntmps61
      go_wp2_with (first
        | (go_at_call 70; (with_reducible refine (CP.out).mono ?_); rintro e w1 ⟨rfl, b1⟩; have B1 := Lib.hid b1; clear b1)
        | (go_at_call 69; (with_reducible refine (CR.out _ (HT.out.below B1.out)).mono ?_); rintro e w2 ⟨rfl, b2⟩; have B2 := Lib.hid (blw B1.out b2); clear b2))
      go_ret2
      exact ⟨rfl, B2.out⟩
/-! ### Characters -/
def escs : Bs := [99, 110, 116, 39, 42, 115, 34]
def escd : Bs := [13, 10, 9, 39, 42, 32, 34]
def escOK (c : UInt8) : Bool := (decide (Lib.indexByte escs c = -1) && decide (short c = none)) || (decide (0 ≤ Lib.indexByte escs c) && decide (Lib.indexByte escs c < 7) && decide (short c = some (escd.getD (Lib.indexByte escs c).toNat 0).toNat))
theorem esc_all : ∀ n : Fin 256, escOK (UInt8.ofNat n.val) = true := by decide +kernel
theorem esc_idx (c : UInt8) : (Lib.indexByte escs c = -1 ∧ short c = none) ∨ ∃ i : Nat, i < 7 ∧ Lib.indexByte escs c = (i : Int) ∧ short c = some (escd.getD i 0).toNat := by
  have h := esc_all ⟨c.toNat, c.toNat_lt⟩
  rw [show UInt8.ofNat (⟨c.toNat, c.toNat_lt⟩ : Fin 256).val = c by simp] at h
  unfold escOK at h
  simp only [Bool.or_eq_true, Bool.and_eq_true, decide_eq_true_eq] at h
  rcases h with h | ⟨⟨h1, h2⟩, h3⟩
  · exact .inl h
  · exact .inr ⟨(Lib.indexByte escs c).toNat, by omega, by omega, h3⟩
theorem escd_lt (i : Nat) : (escd.getD i 0).toNat < 256 := (escd.getD i 0).toNat_lt
theorem hexO_two {x y : UInt8} {v : Nat} (h : value 16 8 4294967296 [x, y] = some v) : hexO [x, y] = some (v : Int) ∧ v < 256 := by
  have h2 : v < 256 := by
    have h3 := value_two x y
    rw [h] at h3
    exact value_lt h3
  refine ⟨?_, h2⟩
  unfold hexO
  rw [h]
  show some (redW (v : Int)) = some (v : Int)
  rw [redW_in (v : Int) (by omega) (by omega)]
theorem mid_form {s : Bs} (h : 4 ≤ s.length) : ∃ x y, (s.take 4).drop 2 = [x, y] := by
  match s, h with
  | a :: b :: c :: d :: r, _ => exact ⟨c, d, rfl⟩
/-- The first part of an escape: two hexadecimal digits. -/
def escH (s : Bs) : Option Nat := if 4 ≤ s.length ∧ s.take 2 = [42, 35] then value 16 8 4294967296 ((s.take 4).drop 2) else none
def escS (s : Bs) : Nat × Nat := if 2 ≤ s.length then (match short (s.getD 1 0) with | some v => (v, 2) | none => (0, 0)) else (0, 0)
theorem escP_h {s : Bs} {v : Nat} (h : escH s = some v) : escP s = (v, 4) := by unfold escH at h; unfold escP; rw [h]
theorem escP_s {s : Bs} (h : escH s = none) : escP s = escS s := by unfold escH at h; unfold escP escS; rw [h]; rfl
end Go.Proofs.YtbkbhlbfkfnljaaGreatDoor
/- The program's escapes and characters. -/
set_option linter.unusedVariables false
set_option linter.unusedSimpArgs false
namespace Go.Proofs.YtbkbhlbfkfnljaaGreatDoor
open Go Go.RowKit L8

theorem escS_ways (s : Bs) : (s.length < 2 ∧ escS s = (0, 0)) ∨ (2 ≤ s.length ∧ Lib.indexByte escs (s.getD 1 0) = -1 ∧ escS s = (0, 0)) ∨ ∃ i : Nat, i < 7 ∧ 2 ≤ s.length ∧ Lib.indexByte escs (s.getD 1 0) = (i : Int) ∧ escS s = ((escd.getD i 0).toNat, 2) := by
  unfold escS
  by_cases h : 2 ≤ s.length
  · rw [if_pos h]
    rcases esc_idx (s.getD 1 0) with ⟨h1, h2⟩ | ⟨i, h0, h1, h2⟩
    · rw [h2]; exact .inr (.inl ⟨h, h1, rfl⟩)
    · rw [h2]; exact .inr (.inr ⟨i, h0, h, h1, rfl⟩)
  · rw [if_neg h]; exact .inl ⟨by omega, rfl⟩
theorem escH_ways (s : Bs) : (¬ s.take 2 = [42, 35] ∧ escH s = none) ∨ (s.take 2 = [42, 35] ∧ s.length < 4 ∧ escH s = none) ∨ ∃ x y, s.take 2 = [42, 35] ∧ 4 ≤ s.length ∧ (s.take 4).drop 2 = [x, y] ∧ ((∃ v : Nat, v < 256 ∧ escH s = some v ∧ hexO [x, y] = some (v : Int)) ∨ (escH s = none ∧ hexO [x, y] = none)) := by
  unfold escH
  by_cases h : s.take 2 = [42, 35]
  · by_cases h4 : 4 ≤ s.length
    · obtain ⟨x, y, e⟩ := mid_form h4
      rw [if_pos ⟨h4, h⟩, e]
      refine .inr (.inr ⟨x, y, h, h4, rfl, ?_⟩)
      cases hv : value 16 8 4294967296 [x, y] with
      | none => exact .inr ⟨rfl, by unfold hexO; rw [hv]; rfl⟩
      | some v =>
        obtain ⟨h1, h2⟩ := hexO_two hv
        exact .inl ⟨v, h2, rfl, h1⟩
    · rw [if_neg (fun k => h4 k.1)]
      exact .inr (.inl ⟨h, by omega, rfl⟩)
  · rw [if_neg (fun k => h k.2)]
    exact .inl ⟨h, rfl⟩
theorem opt_some (v : Int) : (some v).getD 0 = v ∧ (some v).isSome = true := ⟨rfl, rfl⟩
theorem opt_none : (none : Option Int).getD 0 = 0 ∧ (none : Option Int).isSome = false := ⟨rfl, rfl⟩
set_option maxRecDepth 100000 in
set_option maxHeartbeats 8000000 in
theorem escape_any (s : Bs) (hl : s.length ≤ maxLen) (w : World) (ht : W1.Tab w) : Calls Tryz.prog 71 #[.string (strOf s)] w fun e w' => e = .returned (.tuple #[.int .i32 ((escP s).1 : Int), .int .i64 ((escP s).2 : Int)]) ∧ Below w.heap.size w w' := by
  have hsz := size_strOf s
  have CX : Hid (∀ W : World, Calls Tryz.prog 63 #[.string (strOf s), .string ⟨#[42, 35]⟩] W fun e w' => e = .returned (.bool (decide (s.take 2 = [42, 35]))) ∧ W = w') := Lib.hid fun W => (cHasPrefix s [42, 35] W).mono fun e w' h => ⟨by rw [← pre_two]; exact h.1, h.2⟩
  have CI : Hid (∀ W : World, Calls Tryz.prog 56 #[.string ⟨#[99, 110, 116, 39, 42, 115, 34]⟩, .int .u8 ((s.getD 1 0).toNat : Int)] W fun e w' => e = .returned (.int .i64 (Lib.indexByte escs (s.getD 1 0))) ∧ W = w') := Lib.hid fun W => cIndexByte escs (s.getD 1 0) W
  have hT := escS_ways s
  have hH := escH_ways s
  have h1x := Lib.hid (fun (v : Nat) => escP_h (s := s) (v := v))
  have h2x := Lib.hid (@escP_s s)
  have HI := Lib.hid (fun (h : 1 < s.length) => index_l s 1 h)
  have HC := Lib.hid (fun (h : 4 ≤ s.length) => cut_mid s 2 4 (by omega) h)
  obtain ⟨n, hn⟩ : ∃ n, s.length = n := ⟨_, rfl⟩
  rw [hn] at hsz hl hT hH HI HC
  unfold maxLen at hl
  have hn0 : (0 : Int) ≤ (n : Int) := by omega
  rcases hH with ⟨hp, he⟩ | ⟨hp, h4, he⟩ | ⟨x, y, hp, h4, hm, ⟨v, hv, he, hx⟩ | ⟨he, hx⟩⟩
  · rw [h2x.out he]
    rw [decide_eq_false hp] at CX
    clear h1x h2x he hp hn HC ht
    generalize Lib.indexByte escs (s.getD 1 0) = I at *
    rcases hT with ⟨h2, hE⟩ | ⟨h2, rfl, hE⟩ | ⟨i, hi, h2, rfl, hE⟩
    · rw [hE]
      have q2 : ¬ (2 : Int) ≤ (n : Int) := by omega
      clear hE h2 HI CI
      generalize strOf s = S at *
      go_enter Tryz.func71, Tryz.ntmps71
      go_wp2_with (go_at_call 63; (with_reducible refine (CX.out _).mono ?_); rintro e w1 ⟨rfl, rfl⟩)
      go_ret2
      exact ⟨rfl, b0 _⟩
    · rw [hE]
      have q2 : (2 : Int) ≤ (n : Int) := by omega
      have hi1 : ∀ W : World, (Instr.index 9 (.string (strOf s)) (.int .i64 1)).run Tryz.prog W = .ok (.int .u8 ((s.getD 1 0).toNat : Int)) W := HI.out (by omega)
      clear hE h2 HI
      generalize (s.getD 1 0).toNat = M at *
      generalize strOf s = S at *
      go_enter Tryz.func71, Tryz.ntmps71
      go_wp2_with (first
        | (go_at_call 63; (with_reducible refine (CX.out _).mono ?_); rintro e w1 ⟨rfl, rfl⟩)
        | (go_at_call 56; (with_reducible refine (CI.out _).mono ?_); rintro e w1 ⟨rfl, rfl⟩))
      go_ret2
      exact ⟨rfl, b0 _⟩
    · rw [hE]
      have q2 : (2 : Int) ≤ (n : Int) := by omega
      have hi1 : ∀ W : World, (Instr.index 9 (.string (strOf s)) (.int .i64 1)).run Tryz.prog W = .ok (.int .u8 ((s.getD 1 0).toNat : Int)) W := HI.out (by omega)
      have hi2 : ∀ W : World, (Instr.index 9 (.string ⟨#[13, 10, 9, 39, 42, 32, 34]⟩) (.int .i64 (i : Int))).run Tryz.prog W = .ok (.int .u8 ((escd.getD i 0).toNat : Int)) W := fun W => index_l escd i hi W
      have hlt := escd_lt i
      have hi0 : (0 : Int) ≤ (i : Int) := by omega
      clear hE h2 HI
      generalize (escd.getD i 0).toNat = V at *
      have hv0 : (0 : Int) ≤ (V : Int) := by omega
      have hv1 : (V : Int) < 256 := by omega
      generalize (s.getD 1 0).toNat = M at *
      generalize strOf s = S at *
      go_enter Tryz.func71, Tryz.ntmps71
      go_wp2_with (first
        | (go_at_call 63; (with_reducible refine (CX.out _).mono ?_); rintro e w1 ⟨rfl, rfl⟩)
        | (go_at_call 56; (with_reducible refine (CI.out _).mono ?_); rintro e w1 ⟨rfl, rfl⟩))
      go_ret2
      exact ⟨rfl, b0 _⟩
  · rw [h2x.out he]
    rw [decide_eq_true hp] at CX
    have q4 : decide ((4 : Int) ≤ (n : Int)) = false := decide_eq_false (by omega)
    clear h1x h2x he hp hn HC ht
    generalize Lib.indexByte escs (s.getD 1 0) = I at *
    rcases hT with ⟨h2, hE⟩ | ⟨h2, rfl, hE⟩ | ⟨i, hi, h2, rfl, hE⟩
    · rw [hE]
      have q2 : ¬ (2 : Int) ≤ (n : Int) := by omega
      clear hE h2 HI CI h4
      generalize strOf s = S at *
      go_enter Tryz.func71, Tryz.ntmps71
      go_wp2_with (go_at_call 63; (with_reducible refine (CX.out _).mono ?_); rintro e w1 ⟨rfl, rfl⟩)
      go_ret2
      exact ⟨rfl, b0 _⟩
    · rw [hE]
      have q2 : (2 : Int) ≤ (n : Int) := by omega
      have hi1 : ∀ W : World, (Instr.index 9 (.string (strOf s)) (.int .i64 1)).run Tryz.prog W = .ok (.int .u8 ((s.getD 1 0).toNat : Int)) W := HI.out (by omega)
      clear hE h2 HI h4
      generalize (s.getD 1 0).toNat = M at *
      generalize strOf s = S at *
      go_enter Tryz.func71, Tryz.ntmps71
      go_wp2_with (first
        | (go_at_call 63; (with_reducible refine (CX.out _).mono ?_); rintro e w1 ⟨rfl, rfl⟩)
        | (go_at_call 56; (with_reducible refine (CI.out _).mono ?_); rintro e w1 ⟨rfl, rfl⟩))
      go_ret2
      exact ⟨rfl, b0 _⟩
    · rw [hE]
      have q2 : (2 : Int) ≤ (n : Int) := by omega
      have hi1 : ∀ W : World, (Instr.index 9 (.string (strOf s)) (.int .i64 1)).run Tryz.prog W = .ok (.int .u8 ((s.getD 1 0).toNat : Int)) W := HI.out (by omega)
      have hi2 : ∀ W : World, (Instr.index 9 (.string ⟨#[13, 10, 9, 39, 42, 32, 34]⟩) (.int .i64 (i : Int))).run Tryz.prog W = .ok (.int .u8 ((escd.getD i 0).toNat : Int)) W := fun W => index_l escd i hi W
      have hlt := escd_lt i
      have hi0 : (0 : Int) ≤ (i : Int) := by omega
      clear hE h2 HI h4
      generalize (escd.getD i 0).toNat = V at *
      have hv0 : (0 : Int) ≤ (V : Int) := by omega
      have hv1 : (V : Int) < 256 := by omega
      generalize (s.getD 1 0).toNat = M at *
      generalize strOf s = S at *
      go_enter Tryz.func71, Tryz.ntmps71
      go_wp2_with (first
        | (go_at_call 63; (with_reducible refine (CX.out _).mono ?_); rintro e w1 ⟨rfl, rfl⟩)
        | (go_at_call 56; (with_reducible refine (CI.out _).mono ?_); rintro e w1 ⟨rfl, rfl⟩))
      go_ret2
      exact ⟨rfl, b0 _⟩
  · rw [h1x.out v he]
    rw [decide_eq_true hp] at CX
    have q4 : decide ((4 : Int) ≤ (n : Int)) = true := decide_eq_true (by omega)
    have hcut : ∀ W : World, (Instr.slice 9 (.string (strOf s)) (some (.int .i64 2)) (some (.int .i64 4)) none).run Tryz.prog W = .ok (.string (strOf ((s.take 4).drop 2))) W := HC.out (by omega)
    have CH := Lib.hid (hexadecimal_any [x, y] (by unfold maxLen; simp) w ht)
    rw [hx, (opt_some _).1, (opt_some _).2] at CH
    rw [hm] at hcut
    clear h1x h2x he hp hn HC ht hT hm HI CI hx
    have hv0 : (0 : Int) ≤ (v : Int) := by omega
    generalize strOf [x, y] = X at *
    generalize strOf s = S at *
    go_enter Tryz.func71, Tryz.ntmps71
    go_wp2_with (first
      | (go_at_call 63; (with_reducible refine (CX.out _).mono ?_); rintro e w1 ⟨rfl, rfl⟩)
      | (go_at_call 61; (with_reducible refine (CH.out).mono ?_); rintro e w1 ⟨rfl, b1⟩; have B1 := Lib.hid b1; clear b1))
    go_ret2
    exact ⟨rfl, B1.out⟩
  · rw [h2x.out he]
    rw [decide_eq_true hp] at CX
    have q4 : decide ((4 : Int) ≤ (n : Int)) = true := decide_eq_true (by omega)
    have q2 : (2 : Int) ≤ (n : Int) := by omega
    have hcut : ∀ W : World, (Instr.slice 9 (.string (strOf s)) (some (.int .i64 2)) (some (.int .i64 4)) none).run Tryz.prog W = .ok (.string (strOf ((s.take 4).drop 2))) W := HC.out (by omega)
    have CH := Lib.hid (hexadecimal_any [x, y] (by unfold maxLen; simp) w ht)
    rw [hx, opt_none.1, opt_none.2] at CH
    rw [hm] at hcut
    have hi1 : ∀ W : World, (Instr.index 9 (.string (strOf s)) (.int .i64 1)).run Tryz.prog W = .ok (.int .u8 ((s.getD 1 0).toNat : Int)) W := HI.out (by omega)
    clear h1x h2x he hp hn HC ht hm hx HI
    generalize Lib.indexByte escs (s.getD 1 0) = I at *
    generalize strOf [x, y] = X at *
    rcases hT with ⟨h2, hE⟩ | ⟨h2, rfl, hE⟩ | ⟨i, hi, h2, rfl, hE⟩
    · exfalso; omega
    · rw [hE]
      clear hE h2 h4
      generalize (s.getD 1 0).toNat = M at *
      generalize strOf s = S at *
      go_enter Tryz.func71, Tryz.ntmps71
      go_wp2_with (first
        | (go_at_call 63; (with_reducible refine (CX.out _).mono ?_); rintro e w1 ⟨rfl, rfl⟩)
        | (go_at_call 61; (with_reducible refine (CH.out).mono ?_); rintro e w1 ⟨rfl, b1⟩; have B1 := Lib.hid b1; clear b1)
        | (go_at_call 56; (with_reducible refine (CI.out _).mono ?_); rintro e w1 ⟨rfl, rfl⟩))
      go_ret2
      exact ⟨rfl, B1.out⟩
    · rw [hE]
      have hi2 : ∀ W : World, (Instr.index 9 (.string ⟨#[13, 10, 9, 39, 42, 32, 34]⟩) (.int .i64 (i : Int))).run Tryz.prog W = .ok (.int .u8 ((escd.getD i 0).toNat : Int)) W := fun W => index_l escd i hi W
      have hlt := escd_lt i
      have hi0 : (0 : Int) ≤ (i : Int) := by omega
      clear hE h2 h4
      generalize (escd.getD i 0).toNat = V at *
      have hv0 : (0 : Int) ≤ (V : Int) := by omega
      have hv1 : (V : Int) < 256 := by omega
      generalize (s.getD 1 0).toNat = M at *
      generalize strOf s = S at *
      go_enter Tryz.func71, Tryz.ntmps71
      go_wp2_with (first
        | (go_at_call 63; (with_reducible refine (CX.out _).mono ?_); rintro e w1 ⟨rfl, rfl⟩)
        | (go_at_call 61; (with_reducible refine (CH.out).mono ?_); rintro e w1 ⟨rfl, b1⟩; have B1 := Lib.hid b1; clear b1)
        | (go_at_call 56; (with_reducible refine (CI.out _).mono ?_); rintro e w1 ⟨rfl, rfl⟩))
      go_ret2
      exact ⟨rfl, B1.out⟩
/-! ### Characters -/
theorem charP_no {c : UInt8} {r : Bs} (h : printB c = false ∨ c = 39) : charP (c :: r) = (0, 0) := by
  unfold charP
  dsimp only
  rw [if_pos]
  rcases h with h | h
  · left
    rintro ⟨h1, h2⟩
    unfold printB at h
    rw [decide_eq_true h1, decide_eq_true h2] at h
    cases h
  · exact .inr h
theorem printB_iff {c : UInt8} (h : printB c = true) : 32 ≤ c.toNat ∧ c.toNat ≤ 126 := by unfold printB at h; simpa using h
theorem charP_star {r : Bs} : charP (42 :: r) = escP (42 :: r) := by unfold charP; dsimp only; rw [if_neg (by decide), if_pos rfl]
theorem charP_self {c : UInt8} {r : Bs} (h : printB c = true) (h2 : c ≠ 39) (h3 : c ≠ 42) : charP (c :: r) = (c.toNat, 1) := by
  unfold charP; dsimp only
  rw [if_neg (fun k => k.elim (fun k => k (printB_iff h)) h2), if_neg h3]
set_option maxRecDepth 100000 in
set_option maxHeartbeats 8000000 in
theorem character_any (s : Bs) (hl : s.length ≤ maxLen) (w : World) (ht : W1.Tab w) : Calls Tryz.prog 62 #[.string (strOf s)] w fun e w' => e = .returned (.tuple #[.int .i32 ((charP s).1 : Int), .int .i64 ((charP s).2 : Int)]) ∧ Below w.heap.size w w' := by
  cases s with
  | nil =>
    have he : ((strOf []).toList == []) = true := eq_nil []
    rw [show charP [] = (0, 0) from rfl]
    generalize strOf [] = S at *
    go_enter Tryz.func62, Tryz.ntmps62
    go_wp2
    go_ret2
    exact ⟨rfl, b0 _⟩
  | cons c r =>
    have he := eq_nil (c :: r)
    rw [show (c :: r).isEmpty = false from rfl] at he
    have hi0 : ∀ W : World, (Instr.index 9 (.string (strOf (c :: r))) (.int .i64 0)).run Tryz.prog W = .ok (.int .u8 (c.toNat : Int)) W := index_l (c :: r) 0 (by simp)
    have CP := Lib.hid (fun (W : World) => isPrinting_any c W)
    have CX : Hid (∀ W : World, Calls Tryz.prog 63 #[.string (strOf (c :: r)), .string ⟨#[39]⟩] W fun e w' => e = .returned (.bool (decide (c = 39))) ∧ W = w') := Lib.hid fun W => (cHasPrefix (c :: r) [39] W).mono fun e w' h => ⟨by have := h.1; rw [pre_one] at this; rw [this]; simp, h.2⟩
    have CY : Hid (∀ W : World, Calls Tryz.prog 63 #[.string (strOf (c :: r)), .string ⟨#[42]⟩] W fun e w' => e = .returned (.bool (decide (c = 42))) ∧ W = w') := Lib.hid fun W => (cHasPrefix (c :: r) [42] W).mono fun e w' h => ⟨by have := h.1; rw [pre_one] at this; rw [this]; simp, h.2⟩
    have hsz := size_strOf (c :: r)
    have CE := Lib.hid (fun (W : World) (h : W1.Tab W) => escape_any (c :: r) hl W h)
    have hT := Lib.hid ht
    have hc0 : (0 : Int) ≤ (c.toNat : Int) := by omega
    have hc1 : (c.toNat : Int) < 256 := by have := c.toNat_lt; omega
    clear ht
    cases hp : printB c with
    | false =>
      rw [charP_no (.inl hp)]
      rw [hp] at CP
      clear hp CE CX CY hT
      generalize c.toNat = N at *
      generalize strOf (c :: r) = S at *
      go_enter Tryz.func62, Tryz.ntmps62
      go_wp2_with (go_at_call 57; (with_reducible refine (CP.out _).mono ?_); rintro e w1 ⟨rfl, rfl⟩)
      go_ret2
      exact ⟨rfl, b0 _⟩
    | true =>
      rw [hp] at CP
      by_cases h39 : c = 39
      · rw [charP_no (.inr h39)]
        rw [decide_eq_true h39] at CX
        clear hp CE CY h39 hT
        generalize c.toNat = N at *
        generalize strOf (c :: r) = S at *
        go_enter Tryz.func62, Tryz.ntmps62
        go_wp2_with (first
          | (go_at_call 57; (with_reducible refine (CP.out _).mono ?_); rintro e w1 ⟨rfl, rfl⟩)
          | (go_at_call 63; (with_reducible refine (CX.out _).mono ?_); rintro e w1 ⟨rfl, rfl⟩))
        go_ret2
        exact ⟨rfl, b0 _⟩
      · rw [decide_eq_false h39] at CX
        by_cases h42 : c = 42
        · rw [decide_eq_true h42] at CY
          have hE : charP (c :: r) = escP (c :: r) := by rw [h42, charP_star]
          rw [hE]
          clear hp h39 h42 hE
          generalize (escP (c :: r)).1 = a at *
          generalize (escP (c :: r)).2 = b at *
          generalize c.toNat = N at *
          generalize strOf (c :: r) = S at *
          go_enter Tryz.func62, Tryz.ntmps62
          go_wp2_with (first
            | (go_at_call 57; (with_reducible refine (CP.out _).mono ?_); rintro e w1 ⟨rfl, rfl⟩)
            | (go_at_call 63; (with_reducible refine (CX.out _).mono ?_); rintro e w1 ⟨rfl, rfl⟩)
            | (go_at_call 63; (with_reducible refine (CY.out _).mono ?_); rintro e w1 ⟨rfl, rfl⟩)
            | (go_at_call 71; (with_reducible refine (CE.out _ hT.out).mono ?_); rintro e w1 ⟨rfl, b1⟩; have B1 := Lib.hid b1; clear b1))
          go_ret2
          exact ⟨rfl, B1.out⟩
        · rw [decide_eq_false h42] at CY
          rw [charP_self hp h39 h42]
          clear hp h39 h42 CE hT
          generalize c.toNat = N at *
          generalize strOf (c :: r) = S at *
          go_enter Tryz.func62, Tryz.ntmps62
          go_wp2_with (first
            | (go_at_call 57; (with_reducible refine (CP.out _).mono ?_); rintro e w1 ⟨rfl, rfl⟩)
            | (go_at_call 63; (with_reducible refine (CX.out _).mono ?_); rintro e w1 ⟨rfl, rfl⟩)
            | (go_at_call 63; (with_reducible refine (CY.out _).mono ?_); rintro e w1 ⟨rfl, rfl⟩))
          go_ret2
          exact ⟨rfl, b0 _⟩
end Go.Proofs.YtbkbhlbfkfnljaaGreatDoor
/- The program's reader of a line: its box, and what passes over bytes of it. -/
set_option linter.unusedVariables false
set_option linter.unusedSimpArgs false
namespace Go.Proofs.YtbkbhlbfkfnljaaGreatDoor
open Go Go.RowKit L8

/-! ### Frames: one block may turn -/
theorem g_any {a b : World} (h : a.grownBy b none) (r : Option Nat) : a.grownBy b r := ⟨h.os, h.tape, h.output, h.size, fun k hk _ => h.block k hk (by simp)⟩
theorem g_set (w : World) (b j : Nat) (v : Value) : w.grownBy (w.setCell ⟨b, j, none⟩ v) (some b) :=
  ⟨rfl, rfl, rfl, by show _ ≤ (w.heap.modify b _).size; rw [Array.size_modify]; exact Nat.le_refl _, fun k hk hr => Below.heap_setCell w ⟨b, j, none⟩ v k (fun e => hr (by rw [show k = b from e]))⟩
theorem g_setN {w W : World} {r : Option Nat} (h : w.grownBy W r) {B j : Nat} (hB : w.heap.size ≤ B) (v : Value) : w.grownBy (W.setCell ⟨B, j, none⟩ v) r :=
  ⟨h.os, h.tape, h.output, by show _ ≤ (W.heap.modify B _).size; rw [Array.size_modify]; exact h.size, fun k hk hr => (Below.heap_setCell W ⟨B, j, none⟩ v k (fun e => by have e2 : k = B := e; omega)).trans (h.block k hk hr)⟩
theorem g_refl (w : World) (r : Option Nat) : w.grownBy w r := g_any (g_of_below (b0 w)) r
theorem below_g {n b : Nat} {w w' : World} (h : w.grownBy w' (some b)) (hb : n ≤ b) (hn : n ≤ w.heap.size) : Below n w w' :=
  ⟨h.os, h.tape, h.output, h.size, fun k hk => h.block k (by omega) (fun e => by injection e with e; omega)⟩
/-! ### The reader -/
def Rd (w : World) (b : Nat) (L : Bs) (p : Nat) : Prop := BoxS w b 75 #[.string (strOf L), .int .i64 (p : Int)]
theorem Rd.below {X Y : World} {b p : Nat} {L : Bs} (h : Rd X b L p) (k : Below X.heap.size X Y) : Rd Y b L p := BoxS.below h k
theorem Rd.cells {w : World} {b p : Nat} {L : Bs} (h : Rd w b L p) : w.cell? ⟨b, 0, none⟩ = some (.string (strOf L)) ∧ w.cell? ⟨b, 1, none⟩ = some (.int .i64 (p : Int)) ∧ w.frozen? ⟨b, 1, none⟩ = false ∧ b < w.heap.size :=
  ⟨(BoxS.cell h 0).trans rfl, (BoxS.cell h 1).trans rfl, BoxS.frozen h 1, BoxS.lt h⟩
theorem Rd.set {w : World} {b p : Nat} {L : Bs} (h : Rd w b L p) (q : Nat) : Rd (w.setCell ⟨b, 1, none⟩ (.int .i64 (q : Int))) b L q := by
  obtain ⟨hlt, hk⟩ := Array.getElem?_eq_some_iff.1 (show w.heap[b]? = _ from h)
  show (w.heap.modify b _)[b]? = _
  rw [Array.getElem?_eq_getElem (by rw [Array.size_modify]; exact hlt), Array.getElem_modify_self, hk]
  rfl
theorem Rd.tab {w w' : World} {b p : Nat} {L : Bs} (h : Rd w b L p) (ht : W1.Tab w) (g : w.grownBy w' (some b)) : W1.Tab w' := by
  unfold W1.Tab Lib.TabIs World.var? at *
  cases hg : Tryz.prog.globalNamed "internal/strconv.uint64pow10" with
  | none => simp [hg] at ht
  | some q =>
    simp only [hg, Option.bind_some] at ht ⊢
    have hlt : q < w.heap.size := by
      rcases Nat.lt_or_ge q w.heap.size with h' | h'
      · exact h'
      · rw [Array.getElem?_eq_none h'] at ht; simp at ht
    have hne : q ≠ b := by
      rintro rfl
      have h2 : w.heap[q]? = some (.cells #[.string (strOf L), .int .i64 (p : Int)] 75 (0, 0)) := h
      rw [h2] at ht
      simp only [Option.some.injEq] at ht
      have := congrArg (fun a => a.size) ht
      simp [Lib.pow10Tab] at this
    rw [g.block q hlt (fun e => hne (by injection e))]
    exact ht
def ReadR (w w' : World) (b : Nat) (L : Bs) (q : Nat) : Prop := Rd w' b L q ∧ w.grownBy w' (some b)
set_option maxRecDepth 100000 in
set_option maxHeartbeats 4000000 in
theorem take_any {b p m : Nat} {L : Bs} {w : World} (h : Rd w b L p) (hL : L.length ≤ 256) (hm : p + m ≤ L.length) : Calls Tryz.prog 58 #[.pointer (some ⟨b, 0, none⟩), .int .i64 (m : Int)] w fun e w' => e = .returned (.string (strOf ((L.drop p).take m))) ∧ ReadR w w' b L (p + m) := by
  obtain ⟨c0, c1, f1, hb⟩ := h.cells
  have hcut : ∀ W : World, (Instr.slice 9 (.string (strOf L)) (some (.int .i64 (p : Int))) (some (.int .i64 ((p : Int) + (m : Int)))) none).run Tryz.prog W = .ok (.string (strOf ((L.drop p).take m))) W := fun W => by
    have := cut_mid L p (p + m) (by omega) hm W
    rw [List.drop_take, show p + m - p = m by omega, show ((p + m : Nat) : Int) = (p : Int) + (m : Int) by omega] at this
    exact this
  have hp0 : (0 : Int) ≤ (p : Int) := by omega
  have hm0 : (0 : Int) ≤ (m : Int) := by omega
  have hp1 : (p : Int) ≤ 256 := by omega
  have hm1 : (m : Int) ≤ 256 := by omega
  have hs0 : (0 : Int) ≤ (p : Int) + (m : Int) := by omega
  have hs1 : IntKind.i64.wrap ((p : Int) + (m : Int)) = (p : Int) + (m : Int) := IntWalk.i64_in _ (by omega)
  have HR := Lib.hid (fun n => (h.below (bdrew (b0 w) n)).set (p + m))
  have HG := Lib.hid (fun n (v : Value) => g_trans (g_any (g_of_below (bdrew (b0 w) n)) (some b)) (g_set (w.drewN n) b 1 v))
  have e1 : ((p + m : Nat) : Int) = (p : Int) + (m : Int) := by omega
  rw [e1] at HR
  clear h hm hL e1 hb
  generalize strOf ((L.drop p).take m) = T at *
  unfold ReadR
  generalize strOf L = S at *
  go_enter Tryz.func58, Tryz.ntmps58
  go_wp2
  go_quiet (fail)
  go_wp2
  go_ret
  exact ⟨rfl, HR.out _, HG.out _ _⟩
set_option maxRecDepth 100000 in
set_option maxHeartbeats 4000000 in
theorem rest_any {b p : Nat} {L : Bs} {w : World} (h : Rd w b L p) (hL : L.length ≤ 256) (hp : p ≤ L.length) : Calls Tryz.prog 59 #[.pointer (some ⟨b, 0, none⟩)] w fun e w' => e = .returned (.string (strOf (L.drop p))) ∧ Below w.heap.size w w' := by
  obtain ⟨c0, c1, f1, hb⟩ := h.cells
  have hcut := cut_from L p hp
  have hp0 : (0 : Int) ≤ (p : Int) := by omega
  have HB := Lib.hid (fun n => bdrew (b0 w) n)
  clear h hp hL hb
  generalize strOf (L.drop p) = T at *
  generalize strOf L = S at *
  go_enter Tryz.func59, Tryz.ntmps59
  go_wp2
  go_quiet (fail)
  go_wp2
  go_ret
  exact ⟨rfl, HB.out _⟩
/-! ### Spaces -/
def SkipR (w : World) (b : Nat) (L : Bs) (p : Nat) (e : Ending) (w' : World) : Prop :=
  ∃ q, p ≤ q ∧ q ≤ L.length ∧ (∀ j, p ≤ j → j < q → L.getD j 0 = 32) ∧ (q < L.length → L.getD q 0 ≠ 32) ∧ e = .returned (.bool (decide (q < L.length))) ∧ ReadR w w' b L q
set_option maxRecDepth 100000 in
set_option maxHeartbeats 8000000 in
theorem skip_any {b p : Nat} {L : Bs} {w : World} (h : Rd w b L p) (hL : L.length ≤ 256) (hp : p ≤ L.length) : Calls Tryz.prog 28 #[.pointer (some ⟨b, 0, none⟩)] w (SkipR w b L p) := by
  have hsz := size_strOf L
  obtain ⟨n, hn⟩ : ∃ n, L.length = n := ⟨_, rfl⟩
  rw [hn] at hsz hL hp
  have hn0 : (0 : Int) ≤ (n : Int) := by omega
  have hn1 : (n : Int) ≤ 256 := by omega
  have HM := Lib.hid hn
  have H0 := Lib.hid h
  clear h hn
  go_enter Tryz.func28, Tryz.ntmps28
  go_wp2
  go_loopg [] (n - p) (fun g wr => ∃ k, p ≤ k ∧ k ≤ n ∧ g = n - k ∧ Hid ((∀ j, p ≤ j → j < k → L.getD j 0 = 32) ∧ ReadR w wr b L k))
  case atStart => exact ⟨p, Nat.le_refl _, hp, rfl, Lib.hid ⟨fun j h1 h2 => absurd h1 (by omega), H0.out, g_refl w _⟩⟩
  case round =>
    obtain ⟨k, hpk, hk, rfl, H⟩ := hrel
    obtain ⟨c0, c1, f1, hb⟩ := H.out.2.1.cells
    have hk0 : (0 : Int) ≤ (k : Int) := by omega
    have hk256 : (k : Int) ≤ 256 := by omega
    by_cases hkn : k < n
    · have qd : decide ((k : Int) < (n : Int)) = true := decide_eq_true (by omega)
      have qd' : decide (k < n) = true := decide_eq_true hkn
      have hi := index_l L k (by have := HM.out; omega)
      have hx := byte_eq (L.getD k 0) 32 (by decide) 32 rfl
      have hs1 : IntKind.i64.wrap ((k : Int) + 1) = (k : Int) + 1 := IntWalk.i64_in _ (by omega)
      by_cases h32 : L.getD k 0 = 32
      · rw [decide_eq_true h32] at hx
        have hx' : (((L.getD k 0).toNat : Int) == 32) = true := hx
        have HN := Lib.hid (fun m (v : Value) => g_trans (g_trans H.out.2.2 (g_any (g_of_below (bdrew (b0 wr) m)) (some b))) (g_set (wr.drewN m) b 1 v))
        have HR := Lib.hid (fun m => (H.out.2.1.below (bdrew (b0 wr) m)).set (k + 1))
        have HJ := Lib.hid (show ∀ j, p ≤ j → j < k + 1 → L.getD j 0 = 32 from fun j h1 h2 => if h : j < k then H.out.1 j h1 h else by rw [show j = k by omega]; exact h32)
        have e1 : ((k + 1 : Nat) : Int) = (k : Int) + 1 := by omega
        rw [e1] at HR
        clear H h32 e1 hx
        generalize (L.getD k 0).toNat = M at *
        generalize strOf L = S at *
        go_wp2
        go_quiet (fail)
        go_wp2
        go_roundg (n - (k + 1))
        case rel => exact ⟨k + 1, by omega, by omega, rfl, Lib.hid ⟨HJ.out, HR.out _, HN.out _ _⟩⟩
        case measure => omega
      · rw [decide_eq_false h32] at hx
        have hx' : (((L.getD k 0).toNat : Int) == 32) = false := hx
        have HE := Lib.hid (fun m m' => show SkipR w b L p (.returned (.bool true)) ((wr.drewN m).drewN m') from ⟨k, hpk, by have := HM.out; omega, H.out.1, fun _ => h32, by rw [HM.out, qd'], (H.out.2.1.below (bdrew (b0 wr) m)).below (bdrew (b0 _) m'), g_trans (g_trans H.out.2.2 (g_any (g_of_below (bdrew (b0 wr) m)) (some b))) (g_any (g_of_below (bdrew (b0 _) m')) (some b))⟩)
        clear H h32 hx
        generalize (L.getD k 0).toNat = M at *
        generalize SkipR w b L p = P at *
        generalize strOf L = S at *
        go_wp2
        go_quiet (fail)
        go_wp2
        go_quiet (fail)
        go_wp2
        exact HE.out _ _
    · obtain rfl : k = n := by omega
      have qd : decide ((k : Int) < (k : Int)) = false := decide_eq_false (by omega)
      have qd' : decide (k < k) = false := decide_eq_false (by omega)
      have HE := Lib.hid (fun m m' => show SkipR w b L p (.returned (.bool false)) ((wr.drewN m).drewN m') from ⟨k, hpk, by have := HM.out; omega, H.out.1, fun h => absurd h (by have := HM.out; omega), by rw [HM.out, qd'], (H.out.2.1.below (bdrew (b0 wr) m)).below (bdrew (b0 _) m'), g_trans (g_trans H.out.2.2 (g_any (g_of_below (bdrew (b0 wr) m)) (some b))) (g_any (g_of_below (bdrew (b0 _) m')) (some b))⟩)
      clear H
      generalize SkipR w b L p = P at *
      generalize strOf L = S at *
      go_wp2
      go_quiet (fail)
      go_wp2
      go_quiet (fail)
      go_wp2
      exact HE.out _ _
end Go.Proofs.YtbkbhlbfkfnljaaGreatDoor
/- The reference: characters between quotation marks. -/
set_option linter.unusedVariables false
set_option linter.unusedSimpArgs false
namespace Go.Proofs.YtbkbhlbfkfnljaaGreatDoor
open Go Go.RowKit L8

def shorts : List Bs := [[42, 99], [42, 110], [42, 116], [42, 115], [42, 39], [42, 34], [42, 42]]
def stands : List Nat := [13, 10, 9, 32, 39, 34, 42]
theorem sh_val : ∀ i, i < 7 → escape (shorts.getD i []) = some (stands.getD i 0) := by decide
theorem eq_lit' (l k : Bs) : ((strOf l).toList == k) = decide (l = k) := by
  rw [toList_strOf]; by_cases h : l = k <;> simp [h]
def single (s : Bs) : Prop := ∃ c, s = [c] ∧ 32 ≤ c.toNat ∧ c.toNat ≤ 126 ∧ c ≠ 39 ∧ c ≠ 42
theorem esc_1 (c : UInt8) : escape [c] = if 32 ≤ c.toNat ∧ c.toNat ≤ 126 ∧ c ≠ 39 ∧ c ≠ 42 then some c.toNat else none := rfl
theorem esc_2 (b c : UInt8) : escape [b, c] = if b = 42 then short c else none := rfl
theorem esc_4 (b g x y : UInt8) : escape [b, g, x, y] = if b = 42 ∧ g = 35 then value 16 2 256 [x, y] else none := rfl
theorem esc_single {c : UInt8} (h : 32 ≤ c.toNat ∧ c.toNat ≤ 126 ∧ c ≠ 39 ∧ c ≠ 42) : escape [c] = some c.toNat := by rw [esc_1, if_pos h]
theorem esc_rest {s : Bs} (h1 : ¬ single s) (h : ∀ i, i < 7 → shorts.getD i [] ≠ s) : escape s = if s.length = 4 ∧ s.take 2 = [42, 35] then value 16 2 256 (s.drop 2) else none := by
  match s, h1, h with
  | [], _, _ => rfl
  | [c], h1, _ =>
    rw [if_neg (by simp), esc_1, if_neg (fun h => h1 ⟨c, rfl, h⟩)]
  | [b, c], _, h =>
    rw [if_neg (by simp), esc_2]
    by_cases hb : b = 42
    · rw [if_pos hb]
      subst hb
      unfold short
      have h0 := h 0 (by decide)
      have h1 := h 1 (by decide)
      have h2 := h 2 (by decide)
      have h3 := h 3 (by decide)
      have h4 := h 4 (by decide)
      have h5 := h 5 (by decide)
      have h6 := h 6 (by decide)
      rw [if_neg (fun e => h0 (by rw [e]; rfl)), if_neg (fun e => h1 (by rw [e]; rfl)), if_neg (fun e => h2 (by rw [e]; rfl)), if_neg (fun e => h3 (by rw [e]; rfl)), if_neg (fun e => h4 (by rw [e]; rfl)), if_neg (fun e => h5 (by rw [e]; rfl)), if_neg (fun e => h6 (by rw [e]; rfl))]
    · rw [if_neg hb]
  | [_, _, _], _, _ => rw [if_neg (by simp)]; rfl
  | [b, g, x, y], _, _ =>
    rw [esc_4]
    by_cases hb : b = 42 ∧ g = 35
    · rw [if_pos hb, if_pos ⟨rfl, by rw [hb.1, hb.2]; rfl⟩]
      rfl
    · rw [if_neg hb, if_neg]
      rintro ⟨_, e⟩
      injection e with e1 e2
      injection e2 with e2
      exact hb ⟨e1, e2⟩
  | _ :: _ :: _ :: _ :: _ :: _, _, _ => rw [if_neg (by simp)]; rfl
def EVR (o : Option Nat) (e : Ending) : Prop := match o with
  | some v => e = .returned (.tuple #[.int .i32 (v : Int), .bool true])
  | none => ∃ z : Int, e = .returned (.tuple #[.int .i32 z, .bool false])
def iC (l : List Nat) : List Value := l.map fun (n : Nat) => Value.int .i32 (n : Int)
theorem iC_at {l : List Nat} {j : Nat} (h : j < l.length) : (iC l)[j]? = some (.int .i32 ((l.getD j 0 : Nat) : Int)) := by simp [iC, h]
end Go.Proofs.YtbkbhlbfkfnljaaGreatDoor
