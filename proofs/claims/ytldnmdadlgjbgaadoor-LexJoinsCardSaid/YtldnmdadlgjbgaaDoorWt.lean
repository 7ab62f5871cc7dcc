/- word.Text returns the text of a word; word.Read reads one as 'readC' says. -/
import Derived.Test.YtldnmdadlgjbgaaDoorWv
set_option linter.unusedVariables false
set_option linter.unusedSimpArgs false
namespace Go.Proofs.YtldnmdadlgjbgaaDoor.W1
open Go Go.RowKit Go.Sort

/-- The library's table of powers of ten stands as its initialiser lays it. -/
def Tab (w : World) : Prop := Lib.TabIs Tryd.prog w "internal/strconv.uint64pow10" .u64 Lib.pow10Tab
theorem Tab.below {w w' : World} (h : Tab w) (hb : Below w.heap.size w w') : Tab w' := by
  unfold Tab Lib.TabIs World.var? at *
  cases hg : Tryd.prog.globalNamed "internal/strconv.uint64pow10" with
  | none => simp [hg] at h
  | some g =>
    simp only [hg, Option.bind_some] at h ⊢
    have hlt : g < w.heap.size := by
      rcases Nat.lt_or_ge g w.heap.size with h' | h'
      · exact h'
      · rw [Array.getElem?_eq_none h'] at h; simp at h
    rw [hb.block g hlt]
    exact h
theorem grow_below (w : World) (k : Nat) (os : Array Obj) : Below w.heap.size w (grow (w.drewN k) os) :=
  ⟨rfl, rfl, rfl, by show w.heap.size ≤ (w.heap ++ os).size; rw [Array.size_append]; omega, fun j hj => by show (w.heap ++ os)[j]? = w.heap[j]?; exact Array.getElem?_append_left hj⟩
theorem Text_dec (v : Int) (hv : isW v) (w : World) (ht : Tab w) :
    Calls Tryd.prog 15 #[.int .i32 v, .bool false] w fun e w' => e = .returned (.string (strOf (textL v false))) ∧ Below w.heap.size w w' := by
  obtain ⟨v0, v1⟩ := hv
  have C := Lib.hid (Tryd.strconv_Itoa v (by omega) (by omega))
  go_enter Tryd.func15, Tryd.ntmps15
  go_wp2_with fail
  refine (C.out _ ht).mono ?_
  rintro e w' ⟨rfl, k, os, hw⟩
  have hb := grow_below w k os
  rw [← hw] at hb
  clear hw
  go_wp2
  go_ret
  exact ⟨rfl, hb⟩
theorem i32_and15 (a : Int) : bits .and .i32 a 15 = a % 16 := by
  show IntKind.i32.wrap ((BitVec.ofInt 32 a &&& BitVec.ofInt 32 15).toNat : Int) = _
  rw [BitVec.toNat_and, BitVec.toNat_ofInt, show (BitVec.ofInt 32 15).toNat = 2 ^ 4 - 1 by decide, Nat.and_two_pow_sub_one_eq_mod, IntKind.wrap_i32]
  simp
  omega
theorem hexDigs_at : ∀ (n t j : Nat), j < n → (hexDigs n t).getD j 0 = hexDg (t / 16 ^ (n - 1 - j) % 16)
  | 0, _, _, h => by omega
  | n + 1, t, j, h => by
    unfold hexDigs
    by_cases hj : j < n
    · have h1 := hexDigs_at n (t / 16) j hj
      rw [List.getD_eq_getElem?_getD] at h1 ⊢
      rw [List.getElem?_append_left (by rw [hexDigs_length]; exact hj), h1]
      congr 2
      rw [Nat.div_div_eq_div_mul, show n + 1 - 1 - j = (n - 1 - j) + 1 by omega, Nat.pow_succ, Nat.mul_comm]
    · obtain rfl : j = n := by omega
      rw [List.getD_eq_getElem?_getD, List.getElem?_append_right (by rw [hexDigs_length]; omega), hexDigs_length]
      simp
theorem plc_at (k : Nat) (hk : k < 8) : plc (28 - 4 * (k : Int)) = 4 * (7 - k) := by unfold plc; omega
theorem dig_at (v : Int) (k : Nat) (hk : k < 8) : shrR v (28 - 4 * (k : Int)) % 16 = ((uns v / 16 ^ (7 - k) % 16 : Nat) : Int) := by
  unfold shrR
  rw [plc_at k hk, Int.pow_mul]
  have hu : ((uns v : Nat) : Int) = v % 4294967296 := uns_cast v
  rw [← hu]
  have e : ((uns v / 16 ^ (7 - k) % 16 : Nat) : Int) = ((uns v : Nat) : Int) / (2 ^ 4) ^ (7 - k) % 16 := by
    rw [show (2 : Int) ^ 4 = 16 by decide]
    push_cast
    rfl
  rw [e]
  unfold wrap32
  omega
theorem index_dig32 (j : Nat) (h : j < 16) (W : World) : (Instr.index 9 (.string ⟨#[48, 49, 50, 51, 52, 53, 54, 55, 56, 57, 65, 66, 67, 68, 69, 70]⟩) (.int .i32 (j : Int))).run Tryd.prog W = .ok (.int .u8 ((hexDg j).toNat : Int)) W := by
  have hs : (⟨#[48, 49, 50, 51, 52, 53, 54, 55, 56, 57, 65, 66, 67, 68, 69, 70]⟩ : ByteArray).size = 16 := rfl
  rw [run_index_string W 9 _ .i32 (j : Int) Tryd.underlying9, dif_pos ⟨by omega, by rw [hs]; omega⟩]
  have := table_dig ⟨j, h⟩
  simp only [Int.toNat_natCast]
  rw [this]
/-- The digits as far as they are written. -/
def hexCell (v : Int) (k j : Nat) : Value := if j < k then .int .u8 (((hexDigs 8 (uns v))[j]?.getD 0).toNat : Int) else .int .u8 0
def hexArr (v : Int) (k : Nat) : Array Value := #[hexCell v k 0, hexCell v k 1, hexCell v k 2, hexCell v k 3, hexCell v k 4, hexCell v k 5, hexCell v k 6, hexCell v k 7]
theorem hexArr_get (v : Int) (k j : Nat) (h : j < 8) : (hexArr v k)[j]? = some (hexCell v k j) := by
  rcases (by omega : j = 0 ∨ j = 1 ∨ j = 2 ∨ j = 3 ∨ j = 4 ∨ j = 5 ∨ j = 6 ∨ j = 7) with rfl | rfl | rfl | rfl | rfl | rfl | rfl | rfl <;> rfl
theorem hexArr_size (v : Int) (k : Nat) : (hexArr v k).size = 8 := rfl
theorem hexArr_set (v : Int) (k : Nat) (h : k < 8) : (hexArr v k).setIfInBounds k (.int .u8 (((hexDigs 8 (uns v))[k]?.getD 0).toNat : Int)) = hexArr v (k + 1) := by
  apply Array.ext_getElem?
  intro j
  by_cases hj : j < 8
  · rw [hexArr_get v (k + 1) j hj, Array.getElem?_setIfInBounds]
    by_cases e : k = j
    · subst e
      simp [hexArr_size, h, hexCell]
    · rw [if_neg e, hexArr_get v k j hj]
      unfold hexCell
      by_cases h1 : j < k
      · rw [if_pos h1, if_pos (by omega)]
      · rw [if_neg h1, if_neg (by omega)]
  · rw [Array.getElem?_eq_none (by simp [hexArr_size]; omega), Array.getElem?_eq_none (by simp [hexArr_size]; omega)]
theorem hexArr_all (v : Int) : hexArr v 8 = ((hexDigs 8 (uns v)).map fun c => Value.int .u8 (c.toNat : Int)).toArray := by
  apply Array.ext_getElem?
  intro j
  have hl := hexDigs_length 8 (uns v)
  by_cases hj : j < 8
  · rw [hexArr_get v 8 j hj]
    unfold hexCell
    rw [if_pos hj, List.getElem?_toArray, List.getElem?_map, List.getElem?_eq_getElem (by omega)]
    rfl
  · rw [Array.getElem?_eq_none (by simp [hexArr_size]; omega), Array.getElem?_eq_none (by simp [hl]; omega)]
theorem conv_hex (v : Int) (w : World) : (convert 48 9 (.slice (some ⟨w.heap.size, 0, none⟩) 8 8)).run Tryd.prog (w.alloc (.cells (hexArr v 8) 71)) = .ok (.string (strOf (hexDigs 8 (uns v)))) (w.alloc (.cells (hexArr v 8) 71)) := by
  have hl := hexDigs_length 8 (uns v)
  have h := run_convert_bytes_back (P := Tryd.prog) (w.alloc (.cells (hexArr v 8) 71)) 48 9 5 ⟨w.heap.size, 0, none⟩ 8 (hexDigs 8 (uns v)) Tryd.underlying48 Tryd.underlying5 Tryd.underlying9 (fun j hj => by
    have e : (⟨w.heap.size, 0, none⟩ : Addr).add j = ⟨w.heap.size, j, none⟩ := by
      unfold Addr.add
      split
      · rename_i h0; rw [h0]
      · simp
    rw [e, World.cell?_alloc_new, hexArr_all, List.getElem?_toArray, List.getElem?_map, List.getElem?_eq_getElem hj]
    rfl)
  rw [hl] at h
  exact h
set_option maxHeartbeats 400000 in
theorem Text_hex (v : Int) (w : World) :
    Calls Tryd.prog 15 #[.int .i32 v, .bool true] w fun e w' => e = .returned (.string (strOf (textL v true))) ∧ Below w.heap.size w w' := by
  go_enter Tryd.func15, Tryd.ntmps15
  go_wp2
  go_loopw [6, 12] (fun _ i wr => ∃ k : Nat, k ≤ 8 ∧ i = .int .i64 k ∧ wr = w.alloc (.cells (hexArr v k) 71)) (fun _ i _ => 8 - (intOf i).toNat)
  case atStart => exact ⟨0, by omega, rfl, rfl⟩
  case round =>
    obtain ⟨k, hk, rfl, rfl⟩ := hrel
    by_cases hlt : k < 8
    · have hand : bits .and .i32 (shrR v (28 - 4 * (k : Int))) 15 = ((uns v / 16 ^ (7 - k) % 16 : Nat) : Int) := by rw [i32_and15, dig_at v k hlt]
      have hD : hexDg (uns v / 16 ^ (7 - k) % 16) = (hexDigs 8 (uns v)).getD k 0 := by rw [hexDigs_at 8 _ k hlt]
      have hidx := fun W => index_dig32 (uns v / 16 ^ (7 - k) % 16) (Nat.mod_lt _ (by decide)) W
      have hset := hexArr_set v k hlt
      have hc := hexArr_get v k k hlt
      rw [hD] at hidx
      generalize uns v / 16 ^ (7 - k) % 16 = d at *
      have HS := Lib.hid hset
      clear hset hD
      go_wp2_with (go_at_call 38; refine (Shr_any _ _ _).mono ?_; rintro e w' ⟨rfl, rfl⟩)
      go_roundw
      case rel => exact ⟨k + 1, by omega, by go_num, by rw [HS.out]⟩
      case measure => simp [intOf]; omega
    · obtain rfl : k = 8 := by omega
      have hconv := conv_hex v w
      have hcat := cat_cons 35 (hexDigs 8 (uns v)) (by rw [hexDigs_length]; omega)
      have Hf := Lib.hid (show textL v true = 35 :: hexDigs 8 (uns v) by unfold textL; simp)
      clear hlt hk
      generalize hexArr v 8 = arr at *
      generalize hexDigs 8 (uns v) = l at *
      go_wp2
      go_ret
      exact ⟨by rw [Hf.out]; rfl, (Below.refl _ _).alloc (Nat.le_refl _) _⟩
theorem Text_any (v : Int) (hex : Bool) (hv : isW v) (w : World) (ht : Tab w) :
    Calls Tryd.prog 15 #[.int .i32 v, .bool hex] w fun e w' => e = .returned (.string (strOf (textL v hex))) ∧ Below w.heap.size w w' := by
  cases hex
  · exact Text_dec v hv w ht
  · exact Text_hex v w
/-- How the number and the base that word.value returns lead to what is read. -/
theorem readC_value (l : List UInt8) : readC l = if (valueRes l).2.2 = true then keepT l (redW (valueRes l).1) (valueRes l).2.1 else (0, 5) := by
  by_cases h35 : l.head? = some 35
  · obtain ⟨ds, rfl⟩ : ∃ ds, l = 35 :: ds := List.head?_eq_some_iff.1 h35
    simp only [readC, guessC, valueRes, natRes]
    cases natL 16 ds 0 <;> simp
  · by_cases h45 : l.head? = some 45
    · obtain ⟨ds, rfl⟩ : ∃ ds, l = 45 :: ds := List.head?_eq_some_iff.1 h45
      simp only [readC, guessC, valueRes, natRes]
      cases natL 10 ds 0 <;> simp
    · have hg : guessC l = (natL 10 l 0).map fun (n : Nat) => ((n : Int), false) := by
        unfold guessC
        split
        · exact absurd rfl h35
        · exact absurd rfl h45
        · rfl
      rw [valueRes_other l h35 h45]
      unfold readC natRes
      rw [hg]
      cases natL 10 l 0 <;> simp
set_option maxHeartbeats 400000 in
theorem Read_any (s : ByteArray) (w : World) (ht : Tab w) :
    Calls Tryd.prog 80 #[.string s] w fun e w' => e = .returned (.tuple #[.int .i32 (readC s.data.toList).1, .int .i64 (readC s.data.toList).2]) ∧ Below w.heap.size w w' := by
  have C := Lib.hid (value_any s)
  have hr := readC_value s.data.toList
  have hb := keep_end s.data.toList s rfl (valueRes s.data.toList).1 (valueRes s.data.toList).2.1
  generalize (valueRes s.data.toList).1 = n at *
  generalize (valueRes s.data.toList).2.1 = hex at *
  generalize (valueRes s.data.toList).2.2 = ok at *
  cases ok
  · rw [if_neg (by decide)] at hr
    have HR := Lib.hid hr
    clear hr hb
    go_enter Tryd.func80, Tryd.ntmps80
    go_wp2_with (first | (go_at_call 91; refine (C.out _).mono ?_; rintro e w1 ⟨rfl, hb1⟩) | (go_at_call 92; refine (red64_any _ _).mono ?_; rintro e w' ⟨rfl, rfl⟩))
    go_ret2
    exact ⟨ret_ii (by rw [HR.out]) (by rw [HR.out]), hb1⟩
  · rw [if_pos rfl] at hr
    have HR := Lib.hid hr
    have hW := isW_wrap32 n
    clear hr
    rcases hb with ⟨he, hk⟩ | ⟨he, hk⟩
    all_goals
      have HK := Lib.hid hk
      clear hk
      go_enter Tryd.func80, Tryd.ntmps80
      go_wp2_with fail
      refine (C.out _).mono ?_
      rintro e w1 ⟨rfl, hb1⟩
      have ht1 := ht.below hb1
      go_wp2_with fail
      refine (red64_any _ _).mono ?_
      rintro e w' ⟨rfl, rfl⟩
      go_wp2_with fail
      refine (Text_any _ _ hW _ ht1).mono ?_
      rintro e w2 ⟨rfl, hb2⟩
      go_wp2
      go_ret2
      exact ⟨ret_ii (by rw [HR.out, HK.out]) (by rw [HR.out, HK.out]), hb1.trans (hb2.mono hb1.size)⟩
end Go.Proofs.YtldnmdadlgjbgaaDoor.W1
