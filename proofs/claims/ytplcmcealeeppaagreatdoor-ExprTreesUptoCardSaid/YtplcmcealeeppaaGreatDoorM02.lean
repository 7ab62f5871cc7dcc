/- Contracts of the texts of the reference of layer 1: its digits are those of the number. -/
import Derived.Deep.QuietTactic
import Derived.BigQuiet
import Derived.Deep.RegionWith
import Derived.IntWalk
import Derived.Lib.IndexBytes
import Derived.Lib.OthersKept
import Derived.Laws.RangeAny
import Derived.Lib.Repeat
import Derived.Lib.TrimByte
import Derived.Laws.BytesString
import Derived.Test.YtplcmcealeeppaaGreatDoorM01
import Derived.Test.YtplcmcealeeppaaGreatDoorShelf
import Derived.Test.YtplcmcealeeppaaGreatDoorLxe
set_option linter.unusedVariables false
set_option linter.unusedSimpArgs false
set_option linter.unusedVariables false
set_option linter.unusedSimpArgs false
namespace Go.Proofs.YtplcmcealeeppaaGreatDoor.W1
open Go Go.RowKit

/-- A string of bytes. -/
def strOf (l : List UInt8) : ByteArray := ⟨l.toArray⟩
theorem strOf_append (a b : List UInt8) : strOf (a ++ b) = strOf a ++ strOf b := by
  apply ByteArray.ext
  simp [strOf]
theorem strOf_cons (a : UInt8) (b : List UInt8) : strOf (a :: b) = strOf [a] ++ strOf b := strOf_append [a] b
theorem strOf_size (l : List UInt8) : (strOf l).size = l.length := by simp [strOf, ByteArray.size]
theorem cat_str (a b : List UInt8) (h : a.length + b.length ≤ 1000000) : Op.stringOp .add (strOf a) (strOf b) = pure (.string (strOf (a ++ b))) := by
  unfold Op.stringOp
  simp only [strOf_size]
  rw [if_neg (by simp [IntKind.max, IntKind.signed, IntKind.bits]; omega), strOf_append]
theorem lowDigs_length : ∀ base n t, (lowDigs base n t).length = n
  | _, 0, _ => rfl
  | base, n + 1, t => by unfold lowDigs; rw [List.length_append, lowDigs_length base n]; rfl
theorem slice_dig (d : Nat) (h : d < 16) : ∀ W : World, (Instr.slice 9 (.string ⟨#[48, 49, 50, 51, 52, 53, 54, 55, 56, 57, 65, 66, 67, 68, 69, 70]⟩) (some (.int .i64 (d : Int))) (some (.int .i64 ((d : Int) + 1))) none).run Tryz.prog W = .ok (.string (strOf [hexDg d])) W := by
  intro W
  have hs : (⟨#[48, 49, 50, 51, 52, 53, 54, 55, 56, 57, 65, 66, 67, 68, 69, 70]⟩ : ByteArray).size = 16 := rfl
  rw [run_slice_string W 9 _ .i64 .i64 (d : Int) ((d : Int) + 1) Tryz.underlying9 (by omega) (by omega) (by rw [hs]; omega)]
  have ht : ∀ d : Fin 16, ((⟨#[48, 49, 50, 51, 52, 53, 54, 55, 56, 57, 65, 66, 67, 68, 69, 70]⟩ : ByteArray).extract d.val (d.val + 1)).data.toList = [hexDg d.val] := by decide
  have h1 := ht ⟨d, h⟩
  have e : ((d : Int) + 1).toNat = d + 1 := by omega
  rw [Int.toNat_natCast, e]
  congr 2
  apply ByteArray.ext
  rw [← Array.toList_inj, h1]
  rfl

theorem uns_cast (v : Int) : ((uns v : Nat) : Int) = v % 4294967296 := by unfold uns; omega
theorem dec_bd (v : Int) (hv : isW v) : v.natAbs ≤ 4294967296 := by unfold isW at hv; omega
theorem decDigits_le (t : Nat) (h : t ≤ 4294967296) : (Lib.decDigits t).length ≤ 11 := by rw [Lib.decDigits_length]; exact nDigits_le _ (by omega)
theorem cat_cons (c : UInt8) (b : List UInt8) (h : b.length ≤ 100000) : Op.stringOp .add ⟨#[c]⟩ (strOf b) = pure (.string (strOf (c :: b))) := cat_str [c] b (by simp; omega)
end Go.Proofs.YtplcmcealeeppaaGreatDoor.W1
/- The number that digits spell, as the reference of layer 1 reads it. -/
set_option linter.unusedVariables false
set_option linter.unusedSimpArgs false
namespace Go.Proofs.YtplcmcealeeppaaGreatDoor.W1
open Go Go.RowKit

theorem take_snoc (s : ByteArray) (k : Nat) (h : k < s.size) : s.data.toList.take (k + 1) = s.data.toList.take k ++ [s[k]] := by
  rw [List.take_succ_eq_append_getElem (by simpa using h)]; rfl
theorem index_str (s : ByteArray) (k : Nat) (h : k < s.size) (W : World) : (Instr.index 9 (.string s) (.int .i64 (k : Int))).run Tryz.prog W = .ok (.int .u8 (s[k].toNat : Int)) W := by
  rw [run_index_string W 9 s .i64 (k : Int) Tryz.underlying9, dif_pos ⟨by omega, by omega⟩]
  rfl
theorem table_dig : ∀ d : Fin 16, (⟨#[48, 49, 50, 51, 52, 53, 54, 55, 56, 57, 65, 66, 67, 68, 69, 70]⟩ : ByteArray)[d.val]'d.2 = hexDg d.val := by decide
theorem index_dig (j : Nat) (h : j < 16) (W : World) : (Instr.index 9 (.string ⟨#[48, 49, 50, 51, 52, 53, 54, 55, 56, 57, 65, 66, 67, 68, 69, 70]⟩) (.int .i64 (j : Int))).run Tryz.prog W = .ok (.int .u8 ((hexDg j).toNat : Int)) W := by
  have hs : (⟨#[48, 49, 50, 51, 52, 53, 54, 55, 56, 57, 65, 66, 67, 68, 69, 70]⟩ : ByteArray).size = 16 := rfl
  rw [index_str _ j (by rw [hs]; exact h)]
  rw [table_dig ⟨j, h⟩]

end Go.Proofs.YtplcmcealeeppaaGreatDoor.W1
/- The reference of layer 1 reads a text as 'readR' says. -/
set_option linter.unusedVariables false
set_option linter.unusedSimpArgs false
namespace Go.Proofs.YtplcmcealeeppaaGreatDoor.W1
open Go Go.RowKit

theorem redW_eq (n : Int) : wrap32 n = redW n := by unfold wrap32 redW; rfl
theorem slice_one (s : ByteArray) (h : 1 ≤ s.size) (W : World) : (Instr.slice 9 (.string s) (some (.int .i64 1)) none none).run Tryz.prog W = .ok (.string (s.extract 1 s.size)) W := by
  rw [run_slice_string_from_if W 9 s .i64 1 Tryz.underlying9, if_pos ⟨by omega, by omega⟩]
  rfl
theorem eq_strOf (l : List UInt8) (s : ByteArray) : ((strOf l).toList == s.toList) = decide (l = s.data.toList) := by
  rw [Lib.toList_data, Lib.toList_data]
  show (l == s.data.toList) = _
  by_cases h : l = s.data.toList <;> simp [h]
theorem ret_ii {j k : IntKind} {a b c d : Int} (h : a = b) (h' : c = d) : Ending.returned (.tuple #[.int j a, .int k c]) = .returned (.tuple #[.int j b, .int k d]) := by rw [h, h']
/-- What the first byte and the rest are. -/
theorem first_of (s : ByteArray) (h : 1 ≤ s.size) : s.data.toList = s[0] :: s.data.toList.drop 1 := by
  have : 0 < s.data.toList.length := by
    have hl : s.data.toList.length = s.size := by simp
    omega
  conv => lhs; rw [← List.drop_zero (l := s.data.toList), List.drop_eq_getElem_cons this]
  rfl
theorem val_bd {base : Nat} (hb : base = 10 ∨ base = 16) (l : List UInt8) (h : l.length ≤ 11) : (0 : Int) ≤ (valL base l 0 : Nat) ∧ ((valL base l 0 : Nat) : Int) ≤ 17592186044416 :=
  ⟨by omega, by have := valL_bd hb l h; omega⟩
/-- The last step: the text of the word that was guessed is compared. -/
theorem keep_end (l : List UInt8) (s : ByteArray) (hs : s.data.toList = l) (n : Int) (hex : Bool) : (((strOf (textL (wrap32 n) hex)).toList == s.toList) = true ∧ keepT l (redW n) hex = (wrap32 n, 0)) ∨ (((strOf (textL (wrap32 n) hex)).toList == s.toList) = false ∧ keepT l (redW n) hex = (0, 5)) := by
  rw [eq_strOf, hs]
  unfold keepT
  rw [redW_eq]
  by_cases h : textL (redW n) hex = l
  · exact .inl ⟨by simp [h], if_pos h⟩
  · exact .inr ⟨by simp [h], if_neg h⟩
end Go.Proofs.YtplcmcealeeppaaGreatDoor.W1
/- strings.IndexRune finds no rune above ASCII in a string of ASCII. -/
set_option linter.unusedVariables false
set_option linter.unusedSimpArgs false
namespace Go.Proofs.YtplcmcealeeppaaGreatDoor.W1
open Go Go.RowKit

def asciiS (s : ByteArray) : Prop := ∀ b ∈ s.data.toList, b.toNat < 128
theorem indexByte_no : ∀ (l : List UInt8) (c : UInt8), (∀ b ∈ l, b ≠ c) → Lib.indexByte l c = -1
  | [], _, _ => rfl
  | b :: l, c, h => by
    have h1 : (b == c) = false := by simpa using h b (by simp)
    have h2 := indexByte_no l c (fun x hx => h x (by simp [hx]))
    unfold Lib.indexByte
    rw [h1, h2]
    rfl
set_option maxRecDepth 100000 in
theorem IndexRune_bad (s : ByteArray) (r : Int) (h0 : 128 ≤ r) (hne : r ≠ 65533) (hv : Lib.validRune r = false) (w : World) :
    Calls Tryz.prog 155 #[.string s, .int .i32 r] w fun e w' => e = .returned (.int .i64 (-1)) ∧ w = w' := by
  have n1 : ¬ r < 128 := by omega
  have n2 : (r == 65533) = false := by simpa using hne
  go_enter Tryz.func155, Tryz.ntmps155
  go_wp2_with (go_at_call 160; refine (Tryz.utf8_ValidRune _ _).mono ?_; rintro e w' ⟨rfl, rfl⟩)
  go_ret
  exact ⟨rfl, rfl⟩
set_option maxRecDepth 100000 in
theorem IndexRune_error (s : ByteArray) (hs : asciiS s) (w : World) :
    Calls Tryz.prog 155 #[.string s, .int .i32 65533] w fun e w' => e = .returned (.int .i64 (-1)) ∧ Below w.heap.size w w' := by
  have hk0 := World.iter_heap w s 0
  have hb0 : Below w.heap.size w (w.iter s 0) := (Below.refl _ _).alloc (Nat.le_refl _) _
  go_enter Tryz.func155, Tryz.ntmps155
  go_wp2
  go_loopw [5, 6] (fun _ _ wr => ∃ pos : Nat, pos ≤ s.size ∧ wr.heap[w.heap.size]? = some (.stringIter s pos) ∧ Below w.heap.size w wr) (fun _ _ wr => s.size - wr.iterPos w.heap.size)
  case atStart => exact ⟨0, Nat.zero_le _, hk0, hb0⟩
  case round =>
    obtain ⟨pos, hps, hk, hnx⟩ := hrel
    clear hk0 hb0
    by_cases hp : pos < s.size
    · have h128 : (s[pos]'hp).toNat < 128 := hs _ (Array.getElem_mem_toList (xs := s.data) hp)
      have hnext : ∀ ty, (Instr.next (.pointer (some ⟨w.heap.size, 0, none⟩)) true ty).run Tryz.prog wr = _ := fun ty => Lib.run_next_ascii_at wr w.heap.size s pos ty hk hp h128
      have hk1 := Lib.iterAt_heap wr w.heap.size s pos (pos + 1) hk
      have hnx1 : Below w.heap.size w (wr.iterAt w.heap.size s (pos + 1)) := Lib.below_iterAt hnx (by omega) s (pos + 1)
      have hmu : wr.iterPos w.heap.size = pos := by simp [World.iterPos, hk]
      generalize wr.iterAt w.heap.size s (pos + 1) = W1 at hnext hk1 hnx1
      generalize (s[pos]'hp).toNat = q at *
      have hq : ((q : Int) == 65533) = false := by simp; omega
      have hmu2 : W1.iterPos w.heap.size = pos + 1 := by simp [World.iterPos, hk1]
      have Hm := Lib.hid hmu
      have Hm2 := Lib.hid hmu2
      clear hmu hmu2 hk
      go_wp2
      go_roundw
      case rel => exact ⟨pos + 1, by omega, hk1, hnx1⟩
      case measure =>
        rw [Hm.out, Hm2.out]
        omega
    · have hnext : ∀ ty, (Instr.next (.pointer (some ⟨w.heap.size, 0, none⟩)) true ty).run Tryz.prog wr = _ := fun ty => Lib.run_next_end_at wr w.heap.size s pos ty hk hp
      go_wp2
      go_ret
      exact ⟨rfl, hnx⟩
theorem quiet_more {P : Program} {f : FuncId} {args : Array Value} {w : World} {a n : Nat} {v : Value}
    (h : Calls P f args (w.drewN (a + n)) fun e w' => e = .returned v ∧ w' = w.drewN (a + n)) :
    Calls P f args (w.drewN (a + n)) fun e w'' => e = .returned v ∧ ∃ m, w'' = w.drewN (a + m) :=
  h.mono fun _ _ ⟨he, hm⟩ => ⟨he, n, hm⟩
theorem IndexByte_no (t : ByteArray) (ht : asciiS t) (q : Nat) (h0 : 128 ≤ q) (h1 : q < 256) (w : World) :
    Calls Tryz.prog 103 #[.string t, .int .u8 (q : Int)] w fun e w' => e = .returned (.int .i64 (-1)) ∧ w' = w := by
  have h := Tryz.strings_IndexByte t (q : Int) w
  rw [indexByte_no t.data.toList _ (fun b hb e => by
    have h2 := ht b hb
    rw [e] at h2
    simp at h2
    omega)] at h
  exact h
theorem ascii_extract (s : ByteArray) (hs : asciiS s) (a e : Nat) : asciiS (s.extract a e) := fun b hb => hs b (mem_extract hb)
theorem slice_from (s : ByteArray) (k : Nat) (h : k ≤ s.size) (W : World) : (Instr.slice 9 (.string s) (some (.int .i64 (k : Int))) none none).run Tryz.prog W = .ok (.string (s.extract k s.size)) W := by
  rw [run_slice_string_from_if W 9 s .i64 (k : Int) Tryz.underlying9, if_pos ⟨by omega, by omega⟩, Int.toNat_natCast]
theorem index_last (s : ByteArray) (k : Nat) (h0 : 1 ≤ k) (h : k - 1 < s.size) (W : World) : (Instr.index 9 (.string s) (.int .i64 ((k : Int) - 1))).run Tryz.prog W = .ok (.int .u8 ((s[k - 1]'h).toNat : Int)) W := by
  rw [show (k : Int) - 1 = ((k - 1 : Nat) : Int) by omega]
  exact index_str s (k - 1) h W
set_option maxRecDepth 100000 in
set_option maxHeartbeats 1000000 in
theorem IndexRune_good (s : ByteArray) (hs : asciiS s) (_hz : s.size ≤ 16) (r : Int) (h0 : 128 ≤ r) (hne : r ≠ 65533) (hv : Lib.validRune r = true) (w : World) :
    Calls Tryz.prog 155 #[.string s, .int .i32 r] w fun e w' => e = .returned (.int .i64 (-1)) ∧ ∃ n, w' = w.drewN n := by
  have n1 : ¬ r < 128 := by omega
  have n2 : (r == 65533) = false := by simpa using hne
  have hv' : Utf8.valid r = true := by rw [validRune_eq]; exact hv
  obtain ⟨z0, z1, z2⟩ := encode_facts r hv' h0
  by_cases hlt : (Utf8.encode r).size - 1 < s.size
  · have hx := fun W => index_last (Utf8.encode r) (Utf8.encode r).size (by omega) (by omega) W
    have hy := fun W => index_last s (Utf8.encode r).size (by omega) hlt W
    have hp : (s[(Utf8.encode r).size - 1]'hlt).toNat < 128 := hs _ (Array.getElem_mem_toList (xs := s.data) hlt)
    have hq := z2 (by omega)
    have hq2 : ((Utf8.encode r)[(Utf8.encode r).size - 1]'(by omega)).toNat < 256 := UInt8.toNat_lt _
    generalize (s[(Utf8.encode r).size - 1]'hlt).toNat = p at *
    generalize ((Utf8.encode r)[(Utf8.encode r).size - 1]'(by omega)).toNat = q at *
    have e1 : ((p : Int) == (q : Int)) = false := by simp; omega
    have e2 : (p == q) = false := by simp; omega
    clear z2 hv'
    have hlt' : ((Utf8.encode r).size : Int) - 1 < s.size := by omega
    go_enter Tryz.func155, Tryz.ntmps155
    go_wp2_with (go_at_call 160; refine (Tryz.utf8_ValidRune _ _).mono ?_; rintro e w' ⟨rfl, rfl⟩)
    go_step3
    go_wp2
    refine wp_loop_rounds 1 ?_
    rw [rounds_succ]
    go_wp2
    go_step3
    go_wp2
    go_quiet (fail)
    clear hy
    go_wp2
    have hsl := fun W => slice_from s (Utf8.encode r).size (by omega) W
    have w1 : IntKind.i64.wrap ((Utf8.encode r).size : Int) = ((Utf8.encode r).size : Int) := IntWalk.i64_in _ (by omega)
    have w2 : IntKind.i64.wrap ((Utf8.encode r).size - 1 + 1 : Int) = ((Utf8.encode r).size : Int) := by rw [IntWalk.i64_in _ (by omega)]; omega
    have ht := ascii_extract s hs (Utf8.encode r).size s.size
    generalize s.extract (Utf8.encode r).size s.size = t at *
    go_quiet ((go_at_call 103; exact quiet_more (IndexByte_no t ht q hq hq2 _)))
    clear hsl w1 w2 hx
    go_wp2
    rw [Exit.noGoto_ret]
    simp only [Exit.inBlock, Exit.then]
    rw [Exit.noGoto_ret]
    go_ret
    exact ⟨rfl, _, rfl⟩
  · clear z2 hv'
    have hlt' : ¬ ((Utf8.encode r).size : Int) - 1 < s.size := by omega
    go_enter Tryz.func155, Tryz.ntmps155
    go_wp2_with (go_at_call 160; refine (Tryz.utf8_ValidRune _ _).mono ?_; rintro e w' ⟨rfl, rfl⟩)
    go_step3
    go_wp2
    refine wp_loop_rounds 1 ?_
    rw [rounds_succ]
    go_wp2
    repeat rw [Exit.noGoto_ret]
    go_ret
    exact ⟨rfl, 0, rfl⟩
/-- At every rune: the place of an ASCII rune; none above. -/
theorem IndexRune_any (s : ByteArray) (hs : asciiS s) (hz : s.size ≤ 16) (r : Int) (h0 : 0 ≤ r) (w : World) :
    Calls Tryz.prog 155 #[.string s, .int .i32 r] w fun e w' => e = .returned (.int .i64 (if r < 128 then Lib.indexByte s.data.toList r.toNat.toUInt8 else -1)) ∧ Below w.heap.size w w' := by
  by_cases h1 : r < 128
  · rw [if_pos h1]
    exact (Tryz.strings_IndexRune_ascii s r w h0 h1).mono fun e w' ⟨he, hw⟩ => ⟨he, hw ▸ Below.refl _ _⟩
  · rw [if_neg h1]
    by_cases h2 : r = 65533
    · subst h2
      exact IndexRune_error s hs w
    · cases hv : Lib.validRune r
      · exact (IndexRune_bad s r (by omega) h2 hv w).mono fun e w' ⟨he, hw⟩ => ⟨he, hw ▸ Below.refl _ _⟩
      · exact (IndexRune_good s hs hz r (by omega) h2 hv w).mono fun e w' ⟨he, n, hw⟩ => ⟨he, by rw [hw]; exact ⟨rfl, rfl, rfl, Nat.le_refl _, fun _ _ => rfl⟩⟩
end Go.Proofs.YtplcmcealeeppaaGreatDoor.W1
/- word.natural reads digits as 'natL' says. -/
set_option linter.unusedVariables false
set_option linter.unusedSimpArgs false
namespace Go.Proofs.YtplcmcealeeppaaGreatDoor.W1
open Go Go.RowKit

/-- The digits of a base. -/
def tab (b : Nat) : ByteArray := strOf (([48, 49, 50, 51, 52, 53, 54, 55, 56, 57, 65, 66, 67, 68, 69, 70] : List UInt8).take b)
def natRes (base : Nat) (l : List UInt8) : Int × Bool := match natL base l 0 with | some n => ((n : Int), true) | none => (0, false)
theorem natRes_none {base : Nat} {l : List UInt8} (h : natL base l 0 = none) : (natRes base l).1 = 0 ∧ (natRes base l).2 = false := by unfold natRes; rw [h]; exact ⟨rfl, rfl⟩
theorem natRes_some {base n : Nat} {l : List UInt8} (h : natL base l 0 = some n) : (natRes base l).1 = (n : Int) ∧ (natRes base l).2 = true := by unfold natRes; rw [h]; exact ⟨rfl, rfl⟩
theorem drop_at (s : ByteArray) (k : Nat) (h : k < s.size) : s.data.toList.drop k = s[k] :: s.data.toList.drop (k + 1) := by
  have : k < s.data.toList.length := by simpa using h
  rw [List.drop_eq_getElem_cons this]
  rfl
theorem drop_all (s : ByteArray) (k : Nat) (h : ¬ k < s.size) : s.data.toList.drop k = [] := List.drop_eq_nil_of_le (by simpa using h)
theorem dval_high {base : Nat} (c : UInt8) (h : 128 ≤ c.toNat) : dval base c = none := by
  unfold dval
  rw [if_neg (by omega), if_neg (by omega)]
theorem IndexRune_high (s : ByteArray) (hs : asciiS s) (hz : s.size ≤ 16) (r : Int) (h0 : 128 ≤ r) (w : World) :
    Calls Tryz.prog 155 #[.string s, .int .i32 r] w fun e w' => e = .returned (.int .i64 (-1)) ∧ Below w.heap.size w w' := by
  have h := IndexRune_any s hs hz r (by omega) w
  rw [if_neg (by omega)] at h
  exact h

theorem slice_tab16 (W : World) : (Instr.slice 9 (.string ⟨#[48, 49, 50, 51, 52, 53, 54, 55, 56, 57, 65, 66, 67, 68, 69, 70]⟩) none (some (.int .i64 16)) none).run Tryz.prog W = .ok (.string (tab 16)) W := by
  have hs : (⟨#[48, 49, 50, 51, 52, 53, 54, 55, 56, 57, 65, 66, 67, 68, 69, 70]⟩ : ByteArray).size = 16 := rfl
  rw [run_slice_string_to_if W 9 _ .i64 16 Tryz.underlying9, if_pos ⟨by omega, by rw [hs]; omega⟩]
  congr 2
theorem tab16_ascii : asciiS (tab 16) := by
  have h : ∀ b ∈ (tab 16).data.toList, b.toNat < 128 := by decide
  exact h
theorem tab16_find (c : UInt8) : Lib.indexByte (tab 16).data.toList c = match dval 16 c with | some d => (d : Int) | none => -1 := by
  have h : ∀ i : Fin 256, Lib.indexByte (tab 16).data.toList (UInt8.ofNat i.val) = match dval 16 (UInt8.ofNat i.val) with | some d => (d : Int) | none => -1 := by decide +kernel
  have h1 := h ⟨c.toNat, c.toNat_lt⟩
  simp only [UInt8.ofNat_toNat] at h1
  exact h1
set_option maxHeartbeats 1000000 in
theorem natural16_any (s : ByteArray) (w : World) :
    Calls Tryz.prog 144 #[.string s, .int .i64 16] w fun e w' => e = .returned (.tuple #[.int .i64 (natRes 16 s.data.toList).1, .bool (natRes 16 s.data.toList).2]) ∧ Below w.heap.size w w' := by
  have hk0 := World.iter_heap w s 0
  have hb0 : Below w.heap.size w (w.iter s 0) := (Below.refl _ _).alloc (Nat.le_refl _) _
  have htab := slice_tab16
  go_enter Tryz.func144, Tryz.ntmps144
  go_wp2
  go_loopw [4, 7, 8] (fun x _ _ wr => ∃ pos n : Nat, pos ≤ s.size ∧ n ≤ 68719476735 ∧ x = .int .i64 n ∧ Hid (natL 16 s.data.toList 0 = natL 16 (s.data.toList.drop pos) n) ∧ wr.heap[w.heap.size]? = some (.stringIter s pos) ∧ Below w.heap.size w wr) (fun _ _ _ wr => s.size - wr.iterPos w.heap.size)
  case atStart => exact ⟨0, 0, Nat.zero_le _, by omega, rfl, Lib.hid rfl, hk0, hb0⟩
  case round =>
    obtain ⟨pos, n, hps, hnb, rfl, HN, hk, hnx⟩ := hrel
    clear hk0 hb0
    have hmu : wr.iterPos w.heap.size = pos := by simp [World.iterPos, hk]
    have Hm := Lib.hid hmu
    clear hmu
    by_cases hp : pos < s.size
    · have hdrop := drop_at s pos hp
      rw [hdrop] at HN
      clear hdrop
      by_cases h128 : (s[pos]'hp).toNat < 128
      · have hnext : ∀ ty, (Instr.next (.pointer (some ⟨w.heap.size, 0, none⟩)) true ty).run Tryz.prog wr = _ := fun ty => Lib.run_next_ascii_at wr w.heap.size s pos ty hk hp h128
        have hk1 := Lib.iterAt_heap wr w.heap.size s pos (pos + 1) hk
        have hnx1 : Below w.heap.size w (wr.iterAt w.heap.size s (pos + 1)) := Lib.below_iterAt hnx (by omega) s (pos + 1)
        generalize wr.iterAt w.heap.size s (pos + 1) = W1 at hnext hk1 hnx1
        have hmu2 : W1.iterPos w.heap.size = pos + 1 := by simp [World.iterPos, hk1]
        have Hm2 := Lib.hid hmu2
        clear hmu2 hk hnx
        generalize (s[pos]'hp) = c at *
        have C := Tryz.strings_IndexRune_ascii (tab 16) ((c.toNat : Nat) : Int)
        have hf := tab16_find c
        have hcc : ((c.toNat : Int)).toNat.toUInt8 = c := by simp
        rw [hcc, hf] at C
        clear hcc hf
        generalize hq : c.toNat = q at *
        clear hq
        cases hd : dval 16 c with
        | none =>
          rw [hd] at C
          have hfin : natL 16 s.data.toList 0 = none := by rw [HN.out, natL_cons, hd]
          have Hf := Lib.hid (natRes_none hfin)
          have CC := Lib.hid C
          clear hd hfin C
          go_wp2_with (go_at_call 155; refine (CC.out _ (by omega) (by omega)).mono ?_; rintro e w' ⟨rfl, rfl⟩)
          go_ret2
          exact ⟨ret_ib Hf.out.1.symm Hf.out.2.symm, hnx1⟩
        | some d =>
          rw [hd] at C
          have hdl := dval_lt (by decide) hd
          by_cases hbig : 4294967295 < n
          · have hfin : natL 16 s.data.toList 0 = none := by rw [HN.out, natL_cons, hd]; simp only [if_pos hbig]
            have Hf := Lib.hid (natRes_none hfin)
            have CC := Lib.hid C
            clear hd hfin C
            go_wp2_with (go_at_call 155; refine (CC.out _ (by omega) (by omega)).mono ?_; rintro e w' ⟨rfl, rfl⟩)
            go_ret2
            exact ⟨ret_ib Hf.out.1.symm Hf.out.2.symm, hnx1⟩
          · have hfin : natL 16 s.data.toList 0 = natL 16 (s.data.toList.drop (pos + 1)) (n * 16 + d) := by rw [HN.out, natL_cons, hd]; simp only [if_neg hbig]
            have Hf := Lib.hid hfin
            have CC := Lib.hid C
            have hcast : ((n * 16 + d : Nat) : Int) = (n : Int) * 16 + d := by push_cast; rfl
            have Hc := Lib.hid hcast
            clear hd hfin C hcast HN
            go_wp2_with (go_at_call 155; refine (CC.out _ (by omega) (by omega)).mono ?_; rintro e w' ⟨rfl, rfl⟩)
            go_roundw
            case rel => exact ⟨pos + 1, n * 16 + d, by omega, by omega, by rw [Hc.out], Hf, hk1, hnx1⟩
            case measure =>
              rw [Hm.out, Hm2.out]
              omega
      · have hnext : ∀ ty, (Instr.next (.pointer (some ⟨w.heap.size, 0, none⟩)) true ty).run Tryz.prog wr = _ := fun ty => Lib.run_next_any_at wr w.heap.size s pos ty hk hp
        have hnx1 : Below w.heap.size w (wr.iterAt w.heap.size s (pos + (Utf8.decode s pos).2)) := Lib.below_iterAt hnx (by omega) s _
        generalize wr.iterAt w.heap.size s (pos + (Utf8.decode s pos).2) = W1 at hnext hnx1
        have hr := (decode_high s pos hp (by omega)).1
        have hr2 := decode_le s pos
        generalize (Utf8.decode s pos).1 = r at *
        clear hk hnx
        have hd : dval 16 (s[pos]'hp) = none := dval_high _ (by omega)
        generalize (s[pos]'hp) = c at *
        have hfin : natL 16 s.data.toList 0 = none := by rw [HN.out, natL_cons, hd]
        have Hf := Lib.hid (natRes_none hfin)
        have C := Lib.hid (IndexRune_high (tab 16) tab16_ascii (by decide) (r : Int) (by omega))
        clear hd hfin HN
        go_wp2_with (go_at_call 155; refine (C.out _).mono ?_; rintro e w' ⟨rfl, hb1⟩)
        go_ret2
        exact ⟨ret_ib Hf.out.1.symm Hf.out.2.symm, hnx1.trans (hb1.mono hnx1.size)⟩
    · have hnext : ∀ ty, (Instr.next (.pointer (some ⟨w.heap.size, 0, none⟩)) true ty).run Tryz.prog wr = _ := fun ty => Lib.run_next_end_at wr w.heap.size s pos ty hk hp
      have hfin : natL 16 s.data.toList 0 = some n := by rw [HN.out, drop_all s pos hp]; rfl
      have Hf := Lib.hid (natRes_some hfin)
      clear hfin HN
      go_wp2
      go_ret2
      exact ⟨ret_ib Hf.out.1.symm Hf.out.2.symm, hnx⟩

theorem slice_tab10 (W : World) : (Instr.slice 9 (.string ⟨#[48, 49, 50, 51, 52, 53, 54, 55, 56, 57, 65, 66, 67, 68, 69, 70]⟩) none (some (.int .i64 10)) none).run Tryz.prog W = .ok (.string (tab 10)) W := by
  have hs : (⟨#[48, 49, 50, 51, 52, 53, 54, 55, 56, 57, 65, 66, 67, 68, 69, 70]⟩ : ByteArray).size = 16 := rfl
  rw [run_slice_string_to_if W 9 _ .i64 10 Tryz.underlying9, if_pos ⟨by omega, by rw [hs]; omega⟩]
  congr 2
theorem tab10_ascii : asciiS (tab 10) := by
  have h : ∀ b ∈ (tab 10).data.toList, b.toNat < 128 := by decide
  exact h
theorem tab10_find (c : UInt8) : Lib.indexByte (tab 10).data.toList c = match dval 10 c with | some d => (d : Int) | none => -1 := by
  have h : ∀ i : Fin 256, Lib.indexByte (tab 10).data.toList (UInt8.ofNat i.val) = match dval 10 (UInt8.ofNat i.val) with | some d => (d : Int) | none => -1 := by decide +kernel
  have h1 := h ⟨c.toNat, c.toNat_lt⟩
  simp only [UInt8.ofNat_toNat] at h1
  exact h1
set_option maxHeartbeats 1000000 in
theorem natural10_any (s : ByteArray) (w : World) :
    Calls Tryz.prog 144 #[.string s, .int .i64 10] w fun e w' => e = .returned (.tuple #[.int .i64 (natRes 10 s.data.toList).1, .bool (natRes 10 s.data.toList).2]) ∧ Below w.heap.size w w' := by
  have hk0 := World.iter_heap w s 0
  have hb0 : Below w.heap.size w (w.iter s 0) := (Below.refl _ _).alloc (Nat.le_refl _) _
  have htab := slice_tab10
  go_enter Tryz.func144, Tryz.ntmps144
  go_wp2
  go_loopw [4, 7, 8] (fun x _ _ wr => ∃ pos n : Nat, pos ≤ s.size ∧ n ≤ 68719476735 ∧ x = .int .i64 n ∧ Hid (natL 10 s.data.toList 0 = natL 10 (s.data.toList.drop pos) n) ∧ wr.heap[w.heap.size]? = some (.stringIter s pos) ∧ Below w.heap.size w wr) (fun _ _ _ wr => s.size - wr.iterPos w.heap.size)
  case atStart => exact ⟨0, 0, Nat.zero_le _, by omega, rfl, Lib.hid rfl, hk0, hb0⟩
  case round =>
    obtain ⟨pos, n, hps, hnb, rfl, HN, hk, hnx⟩ := hrel
    clear hk0 hb0
    have hmu : wr.iterPos w.heap.size = pos := by simp [World.iterPos, hk]
    have Hm := Lib.hid hmu
    clear hmu
    by_cases hp : pos < s.size
    · have hdrop := drop_at s pos hp
      rw [hdrop] at HN
      clear hdrop
      by_cases h128 : (s[pos]'hp).toNat < 128
      · have hnext : ∀ ty, (Instr.next (.pointer (some ⟨w.heap.size, 0, none⟩)) true ty).run Tryz.prog wr = _ := fun ty => Lib.run_next_ascii_at wr w.heap.size s pos ty hk hp h128
        have hk1 := Lib.iterAt_heap wr w.heap.size s pos (pos + 1) hk
        have hnx1 : Below w.heap.size w (wr.iterAt w.heap.size s (pos + 1)) := Lib.below_iterAt hnx (by omega) s (pos + 1)
        generalize wr.iterAt w.heap.size s (pos + 1) = W1 at hnext hk1 hnx1
        have hmu2 : W1.iterPos w.heap.size = pos + 1 := by simp [World.iterPos, hk1]
        have Hm2 := Lib.hid hmu2
        clear hmu2 hk hnx
        generalize (s[pos]'hp) = c at *
        have C := Tryz.strings_IndexRune_ascii (tab 10) ((c.toNat : Nat) : Int)
        have hf := tab10_find c
        have hcc : ((c.toNat : Int)).toNat.toUInt8 = c := by simp
        rw [hcc, hf] at C
        clear hcc hf
        generalize hq : c.toNat = q at *
        clear hq
        cases hd : dval 10 c with
        | none =>
          rw [hd] at C
          have hfin : natL 10 s.data.toList 0 = none := by rw [HN.out, natL_cons, hd]
          have Hf := Lib.hid (natRes_none hfin)
          have CC := Lib.hid C
          clear hd hfin C
          go_wp2_with (go_at_call 155; refine (CC.out _ (by omega) (by omega)).mono ?_; rintro e w' ⟨rfl, rfl⟩)
          go_ret2
          exact ⟨ret_ib Hf.out.1.symm Hf.out.2.symm, hnx1⟩
        | some d =>
          rw [hd] at C
          have hdl := dval_lt (by decide) hd
          by_cases hbig : 4294967295 < n
          · have hfin : natL 10 s.data.toList 0 = none := by rw [HN.out, natL_cons, hd]; simp only [if_pos hbig]
            have Hf := Lib.hid (natRes_none hfin)
            have CC := Lib.hid C
            clear hd hfin C
            go_wp2_with (go_at_call 155; refine (CC.out _ (by omega) (by omega)).mono ?_; rintro e w' ⟨rfl, rfl⟩)
            go_ret2
            exact ⟨ret_ib Hf.out.1.symm Hf.out.2.symm, hnx1⟩
          · have hfin : natL 10 s.data.toList 0 = natL 10 (s.data.toList.drop (pos + 1)) (n * 10 + d) := by rw [HN.out, natL_cons, hd]; simp only [if_neg hbig]
            have Hf := Lib.hid hfin
            have CC := Lib.hid C
            have hcast : ((n * 10 + d : Nat) : Int) = (n : Int) * 10 + d := by push_cast; rfl
            have Hc := Lib.hid hcast
            clear hd hfin C hcast HN
            go_wp2_with (go_at_call 155; refine (CC.out _ (by omega) (by omega)).mono ?_; rintro e w' ⟨rfl, rfl⟩)
            go_roundw
            case rel => exact ⟨pos + 1, n * 10 + d, by omega, by omega, by rw [Hc.out], Hf, hk1, hnx1⟩
            case measure =>
              rw [Hm.out, Hm2.out]
              omega
      · have hnext : ∀ ty, (Instr.next (.pointer (some ⟨w.heap.size, 0, none⟩)) true ty).run Tryz.prog wr = _ := fun ty => Lib.run_next_any_at wr w.heap.size s pos ty hk hp
        have hnx1 : Below w.heap.size w (wr.iterAt w.heap.size s (pos + (Utf8.decode s pos).2)) := Lib.below_iterAt hnx (by omega) s _
        generalize wr.iterAt w.heap.size s (pos + (Utf8.decode s pos).2) = W1 at hnext hnx1
        have hr := (decode_high s pos hp (by omega)).1
        have hr2 := decode_le s pos
        generalize (Utf8.decode s pos).1 = r at *
        clear hk hnx
        have hd : dval 10 (s[pos]'hp) = none := dval_high _ (by omega)
        generalize (s[pos]'hp) = c at *
        have hfin : natL 10 s.data.toList 0 = none := by rw [HN.out, natL_cons, hd]
        have Hf := Lib.hid (natRes_none hfin)
        have C := Lib.hid (IndexRune_high (tab 10) tab10_ascii (by decide) (r : Int) (by omega))
        clear hd hfin HN
        go_wp2_with (go_at_call 155; refine (C.out _).mono ?_; rintro e w' ⟨rfl, hb1⟩)
        go_ret2
        exact ⟨ret_ib Hf.out.1.symm Hf.out.2.symm, hnx1.trans (hb1.mono hnx1.size)⟩
    · have hnext : ∀ ty, (Instr.next (.pointer (some ⟨w.heap.size, 0, none⟩)) true ty).run Tryz.prog wr = _ := fun ty => Lib.run_next_end_at wr w.heap.size s pos ty hk hp
      have hfin : natL 10 s.data.toList 0 = some n := by rw [HN.out, drop_all s pos hp]; rfl
      have Hf := Lib.hid (natRes_some hfin)
      clear hfin HN
      go_wp2
      go_ret2
      exact ⟨ret_ib Hf.out.1.symm Hf.out.2.symm, hnx⟩
end Go.Proofs.YtplcmcealeeppaaGreatDoor.W1
/- word.value takes a text for what 'guessC' says. -/
set_option linter.unusedVariables false
set_option linter.unusedSimpArgs false
namespace Go.Proofs.YtplcmcealeeppaaGreatDoor.W1
open Go Go.RowKit

theorem trim_hit (c : UInt8) (ds : List UInt8) : Lib.trimPrefix (c :: ds) [c] = ds ∧ Lib.hasPrefix (c :: ds) [c] = true := by
  have h : Lib.hasPrefix (c :: ds) [c] = true := by simp [Lib.hasPrefix, List.isPrefixOf]
  exact ⟨by unfold Lib.trimPrefix; rw [h]; rfl, h⟩
theorem trim_miss (c : UInt8) (l : List UInt8) (hl : l.head? ≠ some c) : Lib.trimPrefix l [c] = l ∧ Lib.hasPrefix l [c] = false := by
  have h : Lib.hasPrefix l [c] = false := by
    unfold Lib.hasPrefix
    cases l with
    | nil => rfl
    | cons d ds =>
      have : c ≠ d := fun e => hl (by rw [e]; rfl)
      simp [List.isPrefixOf, this]
  exact ⟨by unfold Lib.trimPrefix; rw [h]; rfl, h⟩
theorem natL_le {base : Nat} (hb : base = 10 ∨ base = 16) : ∀ (l : List UInt8) (n : Nat) {m : Nat}, n ≤ 68719476735 → natL base l n = some m → m ≤ 68719476735
  | [], n, m, hn, h => by injection h with h; omega
  | c :: cs, n, m, hn, h => by
    rw [natL_cons] at h
    cases hd : dval base c with
    | none => rw [hd] at h; cases h
    | some d =>
      rw [hd] at h
      have := dval_lt hb hd
      by_cases hbig : 4294967295 < n
      · simp [hbig] at h
      · simp only [if_neg hbig] at h
        exact natL_le hb cs _ (by rcases hb with rfl | rfl <;> omega) h
theorem natRes_bd {base : Nat} (hb : base = 10 ∨ base = 16) (l : List UInt8) : 0 ≤ (natRes base l).1 ∧ (natRes base l).1 ≤ 68719476735 := by
  unfold natRes
  cases h : natL base l 0 with
  | none => exact ⟨by simp, by simp⟩
  | some n => have := natL_le hb l 0 (by omega) h; simp only; omega
/-- What word.value returns. -/
def valueRes (l : List UInt8) : Int × Bool × Bool := match l with
  | 35 :: ds => ((natRes 16 ds).1, true, (natRes 16 ds).2)
  | 45 :: ds => (-(natRes 10 ds).1, false, (natRes 10 ds).2)
  | l => ((natRes 10 l).1, false, (natRes 10 l).2)
theorem valueRes_other (l : List UInt8) (h1 : l.head? ≠ some 35) (h2 : l.head? ≠ some 45) : valueRes l = ((natRes 10 l).1, false, (natRes 10 l).2) := by
  unfold valueRes
  split
  · exact absurd rfl h1
  · exact absurd rfl h2
  · rfl
theorem ret_3 {a b : Int} {p q r s : Bool} (h : a = b) (h1 : p = q) (h2 : r = s) : Ending.returned (.tuple #[.int .i64 a, .bool p, .bool r]) = .returned (.tuple #[.int .i64 b, .bool q, .bool s]) := by rw [h, h1, h2]
theorem strOf_data (l : List UInt8) : (strOf l).data.toList = l := by simp [strOf]
set_option maxHeartbeats 400000 in
theorem value_any (s : ByteArray) (w : World) :
    Calls Tryz.prog 129 #[.string s] w fun e w' => e = .returned (.tuple #[.int .i64 (valueRes s.data.toList).1, .bool (valueRes s.data.toList).2.1, .bool (valueRes s.data.toList).2.2]) ∧ Below w.heap.size w w' := by
  have c1 := fun W => Tryz.strings_CutPrefix s ⟨#[35]⟩ W
  have c2 := fun W => Tryz.strings_CutPrefix s ⟨#[45]⟩ W
  by_cases h35 : s.data.toList.head? = some 35
  · obtain ⟨ds, hds⟩ : ∃ ds, s.data.toList = 35 :: ds := List.head?_eq_some_iff.1 h35
    rw [hds, (trim_hit 35 ds).1, (trim_hit 35 ds).2] at c1
    have hv : valueRes s.data.toList = ((natRes 16 ds).1, true, (natRes 16 ds).2) := by rw [hds]; rfl
    have C := natural16_any (strOf ds)
    rw [strOf_data] at C
    have CC := Lib.hid C
    have C1 := Lib.hid c1
    have HV := Lib.hid hv
    clear hv C c1 c2 hds h35
    go_enter Tryz.func129, Tryz.ntmps129
    go_wp2_with fail
    refine (C1.out _).mono ?_
    rintro e w' ⟨rfl, rfl⟩
    go_wp2_with fail
    refine (CC.out _).mono ?_
    rintro e w1 ⟨rfl, hb1⟩
    go_wp2
    go_ret3
    exact ⟨ret_3 (by rw [HV.out]) (by rw [HV.out]) (by rw [HV.out]), hb1⟩
  · rw [(trim_miss 35 _ h35).1, (trim_miss 35 _ h35).2] at c1
    by_cases h45 : s.data.toList.head? = some 45
    · obtain ⟨ds, hds⟩ : ∃ ds, s.data.toList = 45 :: ds := List.head?_eq_some_iff.1 h45
      rw [hds, (trim_hit 45 ds).1, (trim_hit 45 ds).2] at c2
      have hv : valueRes s.data.toList = (-(natRes 10 ds).1, false, (natRes 10 ds).2) := by rw [hds]; rfl
      have C := natural10_any (strOf ds)
      rw [strOf_data] at C
      obtain ⟨b0, b1⟩ := natRes_bd (base := 10) (by decide) ds
      have CC := Lib.hid C
      have C1 := Lib.hid c1
      have C2 := Lib.hid c2
      have HV := Lib.hid hv
      clear hv C c1 c2 hds h35 h45
      go_enter Tryz.func129, Tryz.ntmps129
      go_wp2_with fail
      refine (C1.out _).mono ?_
      rintro e w' ⟨rfl, rfl⟩
      go_wp2_with fail
      refine (C2.out _).mono ?_
      rintro e w' ⟨rfl, rfl⟩
      go_wp2_with fail
      refine (CC.out _).mono ?_
      rintro e w1 ⟨rfl, hb1⟩
      go_wp2
      go_ret3
      exact ⟨ret_3 (by rw [HV.out]) (by rw [HV.out]) (by rw [HV.out]), hb1⟩
    · rw [(trim_miss 45 _ h45).1, (trim_miss 45 _ h45).2] at c2
      have hv := valueRes_other _ h35 h45
      have C := natural10_any (strOf s.data.toList)
      rw [strOf_data] at C
      have CC := Lib.hid C
      have C1 := Lib.hid c1
      have C2 := Lib.hid c2
      have HV := Lib.hid hv
      clear hv C c1 c2 h35 h45
      go_enter Tryz.func129, Tryz.ntmps129
      go_wp2_with fail
      refine (C1.out _).mono ?_
      rintro e w' ⟨rfl, rfl⟩
      go_wp2_with fail
      refine (C2.out _).mono ?_
      rintro e w' ⟨rfl, rfl⟩
      go_wp2_with fail
      refine (CC.out _).mono ?_
      rintro e w1 ⟨rfl, hb1⟩
      go_wp2
      go_ret3
      exact ⟨ret_3 (by rw [HV.out]) (by rw [HV.out]) (by rw [HV.out]), hb1⟩
end Go.Proofs.YtplcmcealeeppaaGreatDoor.W1
/- word.Text returns the text of a word; word.Read reads one as 'readC' says. -/
set_option linter.unusedVariables false
set_option linter.unusedSimpArgs false
namespace Go.Proofs.YtplcmcealeeppaaGreatDoor.W1
open Go Go.RowKit Go.Sort

/-- The library's table of powers of ten stands as its initialiser lays it. -/
def Tab (w : World) : Prop := Lib.TabIs Tryz.prog w "internal/strconv.uint64pow10" .u64 Lib.pow10Tab
theorem Tab.below {w w' : World} (h : Tab w) (hb : Below w.heap.size w w') : Tab w' := by
  unfold Tab Lib.TabIs World.var? at *
  cases hg : Tryz.prog.globalNamed "internal/strconv.uint64pow10" with
  | none => simp [hg] at h
  | some g =>
    simp only [hg, Option.bind_some] at h ⊢
    have hlt : g < w.heap.size := by
      rcases Nat.lt_or_ge g w.heap.size with h' | h'
      · exact h'
      · rw [Array.getElem?_eq_none h'] at h; simp at h
    rw [hb.block g hlt]
    exact h
theorem grow_below (w : World) (k : Nat) (os : Array Obj) : Below w.heap.size w (grow (w.drewN k) os) :=
  ⟨rfl, rfl, rfl, by show w.heap.size ≤ (w.heap ++ os).size; rw [Array.size_append]; omega, fun j hj => by show (w.heap ++ os)[j]? = w.heap[j]?; exact Array.getElem?_append_left hj⟩
theorem Text_dec (v : Int) (hv : isW v) (w : World) (ht : Tab w) :
    Calls Tryz.prog 79 #[.int .i32 v, .bool false] w fun e w' => e = .returned (.string (strOf (textL v false))) ∧ Below w.heap.size w w' := by
  obtain ⟨v0, v1⟩ := hv
  have C := Lib.hid (Tryz.strconv_Itoa v (by omega) (by omega))
  go_enter Tryz.func79, Tryz.ntmps79
  go_wp2_with fail
  refine (C.out _ ht).mono ?_
  rintro e w' ⟨rfl, k, os, hw⟩
  have hb := grow_below w k os
  rw [← hw] at hb
  clear hw
  go_wp2
  go_ret
  exact ⟨rfl, hb⟩
theorem i32_and15 (a : Int) : bits .and .i32 a 15 = a % 16 := by
  show IntKind.i32.wrap ((BitVec.ofInt 32 a &&& BitVec.ofInt 32 15).toNat : Int) = _
  rw [BitVec.toNat_and, BitVec.toNat_ofInt, show (BitVec.ofInt 32 15).toNat = 2 ^ 4 - 1 by decide, Nat.and_two_pow_sub_one_eq_mod, IntKind.wrap_i32]
  simp
  omega
theorem hexDigs_at : ∀ (n t j : Nat), j < n → (hexDigs n t).getD j 0 = hexDg (t / 16 ^ (n - 1 - j) % 16)
  | 0, _, _, h => by omega
  | n + 1, t, j, h => by
    unfold hexDigs
    by_cases hj : j < n
    · have h1 := hexDigs_at n (t / 16) j hj
      rw [List.getD_eq_getElem?_getD] at h1 ⊢
      rw [List.getElem?_append_left (by rw [hexDigs_length]; exact hj), h1]
      congr 2
      rw [Nat.div_div_eq_div_mul, show n + 1 - 1 - j = (n - 1 - j) + 1 by omega, Nat.pow_succ, Nat.mul_comm]
    · obtain rfl : j = n := by omega
      rw [List.getD_eq_getElem?_getD, List.getElem?_append_right (by rw [hexDigs_length]; omega), hexDigs_length]
      simp
theorem plc_at (k : Nat) (hk : k < 8) : plc (28 - 4 * (k : Int)) = 4 * (7 - k) := by unfold plc; omega
theorem dig_at (v : Int) (k : Nat) (hk : k < 8) : shrR v (28 - 4 * (k : Int)) % 16 = ((uns v / 16 ^ (7 - k) % 16 : Nat) : Int) := by
  unfold shrR
  rw [plc_at k hk, Int.pow_mul]
  have hu : ((uns v : Nat) : Int) = v % 4294967296 := uns_cast v
  rw [← hu]
  have e : ((uns v / 16 ^ (7 - k) % 16 : Nat) : Int) = ((uns v : Nat) : Int) / (2 ^ 4) ^ (7 - k) % 16 := by
    rw [show (2 : Int) ^ 4 = 16 by decide]
    push_cast
    rfl
  rw [e]
  unfold wrap32
  omega
theorem index_dig32 (j : Nat) (h : j < 16) (W : World) : (Instr.index 9 (.string ⟨#[48, 49, 50, 51, 52, 53, 54, 55, 56, 57, 65, 66, 67, 68, 69, 70]⟩) (.int .i32 (j : Int))).run Tryz.prog W = .ok (.int .u8 ((hexDg j).toNat : Int)) W := by
  have hs : (⟨#[48, 49, 50, 51, 52, 53, 54, 55, 56, 57, 65, 66, 67, 68, 69, 70]⟩ : ByteArray).size = 16 := rfl
  rw [run_index_string W 9 _ .i32 (j : Int) Tryz.underlying9, dif_pos ⟨by omega, by rw [hs]; omega⟩]
  have := table_dig ⟨j, h⟩
  simp only [Int.toNat_natCast]
  rw [this]
/-- The digits as far as they are written. -/
def hexCell (v : Int) (k j : Nat) : Value := if j < k then .int .u8 (((hexDigs 8 (uns v))[j]?.getD 0).toNat : Int) else .int .u8 0
def hexArr (v : Int) (k : Nat) : Array Value := #[hexCell v k 0, hexCell v k 1, hexCell v k 2, hexCell v k 3, hexCell v k 4, hexCell v k 5, hexCell v k 6, hexCell v k 7]
theorem hexArr_get (v : Int) (k j : Nat) (h : j < 8) : (hexArr v k)[j]? = some (hexCell v k j) := by
  rcases (by omega : j = 0 ∨ j = 1 ∨ j = 2 ∨ j = 3 ∨ j = 4 ∨ j = 5 ∨ j = 6 ∨ j = 7) with rfl | rfl | rfl | rfl | rfl | rfl | rfl | rfl <;> rfl
theorem hexArr_size (v : Int) (k : Nat) : (hexArr v k).size = 8 := rfl
theorem hexArr_set (v : Int) (k : Nat) (h : k < 8) : (hexArr v k).setIfInBounds k (.int .u8 (((hexDigs 8 (uns v))[k]?.getD 0).toNat : Int)) = hexArr v (k + 1) := by
  apply Array.ext_getElem?
  intro j
  by_cases hj : j < 8
  · rw [hexArr_get v (k + 1) j hj, Array.getElem?_setIfInBounds]
    by_cases e : k = j
    · subst e
      simp [hexArr_size, h, hexCell]
    · rw [if_neg e, hexArr_get v k j hj]
      unfold hexCell
      by_cases h1 : j < k
      · rw [if_pos h1, if_pos (by omega)]
      · rw [if_neg h1, if_neg (by omega)]
  · rw [Array.getElem?_eq_none (by simp [hexArr_size]; omega), Array.getElem?_eq_none (by simp [hexArr_size]; omega)]
theorem hexArr_all (v : Int) : hexArr v 8 = ((hexDigs 8 (uns v)).map fun c => Value.int .u8 (c.toNat : Int)).toArray := by
  apply Array.ext_getElem?
  intro j
  have hl := hexDigs_length 8 (uns v)
  by_cases hj : j < 8
  · rw [hexArr_get v 8 j hj]
    unfold hexCell
    rw [if_pos hj, List.getElem?_toArray, List.getElem?_map, List.getElem?_eq_getElem (by omega)]
    rfl
  · rw [Array.getElem?_eq_none (by simp [hexArr_size]; omega), Array.getElem?_eq_none (by simp [hl]; omega)]
theorem conv_hex (v : Int) (w : World) : (convert 83 9 (.slice (some ⟨w.heap.size, 0, none⟩) 8 8)).run Tryz.prog (w.alloc (.cells (hexArr v 8) 128)) = .ok (.string (strOf (hexDigs 8 (uns v)))) (w.alloc (.cells (hexArr v 8) 128)) := by
  have hl := hexDigs_length 8 (uns v)
  have h := run_convert_bytes_back (P := Tryz.prog) (w.alloc (.cells (hexArr v 8) 128)) 83 9 5 ⟨w.heap.size, 0, none⟩ 8 (hexDigs 8 (uns v)) Tryz.underlying83 Tryz.underlying5 Tryz.underlying9 (fun j hj => by
    have e : (⟨w.heap.size, 0, none⟩ : Addr).add j = ⟨w.heap.size, j, none⟩ := by
      unfold Addr.add
      split
      · rename_i h0; rw [h0]
      · simp
    rw [e, World.cell?_alloc_new, hexArr_all, List.getElem?_toArray, List.getElem?_map, List.getElem?_eq_getElem hj]
    rfl)
  rw [hl] at h
  exact h
set_option maxHeartbeats 400000 in
theorem Text_hex (v : Int) (w : World) :
    Calls Tryz.prog 79 #[.int .i32 v, .bool true] w fun e w' => e = .returned (.string (strOf (textL v true))) ∧ Below w.heap.size w w' := by
  go_enter Tryz.func79, Tryz.ntmps79
  go_wp2
  go_loopw [6, 12] (fun _ i wr => ∃ k : Nat, k ≤ 8 ∧ i = .int .i64 k ∧ wr = w.alloc (.cells (hexArr v k) 128)) (fun _ i _ => 8 - (intOf i).toNat)
  case atStart => exact ⟨0, by omega, rfl, rfl⟩
  case round =>
    obtain ⟨k, hk, rfl, rfl⟩ := hrel
    by_cases hlt : k < 8
    · have hand : bits .and .i32 (shrR v (28 - 4 * (k : Int))) 15 = ((uns v / 16 ^ (7 - k) % 16 : Nat) : Int) := by rw [i32_and15, dig_at v k hlt]
      have hD : hexDg (uns v / 16 ^ (7 - k) % 16) = (hexDigs 8 (uns v)).getD k 0 := by rw [hexDigs_at 8 _ k hlt]
      have hidx := fun W => index_dig32 (uns v / 16 ^ (7 - k) % 16) (Nat.mod_lt _ (by decide)) W
      have hset := hexArr_set v k hlt
      have hc := hexArr_get v k k hlt
      rw [hD] at hidx
      generalize uns v / 16 ^ (7 - k) % 16 = d at *
      have HS := Lib.hid hset
      clear hset hD
      go_wp2_with (go_at_call 102; refine (Shr_any _ _ _).mono ?_; rintro e w' ⟨rfl, rfl⟩)
      go_roundw
      case rel => exact ⟨k + 1, by omega, by go_num, by rw [HS.out]⟩
      case measure => simp [intOf]; omega
    · obtain rfl : k = 8 := by omega
      have hconv := conv_hex v w
      have hcat := cat_cons 35 (hexDigs 8 (uns v)) (by rw [hexDigs_length]; omega)
      have Hf := Lib.hid (show textL v true = 35 :: hexDigs 8 (uns v) by unfold textL; simp)
      clear hlt hk
      generalize hexArr v 8 = arr at *
      generalize hexDigs 8 (uns v) = l at *
      go_wp2
      go_ret
      exact ⟨by rw [Hf.out]; rfl, (Below.refl _ _).alloc (Nat.le_refl _) _⟩
theorem Text_any (v : Int) (hex : Bool) (hv : isW v) (w : World) (ht : Tab w) :
    Calls Tryz.prog 79 #[.int .i32 v, .bool hex] w fun e w' => e = .returned (.string (strOf (textL v hex))) ∧ Below w.heap.size w w' := by
  cases hex
  · exact Text_dec v hv w ht
  · exact Text_hex v w
/-- How the number and the base that word.value returns lead to what is read. -/
theorem readC_value (l : List UInt8) : readC l = if (valueRes l).2.2 = true then keepT l (redW (valueRes l).1) (valueRes l).2.1 else (0, 5) := by
  by_cases h35 : l.head? = some 35
  · obtain ⟨ds, rfl⟩ : ∃ ds, l = 35 :: ds := List.head?_eq_some_iff.1 h35
    simp only [readC, guessC, valueRes, natRes]
    cases natL 16 ds 0 <;> simp
  · by_cases h45 : l.head? = some 45
    · obtain ⟨ds, rfl⟩ : ∃ ds, l = 45 :: ds := List.head?_eq_some_iff.1 h45
      simp only [readC, guessC, valueRes, natRes]
      cases natL 10 ds 0 <;> simp
    · have hg : guessC l = (natL 10 l 0).map fun (n : Nat) => ((n : Int), false) := by
        unfold guessC
        split
        · exact absurd rfl h35
        · exact absurd rfl h45
        · rfl
      rw [valueRes_other l h35 h45]
      unfold readC natRes
      rw [hg]
      cases natL 10 l 0 <;> simp
set_option maxHeartbeats 400000 in
theorem Read_any (s : ByteArray) (w : World) (ht : Tab w) :
    Calls Tryz.prog 118 #[.string s] w fun e w' => e = .returned (.tuple #[.int .i32 (readC s.data.toList).1, .int .i64 (readC s.data.toList).2]) ∧ Below w.heap.size w w' := by
  have C := Lib.hid (value_any s)
  have hr := readC_value s.data.toList
  have hb := keep_end s.data.toList s rfl (valueRes s.data.toList).1 (valueRes s.data.toList).2.1
  generalize (valueRes s.data.toList).1 = n at *
  generalize (valueRes s.data.toList).2.1 = hex at *
  generalize (valueRes s.data.toList).2.2 = ok at *
  cases ok
  · rw [if_neg (by decide)] at hr
    have HR := Lib.hid hr
    clear hr hb
    go_enter Tryz.func118, Tryz.ntmps118
    go_wp2_with (first | (go_at_call 129; refine (C.out _).mono ?_; rintro e w1 ⟨rfl, hb1⟩) | (go_at_call 130; refine (red64_any _ _).mono ?_; rintro e w' ⟨rfl, rfl⟩))
    go_ret2
    exact ⟨ret_ii (by rw [HR.out]) (by rw [HR.out]), hb1⟩
  · rw [if_pos rfl] at hr
    have HR := Lib.hid hr
    have hW := isW_wrap32 n
    clear hr
    rcases hb with ⟨he, hk⟩ | ⟨he, hk⟩
    all_goals
      have HK := Lib.hid hk
      clear hk
      go_enter Tryz.func118, Tryz.ntmps118
      go_wp2_with fail
      refine (C.out _).mono ?_
      rintro e w1 ⟨rfl, hb1⟩
      have ht1 := ht.below hb1
      go_wp2_with fail
      refine (red64_any _ _).mono ?_
      rintro e w' ⟨rfl, rfl⟩
      go_wp2_with fail
      refine (Text_any _ _ hW _ ht1).mono ?_
      rintro e w2 ⟨rfl, hb2⟩
      go_wp2
      go_ret2
      exact ⟨ret_ii (by rw [HR.out, HK.out]) (by rw [HR.out, HK.out]), hb1.trans (hb2.mono hb1.size)⟩
end Go.Proofs.YtplcmcealeeppaaGreatDoor.W1
/- The program's numbers and characters. -/
set_option linter.unusedVariables false
set_option linter.unusedSimpArgs false
namespace Go.Proofs.YtplcmcealeeppaaGreatDoor
open Go Go.RowKit L8

/-! ### What is called -/
theorem wRead (l : Bs) (w : World) (ht : W1.Tab w) : Calls Tryz.prog 118 #[.string (strOf l)] w fun e w' => e = .returned (.tuple #[.int .i32 (readC l).1, .int .i64 (readC l).2]) ∧ Below w.heap.size w w' :=
  (W1.Read_any (strOf l) w ht).mono fun e w' h => by rw [data_strOf] at h; exact h
theorem wText (v : Int) (hex : Bool) (h0 : -2147483648 ≤ v) (h1 : v ≤ 2147483647) (w : World) (ht : W1.Tab w) : Calls Tryz.prog 79 #[.int .i32 v, .bool hex] w fun e w' => e = .returned (.string (strOf (textL v hex))) ∧ Below w.heap.size w w' :=
  W1.Text_any v hex ⟨h0, h1⟩ w ht
theorem cTrim0 (l : Bs) (w : World) : Calls Tryz.prog 117 #[.string (strOf l), .string ⟨#[48]⟩] w fun e w' => e = .returned (.string (strOf (cut0 l))) ∧ w = w' :=
  (Tryz.strings_TrimLeft_one (strOf l) 48 (by decide) w).mono fun e w' h => by
    rw [h.1, data_strOf, cut0_drop]
    exact ⟨rfl, h.2.symm⟩
theorem repeat_one (b : UInt8) : ∀ n, Lib.repeatL [b] n = List.replicate n b := by
  intro n
  induction n with
  | zero => rfl
  | succ n ih => rw [List.replicate_succ, ← ih]; rfl
theorem cRepeat1 (b : UInt8) (n : Nat) (hn : n ≤ 100000) (w : World) : Calls Tryz.prog 119 #[.string ⟨#[b]⟩, .int .i64 (n : Int)] w fun e w' => e = .returned (.string (strOf (List.replicate n b))) ∧ Below w.heap.size w w' :=
  (Tryz.strings_Repeat (strOf [b]) n w (by omega) (by rw [size_strOf]; simp; omega)).mono fun e w' h => by
    rw [data_strOf, repeat_one] at h
    exact h
theorem cIndexByte (l : Bs) (c : UInt8) (w : World) : Calls Tryz.prog 103 #[.string (strOf l), .int .u8 (c.toNat : Int)] w fun e w' => e = .returned (.int .i64 (Lib.indexByte l c)) ∧ w = w' :=
  (Tryz.strings_IndexByte (strOf l) (c.toNat : Int) w).mono fun e w' h => by
    have e1 : ((c.toNat : Int)).toNat.toUInt8 = c := by simp
    rw [h.1, data_strOf, e1]
    exact ⟨rfl, h.2.symm⟩
theorem cHasPrefix (l p : Bs) (w : World) : Calls Tryz.prog 110 #[.string (strOf l), .string (strOf p)] w fun e w' => e = .returned (.bool (Lib.hasPrefix l p)) ∧ w = w' :=
  (Tryz.strings_HasPrefix (strOf l) (strOf p) w).mono fun e w' h => by
    rw [data_strOf, data_strOf] at h
    exact ⟨h.1, h.2.symm⟩
theorem pre_one (l : Bs) (b : UInt8) : Lib.hasPrefix l [b] = decide (l.head? = some b) := by
  unfold Lib.hasPrefix
  cases l with
  | nil => rfl
  | cons c r =>
    by_cases h : b = c
    · subst h; simp [List.isPrefixOf]
    · simp [List.isPrefixOf, h, Ne.symm h]
theorem pre_two (l : Bs) (a b : UInt8) : Lib.hasPrefix l [a, b] = decide (l.take 2 = [a, b]) := by
  unfold Lib.hasPrefix
  match l with
  | [] => rfl
  | [c] => simp [List.isPrefixOf]
  | c :: d :: r =>
    by_cases h : a = c
    · by_cases h2 : b = d
      · subst h h2; simp [List.isPrefixOf]
      · simp [List.isPrefixOf, h, h2, Ne.symm h2]
    · simp [List.isPrefixOf, h, Ne.symm h]
/-! ### Numbers -/
def decO (l : Bs) : Option Int := (value 10 10 2147483648 l).map fun (v : Nat) => (v : Int)
def hexO (l : Bs) : Option Int := (value 16 8 4294967296 l).map fun (v : Nat) => redW (v : Int)
theorem dec_key {l : Bs} (h0 : l ≠ []) (h10 : l.length ≤ 10) (hw : l.all wordB = true) : (decO l).getD 0 = (readC (canon l)).1 ∧ (decO l).isSome = ((readC (canon l)).2 == 0) := by
  rw [dec_read h0 h10 hw]
  unfold decO
  cases value 10 10 2147483648 l <;> exact ⟨rfl, rfl⟩
theorem opt_key (o : Option Nat) (f : Nat → Int) : (o.map f).getD 0 = (match o with | some v => (f v, (0 : Int)) | none => (0, 5)).1 ∧ (o.map f).isSome = ((match o with | some v => (f v, (0 : Int)) | none => (0, 5)).2 == 0) := by
  cases o with
  | none => exact ⟨rfl, rfl⟩
  | some v => exact ⟨rfl, rfl⟩
theorem hex_key' {l : Bs} (R : Int × Int) (hR : R = match value 16 8 4294967296 l with | some v => (redW (v : Int), 0) | none => (0, 5)) : (hexO l).getD 0 = R.1 ∧ (hexO l).isSome = (R.2 == 0) := by
  rw [hR]
  exact opt_key (value 16 8 4294967296 l) (fun v => redW (v : Int))
theorem hex_key {l : Bs} (h1 : 1 ≤ l.length) (h8 : l.length ≤ 8) : (hexO l).getD 0 = (readC (35 :: (List.replicate (8 - l.length) 48 ++ l))).1 ∧ (hexO l).isSome = ((readC (35 :: (List.replicate (8 - l.length) 48 ++ l))).2 == 0) :=
  hex_key' _ (hex_pad h1 h8)
theorem ret_nb {k : IntKind} {a b : Int} {p q : Bool} (h : a = b) (h' : p = q) : Ending.returned (.tuple #[.int k a, .bool p]) = .returned (.tuple #[.int k b, .bool q]) := by rw [h, h']
set_option maxRecDepth 100000 in
set_option maxHeartbeats 4000000 in
theorem decimal_any (l : Bs) (h0 : l ≠ []) (hw : l.all wordB = true) (hl : l.length ≤ maxLen) (w : World) (ht : W1.Tab w) : Calls Tryz.prog 107 #[.string (strOf l)] w fun e w' => e = .returned (.tuple #[.int .i32 ((decO l).getD 0), .bool (decO l).isSome]) ∧ Below w.heap.size w w' := by
  have hsz := size_strOf l
  obtain ⟨n, hn⟩ : ∃ n, l.length = n := ⟨_, rfl⟩
  rw [hn] at hsz hl
  unfold maxLen at hl
  have hn0 : (0 : Int) ≤ (n : Int) := by omega
  by_cases h10 : (10 : Int) < (n : Int)
  · have e : decO l = none := by unfold decO; rw [value_far (by omega)]; rfl
    rw [e]
    clear hn e h0 hw
    generalize strOf l = S at *
    go_enter Tryz.func107, Tryz.ntmps107
    go_wp2
    go_ret2
    exact ⟨rfl, b0 _⟩
  · obtain ⟨k1, k2⟩ := dec_key h0 (by omega) hw
    rw [k1, k2]
    clear k1 k2 h0 hw hn
    have CT := Lib.hid (fun (W : World) => cTrim0 l W)
    have CR := Lib.hid (wRead (canon l) w ht)
    have he := eq_nil (cut0 l)
    generalize (readC (canon l)).1 = a at *
    generalize (readC (canon l)).2 = b at *
    by_cases hc : cut0 l = []
    · have e : canon l = [48] := by unfold canon; rw [if_pos hc]
      rw [e] at CR
      rw [show (cut0 l).isEmpty = true by rw [hc]; rfl] at he
      have CR2 : Hid (Calls Tryz.prog 118 #[.string ⟨#[48]⟩] w fun e w' => e = .returned (.tuple #[.int .i32 a, .int .i64 b]) ∧ Below w.heap.size w w') := Lib.hid CR.out
      clear e hc CR
      generalize strOf (cut0 l) = T at *
      generalize strOf l = S at *
      go_enter Tryz.func107, Tryz.ntmps107
      go_wp2_with (first
        | (go_at_call 117; (with_reducible refine (CT.out _).mono ?_); rintro e w1 ⟨rfl, rfl⟩)
        | (go_at_call 118; (with_reducible refine (CR2.out).mono ?_); rintro e w1 ⟨rfl, b1⟩; have B1 := Lib.hid b1; clear b1))
      go_ret2
      exact ⟨rfl, B1.out⟩
    · have e : canon l = cut0 l := by unfold canon; rw [if_neg hc]
      rw [e] at CR
      rw [show (cut0 l).isEmpty = false by cases h : cut0 l with | nil => exact absurd h hc | cons c r => rfl] at he
      clear e hc
      generalize strOf (cut0 l) = T at *
      generalize strOf l = S at *
      go_enter Tryz.func107, Tryz.ntmps107
      go_wp2_with (first
        | (go_at_call 117; (with_reducible refine (CT.out _).mono ?_); rintro e w1 ⟨rfl, rfl⟩)
        | (go_at_call 118; (with_reducible refine (CR.out).mono ?_); rintro e w1 ⟨rfl, b1⟩; have B1 := Lib.hid b1; clear b1))
      go_ret2
      exact ⟨rfl, B1.out⟩
set_option maxRecDepth 100000 in
set_option maxHeartbeats 4000000 in
theorem hexadecimal_any (l : Bs) (hl : l.length ≤ maxLen) (w : World) (ht : W1.Tab w) : Calls Tryz.prog 108 #[.string (strOf l)] w fun e w' => e = .returned (.tuple #[.int .i32 ((hexO l).getD 0), .bool (hexO l).isSome]) ∧ Below w.heap.size w w' := by
  have hsz := size_strOf l
  have he := eq_nil l
  by_cases h0 : l = []
  · have e : hexO l = none := by unfold hexO; rw [h0, value_none]; rfl
    rw [e]
    rw [show l.isEmpty = true by rw [h0]; rfl] at he
    clear e h0 hsz
    generalize strOf l = S at *
    go_enter Tryz.func108, Tryz.ntmps108
    go_wp2
    go_ret2
    exact ⟨rfl, b0 _⟩
  · have hpos := List.length_pos_iff.2 h0
    rw [show l.isEmpty = false by cases l with | nil => exact absurd rfl h0 | cons c r => rfl] at he
    obtain ⟨n, hn⟩ : ∃ n, l.length = n := ⟨_, rfl⟩
    rw [hn] at hsz hl hpos
    unfold maxLen at hl
    have hn0 : (0 : Int) ≤ (n : Int) := by omega
    by_cases h8 : (8 : Int) < (n : Int)
    · have e : hexO l = none := by unfold hexO; rw [value_far (by omega)]; rfl
      rw [e]
      have q8 : decide ((8 : Int) < (n : Int)) = true := decide_eq_true h8
      clear hn e h0
      generalize strOf l = S at *
      go_enter Tryz.func108, Tryz.ntmps108
      go_wp2
      go_ret2
      exact ⟨rfl, b0 _⟩
    · have q8 : decide ((8 : Int) < (n : Int)) = false := decide_eq_false h8
      obtain ⟨k1, k2⟩ := hex_key (l := l) (by omega) (by omega)
      rw [k1, k2, hn]
      have CR := Lib.hid (fun (W : World) (h : W1.Tab W) => wRead (35 :: (List.replicate (8 - n) 48 ++ l)) W h)
      have CP := Lib.hid (cRepeat1 48 (8 - n) (by omega) w)
      have e8 : ((8 - n : Nat) : Int) = 8 - (n : Int) := by omega
      rw [e8] at CP
      have t1 : Op.stringOp .add ⟨#[35]⟩ (strOf (List.replicate (8 - n) 48)) = pure (.string (strOf (35 :: List.replicate (8 - n) 48))) := cat_str [35] (List.replicate (8 - n) 48) (by rw [List.length_replicate]; simp; omega)
      have t2 : Op.stringOp .add (strOf (35 :: List.replicate (8 - n) 48)) (strOf l) = pure (.string (strOf (35 :: (List.replicate (8 - n) 48 ++ l)))) := cat_str (35 :: List.replicate (8 - n) 48) l (by rw [List.length_cons, List.length_replicate]; omega)
      have HT := Lib.hid ht
      clear k1 k2 hn e8 h0 hpos ht
      generalize (readC (35 :: (List.replicate (8 - n) 48 ++ l))).1 = a at *
      generalize (readC (35 :: (List.replicate (8 - n) 48 ++ l))).2 = b at *
      generalize strOf (35 :: (List.replicate (8 - n) 48 ++ l)) = X1 at *
      generalize strOf (35 :: List.replicate (8 - n) 48) = X2 at *
      generalize strOf (List.replicate (8 - n) 48) = X3 at *
      generalize strOf l = S at *
      go_enter Tryz.func108, Tryz.ntmps108
      go_wp2_with (first
        | (go_at_call 119; (with_reducible refine (CP.out).mono ?_); rintro e w1 ⟨rfl, b1⟩; have B1 := Lib.hid b1; clear b1)
        | (go_at_call 118; (with_reducible refine (CR.out _ (HT.out.below B1.out)).mono ?_); rintro e w2 ⟨rfl, b2⟩; have B2 := Lib.hid (blw B1.out b2); clear b2))
      go_ret2
      exact ⟨rfl, B2.out⟩
/-! ### Characters -/
def escs : Bs := [99, 110, 116, 39, 42, 115, 34]
def escd : Bs := [13, 10, 9, 39, 42, 32, 34]
def escOK (c : UInt8) : Bool := (decide (Lib.indexByte escs c = -1) && decide (short c = none)) || (decide (0 ≤ Lib.indexByte escs c) && decide (Lib.indexByte escs c < 7) && decide (short c = some (escd.getD (Lib.indexByte escs c).toNat 0).toNat))
theorem esc_all : ∀ n : Fin 256, escOK (UInt8.ofNat n.val) = true := by decide +kernel
theorem esc_idx (c : UInt8) : (Lib.indexByte escs c = -1 ∧ short c = none) ∨ ∃ i : Nat, i < 7 ∧ Lib.indexByte escs c = (i : Int) ∧ short c = some (escd.getD i 0).toNat := by
  have h := esc_all ⟨c.toNat, c.toNat_lt⟩
  rw [show UInt8.ofNat (⟨c.toNat, c.toNat_lt⟩ : Fin 256).val = c by simp] at h
  unfold escOK at h
  simp only [Bool.or_eq_true, Bool.and_eq_true, decide_eq_true_eq] at h
  rcases h with h | ⟨⟨h1, h2⟩, h3⟩
  · exact .inl h
  · exact .inr ⟨(Lib.indexByte escs c).toNat, by omega, by omega, h3⟩
theorem escd_lt (i : Nat) : (escd.getD i 0).toNat < 256 := (escd.getD i 0).toNat_lt
theorem hexO_two {x y : UInt8} {v : Nat} (h : value 16 8 4294967296 [x, y] = some v) : hexO [x, y] = some (v : Int) ∧ v < 256 := by
  have h2 : v < 256 := by
    have h3 := value_two x y
    rw [h] at h3
    exact value_lt h3
  refine ⟨?_, h2⟩
  unfold hexO
  rw [h]
  show some (redW (v : Int)) = some (v : Int)
  rw [redW_in (v : Int) (by omega) (by omega)]
theorem mid_form {s : Bs} (h : 4 ≤ s.length) : ∃ x y, (s.take 4).drop 2 = [x, y] := by
  match s, h with
  | a :: b :: c :: d :: r, _ => exact ⟨c, d, rfl⟩
/-- The first part of an escape: two hexadecimal digits. -/
def escH (s : Bs) : Option Nat := if 4 ≤ s.length ∧ s.take 2 = [42, 35] then value 16 8 4294967296 ((s.take 4).drop 2) else none
def escS (s : Bs) : Nat × Nat := if 2 ≤ s.length then (match short (s.getD 1 0) with | some v => (v, 2) | none => (0, 0)) else (0, 0)
theorem escP_h {s : Bs} {v : Nat} (h : escH s = some v) : escP s = (v, 4) := by unfold escH at h; unfold escP; rw [h]
theorem escP_s {s : Bs} (h : escH s = none) : escP s = escS s := by unfold escH at h; unfold escP escS; rw [h]; rfl
end Go.Proofs.YtplcmcealeeppaaGreatDoor
/- The reference: how a byte is shown. -/
set_option linter.unusedVariables false
set_option linter.unusedSimpArgs false
namespace Go.Proofs.YtplcmcealeeppaaGreatDoor
open Go Go.RowKit L8

def hexs : Bs := [48, 49, 50, 51, 52, 53, 54, 55, 56, 57, 65, 66, 67, 68, 69, 70]
theorem hex_cut : ∀ a : Fin 16, (hexs.take (a.val + 1)).drop a.val = [hexDg a.val] := by decide
theorem cut_mid32 (l : Bs) (i k : Nat) (h1 : i ≤ k) (h : k ≤ l.length) (W : World) : (Instr.slice 9 (.string (strOf l)) (some (.int .i32 (i : Int))) (some (.int .i32 (k : Int))) none).run Tryz.prog W = .ok (.string (strOf ((l.take k).drop i))) W := by
  have hs := size_strOf l
  rw [run_slice_string W 9 _ .i32 .i32 (i : Int) (k : Int) Tryz.underlying9 (by omega) (by omega) (by rw [hs]; omega), Int.toNat_natCast, Int.toNat_natCast]
  congr 2
  apply ByteArray.ext
  apply Array.ext'
  have h2 : (strOf l).data.toList = l := rfl
  simp only [ByteArray.data_extract, Array.toList_extract, h2]
  simp [strOf, List.extract, List.drop_take]
theorem hex_at (a : Nat) (h : a < 16) (W : World) : (Instr.slice 9 (.string ⟨#[48, 49, 50, 51, 52, 53, 54, 55, 56, 57, 65, 66, 67, 68, 69, 70]⟩) (some (.int .i32 (a : Int))) (some (.int .i32 ((a : Int) + 1))) none).run Tryz.prog W = .ok (.string (strOf [hexDg a])) W := by
  have := cut_mid32 hexs a (a + 1) (by omega) (by have : hexs.length = 16 := rfl; omega) W
  rw [hex_cut ⟨a, h⟩] at this
  exact this
theorem shown_hex {v : Nat} (h1 : v ≠ 13 ∧ v ≠ 10 ∧ v ≠ 9 ∧ v ≠ 39 ∧ v ≠ 42) (h2 : ¬ (32 ≤ v ∧ v ≤ 126)) : shown (v : Int) = [42, 35, hexDg (v / 16), hexDg (v % 16)] := by
  unfold shown
  rw [if_neg (by omega), if_neg (by omega), if_neg (by omega), if_neg (by omega), if_neg (by omega), if_neg (by omega)]
  rfl
theorem shown_self {v : Nat} (h1 : v ≠ 13 ∧ v ≠ 10 ∧ v ≠ 9 ∧ v ≠ 39 ∧ v ≠ 42) (h2 : 32 ≤ v ∧ v ≤ 126) : shown (v : Int) = [UInt8.ofNat v] := by
  unfold shown
  rw [if_neg (by omega), if_neg (by omega), if_neg (by omega), if_neg (by omega), if_neg (by omega), if_pos (by omega)]
  rfl
theorem conv_one (v : Nat) (w : World) : (convert 83 9 (.slice (some ⟨w.heap.size, 0, none⟩) 1 1)).run Tryz.prog (w.alloc (.cells #[.int .u8 (v : Int)] 5)) = .ok (.string (strOf [UInt8.ofNat v])) (w.alloc (.cells #[.int .u8 (v : Int)] 5)) := by
  have hc : (w.alloc (.cells #[.int .u8 (v : Int)] 5)).cell? ⟨w.heap.size, 0, none⟩ = some (.int .u8 (v : Int)) := ((boxS_new w 5 #[.int .u8 (v : Int)]).cell 0).trans rfl
  have hl := run_loadCells_list (P := Tryz.prog) (w.alloc (.cells #[.int .u8 (v : Int)] 5)) ⟨w.heap.size, 0, none⟩ [.int .u8 (v : Int)] (by
    intro j u hj
    match j, hj with
    | 0, hj => injection hj with hj; subst hj; exact hc)
  rw [run_convert_bytes_string _ 83 9 5 _ _ _ Tryz.underlying83 Tryz.underlying5 Tryz.underlying9, run_bytesToString _ _ 1 1 [(v : Int)] hl]
  congr 2
end Go.Proofs.YtplcmcealeeppaaGreatDoor
/- The reference: the text of a token. -/
set_option linter.unusedVariables false
set_option linter.unusedSimpArgs false
namespace Go.Proofs.YtplcmcealeeppaaGreatDoor
open Go Go.RowKit L8

theorem one_num {k : Nat} {a n : Int} {tx : Bs} (h : k = 3) : one ⟨k, a, tx, n⟩ = textL n (decide (n < 0)) := by unfold one; rw [if_pos h]
theorem one_byte {k : Nat} {a n : Int} {tx : Bs} (h : k = 4) : one ⟨k, a, tx, n⟩ = 39 :: (shown n ++ [39]) := by unfold one; dsimp only; rw [if_neg (by omega), if_pos h]
theorem one_text {k : Nat} {a n : Int} {tx : Bs} (h3 : k ≠ 3) (h4 : k ≠ 4) : one ⟨k, a, tx, n⟩ = tx := by unfold one; dsimp only; rw [if_neg h3, if_neg h4]
end Go.Proofs.YtplcmcealeeppaaGreatDoor
