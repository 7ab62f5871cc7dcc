/- strings.IndexRune finds no rune above ASCII in a string of ASCII. -/
import Derived.Test.YtldnmdadlgjbgaaDoorWb
import Derived.Test.YtldnmdadlgjbgaaDoorShelf
import Derived.Lib.OthersKept
import Derived.Laws.RangeAny
set_option linter.unusedVariables false
set_option linter.unusedSimpArgs false
namespace Go.Proofs.YtldnmdadlgjbgaaDoor.W1
open Go Go.RowKit

def asciiS (s : ByteArray) : Prop := ∀ b ∈ s.data.toList, b.toNat < 128
theorem indexByte_no : ∀ (l : List UInt8) (c : UInt8), (∀ b ∈ l, b ≠ c) → Lib.indexByte l c = -1
  | [], _, _ => rfl
  | b :: l, c, h => by
    have h1 : (b == c) = false := by simpa using h b (by simp)
    have h2 := indexByte_no l c (fun x hx => h x (by simp [hx]))
    unfold Lib.indexByte
    rw [h1, h2]
    rfl
set_option maxRecDepth 100000 in
theorem IndexRune_bad (s : ByteArray) (r : Int) (h0 : 128 ≤ r) (hne : r ≠ 65533) (hv : Lib.validRune r = false) (w : World) :
    Calls Tryd.prog 77 #[.string s, .int .i32 r] w fun e w' => e = .returned (.int .i64 (-1)) ∧ w = w' := by
  have n1 : ¬ r < 128 := by omega
  have n2 : (r == 65533) = false := by simpa using hne
  go_enter Tryd.func77, Tryd.ntmps77
  go_wp2_with (go_at_call 86; refine (Tryd.utf8_ValidRune _ _).mono ?_; rintro e w' ⟨rfl, rfl⟩)
  go_ret
  exact ⟨rfl, rfl⟩
set_option maxRecDepth 100000 in
theorem IndexRune_error (s : ByteArray) (hs : asciiS s) (w : World) :
    Calls Tryd.prog 77 #[.string s, .int .i32 65533] w fun e w' => e = .returned (.int .i64 (-1)) ∧ Below w.heap.size w w' := by
  have hk0 := World.iter_heap w s 0
  have hb0 : Below w.heap.size w (w.iter s 0) := (Below.refl _ _).alloc (Nat.le_refl _) _
  go_enter Tryd.func77, Tryd.ntmps77
  go_wp2
  go_loopw [5, 6] (fun _ _ wr => ∃ pos : Nat, pos ≤ s.size ∧ wr.heap[w.heap.size]? = some (.stringIter s pos) ∧ Below w.heap.size w wr) (fun _ _ wr => s.size - wr.iterPos w.heap.size)
  case atStart => exact ⟨0, Nat.zero_le _, hk0, hb0⟩
  case round =>
    obtain ⟨pos, hps, hk, hnx⟩ := hrel
    clear hk0 hb0
    by_cases hp : pos < s.size
    · have h128 : (s[pos]'hp).toNat < 128 := hs _ (Array.getElem_mem_toList (xs := s.data) hp)
      have hnext : ∀ ty, (Instr.next (.pointer (some ⟨w.heap.size, 0, none⟩)) true ty).run Tryd.prog wr = _ := fun ty => Lib.run_next_ascii_at wr w.heap.size s pos ty hk hp h128
      have hk1 := Lib.iterAt_heap wr w.heap.size s pos (pos + 1) hk
      have hnx1 : Below w.heap.size w (wr.iterAt w.heap.size s (pos + 1)) := Lib.below_iterAt hnx (by omega) s (pos + 1)
      have hmu : wr.iterPos w.heap.size = pos := by simp [World.iterPos, hk]
      generalize wr.iterAt w.heap.size s (pos + 1) = W1 at hnext hk1 hnx1
      generalize (s[pos]'hp).toNat = q at *
      have hq : ((q : Int) == 65533) = false := by simp; omega
      have hmu2 : W1.iterPos w.heap.size = pos + 1 := by simp [World.iterPos, hk1]
      have Hm := Lib.hid hmu
      have Hm2 := Lib.hid hmu2
      clear hmu hmu2 hk
      go_wp2
      go_roundw
      case rel => exact ⟨pos + 1, by omega, hk1, hnx1⟩
      case measure =>
        rw [Hm.out, Hm2.out]
        omega
    · have hnext : ∀ ty, (Instr.next (.pointer (some ⟨w.heap.size, 0, none⟩)) true ty).run Tryd.prog wr = _ := fun ty => Lib.run_next_end_at wr w.heap.size s pos ty hk hp
      go_wp2
      go_ret
      exact ⟨rfl, hnx⟩
theorem quiet_more {P : Program} {f : FuncId} {args : Array Value} {w : World} {a n : Nat} {v : Value}
    (h : Calls P f args (w.drewN (a + n)) fun e w' => e = .returned v ∧ w' = w.drewN (a + n)) :
    Calls P f args (w.drewN (a + n)) fun e w'' => e = .returned v ∧ ∃ m, w'' = w.drewN (a + m) :=
  h.mono fun _ _ ⟨he, hm⟩ => ⟨he, n, hm⟩
theorem IndexByte_no (t : ByteArray) (ht : asciiS t) (q : Nat) (h0 : 128 ≤ q) (h1 : q < 256) (w : World) :
    Calls Tryd.prog 67 #[.string t, .int .u8 (q : Int)] w fun e w' => e = .returned (.int .i64 (-1)) ∧ w' = w := by
  have h := Tryd.strings_IndexByte t (q : Int) w
  rw [indexByte_no t.data.toList _ (fun b hb e => by
    have h2 := ht b hb
    rw [e] at h2
    simp at h2
    omega)] at h
  exact h
theorem ascii_extract (s : ByteArray) (hs : asciiS s) (a e : Nat) : asciiS (s.extract a e) := fun b hb => hs b (mem_extract hb)
theorem slice_from (s : ByteArray) (k : Nat) (h : k ≤ s.size) (W : World) : (Instr.slice 9 (.string s) (some (.int .i64 (k : Int))) none none).run Tryd.prog W = .ok (.string (s.extract k s.size)) W := by
  rw [run_slice_string_from_if W 9 s .i64 (k : Int) Tryd.underlying9, if_pos ⟨by omega, by omega⟩, Int.toNat_natCast]
theorem index_last (s : ByteArray) (k : Nat) (h0 : 1 ≤ k) (h : k - 1 < s.size) (W : World) : (Instr.index 9 (.string s) (.int .i64 ((k : Int) - 1))).run Tryd.prog W = .ok (.int .u8 ((s[k - 1]'h).toNat : Int)) W := by
  rw [show (k : Int) - 1 = ((k - 1 : Nat) : Int) by omega]
  exact index_str s (k - 1) h W
set_option maxRecDepth 100000 in
set_option maxHeartbeats 1000000 in
theorem IndexRune_good (s : ByteArray) (hs : asciiS s) (_hz : s.size ≤ 16) (r : Int) (h0 : 128 ≤ r) (hne : r ≠ 65533) (hv : Lib.validRune r = true) (w : World) :
    Calls Tryd.prog 77 #[.string s, .int .i32 r] w fun e w' => e = .returned (.int .i64 (-1)) ∧ ∃ n, w' = w.drewN n := by
  have n1 : ¬ r < 128 := by omega
  have n2 : (r == 65533) = false := by simpa using hne
  have hv' : Utf8.valid r = true := by rw [validRune_eq]; exact hv
  obtain ⟨z0, z1, z2⟩ := encode_facts r hv' h0
  by_cases hlt : (Utf8.encode r).size - 1 < s.size
  · have hx := fun W => index_last (Utf8.encode r) (Utf8.encode r).size (by omega) (by omega) W
    have hy := fun W => index_last s (Utf8.encode r).size (by omega) hlt W
    have hp : (s[(Utf8.encode r).size - 1]'hlt).toNat < 128 := hs _ (Array.getElem_mem_toList (xs := s.data) hlt)
    have hq := z2 (by omega)
    have hq2 : ((Utf8.encode r)[(Utf8.encode r).size - 1]'(by omega)).toNat < 256 := UInt8.toNat_lt _
    generalize (s[(Utf8.encode r).size - 1]'hlt).toNat = p at *
    generalize ((Utf8.encode r)[(Utf8.encode r).size - 1]'(by omega)).toNat = q at *
    have e1 : ((p : Int) == (q : Int)) = false := by simp; omega
    have e2 : (p == q) = false := by simp; omega
    clear z2 hv'
    have hlt' : ((Utf8.encode r).size : Int) - 1 < s.size := by omega
    go_enter Tryd.func77, Tryd.ntmps77
    go_wp2_with (go_at_call 86; refine (Tryd.utf8_ValidRune _ _).mono ?_; rintro e w' ⟨rfl, rfl⟩)
    go_step3
    go_wp2
    refine wp_loop_rounds 1 ?_
    rw [rounds_succ]
    go_wp2
    go_step3
    go_wp2
    go_quiet (fail)
    clear hy
    go_wp2
    have hsl := fun W => slice_from s (Utf8.encode r).size (by omega) W
    have w1 : IntKind.i64.wrap ((Utf8.encode r).size : Int) = ((Utf8.encode r).size : Int) := IntWalk.i64_in _ (by omega)
    have w2 : IntKind.i64.wrap ((Utf8.encode r).size - 1 + 1 : Int) = ((Utf8.encode r).size : Int) := by rw [IntWalk.i64_in _ (by omega)]; omega
    have ht := ascii_extract s hs (Utf8.encode r).size s.size
    generalize s.extract (Utf8.encode r).size s.size = t at *
    go_quiet ((go_at_call 67; exact quiet_more (IndexByte_no t ht q hq hq2 _)))
    clear hsl w1 w2 hx
    go_wp2
    rw [Exit.noGoto_ret]
    simp only [Exit.inBlock, Exit.then]
    rw [Exit.noGoto_ret]
    go_ret
    exact ⟨rfl, _, rfl⟩
  · clear z2 hv'
    have hlt' : ¬ ((Utf8.encode r).size : Int) - 1 < s.size := by omega
    go_enter Tryd.func77, Tryd.ntmps77
    go_wp2_with (go_at_call 86; refine (Tryd.utf8_ValidRune _ _).mono ?_; rintro e w' ⟨rfl, rfl⟩)
    go_step3
    go_wp2
    refine wp_loop_rounds 1 ?_
    rw [rounds_succ]
    go_wp2
    repeat rw [Exit.noGoto_ret]
    go_ret
    exact ⟨rfl, 0, rfl⟩
/-- At every rune: the place of an ASCII rune; none above. -/
theorem IndexRune_any (s : ByteArray) (hs : asciiS s) (hz : s.size ≤ 16) (r : Int) (h0 : 0 ≤ r) (w : World) :
    Calls Tryd.prog 77 #[.string s, .int .i32 r] w fun e w' => e = .returned (.int .i64 (if r < 128 then Lib.indexByte s.data.toList r.toNat.toUInt8 else -1)) ∧ Below w.heap.size w w' := by
  by_cases h1 : r < 128
  · rw [if_pos h1]
    exact (Tryd.strings_IndexRune_ascii s r w h0 h1).mono fun e w' ⟨he, hw⟩ => ⟨he, hw ▸ Below.refl _ _⟩
  · rw [if_neg h1]
    by_cases h2 : r = 65533
    · subst h2
      exact IndexRune_error s hs w
    · cases hv : Lib.validRune r
      · exact (IndexRune_bad s r (by omega) h2 hv w).mono fun e w' ⟨he, hw⟩ => ⟨he, hw ▸ Below.refl _ _⟩
      · exact (IndexRune_good s hs hz r (by omega) h2 hv w).mono fun e w' ⟨he, n, hw⟩ => ⟨he, by rw [hw]; exact ⟨rfl, rfl, rfl, Nat.le_refl _, fun _ _ => rfl⟩⟩
end Go.Proofs.YtldnmdadlgjbgaaDoor.W1
