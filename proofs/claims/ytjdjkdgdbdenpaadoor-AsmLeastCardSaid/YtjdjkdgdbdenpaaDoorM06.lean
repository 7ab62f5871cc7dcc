/- word.natural reads digits as 'natL' says. -/
import Derived.Test.YtjdjkdgdbdenpaaDoorM05
set_option linter.unusedVariables false
set_option linter.unusedSimpArgs false
namespace Go.Proofs.YtjdjkdgdbdenpaaDoor
open Go Go.RowKit

/-- The digits of a base. -/
def tab (b : Nat) : ByteArray := strOf (([48, 49, 50, 51, 52, 53, 54, 55, 56, 57, 65, 66, 67, 68, 69, 70] : List UInt8).take b)
def natRes (base : Nat) (l : List UInt8) : Int × Bool := match natL base l 0 with | some n => ((n : Int), true) | none => (0, false)
theorem natRes_none {base : Nat} {l : List UInt8} (h : natL base l 0 = none) : (natRes base l).1 = 0 ∧ (natRes base l).2 = false := by unfold natRes; rw [h]; exact ⟨rfl, rfl⟩
theorem natRes_some {base n : Nat} {l : List UInt8} (h : natL base l 0 = some n) : (natRes base l).1 = (n : Int) ∧ (natRes base l).2 = true := by unfold natRes; rw [h]; exact ⟨rfl, rfl⟩
theorem drop_at (s : ByteArray) (k : Nat) (h : k < s.size) : s.data.toList.drop k = s[k] :: s.data.toList.drop (k + 1) := by
  have : k < s.data.toList.length := by simpa using h
  rw [List.drop_eq_getElem_cons this]
  rfl
theorem drop_all (s : ByteArray) (k : Nat) (h : ¬ k < s.size) : s.data.toList.drop k = [] := List.drop_eq_nil_of_le (by simpa using h)
theorem dval_high {base : Nat} (c : UInt8) (h : 128 ≤ c.toNat) : dval base c = none := by
  unfold dval
  rw [if_neg (by omega), if_neg (by omega)]
theorem IndexRune_high (s : ByteArray) (hs : asciiS s) (hz : s.size ≤ 16) (r : Int) (h0 : 128 ≤ r) (w : World) :
    Calls Tryd.prog 95 #[.string s, .int .i32 r] w fun e w' => e = .returned (.int .i64 (-1)) ∧ Below w.heap.size w w' := by
  have h := IndexRune_any s hs hz r (by omega) w
  rw [if_neg (by omega)] at h
  exact h

theorem slice_tab16 (W : World) : (Instr.slice 9 (.string ⟨#[48, 49, 50, 51, 52, 53, 54, 55, 56, 57, 65, 66, 67, 68, 69, 70]⟩) none (some (.int .i64 16)) none).run Tryd.prog W = .ok (.string (tab 16)) W := by
  have hs : (⟨#[48, 49, 50, 51, 52, 53, 54, 55, 56, 57, 65, 66, 67, 68, 69, 70]⟩ : ByteArray).size = 16 := rfl
  rw [run_slice_string_to_if W 9 _ .i64 16 Tryd.underlying9, if_pos ⟨by omega, by rw [hs]; omega⟩]
  congr 2
theorem tab16_ascii : asciiS (tab 16) := by
  have h : ∀ b ∈ (tab 16).data.toList, b.toNat < 128 := by decide
  exact h
theorem tab16_find (c : UInt8) : Lib.indexByte (tab 16).data.toList c = match dval 16 c with | some d => (d : Int) | none => -1 := by
  have h : ∀ i : Fin 256, Lib.indexByte (tab 16).data.toList (UInt8.ofNat i.val) = match dval 16 (UInt8.ofNat i.val) with | some d => (d : Int) | none => -1 := by decide +kernel
  have h1 := h ⟨c.toNat, c.toNat_lt⟩
  simp only [UInt8.ofNat_toNat] at h1
  exact h1
set_option maxHeartbeats 1000000 in
theorem natural16_any (s : ByteArray) (w : World) :
    Calls Tryd.prog 89 #[.string s, .int .i64 16] w fun e w' => e = .returned (.tuple #[.int .i64 (natRes 16 s.data.toList).1, .bool (natRes 16 s.data.toList).2]) ∧ Below w.heap.size w w' := by
  have hk0 := World.iter_heap w s 0
  have hb0 : Below w.heap.size w (w.iter s 0) := (Below.refl _ _).alloc (Nat.le_refl _) _
  have htab := slice_tab16
  go_enter Tryd.func89, Tryd.ntmps89
  go_wp2
  go_loopw [4, 7, 8] (fun x _ _ wr => ∃ pos n : Nat, pos ≤ s.size ∧ n ≤ 68719476735 ∧ x = .int .i64 n ∧ Hid (natL 16 s.data.toList 0 = natL 16 (s.data.toList.drop pos) n) ∧ wr.heap[w.heap.size]? = some (.stringIter s pos) ∧ Below w.heap.size w wr) (fun _ _ _ wr => s.size - wr.iterPos w.heap.size)
  case atStart => exact ⟨0, 0, Nat.zero_le _, by omega, rfl, Lib.hid rfl, hk0, hb0⟩
  case round =>
    obtain ⟨pos, n, hps, hnb, rfl, HN, hk, hnx⟩ := hrel
    clear hk0 hb0
    have hmu : wr.iterPos w.heap.size = pos := by simp [World.iterPos, hk]
    have Hm := Lib.hid hmu
    clear hmu
    by_cases hp : pos < s.size
    · have hdrop := drop_at s pos hp
      rw [hdrop] at HN
      clear hdrop
      by_cases h128 : (s[pos]'hp).toNat < 128
      · have hnext : ∀ ty, (Instr.next (.pointer (some ⟨w.heap.size, 0, none⟩)) true ty).run Tryd.prog wr = _ := fun ty => Lib.run_next_ascii_at wr w.heap.size s pos ty hk hp h128
        have hk1 := Lib.iterAt_heap wr w.heap.size s pos (pos + 1) hk
        have hnx1 : Below w.heap.size w (wr.iterAt w.heap.size s (pos + 1)) := Lib.below_iterAt hnx (by omega) s (pos + 1)
        generalize wr.iterAt w.heap.size s (pos + 1) = W1 at hnext hk1 hnx1
        have hmu2 : W1.iterPos w.heap.size = pos + 1 := by simp [World.iterPos, hk1]
        have Hm2 := Lib.hid hmu2
        clear hmu2 hk hnx
        generalize (s[pos]'hp) = c at *
        have C := Tryd.strings_IndexRune_ascii (tab 16) ((c.toNat : Nat) : Int)
        have hf := tab16_find c
        have hcc : ((c.toNat : Int)).toNat.toUInt8 = c := by simp
        rw [hcc, hf] at C
        clear hcc hf
        generalize hq : c.toNat = q at *
        clear hq
        cases hd : dval 16 c with
        | none =>
          rw [hd] at C
          have hfin : natL 16 s.data.toList 0 = none := by rw [HN.out, natL_cons, hd]
          have Hf := Lib.hid (natRes_none hfin)
          have CC := Lib.hid C
          clear hd hfin C
          go_wp2_with (go_at_call 95; refine (CC.out _ (by omega) (by omega)).mono ?_; rintro e w' ⟨rfl, rfl⟩)
          go_ret2
          exact ⟨ret_ib Hf.out.1.symm Hf.out.2.symm, hnx1⟩
        | some d =>
          rw [hd] at C
          have hdl := dval_lt (by decide) hd
          by_cases hbig : 4294967295 < n
          · have hfin : natL 16 s.data.toList 0 = none := by rw [HN.out, natL_cons, hd]; simp only [if_pos hbig]
            have Hf := Lib.hid (natRes_none hfin)
            have CC := Lib.hid C
            clear hd hfin C
            go_wp2_with (go_at_call 95; refine (CC.out _ (by omega) (by omega)).mono ?_; rintro e w' ⟨rfl, rfl⟩)
            go_ret2
            exact ⟨ret_ib Hf.out.1.symm Hf.out.2.symm, hnx1⟩
          · have hfin : natL 16 s.data.toList 0 = natL 16 (s.data.toList.drop (pos + 1)) (n * 16 + d) := by rw [HN.out, natL_cons, hd]; simp only [if_neg hbig]
            have Hf := Lib.hid hfin
            have CC := Lib.hid C
            have hcast : ((n * 16 + d : Nat) : Int) = (n : Int) * 16 + d := by push_cast; rfl
            have Hc := Lib.hid hcast
            clear hd hfin C hcast HN
            go_wp2_with (go_at_call 95; refine (CC.out _ (by omega) (by omega)).mono ?_; rintro e w' ⟨rfl, rfl⟩)
            go_roundw
            case rel => exact ⟨pos + 1, n * 16 + d, by omega, by omega, by rw [Hc.out], Hf, hk1, hnx1⟩
            case measure =>
              rw [Hm.out, Hm2.out]
              omega
      · have hnext : ∀ ty, (Instr.next (.pointer (some ⟨w.heap.size, 0, none⟩)) true ty).run Tryd.prog wr = _ := fun ty => Lib.run_next_any_at wr w.heap.size s pos ty hk hp
        have hnx1 : Below w.heap.size w (wr.iterAt w.heap.size s (pos + (Utf8.decode s pos).2)) := Lib.below_iterAt hnx (by omega) s _
        generalize wr.iterAt w.heap.size s (pos + (Utf8.decode s pos).2) = W1 at hnext hnx1
        have hr := (decode_high s pos hp (by omega)).1
        have hr2 := decode_le s pos
        generalize (Utf8.decode s pos).1 = r at *
        clear hk hnx
        have hd : dval 16 (s[pos]'hp) = none := dval_high _ (by omega)
        generalize (s[pos]'hp) = c at *
        have hfin : natL 16 s.data.toList 0 = none := by rw [HN.out, natL_cons, hd]
        have Hf := Lib.hid (natRes_none hfin)
        have C := Lib.hid (IndexRune_high (tab 16) tab16_ascii (by decide) (r : Int) (by omega))
        clear hd hfin HN
        go_wp2_with (go_at_call 95; refine (C.out _).mono ?_; rintro e w' ⟨rfl, hb1⟩)
        go_ret2
        exact ⟨ret_ib Hf.out.1.symm Hf.out.2.symm, hnx1.trans (hb1.mono hnx1.size)⟩
    · have hnext : ∀ ty, (Instr.next (.pointer (some ⟨w.heap.size, 0, none⟩)) true ty).run Tryd.prog wr = _ := fun ty => Lib.run_next_end_at wr w.heap.size s pos ty hk hp
      have hfin : natL 16 s.data.toList 0 = some n := by rw [HN.out, drop_all s pos hp]; rfl
      have Hf := Lib.hid (natRes_some hfin)
      clear hfin HN
      go_wp2
      go_ret2
      exact ⟨ret_ib Hf.out.1.symm Hf.out.2.symm, hnx⟩

theorem slice_tab10 (W : World) : (Instr.slice 9 (.string ⟨#[48, 49, 50, 51, 52, 53, 54, 55, 56, 57, 65, 66, 67, 68, 69, 70]⟩) none (some (.int .i64 10)) none).run Tryd.prog W = .ok (.string (tab 10)) W := by
  have hs : (⟨#[48, 49, 50, 51, 52, 53, 54, 55, 56, 57, 65, 66, 67, 68, 69, 70]⟩ : ByteArray).size = 16 := rfl
  rw [run_slice_string_to_if W 9 _ .i64 10 Tryd.underlying9, if_pos ⟨by omega, by rw [hs]; omega⟩]
  congr 2
theorem tab10_ascii : asciiS (tab 10) := by
  have h : ∀ b ∈ (tab 10).data.toList, b.toNat < 128 := by decide
  exact h
theorem tab10_find (c : UInt8) : Lib.indexByte (tab 10).data.toList c = match dval 10 c with | some d => (d : Int) | none => -1 := by
  have h : ∀ i : Fin 256, Lib.indexByte (tab 10).data.toList (UInt8.ofNat i.val) = match dval 10 (UInt8.ofNat i.val) with | some d => (d : Int) | none => -1 := by decide +kernel
  have h1 := h ⟨c.toNat, c.toNat_lt⟩
  simp only [UInt8.ofNat_toNat] at h1
  exact h1
set_option maxHeartbeats 1000000 in
theorem natural10_any (s : ByteArray) (w : World) :
    Calls Tryd.prog 89 #[.string s, .int .i64 10] w fun e w' => e = .returned (.tuple #[.int .i64 (natRes 10 s.data.toList).1, .bool (natRes 10 s.data.toList).2]) ∧ Below w.heap.size w w' := by
  have hk0 := World.iter_heap w s 0
  have hb0 : Below w.heap.size w (w.iter s 0) := (Below.refl _ _).alloc (Nat.le_refl _) _
  have htab := slice_tab10
  go_enter Tryd.func89, Tryd.ntmps89
  go_wp2
  go_loopw [4, 7, 8] (fun x _ _ wr => ∃ pos n : Nat, pos ≤ s.size ∧ n ≤ 68719476735 ∧ x = .int .i64 n ∧ Hid (natL 10 s.data.toList 0 = natL 10 (s.data.toList.drop pos) n) ∧ wr.heap[w.heap.size]? = some (.stringIter s pos) ∧ Below w.heap.size w wr) (fun _ _ _ wr => s.size - wr.iterPos w.heap.size)
  case atStart => exact ⟨0, 0, Nat.zero_le _, by omega, rfl, Lib.hid rfl, hk0, hb0⟩
  case round =>
    obtain ⟨pos, n, hps, hnb, rfl, HN, hk, hnx⟩ := hrel
    clear hk0 hb0
    have hmu : wr.iterPos w.heap.size = pos := by simp [World.iterPos, hk]
    have Hm := Lib.hid hmu
    clear hmu
    by_cases hp : pos < s.size
    · have hdrop := drop_at s pos hp
      rw [hdrop] at HN
      clear hdrop
      by_cases h128 : (s[pos]'hp).toNat < 128
      · have hnext : ∀ ty, (Instr.next (.pointer (some ⟨w.heap.size, 0, none⟩)) true ty).run Tryd.prog wr = _ := fun ty => Lib.run_next_ascii_at wr w.heap.size s pos ty hk hp h128
        have hk1 := Lib.iterAt_heap wr w.heap.size s pos (pos + 1) hk
        have hnx1 : Below w.heap.size w (wr.iterAt w.heap.size s (pos + 1)) := Lib.below_iterAt hnx (by omega) s (pos + 1)
        generalize wr.iterAt w.heap.size s (pos + 1) = W1 at hnext hk1 hnx1
        have hmu2 : W1.iterPos w.heap.size = pos + 1 := by simp [World.iterPos, hk1]
        have Hm2 := Lib.hid hmu2
        clear hmu2 hk hnx
        generalize (s[pos]'hp) = c at *
        have C := Tryd.strings_IndexRune_ascii (tab 10) ((c.toNat : Nat) : Int)
        have hf := tab10_find c
        have hcc : ((c.toNat : Int)).toNat.toUInt8 = c := by simp
        rw [hcc, hf] at C
        clear hcc hf
        generalize hq : c.toNat = q at *
        clear hq
        cases hd : dval 10 c with
        | none =>
          rw [hd] at C
          have hfin : natL 10 s.data.toList 0 = none := by rw [HN.out, natL_cons, hd]
          have Hf := Lib.hid (natRes_none hfin)
          have CC := Lib.hid C
          clear hd hfin C
          go_wp2_with (go_at_call 95; refine (CC.out _ (by omega) (by omega)).mono ?_; rintro e w' ⟨rfl, rfl⟩)
          go_ret2
          exact ⟨ret_ib Hf.out.1.symm Hf.out.2.symm, hnx1⟩
        | some d =>
          rw [hd] at C
          have hdl := dval_lt (by decide) hd
          by_cases hbig : 4294967295 < n
          · have hfin : natL 10 s.data.toList 0 = none := by rw [HN.out, natL_cons, hd]; simp only [if_pos hbig]
            have Hf := Lib.hid (natRes_none hfin)
            have CC := Lib.hid C
            clear hd hfin C
            go_wp2_with (go_at_call 95; refine (CC.out _ (by omega) (by omega)).mono ?_; rintro e w' ⟨rfl, rfl⟩)
            go_ret2
            exact ⟨ret_ib Hf.out.1.symm Hf.out.2.symm, hnx1⟩
          · have hfin : natL 10 s.data.toList 0 = natL 10 (s.data.toList.drop (pos + 1)) (n * 10 + d) := by rw [HN.out, natL_cons, hd]; simp only [if_neg hbig]
            have Hf := Lib.hid hfin
            have CC := Lib.hid C
            have hcast : ((n * 10 + d : Nat) : Int) = (n : Int) * 10 + d := by push_cast; rfl
            have Hc := Lib.hid hcast
            clear hd hfin C hcast HN
            go_wp2_with (go_at_call 95; refine (CC.out _ (by omega) (by omega)).mono ?_; rintro e w' ⟨rfl, rfl⟩)
            go_roundw
            case rel => exact ⟨pos + 1, n * 10 + d, by omega, by omega, by rw [Hc.out], Hf, hk1, hnx1⟩
            case measure =>
              rw [Hm.out, Hm2.out]
              omega
      · have hnext : ∀ ty, (Instr.next (.pointer (some ⟨w.heap.size, 0, none⟩)) true ty).run Tryd.prog wr = _ := fun ty => Lib.run_next_any_at wr w.heap.size s pos ty hk hp
        have hnx1 : Below w.heap.size w (wr.iterAt w.heap.size s (pos + (Utf8.decode s pos).2)) := Lib.below_iterAt hnx (by omega) s _
        generalize wr.iterAt w.heap.size s (pos + (Utf8.decode s pos).2) = W1 at hnext hnx1
        have hr := (decode_high s pos hp (by omega)).1
        have hr2 := decode_le s pos
        generalize (Utf8.decode s pos).1 = r at *
        clear hk hnx
        have hd : dval 10 (s[pos]'hp) = none := dval_high _ (by omega)
        generalize (s[pos]'hp) = c at *
        have hfin : natL 10 s.data.toList 0 = none := by rw [HN.out, natL_cons, hd]
        have Hf := Lib.hid (natRes_none hfin)
        have C := Lib.hid (IndexRune_high (tab 10) tab10_ascii (by decide) (r : Int) (by omega))
        clear hd hfin HN
        go_wp2_with (go_at_call 95; refine (C.out _).mono ?_; rintro e w' ⟨rfl, hb1⟩)
        go_ret2
        exact ⟨ret_ib Hf.out.1.symm Hf.out.2.symm, hnx1.trans (hb1.mono hnx1.size)⟩
    · have hnext : ∀ ty, (Instr.next (.pointer (some ⟨w.heap.size, 0, none⟩)) true ty).run Tryd.prog wr = _ := fun ty => Lib.run_next_end_at wr w.heap.size s pos ty hk hp
      have hfin : natL 10 s.data.toList 0 = some n := by rw [HN.out, drop_all s pos hp]; rfl
      have Hf := Lib.hid (natRes_some hfin)
      clear hfin HN
      go_wp2
      go_ret2
      exact ⟨ret_ib Hf.out.1.symm Hf.out.2.symm, hnx⟩
end Go.Proofs.YtjdjkdgdbdenpaaDoor
/- word.value takes a text for what 'guessC' says. -/
namespace Go.Proofs.YtjdjkdgdbdenpaaDoor
open Go Go.RowKit

theorem trim_hit (c : UInt8) (ds : List UInt8) : Lib.trimPrefix (c :: ds) [c] = ds ∧ Lib.hasPrefix (c :: ds) [c] = true := by
  have h : Lib.hasPrefix (c :: ds) [c] = true := by simp [Lib.hasPrefix, List.isPrefixOf]
  exact ⟨by unfold Lib.trimPrefix; rw [h]; rfl, h⟩
theorem trim_miss (c : UInt8) (l : List UInt8) (hl : l.head? ≠ some c) : Lib.trimPrefix l [c] = l ∧ Lib.hasPrefix l [c] = false := by
  have h : Lib.hasPrefix l [c] = false := by
    unfold Lib.hasPrefix
    cases l with
    | nil => rfl
    | cons d ds =>
      have : c ≠ d := fun e => hl (by rw [e]; rfl)
      simp [List.isPrefixOf, this]
  exact ⟨by unfold Lib.trimPrefix; rw [h]; rfl, h⟩
theorem natL_le {base : Nat} (hb : base = 10 ∨ base = 16) : ∀ (l : List UInt8) (n : Nat) {m : Nat}, n ≤ 68719476735 → natL base l n = some m → m ≤ 68719476735
  | [], n, m, hn, h => by injection h with h; omega
  | c :: cs, n, m, hn, h => by
    rw [natL_cons] at h
    cases hd : dval base c with
    | none => rw [hd] at h; cases h
    | some d =>
      rw [hd] at h
      have := dval_lt hb hd
      by_cases hbig : 4294967295 < n
      · simp [hbig] at h
      · simp only [if_neg hbig] at h
        exact natL_le hb cs _ (by rcases hb with rfl | rfl <;> omega) h
theorem natRes_bd {base : Nat} (hb : base = 10 ∨ base = 16) (l : List UInt8) : 0 ≤ (natRes base l).1 ∧ (natRes base l).1 ≤ 68719476735 := by
  unfold natRes
  cases h : natL base l 0 with
  | none => exact ⟨by simp, by simp⟩
  | some n => have := natL_le hb l 0 (by omega) h; simp only; omega
/-- What word.value returns. -/
def valueRes (l : List UInt8) : Int × Bool × Bool := match l with
  | 35 :: ds => ((natRes 16 ds).1, true, (natRes 16 ds).2)
  | 45 :: ds => (-(natRes 10 ds).1, false, (natRes 10 ds).2)
  | l => ((natRes 10 l).1, false, (natRes 10 l).2)
theorem valueRes_other (l : List UInt8) (h1 : l.head? ≠ some 35) (h2 : l.head? ≠ some 45) : valueRes l = ((natRes 10 l).1, false, (natRes 10 l).2) := by
  unfold valueRes
  split
  · exact absurd rfl h1
  · exact absurd rfl h2
  · rfl
theorem ret_3 {a b : Int} {p q r s : Bool} (h : a = b) (h1 : p = q) (h2 : r = s) : Ending.returned (.tuple #[.int .i64 a, .bool p, .bool r]) = .returned (.tuple #[.int .i64 b, .bool q, .bool s]) := by rw [h, h1, h2]
theorem strOf_data (l : List UInt8) : (strOf l).data.toList = l := by simp [strOf]
set_option maxHeartbeats 400000 in
theorem value_any (s : ByteArray) (w : World) :
    Calls Tryd.prog 83 #[.string s] w fun e w' => e = .returned (.tuple #[.int .i64 (valueRes s.data.toList).1, .bool (valueRes s.data.toList).2.1, .bool (valueRes s.data.toList).2.2]) ∧ Below w.heap.size w w' := by
  have c1 := fun W => Tryd.strings_CutPrefix s ⟨#[35]⟩ W
  have c2 := fun W => Tryd.strings_CutPrefix s ⟨#[45]⟩ W
  by_cases h35 : s.data.toList.head? = some 35
  · obtain ⟨ds, hds⟩ : ∃ ds, s.data.toList = 35 :: ds := List.head?_eq_some_iff.1 h35
    rw [hds, (trim_hit 35 ds).1, (trim_hit 35 ds).2] at c1
    have hv : valueRes s.data.toList = ((natRes 16 ds).1, true, (natRes 16 ds).2) := by rw [hds]; rfl
    have C := natural16_any (strOf ds)
    rw [strOf_data] at C
    have CC := Lib.hid C
    have C1 := Lib.hid c1
    have HV := Lib.hid hv
    clear hv C c1 c2 hds h35
    go_enter Tryd.func83, Tryd.ntmps83
    go_wp2_with fail
    refine (C1.out _).mono ?_
    rintro e w' ⟨rfl, rfl⟩
    go_wp2_with fail
    refine (CC.out _).mono ?_
    rintro e w1 ⟨rfl, hb1⟩
    go_wp2
    go_ret3
    exact ⟨ret_3 (by rw [HV.out]) (by rw [HV.out]) (by rw [HV.out]), hb1⟩
  · rw [(trim_miss 35 _ h35).1, (trim_miss 35 _ h35).2] at c1
    by_cases h45 : s.data.toList.head? = some 45
    · obtain ⟨ds, hds⟩ : ∃ ds, s.data.toList = 45 :: ds := List.head?_eq_some_iff.1 h45
      rw [hds, (trim_hit 45 ds).1, (trim_hit 45 ds).2] at c2
      have hv : valueRes s.data.toList = (-(natRes 10 ds).1, false, (natRes 10 ds).2) := by rw [hds]; rfl
      have C := natural10_any (strOf ds)
      rw [strOf_data] at C
      obtain ⟨b0, b1⟩ := natRes_bd (base := 10) (by decide) ds
      have CC := Lib.hid C
      have C1 := Lib.hid c1
      have C2 := Lib.hid c2
      have HV := Lib.hid hv
      clear hv C c1 c2 hds h35 h45
      go_enter Tryd.func83, Tryd.ntmps83
      go_wp2_with fail
      refine (C1.out _).mono ?_
      rintro e w' ⟨rfl, rfl⟩
      go_wp2_with fail
      refine (C2.out _).mono ?_
      rintro e w' ⟨rfl, rfl⟩
      go_wp2_with fail
      refine (CC.out _).mono ?_
      rintro e w1 ⟨rfl, hb1⟩
      go_wp2
      go_ret3
      exact ⟨ret_3 (by rw [HV.out]) (by rw [HV.out]) (by rw [HV.out]), hb1⟩
    · rw [(trim_miss 45 _ h45).1, (trim_miss 45 _ h45).2] at c2
      have hv := valueRes_other _ h35 h45
      have C := natural10_any (strOf s.data.toList)
      rw [strOf_data] at C
      have CC := Lib.hid C
      have C1 := Lib.hid c1
      have C2 := Lib.hid c2
      have HV := Lib.hid hv
      clear hv C c1 c2 h35 h45
      go_enter Tryd.func83, Tryd.ntmps83
      go_wp2_with fail
      refine (C1.out _).mono ?_
      rintro e w' ⟨rfl, rfl⟩
      go_wp2_with fail
      refine (C2.out _).mono ?_
      rintro e w' ⟨rfl, rfl⟩
      go_wp2_with fail
      refine (CC.out _).mono ?_
      rintro e w1 ⟨rfl, hb1⟩
      go_wp2
      go_ret3
      exact ⟨ret_3 (by rw [HV.out]) (by rw [HV.out]) (by rw [HV.out]), hb1⟩
end Go.Proofs.YtjdjkdgdbdenpaaDoor
/- word.Text returns the text of a word; word.Read reads one as 'readC' says. -/
namespace Go.Proofs.YtjdjkdgdbdenpaaDoor
open Go Go.RowKit Go.Sort

/-- The library's table of powers of ten stands as its initialiser lays it. -/
def Tab (w : World) : Prop := Lib.TabIs Tryd.prog w "internal/strconv.uint64pow10" .u64 Lib.pow10Tab
theorem Tab.below {w w' : World} (h : Tab w) (hb : Below w.heap.size w w') : Tab w' := by
  unfold Tab Lib.TabIs World.var? at *
  cases hg : Tryd.prog.globalNamed "internal/strconv.uint64pow10" with
  | none => simp [hg] at h
  | some g =>
    simp only [hg, Option.bind_some] at h ⊢
    have hlt : g < w.heap.size := by
      rcases Nat.lt_or_ge g w.heap.size with h' | h'
      · exact h'
      · rw [Array.getElem?_eq_none h'] at h; simp at h
    rw [hb.block g hlt]
    exact h
theorem grow_below (w : World) (k : Nat) (os : Array Obj) : Below w.heap.size w (grow (w.drewN k) os) :=
  ⟨rfl, rfl, rfl, by show w.heap.size ≤ (w.heap ++ os).size; rw [Array.size_append]; omega, fun j hj => by show (w.heap ++ os)[j]? = w.heap[j]?; exact Array.getElem?_append_left hj⟩
theorem Text_dec (v : Int) (hv : isW v) (w : World) (ht : Tab w) :
    Calls Tryd.prog 57 #[.int .i32 v, .bool false] w fun e w' => e = .returned (.string (strOf (textL v false))) ∧ Below w.heap.size w w' := by
  obtain ⟨v0, v1⟩ := hv
  have C := Lib.hid (Tryd.strconv_Itoa v (by omega) (by omega))
  go_enter Tryd.func57, Tryd.ntmps57
  go_wp2_with fail
  refine (C.out _ ht).mono ?_
  rintro e w' ⟨rfl, k, os, hw⟩
  have hb := grow_below w k os
  rw [← hw] at hb
  clear hw
  go_wp2
  go_ret
  exact ⟨rfl, hb⟩
theorem i32_and15 (a : Int) : bits .and .i32 a 15 = a % 16 := by
  show IntKind.i32.wrap ((BitVec.ofInt 32 a &&& BitVec.ofInt 32 15).toNat : Int) = _
  rw [BitVec.toNat_and, BitVec.toNat_ofInt, show (BitVec.ofInt 32 15).toNat = 2 ^ 4 - 1 by decide, Nat.and_two_pow_sub_one_eq_mod, IntKind.wrap_i32]
  simp
  omega
theorem hexDigs_at : ∀ (n t j : Nat), j < n → (hexDigs n t).getD j 0 = hexDg (t / 16 ^ (n - 1 - j) % 16)
  | 0, _, _, h => by omega
  | n + 1, t, j, h => by
    unfold hexDigs
    by_cases hj : j < n
    · have h1 := hexDigs_at n (t / 16) j hj
      rw [List.getD_eq_getElem?_getD] at h1 ⊢
      rw [List.getElem?_append_left (by rw [hexDigs_length]; exact hj), h1]
      congr 2
      rw [Nat.div_div_eq_div_mul, show n + 1 - 1 - j = (n - 1 - j) + 1 by omega, Nat.pow_succ, Nat.mul_comm]
    · obtain rfl : j = n := by omega
      rw [List.getD_eq_getElem?_getD, List.getElem?_append_right (by rw [hexDigs_length]; omega), hexDigs_length]
      simp
theorem plc_at (k : Nat) (hk : k < 8) : plc (28 - 4 * (k : Int)) = 4 * (7 - k) := by unfold plc; omega
theorem dig_at (v : Int) (k : Nat) (hk : k < 8) : shrR v (28 - 4 * (k : Int)) % 16 = ((uns v / 16 ^ (7 - k) % 16 : Nat) : Int) := by
  unfold shrR
  rw [plc_at k hk, Int.pow_mul]
  have hu : ((uns v : Nat) : Int) = v % 4294967296 := uns_cast v
  rw [← hu]
  have e : ((uns v / 16 ^ (7 - k) % 16 : Nat) : Int) = ((uns v : Nat) : Int) / (2 ^ 4) ^ (7 - k) % 16 := by
    rw [show (2 : Int) ^ 4 = 16 by decide]
    push_cast
    rfl
  rw [e]
  unfold wrap32
  omega
theorem index_dig32 (j : Nat) (h : j < 16) (W : World) : (Instr.index 9 (.string ⟨#[48, 49, 50, 51, 52, 53, 54, 55, 56, 57, 65, 66, 67, 68, 69, 70]⟩) (.int .i32 (j : Int))).run Tryd.prog W = .ok (.int .u8 ((hexDg j).toNat : Int)) W := by
  have hs : (⟨#[48, 49, 50, 51, 52, 53, 54, 55, 56, 57, 65, 66, 67, 68, 69, 70]⟩ : ByteArray).size = 16 := rfl
  rw [run_index_string W 9 _ .i32 (j : Int) Tryd.underlying9, dif_pos ⟨by omega, by rw [hs]; omega⟩]
  have := table_dig ⟨j, h⟩
  simp only [Int.toNat_natCast]
  rw [this]
/-- The digits as far as they are written. -/
def hexCell (v : Int) (k j : Nat) : Value := if j < k then .int .u8 (((hexDigs 8 (uns v))[j]?.getD 0).toNat : Int) else .int .u8 0
def hexArr (v : Int) (k : Nat) : Array Value := #[hexCell v k 0, hexCell v k 1, hexCell v k 2, hexCell v k 3, hexCell v k 4, hexCell v k 5, hexCell v k 6, hexCell v k 7]
theorem hexArr_get (v : Int) (k j : Nat) (h : j < 8) : (hexArr v k)[j]? = some (hexCell v k j) := by
  rcases (by omega : j = 0 ∨ j = 1 ∨ j = 2 ∨ j = 3 ∨ j = 4 ∨ j = 5 ∨ j = 6 ∨ j = 7) with rfl | rfl | rfl | rfl | rfl | rfl | rfl | rfl <;> rfl
theorem hexArr_size (v : Int) (k : Nat) : (hexArr v k).size = 8 := rfl
theorem hexArr_set (v : Int) (k : Nat) (h : k < 8) : (hexArr v k).setIfInBounds k (.int .u8 (((hexDigs 8 (uns v))[k]?.getD 0).toNat : Int)) = hexArr v (k + 1) := by
  apply Array.ext_getElem?
  intro j
  by_cases hj : j < 8
  · rw [hexArr_get v (k + 1) j hj, Array.getElem?_setIfInBounds]
    by_cases e : k = j
    · subst e
      simp [hexArr_size, h, hexCell]
    · rw [if_neg e, hexArr_get v k j hj]
      unfold hexCell
      by_cases h1 : j < k
      · rw [if_pos h1, if_pos (by omega)]
      · rw [if_neg h1, if_neg (by omega)]
  · rw [Array.getElem?_eq_none (by simp [hexArr_size]; omega), Array.getElem?_eq_none (by simp [hexArr_size]; omega)]
theorem hexArr_all (v : Int) : hexArr v 8 = ((hexDigs 8 (uns v)).map fun c => Value.int .u8 (c.toNat : Int)).toArray := by
  apply Array.ext_getElem?
  intro j
  have hl := hexDigs_length 8 (uns v)
  by_cases hj : j < 8
  · rw [hexArr_get v 8 j hj]
    unfold hexCell
    rw [if_pos hj, List.getElem?_toArray, List.getElem?_map, List.getElem?_eq_getElem (by omega)]
    rfl
  · rw [Array.getElem?_eq_none (by simp [hexArr_size]; omega), Array.getElem?_eq_none (by simp [hl]; omega)]
theorem conv_hex (v : Int) (w : World) : (convert 23 9 (.slice (some ⟨w.heap.size, 0, none⟩) 8 8)).run Tryd.prog (w.alloc (.cells (hexArr v 8) 104)) = .ok (.string (strOf (hexDigs 8 (uns v)))) (w.alloc (.cells (hexArr v 8) 104)) := by
  have hl := hexDigs_length 8 (uns v)
  have h := run_convert_bytes_back (P := Tryd.prog) (w.alloc (.cells (hexArr v 8) 104)) 23 9 5 ⟨w.heap.size, 0, none⟩ 8 (hexDigs 8 (uns v)) Tryd.underlying23 Tryd.underlying5 Tryd.underlying9 (fun j hj => by
    have e : (⟨w.heap.size, 0, none⟩ : Addr).add j = ⟨w.heap.size, j, none⟩ := by
      unfold Addr.add
      split
      · rename_i h0; rw [h0]
      · simp
    rw [e, World.cell?_alloc_new, hexArr_all, List.getElem?_toArray, List.getElem?_map, List.getElem?_eq_getElem hj]
    rfl)
  rw [hl] at h
  exact h
set_option maxHeartbeats 400000 in
theorem Text_hex (v : Int) (w : World) :
    Calls Tryd.prog 57 #[.int .i32 v, .bool true] w fun e w' => e = .returned (.string (strOf (textL v true))) ∧ Below w.heap.size w w' := by
  go_enter Tryd.func57, Tryd.ntmps57
  go_wp2
  go_loopw [6, 12] (fun _ i wr => ∃ k : Nat, k ≤ 8 ∧ i = .int .i64 k ∧ wr = w.alloc (.cells (hexArr v k) 104)) (fun _ i _ => 8 - (intOf i).toNat)
  case atStart => exact ⟨0, by omega, rfl, rfl⟩
  case round =>
    obtain ⟨k, hk, rfl, rfl⟩ := hrel
    by_cases hlt : k < 8
    · have hand : bits .and .i32 (shrR v (28 - 4 * (k : Int))) 15 = ((uns v / 16 ^ (7 - k) % 16 : Nat) : Int) := by rw [i32_and15, dig_at v k hlt]
      have hD : hexDg (uns v / 16 ^ (7 - k) % 16) = (hexDigs 8 (uns v)).getD k 0 := by rw [hexDigs_at 8 _ k hlt]
      have hidx := fun W => index_dig32 (uns v / 16 ^ (7 - k) % 16) (Nat.mod_lt _ (by decide)) W
      have hset := hexArr_set v k hlt
      have hc := hexArr_get v k k hlt
      rw [hD] at hidx
      generalize uns v / 16 ^ (7 - k) % 16 = d at *
      have HS := Lib.hid hset
      clear hset hD
      go_wp2_with (go_at_call 70; refine (Shr_any _ _ _).mono ?_; rintro e w' ⟨rfl, rfl⟩)
      go_roundw
      case rel => exact ⟨k + 1, by omega, by go_num, by rw [HS.out]⟩
      case measure => simp [intOf]; omega
    · obtain rfl : k = 8 := by omega
      have hconv := conv_hex v w
      have hcat := cat_cons 35 (hexDigs 8 (uns v)) (by rw [hexDigs_length]; omega)
      have Hf := Lib.hid (show textL v true = 35 :: hexDigs 8 (uns v) by unfold textL; simp)
      clear hlt hk
      generalize hexArr v 8 = arr at *
      generalize hexDigs 8 (uns v) = l at *
      go_wp2
      go_ret
      exact ⟨by rw [Hf.out]; rfl, (Below.refl _ _).alloc (Nat.le_refl _) _⟩
theorem Text_any (v : Int) (hex : Bool) (hv : isW v) (w : World) (ht : Tab w) :
    Calls Tryd.prog 57 #[.int .i32 v, .bool hex] w fun e w' => e = .returned (.string (strOf (textL v hex))) ∧ Below w.heap.size w w' := by
  cases hex
  · exact Text_dec v hv w ht
  · exact Text_hex v w
/-- How the number and the base that word.value returns lead to what is read. -/
theorem readC_value (l : List UInt8) : readC l = if (valueRes l).2.2 = true then keepT l (redW (valueRes l).1) (valueRes l).2.1 else (0, 5) := by
  by_cases h35 : l.head? = some 35
  · obtain ⟨ds, rfl⟩ : ∃ ds, l = 35 :: ds := List.head?_eq_some_iff.1 h35
    simp only [readC, guessC, valueRes, natRes]
    cases natL 16 ds 0 <;> simp
  · by_cases h45 : l.head? = some 45
    · obtain ⟨ds, rfl⟩ : ∃ ds, l = 45 :: ds := List.head?_eq_some_iff.1 h45
      simp only [readC, guessC, valueRes, natRes]
      cases natL 10 ds 0 <;> simp
    · have hg : guessC l = (natL 10 l 0).map fun (n : Nat) => ((n : Int), false) := by
        unfold guessC
        split
        · exact absurd rfl h35
        · exact absurd rfl h45
        · rfl
      rw [valueRes_other l h35 h45]
      unfold readC natRes
      rw [hg]
      cases natL 10 l 0 <;> simp
set_option maxHeartbeats 400000 in
theorem Read_any (s : ByteArray) (w : World) (ht : Tab w) :
    Calls Tryd.prog 74 #[.string s] w fun e w' => e = .returned (.tuple #[.int .i32 (readC s.data.toList).1, .int .i64 (readC s.data.toList).2]) ∧ Below w.heap.size w w' := by
  have C := Lib.hid (value_any s)
  have hr := readC_value s.data.toList
  have hb := keep_end s.data.toList s rfl (valueRes s.data.toList).1 (valueRes s.data.toList).2.1
  generalize (valueRes s.data.toList).1 = n at *
  generalize (valueRes s.data.toList).2.1 = hex at *
  generalize (valueRes s.data.toList).2.2 = ok at *
  cases ok
  · rw [if_neg (by decide)] at hr
    have HR := Lib.hid hr
    clear hr hb
    go_enter Tryd.func74, Tryd.ntmps74
    go_wp2_with (first | (go_at_call 83; refine (C.out _).mono ?_; rintro e w1 ⟨rfl, hb1⟩) | (go_at_call 84; refine (red64_any _ _).mono ?_; rintro e w' ⟨rfl, rfl⟩))
    go_ret2
    exact ⟨ret_ii (by rw [HR.out]) (by rw [HR.out]), hb1⟩
  · rw [if_pos rfl] at hr
    have HR := Lib.hid hr
    have hW := isW_wrap32 n
    clear hr
    rcases hb with ⟨he, hk⟩ | ⟨he, hk⟩
    all_goals
      have HK := Lib.hid hk
      clear hk
      go_enter Tryd.func74, Tryd.ntmps74
      go_wp2_with fail
      refine (C.out _).mono ?_
      rintro e w1 ⟨rfl, hb1⟩
      have ht1 := ht.below hb1
      go_wp2_with fail
      refine (red64_any _ _).mono ?_
      rintro e w' ⟨rfl, rfl⟩
      go_wp2_with fail
      refine (Text_any _ _ hW _ ht1).mono ?_
      rintro e w2 ⟨rfl, hb2⟩
      go_wp2
      go_ret2
      exact ⟨ret_ii (by rw [HR.out, HK.out]) (by rw [HR.out, HK.out]), hb1.trans (hb2.mono hb1.size)⟩
end Go.Proofs.YtjdjkdgdbdenpaaDoor
