/- word.natural reads digits as 'natL' says. -/
import Derived.Test.YtldnmdadlgjbgaaDoorWq
set_option linter.unusedVariables false
set_option linter.unusedSimpArgs false
namespace Go.Proofs.YtldnmdadlgjbgaaDoor.W1
open Go Go.RowKit

/-- The digits of a base. -/
def tab (b : Nat) : ByteArray := strOf (([48, 49, 50, 51, 52, 53, 54, 55, 56, 57, 65, 66, 67, 68, 69, 70] : List UInt8).take b)
def natRes (base : Nat) (l : List UInt8) : Int × Bool := match natL base l 0 with | some n => ((n : Int), true) | none => (0, false)
theorem natRes_none {base : Nat} {l : List UInt8} (h : natL base l 0 = none) : (natRes base l).1 = 0 ∧ (natRes base l).2 = false := by unfold natRes; rw [h]; exact ⟨rfl, rfl⟩
theorem natRes_some {base n : Nat} {l : List UInt8} (h : natL base l 0 = some n) : (natRes base l).1 = (n : Int) ∧ (natRes base l).2 = true := by unfold natRes; rw [h]; exact ⟨rfl, rfl⟩
theorem drop_at (s : ByteArray) (k : Nat) (h : k < s.size) : s.data.toList.drop k = s[k] :: s.data.toList.drop (k + 1) := by
  have : k < s.data.toList.length := by simpa using h
  rw [List.drop_eq_getElem_cons this]
  rfl
theorem drop_all (s : ByteArray) (k : Nat) (h : ¬ k < s.size) : s.data.toList.drop k = [] := List.drop_eq_nil_of_le (by simpa using h)
theorem dval_high {base : Nat} (c : UInt8) (h : 128 ≤ c.toNat) : dval base c = none := by
  unfold dval
  rw [if_neg (by omega), if_neg (by omega)]
theorem IndexRune_high (s : ByteArray) (hs : asciiS s) (hz : s.size ≤ 16) (r : Int) (h0 : 128 ≤ r) (w : World) :
    Calls Tryd.prog 77 #[.string s, .int .i32 r] w fun e w' => e = .returned (.int .i64 (-1)) ∧ Below w.heap.size w w' := by
  have h := IndexRune_any s hs hz r (by omega) w
  rw [if_neg (by omega)] at h
  exact h

theorem slice_tab16 (W : World) : (Instr.slice 9 (.string ⟨#[48, 49, 50, 51, 52, 53, 54, 55, 56, 57, 65, 66, 67, 68, 69, 70]⟩) none (some (.int .i64 16)) none).run Tryd.prog W = .ok (.string (tab 16)) W := by
  have hs : (⟨#[48, 49, 50, 51, 52, 53, 54, 55, 56, 57, 65, 66, 67, 68, 69, 70]⟩ : ByteArray).size = 16 := rfl
  rw [run_slice_string_to_if W 9 _ .i64 16 Tryd.underlying9, if_pos ⟨by omega, by rw [hs]; omega⟩]
  congr 2
theorem tab16_ascii : asciiS (tab 16) := by
  have h : ∀ b ∈ (tab 16).data.toList, b.toNat < 128 := by decide
  exact h
theorem tab16_find (c : UInt8) : Lib.indexByte (tab 16).data.toList c = match dval 16 c with | some d => (d : Int) | none => -1 := by
  have h : ∀ i : Fin 256, Lib.indexByte (tab 16).data.toList (UInt8.ofNat i.val) = match dval 16 (UInt8.ofNat i.val) with | some d => (d : Int) | none => -1 := by decide +kernel
  have h1 := h ⟨c.toNat, c.toNat_lt⟩
  simp only [UInt8.ofNat_toNat] at h1
  exact h1
set_option maxHeartbeats 1000000 in
theorem natural16_any (s : ByteArray) (w : World) :
    Calls Tryd.prog 100 #[.string s, .int .i64 16] w fun e w' => e = .returned (.tuple #[.int .i64 (natRes 16 s.data.toList).1, .bool (natRes 16 s.data.toList).2]) ∧ Below w.heap.size w w' := by
  have hk0 := World.iter_heap w s 0
  have hb0 : Below w.heap.size w (w.iter s 0) := (Below.refl _ _).alloc (Nat.le_refl _) _
  have htab := slice_tab16
  go_enter Tryd.func100, Tryd.ntmps100
  go_wp2
  go_loopw [4, 7, 8] (fun x _ _ wr => ∃ pos n : Nat, pos ≤ s.size ∧ n ≤ 68719476735 ∧ x = .int .i64 n ∧ Hid (natL 16 s.data.toList 0 = natL 16 (s.data.toList.drop pos) n) ∧ wr.heap[w.heap.size]? = some (.stringIter s pos) ∧ Below w.heap.size w wr) (fun _ _ _ wr => s.size - wr.iterPos w.heap.size)
  case atStart => exact ⟨0, 0, Nat.zero_le _, by omega, rfl, Lib.hid rfl, hk0, hb0⟩
  case round =>
    obtain ⟨pos, n, hps, hnb, rfl, HN, hk, hnx⟩ := hrel
    clear hk0 hb0
    have hmu : wr.iterPos w.heap.size = pos := by simp [World.iterPos, hk]
    have Hm := Lib.hid hmu
    clear hmu
    by_cases hp : pos < s.size
    · have hdrop := drop_at s pos hp
      rw [hdrop] at HN
      clear hdrop
      by_cases h128 : (s[pos]'hp).toNat < 128
      · have hnext : ∀ ty, (Instr.next (.pointer (some ⟨w.heap.size, 0, none⟩)) true ty).run Tryd.prog wr = _ := fun ty => Lib.run_next_ascii_at wr w.heap.size s pos ty hk hp h128
        have hk1 := Lib.iterAt_heap wr w.heap.size s pos (pos + 1) hk
        have hnx1 : Below w.heap.size w (wr.iterAt w.heap.size s (pos + 1)) := Lib.below_iterAt hnx (by omega) s (pos + 1)
        generalize wr.iterAt w.heap.size s (pos + 1) = W1 at hnext hk1 hnx1
        have hmu2 : W1.iterPos w.heap.size = pos + 1 := by simp [World.iterPos, hk1]
        have Hm2 := Lib.hid hmu2
        clear hmu2 hk hnx
        generalize (s[pos]'hp) = c at *
        have C := Tryd.strings_IndexRune_ascii (tab 16) ((c.toNat : Nat) : Int)
        have hf := tab16_find c
        have hcc : ((c.toNat : Int)).toNat.toUInt8 = c := by simp
        rw [hcc, hf] at C
        clear hcc hf
        generalize hq : c.toNat = q at *
        clear hq
        cases hd : dval 16 c with
        | none =>
          rw [hd] at C
          have hfin : natL 16 s.data.toList 0 = none := by rw [HN.out, natL_cons, hd]
          have Hf := Lib.hid (natRes_none hfin)
          have CC := Lib.hid C
          clear hd hfin C
          go_wp2_with (go_at_call 77; refine (CC.out _ (by omega) (by omega)).mono ?_; rintro e w' ⟨rfl, rfl⟩)
          go_ret2
          exact ⟨ret_ib Hf.out.1.symm Hf.out.2.symm, hnx1⟩
        | some d =>
          rw [hd] at C
          have hdl := dval_lt (by decide) hd
          by_cases hbig : 4294967295 < n
          · have hfin : natL 16 s.data.toList 0 = none := by rw [HN.out, natL_cons, hd]; simp only [if_pos hbig]
            have Hf := Lib.hid (natRes_none hfin)
            have CC := Lib.hid C
            clear hd hfin C
            go_wp2_with (go_at_call 77; refine (CC.out _ (by omega) (by omega)).mono ?_; rintro e w' ⟨rfl, rfl⟩)
            go_ret2
            exact ⟨ret_ib Hf.out.1.symm Hf.out.2.symm, hnx1⟩
          · have hfin : natL 16 s.data.toList 0 = natL 16 (s.data.toList.drop (pos + 1)) (n * 16 + d) := by rw [HN.out, natL_cons, hd]; simp only [if_neg hbig]
            have Hf := Lib.hid hfin
            have CC := Lib.hid C
            have hcast : ((n * 16 + d : Nat) : Int) = (n : Int) * 16 + d := by push_cast; rfl
            have Hc := Lib.hid hcast
            clear hd hfin C hcast HN
            go_wp2_with (go_at_call 77; refine (CC.out _ (by omega) (by omega)).mono ?_; rintro e w' ⟨rfl, rfl⟩)
            go_roundw
            case rel => exact ⟨pos + 1, n * 16 + d, by omega, by omega, by rw [Hc.out], Hf, hk1, hnx1⟩
            case measure =>
              rw [Hm.out, Hm2.out]
              omega
      · have hnext : ∀ ty, (Instr.next (.pointer (some ⟨w.heap.size, 0, none⟩)) true ty).run Tryd.prog wr = _ := fun ty => Lib.run_next_any_at wr w.heap.size s pos ty hk hp
        have hnx1 : Below w.heap.size w (wr.iterAt w.heap.size s (pos + (Utf8.decode s pos).2)) := Lib.below_iterAt hnx (by omega) s _
        generalize wr.iterAt w.heap.size s (pos + (Utf8.decode s pos).2) = W1 at hnext hnx1
        have hr := (decode_high s pos hp (by omega)).1
        have hr2 := decode_le s pos
        generalize (Utf8.decode s pos).1 = r at *
        clear hk hnx
        have hd : dval 16 (s[pos]'hp) = none := dval_high _ (by omega)
        generalize (s[pos]'hp) = c at *
        have hfin : natL 16 s.data.toList 0 = none := by rw [HN.out, natL_cons, hd]
        have Hf := Lib.hid (natRes_none hfin)
        have C := Lib.hid (IndexRune_high (tab 16) tab16_ascii (by decide) (r : Int) (by omega))
        clear hd hfin HN
        go_wp2_with (go_at_call 77; refine (C.out _).mono ?_; rintro e w' ⟨rfl, hb1⟩)
        go_ret2
        exact ⟨ret_ib Hf.out.1.symm Hf.out.2.symm, hnx1.trans (hb1.mono hnx1.size)⟩
    · have hnext : ∀ ty, (Instr.next (.pointer (some ⟨w.heap.size, 0, none⟩)) true ty).run Tryd.prog wr = _ := fun ty => Lib.run_next_end_at wr w.heap.size s pos ty hk hp
      have hfin : natL 16 s.data.toList 0 = some n := by rw [HN.out, drop_all s pos hp]; rfl
      have Hf := Lib.hid (natRes_some hfin)
      clear hfin HN
      go_wp2
      go_ret2
      exact ⟨ret_ib Hf.out.1.symm Hf.out.2.symm, hnx⟩

theorem slice_tab10 (W : World) : (Instr.slice 9 (.string ⟨#[48, 49, 50, 51, 52, 53, 54, 55, 56, 57, 65, 66, 67, 68, 69, 70]⟩) none (some (.int .i64 10)) none).run Tryd.prog W = .ok (.string (tab 10)) W := by
  have hs : (⟨#[48, 49, 50, 51, 52, 53, 54, 55, 56, 57, 65, 66, 67, 68, 69, 70]⟩ : ByteArray).size = 16 := rfl
  rw [run_slice_string_to_if W 9 _ .i64 10 Tryd.underlying9, if_pos ⟨by omega, by rw [hs]; omega⟩]
  congr 2
theorem tab10_ascii : asciiS (tab 10) := by
  have h : ∀ b ∈ (tab 10).data.toList, b.toNat < 128 := by decide
  exact h
theorem tab10_find (c : UInt8) : Lib.indexByte (tab 10).data.toList c = match dval 10 c with | some d => (d : Int) | none => -1 := by
  have h : ∀ i : Fin 256, Lib.indexByte (tab 10).data.toList (UInt8.ofNat i.val) = match dval 10 (UInt8.ofNat i.val) with | some d => (d : Int) | none => -1 := by decide +kernel
  have h1 := h ⟨c.toNat, c.toNat_lt⟩
  simp only [UInt8.ofNat_toNat] at h1
  exact h1
set_option maxHeartbeats 1000000 in
theorem natural10_any (s : ByteArray) (w : World) :
    Calls Tryd.prog 100 #[.string s, .int .i64 10] w fun e w' => e = .returned (.tuple #[.int .i64 (natRes 10 s.data.toList).1, .bool (natRes 10 s.data.toList).2]) ∧ Below w.heap.size w w' := by
  have hk0 := World.iter_heap w s 0
  have hb0 : Below w.heap.size w (w.iter s 0) := (Below.refl _ _).alloc (Nat.le_refl _) _
  have htab := slice_tab10
  go_enter Tryd.func100, Tryd.ntmps100
  go_wp2
  go_loopw [4, 7, 8] (fun x _ _ wr => ∃ pos n : Nat, pos ≤ s.size ∧ n ≤ 68719476735 ∧ x = .int .i64 n ∧ Hid (natL 10 s.data.toList 0 = natL 10 (s.data.toList.drop pos) n) ∧ wr.heap[w.heap.size]? = some (.stringIter s pos) ∧ Below w.heap.size w wr) (fun _ _ _ wr => s.size - wr.iterPos w.heap.size)
  case atStart => exact ⟨0, 0, Nat.zero_le _, by omega, rfl, Lib.hid rfl, hk0, hb0⟩
  case round =>
    obtain ⟨pos, n, hps, hnb, rfl, HN, hk, hnx⟩ := hrel
    clear hk0 hb0
    have hmu : wr.iterPos w.heap.size = pos := by simp [World.iterPos, hk]
    have Hm := Lib.hid hmu
    clear hmu
    by_cases hp : pos < s.size
    · have hdrop := drop_at s pos hp
      rw [hdrop] at HN
      clear hdrop
      by_cases h128 : (s[pos]'hp).toNat < 128
      · have hnext : ∀ ty, (Instr.next (.pointer (some ⟨w.heap.size, 0, none⟩)) true ty).run Tryd.prog wr = _ := fun ty => Lib.run_next_ascii_at wr w.heap.size s pos ty hk hp h128
        have hk1 := Lib.iterAt_heap wr w.heap.size s pos (pos + 1) hk
        have hnx1 : Below w.heap.size w (wr.iterAt w.heap.size s (pos + 1)) := Lib.below_iterAt hnx (by omega) s (pos + 1)
        generalize wr.iterAt w.heap.size s (pos + 1) = W1 at hnext hk1 hnx1
        have hmu2 : W1.iterPos w.heap.size = pos + 1 := by simp [World.iterPos, hk1]
        have Hm2 := Lib.hid hmu2
        clear hmu2 hk hnx
        generalize (s[pos]'hp) = c at *
        have C := Tryd.strings_IndexRune_ascii (tab 10) ((c.toNat : Nat) : Int)
        have hf := tab10_find c
        have hcc : ((c.toNat : Int)).toNat.toUInt8 = c := by simp
        rw [hcc, hf] at C
        clear hcc hf
        generalize hq : c.toNat = q at *
        clear hq
        cases hd : dval 10 c with
        | none =>
          rw [hd] at C
          have hfin : natL 10 s.data.toList 0 = none := by rw [HN.out, natL_cons, hd]
          have Hf := Lib.hid (natRes_none hfin)
          have CC := Lib.hid C
          clear hd hfin C
          go_wp2_with (go_at_call 77; refine (CC.out _ (by omega) (by omega)).mono ?_; rintro e w' ⟨rfl, rfl⟩)
          go_ret2
          exact ⟨ret_ib Hf.out.1.symm Hf.out.2.symm, hnx1⟩
        | some d =>
          rw [hd] at C
          have hdl := dval_lt (by decide) hd
          by_cases hbig : 4294967295 < n
          · have hfin : natL 10 s.data.toList 0 = none := by rw [HN.out, natL_cons, hd]; simp only [if_pos hbig]
            have Hf := Lib.hid (natRes_none hfin)
            have CC := Lib.hid C
            clear hd hfin C
            go_wp2_with (go_at_call 77; refine (CC.out _ (by omega) (by omega)).mono ?_; rintro e w' ⟨rfl, rfl⟩)
            go_ret2
            exact ⟨ret_ib Hf.out.1.symm Hf.out.2.symm, hnx1⟩
          · have hfin : natL 10 s.data.toList 0 = natL 10 (s.data.toList.drop (pos + 1)) (n * 10 + d) := by rw [HN.out, natL_cons, hd]; simp only [if_neg hbig]
            have Hf := Lib.hid hfin
            have CC := Lib.hid C
            have hcast : ((n * 10 + d : Nat) : Int) = (n : Int) * 10 + d := by push_cast; rfl
            have Hc := Lib.hid hcast
            clear hd hfin C hcast HN
            go_wp2_with (go_at_call 77; refine (CC.out _ (by omega) (by omega)).mono ?_; rintro e w' ⟨rfl, rfl⟩)
            go_roundw
            case rel => exact ⟨pos + 1, n * 10 + d, by omega, by omega, by rw [Hc.out], Hf, hk1, hnx1⟩
            case measure =>
              rw [Hm.out, Hm2.out]
              omega
      · have hnext : ∀ ty, (Instr.next (.pointer (some ⟨w.heap.size, 0, none⟩)) true ty).run Tryd.prog wr = _ := fun ty => Lib.run_next_any_at wr w.heap.size s pos ty hk hp
        have hnx1 : Below w.heap.size w (wr.iterAt w.heap.size s (pos + (Utf8.decode s pos).2)) := Lib.below_iterAt hnx (by omega) s _
        generalize wr.iterAt w.heap.size s (pos + (Utf8.decode s pos).2) = W1 at hnext hnx1
        have hr := (decode_high s pos hp (by omega)).1
        have hr2 := decode_le s pos
        generalize (Utf8.decode s pos).1 = r at *
        clear hk hnx
        have hd : dval 10 (s[pos]'hp) = none := dval_high _ (by omega)
        generalize (s[pos]'hp) = c at *
        have hfin : natL 10 s.data.toList 0 = none := by rw [HN.out, natL_cons, hd]
        have Hf := Lib.hid (natRes_none hfin)
        have C := Lib.hid (IndexRune_high (tab 10) tab10_ascii (by decide) (r : Int) (by omega))
        clear hd hfin HN
        go_wp2_with (go_at_call 77; refine (C.out _).mono ?_; rintro e w' ⟨rfl, hb1⟩)
        go_ret2
        exact ⟨ret_ib Hf.out.1.symm Hf.out.2.symm, hnx1.trans (hb1.mono hnx1.size)⟩
    · have hnext : ∀ ty, (Instr.next (.pointer (some ⟨w.heap.size, 0, none⟩)) true ty).run Tryd.prog wr = _ := fun ty => Lib.run_next_end_at wr w.heap.size s pos ty hk hp
      have hfin : natL 10 s.data.toList 0 = some n := by rw [HN.out, drop_all s pos hp]; rfl
      have Hf := Lib.hid (natRes_some hfin)
      clear hfin HN
      go_wp2
      go_ret2
      exact ⟨ret_ib Hf.out.1.symm Hf.out.2.symm, hnx⟩
end Go.Proofs.YtldnmdadlgjbgaaDoor.W1
