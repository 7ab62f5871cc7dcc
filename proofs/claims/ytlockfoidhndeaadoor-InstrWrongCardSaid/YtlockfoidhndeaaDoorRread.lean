/- The reference of layer 1 reads a text as 'readR' says. -/
import Derived.Test.YtlockfoidhndeaaDoorRval
import Derived.Lib.IndexBytes
namespace Go.Proofs.YtlockfoidhndeaaDoor
open Go Go.RowKit

theorem redW_eq (n : Int) : wrap32 n = redW n := by unfold wrap32 redW; rfl
theorem slice_one (s : ByteArray) (h : 1 ≤ s.size) (W : World) : (Instr.slice 9 (.string s) (some (.int .i64 1)) none none).run Tryd.prog W = .ok (.string (s.extract 1 s.size)) W := by
  rw [run_slice_string_from_if W 9 s .i64 1 Tryd.underlying9, if_pos ⟨by omega, by omega⟩]
  rfl
theorem eq_strOf (l : List UInt8) (s : ByteArray) : ((strOf l).toList == s.toList) = decide (l = s.data.toList) := by
  rw [Lib.toList_data, Lib.toList_data]
  show (l == s.data.toList) = _
  by_cases h : l = s.data.toList <;> simp [h]
theorem ret_ii {j k : IntKind} {a b c d : Int} (h : a = b) (h' : c = d) : Ending.returned (.tuple #[.int j a, .int k c]) = .returned (.tuple #[.int j b, .int k d]) := by rw [h, h']
/-- What the first byte and the rest are. -/
theorem first_of (s : ByteArray) (h : 1 ≤ s.size) : s.data.toList = s[0] :: s.data.toList.drop 1 := by
  have : 0 < s.data.toList.length := by
    have hl : s.data.toList.length = s.size := by simp
    omega
  conv => lhs; rw [← List.drop_zero (l := s.data.toList), List.drop_eq_getElem_cons this]
  rfl
theorem val_bd {base : Nat} (hb : base = 10 ∨ base = 16) (l : List UInt8) (h : l.length ≤ 11) : (0 : Int) ≤ (valL base l 0 : Nat) ∧ ((valL base l 0 : Nat) : Int) ≤ 17592186044416 :=
  ⟨by omega, by have := valL_bd hb l h; omega⟩
/-- The last step: the text of the word that was guessed is compared. -/
theorem keep_end (l : List UInt8) (s : ByteArray) (hs : s.data.toList = l) (n : Int) (hex : Bool) : (((strOf (textL (wrap32 n) hex)).toList == s.toList) = true ∧ keepT l (redW n) hex = (wrap32 n, 0)) ∨ (((strOf (textL (wrap32 n) hex)).toList == s.toList) = false ∧ keepT l (redW n) hex = (0, 5)) := by
  rw [eq_strOf, hs]
  unfold keepT
  rw [redW_eq]
  by_cases h : textL (redW n) hex = l
  · exact .inl ⟨by simp [h], if_pos h⟩
  · exact .inr ⟨by simp [h], if_neg h⟩
set_option maxHeartbeats 400000 in
theorem RRead_hex (s : ByteArray) (w : World) (hm : s.size ≤ maxLen) (h1 : 1 ≤ s.size) (h2 : s.size ≤ 11) (c35 : s[0] = 35) :
    Calls Tryd.prog 37 #[.string s] w fun e w' => e = .returned (.tuple #[.int .i32 (readR s.data.toList).1, .int .i64 (readR s.data.toList).2]) ∧ ∃ n, w' = w.drewN n := by
  unfold maxLen at hm
  have hlen : s.data.toList.length = s.size := by simp
  have hsz : s.data.toList.length ≤ 11 := by omega
  have hi := fun W => index_str s 0 (by omega) W
  have hsl := fun W => slice_one s h1 W
  have hf := first_of s h1
  have hR : readR s.data.toList = keepT s.data.toList (redW (guessR s.data.toList).1) (guessR s.data.toList).2 := by unfold readR; rw [if_pos ⟨by omega, by omega⟩]
  have hxs : (s.extract 1 s.size).data.toList = s.data.toList.drop 1 := Lib.extract_to_end s 1
  have hxz : (s.extract 1 s.size).size ≤ 11 := by
    have h3 : (s.extract 1 s.size).data.toList.length = (s.extract 1 s.size).size := by simp
    have h4 : (s.data.toList.drop 1).length ≤ 11 := by rw [List.length_drop]; omega
    rw [hxs] at h3
    omega
  rw [c35] at hi hf
  have hg : guessR s.data.toList = (((valL 16 (s.data.toList.drop 1) 0 : Nat) : Int), true) := by
    generalize s.data.toList.drop 1 = r at *
    rw [hf]
    rfl
  have C := Lib.hid (RValue16_any (s.extract 1 s.size) hxz)
  obtain ⟨b0, b1⟩ := val_bd (base := 16) (by decide) (s.data.toList.drop 1) (by rw [List.length_drop]; omega)
  rw [hg] at hR
  rw [hxs] at C
  generalize hv : ((valL 16 (s.data.toList.drop 1) 0 : Nat) : Int) = v at *
  have hd : isD v := ⟨by omega, by omega⟩
  have hW := isW_wrap32 v
  have hi' : ∀ W : World, (Instr.index 9 (.string s) (.int .i64 0)).run Tryd.prog W = .ok (.int .u8 35) W := hi
  have hrest := keep_end s.data.toList s rfl v true
  clear c35
  have HR := Lib.hid hR
  clear hR hf hg hxs hxz hi hv hlen hsz
  generalize s.extract 1 s.size = x at *
  rcases hrest with ⟨he, hk⟩ | ⟨he, hk⟩
  all_goals
    have HK := Lib.hid hk
    clear hk
    go_enter Tryd.func37, Tryd.ntmps37
    go_wp2_with fail
    refine (C.out _).mono ?_
    rintro e w' ⟨rfl, n, rfl⟩
    go_wp2_with fail
    refine (Wrap_any _ hd _).mono ?_
    rintro e w' ⟨rfl, rfl⟩
    go_wp2_with fail
    refine (RText_any _ _ hW _).mono ?_
    rintro e w' ⟨rfl, m, rfl⟩
    go_wp2
    go_ret2
    refine ⟨ret_ii (by rw [HR.out, HK.out]) (by rw [HR.out, HK.out]), _, rfl⟩
set_option maxHeartbeats 400000 in
theorem RRead_neg (s : ByteArray) (w : World) (hm : s.size ≤ maxLen) (h1 : 1 ≤ s.size) (h2 : s.size ≤ 11) (c45 : s[0] = 45) :
    Calls Tryd.prog 37 #[.string s] w fun e w' => e = .returned (.tuple #[.int .i32 (readR s.data.toList).1, .int .i64 (readR s.data.toList).2]) ∧ ∃ n, w' = w.drewN n := by
  unfold maxLen at hm
  have hlen : s.data.toList.length = s.size := by simp
  have hsz : s.data.toList.length ≤ 11 := by omega
  have hi := fun W => index_str s 0 (by omega) W
  have hsl := fun W => slice_one s h1 W
  have hf := first_of s h1
  have hR : readR s.data.toList = keepT s.data.toList (redW (guessR s.data.toList).1) (guessR s.data.toList).2 := by unfold readR; rw [if_pos ⟨by omega, by omega⟩]
  have hxs : (s.extract 1 s.size).data.toList = s.data.toList.drop 1 := Lib.extract_to_end s 1
  have hxz : (s.extract 1 s.size).size ≤ 11 := by
    have h3 : (s.extract 1 s.size).data.toList.length = (s.extract 1 s.size).size := by simp
    have h4 : (s.data.toList.drop 1).length ≤ 11 := by rw [List.length_drop]; omega
    rw [hxs] at h3
    omega
  rw [c45] at hi hf
  have hg : guessR s.data.toList = (-((valL 10 (s.data.toList.drop 1) 0 : Nat) : Int), false) := by
    generalize s.data.toList.drop 1 = r at *
    rw [hf]
    rfl
  have C := Lib.hid (RValue10_any (s.extract 1 s.size) hxz)
  obtain ⟨b0, b1⟩ := val_bd (base := 10) (by decide) (s.data.toList.drop 1) (by rw [List.length_drop]; omega)
  rw [hg] at hR
  rw [hxs] at C
  generalize hv : ((valL 10 (s.data.toList.drop 1) 0 : Nat) : Int) = v at *
  have hd : isD (-v) := ⟨by omega, by omega⟩
  have hW := isW_wrap32 (-v)
  have hi' : ∀ W : World, (Instr.index 9 (.string s) (.int .i64 0)).run Tryd.prog W = .ok (.int .u8 45) W := hi
  have hrest := keep_end s.data.toList s rfl (-v) false
  clear c45
  have HR := Lib.hid hR
  clear hR hf hg hxs hxz hi hv hlen hsz
  generalize s.extract 1 s.size = x at *
  rcases hrest with ⟨he, hk⟩ | ⟨he, hk⟩
  all_goals
    have HK := Lib.hid hk
    clear hk
    go_enter Tryd.func37, Tryd.ntmps37
    go_wp2_with fail
    refine (C.out _).mono ?_
    rintro e w' ⟨rfl, n, rfl⟩
    go_wp2_with fail
    refine (Wrap_any _ hd _).mono ?_
    rintro e w' ⟨rfl, rfl⟩
    go_wp2_with fail
    refine (RText_any _ _ hW _).mono ?_
    rintro e w' ⟨rfl, m, rfl⟩
    go_wp2
    go_ret2
    refine ⟨ret_ii (by rw [HR.out, HK.out]) (by rw [HR.out, HK.out]), _, rfl⟩
set_option maxHeartbeats 400000 in
theorem RRead_dec (s : ByteArray) (w : World) (hm : s.size ≤ maxLen) (h1 : 1 ≤ s.size) (h2 : s.size ≤ 11) (c35 : s[0] ≠ 35) (c45 : s[0] ≠ 45) :
    Calls Tryd.prog 37 #[.string s] w fun e w' => e = .returned (.tuple #[.int .i32 (readR s.data.toList).1, .int .i64 (readR s.data.toList).2]) ∧ ∃ n, w' = w.drewN n := by
  unfold maxLen at hm
  have hlen : s.data.toList.length = s.size := by simp
  have hsz : s.data.toList.length ≤ 11 := by omega
  have hi := fun W => index_str s 0 (by omega) W
  have hsl := fun W => slice_one s h1 W
  have hf := first_of s h1
  have hR : readR s.data.toList = keepT s.data.toList (redW (guessR s.data.toList).1) (guessR s.data.toList).2 := by unfold readR; rw [if_pos ⟨by omega, by omega⟩]
  have hxs : (s.extract 1 s.size).data.toList = s.data.toList.drop 1 := Lib.extract_to_end s 1
  have hxz : (s.extract 1 s.size).size ≤ 11 := by
    have h3 : (s.extract 1 s.size).data.toList.length = (s.extract 1 s.size).size := by simp
    have h4 : (s.data.toList.drop 1).length ≤ 11 := by rw [List.length_drop]; omega
    rw [hxs] at h3
    omega
  have hg : guessR s.data.toList = (((valL 10 s.data.toList 0 : Nat) : Int), false) := by
    have n35 := c35
    have n45 := c45
    generalize s[0] = c at *
    rw [hf]
    unfold guessR
    split
    · rename_i heq; injection heq with h _; exact absurd h n35
    · rename_i heq; injection heq with h _; exact absurd h n45
    · rfl
  have C := Lib.hid (RValue10_any s h2)
  obtain ⟨b0, b1⟩ := val_bd (base := 10) (by decide) s.data.toList hsz
  rw [hg] at hR
  generalize hv : ((valL 10 s.data.toList 0 : Nat) : Int) = v at *
  have hd : isD v := ⟨by omega, by omega⟩
  have hW := isW_wrap32 v
  have n35 : ¬ s[0].toNat = 35 := fun e => c35 (UInt8.toNat_inj.1 e)
  have n45 : ¬ s[0].toNat = 45 := fun e => c45 (UInt8.toNat_inj.1 e)
  clear c35 c45
  generalize s[0] = c at *
  generalize c.toNat = q at *
  have hi' : ∀ W : World, (Instr.index 9 (.string s) (.int .i64 0)).run Tryd.prog W = .ok (.int .u8 (q : Int)) W := hi
  have e35 : ((q : Int) == 35) = false := by simp; omega
  have e45 : ((q : Int) == 45) = false := by simp; omega
  have hrest := keep_end s.data.toList s rfl v false
  have HR := Lib.hid hR
  clear hR hf hg hxs hxz hi hv hlen hsz
  generalize s.extract 1 s.size = x at *
  rcases hrest with ⟨he, hk⟩ | ⟨he, hk⟩
  all_goals
    have HK := Lib.hid hk
    clear hk
    go_enter Tryd.func37, Tryd.ntmps37
    go_wp2_with fail
    refine (C.out _).mono ?_
    rintro e w' ⟨rfl, n, rfl⟩
    go_wp2_with fail
    refine (Wrap_any _ hd _).mono ?_
    rintro e w' ⟨rfl, rfl⟩
    go_wp2_with fail
    refine (RText_any _ _ hW _).mono ?_
    rintro e w' ⟨rfl, m, rfl⟩
    go_wp2
    go_ret2
    refine ⟨ret_ii (by rw [HR.out, HK.out]) (by rw [HR.out, HK.out]), _, rfl⟩
theorem RRead_bad (s : ByteArray) (w : World) (hm : s.size ≤ maxLen) (h : ¬ (1 ≤ s.size ∧ s.size ≤ 11)) :
    Calls Tryd.prog 37 #[.string s] w fun e w' => e = .returned (.tuple #[.int .i32 (readR s.data.toList).1, .int .i64 (readR s.data.toList).2]) ∧ ∃ n, w' = w.drewN n := by
  unfold maxLen at hm
  have hlen : s.data.toList.length = s.size := by simp
  have hR : readR s.data.toList = (0, 5) := by unfold readR; rw [hlen, if_neg h]
  have HR := Lib.hid hR
  clear hR hlen
  by_cases h1 : s.size < 1
  · clear h
    go_enter Tryd.func37, Tryd.ntmps37
    go_wp2
    go_ret2
    exact ⟨ret_ii (by rw [HR.out]) (by rw [HR.out]), 0, rfl⟩
  · have h2 : 11 < s.size := by omega
    clear h
    go_enter Tryd.func37, Tryd.ntmps37
    go_wp2
    go_ret2
    exact ⟨ret_ii (by rw [HR.out]) (by rw [HR.out]), 0, rfl⟩
theorem RRead_any (s : ByteArray) (w : World) (hm : s.size ≤ maxLen) :
    Calls Tryd.prog 37 #[.string s] w fun e w' => e = .returned (.tuple #[.int .i32 (readR s.data.toList).1, .int .i64 (readR s.data.toList).2]) ∧ ∃ n, w' = w.drewN n := by
  by_cases h : 1 ≤ s.size ∧ s.size ≤ 11
  · obtain ⟨h1, h2⟩ := h
    by_cases c35 : s[0] = 35
    · exact RRead_hex s w hm h1 h2 c35
    · by_cases c45 : s[0] = 45
      · exact RRead_neg s w hm h1 h2 c45
      · exact RRead_dec s w hm h1 h2 c35 c45
  · exact RRead_bad s w hm h
end Go.Proofs.YtlockfoidhndeaaDoor
