/- The program's small functions. -/
import Derived.Test.YtkhmpmjonkmbeaaDoorLbx
import Derived.Test.YtkhmpmjonkmbeaaDoorMpl
set_option linter.unusedVariables false
set_option linter.unusedSimpArgs false
namespace Go.Proofs.YtkhmpmjonkmbeaaDoor
open Go Go.RowKit L7

theorem isPrinting_any (c : UInt8) (w : World) : Calls Tryd.prog 52 #[.int .u8 (c.toNat : Int)] w fun e w' => e = .returned (.bool (plainB c)) ∧ w = w' := by
  obtain ⟨d, hd⟩ : ∃ d, c.toNat = d := ⟨_, rfl⟩
  rw [plain_int c d hd, hd]
  clear hd
  by_cases g1 : (32 : Int) ≤ (d : Int) <;> by_cases g2 : (d : Int) ≤ 126
  all_goals
    simp only [g1, g2, decide_true, decide_false, Bool.and_true, Bool.and_false]
    go_enter Tryd.func52, Tryd.ntmps52
    go_wp2
    go_ret
    exact ⟨rfl, rfl⟩
theorem doesContinue_any (l : Bs) (hl : l.length ≤ maxLen) (w : World) : Calls Tryd.prog 55 #[.string (strOf l)] w fun e w' => e = .returned (.bool (conts l)) ∧ w = w' := by
  unfold maxLen at hl
  have hsz := size_strOf l
  have he := strOf_empty l
  by_cases h0 : l = []
  · subst h0
    rw [conts_nil]
    have hz : (strOf []).size = 0 := hsz
    have he' : (strOf []).toList.isEmpty = true := he
    clear hsz he
    generalize strOf [] = S at *
    go_enter Tryd.func55, Tryd.ntmps55
    go_wp2
    go_ret
    exact ⟨rfl, rfl⟩
  · have hpos := List.length_pos_iff.2 h0
    have he' : (strOf l).toList.isEmpty = false := by rw [he]; cases l with | nil => exact absurd rfl h0 | cons c r => rfl
    have HC := Lib.hid (conts_last h0)
    have HQ := Lib.hid (isC_index (l.getD (l.length - 1) 0))
    obtain ⟨n, hn⟩ : ∃ n, l.length = n := ⟨_, rfl⟩
    rw [hn] at hsz hl hpos HC HQ
    have h1 := fun W => index_l l (n - 1) (by omega) W
    have e1 : ((n - 1 : Nat) : Int) = (n : Int) - 1 := by omega
    rw [e1] at h1
    have CI := Lib.hid (fun W => show Calls Tryd.prog 68 #[.string ⟨#[44, 59, 40, 91, 43, 45, 42, 47, 92, 61, 60, 62, 126, 38]⟩, .int .u8 ((l.getD (n - 1) 0).toNat : Int)] W fun e w' => e = .returned (.int .i64 (Lib.indexByte cs (l.getD (n - 1) 0))) ∧ W = w' from cIndexByte cs (l.getD (n - 1) 0) W)
    rw [HC.out, ← HQ.out]
    generalize l.getD (n - 1) 0 = d at *
    generalize Lib.indexByte cs d = r at *
    generalize (d.toNat : Int) = x at *
    clear h0 he e1 hn HC HQ
    go_enter Tryd.func55, Tryd.ntmps55
    go_wp2_with (go_at_call 68; refine (CI.out _).mono ?_; rintro e w1 ⟨rfl, rfl⟩)
    go_ret
    exact ⟨rfl, rfl⟩
set_option maxRecDepth 100000 in
set_option maxHeartbeats 4000000 in
theorem foreign_any (s : Bs) (hs : s.length ≤ 100000) (w : World) : Calls Tryd.prog 29 #[.string (strOf s)] w fun e w' => e = .returned (.int .i64 ((foreignL s 1 : Nat) : Int)) ∧ w = w' := by
  have hsz := size_strOf s
  obtain ⟨n, hn⟩ : ∃ n, s.length = n := ⟨_, rfl⟩
  rw [hn] at hsz hs
  have HN := Lib.hid hn
  have HI := Lib.hid (fun (k : Nat) (hk : k < n) (W : World) => index_l s k (by omega) W)
  have CP := Lib.hid (fun (k : Nat) (W : World) => isPrinting_any (s.getD k 0) W)
  have HD : Hid (∀ k, k < n → ∀ x, foreignL (s.drop k) x = if s.getD k 0 = 10 then foreignL (s.drop (k + 1)) (x + 1) else if plainB (s.getD k 0) = true then foreignL (s.drop (k + 1)) x else x) := Lib.hid fun k hk x => by
    rw [List.drop_eq_getElem_cons (show k < s.length by omega)]
    have : s.getD k 0 = s[k]'(by omega) := by simp [show k < s.length by omega]
    rw [this]
    rfl
  clear hn
  go_enter Tryd.func29, Tryd.ntmps29
  go_wp2
  go_loopw [3, 8] (fun x i wr => ∃ k v : Nat, k ≤ n ∧ v ≤ k + 1 ∧ i = .int .i64 k ∧ x = .int .i64 v ∧ w = wr ∧ Hid (foreignL s 1 = foreignL (s.drop k) v)) (fun _ i _ => n - (intOf i).toNat)
  case atStart => exact ⟨0, 1, Nat.zero_le _, by omega, rfl, rfl, rfl, Lib.hid (by rw [List.drop_zero])⟩
  case round =>
    obtain ⟨k, v, hk, hv, rfl, rfl, rfl, H⟩ := hrel
    have hk0 : (0 : Int) ≤ (k : Int) := by omega
    by_cases hlt : (k : Int) < (n : Int)
    · have h1 := HI.out k (by omega)
      have q1 := byte_eq (s.getD k 0) 10 (by decide) 10 rfl
      have q1 : (((s.getD k 0).toNat : Int) == 10) = decide (s.getD k 0 = 10) := q1
      have HS := Lib.hid (H.out.trans (HD.out k (by omega) v))
      have C := Lib.hid (CP.out k)
      by_cases a : s.getD k 0 = 10
      · have HX := Lib.hid (HS.out.trans (if_pos a))
        rw [decide_eq_true a] at q1
        clear a HS H
        generalize ((s.getD k 0).toNat : Int) = x at *
        go_wp2
        go_roundw
        case rel => exact ⟨k + 1, v + 1, by omega, by omega, by go_num, by go_num, trivial, HX⟩
        case measure => simp [intOf]; omega
      · have HX := Lib.hid (HS.out.trans (if_neg a))
        rw [decide_eq_false a] at q1
        cases hp : plainB (s.getD k 0) with
        | true =>
          rw [hp] at C
          have HY := Lib.hid (HX.out.trans (if_pos hp))
          clear a HS H HX hp
          generalize ((s.getD k 0).toNat : Int) = x at *
          go_wp2_with (go_at_call 52; refine (C.out _).mono ?_; rintro e w1 ⟨rfl, rfl⟩)
          go_roundw
          case rel => exact ⟨k + 1, v, by omega, by omega, by go_num, rfl, trivial, HY⟩
          case measure => simp [intOf]; omega
        | false =>
          rw [hp] at C
          have HY := Lib.hid (HX.out.trans (if_neg (by rw [hp]; decide)))
          clear a HS H HX hp
          generalize ((s.getD k 0).toNat : Int) = x at *
          go_wp2_with (go_at_call 52; refine (C.out _).mono ?_; rintro e w1 ⟨rfl, rfl⟩)
          go_ret
          rw [HY.out]
          exact ⟨rfl, rfl⟩
    · obtain rfl : k = n := by omega
      have HY := Lib.hid (show foreignL s 1 = 0 by rw [H.out, List.drop_eq_nil_of_le (by rw [HN.out]; exact Nat.le_refl _)]; rfl)
      clear H
      go_wp2
      go_ret
      rw [HY.out]
      exact ⟨rfl, rfl⟩
theorem deepest_any {A : Option Addr} {c m : Nat} {rs : List Rw} {w : World} (R : RR w A c rs) (hm : rs.length = m) (hd : 0 < m → 0 ≤ (rs.getD (m - 1) r0).dp ∧ (rs.getD (m - 1) r0).dp ≤ 1000) : Calls Tryd.prog 39 #[.slice A m c] w fun e w' => e = .returned (.int .i64 (deep rs)) ∧ w = w' := by
  have hmx : m ≤ maxLen := by have := R.le; have := R.mx; omega
  unfold maxLen at hmx
  by_cases h0 : m = 0
  · subst h0
    have HE := Lib.hid (show deep rs = 0 by unfold deep; rw [if_pos hm])
    clear hm hd
    rw [HE.out]
    go_enter Tryd.func39, Tryd.ntmps39
    go_wp2
    go_ret
    exact ⟨rfl, rfl⟩
  · obtain ⟨hd1, hd2⟩ := hd (by omega)
    obtain ⟨ad, rfl, g0, g1, g2⟩ := R.rd (m - 1) (by omega)
    have HE := Lib.hid (show deep rs = (rs.getD (m - 1) r0).dp + 1 by unfold deep; rw [if_neg (by omega), hm]; rfl)
    have e1 : ((m - 1 : Nat) : Int) = (m : Int) - 1 := by omega
    have e2 : ((m : Int) - 1).toNat = m - 1 := by omega
    have q0 : ((m : Int) == 0) = false := by simp; omega
    have q1 : (0 : Int) ≤ (m : Int) - 1 := by omega
    rw [HE.out]
    generalize rs.getD (m - 1) r0 = x at *
    obtain ⟨no, dp, tx⟩ := x
    dsimp only at *
    clear hm h0 R HE
    go_enter Tryd.func39, Tryd.ntmps39
    go_wp2
    go_ret
    exact ⟨rfl, rfl⟩
theorem isWithin_any (x : Rw) (hx : OKx x) (w : World) : Calls Tryd.prog 40 #[rwV x] w fun e w' => e = .returned (.bool (within x)) ∧ Below w.heap.size w w' := by
  obtain ⟨no, dp, tx⟩ := x
  have hl : tx.length ≤ maxLen := hx
  have hs := size_strOf tx
  have HE := Lib.hid (show within ⟨no, dp, tx⟩ = (decide (dp ≤ 32) && decide ((tx.length : Int) ≤ 256)) by unfold within; congr 1; simp only [decide_eq_decide]; omega)
  unfold maxLen at hl
  rw [HE.out]
  clear hx HE
  generalize tx.length = q at *
  by_cases h1 : dp ≤ 32 <;> by_cases h2 : (q : Int) ≤ 256
  all_goals
    simp only [h1, h2, decide_true, decide_false, Bool.and_true, Bool.and_false]
    go_enter Tryd.func40, Tryd.ntmps40
    go_wp2
    go_ret
    exact ⟨rfl, bal (b0 w) _⟩
theorem size_any (x : Rw) (h1 : 0 ≤ x.dp) (h2 : x.dp ≤ 32) (h3 : x.tx.length ≤ 256) (w : World) : Calls Tryd.prog 42 #[rwV x] w fun e w' => e = .returned (.int .i64 (2 * x.dp + (x.tx.length : Int) + 1)) ∧ Below w.heap.size w w' := by
  obtain ⟨no, dp, tx⟩ := x
  dsimp only at *
  have hs := size_strOf tx
  generalize tx.length = q at *
  go_enter Tryd.func42, Tryd.ntmps42
  go_wp2
  go_ret
  exact ⟨rfl, bal (b0 w) _⟩
end Go.Proofs.YtkhmpmjonkmbeaaDoor
