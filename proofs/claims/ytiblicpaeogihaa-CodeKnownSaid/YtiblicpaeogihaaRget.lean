/- The reference decodes an instruction. -/
import Derived.Test.YtiblicpaeogihaaGet
namespace Go.Proofs.Ytiblicpaeogihaa
open Go Go.RowKit

theorem wr64 (x : Int) : wrap64 (wrap32 x) = wrap32 x := by unfold wrap64 wrap32; omega
theorem nx_p' {o : Int} {b : Nat} (h : (b : Int) / 16 = 2) : wrap32 (16 * (o + (b : Int) % 16)) = nx o b := by rw [← nx_p h, Int.mul_comm]
theorem nx_n' {o : Int} {b : Nat} (h : (b : Int) / 16 = 6) : wrap32 (16 * (-1 - (o + (b : Int) % 16))) = nx o b := by rw [← nx_n h, Int.mul_comm]
set_option maxRecDepth 100000 in
set_option maxHeartbeats 1000000 in
theorem rGet_any {A : Option Addr} {c : Nat} {xs : List Nat} {w : World} (R : RS w A c xs) : Calls Try.prog 19 #[.slice A xs.length c] w (Gets w (get xs)) := by
  have HR := Lib.hid R
  have hc := R.le
  have hmx := R.mx
  unfold maxLen at hmx
  obtain ⟨L, hL⟩ : ∃ L, L = xs.length := ⟨_, rfl⟩
  have HL := Lib.hid hL
  rw [← hL] at hc ⊢
  have q1 : (L : Int) ≤ (c : Int) := by omega
  clear hL R
  unfold Gets
  go_enter Try.func19, Try.ntmps19
  go_wp2
  go_loop [5, 6] (fun o i => ∃ (k : Nat) (o' : Int), k ≤ L ∧ k ≤ 16 ∧ i = .int .i64 k ∧ o = .int .i64 o' ∧ Hid (At xs k o')) (fun _ i => 16 - (intOf i).toNat)
  case atStart => exact ⟨0, 0, Nat.zero_le _, Nat.zero_le _, rfl, rfl, at_start xs⟩
  case round =>
    obtain ⟨k, o, hk, hk2, rfl, rfl, H⟩ := hrel
    by_cases hl1 : k < L
    · by_cases hl2 : k < 16
      · obtain ⟨ad, rfl, hcell⟩ := (HR.out.kept0 (World.grownBy_alloc w (.cells #[.int .u8 0, .int .i32 0] 23) none)).some_ (by rw [← HL.out]; omega)
        have c1 := hcell k (by rw [← HL.out]; omega)
        unfold bc at c1
        have HP := Lib.hid (fun (o' : Int) hc ho => at_pre (o' := o') H.out (by rw [← HL.out]; omega) hl2 hc ho)
        have HE := Lib.hid (at_end H.out (by rw [← HL.out]; omega) hl2)
        have b0 : xs.getD k 0 < 256 := HR.out.by_.get k
        generalize xs.getD k 0 = b at *
        have r1 := H.out.1.1
        have r2 := H.out.1.2.1
        obtain ⟨r3, r4⟩ := reg_low H.out.1 b
        have D2 : isD (16 * (o + (b : Int) % 16)) := by unfold isD; omega
        have D6 : isD (16 * (-1 - (o + (b : Int) % 16))) := by unfold isD; omega
        have W2 := Lib.hid (fun w => Wrap_any _ D2 w)
        have W6 := Lib.hid (fun w => Wrap_any _ D6 w)
        clear D2 D6
        have P1 := Lib.hid (fun h => nx_p' (o := o) (b := b) h)
        have P2 := Lib.hid (fun h => nx_n' (o := o) (b := b) h)
        have HW := Lib.hid (nx_reg o b)
        clear H hcell
        by_cases f2 : (b : Int) / 16 = 2
        · go_wp2_with (go_at_call 33; (with_reducible refine (W2.out _).mono ?_); rintro e w' ⟨rfl, rfl⟩)
          go_round
          case rel => exact ⟨k + 1, _, by omega, by omega, by go_num, rfl, HP.out _ (.inl (by omega)) (by rw [wr64]; exact P1.out f2)⟩
          case measure => simp [intOf]; omega
        · by_cases f6 : (b : Int) / 16 = 6
          · go_wp2_with (go_at_call 33; (with_reducible refine (W6.out _).mono ?_); rintro e w' ⟨rfl, rfl⟩)
            go_round
            case rel => exact ⟨k + 1, _, by omega, by omega, by go_num, rfl, HP.out _ (.inr (by omega)) (by rw [wr64]; exact P2.out f6)⟩
            case measure => simp [intOf]; omega
          · have HG := Lib.hid (HE.out (by omega))
            have g2 : ((b : Int) / 16 != 2) = true := by simpa using f2
            have g6 : ((b : Int) / 16 != 6) = true := by simpa using f6
            go_wp2
            rw [HG.out]
            refine bodyPost_ret (v := .tuple #[.agg #[.int .u8 ((b / 16 : Nat) : Int), .int .i32 (o + ((b % 16 : Nat) : Int))], .int .i64 ((k + 1 : Nat) : Int), .int .i64 0]) ?_ rfl ⟨rfl, ?_⟩
            · simp [results, Try.results19, go_sem]
            · exact World.grownBy_alloc w _ none
      · obtain rfl : k = 16 := by omega
        have HS := Lib.hid (at_long H.out)
        go_wp2
        rw [HS.out]
        refine bodyPost_ret (v := .tuple #[.agg #[.int .u8 0, .int .i32 0], .int .i64 0, .int .i64 3]) ?_ rfl ⟨rfl, ?_⟩
        · simp [results, Try.results19, go_sem]
        · exact World.grownBy_alloc w _ none
    · obtain rfl : k = L := by omega
      by_cases hs : k < 16
      · have HS := Lib.hid (at_short (xs := xs) (o := o) (by rw [← HL.out]; exact H.out) (by rw [← HL.out]; omega))
        go_wp2
        rw [HS.out]
        refine bodyPost_ret (v := .tuple #[.agg #[.int .u8 0, .int .i32 0], .int .i64 0, .int .i64 40]) ?_ rfl ⟨rfl, ?_⟩
        · simp [results, Try.results19, go_sem]
        · exact World.grownBy_alloc w _ none
      · obtain rfl : k = 16 := by omega
        have HS := Lib.hid (at_long H.out)
        go_wp2
        rw [HS.out]
        refine bodyPost_ret (v := .tuple #[.agg #[.int .u8 0, .int .i32 0], .int .i64 0, .int .i64 3]) ?_ rfl ⟨rfl, ?_⟩
        · simp [results, Try.results19, go_sem]
        · exact World.grownBy_alloc w _ none
end Go.Proofs.Ytiblicpaeogihaa
