/- An instruction is decoded: by the program, and by the reference. -/
import Derived.Test.YtiblicpaeogihaaIns
namespace Go.Proofs.Ytiblicpaeogihaa
open Go Go.RowKit

theorem gt_cons {xs : List Nat} {k m : Nat} {o : Int} (h : k < xs.length) : gt (m + 1) o k (xs.drop k) = if xs.getD k 0 / 16 = 2 ∨ xs.getD k 0 / 16 = 6 then gt m (nx o (xs.getD k 0)) (k + 1) (xs.drop (k + 1)) else ⟨xs.getD k 0 / 16, o + (xs.getD k 0 % 16 : Nat), k + 1, 0⟩ := by
  rw [List.drop_eq_getElem_cons h]
  simp only [List.getD_eq_getElem?_getD, List.getElem?_eq_getElem h, Option.getD_some]
  rfl
/-- What a decoder hands back. -/
def Gets (w : World) (g : Got) (e : Ending) (w' : World) : Prop := e = .returned (.tuple #[.agg #[.int .u8 (g.fn : Int), .int .i32 g.arg], .int .i64 (g.n : Int), .int .i64 g.e]) ∧ w.grownBy w' none
theorem i32_or {o : Int} (h : Reg o) (n : Nat) : bits .or .i32 o ((n : Int) % 16) = o + (n : Int) % 16 := by
  show IntKind.i32.wrap ((BitVec.ofInt 32 o ||| BitVec.ofInt 32 ((n : Int) % 16)).toNat : Int) = _
  unfold Reg at h
  obtain ⟨q, hq⟩ : ∃ q : Nat, o % 4294967296 = (q : Int) * 16 := ⟨(o % 4294967296 / 16).toNat, by omega⟩
  have e1 : (BitVec.ofInt 32 o).toNat = q * 2 ^ 4 := by rw [BitVec.toNat_ofInt]; omega
  have e2 : (BitVec.ofInt 32 ((n : Int) % 16)).toNat = n % 16 := by rw [BitVec.toNat_ofInt]; omega
  rw [BitVec.toNat_or, e1, e2, or_add (n % 16) q 4 (by omega), IntKind.wrap_i32]
  omega
theorem u8_low (n : Nat) : bits .and .u8 (n : Int) 15 = (n : Int) % 16 := by rw [u8_and15]; omega
theorem reg_low {o : Int} (h : Reg o) (n : Nat) : isW (o + (n : Int) % 16) := by unfold Reg at h; unfold isW; omega
/-- What the loop of a decoder keeps. -/
def At (xs : List Nat) (k : Nat) (o : Int) : Prop := Reg o ∧ gt (16 - k) o k (xs.drop k) = get xs
theorem at_start (xs : List Nat) : At xs 0 0 := ⟨reg_zero, rfl⟩
theorem at_pre {xs : List Nat} {k : Nat} {o o' : Int} (h : At xs k o) (hk : k < xs.length) (h16 : k < 16) (hc : xs.getD k 0 / 16 = 2 ∨ xs.getD k 0 / 16 = 6) (ho : o' = nx o (xs.getD k 0)) : At xs (k + 1) o' := by
  subst ho
  refine ⟨nx_reg _ _, ?_⟩
  have h2 := h.2
  rw [show 16 - k = (16 - (k + 1)) + 1 by omega, gt_cons hk, if_pos hc] at h2
  exact h2
theorem at_end {xs : List Nat} {k : Nat} {o : Int} (h : At xs k o) (hk : k < xs.length) (h16 : k < 16) (hc : ¬ (xs.getD k 0 / 16 = 2 ∨ xs.getD k 0 / 16 = 6)) : get xs = ⟨xs.getD k 0 / 16, o + (xs.getD k 0 % 16 : Nat), k + 1, 0⟩ := by
  have h2 := h.2
  rw [show 16 - k = (16 - (k + 1)) + 1 by omega, gt_cons hk, if_neg hc] at h2
  exact h2.symm
theorem at_short {xs : List Nat} {o : Int} (h : At xs xs.length o) (h16 : xs.length < 16) : get xs = ⟨0, 0, 0, 40⟩ := by
  have h2 := h.2
  rw [show 16 - xs.length = (15 - xs.length) + 1 by omega, List.drop_length, gt_nil] at h2
  exact h2.symm
theorem at_long {xs : List Nat} {o : Int} (h : At xs 16 o) : get xs = ⟨0, 0, 0, 3⟩ := by
  have h2 := h.2
  rw [show 16 - 16 = 0 by omega, gt_zero] at h2
  exact h2.symm
theorem nx_p {o : Int} {b : Nat} (h : (b : Int) / 16 = 2) : wrap32 ((o + (b : Int) % 16) * 16) = nx o b := by
  unfold nx
  rw [if_neg (by omega), Int.mul_comm]
  rfl
theorem nx_n {o : Int} {b : Nat} (h : (b : Int) / 16 = 6) : wrap32 ((-1 - (o + (b : Int) % 16)) * 16) = nx o b := by
  unfold nx
  rw [if_pos (by omega), Int.mul_comm]
  rfl
set_option maxRecDepth 100000 in
set_option maxHeartbeats 1000000 in
theorem Get_at {A : Option Addr} {c : Nat} {xs : List Nat} {w : World} (R : RS w A c xs) (m : Nat) (hm : ((xs.length : Int) ≤ 16 ∧ m = xs.length) ∨ (16 < (xs.length : Int) ∧ m = 16)) : Calls Try.prog 18 #[.slice A xs.length c] w (Gets w (get xs)) := by
  have HR := Lib.hid R
  have hc := R.le
  have hmx := R.mx
  unfold maxLen at hmx
  obtain ⟨L, hL⟩ : ∃ L, L = xs.length := ⟨_, rfl⟩
  have HL := Lib.hid hL
  rw [← hL] at hm hc ⊢
  have q2 : (m : Int) ≤ (L : Int) := by omega
  have q3 : (m : Int) ≤ 16 := by omega
  have q1 : (L : Int) ≤ (c : Int) := by omega
  have HM := Lib.hid hm
  clear hL R
  unfold Gets
  have e16 : max (16 : Int) 0 = 16 := by decide
  obtain ⟨h16, rfl⟩ | ⟨h16, rfl⟩ := hm
  · go_enter Try.func18, Try.ntmps18
    go_wp2
    go_loop [5, 15] (fun o i => ∃ (k : Nat) (o' : Int), k ≤ m ∧ i = .int .i64 k ∧ o = .int .i32 o' ∧ Hid (At xs k o')) (fun _ i => m - (intOf i).toNat)
    case atStart => exact ⟨0, 0, Nat.zero_le _, rfl, rfl, at_start xs⟩
    case round =>
      obtain ⟨k, o, hk, rfl, rfl, H⟩ := hrel
      by_cases hlt : k < m
      · obtain ⟨ad, rfl, hcell⟩ := (HR.out.kept0 (World.grownBy_alloc w (.cells #[.int .u8 0, .int .i32 0] 23) none)).some_ (by rw [← HL.out]; omega)
        have c1 := hcell k (by rw [← HL.out]; omega)
        unfold bc at c1
        have HP := Lib.hid (fun (o' : Int) hc ho => at_pre (o' := o') H.out (by rw [← HL.out]; omega) (by omega) hc ho)
        have HE := Lib.hid (at_end H.out (by rw [← HL.out]; omega) (by omega))
        have b0 : xs.getD k 0 < 256 := HR.out.by_.get k
        generalize xs.getD k 0 = b at *
        have E1 := u8_low b
        have E2 := i32_or H.out.1 b
        have E3 := i32_not _ (reg_low H.out.1 b)
        have E4 := Lib.hid E3
        have P1 := Lib.hid (fun h => nx_p (o := o) (b := b) h)
        have P2 := Lib.hid (fun h => nx_n (o := o) (b := b) h)
        clear H hcell
        by_cases f2 : (b : Int) / 16 = 2
        · go_wp2
          go_round
          case rel => exact ⟨k + 1, _, by omega, by go_num, rfl, HP.out _ (.inl (by omega)) (P1.out f2)⟩
          case measure => simp [intOf]; omega
        · by_cases f6 : (b : Int) / 16 = 6
          · go_wp2
            go_round
            case rel => exact ⟨k + 1, _, by omega, by go_num, rfl, HP.out _ (.inr (by omega)) (by have h := P2.out f6; rw [← E4.out] at h; exact h)⟩
            case measure => simp [intOf]; omega
          · have HG := Lib.hid (HE.out (by omega))
            go_wp2
            rw [HG.out]
            refine bodyPost_ret (v := .tuple #[.agg #[.int .u8 ((b / 16 : Nat) : Int), .int .i32 (o + ((b % 16 : Nat) : Int))], .int .i64 ((k + 1 : Nat) : Int), .int .i64 0]) ?_ rfl ⟨rfl, ?_⟩
            · simp [results, Try.results18, go_sem]
            · exact World.grownBy_alloc w _ none
      · obtain rfl : k = m := by omega
        have HE := Lib.hid H.out
        by_cases hs : k < 16
        · have HS := Lib.hid (at_short (xs := xs) (o := o) (by rw [← HL.out]; exact HE.out) (by rw [← HL.out]; omega))
          go_wp2
          rw [HS.out]
          refine bodyPost_ret (v := .tuple #[.agg #[.int .u8 0, .int .i32 0], .int .i64 0, .int .i64 40]) ?_ rfl ⟨rfl, ?_⟩
          · simp [results, Try.results18, go_sem]
          · exact World.grownBy_alloc w _ none
        · obtain rfl : k = 16 := by omega
          have HS := Lib.hid (at_long HE.out)
          go_wp2
          rw [HS.out]
          refine bodyPost_ret (v := .tuple #[.agg #[.int .u8 0, .int .i32 0], .int .i64 0, .int .i64 3]) ?_ rfl ⟨rfl, ?_⟩
          · simp [results, Try.results18, go_sem]
          · exact World.grownBy_alloc w _ none
  · go_enter Try.func18, Try.ntmps18
    go_wp2
    go_loop [5, 15] (fun o i => ∃ (k : Nat) (o' : Int), k ≤ 16 ∧ i = .int .i64 k ∧ o = .int .i32 o' ∧ Hid (At xs k o')) (fun _ i => 16 - (intOf i).toNat)
    case atStart => exact ⟨0, 0, Nat.zero_le _, rfl, rfl, at_start xs⟩
    case round =>
      obtain ⟨k, o, hk, rfl, rfl, H⟩ := hrel
      by_cases hlt : k < 16
      · obtain ⟨ad, rfl, hcell⟩ := (HR.out.kept0 (World.grownBy_alloc w (.cells #[.int .u8 0, .int .i32 0] 23) none)).some_ (by rw [← HL.out]; omega)
        have c1 := hcell k (by rw [← HL.out]; omega)
        unfold bc at c1
        have HP := Lib.hid (fun (o' : Int) hc ho => at_pre (o' := o') H.out (by rw [← HL.out]; omega) (by omega) hc ho)
        have HE := Lib.hid (at_end H.out (by rw [← HL.out]; omega) (by omega))
        have b0 : xs.getD k 0 < 256 := HR.out.by_.get k
        generalize xs.getD k 0 = b at *
        have E1 := u8_low b
        have E2 := i32_or H.out.1 b
        have E3 := i32_not _ (reg_low H.out.1 b)
        have E4 := Lib.hid E3
        have P1 := Lib.hid (fun h => nx_p (o := o) (b := b) h)
        have P2 := Lib.hid (fun h => nx_n (o := o) (b := b) h)
        clear H hcell
        by_cases f2 : (b : Int) / 16 = 2
        · go_wp2
          go_round
          case rel => exact ⟨k + 1, _, by omega, by go_num, rfl, HP.out _ (.inl (by omega)) (P1.out f2)⟩
          case measure => simp [intOf]; omega
        · by_cases f6 : (b : Int) / 16 = 6
          · go_wp2
            go_round
            case rel => exact ⟨k + 1, _, by omega, by go_num, rfl, HP.out _ (.inr (by omega)) (by have h := P2.out f6; rw [← E4.out] at h; exact h)⟩
            case measure => simp [intOf]; omega
          · have HG := Lib.hid (HE.out (by omega))
            go_wp2
            rw [HG.out]
            refine bodyPost_ret (v := .tuple #[.agg #[.int .u8 ((b / 16 : Nat) : Int), .int .i32 (o + ((b % 16 : Nat) : Int))], .int .i64 ((k + 1 : Nat) : Int), .int .i64 0]) ?_ rfl ⟨rfl, ?_⟩
            · simp [results, Try.results18, go_sem]
            · exact World.grownBy_alloc w _ none
      · obtain rfl : k = 16 := by omega
        have HS := Lib.hid (at_long H.out)
        go_wp2
        rw [HS.out]
        refine bodyPost_ret (v := .tuple #[.agg #[.int .u8 0, .int .i32 0], .int .i64 0, .int .i64 3]) ?_ rfl ⟨rfl, ?_⟩
        · simp [results, Try.results18, go_sem]
        · exact World.grownBy_alloc w _ none
theorem Get_any {A : Option Addr} {c : Nat} {xs : List Nat} {w : World} (R : RS w A c xs) : Calls Try.prog 18 #[.slice A xs.length c] w (Gets w (get xs)) := by
  by_cases h : (xs.length : Int) ≤ 16
  · exact Get_at R xs.length (.inl ⟨h, rfl⟩)
  · exact Get_at R 16 (.inr ⟨by omega, rfl⟩)
end Go.Proofs.Ytiblicpaeogihaa
