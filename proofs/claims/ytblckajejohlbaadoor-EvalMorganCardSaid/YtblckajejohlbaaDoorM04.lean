/- The reference: Apply (by tools/gen14r.py). -/
import Derived.Deep.CutRange
import Derived.Test.YtblckajejohlbaaDoorM03
set_option linter.unusedVariables false
set_option linter.unusedSimpArgs false
set_option linter.unusedVariables false
set_option linter.unusedSimpArgs false
namespace Go.Proofs.YtblckajejohlbaaDoor
open Go Go.RowKit L8 L10 L14

theorem Rfit_any (v : Int) (w : World) : Calls Tryd.prog 85 #[.int .i64 v] w fun e w' => e = .returned (apR (fitO v)) ∧ w = w' := by
  have C := W1.Fits_any v w
  rw [over_fit] at C
  cases h : (fitO v).isSome with
  | true =>
    rw [h] at C
    have C := Lib.hid C
    have hv := wrap_fit h
    rw [hv]
    show Calls _ _ _ _ fun e w' => e = .returned (.tuple #[.int .i32 (wrap32 v), .bool true]) ∧ w = w'
    go_enter Tryd.func85, Tryd.ntmps85
    go_wp2_with (go_at_call 127; (with_reducible refine (C.out).mono ?_); rintro e w' ⟨rfl, rfl⟩)
    go_ret2
    exact ⟨rfl, rfl⟩
  | false =>
    rw [h] at C
    have C := Lib.hid C
    have hv : fitO v = none := by cases hf : fitO v with
      | none => rfl
      | some y => rw [hf] at h; cases h
    rw [hv]
    show Calls _ _ _ _ fun e w' => e = .returned (.tuple #[.int .i32 0, .bool false]) ∧ w = w'
    go_enter Tryd.func85, Tryd.ntmps85
    go_wp2_with (go_at_call 127; (with_reducible refine (C.out).mono ?_); rintro e w' ⟨rfl, rfl⟩)
    go_ret2
    exact ⟨rfl, rfl⟩
/-- What may be missing. -/
theorem Rsome_any (v : Int) (p : Bool) (x : Option Int) (h : UncR x (.returned (.tuple #[.int .i32 v, .bool p]))) (w : World) : Calls Tryd.prog 63 #[.int .i32 v, .bool p] w fun e w' => e = .returned (apR x) ∧ w = w' := by
  obtain ⟨r, q, e, h1, h2⟩ := h
  injection e with e
  injection e with e
  have e1 := congrArg (fun a => a[0]?) e
  have e2 := congrArg (fun a => a[1]?) e
  simp at e1 e2
  subst e1 e2
  cases p with
  | true =>
    rw [h1 rfl]
    show Calls _ _ _ _ fun e w' => e = .returned (.tuple #[.int .i32 0, .bool false]) ∧ w = w'
    go_enter Tryd.func63, Tryd.ntmps63
    go_wp2
    go_ret2
    exact ⟨rfl, rfl⟩
  | false =>
    rw [h2 rfl]
    show Calls _ _ _ _ fun e w' => e = .returned (.tuple #[.int .i32 v, .bool true]) ∧ w = w'
    go_enter Tryd.func63, Tryd.ntmps63
    go_wp2
    go_ret2
    exact ⟨rfl, rfl⟩
theorem Rtruth_any (p : Bool) (w : World) : Calls Tryd.prog 93 #[.bool p] w fun e w' => e = .returned (.tuple #[.int .i32 (b01 p), .bool true]) ∧ w = w' := by
  go_enter Tryd.func93, Tryd.ntmps93
  cases p <;> (go_wp2; go_ret2; exact ⟨rfl, rfl⟩)
theorem Rbit_of (o : Nat) (O p q : Int) (ho : (o = 9 ∧ O = 9) ∨ (o = 10 ∧ O = 10) ∨ (o = 11 ∧ O = 11) ∨ (o = 25 ∧ O = 25)) (hp : p = 0 ∨ p = 1) (hq : q = 0 ∨ q = 1) (w : World) : Calls Tryd.prog 130 #[.int .u8 O, .int .i64 p, .int .i64 q] w fun e w' => e = .returned (.int .i64 (bitO o p q)) ∧ w = w' := by
  rcases ho with ⟨rfl, rfl⟩ | ⟨rfl, rfl⟩ | ⟨rfl, rfl⟩ | ⟨rfl, rfl⟩ <;> rcases hp with rfl | rfl <;> rcases hq with rfl | rfl <;>
    (go_enter Tryd.func130, Tryd.ntmps130
     go_wp2
     go_ret
     exact ⟨rfl, rfl⟩)
theorem bit_rng (o : Nat) {p q : Int} (hp : p = 0 ∨ p = 1) (hq : q = 0 ∨ q = 1) : bitO o p q = 0 ∨ bitO o p q = 1 := by
  unfold bitO
  rcases hp with rfl | rfl <;> rcases hq with rfl | rfl <;> (repeat' split) <;> decide
theorem bsum_apw (o : Nat) (a b : Int) (ho : o = 9 ∨ o = 10 ∨ o = 11 ∨ o = 25) : apO o a b = some (wrap32 (bsum o (a % 4294967296) (b % 4294967296) 32)) := by
  rw [bsum_ap o a b ho, IntKind.wrap_i32]
  unfold wrap32
  rfl
theorem mod2 (x : Int) : x % 2 = 0 ∨ x % 2 = 1 := by omega
set_option maxRecDepth 100000 in
set_option maxHeartbeats 4000000 in
theorem Rbw_of (o : Nat) (O a b : Int) (ho : (o = 9 ∧ O = 9) ∨ (o = 10 ∧ O = 10) ∨ (o = 11 ∧ O = 11) ∨ (o = 25 ∧ O = 25)) (ha : W1.isW a) (hb : W1.isW b) (w : World) : Calls Tryd.prog 90 #[.int .u8 O, .int .i32 a, .int .i32 b] w fun e w' => e = .returned (.int .i32 (wrap32 (bsum o (a % 4294967296) (b % 4294967296) 32))) ∧ Below w.heap.size w w' := by
  have CA := Lib.hid (W1.Unsigned_any a ha)
  have CB := Lib.hid (W1.Unsigned_any b hb)
  have HR := Lib.hid (bsum_rng o a b)
  have hX : 0 ≤ a % 4294967296 ∧ a % 4294967296 ≤ 4294967295 := by omega
  have hY : 0 ≤ b % 4294967296 ∧ b % 4294967296 ≤ 4294967295 := by omega
  generalize a % 4294967296 = X at *
  generalize b % 4294967296 = Y at *
  have hX1 := hX.1
  have hX2 := hX.2
  have hY1 := hY.1
  have hY2 := hY.2
  clear hX hY
  have CW := Lib.hid fun v (h : 0 ≤ v ∧ v ≤ 4294967295) => W1.Wrap_any v (by unfold W1.isD; omega)
  have CT := Lib.hid fun p q hp hq => Rbit_of o O p q ho hp hq
  have HS := Lib.hid (show ∀ i, bsum o X Y (i + 1) = bsum o X Y i + bitO o (X / 2 ^ i % 2) (Y / 2 ^ i % 2) * 2 ^ i from fun _ => rfl)
  clear ho
  go_enter Tryd.func90, Tryd.ntmps90
  go_wp2_with (first
    | (go_at_call 129; (with_reducible refine (CA.out _).mono ?_); rintro e w' ⟨rfl, rfl⟩; clear CA)
    | (go_at_call 129; (with_reducible refine (CB.out _).mono ?_); rintro e w' ⟨rfl, rfl⟩; clear CB))
  go_loopw [9, 10] (fun v i wr => ∃ j : Nat, j ≤ 32 ∧ v = .int .i64 (bsum o X Y j) ∧ i = .int .i64 (j : Int) ∧ Hid (Below w.heap.size w wr)) (fun _ i _ => 32 - (intOf i).toNat)
  case atStart => exact ⟨0, by omega, rfl, rfl, Lib.hid (b0 w)⟩
  case round =>
    obtain ⟨j, hj, rfl, rfl, HB⟩ := hrel
    have hj0 : (0 : Int) ≤ (j : Int) := by omega
    by_cases hlt : (j : Int) < 32
    · have hj64 : (j : Int) ≤ 64 := by omega
      have hp0 : (0 : Int) ≤ X / 2 ^ j := Int.ediv_nonneg hX1 (Int.le_of_lt (Int.pow_pos (by decide)))
      have hq0 : (0 : Int) ≤ Y / 2 ^ j := Int.ediv_nonneg hY1 (Int.le_of_lt (Int.pow_pos (by decide)))
      have hpw : (0 : Int) < 2 ^ j ∧ (2 : Int) ^ j ≤ 2147483648 := by
        have h1 : (2 : Nat) ^ j ≤ 2 ^ 31 := Nat.pow_le_pow_right (by decide) (by omega)
        have h2 : 0 < (2 : Nat) ^ j := Nat.pow_pos (by decide)
        have h3 : ((2 ^ j : Nat) : Int) = (2 : Int) ^ j := by norm_cast
        rw [← h3]
        omega
      have HN := HR.out (j + 1) (by omega)
      rw [HS.out j] at HN
      have hr := HR.out j (by omega)
      obtain ⟨p, hp⟩ : ∃ p, X / 2 ^ j % 2 = p := ⟨_, rfl⟩
      obtain ⟨q, hq⟩ : ∃ q, Y / 2 ^ j % 2 = q := ⟨_, rfl⟩
      have hp1 := mod2 (X / 2 ^ j)
      have hq1 := mod2 (Y / 2 ^ j)
      have C := Lib.hid (CT.out (X / 2 ^ j % 2) (Y / 2 ^ j % 2) hp1 hq1)
      have hz := bit_rng o hp1 hq1
      have HE := Lib.hid (HS.out j)
      rw [hp, hq] at HN C hz HE
      have ep : (X / 2 ^ j).tmod 2 = p := by rw [Int.tmod_eq_emod_of_nonneg hp0]; exact hp
      have eq : (Y / 2 ^ j).tmod 2 = q := by rw [Int.tmod_eq_emod_of_nonneg hq0]; exact hq
      generalize hxs : X / 2 ^ j = xs at *
      generalize hys : Y / 2 ^ j = ys at *
      generalize bitO o p q = z at *
      obtain ⟨t, ht⟩ : ∃ t : Int, z * 2 ^ j = t := ⟨_, rfl⟩
      have htr : 0 ≤ t ∧ t ≤ 2147483648 := by
        rw [← ht]
        rcases hz with rfl | rfl
        · rw [Int.zero_mul]; omega
        · rw [Int.one_mul]; omega
      rw [ht] at HN HE
      have wt : IntKind.i64.wrap (z * 2 ^ j) = t := by rw [ht]; exact IntWalk.i64_in _ (by omega)
      obtain ⟨s, hs⟩ : ∃ s : Int, bsum o X Y j = s := ⟨_, rfl⟩
      rw [hs] at HE HN hr
      have ws : IntKind.i64.wrap (s + t) = s + t := IntWalk.i64_in _ (by omega)
      rw [hs]
      have HQ := Lib.hid HE.out
      clear hp hq hp1 hq1 hz HN hr hp0 hq0 HE hs ht
      go_wp2
      go_quiet ((go_at_call 130; exact (C.out _).mono fun _ _ h => ⟨h.1, _, h.2.symm⟩))
      have HB2 := Lib.hid (blw HB.out (bdrew (b0 wr) nq))
      generalize wr.drewN nq = W at *
      go_wp2
      go_roundw
      case rel => exact ⟨j + 1, by omega, by rw [HQ.out], by go_num, HB2⟩
      case measure => simp [intOf]; omega
    · obtain rfl : j = 32 := by omega
      have C := Lib.hid (CW.out _ (HR.out 32 (by omega)))
      obtain ⟨s, hs⟩ : ∃ s, bsum o X Y 32 = s := ⟨_, rfl⟩
      rw [hs] at C ⊢
      have HS32 := Lib.hid hs
      clear hs
      go_wp2_with (go_at_call 88; (with_reducible refine (C.out _).mono ?_); rintro e w' ⟨rfl, rfl⟩)
      go_ret
      exact ⟨by rw [HS32.out]; rfl, HB.out⟩
set_option maxRecDepth 100000 in
set_option maxHeartbeats 4000000 in
theorem rap_1 (a b : Int) (ha : W1.isW a) (hb : W1.isW b) (w : World) : Calls Tryd.prog 70 #[.int .u8 1, .int .i32 a, .int .i32 b] w (ApR w (apO 1 a b)) := by
  have ha1 := ha.1
  have ha2 := ha.2
  have hb1 := hb.1
  have hb2 := hb.2
  unfold ApR
  have e1 : wrap64 a = a := by unfold wrap64; omega
  have e2 : wrap64 b = b := by unfold wrap64; omega
  have e3 : wrap64 (a + b) = a + b := by unfold wrap64; omega
  have C := Lib.hid (Rfit_any (a + b))
  unfold apR at C
  go_enter Tryd.func70, Tryd.ntmps70
  go_upto_region 1 with fail
  go_cut [8] from 8 to 24 (fun t wx => t = .bool (isT a && isT b) ∧ wx = w)
  case first =>
    have QA := Lib.hid (show isT a = (decide (a = 0) || decide (a = 1)) from rfl)
    have QB := Lib.hid (show isT b = (decide (b = 0) || decide (b = 1)) from rfl)
    have a0 : (a == 0) = decide (a = 0) := by by_cases h : a = 0 <;> simp [h]
    have a1 : (a == 1) = decide (a = 1) := by by_cases h : a = 1 <;> simp [h]
    have c0 : (b == 0) = decide (b = 0) := by by_cases h : b = 0 <;> simp [h]
    have c1 : (b == 1) = decide (b = 1) := by by_cases h : b = 1 <;> simp [h]
    generalize decide (a = 0) = x0 at *
    generalize decide (a = 1) = x1 at *
    generalize decide (b = 0) = y0 at *
    generalize decide (b = 1) = y1 at *
    clear ha hb ha1 ha2 hb1 hb2 e1 e2 e3 C
    cases x0 <;> cases x1 <;> cases y0 <;> cases y1 <;>
      (go_wp2
       go_meet
       case rel => exact ⟨by rw [QA.out, QB.out]; rfl, rfl⟩)
  case rest =>
    obtain ⟨rfl, rfl⟩ := hcut
    generalize (isT a && isT b) = z at *
    clear ha hb
    go_wp2_with (go_at_call 85; (with_reducible refine (C.out _).mono ?_); rintro e w' ⟨rfl, rfl⟩)
    go_ret2
    exact ⟨rfl, b0 _⟩
set_option maxRecDepth 100000 in
set_option maxHeartbeats 4000000 in
theorem rap_2 (a b : Int) (ha : W1.isW a) (hb : W1.isW b) (w : World) : Calls Tryd.prog 70 #[.int .u8 2, .int .i32 a, .int .i32 b] w (ApR w (apO 2 a b)) := by
  have ha1 := ha.1
  have ha2 := ha.2
  have hb1 := hb.1
  have hb2 := hb.2
  unfold ApR
  have e1 : wrap64 a = a := by unfold wrap64; omega
  have e2 : wrap64 b = b := by unfold wrap64; omega
  have e3 : wrap64 (a - b) = a - b := by unfold wrap64; omega
  have C := Lib.hid (Rfit_any (a - b))
  unfold apR at C
  go_enter Tryd.func70, Tryd.ntmps70
  go_upto_region 1 with fail
  go_cut [8] from 8 to 24 (fun t wx => t = .bool (isT a && isT b) ∧ wx = w)
  case first =>
    have QA := Lib.hid (show isT a = (decide (a = 0) || decide (a = 1)) from rfl)
    have QB := Lib.hid (show isT b = (decide (b = 0) || decide (b = 1)) from rfl)
    have a0 : (a == 0) = decide (a = 0) := by by_cases h : a = 0 <;> simp [h]
    have a1 : (a == 1) = decide (a = 1) := by by_cases h : a = 1 <;> simp [h]
    have c0 : (b == 0) = decide (b = 0) := by by_cases h : b = 0 <;> simp [h]
    have c1 : (b == 1) = decide (b = 1) := by by_cases h : b = 1 <;> simp [h]
    generalize decide (a = 0) = x0 at *
    generalize decide (a = 1) = x1 at *
    generalize decide (b = 0) = y0 at *
    generalize decide (b = 1) = y1 at *
    clear ha hb ha1 ha2 hb1 hb2 e1 e2 e3 C
    cases x0 <;> cases x1 <;> cases y0 <;> cases y1 <;>
      (go_wp2
       go_meet
       case rel => exact ⟨by rw [QA.out, QB.out]; rfl, rfl⟩)
  case rest =>
    obtain ⟨rfl, rfl⟩ := hcut
    generalize (isT a && isT b) = z at *
    clear ha hb
    go_wp2_with (go_at_call 85; (with_reducible refine (C.out _).mono ?_); rintro e w' ⟨rfl, rfl⟩)
    go_ret2
    exact ⟨rfl, b0 _⟩
set_option maxRecDepth 100000 in
set_option maxHeartbeats 4000000 in
theorem rap_3 (a b : Int) (ha : W1.isW a) (hb : W1.isW b) (w : World) : Calls Tryd.prog 70 #[.int .u8 3, .int .i32 a, .int .i32 b] w (ApR w (apO 3 a b)) := by
  have ha1 := ha.1
  have ha2 := ha.2
  have hb1 := hb.1
  have hb2 := hb.2
  unfold ApR
  have e1 : wrap64 a = a := by unfold wrap64; omega
  have e2 : wrap64 b = b := by unfold wrap64; omega
  have e3 : wrap64 (a * b) = a * b := by unfold wrap64; have := W1.mul_bd ha hb; omega
  have C := Lib.hid (Rfit_any (a * b))
  unfold apR at C
  go_enter Tryd.func70, Tryd.ntmps70
  go_upto_region 1 with fail
  go_cut [8] from 8 to 24 (fun t wx => t = .bool (isT a && isT b) ∧ wx = w)
  case first =>
    have QA := Lib.hid (show isT a = (decide (a = 0) || decide (a = 1)) from rfl)
    have QB := Lib.hid (show isT b = (decide (b = 0) || decide (b = 1)) from rfl)
    have a0 : (a == 0) = decide (a = 0) := by by_cases h : a = 0 <;> simp [h]
    have a1 : (a == 1) = decide (a = 1) := by by_cases h : a = 1 <;> simp [h]
    have c0 : (b == 0) = decide (b = 0) := by by_cases h : b = 0 <;> simp [h]
    have c1 : (b == 1) = decide (b = 1) := by by_cases h : b = 1 <;> simp [h]
    generalize decide (a = 0) = x0 at *
    generalize decide (a = 1) = x1 at *
    generalize decide (b = 0) = y0 at *
    generalize decide (b = 1) = y1 at *
    clear ha hb ha1 ha2 hb1 hb2 e1 e2 e3 C
    cases x0 <;> cases x1 <;> cases y0 <;> cases y1 <;>
      (go_wp2
       go_meet
       case rel => exact ⟨by rw [QA.out, QB.out]; rfl, rfl⟩)
  case rest =>
    obtain ⟨rfl, rfl⟩ := hcut
    generalize (isT a && isT b) = z at *
    clear ha hb
    go_wp2_with (go_at_call 85; (with_reducible refine (C.out _).mono ?_); rintro e w' ⟨rfl, rfl⟩)
    go_ret2
    exact ⟨rfl, b0 _⟩
set_option maxRecDepth 100000 in
set_option maxHeartbeats 4000000 in
theorem rap_4 (a b : Int) (ha : W1.isW a) (hb : W1.isW b) (w : World) : Calls Tryd.prog 70 #[.int .u8 4, .int .i32 a, .int .i32 b] w (ApR w (apO 4 a b)) := by
  have ha1 := ha.1
  have ha2 := ha.2
  have hb1 := hb.1
  have hb2 := hb.2
  unfold ApR
  have C := Lib.hid (W1.RDiv_any a b ha hb)
  have D := Lib.hid (Rsome_any _ _ _ (div_unc a b))
  unfold apR at D
  go_enter Tryd.func70, Tryd.ntmps70
  go_upto_region 1 with fail
  go_cut [8] from 8 to 24 (fun t wx => t = .bool (isT a && isT b) ∧ wx = w)
  case first =>
    have QA := Lib.hid (show isT a = (decide (a = 0) || decide (a = 1)) from rfl)
    have QB := Lib.hid (show isT b = (decide (b = 0) || decide (b = 1)) from rfl)
    have a0 : (a == 0) = decide (a = 0) := by by_cases h : a = 0 <;> simp [h]
    have a1 : (a == 1) = decide (a = 1) := by by_cases h : a = 1 <;> simp [h]
    have c0 : (b == 0) = decide (b = 0) := by by_cases h : b = 0 <;> simp [h]
    have c1 : (b == 1) = decide (b = 1) := by by_cases h : b = 1 <;> simp [h]
    generalize decide (a = 0) = x0 at *
    generalize decide (a = 1) = x1 at *
    generalize decide (b = 0) = y0 at *
    generalize decide (b = 1) = y1 at *
    clear ha hb ha1 ha2 hb1 hb2 C D
    cases x0 <;> cases x1 <;> cases y0 <;> cases y1 <;>
      (go_wp2
       go_meet
       case rel => exact ⟨by rw [QA.out, QB.out]; rfl, rfl⟩)
  case rest =>
    obtain ⟨rfl, rfl⟩ := hcut
    generalize (isT a && isT b) = z at *
    clear ha hb
    go_wp2_with (first | (go_at_call 86; (with_reducible refine (C.out _).mono ?_); rintro e w' ⟨rfl, rfl⟩) | (go_at_call 63; (with_reducible refine (D.out _).mono ?_); rintro e w' ⟨rfl, rfl⟩))
    go_ret2
    exact ⟨rfl, b0 _⟩
set_option maxRecDepth 100000 in
set_option maxHeartbeats 4000000 in
theorem rap_5 (a b : Int) (ha : W1.isW a) (hb : W1.isW b) (w : World) : Calls Tryd.prog 70 #[.int .u8 5, .int .i32 a, .int .i32 b] w (ApR w (apO 5 a b)) := by
  have ha1 := ha.1
  have ha2 := ha.2
  have hb1 := hb.1
  have hb2 := hb.2
  unfold ApR
  have C := Lib.hid (W1.RRem_any a b ha hb)
  have D := Lib.hid (Rsome_any _ _ _ (rem_unc a b))
  unfold apR at D
  go_enter Tryd.func70, Tryd.ntmps70
  go_upto_region 1 with fail
  go_cut [8] from 8 to 24 (fun t wx => t = .bool (isT a && isT b) ∧ wx = w)
  case first =>
    have QA := Lib.hid (show isT a = (decide (a = 0) || decide (a = 1)) from rfl)
    have QB := Lib.hid (show isT b = (decide (b = 0) || decide (b = 1)) from rfl)
    have a0 : (a == 0) = decide (a = 0) := by by_cases h : a = 0 <;> simp [h]
    have a1 : (a == 1) = decide (a = 1) := by by_cases h : a = 1 <;> simp [h]
    have c0 : (b == 0) = decide (b = 0) := by by_cases h : b = 0 <;> simp [h]
    have c1 : (b == 1) = decide (b = 1) := by by_cases h : b = 1 <;> simp [h]
    generalize decide (a = 0) = x0 at *
    generalize decide (a = 1) = x1 at *
    generalize decide (b = 0) = y0 at *
    generalize decide (b = 1) = y1 at *
    clear ha hb ha1 ha2 hb1 hb2 C D
    cases x0 <;> cases x1 <;> cases y0 <;> cases y1 <;>
      (go_wp2
       go_meet
       case rel => exact ⟨by rw [QA.out, QB.out]; rfl, rfl⟩)
  case rest =>
    obtain ⟨rfl, rfl⟩ := hcut
    generalize (isT a && isT b) = z at *
    clear ha hb
    go_wp2_with (first | (go_at_call 87; (with_reducible refine (C.out _).mono ?_); rintro e w' ⟨rfl, rfl⟩) | (go_at_call 63; (with_reducible refine (D.out _).mono ?_); rintro e w' ⟨rfl, rfl⟩))
    go_ret2
    exact ⟨rfl, b0 _⟩
set_option maxRecDepth 100000 in
set_option maxHeartbeats 4000000 in
theorem rap_6 (a b : Int) (ha : W1.isW a) (hb : W1.isW b) (w : World) : Calls Tryd.prog 70 #[.int .u8 6, .int .i32 a, .int .i32 b] w (ApR w (apO 6 a b)) := by
  have ha1 := ha.1
  have ha2 := ha.2
  have hb1 := hb.1
  have hb2 := hb.2
  unfold ApR
  have e1 : wrap64 a = a := by unfold wrap64; omega
  have e2 : wrap64 b = b := by unfold wrap64; omega
  have e3 : wrap64 (a + b) = a + b := by unfold wrap64; omega
  have C := Lib.hid (W1.Wrap_any (a + b) (by unfold W1.isD; omega))
  go_enter Tryd.func70, Tryd.ntmps70
  go_upto_region 1 with fail
  go_cut [8] from 8 to 24 (fun t wx => t = .bool (isT a && isT b) ∧ wx = w)
  case first =>
    have QA := Lib.hid (show isT a = (decide (a = 0) || decide (a = 1)) from rfl)
    have QB := Lib.hid (show isT b = (decide (b = 0) || decide (b = 1)) from rfl)
    have a0 : (a == 0) = decide (a = 0) := by by_cases h : a = 0 <;> simp [h]
    have a1 : (a == 1) = decide (a = 1) := by by_cases h : a = 1 <;> simp [h]
    have c0 : (b == 0) = decide (b = 0) := by by_cases h : b = 0 <;> simp [h]
    have c1 : (b == 1) = decide (b = 1) := by by_cases h : b = 1 <;> simp [h]
    generalize decide (a = 0) = x0 at *
    generalize decide (a = 1) = x1 at *
    generalize decide (b = 0) = y0 at *
    generalize decide (b = 1) = y1 at *
    clear ha hb ha1 ha2 hb1 hb2 e1 e2 e3 C
    cases x0 <;> cases x1 <;> cases y0 <;> cases y1 <;>
      (go_wp2
       go_meet
       case rel => exact ⟨by rw [QA.out, QB.out]; rfl, rfl⟩)
  case rest =>
    obtain ⟨rfl, rfl⟩ := hcut
    generalize (isT a && isT b) = z at *
    clear ha hb
    go_wp2_with (go_at_call 88; (with_reducible refine (C.out _).mono ?_); rintro e w' ⟨rfl, rfl⟩)
    go_ret2
    exact ⟨by rw [w32_is]; rfl, b0 _⟩
set_option maxRecDepth 100000 in
set_option maxHeartbeats 4000000 in
theorem rap_7 (a b : Int) (ha : W1.isW a) (hb : W1.isW b) (w : World) : Calls Tryd.prog 70 #[.int .u8 7, .int .i32 a, .int .i32 b] w (ApR w (apO 7 a b)) := by
  have ha1 := ha.1
  have ha2 := ha.2
  have hb1 := hb.1
  have hb2 := hb.2
  unfold ApR
  have e1 : wrap64 a = a := by unfold wrap64; omega
  have e2 : wrap64 b = b := by unfold wrap64; omega
  have e3 : wrap64 (a - b) = a - b := by unfold wrap64; omega
  have C := Lib.hid (W1.Wrap_any (a - b) (by unfold W1.isD; omega))
  go_enter Tryd.func70, Tryd.ntmps70
  go_upto_region 1 with fail
  go_cut [8] from 8 to 24 (fun t wx => t = .bool (isT a && isT b) ∧ wx = w)
  case first =>
    have QA := Lib.hid (show isT a = (decide (a = 0) || decide (a = 1)) from rfl)
    have QB := Lib.hid (show isT b = (decide (b = 0) || decide (b = 1)) from rfl)
    have a0 : (a == 0) = decide (a = 0) := by by_cases h : a = 0 <;> simp [h]
    have a1 : (a == 1) = decide (a = 1) := by by_cases h : a = 1 <;> simp [h]
    have c0 : (b == 0) = decide (b = 0) := by by_cases h : b = 0 <;> simp [h]
    have c1 : (b == 1) = decide (b = 1) := by by_cases h : b = 1 <;> simp [h]
    generalize decide (a = 0) = x0 at *
    generalize decide (a = 1) = x1 at *
    generalize decide (b = 0) = y0 at *
    generalize decide (b = 1) = y1 at *
    clear ha hb ha1 ha2 hb1 hb2 e1 e2 e3 C
    cases x0 <;> cases x1 <;> cases y0 <;> cases y1 <;>
      (go_wp2
       go_meet
       case rel => exact ⟨by rw [QA.out, QB.out]; rfl, rfl⟩)
  case rest =>
    obtain ⟨rfl, rfl⟩ := hcut
    generalize (isT a && isT b) = z at *
    clear ha hb
    go_wp2_with (go_at_call 88; (with_reducible refine (C.out _).mono ?_); rintro e w' ⟨rfl, rfl⟩)
    go_ret2
    exact ⟨by rw [w32_is]; rfl, b0 _⟩
set_option maxRecDepth 100000 in
set_option maxHeartbeats 4000000 in
theorem rap_8 (a b : Int) (ha : W1.isW a) (hb : W1.isW b) (w : World) : Calls Tryd.prog 70 #[.int .u8 8, .int .i32 a, .int .i32 b] w (ApR w (apO 8 a b)) := by
  have ha1 := ha.1
  have ha2 := ha.2
  have hb1 := hb.1
  have hb2 := hb.2
  unfold ApR
  have C := Lib.hid (W1.RMul_any a b ha hb)
  go_enter Tryd.func70, Tryd.ntmps70
  go_upto_region 1 with fail
  go_cut [8] from 8 to 24 (fun t wx => t = .bool (isT a && isT b) ∧ wx = w)
  case first =>
    have QA := Lib.hid (show isT a = (decide (a = 0) || decide (a = 1)) from rfl)
    have QB := Lib.hid (show isT b = (decide (b = 0) || decide (b = 1)) from rfl)
    have a0 : (a == 0) = decide (a = 0) := by by_cases h : a = 0 <;> simp [h]
    have a1 : (a == 1) = decide (a = 1) := by by_cases h : a = 1 <;> simp [h]
    have c0 : (b == 0) = decide (b = 0) := by by_cases h : b = 0 <;> simp [h]
    have c1 : (b == 1) = decide (b = 1) := by by_cases h : b = 1 <;> simp [h]
    generalize decide (a = 0) = x0 at *
    generalize decide (a = 1) = x1 at *
    generalize decide (b = 0) = y0 at *
    generalize decide (b = 1) = y1 at *
    clear ha hb ha1 ha2 hb1 hb2 C
    cases x0 <;> cases x1 <;> cases y0 <;> cases y1 <;>
      (go_wp2
       go_meet
       case rel => exact ⟨by rw [QA.out, QB.out]; rfl, rfl⟩)
  case rest =>
    obtain ⟨rfl, rfl⟩ := hcut
    generalize (isT a && isT b) = z at *
    clear ha hb
    go_wp2_with (go_at_call 89; (with_reducible refine (C.out _).mono ?_); rintro e w' ⟨rfl, rfl⟩)
    go_ret2
    exact ⟨by rw [w32_is]; rfl, b0 _⟩
set_option maxRecDepth 100000 in
set_option maxHeartbeats 4000000 in
theorem rap_9 (a b : Int) (ha : W1.isW a) (hb : W1.isW b) (w : World) : Calls Tryd.prog 70 #[.int .u8 9, .int .i32 a, .int .i32 b] w (ApR w (apO 9 a b)) := by
  have ha1 := ha.1
  have ha2 := ha.2
  have hb1 := hb.1
  have hb2 := hb.2
  unfold ApR
  have HE := Lib.hid (bsum_apw 9 a b (by omega))
  have C := Lib.hid (Rbw_of 9 9 a b (by omega) ha hb)
  go_enter Tryd.func70, Tryd.ntmps70
  go_upto_region 1 with fail
  go_cut [8] from 8 to 24 (fun t wx => t = .bool (isT a && isT b) ∧ wx = w)
  case first =>
    have QA := Lib.hid (show isT a = (decide (a = 0) || decide (a = 1)) from rfl)
    have QB := Lib.hid (show isT b = (decide (b = 0) || decide (b = 1)) from rfl)
    have a0 : (a == 0) = decide (a = 0) := by by_cases h : a = 0 <;> simp [h]
    have a1 : (a == 1) = decide (a = 1) := by by_cases h : a = 1 <;> simp [h]
    have c0 : (b == 0) = decide (b = 0) := by by_cases h : b = 0 <;> simp [h]
    have c1 : (b == 1) = decide (b = 1) := by by_cases h : b = 1 <;> simp [h]
    generalize decide (a = 0) = x0 at *
    generalize decide (a = 1) = x1 at *
    generalize decide (b = 0) = y0 at *
    generalize decide (b = 1) = y1 at *
    clear ha hb ha1 ha2 hb1 hb2 HE C
    cases x0 <;> cases x1 <;> cases y0 <;> cases y1 <;>
      (go_wp2
       go_meet
       case rel => exact ⟨by rw [QA.out, QB.out]; rfl, rfl⟩)
  case rest =>
    obtain ⟨rfl, rfl⟩ := hcut
    generalize (isT a && isT b) = z at *
    clear ha hb
    go_wp2_with (go_at_call 90; (with_reducible refine (C.out _).mono ?_); rintro e w' ⟨rfl, b1⟩; have H1 := Lib.hid b1; clear b1)
    go_ret2
    exact ⟨by rw [HE.out]; rfl, H1.out⟩
set_option maxRecDepth 100000 in
set_option maxHeartbeats 4000000 in
theorem rap_10 (a b : Int) (ha : W1.isW a) (hb : W1.isW b) (w : World) : Calls Tryd.prog 70 #[.int .u8 10, .int .i32 a, .int .i32 b] w (ApR w (apO 10 a b)) := by
  have ha1 := ha.1
  have ha2 := ha.2
  have hb1 := hb.1
  have hb2 := hb.2
  unfold ApR
  have HE := Lib.hid (bsum_apw 10 a b (by omega))
  have C := Lib.hid (Rbw_of 10 10 a b (by omega) ha hb)
  go_enter Tryd.func70, Tryd.ntmps70
  go_upto_region 1 with fail
  go_cut [8] from 8 to 24 (fun t wx => t = .bool (isT a && isT b) ∧ wx = w)
  case first =>
    have QA := Lib.hid (show isT a = (decide (a = 0) || decide (a = 1)) from rfl)
    have QB := Lib.hid (show isT b = (decide (b = 0) || decide (b = 1)) from rfl)
    have a0 : (a == 0) = decide (a = 0) := by by_cases h : a = 0 <;> simp [h]
    have a1 : (a == 1) = decide (a = 1) := by by_cases h : a = 1 <;> simp [h]
    have c0 : (b == 0) = decide (b = 0) := by by_cases h : b = 0 <;> simp [h]
    have c1 : (b == 1) = decide (b = 1) := by by_cases h : b = 1 <;> simp [h]
    generalize decide (a = 0) = x0 at *
    generalize decide (a = 1) = x1 at *
    generalize decide (b = 0) = y0 at *
    generalize decide (b = 1) = y1 at *
    clear ha hb ha1 ha2 hb1 hb2 HE C
    cases x0 <;> cases x1 <;> cases y0 <;> cases y1 <;>
      (go_wp2
       go_meet
       case rel => exact ⟨by rw [QA.out, QB.out]; rfl, rfl⟩)
  case rest =>
    obtain ⟨rfl, rfl⟩ := hcut
    generalize (isT a && isT b) = z at *
    clear ha hb
    go_wp2_with (go_at_call 90; (with_reducible refine (C.out _).mono ?_); rintro e w' ⟨rfl, b1⟩; have H1 := Lib.hid b1; clear b1)
    go_ret2
    exact ⟨by rw [HE.out]; rfl, H1.out⟩
set_option maxRecDepth 100000 in
set_option maxHeartbeats 4000000 in
theorem rap_11 (a b : Int) (ha : W1.isW a) (hb : W1.isW b) (w : World) : Calls Tryd.prog 70 #[.int .u8 11, .int .i32 a, .int .i32 b] w (ApR w (apO 11 a b)) := by
  have ha1 := ha.1
  have ha2 := ha.2
  have hb1 := hb.1
  have hb2 := hb.2
  unfold ApR
  have HE := Lib.hid (bsum_apw 11 a b (by omega))
  have C := Lib.hid (Rbw_of 11 11 a b (by omega) ha hb)
  go_enter Tryd.func70, Tryd.ntmps70
  go_upto_region 1 with fail
  go_cut [8] from 8 to 24 (fun t wx => t = .bool (isT a && isT b) ∧ wx = w)
  case first =>
    have QA := Lib.hid (show isT a = (decide (a = 0) || decide (a = 1)) from rfl)
    have QB := Lib.hid (show isT b = (decide (b = 0) || decide (b = 1)) from rfl)
    have a0 : (a == 0) = decide (a = 0) := by by_cases h : a = 0 <;> simp [h]
    have a1 : (a == 1) = decide (a = 1) := by by_cases h : a = 1 <;> simp [h]
    have c0 : (b == 0) = decide (b = 0) := by by_cases h : b = 0 <;> simp [h]
    have c1 : (b == 1) = decide (b = 1) := by by_cases h : b = 1 <;> simp [h]
    generalize decide (a = 0) = x0 at *
    generalize decide (a = 1) = x1 at *
    generalize decide (b = 0) = y0 at *
    generalize decide (b = 1) = y1 at *
    clear ha hb ha1 ha2 hb1 hb2 HE C
    cases x0 <;> cases x1 <;> cases y0 <;> cases y1 <;>
      (go_wp2
       go_meet
       case rel => exact ⟨by rw [QA.out, QB.out]; rfl, rfl⟩)
  case rest =>
    obtain ⟨rfl, rfl⟩ := hcut
    generalize (isT a && isT b) = z at *
    clear ha hb
    go_wp2_with (go_at_call 90; (with_reducible refine (C.out _).mono ?_); rintro e w' ⟨rfl, b1⟩; have H1 := Lib.hid b1; clear b1)
    go_ret2
    exact ⟨by rw [HE.out]; rfl, H1.out⟩
set_option maxRecDepth 100000 in
set_option maxHeartbeats 4000000 in
theorem rap_12 (a b : Int) (ha : W1.isW a) (hb : W1.isW b) (w : World) : Calls Tryd.prog 70 #[.int .u8 12, .int .i32 a, .int .i32 b] w (ApR w (apO 12 a b)) := by
  have ha1 := ha.1
  have ha2 := ha.2
  have hb1 := hb.1
  have hb2 := hb.2
  unfold ApR
  have C := Lib.hid (W1.RShl_any a b ha hb)
  go_enter Tryd.func70, Tryd.ntmps70
  go_upto_region 1 with fail
  go_cut [8] from 8 to 24 (fun t wx => t = .bool (isT a && isT b) ∧ wx = w)
  case first =>
    have QA := Lib.hid (show isT a = (decide (a = 0) || decide (a = 1)) from rfl)
    have QB := Lib.hid (show isT b = (decide (b = 0) || decide (b = 1)) from rfl)
    have a0 : (a == 0) = decide (a = 0) := by by_cases h : a = 0 <;> simp [h]
    have a1 : (a == 1) = decide (a = 1) := by by_cases h : a = 1 <;> simp [h]
    have c0 : (b == 0) = decide (b = 0) := by by_cases h : b = 0 <;> simp [h]
    have c1 : (b == 1) = decide (b = 1) := by by_cases h : b = 1 <;> simp [h]
    generalize decide (a = 0) = x0 at *
    generalize decide (a = 1) = x1 at *
    generalize decide (b = 0) = y0 at *
    generalize decide (b = 1) = y1 at *
    clear ha hb ha1 ha2 hb1 hb2 C
    cases x0 <;> cases x1 <;> cases y0 <;> cases y1 <;>
      (go_wp2
       go_meet
       case rel => exact ⟨by rw [QA.out, QB.out]; rfl, rfl⟩)
  case rest =>
    obtain ⟨rfl, rfl⟩ := hcut
    generalize (isT a && isT b) = z at *
    clear ha hb
    go_wp2_with (go_at_call 91; (with_reducible refine (C.out _).mono ?_); rintro e w' ⟨rfl, rfl⟩)
    go_ret2
    exact ⟨by unfold W1.shlR W1.plc; rw [w32_is]; rfl, b0 _⟩
set_option maxRecDepth 100000 in
set_option maxHeartbeats 4000000 in
theorem rap_13 (a b : Int) (ha : W1.isW a) (hb : W1.isW b) (w : World) : Calls Tryd.prog 70 #[.int .u8 13, .int .i32 a, .int .i32 b] w (ApR w (apO 13 a b)) := by
  have ha1 := ha.1
  have ha2 := ha.2
  have hb1 := hb.1
  have hb2 := hb.2
  unfold ApR
  have C := Lib.hid (W1.RShr_any a b ha hb)
  go_enter Tryd.func70, Tryd.ntmps70
  go_upto_region 1 with fail
  go_cut [8] from 8 to 24 (fun t wx => t = .bool (isT a && isT b) ∧ wx = w)
  case first =>
    have QA := Lib.hid (show isT a = (decide (a = 0) || decide (a = 1)) from rfl)
    have QB := Lib.hid (show isT b = (decide (b = 0) || decide (b = 1)) from rfl)
    have a0 : (a == 0) = decide (a = 0) := by by_cases h : a = 0 <;> simp [h]
    have a1 : (a == 1) = decide (a = 1) := by by_cases h : a = 1 <;> simp [h]
    have c0 : (b == 0) = decide (b = 0) := by by_cases h : b = 0 <;> simp [h]
    have c1 : (b == 1) = decide (b = 1) := by by_cases h : b = 1 <;> simp [h]
    generalize decide (a = 0) = x0 at *
    generalize decide (a = 1) = x1 at *
    generalize decide (b = 0) = y0 at *
    generalize decide (b = 1) = y1 at *
    clear ha hb ha1 ha2 hb1 hb2 C
    cases x0 <;> cases x1 <;> cases y0 <;> cases y1 <;>
      (go_wp2
       go_meet
       case rel => exact ⟨by rw [QA.out, QB.out]; rfl, rfl⟩)
  case rest =>
    obtain ⟨rfl, rfl⟩ := hcut
    generalize (isT a && isT b) = z at *
    clear ha hb
    go_wp2_with (go_at_call 92; (with_reducible refine (C.out _).mono ?_); rintro e w' ⟨rfl, rfl⟩)
    go_ret2
    exact ⟨by unfold W1.shrR W1.plc; rw [w32_is]; rfl, b0 _⟩
set_option maxRecDepth 100000 in
set_option maxHeartbeats 4000000 in
theorem rap_14 (a b : Int) (ha : W1.isW a) (hb : W1.isW b) (w : World) : Calls Tryd.prog 70 #[.int .u8 14, .int .i32 a, .int .i32 b] w (ApR w (apO 14 a b)) := by
  have ha1 := ha.1
  have ha2 := ha.2
  have hb1 := hb.1
  have hb2 := hb.2
  unfold ApR
  have C := Lib.hid (Rtruth_any (decide (a = b)))
  have q := ap_beq a b
  have HD := Lib.hid (show apO 14 a b = some (b01 (decide (a = b))) from rfl)
  generalize decide (a = b) = p at *
  go_enter Tryd.func70, Tryd.ntmps70
  go_upto_region 1 with fail
  go_cut [8] from 8 to 24 (fun t wx => t = .bool (isT a && isT b) ∧ wx = w)
  case first =>
    have QA := Lib.hid (show isT a = (decide (a = 0) || decide (a = 1)) from rfl)
    have QB := Lib.hid (show isT b = (decide (b = 0) || decide (b = 1)) from rfl)
    have a0 : (a == 0) = decide (a = 0) := by by_cases h : a = 0 <;> simp [h]
    have a1 : (a == 1) = decide (a = 1) := by by_cases h : a = 1 <;> simp [h]
    have c0 : (b == 0) = decide (b = 0) := by by_cases h : b = 0 <;> simp [h]
    have c1 : (b == 1) = decide (b = 1) := by by_cases h : b = 1 <;> simp [h]
    generalize decide (a = 0) = x0 at *
    generalize decide (a = 1) = x1 at *
    generalize decide (b = 0) = y0 at *
    generalize decide (b = 1) = y1 at *
    clear ha hb ha1 ha2 hb1 hb2 C q HD
    cases x0 <;> cases x1 <;> cases y0 <;> cases y1 <;>
      (go_wp2
       go_meet
       case rel => exact ⟨by rw [QA.out, QB.out]; rfl, rfl⟩)
  case rest =>
    obtain ⟨rfl, rfl⟩ := hcut
    generalize (isT a && isT b) = z at *
    clear ha hb
    go_wp2_with (go_at_call 93; (with_reducible refine (C.out _).mono ?_); rintro e w' ⟨rfl, rfl⟩)
    go_ret2
    exact ⟨by rw [HD.out]; rfl, b0 _⟩
set_option maxRecDepth 100000 in
set_option maxHeartbeats 4000000 in
theorem rap_15 (a b : Int) (ha : W1.isW a) (hb : W1.isW b) (w : World) : Calls Tryd.prog 70 #[.int .u8 15, .int .i32 a, .int .i32 b] w (ApR w (apO 15 a b)) := by
  have ha1 := ha.1
  have ha2 := ha.2
  have hb1 := hb.1
  have hb2 := hb.2
  unfold ApR
  have C := Lib.hid (Rtruth_any (decide (a ≠ b)))
  have q := ap_bne a b
  have HD := Lib.hid (show apO 15 a b = some (b01 (decide (a ≠ b))) from rfl)
  generalize decide (a ≠ b) = p at *
  go_enter Tryd.func70, Tryd.ntmps70
  go_upto_region 1 with fail
  go_cut [8] from 8 to 24 (fun t wx => t = .bool (isT a && isT b) ∧ wx = w)
  case first =>
    have QA := Lib.hid (show isT a = (decide (a = 0) || decide (a = 1)) from rfl)
    have QB := Lib.hid (show isT b = (decide (b = 0) || decide (b = 1)) from rfl)
    have a0 : (a == 0) = decide (a = 0) := by by_cases h : a = 0 <;> simp [h]
    have a1 : (a == 1) = decide (a = 1) := by by_cases h : a = 1 <;> simp [h]
    have c0 : (b == 0) = decide (b = 0) := by by_cases h : b = 0 <;> simp [h]
    have c1 : (b == 1) = decide (b = 1) := by by_cases h : b = 1 <;> simp [h]
    generalize decide (a = 0) = x0 at *
    generalize decide (a = 1) = x1 at *
    generalize decide (b = 0) = y0 at *
    generalize decide (b = 1) = y1 at *
    clear ha hb ha1 ha2 hb1 hb2 C q HD
    cases x0 <;> cases x1 <;> cases y0 <;> cases y1 <;>
      (go_wp2
       go_meet
       case rel => exact ⟨by rw [QA.out, QB.out]; rfl, rfl⟩)
  case rest =>
    obtain ⟨rfl, rfl⟩ := hcut
    generalize (isT a && isT b) = z at *
    clear ha hb
    go_wp2_with (go_at_call 93; (with_reducible refine (C.out _).mono ?_); rintro e w' ⟨rfl, rfl⟩)
    go_ret2
    exact ⟨by rw [HD.out]; rfl, b0 _⟩
set_option maxRecDepth 100000 in
set_option maxHeartbeats 4000000 in
theorem rap_16 (a b : Int) (ha : W1.isW a) (hb : W1.isW b) (w : World) : Calls Tryd.prog 70 #[.int .u8 16, .int .i32 a, .int .i32 b] w (ApR w (apO 16 a b)) := by
  have ha1 := ha.1
  have ha2 := ha.2
  have hb1 := hb.1
  have hb2 := hb.2
  unfold ApR
  have C := Lib.hid (Rtruth_any (decide (a < b)))
  have HD := Lib.hid (show apO 16 a b = some (b01 (decide (a < b))) from rfl)
  go_enter Tryd.func70, Tryd.ntmps70
  go_upto_region 1 with fail
  go_cut [8] from 8 to 24 (fun t wx => t = .bool (isT a && isT b) ∧ wx = w)
  case first =>
    have QA := Lib.hid (show isT a = (decide (a = 0) || decide (a = 1)) from rfl)
    have QB := Lib.hid (show isT b = (decide (b = 0) || decide (b = 1)) from rfl)
    have a0 : (a == 0) = decide (a = 0) := by by_cases h : a = 0 <;> simp [h]
    have a1 : (a == 1) = decide (a = 1) := by by_cases h : a = 1 <;> simp [h]
    have c0 : (b == 0) = decide (b = 0) := by by_cases h : b = 0 <;> simp [h]
    have c1 : (b == 1) = decide (b = 1) := by by_cases h : b = 1 <;> simp [h]
    generalize decide (a = 0) = x0 at *
    generalize decide (a = 1) = x1 at *
    generalize decide (b = 0) = y0 at *
    generalize decide (b = 1) = y1 at *
    clear ha hb ha1 ha2 hb1 hb2 C HD
    cases x0 <;> cases x1 <;> cases y0 <;> cases y1 <;>
      (go_wp2
       go_meet
       case rel => exact ⟨by rw [QA.out, QB.out]; rfl, rfl⟩)
  case rest =>
    obtain ⟨rfl, rfl⟩ := hcut
    generalize (isT a && isT b) = z at *
    clear ha hb
    go_wp2_with (go_at_call 93; (with_reducible refine (C.out _).mono ?_); rintro e w' ⟨rfl, rfl⟩)
    go_ret2
    exact ⟨by rw [HD.out]; rfl, b0 _⟩
set_option maxRecDepth 100000 in
set_option maxHeartbeats 4000000 in
theorem rap_17 (a b : Int) (ha : W1.isW a) (hb : W1.isW b) (w : World) : Calls Tryd.prog 70 #[.int .u8 17, .int .i32 a, .int .i32 b] w (ApR w (apO 17 a b)) := by
  have ha1 := ha.1
  have ha2 := ha.2
  have hb1 := hb.1
  have hb2 := hb.2
  unfold ApR
  have C := Lib.hid (Rtruth_any (decide (b < a)))
  have HD := Lib.hid (show apO 17 a b = some (b01 (decide (b < a))) from rfl)
  go_enter Tryd.func70, Tryd.ntmps70
  go_upto_region 1 with fail
  go_cut [8] from 8 to 24 (fun t wx => t = .bool (isT a && isT b) ∧ wx = w)
  case first =>
    have QA := Lib.hid (show isT a = (decide (a = 0) || decide (a = 1)) from rfl)
    have QB := Lib.hid (show isT b = (decide (b = 0) || decide (b = 1)) from rfl)
    have a0 : (a == 0) = decide (a = 0) := by by_cases h : a = 0 <;> simp [h]
    have a1 : (a == 1) = decide (a = 1) := by by_cases h : a = 1 <;> simp [h]
    have c0 : (b == 0) = decide (b = 0) := by by_cases h : b = 0 <;> simp [h]
    have c1 : (b == 1) = decide (b = 1) := by by_cases h : b = 1 <;> simp [h]
    generalize decide (a = 0) = x0 at *
    generalize decide (a = 1) = x1 at *
    generalize decide (b = 0) = y0 at *
    generalize decide (b = 1) = y1 at *
    clear ha hb ha1 ha2 hb1 hb2 C HD
    cases x0 <;> cases x1 <;> cases y0 <;> cases y1 <;>
      (go_wp2
       go_meet
       case rel => exact ⟨by rw [QA.out, QB.out]; rfl, rfl⟩)
  case rest =>
    obtain ⟨rfl, rfl⟩ := hcut
    generalize (isT a && isT b) = z at *
    clear ha hb
    go_wp2_with (go_at_call 93; (with_reducible refine (C.out _).mono ?_); rintro e w' ⟨rfl, rfl⟩)
    go_ret2
    exact ⟨by rw [HD.out]; rfl, b0 _⟩
set_option maxRecDepth 100000 in
set_option maxHeartbeats 4000000 in
theorem rap_18 (a b : Int) (ha : W1.isW a) (hb : W1.isW b) (w : World) : Calls Tryd.prog 70 #[.int .u8 18, .int .i32 a, .int .i32 b] w (ApR w (apO 18 a b)) := by
  have ha1 := ha.1
  have ha2 := ha.2
  have hb1 := hb.1
  have hb2 := hb.2
  unfold ApR
  have C := Lib.hid (Rtruth_any (decide (a ≤ b)))
  have HD := Lib.hid (show apO 18 a b = some (b01 (decide (a ≤ b))) from rfl)
  go_enter Tryd.func70, Tryd.ntmps70
  go_upto_region 1 with fail
  go_cut [8] from 8 to 24 (fun t wx => t = .bool (isT a && isT b) ∧ wx = w)
  case first =>
    have QA := Lib.hid (show isT a = (decide (a = 0) || decide (a = 1)) from rfl)
    have QB := Lib.hid (show isT b = (decide (b = 0) || decide (b = 1)) from rfl)
    have a0 : (a == 0) = decide (a = 0) := by by_cases h : a = 0 <;> simp [h]
    have a1 : (a == 1) = decide (a = 1) := by by_cases h : a = 1 <;> simp [h]
    have c0 : (b == 0) = decide (b = 0) := by by_cases h : b = 0 <;> simp [h]
    have c1 : (b == 1) = decide (b = 1) := by by_cases h : b = 1 <;> simp [h]
    generalize decide (a = 0) = x0 at *
    generalize decide (a = 1) = x1 at *
    generalize decide (b = 0) = y0 at *
    generalize decide (b = 1) = y1 at *
    clear ha hb ha1 ha2 hb1 hb2 C HD
    cases x0 <;> cases x1 <;> cases y0 <;> cases y1 <;>
      (go_wp2
       go_meet
       case rel => exact ⟨by rw [QA.out, QB.out]; rfl, rfl⟩)
  case rest =>
    obtain ⟨rfl, rfl⟩ := hcut
    generalize (isT a && isT b) = z at *
    clear ha hb
    go_wp2_with (go_at_call 93; (with_reducible refine (C.out _).mono ?_); rintro e w' ⟨rfl, rfl⟩)
    go_ret2
    exact ⟨by rw [HD.out]; rfl, b0 _⟩
set_option maxRecDepth 100000 in
set_option maxHeartbeats 4000000 in
theorem rap_19 (a b : Int) (ha : W1.isW a) (hb : W1.isW b) (w : World) : Calls Tryd.prog 70 #[.int .u8 19, .int .i32 a, .int .i32 b] w (ApR w (apO 19 a b)) := by
  have ha1 := ha.1
  have ha2 := ha.2
  have hb1 := hb.1
  have hb2 := hb.2
  unfold ApR
  have C := Lib.hid (Rtruth_any (decide (b ≤ a)))
  have HD := Lib.hid (show apO 19 a b = some (b01 (decide (b ≤ a))) from rfl)
  go_enter Tryd.func70, Tryd.ntmps70
  go_upto_region 1 with fail
  go_cut [8] from 8 to 24 (fun t wx => t = .bool (isT a && isT b) ∧ wx = w)
  case first =>
    have QA := Lib.hid (show isT a = (decide (a = 0) || decide (a = 1)) from rfl)
    have QB := Lib.hid (show isT b = (decide (b = 0) || decide (b = 1)) from rfl)
    have a0 : (a == 0) = decide (a = 0) := by by_cases h : a = 0 <;> simp [h]
    have a1 : (a == 1) = decide (a = 1) := by by_cases h : a = 1 <;> simp [h]
    have c0 : (b == 0) = decide (b = 0) := by by_cases h : b = 0 <;> simp [h]
    have c1 : (b == 1) = decide (b = 1) := by by_cases h : b = 1 <;> simp [h]
    generalize decide (a = 0) = x0 at *
    generalize decide (a = 1) = x1 at *
    generalize decide (b = 0) = y0 at *
    generalize decide (b = 1) = y1 at *
    clear ha hb ha1 ha2 hb1 hb2 C HD
    cases x0 <;> cases x1 <;> cases y0 <;> cases y1 <;>
      (go_wp2
       go_meet
       case rel => exact ⟨by rw [QA.out, QB.out]; rfl, rfl⟩)
  case rest =>
    obtain ⟨rfl, rfl⟩ := hcut
    generalize (isT a && isT b) = z at *
    clear ha hb
    go_wp2_with (go_at_call 93; (with_reducible refine (C.out _).mono ?_); rintro e w' ⟨rfl, rfl⟩)
    go_ret2
    exact ⟨by rw [HD.out]; rfl, b0 _⟩
set_option maxRecDepth 100000 in
set_option maxHeartbeats 4000000 in
theorem rap_20 (a b : Int) (ha : W1.isW a) (hb : W1.isW b) (w : World) : Calls Tryd.prog 70 #[.int .u8 20, .int .i32 a, .int .i32 b] w (ApR w (apO 20 a b)) := by
  have ha1 := ha.1
  have ha2 := ha.2
  have hb1 := hb.1
  have hb2 := hb.2
  unfold ApR
  have C := Lib.hid Rtruth_any
  go_enter Tryd.func70, Tryd.ntmps70
  go_upto_region 1 with fail
  go_cut [8] from 8 to 24 (fun t wx => t = .bool (isT a && isT b) ∧ wx = w)
  case first =>
    have QA := Lib.hid (show isT a = (decide (a = 0) || decide (a = 1)) from rfl)
    have QB := Lib.hid (show isT b = (decide (b = 0) || decide (b = 1)) from rfl)
    have a0 : (a == 0) = decide (a = 0) := by by_cases h : a = 0 <;> simp [h]
    have a1 : (a == 1) = decide (a = 1) := by by_cases h : a = 1 <;> simp [h]
    have c0 : (b == 0) = decide (b = 0) := by by_cases h : b = 0 <;> simp [h]
    have c1 : (b == 1) = decide (b = 1) := by by_cases h : b = 1 <;> simp [h]
    generalize decide (a = 0) = x0 at *
    generalize decide (a = 1) = x1 at *
    generalize decide (b = 0) = y0 at *
    generalize decide (b = 1) = y1 at *
    clear ha hb ha1 ha2 hb1 hb2 C
    cases x0 <;> cases x1 <;> cases y0 <;> cases y1 <;>
      (go_wp2
       go_meet
       case rel => exact ⟨by rw [QA.out, QB.out]; rfl, rfl⟩)
  case rest =>
    obtain ⟨rfl, rfl⟩ := hcut
    cases hz : (isT a && isT b) with
    | false =>
      have HD : Hid (apO 20 a b = none) := Lib.hid (by
        show (if isT a = true ∧ isT b = true then some (b01 (decide (a = 1 ∧ b = 1))) else none) = none
        rw [if_neg]
        rintro ⟨h1, h2⟩
        rw [h1, h2] at hz
        cases hz)
      clear hz
      go_wp2
      go_ret2
      exact ⟨by rw [HD.out]; rfl, b0 _⟩
    | true =>
      obtain ⟨h1, h2⟩ : isT a = true ∧ isT b = true := by simpa using hz
      clear hz ha1 ha2 hb1 hb2 ha hb
      rcases (by simpa [isT] using h1 : a = 0 ∨ a = 1) with rfl | rfl <;> rcases (by simpa [isT] using h2 : b = 0 ∨ b = 1) with rfl | rfl <;> clear h1 h2 <;>
        (go_wp2_with (go_at_call 93; (with_reducible refine (C.out _ _).mono ?_); rintro e w' ⟨rfl, rfl⟩)
         go_ret2
         exact ⟨rfl, b0 _⟩)
set_option maxRecDepth 100000 in
set_option maxHeartbeats 4000000 in
theorem rap_21 (a b : Int) (ha : W1.isW a) (hb : W1.isW b) (w : World) : Calls Tryd.prog 70 #[.int .u8 21, .int .i32 a, .int .i32 b] w (ApR w (apO 21 a b)) := by
  have ha1 := ha.1
  have ha2 := ha.2
  have hb1 := hb.1
  have hb2 := hb.2
  unfold ApR
  have C := Lib.hid Rtruth_any
  go_enter Tryd.func70, Tryd.ntmps70
  go_upto_region 1 with fail
  go_cut [8] from 8 to 24 (fun t wx => t = .bool (isT a && isT b) ∧ wx = w)
  case first =>
    have QA := Lib.hid (show isT a = (decide (a = 0) || decide (a = 1)) from rfl)
    have QB := Lib.hid (show isT b = (decide (b = 0) || decide (b = 1)) from rfl)
    have a0 : (a == 0) = decide (a = 0) := by by_cases h : a = 0 <;> simp [h]
    have a1 : (a == 1) = decide (a = 1) := by by_cases h : a = 1 <;> simp [h]
    have c0 : (b == 0) = decide (b = 0) := by by_cases h : b = 0 <;> simp [h]
    have c1 : (b == 1) = decide (b = 1) := by by_cases h : b = 1 <;> simp [h]
    generalize decide (a = 0) = x0 at *
    generalize decide (a = 1) = x1 at *
    generalize decide (b = 0) = y0 at *
    generalize decide (b = 1) = y1 at *
    clear ha hb ha1 ha2 hb1 hb2 C
    cases x0 <;> cases x1 <;> cases y0 <;> cases y1 <;>
      (go_wp2
       go_meet
       case rel => exact ⟨by rw [QA.out, QB.out]; rfl, rfl⟩)
  case rest =>
    obtain ⟨rfl, rfl⟩ := hcut
    cases hz : (isT a && isT b) with
    | false =>
      have HD : Hid (apO 21 a b = none) := Lib.hid (by
        show (if isT a = true ∧ isT b = true then some (b01 (decide (a = 1 ∨ b = 1))) else none) = none
        rw [if_neg]
        rintro ⟨h1, h2⟩
        rw [h1, h2] at hz
        cases hz)
      clear hz
      go_wp2
      go_ret2
      exact ⟨by rw [HD.out]; rfl, b0 _⟩
    | true =>
      obtain ⟨h1, h2⟩ : isT a = true ∧ isT b = true := by simpa using hz
      clear hz ha1 ha2 hb1 hb2 ha hb
      rcases (by simpa [isT] using h1 : a = 0 ∨ a = 1) with rfl | rfl <;> rcases (by simpa [isT] using h2 : b = 0 ∨ b = 1) with rfl | rfl <;> clear h1 h2 <;>
        (go_wp2_with (go_at_call 93; (with_reducible refine (C.out _ _).mono ?_); rintro e w' ⟨rfl, rfl⟩)
         go_ret2
         exact ⟨rfl, b0 _⟩)
set_option maxRecDepth 100000 in
set_option maxHeartbeats 4000000 in
theorem rap_22 (a b : Int) (ha : W1.isW a) (hb : W1.isW b) (w : World) : Calls Tryd.prog 70 #[.int .u8 22, .int .i32 a, .int .i32 b] w (ApR w (apO 22 a b)) := by
  have ha1 := ha.1
  have ha2 := ha.2
  have hb1 := hb.1
  have hb2 := hb.2
  unfold ApR
  have C := Lib.hid (W1.RAfter_any a b ha hb)
  have HD := Lib.hid (show apO 22 a b = some (b01 (W1.aftB a b)) by unfold W1.aftB; rw [w32_is]; rfl)
  generalize W1.aftB a b = p at *
  have D := Lib.hid (Rtruth_any p)
  go_enter Tryd.func70, Tryd.ntmps70
  go_upto_region 1 with fail
  go_cut [8] from 8 to 24 (fun t wx => t = .bool (isT a && isT b) ∧ wx = w)
  case first =>
    have QA := Lib.hid (show isT a = (decide (a = 0) || decide (a = 1)) from rfl)
    have QB := Lib.hid (show isT b = (decide (b = 0) || decide (b = 1)) from rfl)
    have a0 : (a == 0) = decide (a = 0) := by by_cases h : a = 0 <;> simp [h]
    have a1 : (a == 1) = decide (a = 1) := by by_cases h : a = 1 <;> simp [h]
    have c0 : (b == 0) = decide (b = 0) := by by_cases h : b = 0 <;> simp [h]
    have c1 : (b == 1) = decide (b = 1) := by by_cases h : b = 1 <;> simp [h]
    generalize decide (a = 0) = x0 at *
    generalize decide (a = 1) = x1 at *
    generalize decide (b = 0) = y0 at *
    generalize decide (b = 1) = y1 at *
    clear ha hb ha1 ha2 hb1 hb2 C HD D
    cases x0 <;> cases x1 <;> cases y0 <;> cases y1 <;>
      (go_wp2
       go_meet
       case rel => exact ⟨by rw [QA.out, QB.out]; rfl, rfl⟩)
  case rest =>
    obtain ⟨rfl, rfl⟩ := hcut
    generalize (isT a && isT b) = z at *
    clear ha hb
    go_wp2_with (first | (go_at_call 94; (with_reducible refine (C.out _).mono ?_); rintro e w' ⟨rfl, rfl⟩) | (go_at_call 93; (with_reducible refine (D.out _).mono ?_); rintro e w' ⟨rfl, rfl⟩))
    go_ret2
    exact ⟨by rw [HD.out]; rfl, b0 _⟩
set_option maxRecDepth 100000 in
set_option maxHeartbeats 4000000 in
theorem rap_23 (a b : Int) (ha : W1.isW a) (hb : W1.isW b) (w : World) : Calls Tryd.prog 70 #[.int .u8 23, .int .i32 a, .int .i32 b] w (ApR w (apO 23 a b)) := by
  have ha1 := ha.1
  have ha2 := ha.2
  have hb1 := hb.1
  have hb2 := hb.2
  unfold ApR
  have e1 : wrap64 a = a := by unfold wrap64; omega
  have e3 : wrap64 (-a) = -a := by unfold wrap64; omega
  have C := Lib.hid (Rfit_any (-a))
  unfold apR at C
  go_enter Tryd.func70, Tryd.ntmps70
  go_upto_region 1 with fail
  go_cut [8] from 8 to 24 (fun t wx => t = .bool (isT a && isT b) ∧ wx = w)
  case first =>
    have QA := Lib.hid (show isT a = (decide (a = 0) || decide (a = 1)) from rfl)
    have QB := Lib.hid (show isT b = (decide (b = 0) || decide (b = 1)) from rfl)
    have a0 : (a == 0) = decide (a = 0) := by by_cases h : a = 0 <;> simp [h]
    have a1 : (a == 1) = decide (a = 1) := by by_cases h : a = 1 <;> simp [h]
    have c0 : (b == 0) = decide (b = 0) := by by_cases h : b = 0 <;> simp [h]
    have c1 : (b == 1) = decide (b = 1) := by by_cases h : b = 1 <;> simp [h]
    generalize decide (a = 0) = x0 at *
    generalize decide (a = 1) = x1 at *
    generalize decide (b = 0) = y0 at *
    generalize decide (b = 1) = y1 at *
    clear ha hb ha1 ha2 hb1 hb2 e1 e3 C
    cases x0 <;> cases x1 <;> cases y0 <;> cases y1 <;>
      (go_wp2
       go_meet
       case rel => exact ⟨by rw [QA.out, QB.out]; rfl, rfl⟩)
  case rest =>
    obtain ⟨rfl, rfl⟩ := hcut
    generalize (isT a && isT b) = z at *
    clear ha hb
    go_wp2_with (go_at_call 85; (with_reducible refine (C.out _).mono ?_); rintro e w' ⟨rfl, rfl⟩)
    go_ret2
    exact ⟨by rw [show apO 23 a b = fitO (0 - a) from rfl, Int.zero_sub]; rfl, b0 _⟩
set_option maxRecDepth 100000 in
set_option maxHeartbeats 4000000 in
theorem rap_24 (a b : Int) (ha : W1.isW a) (hb : W1.isW b) (w : World) : Calls Tryd.prog 70 #[.int .u8 24, .int .i32 a, .int .i32 b] w (ApR w (apO 24 a b)) := by
  have ha1 := ha.1
  have ha2 := ha.2
  have hb1 := hb.1
  have hb2 := hb.2
  unfold ApR
  have e1 : wrap64 a = a := by unfold wrap64; omega
  have e3 : wrap64 (-a) = -a := by unfold wrap64; omega
  have C := Lib.hid (W1.Wrap_any (-a) (by unfold W1.isD; omega))
  go_enter Tryd.func70, Tryd.ntmps70
  go_upto_region 1 with fail
  go_cut [8] from 8 to 24 (fun t wx => t = .bool (isT a && isT b) ∧ wx = w)
  case first =>
    have QA := Lib.hid (show isT a = (decide (a = 0) || decide (a = 1)) from rfl)
    have QB := Lib.hid (show isT b = (decide (b = 0) || decide (b = 1)) from rfl)
    have a0 : (a == 0) = decide (a = 0) := by by_cases h : a = 0 <;> simp [h]
    have a1 : (a == 1) = decide (a = 1) := by by_cases h : a = 1 <;> simp [h]
    have c0 : (b == 0) = decide (b = 0) := by by_cases h : b = 0 <;> simp [h]
    have c1 : (b == 1) = decide (b = 1) := by by_cases h : b = 1 <;> simp [h]
    generalize decide (a = 0) = x0 at *
    generalize decide (a = 1) = x1 at *
    generalize decide (b = 0) = y0 at *
    generalize decide (b = 1) = y1 at *
    clear ha hb ha1 ha2 hb1 hb2 e1 e3 C
    cases x0 <;> cases x1 <;> cases y0 <;> cases y1 <;>
      (go_wp2
       go_meet
       case rel => exact ⟨by rw [QA.out, QB.out]; rfl, rfl⟩)
  case rest =>
    obtain ⟨rfl, rfl⟩ := hcut
    generalize (isT a && isT b) = z at *
    clear ha hb
    go_wp2_with (go_at_call 88; (with_reducible refine (C.out _).mono ?_); rintro e w' ⟨rfl, rfl⟩)
    go_ret2
    exact ⟨by rw [w32_is, show apO 24 a b = some (w32 (0 - a)) from rfl, Int.zero_sub]; rfl, b0 _⟩
set_option maxRecDepth 100000 in
set_option maxHeartbeats 4000000 in
theorem rap_25 (a b : Int) (ha : W1.isW a) (hb : W1.isW b) (w : World) : Calls Tryd.prog 70 #[.int .u8 25, .int .i32 a, .int .i32 b] w (ApR w (apO 25 a b)) := by
  have ha1 := ha.1
  have ha2 := ha.2
  have hb1 := hb.1
  have hb2 := hb.2
  unfold ApR
  have HE := Lib.hid (bsum_apw 25 a b (by omega))
  have C := Lib.hid (Rbw_of 25 25 a b (by omega) ha hb)
  go_enter Tryd.func70, Tryd.ntmps70
  go_upto_region 1 with fail
  go_cut [8] from 8 to 24 (fun t wx => t = .bool (isT a && isT b) ∧ wx = w)
  case first =>
    have QA := Lib.hid (show isT a = (decide (a = 0) || decide (a = 1)) from rfl)
    have QB := Lib.hid (show isT b = (decide (b = 0) || decide (b = 1)) from rfl)
    have a0 : (a == 0) = decide (a = 0) := by by_cases h : a = 0 <;> simp [h]
    have a1 : (a == 1) = decide (a = 1) := by by_cases h : a = 1 <;> simp [h]
    have c0 : (b == 0) = decide (b = 0) := by by_cases h : b = 0 <;> simp [h]
    have c1 : (b == 1) = decide (b = 1) := by by_cases h : b = 1 <;> simp [h]
    generalize decide (a = 0) = x0 at *
    generalize decide (a = 1) = x1 at *
    generalize decide (b = 0) = y0 at *
    generalize decide (b = 1) = y1 at *
    clear ha hb ha1 ha2 hb1 hb2 HE C
    cases x0 <;> cases x1 <;> cases y0 <;> cases y1 <;>
      (go_wp2
       go_meet
       case rel => exact ⟨by rw [QA.out, QB.out]; rfl, rfl⟩)
  case rest =>
    obtain ⟨rfl, rfl⟩ := hcut
    generalize (isT a && isT b) = z at *
    clear ha hb
    go_wp2_with (go_at_call 90; (with_reducible refine (C.out _).mono ?_); rintro e w' ⟨rfl, b1⟩; have H1 := Lib.hid b1; clear b1)
    go_ret2
    exact ⟨by rw [HE.out]; rfl, H1.out⟩
set_option maxRecDepth 100000 in
set_option maxHeartbeats 4000000 in
theorem rap_26 (a b : Int) (ha : W1.isW a) (hb : W1.isW b) (w : World) : Calls Tryd.prog 70 #[.int .u8 26, .int .i32 a, .int .i32 b] w (ApR w (apO 26 a b)) := by
  have ha1 := ha.1
  have ha2 := ha.2
  have hb1 := hb.1
  have hb2 := hb.2
  unfold ApR
  have C := Lib.hid Rtruth_any
  go_enter Tryd.func70, Tryd.ntmps70
  go_upto_region 1 with fail
  go_cut [8] from 8 to 24 (fun t wx => t = .bool (isT a && isT b) ∧ wx = w)
  case first =>
    have QA := Lib.hid (show isT a = (decide (a = 0) || decide (a = 1)) from rfl)
    have QB := Lib.hid (show isT b = (decide (b = 0) || decide (b = 1)) from rfl)
    have a0 : (a == 0) = decide (a = 0) := by by_cases h : a = 0 <;> simp [h]
    have a1 : (a == 1) = decide (a = 1) := by by_cases h : a = 1 <;> simp [h]
    have c0 : (b == 0) = decide (b = 0) := by by_cases h : b = 0 <;> simp [h]
    have c1 : (b == 1) = decide (b = 1) := by by_cases h : b = 1 <;> simp [h]
    generalize decide (a = 0) = x0 at *
    generalize decide (a = 1) = x1 at *
    generalize decide (b = 0) = y0 at *
    generalize decide (b = 1) = y1 at *
    clear ha hb ha1 ha2 hb1 hb2 C
    cases x0 <;> cases x1 <;> cases y0 <;> cases y1 <;>
      (go_wp2
       go_meet
       case rel => exact ⟨by rw [QA.out, QB.out]; rfl, rfl⟩)
  case rest =>
    obtain ⟨rfl, rfl⟩ := hcut
    generalize (isT a && isT b) = z at *
    by_cases h0 : a = 0
    · subst h0
      go_wp2_with (go_at_call 93; (with_reducible refine (C.out _ _).mono ?_); rintro e w' ⟨rfl, rfl⟩)
      go_ret2
      exact ⟨rfl, b0 _⟩
    by_cases h1 : a = 1
    · subst h1
      go_wp2_with (go_at_call 93; (with_reducible refine (C.out _ _).mono ?_); rintro e w' ⟨rfl, rfl⟩)
      go_ret2
      exact ⟨rfl, b0 _⟩
    have HD : Hid (apO 26 a b = none) := Lib.hid (by
      show (if isT a = true then some (1 - a) else none) = none
      rw [if_neg]
      intro h
      rcases (by simpa [isT] using h : a = 0 ∨ a = 1) with h | h
      · exact h0 h
      · exact h1 h)
    have n0 : (a != 0) = true := by simp [h0]
    have n1 : (a != 1) = true := by simp [h1]
    have n2 : (a == 0) = false := by simp [h0]
    clear h0 h1
    go_wp2
    go_ret2
    exact ⟨by rw [HD.out]; rfl, b0 _⟩
set_option maxRecDepth 100000 in
set_option maxHeartbeats 4000000 in
theorem rap_no (o : Nat) (a b : Int) (h : o = 0 ∨ 27 ≤ o) (w : World) : Calls Tryd.prog 70 #[.int .u8 (o : Int), .int .i32 a, .int .i32 b] w (ApR w none) := by
  have ha : True := trivial
  have hb : True := trivial
  have ha1 : True := trivial
  have ha2 : True := trivial
  have hb1 : True := trivial
  have hb2 : True := trivial
  unfold ApR
  have hf : ∀ k : Nat, 1 ≤ k → k ≤ 26 → ((o : Int) == (k : Int)) = false := fun k h1 h2 => by rw [beq_eq_false_iff_ne]; omega
  have f1 : ((o : Int) == 1) = false := hf 1 (by omega) (by omega)
  have f2 : ((o : Int) == 2) = false := hf 2 (by omega) (by omega)
  have f3 : ((o : Int) == 3) = false := hf 3 (by omega) (by omega)
  have f4 : ((o : Int) == 4) = false := hf 4 (by omega) (by omega)
  have f5 : ((o : Int) == 5) = false := hf 5 (by omega) (by omega)
  have f6 : ((o : Int) == 6) = false := hf 6 (by omega) (by omega)
  have f7 : ((o : Int) == 7) = false := hf 7 (by omega) (by omega)
  have f8 : ((o : Int) == 8) = false := hf 8 (by omega) (by omega)
  have f9 : ((o : Int) == 9) = false := hf 9 (by omega) (by omega)
  have f10 : ((o : Int) == 10) = false := hf 10 (by omega) (by omega)
  have f11 : ((o : Int) == 11) = false := hf 11 (by omega) (by omega)
  have f12 : ((o : Int) == 12) = false := hf 12 (by omega) (by omega)
  have f13 : ((o : Int) == 13) = false := hf 13 (by omega) (by omega)
  have f14 : ((o : Int) == 14) = false := hf 14 (by omega) (by omega)
  have f15 : ((o : Int) == 15) = false := hf 15 (by omega) (by omega)
  have f16 : ((o : Int) == 16) = false := hf 16 (by omega) (by omega)
  have f17 : ((o : Int) == 17) = false := hf 17 (by omega) (by omega)
  have f18 : ((o : Int) == 18) = false := hf 18 (by omega) (by omega)
  have f19 : ((o : Int) == 19) = false := hf 19 (by omega) (by omega)
  have f20 : ((o : Int) == 20) = false := hf 20 (by omega) (by omega)
  have f21 : ((o : Int) == 21) = false := hf 21 (by omega) (by omega)
  have f22 : ((o : Int) == 22) = false := hf 22 (by omega) (by omega)
  have f23 : ((o : Int) == 23) = false := hf 23 (by omega) (by omega)
  have f24 : ((o : Int) == 24) = false := hf 24 (by omega) (by omega)
  have f25 : ((o : Int) == 25) = false := hf 25 (by omega) (by omega)
  have f26 : ((o : Int) == 26) = false := hf 26 (by omega) (by omega)
  clear hf h
  go_enter Tryd.func70, Tryd.ntmps70
  go_upto_region 1 with fail
  go_cut [8] from 8 to 24 (fun t wx => t = .bool (isT a && isT b) ∧ wx = w)
  case first =>
    have QA := Lib.hid (show isT a = (decide (a = 0) || decide (a = 1)) from rfl)
    have QB := Lib.hid (show isT b = (decide (b = 0) || decide (b = 1)) from rfl)
    have a0 : (a == 0) = decide (a = 0) := by by_cases h : a = 0 <;> simp [h]
    have a1 : (a == 1) = decide (a = 1) := by by_cases h : a = 1 <;> simp [h]
    have c0 : (b == 0) = decide (b = 0) := by by_cases h : b = 0 <;> simp [h]
    have c1 : (b == 1) = decide (b = 1) := by by_cases h : b = 1 <;> simp [h]
    generalize decide (a = 0) = x0 at *
    generalize decide (a = 1) = x1 at *
    generalize decide (b = 0) = y0 at *
    generalize decide (b = 1) = y1 at *
    clear ha hb ha1 ha2 hb1 hb2 f1 f2 f3 f4 f5 f6 f7 f8 f9 f10 f11 f12 f13 f14 f15 f16 f17 f18 f19 f20 f21 f22 f23 f24 f25 f26
    cases x0 <;> cases x1 <;> cases y0 <;> cases y1 <;>
      (go_wp2
       go_meet
       case rel => exact ⟨by rw [QA.out, QB.out]; rfl, rfl⟩)
  case rest =>
    obtain ⟨rfl, rfl⟩ := hcut
    generalize (isT a && isT b) = z at *
    go_wp2
    go_ret2
    exact ⟨rfl, b0 _⟩
theorem RApply_any (o : Nat) (a b : Int) (ha : W1.isW a) (hb : W1.isW b) (w : World) : Calls Tryd.prog 70 #[.int .u8 (o : Int), .int .i32 a, .int .i32 b] w (ApR w (apO o a b)) := by
  by_cases hbig : o = 0 ∨ 27 ≤ o
  · rw [ap_big hbig]
    exact rap_no o a b hbig w
  have hs : o = 1 ∨ o = 2 ∨ o = 3 ∨ o = 4 ∨ o = 5 ∨ o = 6 ∨ o = 7 ∨ o = 8 ∨ o = 9 ∨ o = 10 ∨ o = 11 ∨ o = 12 ∨ o = 13 ∨ o = 14 ∨ o = 15 ∨ o = 16 ∨ o = 17 ∨ o = 18 ∨ o = 19 ∨ o = 20 ∨ o = 21 ∨ o = 22 ∨ o = 23 ∨ o = 24 ∨ o = 25 ∨ o = 26 := by omega
  rcases hs with rfl | rfl | rfl | rfl | rfl | rfl | rfl | rfl | rfl | rfl | rfl | rfl | rfl | rfl | rfl | rfl | rfl | rfl | rfl | rfl | rfl | rfl | rfl | rfl | rfl | rfl
  · exact rap_1 a b ha hb w
  · exact rap_2 a b ha hb w
  · exact rap_3 a b ha hb w
  · exact rap_4 a b ha hb w
  · exact rap_5 a b ha hb w
  · exact rap_6 a b ha hb w
  · exact rap_7 a b ha hb w
  · exact rap_8 a b ha hb w
  · exact rap_9 a b ha hb w
  · exact rap_10 a b ha hb w
  · exact rap_11 a b ha hb w
  · exact rap_12 a b ha hb w
  · exact rap_13 a b ha hb w
  · exact rap_14 a b ha hb w
  · exact rap_15 a b ha hb w
  · exact rap_16 a b ha hb w
  · exact rap_17 a b ha hb w
  · exact rap_18 a b ha hb w
  · exact rap_19 a b ha hb w
  · exact rap_20 a b ha hb w
  · exact rap_21 a b ha hb w
  · exact rap_22 a b ha hb w
  · exact rap_23 a b ha hb w
  · exact rap_24 a b ha hb w
  · exact rap_25 a b ha hb w
  · exact rap_26 a b ha hb w
end Go.Proofs.YtblckajejohlbaaDoor
