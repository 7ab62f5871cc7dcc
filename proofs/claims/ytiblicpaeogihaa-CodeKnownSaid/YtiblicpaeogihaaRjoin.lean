/- Instructions are encoded one after the other by the reference; equality of lists. -/
import Derived.Test.YtiblicpaeogihaaJoin
namespace Go.Proofs.Ytiblicpaeogihaa
open Go Go.RowKit

theorem rPut_is {f : Nat} {v : Int} (hf : valid f = true) (hv : isW v) (w : World) : Calls Try.prog 12 #[.agg #[.int .u8 (f : Int), .int .i32 v]] w (Gives w 0 (enc f v)) := by
  have C := rPut_any f hv w
  rwa [show pe f = 0 from if_pos hf, show pt f v = enc f v from if_pos hf] at C
theorem Valid_is {f : Nat} {v : Int} {b : Bool} (hf : valid f = b) (w : World) : Calls Try.prog 30 #[.agg #[.int .u8 (f : Int), .int .i32 v]] w fun e w' => e = .returned (.bool b) ∧ w.grownBy w' none := by
  have C := Valid_any f v w
  rwa [hf] at C
set_option maxRecDepth 100000 in
set_option maxHeartbeats 4000000 in
theorem rJoin_any {A : Option Addr} {c n : Nat} {l : List II} {w : World} (R : RI w A c l) (hn : l.length = n) (hl : n ≤ 100000) : Calls Try.prog 21 #[.slice A n c] w (Gives w (je l) (jb l)) := by
  unfold Gives
  have HR := Lib.hid R
  have HN := Lib.hid hn
  have hlI : (n : Int) ≤ 100000 := by omega
  clear R hn
  go_enter Try.func21, Try.ntmps21
  go_wp2
  go_loopw [4] (fun i wr => ∃ k : Nat, k ≤ n ∧ i = .int .i64 k ∧ Hid (w.grownBy wr none ∧ av (l.take k) = true)) (fun i _ => n - (intOf i).toNat)
  case atStart => exact ⟨0, by omega, rfl, World.grownBy.refl _ _, rfl⟩
  case round =>
    obtain ⟨k, hk, rfl, H⟩ := hrel
    by_cases hlt : k < n
    · obtain ⟨ad, rfl, c0, c1⟩ := (HR.out.kept0 H.out.1).rd k (by have := HN.out; omega)
      have hkl : k < l.length := by have := HN.out; omega
      by_cases hf : valid (l.getD k i0).1 = true
      · have CL := Lib.hid (fun w => Valid_is (v := (l.getD k i0).2) hf w)
        have HV := Lib.hid (av_snoc hkl H.out.2 hf)
        generalize (l.getD k i0).1 = f at *
        generalize (l.getD k i0).2 = v at *
        have hk0 : (0 : Int) ≤ (k : Int) := by omega
        clear hf hkl
        go_wp2_with (go_at_call 30; (with_reducible refine (CL.out _).mono ?_); rintro e w2 ⟨rfl, g2⟩; have G2 := Lib.hid (g_trans H.out.1 g2); clear g2)
        go_roundw
        case rel => exact ⟨k + 1, by omega, by go_num, G2.out, HV.out⟩
        case measure => simp [intOf]; omega
      · have CL := Lib.hid (fun w => Valid_is (v := (l.getD k i0).2) (b := false) (Bool.eq_false_iff.2 hf) w)
        have E := Lib.hid (je_bad (av_no hkl hf))
        have E2 := Lib.hid (jb_no (l := l) (by rw [E.out]; decide))
        generalize (l.getD k i0).1 = f at *
        generalize (l.getD k i0).2 = v at *
        have hk0 : (0 : Int) ≤ (k : Int) := by omega
        clear hf hkl
        go_wp2_with (go_at_call 30; (with_reducible refine (CL.out _).mono ?_); rintro e w2 ⟨rfl, g2⟩; have G2 := Lib.hid (g_trans H.out.1 g2); clear g2)
        go_ret2
        rw [E.out, E2.out]
        exact ⟨none, 0, rfl, own_nil _ _, G2.out⟩
    · obtain rfl : k = n := by omega
      have ht : l.take k = l := List.take_of_length_le (by have := HN.out; omega)
      rw [ht] at H
      have HV := Lib.hid H.out.2
      have HW := Lib.hid H.out.1
      clear ht H
      go_wp2
      go_loopw [5, 6] (fun b i wr2 => ∃ k2 S2 : Nat, k2 ≤ k ∧ i = .int .i64 k2 ∧ S2 ≤ 32768 ∧ ∃ A2 c2, b = .slice A2 S2 c2 ∧ Hid ((w.grownBy wr2 none ∧ wr2.ownsRow w.heap.size 5 1 (.slice A2 S2 c2) S2 (bs (jl (l.take k2)))) ∧ S2 = (jl (l.take k2)).length)) (fun _ i _ => k - (intOf i).toNat)
      case atStart => exact ⟨0, 0, by omega, rfl, by omega, _, _, rfl, ⟨HW.out, own_nil' _ _⟩, rfl⟩
      case round =>
        obtain ⟨k2, S2, hk2, rfl, hS2, A2, c2, rfl, H2⟩ := hrel
        by_cases hlt : k2 < k
        · obtain ⟨ad, rfl, c0, c1⟩ := (HR.out.kept0 H2.out.1.1).rd k2 (by have := HN.out; omega)
          have hv := (HR.out.ok.get k2).2
          have hkl : k2 < l.length := by have := HN.out; omega
          have hf := av_get HV.out hkl
          have CP := Lib.hid (fun w => rPut_is hf hv w)
          have HB := Lib.hid (enc_by (v := (l.getD k2 i0).2) (valid_lt hf))
          have HZ := Lib.hid (jl_snoc hkl)
          have h8 := enc_len (l.getD k2 i0).1 hv
          have HM := Lib.hid (jl_mono (l := l) (k2 + 1))
          unfold Gives at CP
          generalize hz : enc (l.getD k2 i0).1 (l.getD k2 i0).2 = zs at *
          generalize hL : zs.length = L at *
          have HL := Lib.hid hL
          generalize (l.getD k2 i0).1 = f at *
          generalize (l.getD k2 i0).2 = v at *
          have hk0 : (0 : Int) ≤ (k2 : Int) := by omega
          clear hv hf hkl hz hL
          by_cases h3 : (32768 : Int) < ((S2 + L : Nat) : Int)
          · have E := Lib.hid (je_long HV.out (by have e1 := HM.out; rw [HZ.out, List.length_append, HL.out, ← H2.out.2] at e1; omega))
            have E2 := Lib.hid (jb_no (l := l) (by rw [E.out]; decide))
            have h3' : (32768 : Int) < (S2 : Int) + (L : Int) := by omega
            go_wp2_with (first
              | (go_at_call 12; (with_reducible refine (CP.out _).mono ?_); rintro e w5 ⟨A5, c5, rfl, o5, g5⟩; have H5 := Lib.hid (And.intro (And.intro (g_trans H2.out.1.1 g5) (own_keep H2.out.1.2 g5)) (OwnB.rs o5 HB.out).1); clear o5 g5)
              | (at_builtin; refine app_bytes rfl (.tmp 35) (.tmp 36) rfl w.heap.size S2 c2 L c5 (S2 + L) A2 A5 (jl (l.take k2)) zs rfl rfl H5.out.1.2 HL.out H5.out.2.rd rfl (by omega) H5.out.1.1.size ?_; intro A6 c6 w6 o6 g6; have H6 := Lib.hid (own_app (o := none) H5.out.1.1 H5.out.1.2 g6 o6); clear o6 g6))
            go_ret2
            rw [E.out, E2.out]
            exact ⟨none, 0, rfl, own_nil _ _, H6.out.1⟩
          · have h3' : ¬ (32768 : Int) < (S2 : Int) + (L : Int) := by omega
            go_wp2_with (first
              | (go_at_call 12; (with_reducible refine (CP.out _).mono ?_); rintro e w5 ⟨A5, c5, rfl, o5, g5⟩; have H5 := Lib.hid (And.intro (And.intro (g_trans H2.out.1.1 g5) (own_keep H2.out.1.2 g5)) (OwnB.rs o5 HB.out).1); clear o5 g5)
              | (at_builtin; refine app_bytes rfl (.tmp 35) (.tmp 36) rfl w.heap.size S2 c2 L c5 (S2 + L) A2 A5 (jl (l.take k2)) zs rfl rfl H5.out.1.2 HL.out H5.out.2.rd rfl (by omega) H5.out.1.1.size ?_; intro A6 c6 w6 o6 g6; have H6 := Lib.hid (own_app (o := none) H5.out.1.1 H5.out.1.2 g6 o6); clear o6 g6))
            rw [← HZ.out] at H6
            go_roundw
            case rel => exact ⟨k2 + 1, S2 + L, by omega, by go_num, by omega, _, _, rfl, H6.out, by rw [HZ.out, List.length_append, HL.out, ← H2.out.2]⟩
            case measure => simp [intOf]; omega
        · obtain rfl : k2 = k := by omega
          have ht : l.take k2 = l := List.take_of_length_le (by have := HN.out; omega)
          have h1 := H2.out
          rw [ht] at h1
          have E := Lib.hid (je_ok HV.out (by rw [← h1.2]; omega))
          have E2 := Lib.hid (jb_ok E.out)
          have H1 := Lib.hid h1
          clear ht h1
          go_wp2
          go_ret2
          rw [E.out, E2.out]
          have h1 := H1.out
          exact ⟨A2, c2, by rw [h1.2]; rfl, own_of h1.1.2 h1.2, h1.1.1⟩
/-! Equality of lists. -/
set_option maxRecDepth 100000 in
set_option maxHeartbeats 4000000 in
theorem Same_any {A B : Option Addr} {c d n : Nat} {l : List II} {w : World} (R : RI w A c l) (S : RI w B d l) (hn : l.length = n) : Calls Try.prog 24 #[.slice A n c, .slice B n d] w fun e w' => e = .returned (.bool true) ∧ w.grownBy w' none := by
  have HR := Lib.hid R
  have HS := Lib.hid S
  have HN := Lib.hid hn
  have hm := R.le
  have hm2 := R.mx
  rw [hn] at hm
  unfold maxLen at hm2
  clear R S hn
  go_enter Try.func24, Try.ntmps24
  go_wp2
  go_loopw [5] (fun i wr => ∃ k : Nat, k ≤ n ∧ i = .int .i64 k ∧ Hid (w.grownBy wr none)) (fun i _ => n - (intOf i).toNat)
  case atStart => exact ⟨0, by omega, rfl, World.grownBy.refl _ _⟩
  case round =>
    obtain ⟨k, hk, rfl, H⟩ := hrel
    by_cases hlt : k < n
    · obtain ⟨ad, rfl, c0, c1⟩ := (HR.out.kept0 H.out).rd k (by have := HN.out; omega)
      obtain ⟨bd, rfl, d0, d1⟩ := (HS.out.kept0 H.out).rd k (by have := HN.out; omega)
      generalize (l.getD k i0).1 = f at *
      generalize (l.getD k i0).2 = v at *
      have hk0 : (0 : Int) ≤ (k : Int) := by omega
      have hN : ∀ w : World, (binOp .neq 23 (.agg #[.int .u8 (f : Int), .int .i32 v]) (.agg #[.int .u8 (f : Int), .int .i32 v])).run Try.prog w = .ok (.bool false) w := fun w => by rw [neq_iv]; simp
      have hG : ∀ w : World, (eqGuard .neq 23 (.tmp 20) (.tmp 24) (.agg #[.int .u8 (f : Int), .int .i32 v]) (.agg #[.int .u8 (f : Int), .int .i32 v])).run Try.prog w = .ok () w := fun w => run_eqGuard_agg w .neq _ _ _ _ _ guard_iv
      go_wp2
      go_quiet (fail)
      have GQ := Lib.hid (g_drew H.out nq)
      go_wp2
      go_roundw
      case rel => exact ⟨k + 1, by omega, by go_num, GQ.out⟩
      case measure => simp [intOf]; omega
    · obtain rfl : k = n := by omega
      go_wp2
      go_ret
      exact ⟨rfl, H.out⟩
end Go.Proofs.Ytiblicpaeogihaa
