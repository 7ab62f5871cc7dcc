/- The reference of package mem: Read and Move. -/
import Derived.Test.YtjdinppblejcdaaRefw
namespace Go.Proofs.Ytjdinppblejcdaa
open Go Go.RowKit

theorem rRead_any {A : Option Addr} {c : Nat} {xs : List Nat} {w : World} (R : RS w A c xs) (hl : xs.length ≤ 65536) {a n : Int} (ha : isW a) (hn : n < 9223372036854775808) : Calls Try.prog 42 #[.slice A xs.length c, .int .i32 a, .int .i64 n] w
    (Reads w (rde xs.length (ix a) n) (rd xs (ix a) n.toNat)) := by
  unfold Reads
  by_cases h0 : n < 0
  · rw [show rde xs.length (ix a) n = 2 from if_pos h0, show n.toNat = 0 by omega, rd_zero]
    clear R ha hl
    generalize xs.length = L at *
    go_enter Try.func42, Try.ntmps42
    go_wp2
    go_ret2
    exact ⟨none, 0, rfl, own_nil _ _, World.grownBy.refl _ _⟩
  · rw [show rde xs.length (ix a) n = er xs.length (ix a) n.toNat from if_neg h0]
    obtain ⟨m, rfl⟩ := Int.eq_ofNat_of_zero_le (show 0 ≤ n by omega)
    rw [show ((m : Int)).toNat = m by omega]
    have hz : ¬ ((m : Int) < 0) := by omega
    by_cases hm : m = 0
    · subst hm
      rw [er_zero, rd_zero]
      clear R ha hl hn h0 hz
      generalize xs.length = L at *
      rw [Int.ofNat_zero]
      go_enter Try.func42, Try.ntmps42
      go_wp2
      go_ret2
      exact ⟨none, 0, rfl, own_nil _ _, World.grownBy.refl _ _⟩
    · have hm1 : ¬ ((m : Int) = 0) := by omega
      have C' := Lies_any ha xs.length m hl (by omega) hm w
      have CI := Lib.hid (Index_any ha)
      by_cases h : ix a + m ≤ xs.length
      · have C := Lib.hid (at_ C' (ret_b (decide_eq_true h)))
        rw [er_in h, rd_len h]
        have hle := R.le
        have hmx := R.mx
        unfold maxLen at hmx
        have HF := Lib.hid (rd_len h)
        have P1 := Lib.hid (fun j (hj : j < (rd xs (ix a) m).length) => show ∃ ad, A.map (·.add (ix a)) = some ad ∧ w.cell? (ad.add j) = some (bc (rd xs (ix a) m) j) from by
          rw [rd_len h] at hj
          obtain ⟨ad, e, hc⟩ := R.rd (ix a + j) (by omega)
          refine ⟨ad.add (ix a), by rw [e]; rfl, ?_⟩
          rw [add_add_, hc]
          unfold bc
          rw [rd_get h hj])
        have HL := Lib.hid (show m ≤ 65536 by omega)
        clear C' ha
        generalize rd xs (ix a) m = ys at *
        generalize ix a = i at *
        generalize xs.length = L at *
        have q1 : ¬ (c = i) := by omega
        have q2 : (i : Int) + m ≤ (c : Int) := by omega
        have q3 : (0 : Int) ≤ (i : Int) := by omega
        have q4 : (i : Int) ≤ (i : Int) + m := by omega
        have q5 : ((i : Int) + m).toNat = i + m := by omega
        have q6 : i + m - i = m := by omega
        have q7 : wrap64 ((i : Int) + m) = (i : Int) + m := by unfold wrap64; omega
        clear R hl hn h0 hm h hle hmx
        go_enter Try.func42, Try.ntmps42
        go_wp2_with (first
          | (go_at_call 47; (with_reducible refine C.out.mono ?_); rintro e w' ⟨rfl, rfl⟩)
          | (go_at_call 48; (with_reducible refine (CI.out _).mono ?_); rintro e w' ⟨rfl, rfl⟩)
          | (at_builtin; refine app_bytes rfl (.tmp 19) (.tmp 27) rfl w.heap.size 0 0 m (c - i) m none _ [] ys rfl rfl (own_nil' w _) HF.out P1.out (by omega) (by have := HL.out; omega) (Nat.le_refl _) ?_; intro A1 c1 w1 o1 g1; have O1 := Lib.hid o1; have G1 := Lib.hid (g_app (World.grownBy.refl w none) (own_nil' w _) g1); clear o1 g1))
        go_ret2
        refine ⟨A1, c1, rfl, ?_, G1.out⟩
        have := O1.out
        rw [List.nil_append, ← HF.out] at this
        exact this
      · have C := Lib.hid (at_ C' (ret_b (decide_eq_false h)))
        rw [er_out hm h, show rd xs (ix a) m = [] from if_neg h]
        clear R ha hl hn h0 h C' hm
        generalize ix a = i at *
        generalize xs.length = L at *
        go_enter Try.func42, Try.ntmps42
        go_wp2_with (go_at_call 47; (with_reducible refine C.out.mono ?_); rintro e w' ⟨rfl, rfl⟩)
        go_ret2
        exact ⟨none, 0, rfl, own_nil _ _, World.grownBy.refl _ _⟩
theorem rMove_any {A : Option Addr} {c : Nat} {xs : List Nat} {w : World} (R : RS w A c xs) (hl : xs.length ≤ 65536) {a b v : Int} (ha : isW a) (hb : isW b) : Calls Try.prog 41 #[.slice A xs.length c, .int .i32 a, .int .i32 b, .int .i32 v] w
    (RefSt w A (mve xs.length (ix a) (ix b) (cnt v)) (wr xs (ix a) (rd xs (ix b) (cnt v)))) := by
  unfold RefSt
  have E := cnt_cast v
  have hc := cnt_lt v
  have D := rRead_any R hl hb (n := (cnt v : Int)) (by omega)
  unfold Reads at D
  rw [Int.toNat_natCast, show rde xs.length (ix b) (cnt v : Int) = er xs.length (ix b) (cnt v) by unfold rde; rw [if_neg (by omega)]; simp] at D
  have HR := Lib.hid R
  generalize cnt v = m at *
  have hby : BY (rd xs (ix b) m) := rd_by R.by_
  by_cases h : m ≠ 0 ∧ ¬ ix b + m ≤ xs.length
  · rw [er_out h.1 h.2] at D
    rw [show mve xs.length (ix a) (ix b) m = 4 from if_neg (by omega), show rd xs (ix b) m = [] from if_neg h.2, wr_nil]
    have D := Lib.hid D
    clear R h hby ha hb hl hc
    generalize rd xs (ix b) m = ys at *
    generalize hL : xs.length = L at *
    clear hL
    go_enter Try.func41, Try.ntmps41
    go_wp2_with (go_at_call 42; (with_reducible refine D.out.mono ?_); rintro e w1 ⟨A1, c1, rfl, H⟩; have H1 := Lib.hid H; clear H)
    go_ret2
    exact ⟨A, c, rfl, H1.out.2, HR.out.kept0 H1.out.2, .inl rfl⟩
  · have e0 : er xs.length (ix b) m = 0 := by
      unfold er
      by_cases h0 : m = 0
      · rw [if_pos (.inl h0)]
      · rw [if_pos (.inr (by omega))]
    rw [e0] at D
    have e1 : mve xs.length (ix a) (ix b) m = er xs.length (ix a) (rd xs (ix b) m).length := by
      unfold mve er
      by_cases h0 : m = 0
      · subst h0
        rw [rd_zero]
        simp
      · rw [rd_len (by omega)]
        by_cases h2 : ix a + m ≤ xs.length
        · rw [if_pos (by omega), if_pos (by omega)]
        · rw [if_neg (by omega), if_neg (by omega)]
    rw [e1]
    generalize rd xs (ix b) m = ys at *
    have W := Lib.hid (fun (w1 : World) (A1 : Option Addr) (c1 : Nat) (R1 : RS w1 A c xs) (S1 : RS w1 A1 c1 ys) => rWrite_any R1 S1 hl ha)
    have D := Lib.hid D
    have HB := Lib.hid hby
    unfold RefSt at W
    clear R h hby ha hb hl hc e0 e1
    generalize hm : ys.length = k at *
    have HM := Lib.hid hm
    have HWL := Lib.hid (wr_len xs (ix a) ys)
    rw [HWL.out] at W ⊢
    clear hm
    generalize hL : xs.length = L at *
    clear hL
    go_enter Try.func41, Try.ntmps41
    go_wp2_with (first
      | (go_at_call 42; (with_reducible refine D.out.mono ?_); rintro e w1 ⟨A1, c1, rfl, H⟩; have S1 := Lib.hid (OwnB.rs H.1 HB.out).1; have H1 := Lib.hid H; clear H)
      | (go_at_call 40; (with_reducible refine (W.out _ _ _ (HR.out.kept0 H1.out.2) S1.out).mono ?_); rintro e w2 ⟨A2, c2, rfl, H⟩; have H2 := Lib.hid H; clear H))
    go_ret2
    refine ⟨A2, c2, rfl, g_trans H1.out.2 H2.out.1, H2.out.2.1, ?_⟩
    rcases H2.out.2.2 with e | e
    · exact .inl e
    · exact .inr (fun ad h => Nat.le_trans H1.out.2.size (e ad h))
end Go.Proofs.Ytjdinppblejcdaa
