/- The reference: tokens that begin with others. -/
import Derived.Test.YtbkbhlbfkfnljaaDoorRtd
set_option linter.unusedVariables false
set_option linter.unusedSimpArgs false
namespace Go.Proofs.YtbkbhlbfkfnljaaDoor
open Go Go.RowKit L8 L9

theorem pre_step : ∀ (ys l : List Tk), pre ys l = true ↔ ys.length ≤ l.length ∧ ∀ j, j < ys.length → isT (l.getD j r0) (ys.getD j r0) = true
  | [], l => by rw [pre_nil]; simp
  | y :: ys, [] => by simp [pre]
  | y :: ys, x :: xs => by
    show (isT x y && pre ys xs) = true ↔ _
    rw [Bool.and_eq_true, pre_step ys xs]
    constructor
    · rintro ⟨h1, h2, h3⟩
      refine ⟨by simpa using h2, fun j hj => ?_⟩
      cases j with
      | zero => exact h1
      | succ j => simpa using h3 j (by simpa using hj)
    · rintro ⟨h1, h2⟩
      refine ⟨h2 0 (by simp), by simpa using h1, fun j hj => ?_⟩
      have := h2 (j + 1) (by simpa using hj)
      simpa using this
theorem isT_at0 (x y : Tk) (h : y.a = 0) : decide ((⟨x.k, 0, x.tx, x.n⟩ : Tk) = y) = isT x y := by
  obtain ⟨k, a, tx, n⟩ := x
  obtain ⟨k', a', tx', n'⟩ := y
  simp only at h
  subst h
  unfold isT
  simp
set_option maxRecDepth 100000 in
set_option maxHeartbeats 8000000 in
theorem RBegins_any {A B : Option Addr} {c d m n : Nat} {xs ys : List Tk} {w : World} (R : RR w A c xs) (S : RR w B d ys) (hm : xs.length = m) (hn : ys.length = n) (hz : ∀ y ∈ ys, y.a = 0) : Calls Tryd.prog 46 #[.slice A m c, .slice B n d] w fun e w' => e = .returned (.bool (pre ys xs)) ∧ Below w.heap.size w w' := by
  have HR := Lib.hid R
  have HS := Lib.hid S
  have hmx : m ≤ maxLen := by have := R.le; have := R.mx; omega
  have hnx : n ≤ maxLen := by have := S.le; have := S.mx; omega
  unfold maxLen at hmx hnx
  have HP := Lib.hid (pre_step ys xs)
  have HM := Lib.hid hm
  have HN := Lib.hid hn
  have HZ := Lib.hid (fun (j : Nat) (h : j < n) => hz (ys.getD j r0) (getD_mem (by omega)))
  by_cases hl : (m : Int) < (n : Int)
  · have HY := Lib.hid (show pre ys xs = false from by
      cases hb : pre ys xs with
      | false => rfl
      | true => have := (HP.out.1 hb).1; omega)
    clear hm hn R S
    go_enter Tryd.func46, Tryd.ntmps46
    go_wp2
    go_ret
    rw [HY.out]
    exact ⟨rfl, b0 w⟩
  · have hnm : n ≤ m := by omega
    have HBad := Lib.hid (fun (j : Nat) (h : j < n) (g : isT (xs.getD j r0) (ys.getD j r0) = false) => show pre ys xs = false from by
      cases hb : pre ys xs with
      | false => rfl
      | true => have := (HP.out.1 hb).2 j (by omega); rw [this] at g; cases g)
    have HGood := Lib.hid (fun (h : ∀ j, j < n → isT (xs.getD j r0) (ys.getD j r0) = true) => HP.out.2 ⟨by omega, fun j hj => h j (by omega)⟩)
    clear hm hn R S HP hz
    go_enter Tryd.func46, Tryd.ntmps46
    go_wp2
    go_loopw [5] (fun i wr => ∃ k : Nat, k ≤ n ∧ i = .int .i64 k ∧ Hid (Below w.heap.size w wr ∧ ∀ j, j < k → isT (xs.getD j r0) (ys.getD j r0) = true)) (fun i _ => n - (intOf i).toNat)
    case atStart => exact ⟨0, Nat.zero_le _, rfl, Lib.hid ⟨b0 w, fun j hj => absurd hj (by omega)⟩⟩
    case round =>
      obtain ⟨k, hk, rfl, H⟩ := hrel
      by_cases hlt : (k : Int) < (n : Int)
      · obtain ⟨ad, rfl, c0, c1, c2, c3⟩ := (HR.out.keep H.out.1).rd k (by have := HM.out; omega)
        have HK := Lib.hid (fun (X : World) (b : Below wr.heap.size wr X) => (HS.out.keep (blw H.out.1 b)).rd k (by have := HN.out; omega))
        have hk0 : (0 : Int) ≤ (k : Int) := by omega
        have hkm : (k : Int) < (m : Int) := by omega
        have hq := isT_at0 (xs.getD k r0) (ys.getD k r0) (HZ.out k (by omega))
        have hn := fun W => neq_tk ⟨(xs.getD k r0).k, 0, (xs.getD k r0).tx, (xs.getD k r0).n⟩ (ys.getD k r0) W
        have hg := fun (x y : Operand) W => run_eqGuard_agg (P := Tryd.prog) W .neq 57 x y #[.int .u8 ((xs.getD k r0).k : Int), .int .i64 0, .string (strOf (xs.getD k r0).tx), .int .i32 (xs.getD k r0).n] #[.int .u8 ((ys.getD k r0).k : Int), .int .i64 (ys.getD k r0).a, .string (strOf (ys.getD k r0).tx), .int .i32 (ys.getD k r0).n] guard_tk
        rw [rwV_eq9, rwV_eq9, hq] at hn
        clear hq
        cases hv : isT (xs.getD k r0) (ys.getD k r0) with
        | true =>
          have HY := Lib.hid (show ∀ j, j < k + 1 → isT (xs.getD j r0) (ys.getD j r0) = true from fun j hj => if h : j < k then H.out.2 j h else by rw [show j = k by omega]; exact hv)
          have HB := Lib.hid H.out.1
          rw [hv] at hn
          clear hv H
          generalize xs.getD k r0 = a at *
          generalize ys.getD k r0 = b at *
          obtain ⟨ak, aa, at_, an⟩ := a
          obtain ⟨bk, ba, bt, bn⟩ := b
          dsimp only at *
          go_wp2
          have bW := Lib.hid (bal (b0 wr) (.cells #[.int .u8 (ak : Int), .int .i64 0, .string (strOf at_), .int .i32 an] 57))
          obtain ⟨⟨x0, x1, x2, x3⟩, xl⟩ := box4 (boxS_new wr 57 #[.int .u8 (ak : Int), .int .i64 0, .string (strOf at_), .int .i32 an])
          obtain ⟨ad2, e1, f0, f1, f2, f3⟩ := HK.out _ bW.out
          cases e1
          generalize wr.alloc (.cells #[.int .u8 (ak : Int), .int .i64 0, .string (strOf at_), .int .i32 an] 57) = V at *
          clear c0 c1 c2 c3 HK
          generalize Value.int .u8 (ak : Int) = V0 at *
          generalize Value.string (strOf at_) = V2 at *
          generalize Value.int .i32 an = V3 at *
          generalize Value.int .u8 (bk : Int) = U0 at *
          generalize Value.int .i64 ba = U1 at *
          generalize Value.string (strOf bt) = U2 at *
          generalize Value.int .i32 bn = U3 at *
          go_quiet (fail)
          have HE := Lib.hid (And.intro (blw HB.out (bdrew bW.out nq)) HY.out)
          clear HB HY bW x0 x1 x2 x3 f0 f1 f2 f3
          generalize V.drewN nq = W at *
          go_wp2
          go_roundw
          case rel => exact ⟨k + 1, by omega, by go_num, HE⟩
          case measure => simp [intOf]; omega
        | false =>
          have HY := Lib.hid (HBad.out k (by omega) hv)
          have HB := Lib.hid H.out.1
          rw [hv] at hn
          clear hv H
          generalize xs.getD k r0 = a at *
          generalize ys.getD k r0 = b at *
          obtain ⟨ak, aa, at_, an⟩ := a
          obtain ⟨bk, ba, bt, bn⟩ := b
          dsimp only at *
          go_wp2
          have bW := Lib.hid (bal (b0 wr) (.cells #[.int .u8 (ak : Int), .int .i64 0, .string (strOf at_), .int .i32 an] 57))
          obtain ⟨⟨x0, x1, x2, x3⟩, xl⟩ := box4 (boxS_new wr 57 #[.int .u8 (ak : Int), .int .i64 0, .string (strOf at_), .int .i32 an])
          obtain ⟨ad2, e1, f0, f1, f2, f3⟩ := HK.out _ bW.out
          cases e1
          generalize wr.alloc (.cells #[.int .u8 (ak : Int), .int .i64 0, .string (strOf at_), .int .i32 an] 57) = V at *
          clear c0 c1 c2 c3 HK
          generalize Value.int .u8 (ak : Int) = V0 at *
          generalize Value.string (strOf at_) = V2 at *
          generalize Value.int .i32 an = V3 at *
          generalize Value.int .u8 (bk : Int) = U0 at *
          generalize Value.int .i64 ba = U1 at *
          generalize Value.string (strOf bt) = U2 at *
          generalize Value.int .i32 bn = U3 at *
          go_quiet (fail)
          have HE := Lib.hid (blw HB.out (bdrew bW.out nq))
          clear HB bW x0 x1 x2 x3 f0 f1 f2 f3
          generalize V.drewN nq = W at *
          go_wp2
          go_ret
          rw [HY.out]
          exact ⟨rfl, HE.out⟩
      · obtain rfl : k = n := by omega
        have HY := Lib.hid (HGood.out H.out.2)
        go_wp2
        go_ret
        rw [HY.out]
        exact ⟨rfl, H.out.1⟩
end Go.Proofs.YtbkbhlbfkfnljaaDoor
