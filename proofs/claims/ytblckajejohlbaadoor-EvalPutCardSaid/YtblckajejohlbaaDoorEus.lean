/- uses: whether a variable occurs in a valid expression. -/
import Derived.Test.YtblckajejohlbaaDoorM05
set_option linter.unusedVariables false
set_option linter.unusedSimpArgs false
set_option linter.unusedVariables false
set_option linter.unusedSimpArgs false
namespace Go.Proofs.YtblckajejohlbaaDoor
open Go Go.RowKit L8 L22 L17
open L14 (inW)

/-- None of the first j parts. -/
def usT (k : Int) (l : List Kx) (j : Nat) : Prop := ∀ i, i < j → i < l.length → usX k (l.getD i k0) = false
theorem us_own {k : Int} {e : Kx} (h : (decide (e.k = 2 ∨ e.k = 3) && decide (e.v = k)) = true) : usX k e = true := by rw [usX_eq, h, Bool.true_or]
theorem us_part {k : Int} {e : Kx} {j : Nat} (hj : j < e.l.length) (h : usX k (e.l.getD j k0) = true) : usX k e = true := by
  rw [usX_eq, usK_yes (memK hj) h, Bool.or_true]
theorem us_none {k : Int} {e : Kx} (h : (decide (e.k = 2 ∨ e.k = 3) && decide (e.v = k)) = false) {n : Nat} (hn : e.l.length = n) (ht : usT k e.l n) : usX k e = false := by
  rw [usX_eq, h, Bool.false_or]
  exact usK_all fun j hj => ht j (by omega) hj
theorem us_next {k : Int} {l : List Kx} {j : Nat} (h : usT k l j) (hx : usX k (l.getD j k0) = false) : usT k l (j + 1) := fun i hi hl => by
  by_cases e : i = j
  · rw [e]; exact hx
  · exact h i (by omega) hl
set_option maxRecDepth 100000 in
set_option maxHeartbeats 8000000 in
theorem Uses_any : ∀ e : Kx, ∀ (A : Option Addr) (n c : Nat) (k : Int) (d : Nat) (w : World), KrR w A c e.l → e.l.length = n → OKk e → dpX e ≤ d + 1 → d ≤ 40 → Calls Tryd.prog 26 #[kxV e A n c, .int .i64 k, .int .i64 (d : Int)] w fun en w' => en = .returned (.bool (usX k e)) ∧ Below w.heap.size w w' := by
  refine Kx.ind fun e ih A n c k d w R hn hok hd h40 => ?_
  have HN := Lib.hid hn
  have hmx : n ≤ maxLen := by have := R.le; have := R.mx; omega
  unfold maxLen at hmx
  have HV := Lib.hid (KS.new (n := n) R)
  have IH : Hid (∀ j, j < n → 0 < d ∧ ∀ (B : Option Addr) (m f : Nat) (X : World), KrR X B f (e.l.getD j k0).l → (e.l.getD j k0).l.length = m → OKk (e.l.getD j k0) → Calls Tryd.prog 26 #[kxV (e.l.getD j k0) B m f, .int .i64 k, .int .i64 ((d : Int) - 1)] X fun en w' => en = .returned (.bool (usX k (e.l.getD j k0))) ∧ Below X.heap.size X w') := Lib.hid fun j hj => by
    have hm := dpK_mem (memK (l := e.l) (j := j) (by omega))
    have hp := dpX_pos (e.l.getD j k0)
    rw [dpX_eq] at hd
    refine ⟨by omega, fun B m f X R h ok => ?_⟩
    have := ih _ (memK (by omega)) B m f k (d - 1) X R h ok (by omega) (by omega)
    rwa [show ((d - 1 : Nat) : Int) = (d : Int) - 1 by omega] at this
  have q2 : ((e.k : Int) == 2) = decide (e.k = 2) := nat_eqK e.k 2
  have q3 : ((e.k : Int) == 3) = decide (e.k = 3) := nat_eqK e.k 3
  have qv : (e.v == k) = decide (e.v = k) := int_eqK e.v k
  have hd0 : (0 : Int) ≤ (d : Int) := by omega
  have hd1 : (d : Int) ≤ 40 := by omega
  have U0 := Lib.hid (show usT k e.l 0 from fun i hi => absurd hi (by omega))
  have UN := Lib.hid fun j (h : usT k e.l j) => us_next (j := j) h
  have UP := Lib.hid fun j (hj : j < e.l.length) => us_part (k := k) (j := j) hj
  have UO := Lib.hid (us_own (k := k) (e := e))
  have UE := Lib.hid fun (h : (decide (e.k = 2 ∨ e.k = 3) && decide (e.v = k)) = false) => us_none h hn
  generalize usX k e = F at *
  clear ih R hok hd h40 hn
  simp only [Bool.decide_or] at UO UE
  generalize decide (e.k = 2) = b2 at *
  generalize decide (e.k = 3) = b3 at *
  generalize decide (e.v = k) = bv at *
  cases b2 <;> cases b3 <;> cases bv
  all_goals
    simp only [Bool.or_true, Bool.or_false, Bool.false_or, Bool.true_or, Bool.true_and, Bool.and_true, Bool.false_and, Bool.and_false, forall_const] at UO UE
    first
    | fail
    | (dsimp only [kxV, kxC] at *
       obtain ⟨p0, p1, p2, p3, p4, p5⟩ := HV.out.box
       go_enter Tryd.func26, Tryd.ntmps26
       go_wp2
       first
       | (go_ret
          rw [UO.out]
          exact ⟨rfl, HV.out.bel⟩)
       | (go_loopw [26] (fun ι wr => ∃ j : Nat, j ≤ n ∧ ι = .int .i64 j ∧ Hid (usT k e.l j) ∧ Hid (KS w wr e A n c)) (fun ι _ => n - (intOf ι).toNat)
          case atStart => exact ⟨0, Nat.zero_le _, rfl, U0, HV⟩
          case round =>
            obtain ⟨j, hj, rfl, HU, H⟩ := hrel
            have hj0 : (0 : Int) ≤ (j : Int) := by omega
            by_cases hlt : (j : Int) < (n : Int)
            · obtain ⟨ad, rfl, B, m, f, hm, hok, Rc, x0, x1, x2, x3, x4, x5⟩ := H.out.tr.at (j := j) (by have := HN.out; omega)
              have hjn : j < e.l.length := by have := HN.out; omega
              obtain ⟨hdp, CC⟩ := IH.out j (by omega)
              have hdi : (0 : Int) < (d : Int) := by omega
              have C := Lib.hid fun X (b : Below wr.heap.size wr X) => CC B m f X (Rc.keep b) hm hok
              have hUP := Lib.hid (UP.out j hjn)
              have hUN := Lib.hid (UN.out j HU.out)
              clear hdp CC Rc hm hok IH
              generalize e.l.getD j k0 = y at *
              cases hft : usX k y with
              | true =>
                have hF := Lib.hid (hUP.out hft)
                rw [hft] at C
                clear hft hUP hUN
                go_wp2_with (go_at_call 26; (with_reducible refine (C.out _ (bal (b0 _) _)).mono ?_); rintro e1 w3 ⟨rfl, b⟩; have H3 := Lib.hid ((H.out.step (bal (b0 _) _)).step b); clear b)
                go_ret
                rw [hF.out]
                exact ⟨rfl, H3.out.bel⟩
              | false =>
                have hF := Lib.hid (hUN.out hft)
                rw [hft] at C
                clear hft hUP hUN
                go_wp2_with (go_at_call 26; (with_reducible refine (C.out _ (bal (b0 _) _)).mono ?_); rintro e1 w3 ⟨rfl, b⟩; have H3 := Lib.hid ((H.out.step (bal (b0 _) _)).step b); clear b)
                go_roundw
                case rel => exact ⟨j + 1, by omega, by go_num, hF, H3⟩
                case measure => simp [intOf]; omega
            · obtain rfl : j = n := by omega
              have HE := Lib.hid (UE.out HU.out)
              go_wp2
              go_ret
              rw [HE.out]
              exact ⟨rfl, H.out.bel⟩))
end Go.Proofs.YtblckajejohlbaaDoor
