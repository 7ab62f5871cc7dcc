/- The reference: equal lists of tokens. -/
import Derived.Test.YtldnmdadlgjbgaaDoorRlc
set_option linter.unusedVariables false
set_option linter.unusedSimpArgs false
namespace Go.Proofs.YtldnmdadlgjbgaaDoor
open Go Go.RowKit L8

theorem kern_get {xs : List Tk} {j : Nat} (h : j < xs.length) : (kern xs)[j]? = some ((xs.getD j r0).k, (xs.getD j r0).tx, (xs.getD j r0).n) := by simp [kern, h]
theorem kern_ext {xs ys : List Tk} (hl : xs.length = ys.length) (h : ∀ j, j < xs.length → (xs.getD j r0).k = (ys.getD j r0).k ∧ (xs.getD j r0).tx = (ys.getD j r0).tx ∧ (xs.getD j r0).n = (ys.getD j r0).n) : kern xs = kern ys := by
  apply List.ext_getElem?
  intro i
  by_cases hi : i < xs.length
  · obtain ⟨h1, h2, h3⟩ := h i hi
    rw [kern_get hi, kern_get (by omega), h1, h2, h3]
  · rw [List.getElem?_eq_none (by simp [kern]; omega), List.getElem?_eq_none (by simp [kern]; omega)]
theorem int_neq (a b : Int) : (a != b) = !decide (a = b) := by by_cases h : a = b <;> simp [h]
theorem nat_neq (a b : Nat) : ((a : Int) != (b : Int)) = !decide (a = b) := by by_cases h : a = b <;> simp [h] <;> omega
set_option maxRecDepth 100000 in
set_option maxHeartbeats 8000000 in
theorem RSame_any {A B : Option Addr} {c d m n : Nat} {xs ys : List Tk} {w : World} (R : RR w A c xs) (S : RR w B d ys) (hm : xs.length = m) (hn : ys.length = n) : Calls Tryd.prog 13 #[.slice A m c, .slice B n d] w fun e w' => e = .returned (.bool (decide (kern xs = kern ys))) ∧ Below w.heap.size w w' := by
  have HR := Lib.hid R
  have HS := Lib.hid S
  have hmx : m ≤ maxLen := by have := R.le; have := R.mx; omega
  unfold maxLen at hmx
  by_cases hl : m = n
  · subst hl
    have HM := Lib.hid hm
    have HN := Lib.hid hn
    clear R S hm hn
    go_enter Tryd.func13, Tryd.ntmps13
    go_wp2
    go_loopw [5] (fun i wr => ∃ k : Nat, k ≤ m ∧ i = .int .i64 k ∧ Hid (Below w.heap.size w wr ∧ ∀ j, j < k → (xs.getD j r0).k = (ys.getD j r0).k ∧ (xs.getD j r0).tx = (ys.getD j r0).tx ∧ (xs.getD j r0).n = (ys.getD j r0).n)) (fun i _ => m - (intOf i).toNat)
    case atStart => exact ⟨0, Nat.zero_le _, rfl, Lib.hid ⟨b0 w, fun j hj => absurd hj (by omega)⟩⟩
    case round =>
      obtain ⟨k, hk, rfl, H⟩ := hrel
      by_cases hlt : (k : Int) < (m : Int)
      · obtain ⟨ad, rfl, c0, c1, c2, c3⟩ := (HR.out.keep H.out.1).rd k (by have := HM.out; omega)
        obtain ⟨ad2, rfl, e0, e1, e2, e3⟩ := (HS.out.keep H.out.1).rd k (by have := HN.out; omega)
        have hk0 : (0 : Int) ≤ (k : Int) := by omega
        have hbad : ¬ ((xs.getD k r0).k = (ys.getD k r0).k ∧ (xs.getD k r0).tx = (ys.getD k r0).tx ∧ (xs.getD k r0).n = (ys.getD k r0).n) → decide (kern xs = kern ys) = false := fun h => decide_eq_false (fun e => h (by
          have e1 := kern_get (xs := xs) (j := k) (by have := HM.out; omega)
          rw [e, kern_get (by have := HN.out; omega)] at e1
          injection e1 with e1
          injection e1 with e1 e2
          injection e2 with e2 e3
          exact ⟨e1.symm, e2.symm, e3.symm⟩))
        have HX := Lib.hid hbad
        clear hbad
        have qd := nat_neq (xs.getD k r0).k (ys.getD k r0).k
        have qt := eqS (xs.getD k r0).tx (ys.getD k r0).tx
        have qn := int_neq (xs.getD k r0).n (ys.getD k r0).n
        by_cases hv : (xs.getD k r0).k = (ys.getD k r0).k
        · rw [decide_eq_true hv] at qd
          by_cases ht : (xs.getD k r0).tx = (ys.getD k r0).tx
          · rw [decide_eq_true ht] at qt
            by_cases hz : (xs.getD k r0).n = (ys.getD k r0).n
            · rw [decide_eq_true hz] at qn
              have HY := Lib.hid (show ∀ j, j < k + 1 → (xs.getD j r0).k = (ys.getD j r0).k ∧ (xs.getD j r0).tx = (ys.getD j r0).tx ∧ (xs.getD j r0).n = (ys.getD j r0).n from fun j hj => if h : j < k then H.out.2 j h else by rw [show j = k by omega]; exact ⟨hv, ht, hz⟩)
              clear hv ht hz HX
              generalize xs.getD k r0 = a at *
              generalize ys.getD k r0 = b at *
              obtain ⟨n1, d1, t1, z1⟩ := a
              obtain ⟨n2, d2, t2, z2⟩ := b
              dsimp only at *
              generalize strOf t1 = s1 at *
              generalize strOf t2 = s2 at *
              go_wp2
              go_quiet (fail)
              have HB := Lib.hid (And.intro (bdrew H.out.1 nq) HY.out)
              clear HY H c0 c1 c2 c3 e0 e1 e2 e3
              generalize wr.drewN nq = W at *
              go_wp2
              go_roundw
              case rel => exact ⟨k + 1, by omega, by go_num, HB⟩
              case measure => simp [intOf]; omega
            · rw [decide_eq_false hz] at qn
              have HY := Lib.hid (HX.out (fun h => hz h.2.2))
              clear hv ht hz HX
              generalize xs.getD k r0 = a at *
              generalize ys.getD k r0 = b at *
              obtain ⟨n1, d1, t1, z1⟩ := a
              obtain ⟨n2, d2, t2, z2⟩ := b
              dsimp only at *
              generalize strOf t1 = s1 at *
              generalize strOf t2 = s2 at *
              go_wp2
              go_quiet (fail)
              have HB := Lib.hid (bdrew H.out.1 nq)
              clear H c0 c1 c2 c3 e0 e1 e2 e3
              generalize wr.drewN nq = W at *
              go_wp2
              go_ret
              rw [HY.out]
              exact ⟨rfl, HB.out⟩
          · rw [decide_eq_false ht] at qt
            have HY := Lib.hid (HX.out (fun h => ht h.2.1))
            clear hv ht HX qn
            generalize xs.getD k r0 = a at *
            generalize ys.getD k r0 = b at *
            obtain ⟨n1, d1, t1, z1⟩ := a
            obtain ⟨n2, d2, t2, z2⟩ := b
            dsimp only at *
            generalize strOf t1 = s1 at *
            generalize strOf t2 = s2 at *
            go_wp2
            go_quiet (fail)
            have HB := Lib.hid (bdrew H.out.1 nq)
            clear H c0 c1 c2 c3 e0 e1 e2 e3
            generalize wr.drewN nq = W at *
            go_wp2
            go_ret
            rw [HY.out]
            exact ⟨rfl, HB.out⟩
        · rw [decide_eq_false hv] at qd
          have HY := Lib.hid (HX.out (fun h => hv h.1))
          clear hv HX qt qn
          generalize xs.getD k r0 = a at *
          generalize ys.getD k r0 = b at *
          obtain ⟨n1, d1, t1, z1⟩ := a
          obtain ⟨n2, d2, t2, z2⟩ := b
          dsimp only at *
          generalize strOf t1 = s1 at *
          generalize strOf t2 = s2 at *
          go_wp2
          go_quiet (fail)
          have HB := Lib.hid (bdrew H.out.1 nq)
          clear H c0 c1 c2 c3 e0 e1 e2 e3
          generalize wr.drewN nq = W at *
          go_wp2
          go_ret
          rw [HY.out]
          exact ⟨rfl, HB.out⟩
      · obtain rfl : k = m := by omega
        have HY := Lib.hid (show decide (kern xs = kern ys) = true from decide_eq_true (kern_ext (HM.out.trans HN.out.symm) (by rw [HM.out]; exact H.out.2)))
        go_wp2
        go_ret
        rw [HY.out]
        exact ⟨rfl, H.out.1⟩
  · have HY := Lib.hid (show decide (kern xs = kern ys) = false from decide_eq_false (fun e => hl (by rw [← hm, ← hn]; have := congrArg List.length e; simpa [kern] using this)))
    have q : ((m : Int) != (n : Int)) = true := by simp; omega
    clear hm hn hl R S
    go_enter Tryd.func13, Tryd.ntmps13
    go_wp2
    go_ret
    rw [HY.out]
    exact ⟨rfl, b0 w⟩
end Go.Proofs.YtldnmdadlgjbgaaDoor
