/- The reference's functions: valid texts, spaces, equality of rows, the next line, lines. -/
import Derived.Test.YtkhmpmjonkmbeaaDoorRfa
set_option linter.unusedVariables false
set_option linter.unusedSimpArgs false
namespace Go.Proofs.YtkhmpmjonkmbeaaDoor
open Go Go.RowKit L7

set_option maxRecDepth 100000 in
set_option maxHeartbeats 8000000 in
theorem Rfine_any (l : Bs) (hl : l.length ≤ maxLen) (w : World) : Calls Tryd.prog 43 #[.string (strOf l)] w fun e w' => e = .returned (.bool (fine l)) ∧ Below w.heap.size w w' := by
  have C1 := Lib.hid (fun W => RConts_any l hl W)
  have C2 := Lib.hid (fun W => Rplain_any l hl W)
  unfold maxLen at hl
  have hsz := size_strOf l
  by_cases h0 : l = []
  · subst h0
    rw [fine_empty]
    have hz : (strOf []).size = 0 := hsz
    clear hsz C1 C2
    generalize strOf [] = S at *
    go_enter Tryd.func43, Tryd.ntmps43
    go_wp2
    go_ret
    exact ⟨rfl, b0 w⟩
  have hpos := List.length_pos_iff.2 h0
  have HF := Lib.hid (fine_as h0)
  obtain ⟨n, hn⟩ : ∃ n, l.length = n := ⟨_, rfl⟩
  rw [hn] at hsz hl hpos HF
  have h1 := fun W => index_l l (n - 1) (by omega) W
  have e1 : ((n - 1 : Nat) : Int) = (n : Int) - 1 := by omega
  rw [e1] at h1
  have h2 := fun W => index_l l 0 (by omega) W
  have e2 : ((0 : Nat) : Int) = 0 := rfl
  rw [e2] at h2
  have HI := Lib.hid (fun (k : Nat) (hk : k < n) (W : World) => index_l l k (by omega) W)
  have q1 := b32 (l.getD (n - 1) 0)
  have q2 := b32 (l.getD 0 0)
  have HB := Lib.hid (fun (k : Nat) (h : k + 1 < n) (a : l.getD k 0 = 45) (b : l.getD (k + 1) 0 = 45) => noDD_bad (l := l) (k := k) (by omega) a b)
  have HG := Lib.hid (fun (h : ∀ j, j + 1 < n → ¬ (l.getD j 0 = 45 ∧ l.getD (j + 1) 0 = 45)) => noDD_good (l := l) (by rw [hn]; exact h))
  have p1 : ¬ (n : Int) < 1 := by omega
  have p0 : (0 : Int) ≤ (n : Int) - 1 := by omega
  by_cases p2 : (256 : Int) < (n : Int)
  · have HE := Lib.hid (show fine l = false by rw [HF.out, decide_eq_false (by omega)]; rfl)
    clear h0 e1 e2 hn C1 C2 HI HB HG HF
    go_enter Tryd.func43, Tryd.ntmps43
    go_wp2
    go_ret
    rw [HE.out]
    exact ⟨rfl, b0 w⟩
  have pd : decide (n ≤ 256) = true := decide_eq_true (by omega)
  by_cases a2 : l.getD 0 0 = 32
  · have HE := Lib.hid (show fine l = false by rw [HF.out, decide_eq_true a2]; simp)
    rw [decide_eq_true a2] at q2
    clear h0 e1 e2 hn C1 C2 HI HB HG HF a2 q1 h1
    generalize ((l.getD 0 0).toNat : Int) = x at *
    go_enter Tryd.func43, Tryd.ntmps43
    go_wp2
    go_ret
    rw [HE.out]
    exact ⟨rfl, b0 w⟩
  by_cases a1 : l.getD (n - 1) 0 = 32
  · have HE := Lib.hid (show fine l = false by rw [HF.out, decide_eq_true a1]; simp)
    rw [decide_eq_false a2] at q2
    rw [decide_eq_true a1] at q1
    clear h0 e1 e2 hn C1 C2 HI HB HG HF a2 a1
    generalize ((l.getD 0 0).toNat : Int) = x at *
    generalize ((l.getD (n - 1) 0).toNat : Int) = y at *
    go_enter Tryd.func43, Tryd.ntmps43
    go_wp2
    go_ret
    rw [HE.out]
    exact ⟨rfl, b0 w⟩
  rw [decide_eq_false a2] at q2
  rw [decide_eq_false a1] at q1
  cases hc : conts l with
  | true =>
    have HE := Lib.hid (show fine l = false by rw [HF.out, hc]; simp)
    rw [hc] at C1
    clear h0 e1 e2 hn C2 HI HB HG HF a2 a1 hc
    generalize ((l.getD 0 0).toNat : Int) = x at *
    generalize ((l.getD (n - 1) 0).toNat : Int) = y at *
    go_enter Tryd.func43, Tryd.ntmps43
    go_wp2_with (go_at_call 35; refine (C1.out _).mono ?_; rintro e w1 ⟨rfl, b1⟩; have B1 := Lib.hid b1; clear b1)
    go_ret
    rw [HE.out]
    exact ⟨rfl, B1.out⟩
  | false =>
    have HE := Lib.hid (show fine l = (noDD l && l.all plainB) by rw [HF.out, hc, pd, decide_eq_false a2, decide_eq_false a1]; rfl)
    rw [hc] at C1
    clear h0 e1 e2 hn HF a2 a1 hc pd
    generalize ((l.getD 0 0).toNat : Int) = x at *
    generalize ((l.getD (n - 1) 0).toNat : Int) = y at *
    generalize l.all plainB = pl at *
    go_enter Tryd.func43, Tryd.ntmps43
    go_wp2_with (go_at_call 35; refine (C1.out _).mono ?_; rintro e w1 ⟨rfl, b1⟩; have B1 := Lib.hid b1; clear b1)
    go_loopw [3] (fun i wr => ∃ k : Nat, k < n ∧ i = .int .i64 k ∧ w1 = wr ∧ Hid (∀ j, j < k → ¬ (l.getD j 0 = 45 ∧ l.getD (j + 1) 0 = 45))) (fun i _ => n - (intOf i).toNat)
    case atStart => exact ⟨0, by omega, rfl, rfl, Lib.hid (fun j hj => absurd hj (by omega))⟩
    case round =>
      obtain ⟨k, hk, rfl, rfl, H⟩ := hrel
      by_cases hlt : (k : Int) + 1 < (n : Int)
      · have h3 := HI.out k (by omega)
        have h4 := HI.out (k + 1) (by omega)
        have e3 : ((k + 1 : Nat) : Int) = (k : Int) + 1 := by omega
        rw [e3] at h4
        have q3 := b45 (l.getD k 0)
        have q4 := b45 (l.getD (k + 1) 0)
        have hk0 : (0 : Int) ≤ (k : Int) := by omega
        by_cases a3 : l.getD k 0 = 45
        · by_cases a4 : l.getD (k + 1) 0 = 45
          · have HX := Lib.hid (HE.out.trans (show (noDD l && pl) = false by rw [HB.out k (by omega) a3 a4]; rfl))
            rw [decide_eq_true a3] at q3
            rw [decide_eq_true a4] at q4
            clear a3 a4 H e3
            generalize ((l.getD k 0).toNat : Int) = u at *
            generalize ((l.getD (k + 1) 0).toNat : Int) = v at *
            go_wp2
            go_ret
            rw [HX.out]
            exact ⟨rfl, B1.out⟩
          · have HX := Lib.hid (show ∀ j, j < k + 1 → ¬ (l.getD j 0 = 45 ∧ l.getD (j + 1) 0 = 45) from fun j hj => if h : j < k then H.out j h else by rw [show j = k by omega]; exact fun h => a4 h.2)
            rw [decide_eq_true a3] at q3
            rw [decide_eq_false a4] at q4
            clear a3 a4 H e3
            generalize ((l.getD k 0).toNat : Int) = u at *
            generalize ((l.getD (k + 1) 0).toNat : Int) = v at *
            go_wp2
            go_roundw
            case rel => exact ⟨k + 1, by omega, by go_num, trivial, HX⟩
            case measure => simp [intOf]; omega
        · have HX := Lib.hid (show ∀ j, j < k + 1 → ¬ (l.getD j 0 = 45 ∧ l.getD (j + 1) 0 = 45) from fun j hj => if h : j < k then H.out j h else by rw [show j = k by omega]; exact fun h => a3 h.1)
          rw [decide_eq_false a3] at q3
          clear a3 H e3 q4 h4
          generalize ((l.getD k 0).toNat : Int) = u at *
          go_wp2
          go_roundw
          case rel => exact ⟨k + 1, by omega, by go_num, trivial, HX⟩
          case measure => simp [intOf]; omega
      · have HX := Lib.hid (HE.out.trans (show (noDD l && pl) = pl by rw [HG.out (fun j hj => H.out j (by omega))]; rfl))
        clear H
        go_wp2_with (go_at_call 32; refine (C2.out _).mono ?_; rintro e w2 ⟨rfl, rfl⟩)
        go_ret
        rw [HX.out]
        exact ⟨rfl, B1.out⟩
set_option maxRecDepth 100000 in
set_option maxHeartbeats 4000000 in
theorem RSpaces_any (n : Nat) (hn : n ≤ 1000) (w : World) : Calls Tryd.prog 28 #[.int .i64 (n : Int)] w fun e w' => e = .returned (.string (strOf (List.replicate n 32))) ∧ w = w' := by
  have HS : Hid (∀ k : Nat, List.replicate (k + 1) (32 : UInt8) = List.replicate k 32 ++ [32]) := Lib.hid (fun k => List.replicate_succ')
  go_enter Tryd.func28, Tryd.ntmps28
  go_wp2
  go_loopw [3, 4] (fun s i wr => ∃ k : Nat, k ≤ n ∧ i = .int .i64 k ∧ s = .string (strOf (List.replicate k 32)) ∧ w = wr) (fun _ i _ => n - (intOf i).toNat)
  case atStart => exact ⟨0, Nat.zero_le _, rfl, rfl, rfl⟩
  case round =>
    obtain ⟨k, hk, rfl, rfl, rfl⟩ := hrel
    by_cases hlt : (k : Int) < (n : Int)
    · have hcat := cat_str (List.replicate k 32) [32] (by simp; omega)
      rw [← HS.out k] at hcat
      have hcat' : Op.stringOp .add (strOf (List.replicate k 32)) ⟨#[32]⟩ = pure (.string (strOf (List.replicate (k + 1) 32))) := hcat
      clear hcat
      generalize hb : strOf (List.replicate (k + 1) 32) = T at *
      have HB := Lib.hid hb
      clear hb
      generalize strOf (List.replicate k 32) = S at *
      go_wp2
      go_roundw
      case rel => exact ⟨k + 1, by omega, by go_num, by rw [HB.out], trivial⟩
      case measure => simp [intOf]; omega
    · obtain rfl : k = n := by omega
      go_wp2
      go_ret
      exact ⟨rfl, rfl⟩
/-! ### Equality of rows -/
theorem eq_rw (x y : Rw) (w : World) : (Op.equalIn 10000 38 (rwV x) (rwV y)).run Tryd.prog w = .ok (decide (x = y)) w := by
  have u9 := Tryd.underlying9
  have a9 := Tryd.isAgg9
  have z9 := Tryd.sizeOf9
  have u3 := Tryd.underlying3
  have a3 := Tryd.isAgg3
  have z3 := Tryd.sizeOf3
  have hS : Tryd.prog.underlying 38 = some (.struct (Tryd.prog.fieldsOf 38)) := by kernel_rfl
  have hp : Tryd.prog.stoodInHeld 38 = false := by kernel_rfl
  have e1 := eqS x.tx y.tx
  have hf : decide (x = y) = ((x.no == y.no) && ((x.dp == y.dp) && decide (x.tx = y.tx))) := by
    have h1 : (x.no == y.no) = decide (x.no = y.no) := by by_cases h : x.no = y.no <;> simp [h]
    have h2 : (x.dp == y.dp) = decide (x.dp = y.dp) := by by_cases h : x.dp = y.dp <;> simp [h]
    rw [h1, h2, ← Bool.decide_and, ← Bool.decide_and]
    cases x; cases y
    simp
  rw [hf]
  clear hf
  rw [show (10000 : Nat) = 9999 + 1 from rfl, run_equalIn_agg w 9999 38 _ _ hS hp]
  simp only [Program.fieldsOf, Tryd.underlying38]
  generalize decide (x.tx = y.tx) = q1 at *
  generalize hq4 : (x.no == y.no) = q4
  generalize hq5 : (x.dp == y.dp) = q5
  go_simp
  cases q1 <;> cases q4 <;> cases q5 <;> simp_all
theorem neq_rw (x y : Rw) (w : World) : (binOp .neq 38 (rwV x) (rwV y)).run Tryd.prog w = .ok (.bool (!decide (x = y))) w := by
  rw [run_neq_struct, eq_rw]; rfl
theorem rows_ext {xs ys : List Rw} (hl : xs.length = ys.length) (h : ∀ j, j < xs.length → xs.getD j r0 = ys.getD j r0) : xs = ys := by
  apply List.ext_getElem hl
  intro i h1 h2
  have := h i h1
  simpa [h1, h2] using this
set_option maxRecDepth 100000 in
set_option maxHeartbeats 4000000 in
theorem RSame_any {A B : Option Addr} {c d m n : Nat} {xs ys : List Rw} {w : World} (R : RR w A c xs) (S : RR w B d ys) (hm : xs.length = m) (hn : ys.length = n) : Calls Tryd.prog 12 #[.slice A m c, .slice B n d] w fun e w' => e = .returned (.bool (decide (xs = ys))) ∧ Below w.heap.size w w' := by
  have HR := Lib.hid R
  have HS := Lib.hid S
  have hmx : m ≤ maxLen := by have := R.le; have := R.mx; omega
  unfold maxLen at hmx
  by_cases hl : m = n
  · subst hl
    have HM := Lib.hid hm
    have HN := Lib.hid hn
    clear R S hm hn
    go_enter Tryd.func12, Tryd.ntmps12
    go_wp2
    go_loopw [5] (fun i wr => ∃ k : Nat, k ≤ m ∧ i = .int .i64 k ∧ Hid (Below w.heap.size w wr ∧ ∀ j, j < k → xs.getD j r0 = ys.getD j r0)) (fun i _ => m - (intOf i).toNat)
    case atStart => exact ⟨0, Nat.zero_le _, rfl, Lib.hid ⟨b0 w, fun j hj => absurd hj (by omega)⟩⟩
    case round =>
      obtain ⟨k, hk, rfl, H⟩ := hrel
      by_cases hlt : (k : Int) < (m : Int)
      · obtain ⟨ad, rfl, c0, c1, c2⟩ := (HR.out.keep H.out.1).rd k (by have := HM.out; omega)
        obtain ⟨ad2, rfl, e0, e1, e2⟩ := (HS.out.keep H.out.1).rd k (by have := HN.out; omega)
        have hq := fun W => neq_rw (xs.getD k r0) (ys.getD k r0) W
        have hk0 : (0 : Int) ≤ (k : Int) := by omega
        by_cases hv : xs.getD k r0 = ys.getD k r0
        · have HY := Lib.hid (show ∀ j, j < k + 1 → xs.getD j r0 = ys.getD j r0 from fun j hj => if h : j < k then H.out.2 j h else by rw [show j = k by omega]; exact hv)
          rw [decide_eq_true hv] at hq
          clear hv
          generalize xs.getD k r0 = a at *
          generalize ys.getD k r0 = b at *
          go_wp2
          go_quiet (fail)
          have HB := Lib.hid (And.intro (bdrew H.out.1 nq) HY.out)
          clear HY H c0 c1 c2 e0 e1 e2
          generalize wr.drewN nq = W at *
          go_wp2
          go_roundw
          case rel => exact ⟨k + 1, by omega, by go_num, HB⟩
          case measure => simp [intOf]; omega
        · have HY := Lib.hid (show decide (xs = ys) = false from decide_eq_false (fun e => hv (by rw [e])))
          rw [decide_eq_false hv] at hq
          clear hv
          generalize xs.getD k r0 = a at *
          generalize ys.getD k r0 = b at *
          go_wp2
          go_quiet (fail)
          have HB := Lib.hid (bdrew H.out.1 nq)
          clear H c0 c1 c2 e0 e1 e2
          generalize wr.drewN nq = W at *
          go_wp2
          go_ret
          rw [HY.out]
          exact ⟨rfl, HB.out⟩
      · obtain rfl : k = m := by omega
        have HY := Lib.hid (show decide (xs = ys) = true from decide_eq_true (rows_ext (HM.out.trans HN.out.symm) (by rw [HM.out]; exact H.out.2)))
        go_wp2
        go_ret
        rw [HY.out]
        exact ⟨rfl, H.out.1⟩
  · have HY := Lib.hid (show decide (xs = ys) = false from decide_eq_false (fun e => hl (by rw [← hm, ← hn, e])))
    have q : ((m : Int) != (n : Int)) = true := by simp; omega
    clear hm hn hl R S
    go_enter Tryd.func12, Tryd.ntmps12
    go_wp2
    go_ret
    rw [HY.out]
    exact ⟨rfl, b0 w⟩
theorem int_neq (a b : Int) : (a != b) = !decide (a = b) := by by_cases h : a = b <;> simp [h]
/-- Rows without their numbers. -/
def kern (l : List Rw) : List (Int × Bs) := l.map fun x => (x.dp, x.tx)
theorem kern_get {xs : List Rw} {j : Nat} (h : j < xs.length) : (kern xs)[j]? = some ((xs.getD j r0).dp, (xs.getD j r0).tx) := by simp [kern, h]
theorem kern_ext {xs ys : List Rw} (hl : xs.length = ys.length) (h : ∀ j, j < xs.length → (xs.getD j r0).dp = (ys.getD j r0).dp ∧ (xs.getD j r0).tx = (ys.getD j r0).tx) : kern xs = kern ys := by
  apply List.ext_getElem?
  intro i
  by_cases hi : i < xs.length
  · rw [kern_get hi, kern_get (by omega), (h i hi).1, (h i hi).2]
  · rw [List.getElem?_eq_none (by simp [kern]; omega), List.getElem?_eq_none (by simp [kern]; omega)]
set_option maxRecDepth 100000 in
set_option maxHeartbeats 4000000 in
theorem RAlike_any {A B : Option Addr} {c d m n : Nat} {xs ys : List Rw} {w : World} (R : RR w A c xs) (S : RR w B d ys) (hm : xs.length = m) (hn : ys.length = n) : Calls Tryd.prog 19 #[.slice A m c, .slice B n d] w fun e w' => e = .returned (.bool (decide (kern xs = kern ys))) ∧ Below w.heap.size w w' := by
  have HR := Lib.hid R
  have HS := Lib.hid S
  have hmx : m ≤ maxLen := by have := R.le; have := R.mx; omega
  unfold maxLen at hmx
  by_cases hl : m = n
  · subst hl
    have HM := Lib.hid hm
    have HN := Lib.hid hn
    clear R S hm hn
    go_enter Tryd.func19, Tryd.ntmps19
    go_wp2
    go_loopw [5] (fun i wr => ∃ k : Nat, k ≤ m ∧ i = .int .i64 k ∧ Hid (Below w.heap.size w wr ∧ ∀ j, j < k → (xs.getD j r0).dp = (ys.getD j r0).dp ∧ (xs.getD j r0).tx = (ys.getD j r0).tx)) (fun i _ => m - (intOf i).toNat)
    case atStart => exact ⟨0, Nat.zero_le _, rfl, Lib.hid ⟨b0 w, fun j hj => absurd hj (by omega)⟩⟩
    case round =>
      obtain ⟨k, hk, rfl, H⟩ := hrel
      by_cases hlt : (k : Int) < (m : Int)
      · obtain ⟨ad, rfl, c0, c1, c2⟩ := (HR.out.keep H.out.1).rd k (by have := HM.out; omega)
        obtain ⟨ad2, rfl, e0, e1, e2⟩ := (HS.out.keep H.out.1).rd k (by have := HN.out; omega)
        have hk0 : (0 : Int) ≤ (k : Int) := by omega
        have hbad : ¬ ((xs.getD k r0).dp = (ys.getD k r0).dp ∧ (xs.getD k r0).tx = (ys.getD k r0).tx) → decide (kern xs = kern ys) = false := fun h => decide_eq_false (fun e => h (by
          have e1 := kern_get (xs := xs) (j := k) (by have := HM.out; omega)
          rw [e, kern_get (by have := HN.out; omega)] at e1
          injection e1 with e1
          injection e1 with e1 e2
          exact ⟨e1.symm, e2.symm⟩))
        have HX := Lib.hid hbad
        clear hbad
        have qd : ((xs.getD k r0).dp != (ys.getD k r0).dp) = !decide ((xs.getD k r0).dp = (ys.getD k r0).dp) := int_neq _ _
        have qt := eqS (xs.getD k r0).tx (ys.getD k r0).tx
        by_cases hv : (xs.getD k r0).dp = (ys.getD k r0).dp
        · rw [decide_eq_true hv] at qd
          by_cases ht : (xs.getD k r0).tx = (ys.getD k r0).tx
          · rw [decide_eq_true ht] at qt
            have HY := Lib.hid (show ∀ j, j < k + 1 → (xs.getD j r0).dp = (ys.getD j r0).dp ∧ (xs.getD j r0).tx = (ys.getD j r0).tx from fun j hj => if h : j < k then H.out.2 j h else by rw [show j = k by omega]; exact ⟨hv, ht⟩)
            clear hv ht HX
            generalize xs.getD k r0 = a at *
            generalize ys.getD k r0 = b at *
            obtain ⟨n1, d1, t1⟩ := a
            obtain ⟨n2, d2, t2⟩ := b
            dsimp only at *
            generalize strOf t1 = s1 at *
            generalize strOf t2 = s2 at *
            go_wp2
            go_quiet (fail)
            have HB := Lib.hid (And.intro (bdrew H.out.1 nq) HY.out)
            clear HY H c0 c1 c2 e0 e1 e2
            generalize wr.drewN nq = W at *
            go_wp2
            go_roundw
            case rel => exact ⟨k + 1, by omega, by go_num, HB⟩
            case measure => simp [intOf]; omega
          · rw [decide_eq_false ht] at qt
            have HY := Lib.hid (HX.out (fun h => ht h.2))
            clear hv ht HX
            generalize xs.getD k r0 = a at *
            generalize ys.getD k r0 = b at *
            obtain ⟨n1, d1, t1⟩ := a
            obtain ⟨n2, d2, t2⟩ := b
            dsimp only at *
            generalize strOf t1 = s1 at *
            generalize strOf t2 = s2 at *
            go_wp2
            go_quiet (fail)
            have HB := Lib.hid (bdrew H.out.1 nq)
            clear H c0 c1 c2 e0 e1 e2
            generalize wr.drewN nq = W at *
            go_wp2
            go_ret
            rw [HY.out]
            exact ⟨rfl, HB.out⟩
        · rw [decide_eq_false hv] at qd
          have HY := Lib.hid (HX.out (fun h => hv h.1))
          clear hv HX qt
          generalize xs.getD k r0 = a at *
          generalize ys.getD k r0 = b at *
          obtain ⟨n1, d1, t1⟩ := a
          obtain ⟨n2, d2, t2⟩ := b
          dsimp only at *
          generalize strOf t1 = s1 at *
          generalize strOf t2 = s2 at *
          go_wp2
          go_quiet (fail)
          have HB := Lib.hid (bdrew H.out.1 nq)
          clear H c0 c1 c2 e0 e1 e2
          generalize wr.drewN nq = W at *
          go_wp2
          go_ret
          rw [HY.out]
          exact ⟨rfl, HB.out⟩
      · obtain rfl : k = m := by omega
        have HY := Lib.hid (show decide (kern xs = kern ys) = true from decide_eq_true (kern_ext (HM.out.trans HN.out.symm) (by rw [HM.out]; exact H.out.2)))
        go_wp2
        go_ret
        rw [HY.out]
        exact ⟨rfl, H.out.1⟩
  · have HY := Lib.hid (show decide (kern xs = kern ys) = false from decide_eq_false (fun e => hl (by rw [← hm, ← hn]; have := congrArg List.length e; simpa [kern] using this)))
    have q : ((m : Int) != (n : Int)) = true := by simp; omega
    clear hm hn hl R S
    go_enter Tryd.func19, Tryd.ntmps19
    go_wp2
    go_ret
    rw [HY.out]
    exact ⟨rfl, b0 w⟩
end Go.Proofs.YtkhmpmjonkmbeaaDoor
