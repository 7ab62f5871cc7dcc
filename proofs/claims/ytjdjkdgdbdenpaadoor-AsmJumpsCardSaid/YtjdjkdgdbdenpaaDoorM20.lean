/- The reference's sums of lengths, and equality of lists. -/
import Derived.Deep.QuietTactic
import Derived.BigQuiet
import Derived.IntWalk
import Derived.Deep.RegionHeld3
import Derived.Test.YtjdjkdgdbdenpaaDoorM18
set_option linter.unusedVariables false
set_option linter.unusedSimpArgs false
namespace Go.Proofs.YtjdjkdgdbdenpaaDoor
open Go Go.RowKit

theorem b_drewN {w W : World} (h : Below w.heap.size w W) (n : Nat) : Below w.heap.size w (W.drewN n) := bdrew h n
theorem decide_int {a b : Nat} : ((a : Int) != (b : Int)) = !decide (a = b) := by
  by_cases h : a = b
  · subst h; simp
  · rw [decide_eq_false h]; simp; omega
set_option maxRecDepth 100000 in
set_option maxHeartbeats 2000000 in
theorem Raddress_any {A : Option Addr} {c m i : Nat} {ns : List Nat} {w : World} (R : RN w A c ns) (hm : ns.length = m) (hi : i ≤ m) (h1 : i ≤ 1000) (hb : ∀ j, ns.getD j 0 ≤ 1000) : Calls Tryd.prog 25 #[.slice A m c, .int .i64 (i : Int)] w fun e w' => e = .returned (.int .i64 (adr ns i : Nat)) ∧ w = w' := by
  have HR := Lib.hid R
  have HM := Lib.hid hm
  have HB := Lib.hid hb
  clear R hm hb
  have hadr : ∀ k, k ≤ 1000 → adr ns k ≤ 1000000 := fun k hk => Nat.le_trans (adr_le HB.out k) (by omega)
  have HA := Lib.hid hadr
  clear hadr
  go_enter Tryd.func25, Tryd.ntmps25
  go_wp2
  go_loop [5, 6] (fun n j => ∃ k S : Nat, k ≤ i ∧ j = .int .i64 k ∧ n = .int .i64 S ∧ S ≤ 1000000 ∧ Hid (S = adr ns k)) (fun _ j => i - (intOf j).toNat)
  case atStart => exact ⟨0, 0, Nat.zero_le _, rfl, rfl, by omega, Lib.hid rfl⟩
  case round =>
    obtain ⟨k, S, hk, rfl, rfl, hS, H⟩ := hrel
    by_cases hlt : (k : Int) < (i : Int)
    · obtain ⟨ad, rfl, c0⟩ := HR.out.rd k (by have := HM.out; omega)
      have h2 := HB.out k
      have HS := Lib.hid (show S + ns.getD k 0 = adr ns (k + 1) by rw [adr_succ, H.out])
      have HL := Lib.hid (show adr ns (k + 1) ≤ 1000000 from HA.out _ (by omega))
      generalize ns.getD k 0 = v at *
      have q1 : (k : Int) < (m : Int) := by omega
      go_wp2
      go_round
      case rel => exact ⟨k + 1, S + v, by omega, by go_num, by go_num, by rw [HS.out]; exact HL.out, HS⟩
      case measure => simp [intOf]; omega
    · obtain rfl : k = i := by omega
      go_wp2
      go_ret
      rw [H.out]
      exact ⟨rfl, rfl⟩
theorem getD_ext {xs ys : List Nat} (hl : xs.length = ys.length) (h : ∀ j, j < xs.length → xs.getD j 0 = ys.getD j 0) : xs = ys := by
  apply List.ext_getElem hl
  intro i h1 h2
  have := h i h1
  simpa [h1, h2] using this
set_option maxRecDepth 100000 in
set_option maxHeartbeats 2000000 in
theorem RSameInts_any {A B : Option Addr} {c d m n : Nat} {xs ys : List Nat} {w : World} (R : RN w A c xs) (S : RN w B d ys) (hm : xs.length = m) (hn : ys.length = n) : Calls Tryd.prog 9 #[.slice A m c, .slice B n d] w fun e w' => e = .returned (.bool (decide (xs = ys))) ∧ Below w.heap.size w w' := by
  have HR := Lib.hid R
  have HS := Lib.hid S
  have hmx : m ≤ maxLen := by have := R.le; have := R.mx; omega
  unfold maxLen at hmx
  by_cases hl : m = n
  · subst hl
    have HM := Lib.hid hm
    have HN := Lib.hid hn
    clear R S hm hn
    go_enter Tryd.func9, Tryd.ntmps9
    go_wp2
    go_loopw [5] (fun i wr => ∃ k : Nat, k ≤ m ∧ i = .int .i64 k ∧ Hid (Below w.heap.size w wr ∧ ∀ j, j < k → xs.getD j 0 = ys.getD j 0)) (fun i _ => m - (intOf i).toNat)
    case atStart => exact ⟨0, Nat.zero_le _, rfl, Lib.hid ⟨b0 w, fun j hj => absurd hj (by omega)⟩⟩
    case round =>
      obtain ⟨k, hk, rfl, H⟩ := hrel
      by_cases hlt : (k : Int) < (m : Int)
      · obtain ⟨ad, rfl, c0⟩ := (HR.out.keep H.out.1).rd k (by have := HM.out; omega)
        obtain ⟨ad2, rfl, c1⟩ := (HS.out.keep H.out.1).rd k (by have := HN.out; omega)
        have hq := decide_int (a := xs.getD k 0) (b := ys.getD k 0)
        have hkl : k < xs.length := by have := HM.out; omega
        have hk0 : (0 : Int) ≤ (k : Int) := by omega
        by_cases hv : xs.getD k 0 = ys.getD k 0
        · have HY := Lib.hid (show ∀ j, j < k + 1 → xs.getD j 0 = ys.getD j 0 from fun j hj => if h : j < k then H.out.2 j h else by rw [show j = k by omega]; exact hv)
          rw [decide_eq_true hv] at hq
          clear hv hkl
          generalize xs.getD k 0 = a at *
          generalize ys.getD k 0 = b at *
          go_wp2
          go_quiet (fail)
          have HB := Lib.hid (And.intro (b_drewN H.out.1 nq) HY.out)
          clear HY H c0 c1
          generalize wr.drewN nq = W at *
          go_wp2
          go_roundw
          case rel => exact ⟨k + 1, by omega, by go_num, HB⟩
          case measure => simp [intOf]; omega
        · have HY := Lib.hid (show decide (xs = ys) = false from decide_eq_false (fun e => hv (by rw [e])))
          rw [decide_eq_false hv] at hq
          clear hv hkl
          generalize xs.getD k 0 = a at *
          generalize ys.getD k 0 = b at *
          go_wp2
          go_quiet (fail)
          have HB := Lib.hid (b_drewN H.out.1 nq)
          clear H c0 c1
          generalize wr.drewN nq = W at *
          go_wp2
          go_ret
          rw [HY.out]
          exact ⟨rfl, HB.out⟩
      · obtain rfl : k = m := by omega
        have HY := Lib.hid (show decide (xs = ys) = true from decide_eq_true (getD_ext (HM.out.trans HN.out.symm) (by rw [HM.out]; exact H.out.2)))
        go_wp2
        go_ret
        rw [HY.out]
        exact ⟨rfl, H.out.1⟩
  · have HY := Lib.hid (show decide (xs = ys) = false from decide_eq_false (fun e => hl (by rw [← hm, ← hn, e])))
    have q : ((m : Int) != (n : Int)) = true := by simp; omega
    clear hm hn hl R S
    go_enter Tryd.func9, Tryd.ntmps9
    go_wp2
    go_ret
    rw [HY.out]
    exact ⟨rfl, b0 w⟩
/-! ### Lists of lines -/
theorem eq_ln (x y : Ln) (w : World) : (Op.equalIn 10000 39 (lnV x) (lnV y)).run Tryd.prog w = .ok (decide (x = y)) w := by
  have u9 := Tryd.underlying9
  have a9 := Tryd.isAgg9
  have z9 := Tryd.sizeOf9
  have u5 := Tryd.underlying5
  have a5 := Tryd.isAgg5
  have z5 := Tryd.sizeOf5
  have u21 := Tryd.underlying21
  have a21 := Tryd.isAgg21
  have z21 := Tryd.sizeOf21
  have hS : Tryd.prog.underlying 39 = some (.struct (Tryd.prog.fieldsOf 39)) := by kernel_rfl
  have hp : Tryd.prog.stoodInHeld 39 = false := by kernel_rfl
  have e1 := eqS x.lab y.lab
  have e2 := eqS x.tgt y.tgt
  have e3 := eqS x.fr y.fr
  have hf : decide (x = y) = (decide (x.lab = y.lab) && (((x.fn : Int) == (y.fn : Int)) && ((x.arg == y.arg) && (decide (x.tgt = y.tgt) && decide (x.fr = y.fr))))) := by
    have h1 : ((x.fn : Int) == (y.fn : Int)) = decide (x.fn = y.fn) := by
      by_cases h : x.fn = y.fn
      · rw [h]; simp
      · rw [decide_eq_false h]; simp; omega
    have h2 : (x.arg == y.arg) = decide (x.arg = y.arg) := by by_cases h : x.arg = y.arg <;> simp [h]
    rw [h1, h2, ← Bool.decide_and, ← Bool.decide_and, ← Bool.decide_and, ← Bool.decide_and]
    cases x; cases y
    simp
  rw [hf]
  clear hf
  rw [show (10000 : Nat) = 9999 + 1 from rfl, run_equalIn_agg w 9999 39 _ _ hS hp]
  simp only [Program.fieldsOf, Tryd.underlying39]
  generalize decide (x.lab = y.lab) = q1 at *
  generalize decide (x.tgt = y.tgt) = q2 at *
  generalize decide (x.fr = y.fr) = q3 at *
  generalize hq4 : ((x.fn : Int) == (y.fn : Int)) = q4
  generalize hq5 : (x.arg == y.arg) = q5
  go_simp
  cases q1 <;> cases q2 <;> cases q3 <;> cases q4 <;> cases q5 <;> simp_all
theorem neq_ln (x y : Ln) (w : World) : (binOp .neq 39 (lnV x) (lnV y)).run Tryd.prog w = .ok (.bool (!decide (x = y))) w := by
  rw [run_neq_struct, eq_ln]; rfl
end Go.Proofs.YtjdjkdgdbdenpaaDoor
/- The reference's equality of lists of lines, and operands. -/
namespace Go.Proofs.YtjdjkdgdbdenpaaDoor
open Go Go.RowKit

theorem lines_ext {xs ys : List Ln} (hl : xs.length = ys.length) (h : ∀ j, j < xs.length → xs.getD j l0 = ys.getD j l0) : xs = ys := by
  apply List.ext_getElem hl
  intro i h1 h2
  have := h i h1
  simpa [h1, h2] using this
set_option maxRecDepth 100000 in
set_option maxHeartbeats 4000000 in
theorem RSame_any {A B : Option Addr} {c d m n : Nat} {xs ys : List Ln} {w : World} (R : RL w A c xs) (S : RL w B d ys) (hm : xs.length = m) (hn : ys.length = n) : Calls Tryd.prog 20 #[.slice A m c, .slice B n d] w fun e w' => e = .returned (.bool (decide (xs = ys))) ∧ Below w.heap.size w w' := by
  have HR := Lib.hid R
  have HS := Lib.hid S
  have hmx : m ≤ maxLen := by have := R.le; have := R.mx; omega
  unfold maxLen at hmx
  by_cases hl : m = n
  · subst hl
    have HM := Lib.hid hm
    have HN := Lib.hid hn
    clear R S hm hn
    go_enter Tryd.func20, Tryd.ntmps20
    go_wp2
    go_loopw [5] (fun i wr => ∃ k : Nat, k ≤ m ∧ i = .int .i64 k ∧ Hid (Below w.heap.size w wr ∧ ∀ j, j < k → xs.getD j l0 = ys.getD j l0)) (fun i _ => m - (intOf i).toNat)
    case atStart => exact ⟨0, Nat.zero_le _, rfl, Lib.hid ⟨b0 w, fun j hj => absurd hj (by omega)⟩⟩
    case round =>
      obtain ⟨k, hk, rfl, H⟩ := hrel
      by_cases hlt : (k : Int) < (m : Int)
      · obtain ⟨ad, rfl, c0, c1, c2, c3, c4⟩ := (HR.out.keep H.out.1).rd k (by have := HM.out; omega)
        obtain ⟨ad2, rfl, e0, e1, e2, e3, e4⟩ := (HS.out.keep H.out.1).rd k (by have := HN.out; omega)
        have hq := fun W => neq_ln (xs.getD k l0) (ys.getD k l0) W
        have hk0 : (0 : Int) ≤ (k : Int) := by omega
        by_cases hv : xs.getD k l0 = ys.getD k l0
        · have HY := Lib.hid (show ∀ j, j < k + 1 → xs.getD j l0 = ys.getD j l0 from fun j hj => if h : j < k then H.out.2 j h else by rw [show j = k by omega]; exact hv)
          rw [decide_eq_true hv] at hq
          clear hv
          generalize xs.getD k l0 = a at *
          generalize ys.getD k l0 = b at *
          go_wp2
          go_quiet (fail)
          have HB := Lib.hid (And.intro (b_drewN H.out.1 nq) HY.out)
          clear HY H c0 c1 c2 c3 c4 e0 e1 e2 e3 e4
          generalize wr.drewN nq = W at *
          go_wp2
          go_roundw
          case rel => exact ⟨k + 1, by omega, by go_num, HB⟩
          case measure => simp [intOf]; omega
        · have HY := Lib.hid (show decide (xs = ys) = false from decide_eq_false (fun e => hv (by rw [e])))
          rw [decide_eq_false hv] at hq
          clear hv
          generalize xs.getD k l0 = a at *
          generalize ys.getD k l0 = b at *
          go_wp2
          go_quiet (fail)
          have HB := Lib.hid (b_drewN H.out.1 nq)
          clear H c0 c1 c2 c3 c4 e0 e1 e2 e3 e4
          generalize wr.drewN nq = W at *
          go_wp2
          go_ret
          rw [HY.out]
          exact ⟨rfl, HB.out⟩
      · obtain rfl : k = m := by omega
        have HY := Lib.hid (show decide (xs = ys) = true from decide_eq_true (lines_ext (HM.out.trans HN.out.symm) (by rw [HM.out]; exact H.out.2)))
        go_wp2
        go_ret
        rw [HY.out]
        exact ⟨rfl, H.out.1⟩
  · have HY := Lib.hid (show decide (xs = ys) = false from decide_eq_false (fun e => hl (by rw [← hm, ← hn, e])))
    have q : ((m : Int) != (n : Int)) = true := by simp; omega
    clear hm hn hl R S
    go_enter Tryd.func20, Tryd.ntmps20
    go_wp2
    go_ret
    rw [HY.out]
    exact ⟨rfl, b0 w⟩
theorem pos_hit {ls : List Ln} {n : Bs} {k : Nat} (h : fnd ls n = some k) : pos ls n = k ∧ atI ls n = (k : Int) ∧ k < ls.length := by
  refine ⟨by unfold pos; rw [h]; rfl, atI_hit h, (fnd_some h).1⟩
theorem ne_of_false {n : Bs} (h : n.isEmpty = false) : (!(strOf n).toList.isEmpty) = true := by rw [strOf_empty, h]; rfl
set_option maxRecDepth 100000 in
set_option maxHeartbeats 4000000 in
theorem ROperand_any {A A' : Option Addr} {c c' m i : Nat} {ls : List Ln} {ns : List Nat} {w : World} (R : RL w A c ls) (S : RN w A' c' ns) (hm : ls.length = m) (hn : ns.length = m) (hi : i < m) (h1 : m ≤ 1000) (hb : ∀ j, ns.getD j 0 ≤ 1000)
    (ht : (ls.getD i l0).tgt.isEmpty = false → ∃ k, fnd ls (ls.getD i l0).tgt = some k) (hf : (ls.getD i l0).fr.isEmpty = false → ∃ k, fnd ls (ls.getD i l0).fr = some k) :
    Calls Tryd.prog 15 #[.slice A m c, .slice A' m c', .int .i64 (i : Int)] w fun e w' => e = .returned (.int .i32 (opd ls ns i)) ∧ Below w.heap.size w w' := by
  have HR := Lib.hid R
  have HS := Lib.hid S
  have HM := Lib.hid hm
  have HN := Lib.hid hn
  have HB := Lib.hid hb
  have CA := Lib.hid (fun (n : Bs) (W : World) (b : Below w.heap.size w W) => RAt_any n (R.keep b) hm)
  have CD := Lib.hid (fun (j : Nat) (hj : j ≤ m) (W : World) (b : Below w.heap.size w W) => Raddress_any (S.keep b) hn hj (by omega) hb)
  have hA : ∀ k, k ≤ m → adr ns k ≤ 1000000 := fun k hk => Nat.le_trans (adr_le hb k) (by omega)
  have k3 := strOf_empty (ls.getD i l0).tgt
  have k4 := strOf_empty (ls.getD i l0).fr
  obtain ⟨ad, rfl, c0, c1, c2, c3, c4⟩ := R.rd i (by omega)
  have hi0 : (0 : Int) ≤ (i : Int) := by omega
  cases hte : (ls.getD i l0).tgt.isEmpty with
  | true =>
    rw [hte] at k3
    have HO := Lib.hid (show opd ls ns i = (ls.getD i l0).arg by unfold opd; rw [if_pos hte])
    clear R S hm hn hb ht hf hA hte
    generalize ls.getD i l0 = x at *
    go_enter Tryd.func15, Tryd.ntmps15
    go_wp2
    go_ret
    rw [HO.out]
    exact ⟨rfl, bal (b0 w) _⟩
  | false =>
    rw [hte] at k3
    obtain ⟨kt, hkt⟩ := ht hte
    obtain ⟨p1, p2, p3⟩ := pos_hit hkt
    have CT := Lib.hid (fun (W : World) (b : Below w.heap.size w W) => CA.out (ls.getD i l0).tgt W b)
    rw [p2] at CT
    have CDT := Lib.hid (fun (W : World) (b : Below w.heap.size w W) => CD.out kt (by omega) W b)
    have CDI := Lib.hid (fun (W : World) (b : Below w.heap.size w W) => CD.out i (by omega) W b)
    obtain ⟨ad', rfl, d0⟩ := S.rd i (by omega)
    have a1 := hA kt (by omega)
    have a2 := hA i (by omega)
    have a3 := hA (i + 1) (by omega)
    have HI := Lib.hid (adr_succ ns i)
    have hv := hb i
    have g1 := bcell (bal (b0 w) (.cells #[.string (strOf (ls.getD i l0).lab), .int .u8 ((ls.getD i l0).fn : Int), .int .i32 (ls.getD i l0).arg, .string (strOf (ls.getD i l0).tgt), .string (strOf (ls.getD i l0).fr)] 39))
    have BX := Lib.hid (bal (b0 w) (.cells #[.string (strOf (ls.getD i l0).lab), .int .u8 ((ls.getD i l0).fn : Int), .int .i32 (ls.getD i l0).arg, .string (strOf (ls.getD i l0).tgt), .string (strOf (ls.getD i l0).fr)] 39))
    have d0' := (BX.out.cell (g_lt d0)).trans d0
    clear g1
    cases hfe : (ls.getD i l0).fr.isEmpty with
    | true =>
      rw [hfe] at k4
      have HO := Lib.hid (show opd ls ns i = (adr ns kt : Int) - (adr ns (i + 1) : Int) by unfold opd toL fromL; rw [if_neg (by rw [hte]; decide), if_pos hfe, p1])
      have hT := Lib.hid (show IntKind.i64.wrap ((adr ns i : Int) + (ns.getD i 0 : Int)) = (adr ns (i + 1) : Int) by rw [IntWalk.i64_in _ (by omega), HI.out]; simp)
      have hU := Lib.hid (show IntKind.i32.wrap ((adr ns kt : Int) - (adr ns (i + 1) : Int)) = (adr ns kt : Int) - (adr ns (i + 1) : Int) by rw [IntKind.wrap_i32]; omega)
      have q1 : (i : Int) < (m : Int) := by omega
      clear R S hm hn hb ht hf hA hte hfe hkt p1 p2 p3 hv d0 HI CA CD
      generalize ls.getD i l0 = x at *
      generalize ns.getD i 0 = v at *
      generalize adr ns kt = S1 at *
      generalize adr ns i = S2 at *
      generalize adr ns (i + 1) = S3 at *
      go_enter Tryd.func15, Tryd.ntmps15
      go_wp2
      have hT' := hT.out
      go_quiet ((go_at_call 25; exact Calls.quiet_of_same ((CDI.out _ (bdrew BX.out _)).mono fun _ _ ⟨he, hw⟩ => ⟨he, hw.symm⟩)))
      clear hT'
      go_wp2_with (first
        | (go_at_call 13; ((with_reducible refine (CT.out _ (bdrew BX.out _)).mono ?_); rintro e w1 ⟨rfl, rfl⟩))
        | (go_at_call 25; ((with_reducible refine (CDT.out _ (bdrew BX.out _)).mono ?_); rintro e w1 ⟨rfl, rfl⟩)))
      go_ret
      rw [HO.out]
      exact ⟨rfl, bdrew BX.out _⟩
    | false =>
      rw [hfe] at k4
      obtain ⟨kf, hkf⟩ := hf hfe
      obtain ⟨r1, r2, r3⟩ := pos_hit hkf
      have CF := Lib.hid (fun (W : World) (b : Below w.heap.size w W) => CA.out (ls.getD i l0).fr W b)
      rw [r2] at CF
      have CDF := Lib.hid (fun (W : World) (b : Below w.heap.size w W) => CD.out kf (by omega) W b)
      have a4 := hA kf (by omega)
      have HO := Lib.hid (show opd ls ns i = (adr ns kt : Int) - (adr ns kf : Int) by unfold opd toL fromL; rw [if_neg (by rw [hte]; decide), if_neg (by rw [hfe]; decide), p1, r1])
      have hT := Lib.hid (show IntKind.i64.wrap ((adr ns i : Int) + (ns.getD i 0 : Int)) = (adr ns i : Int) + (ns.getD i 0 : Int) by rw [IntWalk.i64_in _ (by omega)])
      have hU := Lib.hid (show IntKind.i32.wrap ((adr ns kt : Int) - (adr ns kf : Int)) = (adr ns kt : Int) - (adr ns kf : Int) by rw [IntKind.wrap_i32]; omega)
      have q1 : (i : Int) < (m : Int) := by omega
      have HTF := Lib.hid (show kt = kf ∨ ¬ kt = kf by omega)
      clear R S hm hn hb ht hf hA hte hfe hkt hkf p1 p2 p3 r1 r2 r3 hv d0 HI CA CD a3
      generalize ls.getD i l0 = x at *
      generalize ns.getD i 0 = v at *
      generalize adr ns kt = S1 at *
      generalize adr ns kf = S3 at *
      generalize adr ns i = S2 at *
      go_enter Tryd.func15, Tryd.ntmps15
      go_wp2
      have hT' := hT.out
      go_quiet ((go_at_call 25; exact Calls.quiet_of_same ((CDI.out _ (bdrew BX.out _)).mono fun _ _ ⟨he, hw⟩ => ⟨he, hw.symm⟩)))
      clear hT'
      go_wp2_with (first
        | (go_at_call 13; ((with_reducible refine (CT.out _ (bdrew BX.out _)).mono ?_); rintro e w1 ⟨rfl, rfl⟩))
        | (go_at_call 13; ((with_reducible refine (CF.out _ (bdrew BX.out _)).mono ?_); rintro e w1 ⟨rfl, rfl⟩))
        | (go_at_call 25; ((with_reducible refine (CDT.out _ (bdrew BX.out _)).mono ?_); rintro e w1 ⟨rfl, rfl⟩))
        | (go_at_call 25; ((with_reducible refine (CDF.out _ (bdrew BX.out _)).mono ?_); rintro e w1 ⟨rfl, rfl⟩)))
      go_ret
      rw [HO.out]
      exact ⟨rfl, bdrew BX.out _⟩
end Go.Proofs.YtjdjkdgdbdenpaaDoor
/- What the reference computes that lines need. -/
namespace Go.Proofs.YtjdjkdgdbdenpaaDoor
open Go Go.RowKit

theorem need_snoc (ls : List Ln) (ns : List Nat) {k : Nat} (hk : k < ls.length) : (need ls ns).take (k + 1) = (need ls ns).take k ++ [nd1 ls ns k] := by
  have h : k < (need ls ns).length := by rw [need_len]; exact hk
  rw [List.take_succ_eq_append_getElem h]
  have e := need_at ls ns hk
  simp only [List.getD_eq_getElem?_getD, List.getElem?_eq_getElem h, Option.getD_some] at e
  rw [e]
/-- New numbers were made. -/
def GivesN (w : World) (ns : List Nat) (e : Ending) (w' : World) : Prop := ∃ A c, e = .returned (.slice A ns.length c) ∧ OwnN w' w.heap.size A ns.length c ns ∧ Below w.heap.size w w'
theorem cell_new0 {w : World} {v : Value} {t : TypeId} {k : Nat} (h : k = w.heap.size) : (w.alloc (.cells #[v] t)).cell? ⟨k, 0, none⟩ = some v := by
  subst h
  exact ((boxS_new w t #[v]).cell 0).trans rfl
/-- The labels of the lines are those of lines. -/
def Refs (ls : List Ln) : Prop := ∀ i, i < ls.length → ((ls.getD i l0).tgt.isEmpty = false → ∃ k, fnd ls (ls.getD i l0).tgt = some k) ∧ ((ls.getD i l0).fr.isEmpty = false → ∃ k, fnd ls (ls.getD i l0).fr = some k)
set_option maxRecDepth 100000 in
set_option maxHeartbeats 4000000 in
theorem RNeed_any {A A' : Option Addr} {c c' m : Nat} {ls : List Ln} {ns : List Nat} {w : World} (R : RL w A c ls) (S : RN w A' c' ns) (hm : ls.length = m) (hn : ns.length = m) (h1 : m ≤ 1000) (hb : ∀ j, ns.getD j 0 ≤ 1000) (hr : Refs ls)
    (hw : ∀ i, i < m → isW (opd ls ns i)) : Calls Tryd.prog 10 #[.slice A m c, .slice A' m c'] w (GivesN w (need ls ns)) := by
  have HR := Lib.hid R
  have HM := Lib.hid hm
  have CO := Lib.hid (fun (i : Nat) (hi : i < m) (W : World) (b : Below w.heap.size w W) => ROperand_any (R.keep b) (S.keep b) hm hn hi h1 hb (hr i (by omega)).1 (hr i (by omega)).2)
  have CL := Lib.hid (fun (f i : Nat) (hi : i < m) (W : World) => C4.rLen_any f (hw i hi) W)
  have HL := Lib.hid (need_len ls ns)
  unfold GivesN
  clear R S hm hn hb hr hw
  go_enter Tryd.func10, Tryd.ntmps10
  go_wp2
  go_loopw [5, 6] (fun b i wr => ∃ k : Nat, k ≤ m ∧ i = .int .i64 k ∧ ∃ A1 c1, b = .slice A1 k c1 ∧ Hid (Below w.heap.size w wr ∧ OwnN wr w.heap.size A1 k c1 ((need ls ns).take k))) (fun _ i _ => m - (intOf i).toNat)
  case atStart => exact ⟨0, Nat.zero_le _, rfl, _, _, rfl, Lib.hid ⟨b0 w, ownN_nil _ _⟩⟩
  case round =>
    obtain ⟨k, hk, rfl, A1, c1, rfl, H⟩ := hrel
    by_cases hlt : (k : Int) < (m : Int)
    · obtain ⟨ad, rfl, _, f0, _⟩ := HR.out.rd k (by have := HM.out; omega)
      have F0 := Lib.hid f0
      have f1 := (H.out.1.cell (g_lt f0)).trans f0
      clear f0
      have C1 := Lib.hid (CO.out k (by omega) wr.drew (bdrew H.out.1 1))
      have C2 := Lib.hid (CL.out (ls.getD k l0).fn k (by omega))
      have HS := Lib.hid (need_snoc ls ns (k := k) (by have := HM.out; omega))
      unfold nd1 at HS
      have hk0 : (0 : Int) ≤ (k : Int) := by omega
      have hk1 : k ≤ 1000 := by omega
      generalize (ls.getD k l0).fn = f at *
      generalize opd ls ns k = v at *
      generalize C4.ln f v = L at *
      go_wp2_with fail
      go_region_held3 (fun w' => w'.cell? ⟨(ad.add (k * 5)).block, (ad.add (k * 5)).off + 1, none⟩ = some (.int .u8 (f : Int)))
        (first | (exact f1) | (exact f2) | (exact f3) | (exact f4) | go_keep)
        (first
          | (go_at_call 15; (with_reducible refine C1.out.mono ?_); rintro e w1 ⟨rfl, b1⟩; have f2 := (b1.cell (g_lt f1)).trans f1; have B1 := Lib.hid (blw (bdrew H.out.1 1) b1); have O1 := Lib.hid (own_keepB (show wr.drew.ownsRow _ _ _ _ _ _ from H.out.2) b1); clear b1)
          | (go_at_call 23; (with_reducible refine (C2.out _).mono ?_); rintro e w2 ⟨rfl, g2⟩; have b2 := C4.g_below0 g2; have f3 := (b2.cell (g_lt f2)).trans f2; have B2 := Lib.hid (blw B1.out b2); have O2 := Lib.hid (own_keepB O1.out b2); clear b2 g2)
          | (refine step_num rfl (.tmp 13) (.tmp 25) rfl w.heap.size k c1 1 L w2.heap.size A1 ((need ls ns).take k) rfl rfl (own_keepB O2.out (bal (b0 w2) _)) (cell_new0 rfl) (by omega) (bal B2.out _).size ?_; intro A3 c3 w3 o3 g3; have H3 := Lib.hid (And.intro (bgrow (bal B2.out _) (own_keepB O2.out (bal (b0 w2) _)) (Nat.le_refl _) g3) o3); have f4 := (H3.out.1.cell (g_lt F0.out)).trans F0.out; clear o3 g3))
      all_goals go_wp2
      all_goals
        rw [← HS.out] at H3
        go_roundw
        case rel => exact ⟨k + 1, by omega, by go_num, _, _, rfl, H3⟩
        case measure => simp [intOf]; omega
    · obtain rfl : k = m := by omega
      have ht : (need ls ns).take k = need ls ns := List.take_of_length_le (by rw [HL.out, HM.out]; exact Nat.le_refl _)
      rw [ht] at H
      have HK := Lib.hid (HL.out.trans HM.out)
      clear ht
      go_wp2
      go_ret
      rw [HK.out]
      exact ⟨_, _, rfl, H.out.2, H.out.1⟩
end Go.Proofs.YtjdjkdgdbdenpaaDoor
