/- The reference: the variant's items lie where the protocol's lay. -/
import Derived.Test.YtbkbhlbfkfnljaaDoorRtc
set_option linter.unusedVariables false
set_option linter.unusedSimpArgs false
namespace Go.Proofs.YtbkbhlbfkfnljaaDoor
open Go Go.RowKit L8 L9

/-- What Find gives: items that could be read in an earlier world already. -/
def GivesF0 (W0 w : World) (r : List Nat × Nat × Bool) (e : Ending) (w' : World) : Prop := ∃ B d, e = .returned (.tuple #[.slice B r.1.length d, .int .i64 (r.2.1 : Int), .bool r.2.2]) ∧ KR W0 B d r.1 ∧ Below w.heap.size w w'
theorem vnr_from {W0 X : World} {A : Option Addr} {d : Nat} {vs : List Vr} (R : VnR W0 A d vs) (b : Below W0.heap.size W0 X) {k : Nat} (hk : k < vs.length) : ∃ ad, A = some ad ∧ ∃ B e m, (vs.getD k v0).it.length = m ∧ X.cell? (ad.add (k * 2)) = some (.string (strOf (vs.getD k v0).tag)) ∧ X.cell? ⟨(ad.add (k * 2)).block, (ad.add (k * 2)).off + 1, none⟩ = some (.slice B m e) ∧ KR W0 B e (vs.getD k v0).it := by
  obtain ⟨ad, h1, h2⟩ := R.rd k hk
  obtain ⟨B, e, m, hm, x0, x1, K⟩ := h2.parts
  exact ⟨ad, h1, B, e, m, hm, (b.cell (g_lt x0)).trans x0, (b.cell (g_lt x1)).trans x1, K⟩
set_option maxRecDepth 100000 in
set_option maxHeartbeats 16000000 in
theorem RFind_from {c : Bool} {A : Option Addr} {n d : Nat} {vs : List Vr} {W0 w : World} (R0 : VnR W0 A d vs) (hb0 : Below W0.heap.size W0 w) (hn : vs.length = n) (tag : Bs) : Calls Tryd.prog 28 #[prV c A n d, .string (strOf tag)] w (GivesF0 W0 w (findR c vs tag)) := by
  have R := R0.keep hb0
  have HR0 := Lib.hid (And.intro R0 hb0)
  have HN := Lib.hid hn
  have hmx : n ≤ maxLen := by have := R.le; have := R.mx; omega
  unfold maxLen at hmx
  have HV := Lib.hid (PrS.new (c := c) (n := n) R)
  have CM : Hid (∀ X, PrS w X c A n d vs → Calls Tryd.prog 14 #[.agg #[.bool c, .slice A n d]] X fun e w' => e = .returned (.bool (mayP c vs)) ∧ Below X.heap.size X w') := Lib.hid fun X h => RMayP_any h.2.2 hn
  have HNone := Lib.hid (fun (h : ∀ j, j < n → (vs.getD j v0).tag ≠ tag) => findR_none (c := c) (vs := vs) (tag := tag) (by rw [hn]; exact h))
  have HNot := Lib.hid (fun (h : mayP c vs = false) => findR_not h tag)
  have HAt := Lib.hid (fun (k : Nat) (h : mayP c vs = true) (hk : k < n) (ht : (vs.getD k v0).tag = tag) (hn2 : ∀ j, j < k → (vs.getD j v0).tag ≠ tag) => findR_at h (by omega) ht hn2)
  have HGive : Hid (∀ X, PrS w X c A n d vs → GivesF0 W0 w ([], 0, false) (.returned (.tuple #[.slice none 0 0, .int .i64 0, .bool false])) X) := Lib.hid fun X h => ⟨none, 0, rfl, KR.nil W0, h.1⟩
  have hEq := Lib.hid (fun (j : Nat) => eqS (vs.getD j v0).tag tag)
  dsimp only [prV]
  clear R hn R0 hb0
  generalize hS : strOf tag = S at *
  clear hS
  generalize hG : findR c vs tag = G at *
  generalize hM : mayP c vs = M at *
  clear hG
  go_enter Tryd.func28, Tryd.ntmps28
  go_wp2
  generalize w.alloc (.cells #[.bool c, .slice A n d] 27) = V at *
  go_loopw [7] (fun i wr => ∃ k : Nat, k ≤ n ∧ i = .int .i64 k ∧ Hid (PrS w wr c A n d vs ∧ ∀ j, j < k → (vs.getD j v0).tag ≠ tag)) (fun i _ => n - (intOf i).toNat)
  case atStart => exact ⟨0, Nat.zero_le _, rfl, Lib.hid ⟨HV.out, fun j hj => absurd hj (by omega)⟩⟩
  case round =>
    obtain ⟨k, hk, rfl, H⟩ := hrel
    have hk0 : (0 : Int) ≤ (k : Int) := by omega
    obtain ⟨p0, p1⟩ := H.out.1.box
    have HP := Lib.hid H.out.1
    by_cases hlt : (k : Int) < (n : Int)
    · have HW := Lib.hid (fun (X : World) (h : PrS w X c A n d vs) => vnr_from HR0.out.1 (blw HR0.out.2 h.bel) (k := k) (by have := HN.out; omega))
      cases M with
      | false =>
        have HE := Lib.hid (HNot.out rfl)
        have C := Lib.hid (CM.out _ HP.out)
        clear H HW
        go_wp2_with (go_at_call 14; (with_reducible refine (C.out).mono ?_); rintro e w2 ⟨rfl, b⟩; have H2 := Lib.hid (HP.out.step b); clear b)
        go_ret3
        rw [HE.out]
        exact HGive.out _ H2.out
      | true =>
        have C := Lib.hid (CM.out _ HP.out)
        have qs := hEq.out k
        by_cases heq : (vs.getD k v0).tag = tag
        · have HE := Lib.hid (HAt.out k rfl (by omega) heq H.out.2)
          rw [decide_eq_true heq] at qs
          clear heq H
          generalize vs.getD k v0 = v at *
          generalize strOf v.tag = S2 at *
          go_wp2_with (go_at_call 14; (with_reducible refine (C.out).mono ?_); rintro e w2 ⟨rfl, b⟩; have H2 := Lib.hid (HP.out.step b); obtain ⟨p2, p3⟩ := H2.out.box; obtain ⟨ad, e1, B, e2, m, hm, x0, x1, K⟩ := HW.out _ H2.out; cases e1; have HK := Lib.hid (And.intro hm K); clear b hm K)
          go_ret3
          rw [HE.out]
          refine ⟨_, _, ?_, HK.out.2, H2.out.bel⟩
          dsimp only
          rw [HK.out.1]
          rfl
        · have HY := Lib.hid (show ∀ j, j < k + 1 → (vs.getD j v0).tag ≠ tag from fun j hj => if h : j < k then H.out.2 j h else by rw [show j = k by omega]; exact heq)
          rw [decide_eq_false heq] at qs
          clear heq H
          generalize vs.getD k v0 = v at *
          generalize strOf v.tag = S2 at *
          go_wp2_with (go_at_call 14; (with_reducible refine (C.out).mono ?_); rintro e w2 ⟨rfl, b⟩; have H2 := Lib.hid (And.intro (HP.out.step b) HY.out); obtain ⟨p2, p3⟩ := H2.out.1.box; obtain ⟨ad, e1, B, e2, m, hm, x0, x1, K⟩ := HW.out _ H2.out.1; cases e1; clear b hm K)
          go_roundw
          case rel => exact ⟨k + 1, by omega, by go_num, H2⟩
          case measure => simp [intOf]; omega
    · obtain rfl : k = n := by omega
      have HE := Lib.hid (HNone.out H.out.2)
      clear H
      go_wp2
      go_ret3
      rw [HE.out]
      exact HGive.out _ HP.out
end Go.Proofs.YtbkbhlbfkfnljaaDoor
