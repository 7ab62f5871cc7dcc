/- LayoutReads: its walk. -/
import Derived.Test.YtkhmpmjonkmbeaaDoorWrk
set_option linter.unusedVariables false
set_option linter.unusedSimpArgs false
namespace Go.Proofs.YtkhmpmjonkmbeaaDoor
open Go Go.RowKit L7

theorem allG_small {its : List L7.Item} : ∀ {op l r : List Rw}, allG (op, l) its = .ok r → (∀ y ∈ l, y.tx.length ≤ 256) → ∀ y ∈ r, y.tx.length ≤ 256 := by
  induction its with
  | nil =>
    intro op l r h hl
    rw [allG_nil] at h
    split at h
    · injection h with h; rw [← h]; exact hl
    · cases h
  | cons x its ih =>
    intro op l r h hl
    by_cases h1 : indOk (itL x) op l = true
    · by_cases h2 : conts (itL x).tx = true
      · rw [allG_ok (L7.step_go (s := (op, l)) h1 h2)] at h
        exact ih h hl
      · by_cases h3 : within (joinR (op ++ [itL x])) = true ∧ ¬ l.length = 2048
        · rw [allG_ok (L7.step_end (s := (op, l)) h1 (by simpa using h2) h3)] at h
          refine ih h (fun y hy => ?_)
          rcases List.mem_append.1 hy with hy | hy
          · exact hl y hy
          · rw [List.mem_singleton.1 hy]; exact (within_le h3.1).2
        · rw [allG_err (L7.step_long (s := (op, l)) h1 (by simpa using h2) h3)] at h
          cases h
    · rw [allG_err (L7.step_bad (s := (op, l)) (by simpa using h1))] at h
      cases h
theorem rows_small (s : Bs) : OKL (rows s).1 := by
  intro y hy
  unfold OKx maxLen
  by_cases h : 65536 < s.length
  · rw [rows_long h] at hy; cases hy
  · cases hb : badLine (lnsOf s) with
    | some k => rw [rows_bad (by omega) hb] at hy; cases hy
    | none =>
      rw [rows_all (by omega) hb rfl] at hy
      cases hA : allG ([], []) (itemsOf (lnsOf s) 1) with
      | error p => rw [hA] at hy; cases hy
      | ok r =>
        rw [hA] at hy
        have := allG_small hA (fun _ h => (by cases h)) y hy
        omega
set_option maxRecDepth 100000 in
set_option maxHeartbeats 4000000 in
theorem walkLayoutReads (a0 : ByteArray) (w0 : a0.size ≤ maxLen) (w : World) (hm : MaxIs w) :
    Calls Tryd.prog 3 #[.string a0] w fun e w' => e = .returned (.bool true) ∧ Below w.heap.size w w' := by
  obtain ⟨l, rfl⟩ : ∃ l : Bs, a0 = strOf l := ⟨_, str_self a0⟩
  have hz := size_strOf l
  rw [hz] at w0
  obtain ⟨t, ht⟩ : ∃ t, l.take 3000 = t := ⟨_, rfl⟩
  have htl : t.length ≤ 3000 := by rw [← ht]; simp; omega
  have hcut : ∀ W : World, (Instr.slice 9 (.string (strOf l)) none (some (.int .i64 (min (l.length : Int) 3000))) none).run Tryd.prog W = .ok (.string (strOf t)) W := fun W => by
    by_cases h3 : l.length ≤ 3000
    · have e : min (l.length : Int) 3000 = (l.length : Int) := by omega
      rw [e, cut_to l l.length (Nat.le_refl _) W, ← ht, List.take_length, List.take_of_length_le h3]
    · have e : min (l.length : Int) 3000 = ((3000 : Nat) : Int) := by omega
      rw [e, cut_to l 3000 (by omega) W, ht]
  have CP := Lib.hid (Rows_any t (by unfold maxLen; omega) w hm)
  have CR := Lib.hid (fun (W : World) => RRows_any t (by omega) W)
  have CW := Lib.hid (fun (W : World) (h : MaxIs W) => works_any W h)
  unfold GivesR at CP CR
  have HS := Lib.hid (rows_small t)
  clear ht htl
  generalize rows t = r at *
  obtain ⟨rs, n, er⟩ := r
  dsimp only at *
  have CE := Lib.hid (fun (W : World) (A B : Option Addr) (c d : Nat) (R : RR W A c rs) (S : RR W B d rs) => show Calls Tryd.prog 12 #[.slice A rs.length c, .slice B rs.length d] W fun e w' => e = .returned (.bool true) ∧ Below W.heap.size W w' from (by
    have := RSame_any R S rfl rfl
    rw [decide_eq_true (Eq.refl rs)] at this
    exact this))
  generalize rs.length = k at *
  have q1 : (n == n) = true := by simp
  have q2 : (er == er) = true := by simp
  go_enter Tryd.func3, Tryd.ntmps3
  go_wp2_with (first
    | (go_at_call 10; refine (CP.out).mono ?_; rintro e w1 ⟨A, c, rfl, h1, h2⟩; have H1 := Lib.hid (And.intro h2 (And.intro (hm.below h2) h1)); clear h1 h2)
    | (go_at_call 11; refine (CR.out _).mono ?_; rintro e w2 ⟨A2, c2, rfl, h1, h2⟩; have H2 := Lib.hid (And.intro (blw H1.out.1 h2) (And.intro (H1.out.2.1.below h2) (And.intro ((H1.out.2.2.keep h2).rr HS.out) (h1.rr HS.out)))); clear h1 h2)
    | (go_at_call 12; refine (CE.out _ _ _ _ _ H2.out.2.2.1 H2.out.2.2.2).mono ?_; rintro e w3 ⟨rfl, b3⟩; have H3 := Lib.hid (And.intro (blw H2.out.1 b3) (H2.out.2.1.below b3)); clear b3)
    | (go_at_call 13; refine (CW.out _ H3.out.2).mono ?_; rintro e w4 ⟨rfl, b4⟩; have H4 := Lib.hid (blw H3.out.1 b4); clear b4))
  go_ret
  exact ⟨rfl, H4.out⟩
end Go.Proofs.YtkhmpmjonkmbeaaDoor
