/- LayoutAgain: its walk. -/
import Derived.Test.YtkhmpmjonkmbeaaDoorLwa
import Derived.Test.YtkhmpmjonkmbeaaDoorPrc
set_option linter.unusedVariables false
set_option linter.unusedSimpArgs false
namespace Go.Proofs.YtkhmpmjonkmbeaaDoor
open Go Go.RowKit L7

theorem renum_len (l : List Rw) (i : Nat) : (renum l i).length = l.length := by
  induction l generalizing i with
  | nil => rfl
  | cons x l ih => simp [renum, ih]
theorem kern_renum (l : List Rw) (i : Nat) : kern (renum l i) = kern l := by
  induction l generalizing i with
  | nil => rfl
  | cons x l ih =>
    have := ih (i + 1)
    unfold kern at this ⊢
    simp only [renum, List.map_cons, this]
theorem okl_renum {l : List Rw} (h : OKL l) (i : Nat) : OKL (renum l i) := by
  induction l generalizing i with
  | nil => exact OKL.nil
  | cons x l ih =>
    intro y hy
    rcases List.mem_cons.1 hy with rfl | hy
    · exact h x (List.mem_cons_self ..)
    · exact ih (fun z hz => h z (List.mem_cons_of_mem _ hz)) (i + 1) y hy
set_option maxRecDepth 100000 in
set_option maxHeartbeats 8000000 in
theorem walkLayoutAgain (a0 : ByteArray) (w0 : a0.size ≤ maxLen) (w : World) (hm : MaxIs w) :
    Calls Tryd.prog 6 #[.string a0] w fun e w' => e = .returned (.bool true) ∧ Below w.heap.size w w' := by
  obtain ⟨l, rfl⟩ : ∃ l : Bs, a0 = strOf l := ⟨_, str_self a0⟩
  have hz := size_strOf l
  rw [hz] at w0
  obtain ⟨t, ht⟩ : ∃ t, l.take 3000 = t := ⟨_, rfl⟩
  have htl : t.length ≤ 3000 := by rw [← ht]; simp; omega
  have hcut : ∀ W : World, (Instr.slice 9 (.string (strOf l)) none (some (.int .i64 (min (l.length : Int) 3000))) none).run Tryd.prog W = .ok (.string (strOf t)) W := fun W => by
    by_cases h3 : l.length ≤ 3000
    · have e : min (l.length : Int) 3000 = (l.length : Int) := by omega
      rw [e, cut_to l l.length (Nat.le_refl _) W, ← ht, List.take_length, List.take_of_length_le h3]
    · have e : min (l.length : Int) 3000 = ((3000 : Nat) : Int) := by omega
      rw [e, cut_to l 3000 (by omega) W, ht]
  have CN := Lib.hid (fun (W : World) => cCount t W)
  have CP := Lib.hid (Rows_any t (by unfold maxLen; omega) w hm)
  have CW := Lib.hid (fun (W : World) (h : MaxIs W) => works_any W h)
  unfold GivesR at CP
  have HS := Lib.hid (rows_small t)
  have HL := lns_len t
  obtain ⟨rs, n, er, hr⟩ : ∃ rs n er, rows t = (rs, n, er) := ⟨_, _, _, rfl⟩
  rw [hr] at CP HS
  obtain ⟨N, hN⟩ : ∃ N, (lnsOf t).length = N := ⟨_, rfl⟩
  have ha := rows_again (by omega) hr
  rw [hN] at CN HL ha
  have hN2 : (N : Int) ≤ 3001 := by omega
  have hN3 : (0 : Int) ≤ (N : Int) := by omega
  rcases ha with ⟨rfl, rfl, hmay, hsz, hno⟩ | ⟨he, rfl, h1, h2⟩
  · obtain ⟨hs1, hs2⟩ := again_back (by omega) hr
    have hsl : (srcOf rs).length ≤ maxLen := by
      have h4 : (srcOf rs).length ≤ 65536 := by
        by_cases h5 : (srcOf rs).length ≤ 65536
        · exact h5
        · unfold source at hs1
          rw [if_pos hmay, if_neg h5] at hs1
          exact absurd (show (3 : Int) = 0 from congrArg Prod.snd hs1) (by decide)
      unfold maxLen; omega
    have CM := Lib.hid (fun (W : World) (h : MaxIs W) (A : Option Addr) (c : Nat) (R : RR W A c rs) => show Calls Tryd.prog 17 #[.slice A rs.length c] W fun e w' => e = .returned (.bool true) ∧ Below W.heap.size W w' from (by
      have := May_any R rfl h
      rw [hmay] at this
      exact this))
    have CS := Lib.hid (fun (W : World) (h : MaxIs W) (A : Option Addr) (c : Nat) (R : RR W A c rs) => show Calls Tryd.prog 15 #[.slice A rs.length c] W fun e w' => e = .returned (.tuple #[.string (strOf (srcOf rs)), .int .i64 0]) ∧ Below W.heap.size W w' from (by
      have := Source_any R rfl h
      rw [hs1] at this
      exact this))
    have CB := Lib.hid (fun (W : World) (h : MaxIs W) => show Calls Tryd.prog 10 #[.string (strOf (srcOf rs))] W fun en w' => ∃ A c, en = .returned (.tuple #[.slice A rs.length c, .int .i64 0, .int .i64 0]) ∧ RR w' A c (renum rs 1) ∧ Below W.heap.size W w' from ((rows_at hsl W h hs2).mono (by
      rintro e w' ⟨A, c, h1, h2, h3⟩
      rw [renum_len] at h1 h2
      exact ⟨A, c, h1, h2.rr (okl_renum HS.out 1), h3⟩)))
    have CE := Lib.hid (fun (W : World) (A B : Option Addr) (c d : Nat) (R : RR W A c (renum rs 1)) (S : RR W B d rs) => show Calls Tryd.prog 19 #[.slice A rs.length c, .slice B rs.length d] W fun e w' => e = .returned (.bool true) ∧ Below W.heap.size W w' from (by
      have := RAlike_any R S (renum_len rs 1) rfl
      rw [decide_eq_true (kern_renum rs 1)] at this
      exact this))
    by_cases h0 : rs.length = 0
    · have HZ := Lib.hid h0
      have q0 : ¬ ((0 : Int) < ((rs.length : Nat) : Int)) := by omega
      clear ht htl hr hN hmay hsz hno hs1 hs2 hsl h0 HL
      dsimp only at *
      generalize rs.length = k at *
      go_enter Tryd.func6, Tryd.ntmps6
      go_wp2_with (first
        | (go_at_call 20; refine (CN.out _).mono ?_; rintro e w9 ⟨rfl, rfl⟩)
        | (go_at_call 10; (with_reducible refine (CP.out).mono ?_); rintro e w1 ⟨A, c, rfl, h1, h2⟩; have H1 := Lib.hid (And.intro h2 (And.intro (hm.below h2) (h1.rr HS.out))); clear h1 h2)
        | (go_at_call 17; refine (CM.out _ H1.out.2.1 _ _ H1.out.2.2).mono ?_; rintro e w2 ⟨rfl, b2⟩; have H2 := Lib.hid (And.intro (blw H1.out.1 b2) (And.intro (H1.out.2.1.below b2) (H1.out.2.2.keep b2))); clear b2)
        | (go_at_call 15; refine (CS.out _ H2.out.2.1 _ _ H2.out.2.2).mono ?_; rintro e w3 ⟨rfl, b3⟩; have H3 := Lib.hid (And.intro (blw H2.out.1 b3) (And.intro (H2.out.2.1.below b3) (H2.out.2.2.keep b3))); clear b3)
        | (go_at_call 10; refine (CB.out _ H3.out.2.1).mono ?_; rintro e w4 ⟨A4, c4, rfl, r4, b4⟩; have H4 := Lib.hid (And.intro (blw H3.out.1 b4) (And.intro (H3.out.2.1.below b4) (And.intro (H3.out.2.2.keep b4) r4))); clear b4 r4)
        | (go_at_call 19; refine (CE.out _ _ _ _ _ H4.out.2.2.2 H4.out.2.2.1).mono ?_; rintro e w5 ⟨rfl, b5⟩; have H5 := Lib.hid (And.intro (blw H4.out.1 b5) (H4.out.2.1.below b5)); clear b5)
        | (go_at_call 13; refine (CW.out _ H5.out.2).mono ?_; rintro e w6 ⟨rfl, b6⟩; have H6 := Lib.hid (blw H5.out.1 b6); clear b6))
      go_ret
      exact ⟨rfl, H6.out⟩
    · have q0 : (0 : Int) < ((rs.length : Nat) : Int) := by omega
      have hx := hno _ (getD_mem (rs := rs) (j := rs.length - 1) (by omega))
      obtain ⟨k, hk⟩ : ∃ k, rs.length = k := ⟨_, rfl⟩
      have HLn := Lib.hid hk
      dsimp only at CP
      rw [hk] at CP CM CS CB CE q0 hx h0
      have e1 : ((k - 1 : Nat) : Int) = (k : Int) - 1 := by omega
      have e2 : ((k : Int) - 1).toNat = k - 1 := by omega
      have q1 : (0 : Int) ≤ (k : Int) - 1 := by omega
      obtain ⟨x, hxx⟩ : ∃ x, rs.getD (k - 1) r0 = x := ⟨_, rfl⟩
      rw [hxx] at hx
      have hx2 : x.no ≤ (N : Int) - 1 + 1 := by omega
      have q3 : ¬ ((N : Int) < x.no) := by omega
      have q4 : ¬ ((N : Int) - 1 + 1 < x.no) := by omega
      have HLx := Lib.hid hxx
      have hk2 : (k : Int) ≤ 2048 := by have h := hmay; unfold may at h; simp only [Bool.and_eq_true, decide_eq_true_eq] at h; omega
      clear ht htl hr hN hmay hsz hno hs1 hs2 hsl HL hk hxx
      go_enter Tryd.func6, Tryd.ntmps6
      go_wp2_with (first
        | (go_at_call 20; refine (CN.out _).mono ?_; rintro e w9 ⟨rfl, rfl⟩)
        | (go_at_call 10; (with_reducible refine (CP.out).mono ?_); rintro e w1 ⟨A, c, rfl, h1, h2⟩; have H1 := Lib.hid (And.intro h2 (And.intro (hm.below h2) (h1.rr HS.out))); clear h1 h2; obtain ⟨ad, rfl, g0, _, _⟩ := H1.out.2.2.rd (k - 1) (by rw [HLn.out]; omega); rw [HLx.out] at g0)
        | (go_at_call 17; refine (CM.out _ H1.out.2.1 _ _ H1.out.2.2).mono ?_; rintro e w2 ⟨rfl, b2⟩; have H2 := Lib.hid (And.intro (blw H1.out.1 b2) (And.intro (H1.out.2.1.below b2) (H1.out.2.2.keep b2))); have g1 := (b2.cell (g_lt g0)).trans g0; clear b2)
        | (go_at_call 15; refine (CS.out _ H2.out.2.1 _ _ H2.out.2.2).mono ?_; rintro e w3 ⟨rfl, b3⟩; have H3 := Lib.hid (And.intro (blw H2.out.1 b3) (And.intro (H2.out.2.1.below b3) (H2.out.2.2.keep b3))); clear b3)
        | (go_at_call 10; refine (CB.out _ H3.out.2.1).mono ?_; rintro e w4 ⟨A4, c4, rfl, r4, b4⟩; have H4 := Lib.hid (And.intro (blw H3.out.1 b4) (And.intro (H3.out.2.1.below b4) (And.intro (H3.out.2.2.keep b4) r4))); clear b4 r4)
        | (go_at_call 19; refine (CE.out _ _ _ _ _ H4.out.2.2.2 H4.out.2.2.1).mono ?_; rintro e w5 ⟨rfl, b5⟩; have H5 := Lib.hid (And.intro (blw H4.out.1 b5) (H4.out.2.1.below b5)); clear b5)
        | (go_at_call 13; refine (CW.out _ H5.out.2).mono ?_; rintro e w6 ⟨rfl, b6⟩; have H6 := Lib.hid (blw H5.out.1 b6); clear b6))
      go_ret
      exact ⟨rfl, H6.out⟩
  · have CP2 : Hid (Calls Tryd.prog 10 #[.string (strOf t)] w fun e w' => ∃ A c, e = .returned (.tuple #[.slice A 0 c, .int .i64 n, .int .i64 er]) ∧ Below w.heap.size w w') := Lib.hid (CP.out.mono (by rintro e w' ⟨A, c, h1, _, h3⟩; exact ⟨A, c, h1, h3⟩))
    have q1 : (1 : Int) ≤ n := h1
    have q2 : n ≤ (N : Int) := h2
    have q3 : n ≤ (N : Int) - 1 + 1 := by omega
    clear ht htl hr hN HL CP h1 h2 HS
    rcases he with rfl | rfl | rfl
    all_goals (
      go_enter Tryd.func6, Tryd.ntmps6
      go_wp2_with (first
        | (go_at_call 20; refine (CN.out _).mono ?_; rintro e w9 ⟨rfl, rfl⟩)
        | (go_at_call 10; (with_reducible refine (CP2.out).mono ?_); rintro e w1 ⟨A, c, rfl, h2⟩; have H1 := Lib.hid (And.intro h2 (hm.below h2)); clear h2)
        | (go_at_call 13; refine (CW.out _ H1.out.2).mono ?_; rintro e w6 ⟨rfl, b6⟩; have H6 := Lib.hid (blw H1.out.1 b6); clear b6))
      go_ret
      exact ⟨rfl, H6.out⟩)
end Go.Proofs.YtkhmpmjonkmbeaaDoor
