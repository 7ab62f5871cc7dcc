/- TypesText: its walk. -/
import Derived.Test.YtbkbhlbfkfnljaaGreatDoorM10
import Derived.Test.YtbkbhlbfkfnljaaGreatDoorM18
set_option linter.unusedVariables false
set_option linter.unusedSimpArgs false
set_option linter.unusedVariables false
set_option linter.unusedSimpArgs false
namespace Go.Proofs.YtbkbhlbfkfnljaaGreatDoor
open Go Go.RowKit L8 L9

/-- What a list of tokens takes at most, a space in front of each. -/
def spn (l : List Tk) : Nat := (l.map fun t => (one t).length + 1).sum
theorem spn_app (a b : List Tk) : spn (a ++ b) = spn a + spn b := by unfold spn; simp
theorem behind_le : ∀ (r : List Tk) (a : Tk), (behind a r).length ≤ spn r
  | [], a => by simp [behind, spn]
  | b :: r, a => by
    have := behind_le r b
    unfold behind
    rw [List.length_append, show spn (b :: r) = (one b).length + 1 + spn r by simp [spn]]
    split <;> simp <;> omega
theorem textT_le (l : List Tk) : (textT l).length ≤ spn l := by
  cases l with
  | nil => simp [textT, spn]
  | cons a r =>
    have := behind_le r a
    rw [textT, List.length_append, show spn (a :: r) = (one a).length + 1 + spn r by simp [spn]]
    omega
theorem spn_le {l : List Tk} {n : Nat} (h : ∀ x ∈ l, (one x).length ≤ n) : spn l ≤ l.length * (n + 1) := by
  induction l with
  | nil => simp [spn]
  | cons a r ih =>
    have h1 := h a (List.mem_cons_self ..)
    have h2 := ih fun x hx => h x (List.mem_cons_of_mem _ hx)
    rw [show spn (a :: r) = (one a).length + 1 + spn r by simp [spn], List.length_cons, Nat.succ_mul]
    omega
theorem one_core {t : Ty} (h : mayT t = true) : ∀ x ∈ coreT t, (one x).length ≤ 32 := by
  have hk : ∀ s : Bs, s.length ≤ 32 → (one (kw s)).length ≤ 32 := fun s hs => by
    have : one (kw s) = s := rfl
    rw [this]; exact hs
  have hn : ∀ s : Bs, s.length ≤ 32 → (one (nm s)).length ≤ 32 := fun s hs => by
    have : one (nm s) = s := rfl
    rw [this]; exact hs
  have hw : ∀ k, (wd k).length ≤ 32 := fun k => by unfold wd; split <;> (try split) <;> decide
  intro x hx
  unfold coreT at hx
  split at hx
  · rw [List.mem_singleton.1 hx]; exact hk _ (by decide)
  · split at hx
    · rename_i hk5 hk4
      simp only [List.mem_cons, List.not_mem_nil, or_false] at hx
      rcases hx with rfl | rfl | rfl
      · exact hk _ (by decide)
      · exact hk _ (by decide)
      · split
        · exact hk _ (hw _)
        · rename_i hp
          refine hn _ ?_
          obtain ⟨_, hways⟩ := may_ways h
          rcases hways with ⟨g, e⟩ | ⟨g, e⟩ | ⟨g, e⟩ | e
          · exact absurd (by rw [e]) hp
          · exact absurd (by rw [e]) hp
          · unfold isName at g
            simp only [Bool.and_eq_true, decide_eq_true_eq] at g
            omega
          · exact absurd (by rw [e]; rfl) hp
    · rw [List.mem_singleton.1 hx]; exact hk _ (hw _)
theorem text_tok {t : Ty} (h : mayT t = true) : (textT (tokT t)).length ≤ 256 := by
  have hd := (may_ways h).1
  refine Nat.le_trans (textT_le _) ?_
  unfold tokT
  rw [spn_app]
  have h1 := spn_le (one_core h)
  have h2 : (coreT t).length ≤ 3 := by unfold coreT; split <;> (try split) <;> simp
  have h3 : spn (dimT t.d) ≤ 65 := by
    unfold dimT
    split
    · have hm := dim_may hd (nb t.d) (by unfold dimT; rw [if_pos (by assumption)]; simp)
      have hl := one_le hm.1 (may_okx9 hm.1 hm.2)
      have e1 : (one (sy [91])).length = 1 := rfl
      have e2 : (one (sy [93])).length = 1 := rfl
      show ([sy [91], nb t.d, sy [93]].map fun t => (one t).length + 1).sum ≤ 65
      simp only [List.map_cons, List.map_nil, List.sum_cons, List.sum_nil, e1, e2]
      omega
    · simp [spn]
  have h4 : (coreT t).length * 33 ≤ 3 * 33 := Nat.mul_le_mul_right _ h2
  omega
theorem frontR_put {t : Ty} (h : mayT t = true) : frontR (put 0 (tokT t)) = (t, (tokT t).length, 0) := by
  unfold frontR
  rw [front_of h (by rw [pre_kern _ _ _ (kern_put 0 (tokT t))]; have := pre_self (tokT t) []; rwa [List.append_nil] at this)]
/-- The state of the law. -/
def X9 (w X : World) (t : Ty) : Prop := Below w.heap.size w X ∧ T9 X ∧ W1.Tab X ∧ BoxS X w.heap.size 24 (tyC t)
theorem X9.step {w X Y : World} {t : Ty} (h : X9 w X t) (b : Below X.heap.size X Y) : X9 w Y t := ⟨blw h.1 b, h.2.1.below b, h.2.2.1.below b, h.2.2.2.below b⟩
theorem X9.bel {w X : World} {t : Ty} (h : X9 w X t) : Below w.heap.size w X := h.1
theorem X9.t9 {w X : World} {t : Ty} (h : X9 w X t) : T9 X := h.2.1
theorem X9.tab {w X : World} {t : Ty} (h : X9 w X t) : W1.Tab X := h.2.2.1
theorem X9.cells {w X : World} {t : Ty} (h : X9 w X t) : X.cell? ⟨w.heap.size, 0, none⟩ = some (.int .u8 (t.k : Int)) ∧ X.cell? ⟨w.heap.size, 1, none⟩ = some (.int .i64 t.d) ∧ X.cell? ⟨w.heap.size, 2, none⟩ = some (.int .u8 (t.i : Int)) ∧ X.cell? ⟨w.heap.size, 3, none⟩ = some (.string (strOf t.p)) := (box4T h.2.2.2).1
set_option maxRecDepth 100000 in
set_option maxHeartbeats 16000000 in
theorem walkTypesText (a0 : Ty) (okt0 : OKt a0) (w : World) (ht : T9 w) (hT : W1.Tab w) :
    Calls Tryz.prog 3 #[tyV a0] w fun e w' => e = .returned (.bool true) ∧ Below w.heap.size w w' := by
  have H0 : Hid (X9 w (w.alloc (.cells (tyC a0) 24)) a0) := Lib.hid ⟨bal (b0 w) _, ht.below (bal (b0 w) _), hT.below (bal (b0 w) _), boxS_new w _ _⟩
  have CH := Lib.hid (fun (W : World) (h : T9 W) => head_any W h)
  have C0 := Lib.hid (fun (W : World) (h : T9 W) => PMay_any a0 okt0 W h)
  have C1 : Hid (∀ (W : World), T9 W → Calls Tryz.prog 4 #[tyV a0] W fun e w' => ∃ A c, e = .returned (.tuple #[.slice A (tokensT a0).1.length c, .int .i64 (tokensT a0).2]) ∧ RR w' A c (tokensT a0).1 ∧ Below W.heap.size W w') := Lib.hid fun W h => (PTok_any a0 okt0 W h).mono fun e w' ⟨A, c, h, o, b⟩ => ⟨A, c, h, o.rr okl_tokT, b⟩
  clear ht hT
  cases hm : mayT a0 with
  | false =>
    have hte : tokensT a0 = ([], 2) := by unfold tokensT; rw [hm]; rfl
    rw [hte] at C1
    rw [hm] at C0
    have HC := Lib.hid (fun (X : World) (h : X9 w X a0) => h.cells)
    clear hm hte okt0
    dsimp only [tyV, tyC, List.length_nil] at *
    generalize strOf a0.p = S at *
    go_enter Tryz.func3, Tryz.ntmps3
    go_wp2_with (first
      | (go_at_call 4; (with_reducible refine (C1.out _ H0.out.t9).mono ?_); rintro e v1 ⟨A1, c1, rfl, r, b⟩; have H1 := Lib.hid (H0.out.step b); clear b r; obtain ⟨x0, x1, x2, x3⟩ := HC.out _ H1.out)
      | (go_at_call 5; (with_reducible refine (C0.out _ H1.out.t9).mono ?_); rintro e v2 ⟨rfl, b⟩; have H2 := Lib.hid (H1.out.step b); clear b)
      | (go_at_call 6; (with_reducible refine (CH.out _ H2.out.t9).mono ?_); rintro e v3 ⟨rfl, b⟩; have H3 := Lib.hid (H2.out.step b); clear b))
    go_ret
    exact ⟨rfl, H3.out.bel⟩
  | true =>
    have hte : tokensT a0 = (tokT a0, 0) := by unfold tokensT; rw [hm]; rfl
    rw [hte] at C1
    obtain ⟨n, hn⟩ : ∃ n, (tokT a0).length = n := ⟨_, rfl⟩
    dsimp only at C1
    rw [hn] at C1
    have hmn := tok_may hm
    have h256 := text_tok hm
    have htx := text_ok (all_may hmn) h256
    have hb2 : tokens (textT (tokT a0)) = (put 0 (tokT a0), 0, 0) := tokens_ok (by omega) (toks_back hmn)
    have hl2 := put_len 0 (tokT a0)
    rw [hn] at hl2
    have hfr := frontR_put hm
    have hok2 := okl_at hb2
    have C2 : Hid (∀ (X : World) (A : Option Addr) (c : Nat), RR X A c (tokT a0) → W1.Tab X → Calls Tryz.prog 7 #[.slice A n c] X fun e w' => e = .returned (.tuple #[.string (strOf (textT (tokT a0))), .int .i64 0]) ∧ Below X.heap.size X w') := Lib.hid fun X A c R h => Text_at R hn h htx
    have C3 : Hid (∀ (X : World), W1.Tab X → Calls Tryz.prog 8 #[.string (strOf (textT (tokT a0)))] X fun en w' => ∃ A2 c2, en = .returned (.tuple #[.slice A2 n c2, .int .i64 0, .int .i64 0]) ∧ RR w' A2 c2 (put 0 (tokT a0)) ∧ Below X.heap.size X w') := Lib.hid fun X h => by
      have := Tokens_at (by unfold maxLen; omega) X h hb2
      rw [hl2] at this
      exact this.mono fun e w' ⟨A2, c2, h1, h2, h3⟩ => ⟨A2, c2, h1, h2.rr hok2, h3⟩
    have C4 : Hid (∀ (X : World) (A : Option Addr) (c : Nat), RR X A c (put 0 (tokT a0)) → T9 X → Calls Tryz.prog 9 #[.slice A n c] X fun e w' => e = .returned (.tuple #[tyV a0, .int .i64 (n : Int), .int .i64 0]) ∧ Below X.heap.size X w') := Lib.hid fun X A c R h => by
      have := PFront_any R hl2 h
      unfold GivesFr at this
      rw [hfr] at this
      dsimp only at this
      rwa [hn] at this
    have hq := fun W => eq_ty a0 a0 W
    rw [decide_eq_true rfl] at hq
    have HC := Lib.hid (fun (X : World) (h : X9 w X a0) => h.cells)
    have hn0 : (0 : Int) ≤ (n : Int) := by omega
    have q1 : ((n : Int) != (n : Int)) = false := by simp
    have q2 : ((n : Int) == (n : Int)) = true := by simp
    clear hm hte hmn h256 htx hb2 hl2 hfr hok2 hn okt0 C0
    generalize put 0 (tokT a0) = L2 at *
    generalize strOf (textT (tokT a0)) = Z at *
    dsimp only [tyV, tyC] at *
    generalize tokT a0 = L at *
    generalize strOf a0.p = S at *
    go_enter Tryz.func3, Tryz.ntmps3
    go_wp2_with (first
      | (go_at_call 4; (with_reducible refine (C1.out _ H0.out.t9).mono ?_); rintro e v1 ⟨A1, c1, rfl, r, b⟩; have H1 := Lib.hid (And.intro (H0.out.step b) r); clear b r)
      | (go_at_call 7; (with_reducible refine (C2.out _ _ _ H1.out.2 H1.out.1.tab).mono ?_); rintro e v2 ⟨rfl, b⟩; have H2 := Lib.hid (H1.out.1.step b); clear b)
      | (go_at_call 8; (with_reducible refine (C3.out _ H2.out.tab).mono ?_); rintro e v3 ⟨A2, c2, rfl, r, b⟩; have H3 := Lib.hid (And.intro (H2.out.step b) r); clear b r)
      | (go_at_call 9; (with_reducible refine (C4.out _ _ _ H3.out.2 H3.out.1.t9).mono ?_); rintro e v4 ⟨rfl, b⟩; have H4 := Lib.hid ((H3.out.1.step b).step (bal (b0 _) (.cells #[.int .u8 (a0.k : Int), .int .i64 a0.d, .int .u8 (a0.i : Int), .string S] 24))); clear b; obtain ⟨x0, x1, x2, x3⟩ := HC.out _ H4.out)
      | (go_at_call 6; (with_reducible refine (CH.out _ H4.out.t9).mono ?_); rintro e v5 ⟨rfl, b⟩; have H5 := Lib.hid (H4.out.step b); clear b))
    go_ret
    exact ⟨rfl, H5.out.bel⟩
end Go.Proofs.YtbkbhlbfkfnljaaGreatDoor
